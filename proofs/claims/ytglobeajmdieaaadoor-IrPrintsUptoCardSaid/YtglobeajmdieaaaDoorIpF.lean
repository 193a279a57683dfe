/-
  Instructions and blocks as they lie; what is printed of them.
-/
import Derived.Test.YtglobeajmdieaaaDoorIpD
namespace Go.Proofs.YtglobeajmdieaaaDoor
open Go.RowKit
set_option linter.unusedVariables false
set_option linter.unusedSimpArgs false

theorem bytesX_below (w : World) (e : TypeId) (s : ByteArray) : Below w.heap.size w (Lib.bytesWorld w e s) :=
  ⟨by simp [Lib.bytesWorld, World.freeze, World.alloc, World.drew, -World.alloc_eq, -World.drew_eq], by simp [Lib.bytesWorld, World.freeze, World.alloc, World.drew, -World.alloc_eq, -World.drew_eq], by simp [Lib.bytesWorld, World.freeze, World.alloc, World.drew, -World.alloc_eq, -World.drew_eq], by rw [Lib.bytesWorld_size]; omega, fun j hj => Lib.bytesWorld_at_old w e s j hj⟩

structure BkD where
  list : List Int
  preds : List Int
  kind : Int
  arg : Int
  to_ : List Int
def Short (l : List Int) : Prop := l.length ≤ 1048576 ∧ ∀ x ∈ l, InR x
def BkD.ok (d : BkD) : Prop := Short d.list ∧ Short d.preds ∧ InR d.kind ∧ InR d.arg ∧ Short d.to_

/-- Instructions as they lie. -/
def RdI (B : Nat) (w : World) (v : Value) (l : List InD) : Prop := ∃ A c, v = .slice A l.length c ∧ l.length ≤ 1048576 ∧ (0 < l.length → ∃ b o ob, A = some ⟨b, o, none⟩ ∧ w.heap[b]? = some ob ∧ b < B ∧
  ∀ j d, l[j]? = some d → ∃ va, w.cell? ⟨b, o + j * 5, none⟩ = some (.int .i64 d.op) ∧ w.cell? ⟨b, o + j * 5 + 1, none⟩ = some (.int .i64 d.ty) ∧ w.cell? ⟨b, o + j * 5 + 2, none⟩ = some va ∧ w.cell? ⟨b, o + j * 5 + 3, none⟩ = some (.int .i64 d.n) ∧ w.cell? ⟨b, o + j * 5 + 4, none⟩ = some (.int .i64 d.tg) ∧ RdN B w va d.args)
theorem far_cell {w w' : World} {b k : Nat} {ob : Obj} {v : Value} (hb : w.heap[b]? = some ob) (hb' : w'.heap[b]? = some ob) (h : w.cell? ⟨b, k, none⟩ = some v) : w'.cell? ⟨b, k, none⟩ = some v :=
  (World.cell?_of_block (a := ⟨b, k, none⟩) (hb'.trans hb.symm)).trans h
theorem RdI.keep {B : Nat} {w w' : World} {v : Value} {l : List InD} (h : RdI B w v l) (hk : Below B w w') (ho : Lib.OthersKept 5 none w w') : RdI B w' v l := by
  obtain ⟨A, c, hv, hl, hr⟩ := h
  refine ⟨A, c, hv, hl, fun hp => ?_⟩
  obtain ⟨b, o, ob, hA, hb, hn, hc⟩ := hr hp
  have hb' := (hk.block b hn).trans hb
  refine ⟨b, o, ob, hA, hb', hn, fun j d hd => ?_⟩
  obtain ⟨va, h0, h1, h2, h3, h4, h5⟩ := hc j d hd
  exact ⟨va, far_cell hb hb' h0, far_cell hb hb' h1, far_cell hb hb' h2, far_cell hb hb' h3, far_cell hb hb' h4, h5.keep hk ho⟩
/-- Blocks as they lie. -/
def RdB (B : Nat) (w : World) (v : Value) (l : List BkD) : Prop := ∃ A c, v = .slice A l.length c ∧ l.length ≤ 1048576 ∧ (0 < l.length → ∃ b o ob, A = some ⟨b, o, none⟩ ∧ w.heap[b]? = some ob ∧ b < B ∧
  ∀ j d, l[j]? = some d → ∃ lv pv tv, w.cell? ⟨b, o + j * 5, none⟩ = some lv ∧ w.cell? ⟨b, o + j * 5 + 1, none⟩ = some pv ∧ w.cell? ⟨b, o + j * 5 + 2, none⟩ = some (.int .i64 d.kind) ∧ w.cell? ⟨b, o + j * 5 + 3, none⟩ = some (.int .i64 d.arg) ∧ w.cell? ⟨b, o + j * 5 + 4, none⟩ = some tv ∧ RdN B w lv d.list ∧ RdN B w pv d.preds ∧ RdN B w tv d.to_)
theorem RdB.keep {B : Nat} {w w' : World} {v : Value} {l : List BkD} (h : RdB B w v l) (hk : Below B w w') (ho : Lib.OthersKept 5 none w w') : RdB B w' v l := by
  obtain ⟨A, c, hv, hl, hr⟩ := h
  refine ⟨A, c, hv, hl, fun hp => ?_⟩
  obtain ⟨b, o, ob, hA, hb, hn, hc⟩ := hr hp
  have hb' := (hk.block b hn).trans hb
  refine ⟨b, o, ob, hA, hb', hn, fun j d hd => ?_⟩
  obtain ⟨lv, pv, tv, h0, h1, h2, h3, h4, h5, h6, h7⟩ := hc j d hd
  exact ⟨lv, pv, tv, far_cell hb hb' h0, far_cell hb hb' h1, far_cell hb hb' h2, far_cell hb hb' h3, far_cell hb hb' h4, h5.keep hk ho, h6.keep hk ho, h7.keep hk ho⟩

/-- One number of a block's list: its instruction, if there is one. -/
def lineP (is : List InD) (id : Int) : List UInt8 := if 0 ≤ id ∧ id < is.length then (match is[id.toNat]? with | some d => insP id d | none => []) else []
def linesP (is : List InD) (l : List Int) : List UInt8 := l.flatMap (lineP is)
theorem linesP_succ (is : List InD) (l : List Int) (i : Nat) (hi : i < l.length) : linesP is (l.take (i + 1)) = linesP is (l.take i) ++ lineP is l[i] := by
  unfold linesP
  rw [List.take_succ_eq_append_getElem hi, List.flatMap_append]
  simp
theorem linesP_split (is : List InD) (l : List Int) (i : Nat) : (linesP is (l.take i)).length ≤ (linesP is l).length := by
  have h : linesP is l = linesP is (l.take i) ++ linesP is (l.drop i) := by
    unfold linesP
    rw [← List.flatMap_append, List.take_append_drop]
  rw [h, List.length_append]; omega
def blockP (is : List InD) (b : Nat) (d : BkD) : List UInt8 :=
  sayP [10, 98, 108, 111, 99, 107] [(b : Int)] ++ (sayP [32, 102, 114, 111, 109] d.preds ++ (linesP is d.list ++ (sayP [10, 32, 32, 101, 110, 100] [d.kind, d.arg] ++ sayP [32, 116, 111] d.to_)))
def blocksP (is : List InD) : List BkD → Nat → List UInt8
  | [], _ => []
  | d :: l, b => blockP is b d ++ blocksP is l (b + 1)
theorem blocksP_append (is : List InD) : ∀ (l m : List BkD) (b : Nat), blocksP is (l ++ m) b = blocksP is l b ++ blocksP is m (b + l.length)
  | [], m, b => by simp [blocksP]
  | d :: l, m, b => by
    simp only [List.cons_append, blocksP, blocksP_append is l m (b + 1), List.append_assoc, List.length_cons]
    rw [show b + 1 + l.length = b + (l.length + 1) by omega]
theorem blocksP_succ (is : List InD) (l : List BkD) (i : Nat) (hi : i < l.length) : blocksP is (l.take (i + 1)) 0 = blocksP is (l.take i) 0 ++ blockP is i l[i] := by
  rw [List.take_succ_eq_append_getElem hi, blocksP_append]
  simp [blocksP]
  rw [Nat.min_eq_left (by omega)]
theorem blocksP_split (is : List InD) (l : List BkD) (i : Nat) : (blocksP is (l.take i) 0).length ≤ (blocksP is l 0).length := by
  have h := blocksP_append is (l.take i) (l.drop i) 0
  rw [List.take_append_drop] at h
  rw [h, List.length_append]; omega
end Go.Proofs.YtglobeajmdieaaaDoor
