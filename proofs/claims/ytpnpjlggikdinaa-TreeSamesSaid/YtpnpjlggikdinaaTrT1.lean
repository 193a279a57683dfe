/-
  The law's stmts: what it must hand back.
-/
import Derived.Test.YtpnpjlggikdinaaTrE3
import Derived.Test.YtpnpjlggikdinaaTrK2
import Derived.Deep.LoopGhost
namespace Go.Proofs.Ytpnpjlggikdinaa
open Go.RowKit

theorem infoSt : (Try.prog.info? 38).map (fun i => (i.zero, i.size, i.bytes)) = some (some (.agg #[.int .i64 0, .int .i64 0, .int .i64 0, .string ⟨#[]⟩, .int .i64 0, .slice none 0 0, .slice none 0 0, .slice none 0 0]), 8, 120) := by kernel_rfl
def subT : Nat → List EE → List St
  | 0 => fun _ => []
  | d + 1 => stmtsT d
theorem stmtsT_eq (d : Nat) (l : List EE) : stmtsT d l = stmtsK (subT d) d 12 l := by cases d <;> rfl
theorem stmtsK_len (sub : List EE → List St) (d : Nat) : ∀ (k : Nat) (l : List EE), (stmtsK sub d k l).length = min k l.length
  | 0, l => by simp [stmtsK]
  | k + 1, [] => by simp [stmtsK]
  | k + 1, x :: r => by simp only [stmtsK, List.length_cons, stmtsK_len sub d k r]; omega
def StmtsPost (w : World) (o : List St) (e : Ending) (w' : World) : Prop :=
  ∃ v xs, e = .returned v ∧ Stms 38 40 w' w.heap.size v xs o ∧ Below w.heap.size w w'
def StmtsAt (N d : Nat) : Prop := ∀ (l : List EE) (A : Option Addr) (cap : Nat) (w : World), RdL w N A l → l.length ≤ cap → cap ≤ maxLen → N ≤ w.heap.size → SmallL l → Calls Try.prog 7 #[.slice A l.length cap, .int .i64 d] w (StmtsPost w (stmtsT d l))
/-- A row of statements as a value reads. -/
def RdV (w : World) (lo : Nat) (v : Value) (ss : List St) : Prop := ∃ A cap, v = .slice A ss.length cap ∧ RdSs w (fun b => lo ≤ b ∧ b < w.heap.size) A 0 ss
theorem RdV.nil (w : World) (lo : Nat) : RdV w lo (.slice none 0 0) [] := ⟨none, 0, rfl, by unfold RdSs; trivial⟩
theorem RdV.up {w w' : World} {lo : Nat} {v : Value} {ss : List St} (h : RdV w lo v ss) (hb : Below w.heap.size w w') : RdV w' lo v ss := by
  obtain ⟨A, c, hv, hr⟩ := h
  exact ⟨A, c, hv, hr.up hb⟩
theorem RdV.set {w : World} {lo : Nat} {v : Value} {ss : List St} (h : RdV w lo v ss) {p : Addr} (hp : p.block < lo) (u : Value) : RdV (w.setCell p u) lo v ss := by
  obtain ⟨A, c, hv, hr⟩ := h
  exact ⟨A, c, hv, hr.set hp u⟩
theorem Stms.rdV {T Tx : TypeId} {w : World} {base lo : Nat} {v : Value} {xs : List Value} {ss : List St} (h : Stms T Tx w base v xs ss) (hlo : lo ≤ base) : RdV w lo v ss := by
  obtain ⟨A, c, rfl⟩ := own_form h.1
  exact ⟨A, c, rfl, RdSs.more (fun b hS => ⟨Nat.le_trans hlo hS.1, hS.2⟩) _ _ _ h.reads.2⟩
/-- The kids of a statement as a value reads, and that it owns them. -/
def KidV (w : World) (lo : Nat) (v : Value) (ks : List Ex) : Prop := ∃ A cap kxs, v = .slice A ks.length cap ∧ RdEs w (fun b => lo ≤ b ∧ b < w.heap.size) A 0 ks ∧ w.ownsRow lo 40 7 v ks.length kxs
theorem KidV.up {w w' : World} {lo : Nat} {v : Value} {ss : List Ex} (h : KidV w lo v ss) (hb : Below w.heap.size w w') : KidV w' lo v ss := by
  obtain ⟨A, c, kxs, hv, hr, ho⟩ := h
  exact ⟨A, c, kxs, hv, hr.up hb, own_keep ho hb⟩
theorem KidV.set {w : World} {lo : Nat} {v : Value} {ss : List Ex} (h : KidV w lo v ss) {p : Addr} (hp : p.block < lo) (u : Value) : KidV (w.setCell p u) lo v ss := by
  obtain ⟨A, c, kxs, hv, hr, ho⟩ := h
  exact ⟨A, c, kxs, hv, hr.set hp u, ownsRow_setCell_below ho hp u⟩
theorem Kids.kidV {w : World} {base : Nat} {v : Value} {xs : List Value} {ks : List Ex} (h : Kids 40 w base v xs ks) : KidV w base v ks := by
  obtain ⟨A, c, rfl⟩ := own_form h.1
  exact ⟨A, c, xs, rfl, h.reads'.2, h.1⟩
/-- Eight cells that read as a statement. -/
theorem rdS_mk {w : World} {lo : Nat} {k n p : Int} {s : ByteArray} {kv bv ev : Value} {ks : List Ex} {body els : List St} (hk : KidV w lo kv ks) (hb : RdV w lo bv body) (he : RdV w lo ev els) :
    RdS w (fun b => lo ≤ b ∧ b < w.heap.size) (fun j => ([.int .i64 k, .int .i64 0, .int .i64 n, .string s, .int .i64 p, kv, bv, ev] : List Value)[j]?) (.mk k 0 n s p ks body els) ∧ OwnK 40 w lo (([.int .i64 k, .int .i64 0, .int .i64 n, .string s, .int .i64 p, kv, bv, ev] : List Value)[5]?) := by
  obtain ⟨A, c, kxs, rfl, hr, ho⟩ := hk
  obtain ⟨A1, c1, rfl, hr1⟩ := hb
  obtain ⟨A2, c2, rfl, hr2⟩ := he
  refine ⟨?_, _, _, kxs, rfl, ho⟩
  unfold RdS
  exact ⟨rfl, rfl, rfl, rfl, rfl, ⟨A, c, rfl, hr⟩, ⟨A1, c1, rfl, hr1⟩, A2, c2, rfl, hr2⟩
theorem two_drew (w : World) (x y : Array Value) (T T' : TypeId) : ∃ W, W = ((w.alloc (.cells x T)).alloc (.cells y T')).drew ∧ Below w.heap.size w W ∧ w.heap.size + 1 < W.heap.size ∧ W.heap[w.heap.size]? = some (.cells x T (0, 0)) ∧ W.heap[w.heap.size + 1]? = some (.cells y T' (0, 0)) := by
  refine ⟨_, rfl, (((Below.refl _ _).alloc (Nat.le_refl _) _).alloc (by simp) _).drew, by simp, (Below.heap_alloc _ _ _ (by simp)).trans (heap_alloc_new w _), ?_⟩
  have h1 := heap_alloc_new (w.alloc (.cells x T)) (.cells y T')
  rw [show (w.alloc (.cells x T)).heap.size = w.heap.size + 1 by simp] at h1
  exact h1
theorem replicate_snoc (k : Nat) (e : Ex) : List.replicate k e ++ [e] = List.replicate (k + 1) e := by
  rw [List.replicate_succ', ]
theorem st8 {w : World} {b : Nat} {v0 v1 v2 v3 v4 v5 v6 v7 : Value} {T : TypeId} {fr : Nat × Nat} (h : w.heap[b]? = some (.cells #[v0, v1, v2, v3, v4, v5, v6, v7] T fr)) : w.cell? ⟨b, 0, none⟩ = some v0 ∧ w.cell? ⟨b, 1, none⟩ = some v1 ∧ w.cell? ⟨b, 2, none⟩ = some v2 ∧ w.cell? ⟨b, 3, none⟩ = some v3 ∧ w.cell? ⟨b, 4, none⟩ = some v4 ∧ w.cell? ⟨b, 5, none⟩ = some v5 ∧ w.cell? ⟨b, 6, none⟩ = some v6 ∧ w.cell? ⟨b, 7, none⟩ = some v7 := by
  have hc := fun j => Lib.cell_of_heap h j
  exact ⟨hc 0, hc 1, hc 2, hc 3, hc 4, hc 5, hc 6, hc 7⟩
theorem stmtT_mk {d i n M : Nat} {l : List EE} {x : EE} {ex : Ex × List EE} {ct : ByteArray} {bl el : List St} (hi : i < 12) (hn : n = l.length) (hx : l[i]? = some x) (hM : M = (x.many % 2).toNat) (hex : ex = exprT 2 (l.drop i)) (hct : ct = cut20 x.s)
    (hb : bl = if d ≠ 0 ∧ x.many / 2 % 2 = 1 then stmtsT (d - 1) (l.drop (i + 1)) else []) (he : el = if d ≠ 0 ∧ x.many / 4 % 2 = 1 then stmtsT (d - 1) (l.drop (min n (i + 2))) else []) :
    stmtsK (subT d) d (12 - i) (l.drop i) = .mk x.kind 0 0 ct x.n (List.replicate (M + 1) ex.1) bl el :: stmtsK (subT d) d (12 - (i + 1)) (l.drop (i + 1)) := by
  obtain ⟨hl, hg⟩ := List.getElem?_eq_some_iff.mp hx
  have hd : l.drop i = x :: l.drop (i + 1) := by rw [List.drop_eq_getElem_cons hl, hg]
  have hd2 : (l.drop (i + 1)).drop 1 = l.drop (min n (i + 2)) := by
    rw [List.drop_drop]
    by_cases h : i + 2 ≤ n
    · rw [show min n (i + 2) = i + 1 + 1 by omega]
    · rw [show min n (i + 2) = l.length by omega, List.drop_length, List.drop_eq_nil_of_le (by omega)]
  have hs : ∀ r, d ≠ 0 → subT d r = stmtsT (d - 1) r := fun r h => by
    cases d with
    | zero => exact absurd rfl h
    | succ d => rfl
  rw [hex, hct, hb, he, hM, hd, show 12 - i = (12 - (i + 1)) + 1 by omega]
  simp only [stmtsK, stmtT]
  congr 2
  · by_cases h : d ≠ 0 ∧ x.many / 2 % 2 = 1
    · rw [if_pos h, if_pos h, hs _ h.1]
    · rw [if_neg h, if_neg h]
  · by_cases h : d ≠ 0 ∧ x.many / 4 % 2 = 1
    · rw [if_pos h, if_pos h, hs _ h.1, hd2]
    · rw [if_neg h, if_neg h]
end Go.Proofs.Ytpnpjlggikdinaa
