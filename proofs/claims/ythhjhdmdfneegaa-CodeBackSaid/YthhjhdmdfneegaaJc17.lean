/-
  The base with changes: the program as it lies while it is changed.
  The base with changes.
  The base with changes: a change of a number.
-/
import Derived.Test.YthhjhdmdfneegaaJc16
import Derived.Deep.AppendLies
import Derived.Deep.DeepCutAuto
import Derived.Deep.CutBlock
import Derived.BigQuiet
import Derived.Laws.Bits128
namespace Go.Proofs.Ythhjhdmdfneegaa
set_option linter.unusedVariables false
set_option linter.unusedSimpArgs false
open Go.RowKit

structure PS (w wr : World) (B fb : Nat) (mn : Int) (n : Nat) (F : Nat → GRw) : Prop where
  p : wr.heap[B]? = some (.cells #[.slice (some ⟨fb, 0, none⟩) 2 2, .int .i64 mn] 25 (0, 0))
  mn : InG mn
  fam : GFam wr (B + 2) B F
  fv : (F 0).v = .slice (some ⟨fb, 0, none⟩) 2 2
  ci : CI n F
  b : Below B w wr
theorem PS.keep {w wr w' : World} {B fb : Nat} {mn : Int} {n : Nat} {F : Nat → GRw} (h : PS w wr B fb mn n F) (hb : Below wr.heap.size wr w') : PS w w' B fb mn n F :=
  ⟨(hb.block _ (gr_in h.p)).trans h.p, h.mn, h.fam.keep hb, h.fv, h.ci, h.b.trans (hb.mono (Nat.le_of_lt (gr_in h.p)))⟩
section
variable {w wr : World} {B fb : Nat} {mn : Int} {n : Nat} {F : Nat → GRw}
/-- A row of structs, in its block. -/
theorem PS.st (h : PS w wr B fb mn n F) {j : Nat} {T : TypeId} {m : Nat} {P : Nat → CK} (hj : rk j = .st T m P) : ∃ g, F j = ⟨T, 5, .slice (some ⟨g, 0, none⟩) m m, m, (F j).xs⟩ ∧ g < wr.heap.size ∧ g ≠ B ∧ B + 2 ≤ g ∧ ∀ q, q < m * 5 → ∃ v, (F j).xs[q]? = some v ∧ Cell F (P q) v ∧ wr.cell? ⟨g, q, none⟩ = some v ∧ wr.frozen? ⟨g, q, none⟩ = false := by
  have hs := h.ci.row j
  rw [hj] at hs
  obtain ⟨⟨g, hg⟩, hl, hc⟩ := hs
  have ho := h.fam.at hg
  have hob := ho.lt g rfl
  refine ⟨g, hg, hob.2, by omega, hob.1, fun q hq => ?_⟩
  obtain ⟨v, h1, h2⟩ := hc q hq
  exact ⟨v, h1, h2, (ho.cellAt q hq).trans h1, ho.frozenAt q⟩
/-- A row of numbers, in its block, or nothing. -/
theorem PS.ir (h : PS w wr B fb mn n F) {j : Nat} (hj : rk j = .ints) : ∃ (l : List Int) (A : Option Addr) (c : Nat), F j = ⟨3, 1, .slice A l.length c, l.length, intsV l⟩ ∧ (∀ x ∈ l, InG x) ∧ l.length ≤ n ∧ (0 < l.length → ∃ g, A = some ⟨g, 0, none⟩ ∧ B + 2 ≤ g ∧ g < wr.heap.size) := by
  have hs := h.ci.row j
  rw [hj] at hs
  obtain ⟨l, h1, h2, h3, h4, h5, h6⟩ := hs
  have ho := h.fam.own j
  obtain ⟨A, c, hv⟩ := gr_slice ho
  rw [h3] at hv
  have e : F j = ⟨3, 1, .slice A l.length c, l.length, intsV l⟩ := by
    cases hF : F j with
    | mk T z v nn xs =>
      rw [hF] at h1 h2 h3 h4 hv
      simp only at h1 h2 h3 h4 hv
      rw [h1, h2, hv, h3, h4]
  refine ⟨l, A, c, e, h5, h6, fun hp => ?_⟩
  have ho' := h.fam.at e
  obtain ⟨g, hA, -, hb1, hb2⟩ := gr_some ho' hp
  exact ⟨g, hA, hb1, hb2⟩
/-- A cell of a row of structs is another number. -/
theorem PS.put (h : PS w wr B fb mn n F) {j : Nat} {T : TypeId} {m : Nat} {P : Nat → CK} (hj : rk j = .st T m P) {g : Nat} (hg : F j = ⟨T, 5, .slice (some ⟨g, 0, none⟩) m m, m, (F j).xs⟩) {q : Nat} (hq : q < m * 5) {x : Int} (hP : P q = .i) (hx : InG x) : ∃ F', PS w (wr.setCell ⟨g, q, none⟩ (.int .i64 x)) B fb mn n F' := by
  obtain ⟨f1, f2⟩ := h.fam.put hg q (.int .i64 x)
  have hob := (h.fam.at hg).lt g rfl
  have hc := h.ci.cell hj hq (u := .int .i64 x) (by rw [hP]; exact ⟨x, rfl, hx⟩) (r' := ⟨T, 5, .slice (some ⟨g, 0, none⟩) m m, m, (F j).xs.set q (.int .i64 x)⟩) (by
    have e : ({ F j with xs := (F j).xs.set q (.int .i64 x) } : GRw) = ⟨(F j).T, (F j).z, (F j).v, (F j).n, (F j).xs.set q (.int .i64 x)⟩ := rfl
    rw [e, congrArg GRw.T hg, congrArg GRw.z hg, congrArg GRw.v hg, congrArg GRw.n hg])
  refine ⟨_, ⟨(Below.heap_setCell _ _ _ _ (by show B ≠ g; omega)).trans h.p, h.mn, f1, ?_, hc, h.b.setCell (p := ⟨g, q, none⟩) (by show B ≤ g; omega) _⟩⟩
  by_cases hj0 : j = 0
  · subst hj0
    rw [upG_at]
    have := h.fv
    rw [hg] at this
    exact this
  · rw [upG_off _ _ _ _ (fun e => hj0 e.symm)]
    exact h.fv
/-- A number of a row of numbers is another one. -/
theorem PS.set (h : PS w wr B fb mn n F) {j : Nat} (hj : rk j = .ints) {l : List Int} {g c : Nat} (hg : F j = ⟨3, 1, .slice (some ⟨g, 0, none⟩) l.length c, l.length, intsV l⟩) {q : Nat} {x : Int} (hx : InG x) (hl : ∀ y ∈ l, InG y) (hn : l.length ≤ n) (ha : allC (upG F j ⟨3, 1, .slice (some ⟨g, 0, none⟩) l.length c, l.length, intsV (l.set q x)⟩)) : PS w (wr.setCell ⟨g, q, none⟩ (.int .i64 x)) B fb mn n (upG F j ⟨3, 1, .slice (some ⟨g, 0, none⟩) l.length c, l.length, intsV (l.set q x)⟩) := by
  obtain ⟨f1, f2⟩ := h.fam.put hg q (.int .i64 x)
  have hob := (h.fam.at hg).lt g rfl
  have e : (intsV l).set q (.int .i64 x) = intsV (l.set q x) := by simp [intsV, List.map_set]
  rw [e] at f1
  have hjz : j ≠ 0 := fun e => by rw [e] at hj; cases hj
  refine ⟨(Below.heap_setCell _ _ _ _ (by show B ≠ g; omega)).trans h.p, h.mn, f1, by rw [upG_off _ _ _ _ (fun e => hjz e.symm)]; exact h.fv, ?_, h.b.setCell (p := ⟨g, q, none⟩) (by show B ≤ g; omega) _⟩
  refine h.ci.ints hj (by rw [hg]) ⟨l.set q x, rfl, rfl, by rw [List.length_set], rfl, fun y hy => ?_, by rw [List.length_set]; exact hn⟩ ha
  rcases List.mem_or_eq_of_mem_set hy with h1 | h1
  · exact hl y h1
  · rw [h1]; exact hx
/-- A row of numbers has grown, and where it is named it is named anew. -/
theorem PS.app (h : PS w wr B fb mn n F) {w5 : World} {j : Nat} (hj : rk j = .ints) {l : List Int} {A : Option Addr} {c : Nat} (hF : F j = ⟨3, 1, .slice A l.length c, l.length, intsV l⟩) {x : Int} (hx : InG x) (hl : ∀ y ∈ l, InG y) (hn : l.length ≤ n)
    {g cap : Nat} (hown : w5.ownsRow (B + 2) 3 1 (.slice (some ⟨g, 0, none⟩) (l.length + 1) cap) (l.length + 1) (intsV l ++ [.int .i64 x])) (hgrow : wr.grownBy w5 (Value.slice A l.length c).ownBlock) (hat : (Value.slice A l.length c).ownBlock = some g ∨ wr.heap.size ≤ g)
    {s : Nat} {T : TypeId} {m : Nat} {P : Nat → CK} (hs : rk s = .st T m P) {gs : Nat} (hgs : F s = ⟨T, 5, .slice (some ⟨gs, 0, none⟩) m m, m, (F s).xs⟩) {q : Nat} (hq : q < m * 5) (hP : P q = .r j) : ∃ F', PS w (w5.setCell ⟨gs, q, none⟩ (.slice (some ⟨g, 0, none⟩) (l.length + 1) cap)) B fb mn (n + 1) F' ∧ w5.heap[gs]? = wr.heap[gs]? := by
  obtain ⟨r', hr'⟩ : ∃ r' : GRw, r' = ⟨3, 1, .slice (some ⟨g, 0, none⟩) (l.length + 1) cap, l.length + 1, intsV (l ++ [x])⟩ := ⟨_, rfl⟩
  have hjs : s ≠ j := fun e => by rw [e] at hs; rw [hs] at hj; cases hj
  have hjz : j ≠ 0 := fun e => by rw [e] at hj; cases hj
  have f1 : GFam w5 (B + 2) B (upG F j r') := h.fam.grown j (by rw [hF]; exact hgrow) r' (by rw [hr', show intsV (l ++ [x]) = intsV l ++ [.int .i64 x] by simp [intsV]]; exact hown) (fun g' e => by
    rw [hr'] at e
    injection e with e
    subst e
    rw [hF]
    exact hat)
  have hgs2 : upG F j r' s = ⟨T, 5, .slice (some ⟨gs, 0, none⟩) m m, m, (F s).xs⟩ := by rw [upG_off _ _ _ _ hjs]; exact hgs
  obtain ⟨f2, f3⟩ := f1.put hgs2 q (.slice (some ⟨g, 0, none⟩) (l.length + 1) cap)
  have hob := (f1.at hgs2).lt gs rfl
  have hob0 := (h.fam.at hgs).lt gs rfl
  have hne : (Value.slice A l.length c).ownBlock ≠ some gs := fun e => h.fam.apart (k := j) (l := s) (fun e => hjs e.symm) hF hgs (g := gs) rfl e.symm
  have hci : CI (n + 1) (upG (upG F j r') s ⟨T, 5, .slice (some ⟨gs, 0, none⟩) m m, m, (F s).xs.set q (.slice (some ⟨g, 0, none⟩) (l.length + 1) cap)⟩) := by
    refine h.ci.grow hj ⟨l ++ [x], by rw [hr'], by rw [hr'], by rw [hr', List.length_append]; rfl, by rw [hr'], fun y hy => ?_, by rw [List.length_append]; simpa using hn⟩ (all_on h.ci.all fun l2 h2 => ⟨l ++ [x], by rw [hr'], fun y hy => ?_⟩) hs hq hP ?_
    · rcases List.mem_append.mp hy with h1 | h1
      · exact hl y h1
      · rw [List.mem_singleton] at h1; rw [h1]; exact hx
    · rw [hF] at h2
      have : l = l2 := by
        have h3 := congrArg (List.map fun v => match v with | Value.int .i64 z => z | _ => 0) h2
        simpa [intsV, Function.comp_def] using h3
      rw [this]
      exact List.mem_append_left _ hy
    · rw [hr']
      have e : ({ F s with xs := (F s).xs.set q (.slice (some ⟨g, 0, none⟩) (l.length + 1) cap) } : GRw) = ⟨(F s).T, (F s).z, (F s).v, (F s).n, (F s).xs.set q (.slice (some ⟨g, 0, none⟩) (l.length + 1) cap)⟩ := rfl
      rw [e, congrArg GRw.T hgs, congrArg GRw.z hgs, congrArg GRw.v hgs, congrArg GRw.n hgs]
  have hBh : w5.heap[B]? = wr.heap[B]? := hgrow.block B (gr_in h.p) (fun e => by have := h.fam.av j; rw [hF] at this; exact this e.symm)
  refine ⟨_, ⟨(Below.heap_setCell _ _ _ _ (by show B ≠ gs; omega)).trans (hBh.trans h.p), h.mn, f2, ?_, hci, ?_⟩, hgrow.block gs hob0.2 (fun e => hne e.symm)⟩
  · by_cases hs0 : s = 0
    · subst hs0
      rw [upG_at]
      have := h.fv
      rw [hgs] at this
      exact this
    · rw [upG_off _ _ _ _ (fun e => hs0 e.symm), upG_off _ _ _ _ (fun e => hjz e.symm)]
      exact h.fv
  · refine Below.setCell ?_ (p := ⟨gs, q, none⟩) (by show B ≤ gs; omega) _
    exact h.b.trans ⟨hgrow.os, hgrow.tape, hgrow.output, hgrow.size, fun k hk => hgrow.block k (by have := gr_in h.p; omega) (fun e => by
      have := (h.fam.at hF).lt k e.symm
      omega)⟩
theorem PS.main (h : PS w wr B fb mn n F) {x : Int} (hx : InG x) : PS w (wr.setCell ⟨B, 1, none⟩ (.int .i64 x)) B fb x n F :=
  ⟨gr_put h.p 1 _, hx, h.fam.bu (GBu.setCell (p := ⟨B, 1, none⟩) (GBu.refl B wr) (.inl rfl) _), h.fv, h.ci, h.b.setCell (p := ⟨B, 1, none⟩) (Nat.le_refl _) _⟩
end
end Go.Proofs.Ythhjhdmdfneegaa
namespace Go.Proofs.Ythhjhdmdfneegaa
set_option linter.unusedVariables false
set_option linter.unusedSimpArgs false
open Go.RowKit

/-- A change, over plain data. -/
structure ChD where
  fn : Int
  wh : Int
  at_ : Int
  to_ : Int
  n : Int
def ChD.ok (d : ChD) : Prop := InG d.fn ∧ InG d.wh ∧ InG d.at_ ∧ InG d.to_ ∧ InG d.n
/-- Changes as they lie, below n0. -/
def CHs (n0 : Nat) (w : World) (v : Value) (l : List ChD) : Prop := ∃ A c, v = .slice A l.length c ∧ (0 < l.length → ∃ b o, A = some ⟨b, o, none⟩ ∧ b < n0 ∧
  ∀ j d, l[j]? = some d → w.cell? ⟨b, o + j * 5, none⟩ = some (.int .i64 d.fn) ∧ w.cell? ⟨b, o + j * 5 + 1, none⟩ = some (.int .i64 d.wh) ∧ w.cell? ⟨b, o + j * 5 + 2, none⟩ = some (.int .i64 d.at_) ∧ w.cell? ⟨b, o + j * 5 + 3, none⟩ = some (.int .i64 d.to_) ∧ w.cell? ⟨b, o + j * 5 + 4, none⟩ = some (.int .i64 d.n))
theorem CHs.keep {n0 : Nat} {w w' : World} {v : Value} {l : List ChD} (h : CHs n0 w v l) (hb : Below n0 w w') : CHs n0 w' v l := by
  obtain ⟨A, c, hv, hr⟩ := h
  refine ⟨A, c, hv, fun hp => ?_⟩
  obtain ⟨b, o, hA, hbn, hc⟩ := hr hp
  refine ⟨b, o, hA, hbn, fun j d hd => ?_⟩
  obtain ⟨h0, h1, h2, h3, h4⟩ := hc j d hd
  have k : ∀ q, w'.cell? ⟨b, q, none⟩ = w.cell? ⟨b, q, none⟩ := fun q => hb.cell (p := ⟨b, q, none⟩) hbn
  exact ⟨(k _).trans h0, (k _).trans h1, (k _).trans h2, (k _).trans h3, (k _).trans h4⟩
theorem CHs.at {n0 : Nat} {w : World} {A : Option Addr} {m c : Nat} {l : List ChD} (h : CHs n0 w (.slice A m c) l) {j : Nat} (hj : j < l.length) :
    ∃ b o, A = some ⟨b, o, none⟩ ∧ w.cell? ⟨b, o + j * 5, none⟩ = some (.int .i64 l[j].fn) ∧ w.cell? ⟨b, o + j * 5 + 1, none⟩ = some (.int .i64 l[j].wh) ∧ w.cell? ⟨b, o + j * 5 + 2, none⟩ = some (.int .i64 l[j].at_) ∧ w.cell? ⟨b, o + j * 5 + 3, none⟩ = some (.int .i64 l[j].to_) ∧ w.cell? ⟨b, o + j * 5 + 4, none⟩ = some (.int .i64 l[j].n) := by
  obtain ⟨A', c', hv, hr⟩ := h
  obtain ⟨b, o, hA, hbn, hc⟩ := hr (by omega)
  injection hv with e1
  subst e1
  obtain ⟨h0, h1, h2, h3, h4⟩ := hc j _ (List.getElem?_eq_getElem hj)
  exact ⟨b, o, hA, h0, h1, h2, h3, h4⟩
theorem CHs.len {n0 : Nat} {w : World} {A : Option Addr} {m c : Nat} {l : List ChD} (h : CHs n0 w (.slice A m c) l) : m = l.length := by
  obtain ⟨_, _, h, -⟩ := h
  injection h
theorem i64_and1 (n : Int) : bits .and .i64 n 1 = n % 2 := by
  have h1 : (BitVec.ofInt 64 1).toNat = 2 ^ 1 - 1 := by decide
  have key : (BitVec.ofInt 64 n &&& BitVec.ofInt 64 1).toNat = (n % ((2 ^ 64 : Nat) : Int)).toNat % 2 ^ 1 := by
    rw [BitVec.toNat_and, BitVec.toNat_ofInt, h1, Nat.and_two_pow_sub_one_eq_mod]
  show IntKind.i64.wrap ((BitVec.ofInt 64 n &&& BitVec.ofInt 64 1).toNat : Nat) = n % 2
  rw [key, IntKind.wrap_i64]
  omega
/-- An index that goes round. -/
theorem round_ix (x : Int) (n : Nat) (hn : 0 < n) (hx : InG x) (hn2 : n ≤ 16) : ∃ (r : Int) (k : Nat), x.tmod (n : Int) = r ∧ wrap64 (r + (n : Int)) = r + (n : Int) ∧ (r + (n : Int)).tmod (n : Int) = (k : Int) ∧ k < n := by
  have h1 : -(n : Int) < x.tmod (n : Int) ∧ x.tmod (n : Int) < (n : Int) := by
    have := Int.tmod_lt_of_pos x (show (0 : Int) < n by omega)
    have h2 : (-(n : Int)) < x.tmod n := by
      have h3 := Int.tmod_lt_of_pos (-x) (show (0 : Int) < n by omega)
      rw [Int.neg_tmod] at h3
      omega
    exact ⟨h2, this⟩
  refine ⟨x.tmod n, ((x.tmod n + n).tmod n).toNat, rfl, IntWalk.wrap64_in _ (by omega), ?_, ?_⟩
  · have := Int.tmod_nonneg (n : Int) (show 0 ≤ x.tmod n + n by omega)
    omega
  · have h3 := Int.tmod_nonneg (n : Int) (show 0 ≤ x.tmod n + n by omega)
    have h4 := Int.tmod_lt_of_pos (x.tmod n + n) (show (0 : Int) < n by omega)
    omega
theorem insM_b (f : Nat) : 0 < insM f ∧ insM f ≤ 15 := by unfold insM; split <;> omega
theorem blkM_b (f : Nat) : 0 < blkM f ∧ blkM f ≤ 4 := by unfold blkM; split <;> omega

/-- The frame, as a function. -/
def fr (s : Nat → Value) : Act := ⟨((List.range 295).map s).toArray, []⟩
set_option maxRecDepth 100000 in
theorem fr_lit (s : Nat → Value) : fr s = ⟨#[s 0, s 1, s 2, s 3, s 4, s 5, s 6, s 7, s 8, s 9, s 10, s 11, s 12, s 13, s 14, s 15, s 16, s 17, s 18, s 19, s 20, s 21, s 22, s 23, s 24, s 25, s 26, s 27, s 28, s 29, s 30, s 31, s 32, s 33, s 34, s 35, s 36, s 37, s 38, s 39, s 40, s 41, s 42, s 43, s 44, s 45, s 46, s 47, s 48, s 49, s 50, s 51, s 52, s 53, s 54, s 55, s 56, s 57, s 58, s 59, s 60, s 61, s 62, s 63, s 64, s 65, s 66, s 67, s 68, s 69, s 70, s 71, s 72, s 73, s 74, s 75, s 76, s 77, s 78, s 79, s 80, s 81, s 82, s 83, s 84, s 85, s 86, s 87, s 88, s 89, s 90, s 91, s 92, s 93, s 94, s 95, s 96, s 97, s 98, s 99, s 100, s 101, s 102, s 103, s 104, s 105, s 106, s 107, s 108, s 109, s 110, s 111, s 112, s 113, s 114, s 115, s 116, s 117, s 118, s 119, s 120, s 121, s 122, s 123, s 124, s 125, s 126, s 127, s 128, s 129, s 130, s 131, s 132, s 133, s 134, s 135, s 136, s 137, s 138, s 139, s 140, s 141, s 142, s 143, s 144, s 145, s 146, s 147, s 148, s 149, s 150, s 151, s 152, s 153, s 154, s 155, s 156, s 157, s 158, s 159, s 160, s 161, s 162, s 163, s 164, s 165, s 166, s 167, s 168, s 169, s 170, s 171, s 172, s 173, s 174, s 175, s 176, s 177, s 178, s 179, s 180, s 181, s 182, s 183, s 184, s 185, s 186, s 187, s 188, s 189, s 190, s 191, s 192, s 193, s 194, s 195, s 196, s 197, s 198, s 199, s 200, s 201, s 202, s 203, s 204, s 205, s 206, s 207, s 208, s 209, s 210, s 211, s 212, s 213, s 214, s 215, s 216, s 217, s 218, s 219, s 220, s 221, s 222, s 223, s 224, s 225, s 226, s 227, s 228, s 229, s 230, s 231, s 232, s 233, s 234, s 235, s 236, s 237, s 238, s 239, s 240, s 241, s 242, s 243, s 244, s 245, s 246, s 247, s 248, s 249, s 250, s 251, s 252, s 253, s 254, s 255, s 256, s 257, s 258, s 259, s 260, s 261, s 262, s 263, s 264, s 265, s 266, s 267, s 268, s 269, s 270, s 271, s 272, s 273, s 274, s 275, s 276, s 277, s 278, s 279, s 280, s 281, s 282, s 283, s 284, s 285, s 286, s 287, s 288, s 289, s 290, s 291, s 292, s 293, s 294]
, []⟩ := by kernel_rfl
theorem fr_of (a : Act) (h : a.tmps.size = 295) (hd : a.defers = []) : ∃ s, a = fr s ∧ ∀ j, j < 295 → a.tmps[j]? = some (s j) := by
  obtain ⟨t, d⟩ := a
  simp only at h hd
  subst hd
  refine ⟨fun j => t.getD j undef, ?_, fun j hj => ?_⟩
  · unfold fr
    congr 1
    apply Array.ext
    · simp [h]
    · intro i h1 h2
      simp [Array.getD, h1]
  · simp [Array.getD, h, hj]
/-- What a frame keeps: the first eight. -/
def KeepF (s : Nat → Value) (a : Act) : Prop := a.tmps.size = 295 ∧ a.defers = [] ∧ a.tmps[0]? = some (s 0) ∧ a.tmps[1]? = some (s 1) ∧ a.tmps[2]? = some (s 2) ∧ a.tmps[3]? = some (s 3)
theorem KeepF.fr {s : Nat → Value} {a : Act} (h : KeepF s a) : ∃ s', a = fr s' ∧ s' 0 = s 0 ∧ s' 1 = s 1 ∧ s' 2 = s 2 ∧ s' 3 = s 3 := by
  obtain ⟨h1, h2, k0, k1, k2, k3⟩ := h
  obtain ⟨s', e, hs⟩ := fr_of a h1 h2
  exact ⟨s', e, Option.some.inj ((hs 0 (by omega)).symm.trans k0), Option.some.inj ((hs 1 (by omega)).symm.trans k1), Option.some.inj ((hs 2 (by omega)).symm.trans k2), Option.some.inj ((hs 3 (by omega)).symm.trans k3)⟩
def firstLoop : Code → Option Code
  | .loop c => some c
  | .seq a b => match firstLoop a with
    | some c => some c
    | none => firstLoop b
  | .block _ c => firstLoop c
  | .scope c => firstLoop c
  | .cond _ a b => match firstLoop a with
    | some c => some c
    | none => firstLoop b
  | _ => none
def fstC : Code → Code | .seq a _ => a | _ => .skip
def sndC : Code → Code | .seq _ b => b | _ => .skip
def innC : Code → Code | .block _ c => c | _ => .skip
def thnC : Code → Code | .cond _ a _ => a | _ => .skip
def elsC : Code → Code | .cond _ _ b => b | _ => .skip
noncomputable def chB : Code := ((Try.f4.body.bind firstLoop).getD .skip)
noncomputable def chX : Code := innC (fstC (sndC chB))
noncomputable def chS0 : Code := innC (sndC (sndC (sndC (sndC (sndC chX)))))
noncomputable def chS1 : Code := elsC (sndC chS0)
noncomputable def chW0 : Code := thnC (sndC chS0)
theorem chS0_eq : chS0 = .seq (fstC chS0) (.cond (.tmp 87) chW0 chS1) := by kernel_rfl
noncomputable def chS2 : Code := elsC (sndC chS1)
noncomputable def chW1 : Code := thnC (sndC chS1)
theorem chS1_eq : chS1 = .seq (fstC chS1) (.cond (.tmp 94) chW1 chS2) := by kernel_rfl
noncomputable def chS3 : Code := elsC (sndC chS2)
noncomputable def chW2 : Code := thnC (sndC chS2)
theorem chS2_eq : chS2 = .seq (fstC chS2) (.cond (.tmp 101) chW2 chS3) := by kernel_rfl
noncomputable def chS4 : Code := elsC (sndC chS3)
noncomputable def chW3 : Code := thnC (sndC chS3)
theorem chS3_eq : chS3 = .seq (fstC chS3) (.cond (.tmp 108) chW3 chS4) := by kernel_rfl
noncomputable def chS5 : Code := elsC (sndC chS4)
noncomputable def chW4 : Code := thnC (sndC chS4)
theorem chS4_eq : chS4 = .seq (fstC chS4) (.cond (.tmp 115) chW4 chS5) := by kernel_rfl
noncomputable def chS6 : Code := elsC (sndC chS5)
noncomputable def chW5 : Code := thnC (sndC chS5)
theorem chS5_eq : chS5 = .seq (fstC chS5) (.cond (.tmp 130) chW5 chS6) := by kernel_rfl
noncomputable def chS7 : Code := elsC (sndC chS6)
noncomputable def chW6 : Code := thnC (sndC chS6)
theorem chS6_eq : chS6 = .seq (fstC chS6) (.cond (.tmp 143) chW6 chS7) := by kernel_rfl
noncomputable def chS8 : Code := elsC (sndC chS7)
noncomputable def chW7 : Code := thnC (sndC chS7)
theorem chS7_eq : chS7 = .seq (fstC chS7) (.cond (.tmp 156) chW7 chS8) := by kernel_rfl
noncomputable def chS9 : Code := elsC (sndC chS8)
noncomputable def chW8 : Code := thnC (sndC chS8)
theorem chS8_eq : chS8 = .seq (fstC chS8) (.cond (.tmp 198) chW8 chS9) := by kernel_rfl
noncomputable def chS10 : Code := elsC (sndC chS9)
noncomputable def chW9 : Code := thnC (sndC chS9)
theorem chS9_eq : chS9 = .seq (fstC chS9) (.cond (.tmp 211) chW9 chS10) := by kernel_rfl
noncomputable def chS11 : Code := elsC (sndC chS10)
noncomputable def chW10 : Code := thnC (sndC chS10)
theorem chS10_eq : chS10 = .seq (fstC chS10) (.cond (.tmp 241) chW10 chS11) := by kernel_rfl
noncomputable def chS12 : Code := elsC (sndC chS11)
noncomputable def chW11 : Code := thnC (sndC chS11)
theorem chS11_eq : chS11 = .seq (fstC chS11) (.cond (.tmp 249) chW11 chS12) := by kernel_rfl
noncomputable def chS13 : Code := elsC (sndC chS12)
noncomputable def chW12 : Code := thnC (sndC chS12)
theorem chS12_eq : chS12 = .seq (fstC chS12) (.cond (.tmp 257) chW12 chS13) := by kernel_rfl
noncomputable def chS14 : Code := elsC (sndC chS13)
noncomputable def chW13 : Code := thnC (sndC chS13)
theorem chS13_eq : chS13 = .seq (fstC chS13) (.cond (.tmp 274) chW13 chS14) := by kernel_rfl
noncomputable def chS15 : Code := elsC (sndC chS14)
noncomputable def chW14 : Code := thnC (sndC chS14)
theorem chS14_eq : chS14 = .seq (fstC chS14) (.cond (.tmp 281) chW14 chS15) := by kernel_rfl
theorem chB_eq : chB = .seq (fstC chB) (.seq (.block 1 chX) (sndC (sndC chB))) := by kernel_rfl
theorem chX_eq : chX = .seq (fstC chX) (.seq (fstC (sndC chX)) (.seq (fstC (sndC (sndC chX))) (.seq (fstC (sndC (sndC (sndC chX)))) (.seq (fstC (sndC (sndC (sndC (sndC chX))))) (.block 2 chS0))))) := by kernel_rfl
end Go.Proofs.Ythhjhdmdfneegaa
namespace Go.Proofs.Ythhjhdmdfneegaa
set_option linter.unusedVariables false
set_option linter.unusedSimpArgs false
open Go.RowKit

theorem rk_ins {f : Nat} (h : f < 2) : rk (sN f 1) = .st 46 (insM f) (insP f) := by
  rcases (by omega : f = 0 ∨ f = 1) with rfl | rfl <;> rfl
theorem rk_blk {f : Nat} (h : f < 2) : rk (sN f 2) = .st 51 (blkM f) (blkP f) := by
  rcases (by omega : f = 0 ∨ f = 1) with rfl | rfl <;> rfl
theorem rk_fun : rk 0 = .st 43 2 funP := rfl
theorem rk_par {f : Nat} (h : f < 2) : rk (sN f 0) = .ints := by
  rcases (by omega : f = 0 ∨ f = 1) with rfl | rfl <;> rfl
theorem rk_far {j : Nat} (h : 10 ≤ j) : rk j = .ints := by
  unfold rk
  rw [if_neg (by omega), if_neg (by omega), if_neg (by omega), if_neg (by omega), if_neg (by omega)]
theorem PS.mono {w wr : World} {B fb : Nat} {mn : Int} {n m : Nat} {F : Nat → GRw} (h : PS w wr B fb mn n F) (hm : n ≤ m) : PS w wr B fb mn m F := ⟨h.p, h.mn, h.fam, h.fv, h.ci.mono hm, h.b⟩
/-- Where a change stands, ahead of what it changes. -/
structure Wy (s : Nat → Value) (w0 w : World) (B fb : Nat) (mn : Int) (n : Nat) (F : Nat → GRw) (cb f xi bi ib bb : Nat) (t to_ nn : Int) : Prop where
  ps : PS w0 w B fb mn n F
  hf : f < 2
  hx : xi < insM f
  hb : bi < blkM f
  s2 : s 2 = .pointer (some ⟨B, 0, none⟩)
  s4 : s 4 = .pointer (some ⟨cb, 0, none⟩)
  s5 : s 5 = .pointer (some ⟨fb, f * 5, none⟩)
  fx : F (sN f 1) = ⟨46, 5, .slice (some ⟨ib, 0, none⟩) (insM f) (insM f), insM f, (F (sN f 1)).xs⟩
  s6 : s 6 = .pointer (some ⟨ib, xi * 5, none⟩)
  fk : F (sN f 2) = ⟨51, 5, .slice (some ⟨bb, 0, none⟩) (blkM f) (blkM f), blkM f, (F (sN f 2)).xs⟩
  s7 : s 7 = .pointer (some ⟨bb, bi * 5, none⟩)
  s83 : s 83 = .int .i64 t
  c3 : w.cell? ⟨cb, 3, none⟩ = some (.int .i64 to_)
  c4 : w.cell? ⟨cb, 4, none⟩ = some (.int .i64 nn)
  g3 : InG to_
  g4 : InG nn
  hn : n ≤ 8
  far : ∀ k, (F k).v.ownBlock ≠ some cb
/-- The struct row at a place: its block, its cells. -/
theorem PS.stat {w wr : World} {B fb : Nat} {mn : Int} {n : Nat} {F : Nat → GRw} (h : PS w wr B fb mn n F) {j : Nat} {T : TypeId} {m : Nat} {P : Nat → CK} (hj : rk j = .st T m P) {g : Nat} (hg : F j = ⟨T, 5, .slice (some ⟨g, 0, none⟩) m m, m, (F j).xs⟩) : ∀ q, q < m * 5 → ∃ v, (F j).xs[q]? = some v ∧ Cell F (P q) v ∧ wr.cell? ⟨g, q, none⟩ = some v ∧ wr.frozen? ⟨g, q, none⟩ = false := by
  obtain ⟨g', hg', -, -, -, hq⟩ := h.st hj
  have e : g' = g := by
    have h1 := congrArg GRw.v hg'
    have h2 := congrArg GRw.v hg
    rw [h1] at h2
    simp only at h2
    injection h2 with e1
    injection e1 with e2
    injection e2
  rw [e] at hq
  exact hq
theorem PS.f0 {w wr : World} {B fb : Nat} {mn : Int} {n : Nat} {F : Nat → GRw} (h : PS w wr B fb mn n F) : F 0 = ⟨43, 5, .slice (some ⟨fb, 0, none⟩) 2 2, 2, (F 0).xs⟩ := by
  obtain ⟨g', hg', -, -, -, hq⟩ := h.st rk_fun
  have e : g' = fb := by
    have h1 := congrArg GRw.v hg'
    rw [h.fv] at h1
    simp only at h1
    injection h1 with e1
    injection e1 with e2
    injection e2 with e3
    exact e3.symm
  rw [e] at hg'
  exact hg'
theorem Wy.farx {s : Nat → Value} {w0 w : World} {B fb : Nat} {mn : Int} {n : Nat} {F : Nat → GRw} {cb f xi bi ib bb : Nat} {t to_ nn : Int} (h : Wy s w0 w B fb mn n F cb f xi bi ib bb t to_ nn) : cb ≠ ib := fun e => h.far (sN f 1) (by rw [h.fx, e]; rfl)
theorem Wy.fark {s : Nat → Value} {w0 w : World} {B fb : Nat} {mn : Int} {n : Nat} {F : Nat → GRw} {cb f xi bi ib bb : Nat} {t to_ nn : Int} (h : Wy s w0 w B fb mn n F cb f xi bi ib bb t to_ nn) : cb ≠ bb := fun e => h.far (sN f 2) (by rw [h.fk, e]; rfl)
theorem Wy.farf {s : Nat → Value} {w0 w : World} {B fb : Nat} {mn : Int} {n : Nat} {F : Nat → GRw} {cb f xi bi ib bb : Nat} {t to_ nn : Int} (h : Wy s w0 w B fb mn n F cb f xi bi ib bb t to_ nn) : cb ≠ fb := fun e => h.far 0 (by rw [h.ps.f0, e]; rfl)
theorem PS.big {w wr : World} {B fb : Nat} {mn : Int} {n : Nat} {F : Nat → GRw} (h : PS w wr B fb mn n F) : B + 2 ≤ wr.heap.size := by
  obtain ⟨g, -, h1, -, h2, -⟩ := h.st rk_fun
  omega
set_option maxRecDepth 100000 in
set_option maxHeartbeats 4000000 in
theorem way0 {s : Nat → Value} {w0 w : World} {B fb : Nat} {mn : Int} {n : Nat} {F : Nat → GRw} {cb f xi bi ib bb : Nat} {t to_ nn : Int} (h : Wy s w0 w B fb mn n F cb f xi bi ib bb t to_ nn) (Q : Exit → Act → World → Prop) (hQ : ∀ a' w' mn' F', KeepF s a' → PS w0 w' B fb mn' (n + 1) F' → Q .normal a' w') : chW0.wp Try.prog Q (fr s) w := by
  have hb := h.hx
  have hq : xi * 5 < insM f * 5 := by omega
  have hP : insP f (xi * 5) = .i := by unfold insP; rw [if_neg (by omega)]
  obtain ⟨v, -, -, hc, hfz⟩ := h.ps.stat (rk_ins h.hf) h.fx (xi * 5) hq
  obtain ⟨F', hF'⟩ := h.ps.put (rk_ins h.hf) h.fx hq (x := to_) hP h.g3
  have HE := Lib.hid (hF'.mono (Nat.le_succ n))
  have c := h.c3
  rw [fr_lit]
  conv => arg 2; whnf
  rw [h.s4, h.s6]
  clear hF' hP hq hb h
  go_wp2
  exact hQ _ _ _ _ ⟨rfl, rfl, rfl, rfl, rfl, rfl⟩ HE.out
set_option maxRecDepth 100000 in
set_option maxHeartbeats 4000000 in
theorem way1 {s : Nat → Value} {w0 w : World} {B fb : Nat} {mn : Int} {n : Nat} {F : Nat → GRw} {cb f xi bi ib bb : Nat} {t to_ nn : Int} (h : Wy s w0 w B fb mn n F cb f xi bi ib bb t to_ nn) (Q : Exit → Act → World → Prop) (hQ : ∀ a' w' mn' F', KeepF s a' → PS w0 w' B fb mn' (n + 1) F' → Q .normal a' w') : chW1.wp Try.prog Q (fr s) w := by
  have hb := h.hx
  have hq : xi * 5 + 1 < insM f * 5 := by omega
  have hP : insP f (xi * 5 + 1) = .i := by unfold insP; rw [if_neg (by omega)]
  obtain ⟨v, -, -, hc, hfz⟩ := h.ps.stat (rk_ins h.hf) h.fx (xi * 5 + 1) hq
  obtain ⟨F', hF'⟩ := h.ps.put (rk_ins h.hf) h.fx hq (x := to_) hP h.g3
  have HE := Lib.hid (hF'.mono (Nat.le_succ n))
  have c := h.c3
  rw [fr_lit]
  conv => arg 2; whnf
  rw [h.s4, h.s6]
  clear hF' hP hq hb h
  go_wp2
  exact hQ _ _ _ _ ⟨rfl, rfl, rfl, rfl, rfl, rfl⟩ HE.out
set_option maxRecDepth 100000 in
set_option maxHeartbeats 4000000 in
theorem way3 {s : Nat → Value} {w0 w : World} {B fb : Nat} {mn : Int} {n : Nat} {F : Nat → GRw} {cb f xi bi ib bb : Nat} {t to_ nn : Int} (h : Wy s w0 w B fb mn n F cb f xi bi ib bb t to_ nn) (Q : Exit → Act → World → Prop) (hQ : ∀ a' w' mn' F', KeepF s a' → PS w0 w' B fb mn' (n + 1) F' → Q .normal a' w') : chW3.wp Try.prog Q (fr s) w := by
  have hb := h.hx
  have hq : xi * 5 + 4 < insM f * 5 := by omega
  have hP : insP f (xi * 5 + 4) = .i := by unfold insP; rw [if_neg (by omega)]
  obtain ⟨v, -, -, hc, hfz⟩ := h.ps.stat (rk_ins h.hf) h.fx (xi * 5 + 4) hq
  obtain ⟨F', hF'⟩ := h.ps.put (rk_ins h.hf) h.fx hq (x := to_) hP h.g3
  have HE := Lib.hid (hF'.mono (Nat.le_succ n))
  have c := h.c3
  rw [fr_lit]
  conv => arg 2; whnf
  rw [h.s4, h.s6]
  clear hF' hP hq hb h
  go_wp2
  exact hQ _ _ _ _ ⟨rfl, rfl, rfl, rfl, rfl, rfl⟩ HE.out
set_option maxRecDepth 100000 in
set_option maxHeartbeats 4000000 in
theorem way2 {s : Nat → Value} {w0 w : World} {B fb : Nat} {mn : Int} {n : Nat} {F : Nat → GRw} {cb f xi bi ib bb : Nat} {t to_ nn : Int} (h : Wy s w0 w B fb mn n F cb f xi bi ib bb t to_ nn) (Q : Exit → Act → World → Prop) (hQ : ∀ a' w' mn' F', KeepF s a' → PS w0 w' B fb mn' (n + 1) F' → Q .normal a' w') : chW2.wp Try.prog Q (fr s) w := by
  have hb := h.hx
  have hq : xi * 5 + 3 < insM f * 5 := by omega
  have hP : insP f (xi * 5 + 3) = .i := by unfold insP; rw [if_neg (by omega)]
  obtain ⟨v, -, -, hc, hfz⟩ := h.ps.stat (rk_ins h.hf) h.fx (xi * 5 + 3) hq
  obtain ⟨F', hF'⟩ := h.ps.put (rk_ins h.hf) h.fx hq (x := nn) hP h.g4
  have HE := Lib.hid (hF'.mono (Nat.le_succ n))
  have c := h.c4
  rw [fr_lit]
  conv => arg 2; whnf
  rw [h.s4, h.s6]
  clear hF' hP hq hb h
  go_wp2
  exact hQ _ _ _ _ ⟨rfl, rfl, rfl, rfl, rfl, rfl⟩ HE.out
set_option maxRecDepth 100000 in
set_option maxHeartbeats 4000000 in
theorem way10 {s : Nat → Value} {w0 w : World} {B fb : Nat} {mn : Int} {n : Nat} {F : Nat → GRw} {cb f xi bi ib bb : Nat} {t to_ nn : Int} (h : Wy s w0 w B fb mn n F cb f xi bi ib bb t to_ nn) (Q : Exit → Act → World → Prop) (hQ : ∀ a' w' mn' F', KeepF s a' → PS w0 w' B fb mn' (n + 1) F' → Q .normal a' w') : chW10.wp Try.prog Q (fr s) w := by
  have hb := h.hb
  have hq : bi * 5 + 2 < blkM f * 5 := by omega
  have hP : blkP f (bi * 5 + 2) = .i := by unfold blkP; rw [if_neg (by omega), if_neg (by omega), if_neg (by omega)]
  obtain ⟨v, -, -, hc, hfz⟩ := h.ps.stat (rk_blk h.hf) h.fk (bi * 5 + 2) hq
  obtain ⟨F', hF'⟩ := h.ps.put (rk_blk h.hf) h.fk hq (x := to_) hP h.g3
  have HE := Lib.hid (hF'.mono (Nat.le_succ n))
  have c := h.c3
  rw [fr_lit]
  conv => arg 2; whnf
  rw [h.s4, h.s7]
  clear hF' hP hq hb h
  go_wp2
  exact hQ _ _ _ _ ⟨rfl, rfl, rfl, rfl, rfl, rfl⟩ HE.out
set_option maxRecDepth 100000 in
set_option maxHeartbeats 4000000 in
theorem way11 {s : Nat → Value} {w0 w : World} {B fb : Nat} {mn : Int} {n : Nat} {F : Nat → GRw} {cb f xi bi ib bb : Nat} {t to_ nn : Int} (h : Wy s w0 w B fb mn n F cb f xi bi ib bb t to_ nn) (Q : Exit → Act → World → Prop) (hQ : ∀ a' w' mn' F', KeepF s a' → PS w0 w' B fb mn' (n + 1) F' → Q .normal a' w') : chW11.wp Try.prog Q (fr s) w := by
  have hb := h.hb
  have hq : bi * 5 + 3 < blkM f * 5 := by omega
  have hP : blkP f (bi * 5 + 3) = .i := by unfold blkP; rw [if_neg (by omega), if_neg (by omega), if_neg (by omega)]
  obtain ⟨v, -, -, hc, hfz⟩ := h.ps.stat (rk_blk h.hf) h.fk (bi * 5 + 3) hq
  obtain ⟨F', hF'⟩ := h.ps.put (rk_blk h.hf) h.fk hq (x := to_) hP h.g3
  have HE := Lib.hid (hF'.mono (Nat.le_succ n))
  have c := h.c3
  rw [fr_lit]
  conv => arg 2; whnf
  rw [h.s4, h.s7]
  clear hF' hP hq hb h
  go_wp2
  exact hQ _ _ _ _ ⟨rfl, rfl, rfl, rfl, rfl, rfl⟩ HE.out
set_option maxRecDepth 100000 in
set_option maxHeartbeats 4000000 in
theorem way13 {s : Nat → Value} {w0 w : World} {B fb : Nat} {mn : Int} {n : Nat} {F : Nat → GRw} {cb f xi bi ib bb : Nat} {t to_ nn : Int} (h : Wy s w0 w B fb mn n F cb f xi bi ib bb t to_ nn) (Q : Exit → Act → World → Prop) (hQ : ∀ a' w' mn' F', KeepF s a' → PS w0 w' B fb mn' (n + 1) F' → Q .normal a' w') : chW13.wp Try.prog Q (fr s) w := by
  have hf0 : F 0 = ⟨43, 5, .slice (some ⟨fb, 0, none⟩) 2 2, 2, (F 0).xs⟩ := h.ps.f0
  have hb := h.hf
  have hq : f * 5 + 2 < 2 * 5 := by omega
  have hP : funP (f * 5 + 2) = .i := by unfold funP; rw [if_neg (by omega)]; rw [if_pos (by omega)]
  obtain ⟨v, -, -, hc, hfz⟩ := h.ps.stat rk_fun hf0 (f * 5 + 2) hq
  obtain ⟨F', hF'⟩ := h.ps.put rk_fun hf0 hq (x := to_) hP h.g3
  have HE := Lib.hid (hF'.mono (Nat.le_succ n))
  have c := h.c3
  rw [fr_lit]
  conv => arg 2; whnf
  rw [h.s4, h.s5]
  clear hF' hP hq hb h hf0
  go_wp2
  exact hQ _ _ _ _ ⟨rfl, rfl, rfl, rfl, rfl, rfl⟩ HE.out
set_option maxRecDepth 100000 in
set_option maxHeartbeats 4000000 in
theorem way15 {s : Nat → Value} {w0 w : World} {B fb : Nat} {mn : Int} {n : Nat} {F : Nat → GRw} {cb f xi bi ib bb : Nat} {t to_ nn : Int} (h : Wy s w0 w B fb mn n F cb f xi bi ib bb t to_ nn) (Q : Exit → Act → World → Prop) (hQ : ∀ a' w' mn' F', KeepF s a' → PS w0 w' B fb mn' (n + 1) F' → Q .normal a' w') : chS15.wp Try.prog Q (fr s) w := by
  have HE := Lib.hid ((h.ps.main h.g3).mono (Nat.le_succ n))
  have c := h.c3
  have x := Lib.cell_of_heap h.ps.p 1
  have y := Lib.frozen_of_heap h.ps.p 1
  have h2 := h.s2
  rw [fr_lit]
  conv => arg 2; whnf
  rw [h.s4, h2]
  clear h
  go_wp2
  exact hQ _ _ _ _ ⟨rfl, rfl, rfl, rfl, by rw [h2]; rfl, rfl⟩ HE.out
end Go.Proofs.Ythhjhdmdfneegaa
