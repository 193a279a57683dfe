/-
  Rows of a call's own, many at once: each has its own block.
-/
import Derived.Test.YtdjpjonikceadaaIrE
namespace Go.Proofs.Ytdjpjonikceadaa
open Go.RowKit
set_option linter.unusedVariables false
set_option linter.unusedSimpArgs false

/-- A row: of which type, how many cells an element has, where it lies, how many elements, its cells. -/
structure Rw where
  T : TypeId
  z : Nat
  v : Value
  n : Nat
  xs : List Value
/-- Rows by numbers; no two share a block. -/
structure Fam (w : World) (base E : Nat) (F : Nat → Rw) : Prop where
  el : E < w.heap.size
  av : ∀ k, (F k).v.ownBlock ≠ some E
  own : ∀ k, w.ownsRow base (F k).T (F k).z (F k).v (F k).n (F k).xs
  ne : ∀ k l, k ≠ l → (F k).v.ownBlock = none ∨ (F k).v.ownBlock ≠ (F l).v.ownBlock
def upR (F : Nat → Rw) (k : Nat) (r : Rw) : Nat → Rw := fun j => if j = k then r else F j
theorem upR_at (F : Nat → Rw) (k : Nat) (r : Rw) : upR F k r k = r := by simp [upR]
theorem upR_off (F : Nat → Rw) (k j : Nat) (r : Rw) (h : j ≠ k) : upR F k r j = F j := by simp [upR, h]
theorem Fam.keep {w w' : World} {base E : Nat} {F : Nat → Rw} (h : Fam w base E F) (hb : Below w.heap.size w w') : Fam w' base E F :=
  ⟨Nat.lt_of_lt_of_le h.el hb.size, h.av, fun k => own_up (h.own k) hb, h.ne⟩
theorem Fam.bu {w w' : World} {base E : Nat} {F : Nat → Rw} (h : Fam w base E F) (hb : Bu E w w') : Fam w' base E F :=
  ⟨Nat.lt_of_lt_of_le h.el hb.size, h.av, fun k => (h.own k).kept (row := some E) ⟨hb.os, hb.tape, hb.output, hb.size, fun j hj hne => hb.block j hj (fun e => hne (by rw [e]))⟩ (.inr (h.av k)), h.ne⟩
/-- One row is another one now: in its own block, or in a new one, or nothing. -/
theorem Fam.grown {w w' : World} {base E : Nat} {F : Nat → Rw} (h : Fam w base E F) (k : Nat) (hg : w.grownBy w' (F k).v.ownBlock) (r : Rw) (hown : w'.ownsRow base r.T r.z r.v r.n r.xs)
    (hat : ∀ g, r.v.ownBlock = some g → (F k).v.ownBlock = some g ∨ w.heap.size ≤ g) : Fam w' base E (upR F k r) := by
  refine ⟨Nat.lt_of_lt_of_le h.el hg.size, fun j => ?_, fun j => ?_, fun i j hij => ?_⟩
  · by_cases hj : j = k
    · subst hj
      rw [upR_at]
      intro e
      rcases hat E e with h1 | h1
      · exact h.av j h1
      · have := h.el; omega
    · rw [upR_off _ _ _ _ hj]; exact h.av j
  · by_cases hj : j = k
    · subst hj; rw [upR_at]; exact hown
    · rw [upR_off _ _ _ _ hj]; exact (h.own j).kept hg (h.ne j k hj)
  · by_cases hi : i = k
    · subst hi
      rw [upR_at, upR_off _ _ _ _ (fun e => hij e.symm)]
      cases hr : r.v.ownBlock with
      | none => exact .inl rfl
      | some g =>
        refine .inr (fun e => ?_)
        rcases hat g hr with h1 | h1
        · rcases h.ne i j hij with h2 | h2
          · rw [h1] at h2; cases h2
          · exact h2 (h1.trans e)
        · have := ((h.own j).lt g e.symm).2; omega
    · rw [upR_off _ _ _ _ hi]
      by_cases hj : j = k
      · subst hj
        rw [upR_at]
        cases hf : (F i).v.ownBlock with
        | none => exact .inl rfl
        | some g =>
          refine .inr (fun e => ?_)
          rcases hat g e.symm with h1 | h1
          · rcases h.ne i j hij with h2 | h2
            · rw [hf] at h2; cases h2
            · exact h2 (hf.trans h1.symm)
          · have := ((h.own i).lt g hf).2; omega
      · rw [upR_off _ _ _ _ hj]; exact h.ne i j hij
theorem grown_below {w a w' : World} {row : Option Nat} (hb : Below w.heap.size w a) (hg : a.grownBy w' row) : w.grownBy w' row :=
  ⟨hg.os.trans hb.os, hg.tape.trans hb.tape, hg.output.trans hb.output, Nat.le_trans hb.size hg.size, fun k hk hn => (hg.block k (Nat.lt_of_lt_of_le hk hb.size) hn).trans (hb.block k hk)⟩
/-- A store into a row. -/
theorem Fam.put {w : World} {base E : Nat} {F : Nat → Rw} (h : Fam w base E F) {k : Nat} {T : TypeId} {z g n c : Nat} {xs : List Value} (hk : F k = ⟨T, z, .slice (some ⟨g, 0, none⟩) n c, n, xs⟩) (j : Nat) (u : Value) :
    Fam (w.setCell ⟨g, j, none⟩ u) base E (upR F k ⟨T, z, .slice (some ⟨g, 0, none⟩) n c, n, xs.set j u⟩) ∧ w.grownBy (w.setCell ⟨g, j, none⟩ u) (some g) := by
  have ho : w.ownsRow base T z (.slice (some ⟨g, 0, none⟩) n c) n xs := by have := h.own k; rw [hk] at this; exact this
  obtain ⟨s1, s2⟩ := ho.stored j u
  exact ⟨h.grown k (by rw [hk]; exact s2) _ s1 (fun g' e => .inl (by rw [hk]; exact e)), s2⟩
theorem Fam.at {w : World} {base E : Nat} {F : Nat → Rw} (h : Fam w base E F) {k : Nat} {r : Rw} (hk : F k = r) : w.ownsRow base r.T r.z r.v r.n r.xs := by have := h.own k; rw [hk] at this; exact this
theorem Fam.apart {w : World} {base E : Nat} {F : Nat → Rw} (h : Fam w base E F) {k l : Nat} (hn : k ≠ l) {r s : Rw} (hk : F k = r) (hl : F l = s) {g : Nat} (hg : s.v.ownBlock = some g) : some g ≠ r.v.ownBlock := fun e => by
  rcases h.ne k l hn with h | h
  · rw [hk] at h; rw [h] at e; cases e
  · rw [hk, hl, hg] at h; exact h e.symm
/-- Below base all but one block is as it was. -/
structure Bd (E base : Nat) (w w' : World) : Prop where
  os : w'.os = w.os
  tape : w'.tape = w.tape
  output : w'.output = w.output
  size : w.heap.size ≤ w'.heap.size
  block : ∀ k, k < base → k ≠ E → w'.heap[k]? = w.heap[k]?
theorem Bd.refl (E base : Nat) (w : World) : Bd E base w w := ⟨rfl, rfl, rfl, Nat.le_refl _, fun _ _ _ => rfl⟩
theorem Bd.trans {E base : Nat} {a b c : World} (h : Bd E base a b) (k : Bd E base b c) : Bd E base a c :=
  ⟨k.os.trans h.os, k.tape.trans h.tape, k.output.trans h.output, Nat.le_trans h.size k.size, fun i hi hg => (k.block i hi hg).trans (h.block i hi hg)⟩
theorem Bd.of_below {E base : Nat} {w w' : World} (h : Below w.heap.size w w') (hb : base ≤ w.heap.size) : Bd E base w w' := ⟨h.os, h.tape, h.output, h.size, fun k hk _ => h.block k (by omega)⟩
theorem Bd.of_bu {E base : Nat} {w w' : World} (h : Bu E w w') (hb : base ≤ w.heap.size) : Bd E base w w' := ⟨h.os, h.tape, h.output, h.size, fun k hk hn => h.block k (by omega) hn⟩
theorem Bd.of_grown {E base : Nat} {w w' : World} {row : Option Nat} (h : w.grownBy w' row) (hr : ∀ g, row = some g → base ≤ g) (hb : base ≤ w.heap.size) : Bd E base w w' := ⟨h.os, h.tape, h.output, h.size, fun k hk _ => h.block k (by omega) (fun e => by have := hr k e.symm; omega)⟩
theorem Bd.below {E base B : Nat} {a w w' : World} (h : Bd E base w w') (ha : Below B a w) (hg : B ≤ E) (hB : B ≤ base) : Below B a w' :=
  ha.trans ⟨h.os, h.tape, h.output, h.size, fun k hk => h.block k (by omega) (by omega)⟩
/-- The function that is changed. -/
def EdC (w : World) (E : Nat) (IV BV : Value) : Prop := w.heap[E]? = some (.cells #[.string ⟨#[]⟩, .slice none 0 0, .int .i64 0, IV, BV] 51 (0, 0))
theorem own_slice {w : World} {base : Nat} {T : TypeId} {z : Nat} {v : Value} {n : Nat} {xs : List Value} (h : w.ownsRow base T z v n xs) : ∃ A c, v = .slice A n c := by
  rcases h.2 with ⟨rfl, h0⟩ | ⟨g, cap, cur, hv, _⟩
  · subst h0; exact ⟨none, 0, rfl⟩
  · exact ⟨_, _, hv⟩
def zero5 : List Value := [.slice none 0 0, .slice none 0 0, .int .i64 0, .int .i64 0, .slice none 0 0]

set_option maxRecDepth 100000 in
set_option maxHeartbeats 4000000 in
/-- A block is made. -/
theorem block_new (E base N : Nat) (IV BV : Value) (bs : List Value) (F : Nat → Rw) (w : World) (hE : EdC w E IV BV) (hF : Fam w base E F) (h0 : F 0 = ⟨46, 5, BV, N, bs⟩) (hb : base ≤ w.heap.size) (hN : N ≤ 1000) :
    Calls Try.prog 9 #[.pointer (some ⟨E, 0, none⟩)] w fun e w' => e = .returned (.int .i64 N) ∧ Bd E base w w' ∧ ∃ g c, EdC w' E IV (.slice (some ⟨g, 0, none⟩) (N + 1) c) ∧ Fam w' base E (upR F 0 ⟨46, 5, .slice (some ⟨g, 0, none⟩) (N + 1) c, N + 1, bs ++ zero5⟩) := by
  have hown : w.ownsRow base 46 5 BV N bs := by have := hF.own 0; rw [h0] at this; exact this
  obtain ⟨V, C, hV⟩ := own_slice hown
  subst hV
  unfold EdC at hE
  obtain ⟨c0, c1, c2, c3, c4, cf⟩ := cells5 hE
  obtain ⟨A, hA, hbA, hzA, h0A⟩ := r_one_al w #[.slice none 0 0, .slice none 0 0, .int .i64 0, .int .i64 0, .slice none 0 0] 46
  have HOW := Lib.hid (own_up hown hbA)
  have HNW := Lib.hid (World.news_of_block h0A)
  have HO : Hid (∀ u ∈ ([.slice none 0 0, .slice none 0 0, .int .i64 0, .int .i64 0, .slice none 0 0] : List Value), u.oneCell' = true) := Lib.hid (by
    intro u hu
    simp only [List.mem_cons, List.not_mem_nil, or_false] at hu
    rcases hu with rfl | rfl | rfl | rfl | rfl <;> rfl)
  have hsz : base ≤ A.heap.size := by omega
  have hEl : E < w.heap.size := hF.el
  obtain ⟨i0, hi, hz0, hz1, hz2⟩ := info_parts infoBlock
  have Hi := Lib.hid hi
  have Hz0 := Lib.hid hz0
  have Hz1 := Lib.hid hz1
  have Hz2 := Lib.hid hz2
  have HE := Lib.hid hE
  have HF := Lib.hid hF
  have H0 := Lib.hid h0
  have Hown := Lib.hid hown
  have HbA := Lib.hid hbA
  have HzA := Lib.hid hzA
  rw [hA] at HOW HNW hsz
  have HA := Lib.hid hA
  clear hE hF h0 hown hA hbA hzA h0A hi hz0 hz1 hz2
  go_enter Try.func9, Try.ntmps9
  go_wp2_with (at_builtin; refine wpList_append_lies _ rfl (.tmp 10) (.tmp 12) 28 rfl base 46 i0 (.agg #[.slice none 0 0, .slice none 0 0, .int .i64 0, .int .i64 0, .slice none 0 0]) 5 88 Try.underlying28 Hi.out Hz0.out Hz1.out Hz2.out rfl (by decide) (.slice V N C) N bs rfl HOW.out ⟨w.heap.size, 0, none⟩ 1 1 [.slice none 0 0, .slice none 0 0, .int .i64 0, .int .i64 0, .slice none 0 0] rfl rfl HNW.out HO.out (by decide) (by unfold maxLen; omega) (by omega) hsz _ rfl ?_)
  intro gp cp w2 hown2 hgrow hat hlt2
  rw [← HA.out] at hgrow
  clear HOW HNW hsz
  have hlt := fun b hb => Hown.out.lt b hb
  have hnE : some E ≠ (Value.slice V N C).ownBlock := fun e => by have := HF.out.av 0; rw [H0.out] at this; exact this e.symm
  have hE2 : w2.heap[E]? = some (.cells #[.string ⟨#[]⟩, .slice none 0 0, .int .i64 0, IV, .slice V N C] 51 (0, 0)) := (hgrow.block E (by have := HbA.out.size; omega) hnE).trans ((HbA.out.block E hEl).trans HE.out)
  have d4 := Lib.cell_of_heap hE2 4
  have f4 := Lib.frozen_of_heap hE2 4
  have hE3 := heap_put hE2 4 (.slice (some ⟨gp, 0, none⟩) (N + 1) cp)
  have hg0 : w.grownBy w2 (F 0).v.ownBlock := by rw [H0.out]; exact grown_below HbA.out hgrow
  have hF2 := HF.out.grown 0 hg0 ⟨46, 5, .slice (some ⟨gp, 0, none⟩) (N + 1) cp, N + 1, bs ++ zero5⟩ hown2 (fun g e => by
    simp only [Value.ownBlock, Option.some.injEq] at e
    subst e
    rw [H0.out]
    rcases hat with h | h
    · exact .inl h
    · exact .inr (by omega))
  have hbu : Bu E w2 (w2.setCell ⟨E, 4, none⟩ (.slice (some ⟨gp, 0, none⟩) (N + 1) cp)) := (Bu.refl E w2).setCell (Or.inl rfl) _
  have hbs2 : base ≤ w2.heap.size := Nat.le_trans hb hg0.size
  have hd := (Bd.of_grown (E := E) hg0 (fun g e => by rw [H0.out] at e; exact (hlt g e).1) hb).trans (Bd.of_bu (base := base) hbu hbs2)
  have hend := Lib.hid (And.intro hd (And.intro hE3 (hF2.bu hbu)))
  obtain ⟨w3, hw3⟩ : ∃ w3, w3 = w2.setCell ⟨E, 4, none⟩ (.slice (some ⟨gp, 0, none⟩) (N + 1) cp) := ⟨_, rfl⟩
  rw [← hw3] at hend
  have e4 : w3.cell? ⟨E, 4, none⟩ = some (.slice (some ⟨gp, 0, none⟩) (N + 1) cp) := by rw [hw3]; exact Lib.cell_of_heap hE3 4
  have Hw3 := Lib.hid hw3
  clear hE3 hF2 hbu hd hE2 hown2 hgrow hat hlt2 hg0 hbs2 hw3 hlt hnE
  go_upto_region 4 with fail
  rw [← Hw3.out]
  go_wp2
  go_ret
  exact ⟨rfl, hend.out.1, gp, cp, hend.out.2.1, hend.out.2.2⟩
end Go.Proofs.Ytdjpjonikceadaa
