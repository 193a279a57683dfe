/-
  How deep parts are, and what the parser's readers leave as it was.
-/
import Derived.Test.YtlgpbllkhbgppaaGreatDoorJn7
namespace Go.Proofs.YtlgpbllkhbgppaaGreatDoor
set_option linter.unusedVariables false
set_option linter.unusedSimpArgs false
open Go.RowKit

/-- Neither blocks nor brackets are left open. -/
def Even (s s' : PS) : Prop := s'.nest = s.nest ∧ s'.deep = s.deep
theorem Even.refl (s : PS) : Even s s := ⟨rfl, rfl⟩
theorem Even.trans {a b c : PS} (h : Even a b) (k : Even b c) : Even a c := ⟨k.1.trans h.1, k.2.trans h.2⟩
theorem even_next (s : PS) : Even s s.next := by unfold PS.next; split <;> exact ⟨rfl, rfl⟩
theorem even_fail (s : PS) (k a : Int) : Even s (s.fail k a) := ⟨rfl, rfl⟩
theorem even_refuse (s : PS) (t : Tk) : Even s (s.refuse t) := ⟨rfl, rfl⟩
theorem even_need1 (s : PS) (x : List UInt8) : Even s (s.need1 x) := by unfold PS.need1; split; all_goals first | exact even_next s | exact even_refuse s _
theorem even_take (s : PS) (x : List UInt8) : Even s (s.takeP x) := by unfold PS.takeP; split; all_goals first | exact even_next s | exact Even.refl s
theorem even_name (s : PS) : Even s s.nameP := by unfold PS.nameP; split; all_goals first | exact even_next s | exact (even_next s).trans (even_refuse _ _)
theorem even_needs (l : List (List UInt8)) (s : PS) : Even s (PS.needs l s) := by
  induction l generalizing s with
  | nil => exact Even.refl s
  | cons x r ih => exact (even_need1 s x).trans (ih _)
theorem enter_nest (s : PS) : s.enter.nest = s.nest + 1 ∧ s.enter.deep = s.deep := by unfold PS.enter; split <;> exact ⟨rfl, rfl⟩
theorem leave_nest (s : PS) : s.leave.nest = s.nest - 1 ∧ s.leave.deep = s.deep := ⟨rfl, rfl⟩
/-- What is between entering and leaving is even. -/
theorem even_in {s s2 : PS} (h : Even s.enter s2) : Even s s2.leave := by
  have h1 := enter_nest s
  have h2 := leave_nest s2
  refine ⟨?_, ?_⟩
  · rw [h2.1, h.1, h1.1]; omega
  · rw [h2.2, h.2, h1.2]
theorem even_whole (s : PS) (k a o n : Int) (x : ByteArray) (l : List Part) : Even s (wholeP s k a o n x l).2 := by unfold wholeP; split; all_goals first | exact even_fail s _ _ | exact Even.refl s
theorem even_counted (lo hi : Nat) (s : PS) (k a o n : Int) (x : ByteArray) (l : List Part) : Even s (countedP lo hi s k a o n x l).2 := by
  unfold countedP
  split
  · exact (even_fail s _ _).trans (even_whole _ _ _ _ _ _ _)
  · exact even_whole _ _ _ _ _ _ _
theorem deep_nn (l : List Part) : 0 ≤ deepest l := by
  cases l with
  | nil => exact Int.le_refl _
  | cons x r =>
    induction r generalizing x with
    | nil => simp [deepest]; omega
    | cons y r ih => have := ih y; simp only [deepest] at this ⊢; omega
theorem deep_le (l : List Part) (B : Int) (hB : 0 ≤ B) (h : ∀ p ∈ l, p.2 ≤ B) : deepest l ≤ B := by
  induction l with
  | nil => simpa [deepest]
  | cons x r ih =>
    have h1 := h x (by simp)
    have h2 := ih (fun p hp => h p (by simp [hp]))
    simp only [deepest]
    omega
theorem whole_deep (s : PS) (k a o n : Int) (x : ByteArray) (l : List Part) (B : Int) (hB : 0 ≤ B) (h : ∀ p ∈ l, p.2 ≤ B) : 0 ≤ (wholeP s k a o n x l).1.2 ∧ (wholeP s k a o n x l).1.2 ≤ B + 1 := by
  have h1 := deep_nn l
  have h2 := deep_le l B hB h
  unfold wholeP
  exact ⟨by simp; omega, by simp; omega⟩
theorem counted_deep (lo hi : Nat) (s : PS) (k a o n : Int) (x : ByteArray) (l : List Part) (B : Int) (hB : 0 ≤ B) (h : ∀ p ∈ l, p.2 ≤ B) : 0 ≤ (countedP lo hi s k a o n x l).1.2 ∧ (countedP lo hi s k a o n x l).1.2 ≤ B + 1 := whole_deep _ _ _ _ _ _ _ B hB h
/-- So deep a part can be that was read with so much fuel. -/
def mostD (k : Nat) : Int := ((k * k : Nat) : Int)
theorem mostD_succ (k : Nat) : mostD (k + 1) = mostD k + 2 * (k : Int) + 1 := by
  unfold mostD
  have : (k + 1) * (k + 1) = k * k + 2 * k + 1 := by rw [Nat.add_mul, Nat.mul_add]; omega
  rw [this]
  omega
theorem mostD_nn (k : Nat) : 0 ≤ mostD k := by unfold mostD; omega
/-- What the readers of expressions come to. -/
structure Pure (k : Nat) : Prop where
  expr : ∀ s r, exprK k s = some r → Even s r.2 ∧ 0 ≤ r.1.2 ∧ r.1.2 ≤ mostD k
  betw : ∀ least s r, betwK k least s = some r → Even s r.2 ∧ 0 ≤ r.1.2 ∧ r.1.2 ≤ mostD k
  loop : ∀ least (l : Part) s r, 0 ≤ l.2 → loopK k least l s = some r → Even s r.2 ∧ 0 ≤ r.1.2 ∧ r.1.2 ≤ max l.2 (mostD k) + k
  ahead : ∀ s r, aheadK k s = some r → Even s r.2 ∧ 0 ≤ r.1.2 ∧ r.1.2 ≤ mostD k
  index : ∀ (f : Part) s r, 0 ≤ f.2 → indexK k f s = some r → Even s r.2 ∧ 0 ≤ r.1.2 ∧ r.1.2 ≤ max f.2 (mostD k) + k
  parts : ∀ o e s r, partsK k o e s = some r → Even s r.2 ∧ r.1.length ≤ k ∧ ∀ p ∈ r.1, 0 ≤ p.2 ∧ p.2 ≤ mostD k
  many : ∀ (B : Int) (l : List Part) s r, mostD k ≤ B → (∀ p ∈ l, 0 ≤ p.2 ∧ p.2 ≤ B) → manyK k l s = some r → Even s r.2 ∧ r.1.length ≤ l.length + k ∧ ∀ p ∈ r.1, 0 ≤ p.2 ∧ p.2 ≤ B
  first : ∀ s r, firstK k s = some r → Even s r.2 ∧ 0 ≤ r.1.2 ∧ r.1.2 ≤ mostD k
  called : ∀ t s r, calledK k t s = some r → Even s r.2 ∧ 0 ≤ r.1.2 ∧ r.1.2 ≤ mostD k
  kept : ∀ t s r, keptK k t s = some r → Even s r.2 ∧ 0 ≤ r.1.2 ∧ r.1.2 ≤ mostD k
theorem all_snoc {P : Part → Prop} {l : List Part} {x : Part} (h : ∀ p ∈ l, P p) (hx : P x) : ∀ p ∈ l ++ [x], P p := fun p hp => by
  simp only [List.mem_append, List.mem_singleton] at hp
  rcases hp with hp | rfl
  · exact h p hp
  · exact hx
theorem pure_zero : Pure 0 where
  expr := fun s r h => by simp [exprK] at h
  betw := fun _ s r h => by simp [betwK] at h
  loop := fun _ _ s r _ h => by simp [loopK] at h
  ahead := fun s r h => by simp [aheadK] at h
  index := fun _ s r _ h => by simp [indexK] at h
  parts := fun _ _ s r h => by simp [partsK] at h
  many := fun _ _ s r _ _ h => by simp [manyK] at h
  first := fun s r h => by simp [firstK] at h
  called := fun _ s r h => by simp [calledK] at h
  kept := fun _ s r h => by simp [keptK] at h
theorem pure_leaf (k : Nat) (s : PS) (c a o n : Int) (x : ByteArray) : Even s (wholeP s c a o n x []).2 ∧ 0 ≤ (wholeP s c a o n x []).1.2 ∧ (wholeP s c a o n x []).1.2 ≤ mostD (k + 1) := by
  have h1 := whole_deep s c a o n x [] 0 (by omega) (fun p hp => by simp at hp)
  have h2 := mostD_succ k
  have h3 := mostD_nn k
  exact ⟨even_whole _ _ _ _ _ _ _, h1.1, by omega⟩
theorem pure_succ (k : Nat) (ih : Pure k) : Pure (k + 1) where
  expr := fun s r h => by
    have h2 := mostD_succ k
    obtain ⟨h3, h4, h5⟩ := ih.betw 1 s r (by simpa only [exprK] using h)
    exact ⟨h3, h4, by omega⟩
  betw := fun least s r h => by
    have h2 := mostD_succ k
    simp only [betwK] at h
    cases ha : aheadK k s with
    | none => rw [ha] at h; cases h
    | some q =>
      rw [ha] at h
      obtain ⟨l, s1⟩ := q
      obtain ⟨h3, h4, h5⟩ := ih.ahead s _ ha
      obtain ⟨h6, h7, h8⟩ := ih.loop least l s1 r h4 h
      simp only at h3 h4 h5
      exact ⟨h3.trans h6, h7, by omega⟩
  loop := fun least l s r hl h => by
    have h2 := mostD_succ k
    have h0 := mostD_nn k
    simp only [loopK] at h
    split at h
    · simp only [Option.some.injEq] at h
      subst h
      exact ⟨Even.refl s, hl, by simp only; omega⟩
    · cases hb : betwK k (rankOf s.now.bytes + 1) s.next with
      | none => rw [hb] at h; cases h
      | some q =>
        rw [hb] at h
        obtain ⟨rr, s2⟩ := q
        obtain ⟨h3, h4, h5⟩ := ih.betw _ _ _ hb
        simp only at h h3 h4 h5
        have hw := whole_deep s2 (kindOf (rankOf s.now.bytes)) s.now.at_ (opOf s.now.bytes) 0 ⟨#[]⟩ [l, rr] (max l.2 (mostD k)) (by omega) (fun p hp => by
          simp only [List.mem_cons, List.not_mem_nil, or_false] at hp
          rcases hp with rfl | rfl <;> omega)
        have he := even_whole s2 (kindOf (rankOf s.now.bytes)) s.now.at_ (opOf s.now.bytes) 0 ⟨#[]⟩ [l, rr]
        obtain ⟨h6, h7, h8⟩ := ih.loop least _ _ r hw.1 h
        refine ⟨((even_next s).trans (h3.trans he)).trans (Even.trans ?_ h6), h7, by omega⟩
        split
        · exact even_refuse _ _
        · exact Even.refl _
  ahead := fun s r h => by
    have h2 := mostD_succ k
    have h0 := mostD_nn k
    simp only [aheadK] at h
    split at h
    · cases hf : firstK k s with
      | none => rw [hf] at h; cases h
      | some q =>
        rw [hf] at h
        obtain ⟨f, s1⟩ := q
        obtain ⟨h3, h4, h5⟩ := ih.first s _ hf
        obtain ⟨h6, h7, h8⟩ := ih.index f s1 r h4 h
        simp only at h3 h4 h5
        exact ⟨h3.trans h6, h7, by omega⟩
    · cases hf : aheadK k s.next.enter with
      | none => rw [hf] at h; cases h
      | some q =>
        rw [hf] at h
        obtain ⟨x, s2⟩ := q
        obtain ⟨h3, h4, h5⟩ := ih.ahead _ _ hf
        simp only [Option.some.injEq] at h h3 h4 h5
        subst h
        have hw := whole_deep s2 4 s.now.at_ (turnOf s.now.bytes) 0 ⟨#[]⟩ [x] (mostD k) h0 (fun p hp => by
          simp only [List.mem_singleton] at hp
          rw [hp]; exact h5)
        have he := even_whole s2 4 s.now.at_ (turnOf s.now.bytes) 0 ⟨#[]⟩ [x]
        exact ⟨(even_next s).trans (even_in (h3.trans he)), hw.1, by simp only; omega⟩
  index := fun f s r hf h => by
    have h2 := mostD_succ k
    have h0 := mostD_nn k
    simp only [indexK] at h
    split at h
    · cases hp : partsK k ([91] : List UInt8) ([93] : List UInt8) s with
      | none => rw [hp] at h; cases h
      | some q =>
        rw [hp] at h
        obtain ⟨l, s1⟩ := q
        obtain ⟨h3, h4, h5⟩ := ih.parts _ _ _ _ hp
        simp only at h h3 h5
        have hw := counted_deep 2 3 s1 9 s.now.at_ 0 0 ⟨#[]⟩ (f :: l) (max f.2 (mostD k)) (by omega) (fun p hp => by
          simp only [List.mem_cons] at hp
          rcases hp with rfl | hp
          · omega
          · have := h5 p hp; omega)
        have he := even_counted 2 3 s1 9 s.now.at_ 0 0 ⟨#[]⟩ (f :: l)
        obtain ⟨h6, h7, h8⟩ := ih.index _ _ r hw.1 h
        exact ⟨(h3.trans he).trans h6, h7, by omega⟩
    · simp only [Option.some.injEq] at h
      subst h
      exact ⟨Even.refl s, hf, by simp only; omega⟩
  parts := fun o e s r h => by
    have h2 := mostD_succ k
    simp only [partsK] at h
    split at h
    · simp only [Option.some.injEq] at h
      subst h
      exact ⟨(even_need1 s o).trans (even_in (even_need1 _ e)), by simp, fun p hp => by simp at hp⟩
    · cases hm : manyK k [] (s.need1 o).enter with
      | none => rw [hm] at h; cases h
      | some q =>
        rw [hm] at h
        obtain ⟨l, s2⟩ := q
        obtain ⟨h3, h4, h5⟩ := ih.many (mostD k) [] _ _ (Int.le_refl _) (fun p hp => by simp at hp) hm
        simp only [Option.some.injEq] at h h3 h4 h5
        subst h
        refine ⟨(even_need1 s o).trans (even_in (h3.trans (even_need1 _ e))), by simp at h4 ⊢; omega, fun p hp => ?_⟩
        have := h5 p hp
        exact ⟨this.1, by omega⟩
  many := fun B l s r hB hl h => by
    have h2 := mostD_succ k
    simp only [manyK] at h
    cases hx : exprK k s with
    | none => rw [hx] at h; cases h
    | some q =>
      rw [hx] at h
      obtain ⟨x, s1⟩ := q
      obtain ⟨h3, h4, h5⟩ := ih.expr _ _ hx
      simp only at h h3 h4 h5
      have hl2 := all_snoc (P := fun p => 0 ≤ p.2 ∧ p.2 ≤ B) hl (x := x) ⟨h4, by omega⟩
      split at h
      · obtain ⟨h6, h7, h8⟩ := ih.many B _ _ r (by omega) hl2 h
        refine ⟨(h3.trans (even_next s1)).trans h6, ?_, h8⟩
        simp at h7
        omega
      · simp only [Option.some.injEq] at h
        subst h
        exact ⟨h3, by simp, hl2⟩
  first := fun s r h => by
    have h2 := mostD_succ k
    simp only [firstK] at h
    split at h
    · cases hx : exprK k (s.need1 ([40] : List UInt8)).enter with
      | none => rw [hx] at h; cases h
      | some q =>
        rw [hx] at h
        obtain ⟨x, s2⟩ := q
        obtain ⟨h3, h4, h5⟩ := ih.expr _ _ hx
        simp only [Option.some.injEq] at h h3 h4 h5
        subst h
        exact ⟨(even_need1 s _).trans (even_in (h3.trans (even_need1 _ _))), h4, by simp only; omega⟩
    · split at h
      · simp only [Option.some.injEq] at h
        subst h
        have := pure_leaf k s.next 1 s.now.at_ 0 s.now.num ⟨#[]⟩
        exact ⟨(even_next s).trans this.1, this.2⟩
      · split at h
        · obtain ⟨h3, h4, h5⟩ := ih.called _ _ _ h
          exact ⟨(even_next s).trans h3, h4, by omega⟩
        · obtain ⟨h3, h4, h5⟩ := ih.kept _ _ _ h
          exact ⟨(even_next s).trans h3, h4, by omega⟩
  called := fun t s r h => by
    have h2 := mostD_succ k
    have h0 := mostD_nn k
    simp only [calledK] at h
    split at h
    · cases hp : partsK k ([40] : List UInt8) ([41] : List UInt8) s with
      | none => rw [hp] at h; cases h
      | some q =>
        rw [hp] at h
        obtain ⟨l, s1⟩ := q
        obtain ⟨h3, h4, h5⟩ := ih.parts _ _ _ _ hp
        simp only [Option.some.injEq] at h h3 h5
        subst h
        have hw := whole_deep s1 8 t.at_ 0 0 (strB t.bytes) l (mostD k) h0 (fun p hp => (h5 p hp).2)
        exact ⟨h3.trans (even_whole _ _ _ _ _ _ _), hw.1, by omega⟩
    · simp only [Option.some.injEq] at h
      subst h
      exact pure_leaf k s 3 t.at_ 0 0 (strB t.bytes)
  kept := fun t s r h => by
    have h2 := mostD_succ k
    have h0 := mostD_nn k
    simp only [keptK] at h
    split at h
    · simp only [Option.some.injEq] at h; subst h; exact pure_leaf k s _ _ _ _ _
    · split at h
      · simp only [Option.some.injEq] at h; subst h; exact pure_leaf k s _ _ _ _ _
      · split at h
        · simp only [Option.some.injEq] at h; subst h; exact pure_leaf k s _ _ _ _ _
        · split at h
          · cases hp : partsK k ([91] : List UInt8) ([93] : List UInt8) s with
            | none => rw [hp] at h; cases h
            | some q =>
              rw [hp] at h
              obtain ⟨l, s1⟩ := q
              obtain ⟨h3, h4, h5⟩ := ih.parts _ _ _ _ hp
              simp only [Option.some.injEq] at h h3 h5
              subst h
              have hw := counted_deep 1 2 s1 10 t.at_ 0 0 ⟨#[]⟩ l (mostD k) h0 (fun p hp => (h5 p hp).2)
              exact ⟨h3.trans (even_counted _ _ _ _ _ _ _ _ _), hw.1, by omega⟩
          · split at h
            · cases hp : partsK k ([40] : List UInt8) ([41] : List UInt8) s with
              | none => rw [hp] at h; cases h
              | some q =>
                rw [hp] at h
                obtain ⟨l, s1⟩ := q
                obtain ⟨h3, h4, h5⟩ := ih.parts _ _ _ _ hp
                simp only [Option.some.injEq] at h h3 h5
                subst h
                have hw := counted_deep 1 1 s1 (if t.bytes == ([108, 101, 110] : List UInt8) then 11 else if t.bytes == ([114, 111, 119, 115] : List UInt8) then 12 else 13) t.at_ 0 0 ⟨#[]⟩ l (mostD k) h0 (fun p hp => (h5 p hp).2)
                exact ⟨h3.trans (even_counted _ _ _ _ _ _ _ _ _), hw.1, by omega⟩
            · simp only [Option.some.injEq] at h
              subst h
              have := pure_leaf k (s.refuse t) 0 t.at_ 0 0 ⟨#[]⟩
              exact ⟨(even_refuse s t).trans this.1, this.2⟩
theorem pure_all : ∀ k, Pure k
  | 0 => pure_zero
  | k + 1 => pure_succ k (pure_all k)
end Go.Proofs.YtlgpbllkhbgppaaGreatDoor
