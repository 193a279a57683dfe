/-
  So much fuel suffices; what is left is the end of what was left.
  Statements, blocks, functions: what is left open; so much fuel suffices.
-/
import Derived.Test.YtlgpbllkhbgppaaGreatDoorJn13
namespace Go.Proofs.YtlgpbllkhbgppaaGreatDoor
set_option linter.unusedVariables false
set_option linter.unusedSimpArgs false
open Go.RowKit

/-- What is left is the end of what was left. -/
def Sub (s s' : PS) : Prop := s'.left <:+ s.left
theorem Sub.refl (s : PS) : Sub s s := List.suffix_refl _
theorem Sub.trans {a b c : PS} (h : Sub a b) (k : Sub b c) : Sub a c := List.IsSuffix.trans k h
theorem Sub.len {a b : PS} (h : Sub a b) : b.left.length ≤ a.left.length := h.length_le
theorem sub_next (s : PS) : Sub s s.next := by unfold PS.next; split; exact Sub.refl s; exact List.tail_suffix _
theorem sub_fail (s : PS) (k a : Int) : Sub s (s.fail k a) := List.nil_suffix
theorem sub_refuse (s : PS) (t : Tk) : Sub s (s.refuse t) := List.nil_suffix
theorem sub_need1 (s : PS) (x : List UInt8) : Sub s (s.need1 x) := by unfold PS.need1; split; all_goals first | exact sub_next s | exact sub_refuse s _
theorem sub_take (s : PS) (x : List UInt8) : Sub s (s.takeP x) := by unfold PS.takeP; split; all_goals first | exact sub_next s | exact Sub.refl s
theorem sub_name (s : PS) : Sub s s.nameP := by unfold PS.nameP; split; all_goals first | exact sub_next s | exact (sub_next s).trans (sub_refuse _ _)
theorem sub_needs (l : List (List UInt8)) (s : PS) : Sub s (PS.needs l s) := by
  induction l generalizing s with
  | nil => exact Sub.refl s
  | cons x r ih => exact (sub_need1 s x).trans (ih _)
theorem sub_enter (s : PS) : Sub s s.enter := by unfold PS.enter; split; exact List.nil_suffix; exact List.suffix_refl _
theorem sub_leave (s : PS) : Sub s s.leave := List.suffix_refl _
theorem sub_whole (s : PS) (k a o n : Int) (x : ByteArray) (l : List Part) : Sub s (wholeP s k a o n x l).2 := by unfold wholeP; dsimp only; split; all_goals first | exact sub_fail s _ _ | exact Sub.refl s
theorem sub_counted (lo hi : Nat) (s : PS) (k a o n : Int) (x : ByteArray) (l : List Part) : Sub s (countedP lo hi s k a o n x l).2 := by
  unfold countedP
  split
  · exact (sub_fail s _ _).trans (sub_whole _ _ _ _ _ _ _)
  · exact sub_whole _ _ _ _ _ _ _
/-- The end has no bytes. -/
def Wf (s : PS) : Prop := ∀ t ∈ s.left, t.kind = 0 → t.bytes = []
theorem Wf.sub {s s' : PS} (h : Wf s) (k : Sub s s') : Wf s' := fun t ht => h t (k.mem ht)
theorem now_mem (s : PS) (h : s.now.bytes ≠ []) : s.now ∈ s.left := by
  unfold PS.now at *
  cases hl : s.left with
  | nil => rw [hl] at h; exact absurd rfl h
  | cons t r => simp
/-- A word with bytes is read. -/
theorem next_lt {s : PS} (hw : Wf s) (h : s.now.bytes ≠ []) : s.next.left.length + 1 ≤ s.left.length := by
  have h1 := now_mem s h
  have h2 : ¬ s.now.kind = 0 := fun e => h (hw _ h1 e)
  unfold PS.next
  rw [if_neg h2]
  have := List.length_pos_of_mem h1
  simp; omega
theorem isB_ne {s : PS} {x : List UInt8} (h : s.isB x = true) (hx : x ≠ []) : s.now.bytes ≠ [] := by
  unfold PS.isB at h
  have := eq_of_beq h
  rw [this]; exact hx
theorem need1_lt {s : PS} (hw : Wf s) (x : List UInt8) (hx : x ≠ []) : (s.need1 x).left.length + 1 ≤ s.left.length ∨ (s.need1 x).left = [] := by
  unfold PS.need1
  split
  · rename_i h; exact Or.inl (next_lt hw (isB_ne h hx))
  · exact Or.inr rfl
theorem kind_lt {s : PS} (h : s.now.kind ≠ 0) : s.next.left.length + 1 ≤ s.left.length := by
  unfold PS.next
  rw [if_neg h]
  cases hl : s.left with
  | nil => unfold PS.now at h; rw [hl] at h; exact absurd rfl h
  | cons t r => simp
theorem rank_nil : rankOf ([] : List UInt8) = 0 := rfl
theorem turn_nil : turnOf ([] : List UInt8) = 0 := rfl
/-- With so much fuel the readers of expressions come to something. -/
structure Suf (k : Nat) : Prop where
  expr : ∀ s, Wf s → 10 * s.left.length + 8 ≤ k → ∃ r, exprK k s = some r ∧ Sub s r.2
  betw : ∀ least s, 1 ≤ least → Wf s → 10 * s.left.length + 7 ≤ k → ∃ r, betwK k least s = some r ∧ Sub s r.2
  loop : ∀ least (l : Part) s, 1 ≤ least → Wf s → 10 * s.left.length + 1 ≤ k → ∃ r, loopK k least l s = some r ∧ Sub s r.2
  ahead : ∀ s, Wf s → 10 * s.left.length + 6 ≤ k → ∃ r, aheadK k s = some r ∧ Sub s r.2
  index : ∀ (f : Part) s, Wf s → 10 * s.left.length + 2 ≤ k → ∃ r, indexK k f s = some r ∧ Sub s r.2
  parts : ∀ o e s, o ≠ [] → Wf s → (10 * s.left.length + 10 ≤ k ∨ (s.isB o = true ∧ 10 * s.left.length ≤ k)) → ∃ r, partsK k o e s = some r ∧ Sub s r.2 ∧ (s.isB o = true → r.2.left.length + 1 ≤ s.left.length)
  many : ∀ (l : List Part) s, Wf s → 10 * s.left.length + 9 ≤ k → ∃ r, manyK k l s = some r ∧ Sub s r.2
  first : ∀ s, Wf s → 10 * s.left.length + 4 ≤ k → ∃ r, firstK k s = some r ∧ Sub s r.2
  called : ∀ t s, Wf s → 10 * s.left.length + 11 ≤ k → ∃ r, calledK k t s = some r ∧ Sub s r.2
  kept : ∀ t s, Wf s → (10 * s.left.length + 11 ≤ k ∨ (t.bytes = [] ∧ 1 ≤ k)) → ∃ r, keptK k t s = some r ∧ Sub s r.2
theorem suf_zero : Suf 0 where
  expr := fun s _ h => by omega
  betw := fun _ s _ _ h => by omega
  loop := fun _ _ s _ _ h => by omega
  ahead := fun s _ h => by omega
  index := fun _ s _ h => by omega
  parts := fun o _ s ho hw h => by
    exfalso
    rcases h with h | ⟨h1, h2⟩
    · omega
    · have := now_mem s (isB_ne h1 ho)
      have := List.length_pos_of_mem this
      omega
  many := fun _ s _ h => by omega
  first := fun s _ h => by omega
  called := fun _ s _ h => by omega
  kept := fun _ s _ h => by omega
theorem suf_succ (k : Nat) (ih : Suf k) : Suf (k + 1) where
  expr := fun s hw h => by simp only [exprK]; exact ih.betw 1 s (by omega) hw (by omega)
  betw := fun least s hl hw h => by
    simp only [betwK]
    obtain ⟨⟨l, s1⟩, ha, hs⟩ := ih.ahead s hw (by omega)
    rw [ha]
    have := hs.len
    simp only at this hs
    obtain ⟨r, hr, hs2⟩ := ih.loop least l s1 hl (hw.sub hs) (by omega)
    exact ⟨r, hr, hs.trans hs2⟩
  loop := fun least l s hl hw h => by
    simp only [loopK]
    split
    · exact ⟨_, rfl, Sub.refl s⟩
    · rename_i hr
      have hb : s.now.bytes ≠ [] := fun e => by rw [e, rank_nil] at hr; omega
      have hlt := next_lt hw hb
      obtain ⟨⟨r, s2⟩, hb2, hs2⟩ := ih.betw (rankOf s.now.bytes + 1) s.next (by omega) (hw.sub (sub_next s)) (by omega)
      simp only [hb2]
      have hl2 := hs2.len
      simp only at hl2 hs2
      have hs3 := hs2.trans (sub_whole s2 (kindOf (rankOf s.now.bytes)) s.now.at_ (opOf s.now.bytes) 0 ⟨#[]⟩ [l, r])
      obtain ⟨p, hp⟩ : ∃ p, p = wholeP s2 (kindOf (rankOf s.now.bytes)) s.now.at_ (opOf s.now.bytes) 0 ⟨#[]⟩ [l, r] := ⟨_, rfl⟩
      rw [← hp] at hs3 ⊢
      have hs4 : Sub p.2 (if rankOf s.now.bytes = 3 ∧ rankOf p.2.now.bytes = 3 then p.2.refuse p.2.now else p.2) := by split; exact sub_refuse _ _; exact Sub.refl _
      have hs5 := ((sub_next s).trans hs3).trans hs4
      have hl5 := (hs3.trans hs4).len
      obtain ⟨q, hq, hs6⟩ := ih.loop least p.1 _ hl (hw.sub hs5) (by omega)
      exact ⟨q, hq, hs5.trans hs6⟩
  ahead := fun s hw h => by
    simp only [aheadK]
    split
    · obtain ⟨⟨f, s1⟩, hf, hs⟩ := ih.first s hw (by omega)
      rw [hf]
      have := hs.len
      simp only at this hs
      obtain ⟨r, hr, hs2⟩ := ih.index f s1 (hw.sub hs) (by omega)
      exact ⟨r, hr, hs.trans hs2⟩
    · rename_i ht
      have hb : s.now.bytes ≠ [] := fun e => by rw [e, turn_nil] at ht; omega
      have hlt := next_lt hw hb
      have hse := (sub_next s).trans (sub_enter s.next)
      have hle := (sub_enter s.next).len
      obtain ⟨⟨x, s2⟩, hx, hs2⟩ := ih.ahead s.next.enter (hw.sub hse) (by omega)
      rw [hx]
      exact ⟨_, rfl, ((hse.trans hs2).trans (sub_whole _ _ _ _ _ _ _)).trans (sub_leave _)⟩
  index := fun f s hw h => by
    simp only [indexK]
    split
    · rename_i hb
      obtain ⟨⟨l, s1⟩, hp, hs, hl⟩ := ih.parts ([91] : List UInt8) ([93] : List UInt8) s (by simp) hw (Or.inr ⟨hb, by omega⟩)
      rw [hp]
      have hl := hl hb
      simp only at hl hs
      have hs2 := hs.trans (sub_counted 2 3 s1 9 s.now.at_ 0 0 ⟨#[]⟩ (f :: l))
      have hl2 := (sub_counted 2 3 s1 9 s.now.at_ 0 0 ⟨#[]⟩ (f :: l)).len
      obtain ⟨r, hr, hs3⟩ := ih.index _ _ (hw.sub hs2) (by omega)
      exact ⟨r, hr, hs2.trans hs3⟩
    · exact ⟨_, rfl, Sub.refl s⟩
  parts := fun o e s ho hw h => by
    simp only [partsK]
    have hse := (sub_need1 s o).trans (sub_enter _)
    have hlo : s.isB o = true → (s.need1 o).enter.left.length + 1 ≤ s.left.length := fun hb => by
      have h1 := (sub_enter (s.need1 o)).len
      have h2 := next_lt hw (isB_ne hb ho)
      have h3 : s.need1 o = s.next := by unfold PS.need1; rw [if_pos hb]
      rw [h3] at h1 ⊢
      omega
    have hlen := (sub_enter (s.need1 o)).len
    have hlm : 10 * (s.need1 o).enter.left.length + 9 ≤ k := by
      rcases h with h | ⟨h1, h2⟩
      · rcases need1_lt hw o ho with h3 | h3
        · omega
        · rw [h3] at hlen; simp at hlen; rw [hlen]; simp; omega
      · have := hlo h1; omega
    split
    · refine ⟨_, rfl, (hse.trans (sub_need1 _ e)).trans (sub_leave _), fun hb => ?_⟩
      have h1 := hlo hb
      have h2 := (sub_need1 (s.need1 o).enter e).len
      exact Nat.le_trans (Nat.add_le_add_right h2 1) h1
    · obtain ⟨⟨l, s2⟩, hm, hs2⟩ := ih.many [] _ (hw.sub hse) hlm
      rw [hm]
      refine ⟨_, rfl, ((hse.trans hs2).trans (sub_need1 _ e)).trans (sub_leave _), fun hb => ?_⟩
      have h1 := hlo hb
      have h2 := (hs2.trans (sub_need1 s2 e)).len
      exact Nat.le_trans (Nat.add_le_add_right h2 1) h1
  many := fun l s hw h => by
    simp only [manyK]
    obtain ⟨⟨x, s1⟩, hx, hs⟩ := ih.expr s hw (by omega)
    rw [hx]
    have hl := hs.len
    simp only at hl hs
    dsimp only
    split
    · rename_i hb
      have h1 := next_lt (hw.sub hs) (isB_ne hb (by simp))
      obtain ⟨r, hr, hs2⟩ := ih.many (l ++ [x]) s1.next (hw.sub (hs.trans (sub_next s1))) (by omega)
      exact ⟨r, hr, (hs.trans (sub_next s1)).trans hs2⟩
    · exact ⟨_, rfl, hs⟩
  first := fun s hw h => by
    simp only [firstK]
    split
    · rename_i hb
      have h1 := next_lt hw (isB_ne hb (by simp))
      have h3 : s.need1 ([40] : List UInt8) = s.next := by unfold PS.need1; rw [if_pos hb]
      rw [h3]
      have hl := (sub_enter s.next).len
      have hse := (sub_next s).trans (sub_enter s.next)
      obtain ⟨⟨x, s2⟩, hx, hs2⟩ := ih.expr s.next.enter (hw.sub hse) (by omega)
      rw [hx]
      exact ⟨_, rfl, ((hse.trans hs2).trans (sub_need1 _ _)).trans (sub_leave _)⟩
    · split
      · exact ⟨_, rfl, (sub_next s).trans (sub_whole _ _ _ _ _ _ _)⟩
      · split
        · rename_i hk
          have h1 := kind_lt (s := s) (by omega)
          obtain ⟨r, hr, hs⟩ := ih.called s.now s.next (hw.sub (sub_next s)) (by omega)
          exact ⟨r, hr, (sub_next s).trans hs⟩
        · obtain ⟨r, hr, hs⟩ := ih.kept s.now s.next (hw.sub (sub_next s)) (by
            by_cases hb : s.now.bytes = []
            · exact Or.inr ⟨hb, by omega⟩
            · have := next_lt hw hb; exact Or.inl (by omega))
          exact ⟨r, hr, (sub_next s).trans hs⟩
  called := fun t s hw h => by
    simp only [calledK]
    split
    · rename_i hb
      obtain ⟨⟨l, s1⟩, hp, hs, _⟩ := ih.parts ([40] : List UInt8) ([41] : List UInt8) s (by simp) hw (Or.inl (by omega))
      rw [hp]
      exact ⟨_, rfl, hs.trans (sub_whole _ _ _ _ _ _ _)⟩
    · exact ⟨_, rfl, sub_whole _ _ _ _ _ _ _⟩
  kept := fun t s hw h => by
    simp only [keptK]
    split
    · exact ⟨_, rfl, sub_whole _ _ _ _ _ _ _⟩
    · split
      · exact ⟨_, rfl, sub_whole _ _ _ _ _ _ _⟩
      · split
        · exact ⟨_, rfl, sub_whole _ _ _ _ _ _ _⟩
        · split
          · rename_i hb
            have h1 : 10 * s.left.length + 10 ≤ k := by
              rcases h with h | ⟨h, _⟩
              · omega
              · rw [h] at hb; simp at hb
            obtain ⟨⟨l, s1⟩, hp, hs, _⟩ := ih.parts ([91] : List UInt8) ([93] : List UInt8) s (by simp) hw (Or.inl h1)
            rw [hp]
            exact ⟨_, rfl, hs.trans (sub_counted _ _ _ _ _ _ _ _ _)⟩
          · split
            · rename_i hb
              have h1 : 10 * s.left.length + 10 ≤ k := by
                rcases h with h | ⟨h, _⟩
                · omega
                · rw [h] at hb; simp at hb
              obtain ⟨⟨l, s1⟩, hp, hs, _⟩ := ih.parts ([40] : List UInt8) ([41] : List UInt8) s (by simp) hw (Or.inl h1)
              rw [hp]
              exact ⟨_, rfl, hs.trans (sub_counted _ _ _ _ _ _ _ _ _)⟩
            · exact ⟨_, rfl, (sub_refuse s t).trans (sub_whole _ _ _ _ _ _ _)⟩
theorem suf_all : ∀ k, Suf k
  | 0 => suf_zero
  | k + 1 => suf_succ k (suf_all k)
end Go.Proofs.YtlgpbllkhbgppaaGreatDoor
namespace Go.Proofs.YtlgpbllkhbgppaaGreatDoor
set_option linter.unusedVariables false
set_option linter.unusedSimpArgs false
open Go.RowKit

/-- Even, and the end of what was left. -/
def EvS (s s' : PS) : Prop := Even s s' ∧ Sub s s'
theorem EvS.refl (s : PS) : EvS s s := ⟨Even.refl s, Sub.refl s⟩
theorem EvS.trans {a b c : PS} (h : EvS a b) (k : EvS b c) : EvS a c := ⟨h.1.trans k.1, h.2.trans k.2⟩
theorem es_next (s : PS) : EvS s s.next := ⟨even_next s, sub_next s⟩
theorem es_fail (s : PS) (k a : Int) : EvS s (s.fail k a) := ⟨even_fail s k a, sub_fail s k a⟩
theorem es_refuse (s : PS) (t : Tk) : EvS s (s.refuse t) := ⟨even_refuse s t, sub_refuse s t⟩
theorem es_need1 (s : PS) (x : List UInt8) : EvS s (s.need1 x) := ⟨even_need1 s x, sub_need1 s x⟩
theorem es_take (s : PS) (x : List UInt8) : EvS s (s.takeP x) := ⟨even_take s x, sub_take s x⟩
theorem es_name (s : PS) : EvS s s.nameP := ⟨even_name s, sub_name s⟩
theorem es_needs (l : List (List UInt8)) (s : PS) : EvS s (PS.needs l s) := ⟨even_needs l s, sub_needs l s⟩
theorem es_in {s s2 : PS} (h : EvS s.enter s2) : EvS s s2.leave := ⟨even_in h.1, ((sub_enter s).trans h.2).trans (sub_leave s2)⟩
theorem es_step (s : PS) : EvS s (stepP s).2 := by
  unfold stepP
  split
  · dsimp only
    refine ((es_next s).trans (es_take s.next ([45] : List UInt8))).trans ?_
    split
    · exact (es_next _).trans (es_refuse _ _)
    · exact es_next _
  · exact EvS.refl s
/-- One more statement around. -/
def PS.down (s : PS) : PS := if s.deep + 1 > 256 then ({ s with deep := s.deep + 1 } : PS).fail 4 s.now.at_ else { s with deep := s.deep + 1 }
def PS.up (s : PS) : PS := { s with deep := s.deep - 1 }
theorem down_deep (s : PS) : s.down.nest = s.nest ∧ s.down.deep = s.deep + 1 := by unfold PS.down; split <;> exact ⟨rfl, rfl⟩
theorem sub_down (s : PS) : Sub s s.down := by unfold PS.down; split; exact List.nil_suffix; exact List.suffix_refl _
theorem sub_up (s : PS) : Sub s s.up := List.suffix_refl _
theorem es_down {s s2 : PS} (h : EvS s.down s2) : EvS s s2.up := by
  have h1 := down_deep s
  refine ⟨⟨h.1.1.trans h1.1, ?_⟩, ((sub_down s).trans h.2).trans (sub_up s2)⟩
  show s2.deep - 1 = s.deep
  rw [h.1.2, h1.2]; omega
theorem stmtK_succ (k : Nat) (s : PS) : stmtK (k + 1) s = match (if s.down.isB ([105, 102] : List UInt8) = true then choiceK k s.now.at_ s.down
      else if s.down.isB ([119, 104, 105, 108, 101] : List UInt8) = true then whileK k s.now.at_ s.down
      else if s.down.isB ([102, 111, 114] : List UInt8) = true then countK k s.now.at_ s.down
      else match simpleK k s.now.at_ s.down with
        | none => none
        | some (x, s3) => some (x, s3.need1 ([59] : List UInt8))) with
    | none => none
    | some (x, s3) => some (x, s3.up) := by simp only [stmtK]; rfl
theorem es_expr {k : Nat} {s : PS} {x : Part} {s2 : PS} (h : exprK k s = some (x, s2)) : Even s s2 := ((pure_all k).expr _ _ h).1
/-- What the readers of statements come to. -/
structure PureS (k : Nat) : Prop where
  block : ∀ s r, blockK k s = some r → Even s r.2
  stmts : ∀ l s r, stmtsFK k l s = some r → Even s r.2
  stmt : ∀ s r, stmtK k s = some r → Even s r.2
  choice : ∀ a s r, choiceK k a s = some r → Even s r.2
  els : ∀ s r, elseK k s = some r → Even s r.2
  whil : ∀ a s r, whileK k a s = some r → Even s r.2
  count : ∀ a s r, countK k a s = some r → Even s r.2
  simple : ∀ a s r, simpleK k a s = some r → Even s r.2
  named : ∀ a t s r, namedK k a t s = some r → Even s r.2
theorem pureS_zero : PureS 0 where
  block := fun s r h => by simp [blockK] at h
  stmts := fun _ s r h => by simp [stmtsFK] at h
  stmt := fun s r h => by simp [stmtK] at h
  choice := fun _ s r h => by simp [choiceK] at h
  els := fun s r h => by simp [elseK] at h
  whil := fun _ s r h => by simp [whileK] at h
  count := fun _ s r h => by simp [countK] at h
  simple := fun _ s r h => by simp [simpleK] at h
  named := fun _ _ s r h => by simp [namedK] at h
theorem pureS_succ (k : Nat) (ih : PureS k) : PureS (k + 1) where
  block := fun s r h => by
    simp only [blockK] at h
    cases hm : stmtsFK k [] (s.need1 ([123] : List UInt8)).enter with
    | none => rw [hm] at h; cases h
    | some q =>
      rw [hm] at h
      obtain ⟨l, s2⟩ := q
      have h3 := ih.stmts _ _ _ hm
      simp only [Option.some.injEq] at h h3
      subst h
      exact (even_need1 s _).trans (even_in (h3.trans (even_need1 _ _)))
  stmts := fun l s r h => by
    simp only [stmtsFK] at h
    split at h
    · simp only [Option.some.injEq] at h; subst h; exact Even.refl s
    · cases hm : stmtK k s with
      | none => rw [hm] at h; cases h
      | some q =>
        rw [hm] at h
        exact (ih.stmt _ _ hm).trans (ih.stmts _ _ _ h)
  stmt := fun s r h => by
    rw [stmtK_succ] at h
    split at h
    · cases h
    · rename_i x s3 hq
      simp only [Option.some.injEq] at h
      subst h
      have h1 := down_deep s
      have hev : Even s.down s3 := by
        split at hq
        · exact ih.choice _ _ _ hq
        · split at hq
          · exact ih.whil _ _ _ hq
          · split at hq
            · exact ih.count _ _ _ hq
            · split at hq
              · cases hq
              · rename_i y s4 hs
                simp only [Option.some.injEq] at hq
                obtain ⟨rfl, rfl⟩ := Prod.mk.inj hq
                exact (ih.simple _ _ _ hs).trans (even_need1 _ _)
      refine ⟨hev.1.trans h1.1, ?_⟩
      show s3.deep - 1 = s.deep
      rw [hev.2, h1.2]; omega
  choice := fun a s r h => by
    simp only [choiceK] at h
    split at h
    · cases h
    · rename_i x s2 hx
      split at h
      · cases h
      · rename_i b s3 hb
        have h1 := ((even_need1 s _).trans (es_expr hx)).trans (ih.block _ _ hb)
        split at h
        · split at h
          · cases h
          · rename_i e s4 he
            simp only [Option.some.injEq] at h
            subst h
            exact (h1.trans (even_next _)).trans (ih.els _ _ he)
        · simp only [Option.some.injEq] at h
          subst h
          exact h1
  els := fun s r h => by
    simp only [elseK] at h
    split at h
    · split at h
      · cases h
      · rename_i x s2 hx
        simp only [Option.some.injEq] at h
        subst h
        exact even_in (ih.stmt _ _ hx)
    · exact ih.block _ _ h
  whil := fun a s r h => by
    simp only [whileK] at h
    split at h
    · cases h
    · rename_i x s2 hx
      split at h
      · cases h
      · rename_i b s3 hb
        simp only [Option.some.injEq] at h
        subst h
        exact ((even_need1 s _).trans (es_expr hx)).trans (ih.block _ _ hb)
  count := fun a s r h => by
    simp only [countK] at h
    split at h
    · cases h
    · rename_i x s2 hx
      split at h
      · cases h
      · rename_i y s3 hy
        split at h
        · cases h
        · rename_i b s4 hb
          simp only [Option.some.injEq] at h
          subst h
          exact (((((even_need1 s _).trans ((even_name _).trans (even_need1 _ _))).trans (es_expr hx)).trans ((even_need1 _ _).trans (es_expr hy))).trans (es_step s3).1).trans (ih.block _ _ hb)
  simple := fun a s r h => by
    simp only [simpleK] at h
    split at h
    · exact (even_next s).trans (ih.named _ _ _ _ h)
    · split at h
      · split at h
        · cases h
        · rename_i x s2 hx
          simp only [Option.some.injEq] at h
          subst h
          exact ((even_next s).trans ((even_name _).trans (even_need1 _ _))).trans (es_expr hx)
      · split at h
        · simp only [Option.some.injEq] at h; subst h; exact even_next s
        · split at h
          · simp only [Option.some.injEq] at h; subst h; exact even_next s
          · split at h
            · split at h
              · simp only [Option.some.injEq] at h; subst h; exact even_next s
              · split at h
                · cases h
                · rename_i x s2 hx
                  simp only [Option.some.injEq] at h
                  subst h
                  exact (even_next s).trans (es_expr hx)
            · split at h
              · split at h
                · cases h
                · rename_i x s2 hx
                  simp only [Option.some.injEq] at h
                  subst h
                  exact (even_next s).trans (es_expr hx)
              · simp only [Option.some.injEq] at h
                subst h
                exact (even_next s).trans (even_refuse _ _)
  named := fun a t s r h => by
    simp only [namedK] at h
    split at h
    · split at h
      · cases h
      · rename_i x s2 hx
        simp only [Option.some.injEq] at h
        subst h
        exact (even_next s).trans (es_expr hx)
    · split at h
      · split at h
        · cases h
        · rename_i p s1 hp
          split at h
          · cases h
          · rename_i q s2 hq
            have hc := (pure_all k).called _ _ _ hp
            have hi := (pure_all k).index _ _ _ hc.2.1 hq
            split at h
            · simp only [Option.some.injEq] at h
              subst h
              exact hc.1.trans hi.1
            · split at h
              · cases h
              · rename_i y s3 hy
                simp only [Option.some.injEq] at h
                subst h
                exact (hc.1.trans hi.1).trans ((even_need1 _ _).trans (es_expr hy))
      · simp only [Option.some.injEq] at h
        subst h
        exact even_refuse _ _
theorem pureS_all : ∀ k, PureS k
  | 0 => pureS_zero
  | k + 1 => pureS_succ k (pureS_all k)
/-- With so much fuel the readers of statements come to something. -/
structure SufS (k : Nat) : Prop where
  block : ∀ s, Wf s → 10 * s.left.length + 7 ≤ k → ∃ r, blockK k s = some r ∧ Sub s r.2
  stmts : ∀ l s, Wf s → 10 * s.left.length + 6 ≤ k → ∃ r, stmtsFK k l s = some r ∧ Sub s r.2
  stmt : ∀ s, Wf s → 10 * s.left.length + 5 ≤ k → ∃ r, stmtK k s = some r ∧ Sub s r.2 ∧ (s.left ≠ [] → s.now.kind ≠ 0 → r.2.left.length + 1 ≤ s.left.length)
  choice : ∀ a s, Wf s → s.isB ([105, 102] : List UInt8) = true → 10 * s.left.length + 4 ≤ k → ∃ r, choiceK k a s = some r ∧ Sub s.next r.2
  els : ∀ s, Wf s → 10 * s.left.length + 8 ≤ k → ∃ r, elseK k s = some r ∧ Sub s r.2
  whil : ∀ a s, Wf s → s.isB ([119, 104, 105, 108, 101] : List UInt8) = true → 10 * s.left.length + 4 ≤ k → ∃ r, whileK k a s = some r ∧ Sub s.next r.2
  count : ∀ a s, Wf s → s.isB ([102, 111, 114] : List UInt8) = true → 10 * s.left.length + 4 ≤ k → ∃ r, countK k a s = some r ∧ Sub s.next r.2
  simple : ∀ a s, Wf s → 10 * s.left.length + 4 ≤ k → ∃ r, simpleK k a s = some r ∧ Sub s.next r.2
  named : ∀ a t s, Wf s → 10 * s.left.length + 13 ≤ k → ∃ r, namedK k a t s = some r ∧ Sub s r.2
theorem sufS_zero : SufS 0 where
  block := fun s _ h => by omega
  stmts := fun _ s _ h => by omega
  stmt := fun s _ h => by omega
  choice := fun _ s _ _ h => by omega
  els := fun s _ h => by omega
  whil := fun _ s _ _ h => by omega
  count := fun _ s _ _ h => by omega
  simple := fun _ s _ h => by omega
  named := fun _ _ s _ h => by omega
theorem need1_is {s : PS} {x : List UInt8} (h : s.isB x = true) : s.need1 x = s.next := by unfold PS.need1; rw [if_pos h]
theorem sufS_succ (k : Nat) (ih : SufS k) : SufS (k + 1) where
  block := fun s hw h => by
    simp only [blockK]
    have hse := (sub_need1 s ([123] : List UInt8)).trans (sub_enter _)
    have hl := hse.len
    obtain ⟨⟨l, s2⟩, hm, hs2⟩ := ih.stmts [] _ (hw.sub hse) (by omega)
    rw [hm]
    exact ⟨_, rfl, ((hse.trans hs2).trans (sub_need1 _ _)).trans (sub_leave _)⟩
  stmts := fun l s hw h => by
    simp only [stmtsFK]
    split
    · exact ⟨_, rfl, Sub.refl s⟩
    · rename_i hn
      have hk : s.now.kind ≠ 0 := fun e => hn (Or.inr e)
      have h1 := kind_lt hk
      obtain ⟨⟨x, s1⟩, hx, hs, hlt⟩ := ih.stmt s hw (by omega)
      rw [hx]
      have hlt := hlt (by intro e; rw [e] at h1; simp at h1) hk
      simp only at hlt hs
      obtain ⟨r, hr, hs2⟩ := ih.stmts (l ++ [x]) s1 (hw.sub hs) (by omega)
      exact ⟨r, hr, hs.trans hs2⟩
  stmt := fun s hw h => by
    rw [stmtK_succ]
    have hd := sub_down s
    have hwd := hw.sub hd
    have hld := hd.len
    have hnx : s.left ≠ [] → s.now.kind ≠ 0 → s.down.next.left.length + 1 ≤ s.left.length := fun h1 h2 => by
      by_cases hz : s.down.left = []
      · have h3 := (sub_next s.down).len
        rw [hz] at h3
        have := List.length_pos_iff.mpr h1
        simp at h3
        rw [h3]; simp; omega
      · have hdn : s.down.left = s.left := by
          unfold PS.down at hz ⊢
          split at hz
          · exact absurd rfl hz
          · rename_i hc; rw [if_neg hc]
        have hnow : s.down.now = s.now := by unfold PS.now; rw [hdn]
        have := kind_lt (s := s.down) (by rw [hnow]; exact h2)
        rw [hdn] at this
        exact this
    have fin : ∀ (x : St) (s3 : PS), Sub s.down.next s3 → (∃ r : St × PS, some (x, s3.up) = some r ∧ Sub s r.2 ∧ (s.left ≠ [] → s.now.kind ≠ 0 → r.2.left.length + 1 ≤ s.left.length)) := fun x s3 h3 =>
      ⟨_, rfl, ((hd.trans (sub_next _)).trans h3).trans (sub_up s3), fun h1 h2 => by have := hnx h1 h2; have h4 := (h3.trans (sub_up s3)).len; exact Nat.le_trans (Nat.add_le_add_right h4 1) this⟩
    split
    · rename_i hq
      exfalso
      split at hq
      · rename_i hb
        obtain ⟨r, hr, _⟩ := ih.choice s.now.at_ s.down hwd hb (by omega)
        rw [hr] at hq; cases hq
      · split at hq
        · rename_i hb
          obtain ⟨r, hr, _⟩ := ih.whil s.now.at_ s.down hwd hb (by omega)
          rw [hr] at hq; cases hq
        · split at hq
          · rename_i hb
            obtain ⟨r, hr, _⟩ := ih.count s.now.at_ s.down hwd hb (by omega)
            rw [hr] at hq; cases hq
          · obtain ⟨r, hr, _⟩ := ih.simple s.now.at_ s.down hwd (by omega)
            rw [hr] at hq; cases hq
    · rename_i x s3 hq
      refine fin x s3 ?_
      split at hq
      · rename_i hb
        obtain ⟨r, hr, hs⟩ := ih.choice s.now.at_ s.down hwd hb (by omega)
        rw [hr] at hq; cases hq; exact hs
      · split at hq
        · rename_i hb
          obtain ⟨r, hr, hs⟩ := ih.whil s.now.at_ s.down hwd hb (by omega)
          rw [hr] at hq; cases hq; exact hs
        · split at hq
          · rename_i hb
            obtain ⟨r, hr, hs⟩ := ih.count s.now.at_ s.down hwd hb (by omega)
            rw [hr] at hq; cases hq; exact hs
          · obtain ⟨⟨y, s4⟩, hr, hs⟩ := ih.simple s.now.at_ s.down hwd (by omega)
            rw [hr] at hq; cases hq; exact hs.trans (sub_need1 _ _)
  choice := fun a s hw hb h => by
    simp only [choiceK]
    have hlt := next_lt hw (isB_ne hb (by simp))
    rw [need1_is hb]
    have hwn := hw.sub (sub_next s)
    obtain ⟨⟨x, s2⟩, hx, hs2⟩ := (suf_all k).expr s.next hwn (by omega)
    rw [hx]
    simp only at hs2
    have hl2 := hs2.len
    obtain ⟨⟨b, s3⟩, hb3, hs3⟩ := ih.block s2 (hwn.sub hs2) (by omega)
    simp only [hb3]
    have hs23 := hs2.trans hs3
    simp only at hs23
    split
    · rename_i he
      have hl3 := hs23.len
      have hn3 := sub_next s3
      have hl4 := hn3.len
      have hlt3 := next_lt (hwn.sub hs23) (isB_ne he (by simp))
      obtain ⟨⟨e, s4⟩, hr, hs4⟩ := ih.els s3.next (hwn.sub (hs23.trans hn3)) (by omega)
      rw [hr]
      exact ⟨_, rfl, (hs23.trans hn3).trans hs4⟩
    · exact ⟨_, rfl, hs23⟩
  els := fun s hw h => by
    simp only [elseK]
    split
    · have hle := (sub_enter s).len
      obtain ⟨⟨x, s2⟩, hx, hs2, _⟩ := ih.stmt s.enter (hw.sub (sub_enter s)) (by omega)
      rw [hx]
      exact ⟨_, rfl, ((sub_enter s).trans hs2).trans (sub_leave s2)⟩
    · exact ih.block s hw (by omega)
  whil := fun a s hw hb h => by
    simp only [whileK]
    have hlt := next_lt hw (isB_ne hb (by simp))
    rw [need1_is hb]
    have hwn := hw.sub (sub_next s)
    obtain ⟨⟨x, s2⟩, hx, hs2⟩ := (suf_all k).expr s.next hwn (by omega)
    rw [hx]
    simp only at hs2
    have hl2 := hs2.len
    obtain ⟨⟨b, s3⟩, hb3, hs3⟩ := ih.block s2 (hwn.sub hs2) (by omega)
    simp only [hb3]
    exact ⟨_, rfl, hs2.trans hs3⟩
  count := fun a s hw hb h => by
    simp only [countK]
    have hlt := next_lt hw (isB_ne hb (by simp))
    rw [need1_is hb]
    have hwn := hw.sub (sub_next s)
    have h0 := (sub_name s.next).trans (sub_need1 _ ([61] : List UInt8))
    have hl0 := h0.len
    obtain ⟨⟨x, s2⟩, hx, hs2⟩ := (suf_all k).expr (s.next.nameP.need1 ([61] : List UInt8)) (hwn.sub h0) (by omega)
    rw [hx]
    have h1 := (h0.trans hs2).trans (sub_need1 s2 ([116, 111] : List UInt8))
    simp only at h1 hs2
    have hl1 := h1.len
    obtain ⟨⟨y, s3⟩, hy, hs3⟩ := (suf_all k).expr (s2.need1 ([116, 111] : List UInt8)) (hwn.sub h1) (by omega)
    simp only [hy]
    have h2 := (h1.trans hs3).trans (es_step s3).2
    have hl2 := h2.len
    obtain ⟨⟨b, s4⟩, hb4, hs4⟩ := ih.block (stepP s3).2 (hwn.sub h2) (by omega)
    simp only [hb4]
    exact ⟨_, rfl, h2.trans hs4⟩
  simple := fun a s hw h => by
    simp only [simpleK]
    have hwn := hw.sub (sub_next s)
    have hln := (sub_next s).len
    have hx : s.now.bytes ≠ [] → ∀ s2, Sub s.next s2 → ∃ r, exprK k s2 = some r ∧ Sub s.next r.2 := fun hb s2 h2 => by
      have hlt := next_lt hw hb
      have hl2 := h2.len
      obtain ⟨r, hr, hs⟩ := (suf_all k).expr s2 (hwn.sub h2) (by omega)
      exact ⟨r, hr, h2.trans hs⟩
    have hne : ∀ b : List UInt8, b ≠ [] → (s.now.bytes == b) = true → s.now.bytes ≠ [] := fun b hb he => by rw [eq_of_beq he]; exact hb
    split
    · rename_i hk
      have hlt := kind_lt (s := s) (by omega)
      exact ih.named a s.now s.next hwn (by omega)
    · split
      · rename_i hb
        obtain ⟨r, hr, hs⟩ := hx (hne _ (by simp) hb) _ ((sub_name s.next).trans (sub_need1 _ _))
        rw [hr]
        exact ⟨_, rfl, hs⟩
      · split
        · exact ⟨_, rfl, Sub.refl _⟩
        · split
          · exact ⟨_, rfl, Sub.refl _⟩
          · split
            · rename_i hb
              split
              · exact ⟨_, rfl, Sub.refl _⟩
              · obtain ⟨r, hr, hs⟩ := hx (hne _ (by simp) hb) _ (Sub.refl _)
                rw [hr]
                exact ⟨_, rfl, hs⟩
            · split
              · rename_i hb
                obtain ⟨r, hr, hs⟩ := hx (hne _ (by simp) hb) _ (Sub.refl _)
                rw [hr]
                exact ⟨_, rfl, hs⟩
              · exact ⟨_, rfl, sub_refuse _ _⟩
  named := fun a t s hw h => by
    simp only [namedK]
    split
    · have hl := (sub_next s).len
      obtain ⟨r, hr, hs⟩ := (suf_all k).expr s.next (hw.sub (sub_next s)) (by omega)
      rw [hr]
      exact ⟨_, rfl, (sub_next s).trans hs⟩
    · split
      · obtain ⟨⟨p, s1⟩, hp, hs1⟩ := (suf_all k).called t s hw (by omega)
        rw [hp]
        simp only at hs1
        have hl1 := hs1.len
        obtain ⟨⟨q, s2⟩, hq, hs2⟩ := (suf_all k).index p s1 (hw.sub hs1) (by omega)
        simp only [hq]
        have h2 := hs1.trans hs2
        simp only at h2
        split
        · exact ⟨_, rfl, h2⟩
        · have h3 := h2.trans (sub_need1 s2 ([61] : List UInt8))
          have hl3 := h3.len
          obtain ⟨r, hr, hs⟩ := (suf_all k).expr _ (hw.sub h3) (by omega)
          rw [hr]
          exact ⟨_, rfl, h3.trans hs⟩
      · exact ⟨_, rfl, sub_refuse _ _⟩
theorem sufS_all : ∀ k, SufS k
  | 0 => sufS_zero
  | k + 1 => sufS_succ k (sufS_all k)
end Go.Proofs.YtlgpbllkhbgppaaGreatDoor
