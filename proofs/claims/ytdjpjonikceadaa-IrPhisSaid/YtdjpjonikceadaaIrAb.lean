/-
  Blocks that all go to one, and that one's instruction of OpPhi: what lies where.
-/
import Derived.Test.YtdjpjonikceadaaIrAa
namespace Go.Proofs.Ytdjpjonikceadaa
open Go.RowKit
set_option linter.unusedVariables false
set_option linter.unusedSimpArgs false

/-- A block ahead: it goes to the last one, or nowhere. -/
def SrcQ (F : Nat → Rw) (n : Nat) (bs : List Value) (j : Nat) (u : Bool) : Prop :=
  bs[j * 5]? = some (.slice none 0 0) ∧ bs[j * 5 + 1]? = some (.slice none 0 0) ∧ bs[j * 5 + 2]? = some (.int .i64 (if u then 1 else 0)) ∧ (∃ ar : Int, bs[j * 5 + 3]? = some (.int .i64 ar)) ∧
    ((u = true ∧ ∃ t c, bs[j * 5 + 4]? = some (.slice (some ⟨t, 0, none⟩) 1 c) ∧ F (10 + j) = rowI (.slice (some ⟨t, 0, none⟩) 1 c) [(n : Int)]) ∨ (u = false ∧ bs[j * 5 + 4]? = some (.slice none 0 0)))
structure LS (w : World) (E base n g cB : Nat) (F : Nat → Rw) (IV : Value) (bs : List Value) (up : Nat → Bool) (ps ls : List Int) : Prop where
  c : EdC w E IV (.slice (some ⟨g, 0, none⟩) (n + 1) cB)
  f : Fam w base E F
  f0 : F 0 = ⟨46, 5, .slice (some ⟨g, 0, none⟩) (n + 1) cB, n + 1, bs⟩
  src : ∀ j, j < n → SrcQ F n bs j (up j)
  d0 : bs[n * 5]? = some (F 5).v
  d1 : bs[n * 5 + 1]? = some (F 4).v
  d2 : bs[n * 5 + 2]? = some (.int .i64 0)
  d3 : bs[n * 5 + 3]? = some (.int .i64 0)
  d4 : bs[n * 5 + 4]? = some (.slice none 0 0)
  f4 : F 4 = rowI (F 4).v ps
  f5 : F 5 = rowI (F 5).v ls
theorem LS.len {w : World} {E base n g cB : Nat} {F : Nat → Rw} {IV : Value} {bs : List Value} {up : Nat → Bool} {ps ls : List Int} (h : LS w E base n g cB F IV bs up ps ls) : bs.length = (n + 1) * 5 := (h.f.at h.f0).1
/-- A row that the blocks don't lean on is another one. -/
theorem LS.row {w w' : World} {E base n g cB : Nat} {F F' : Nat → Rw} {IV IV' : Value} {bs : List Value} {up : Nat → Bool} {ps ls : List Int} (h : LS w E base n g cB F IV bs up ps ls) (hc : EdC w' E IV' (.slice (some ⟨g, 0, none⟩) (n + 1) cB)) (hf : Fam w' base E F') (hF : ∀ k, k ≠ 1 → k ≠ 2 → k ≠ 3 → F' k = F k) : LS w' E base n g cB F' IV' bs up ps ls :=
  ⟨hc, hf, by rw [hF 0 (by decide) (by decide) (by decide)]; exact h.f0, fun j hj => by
    have := h.src j hj
    unfold SrcQ at this ⊢
    rw [hF (10 + j) (by omega) (by omega) (by omega)]
    exact this, by rw [hF 5 (by decide) (by decide) (by decide)]; exact h.d0, by rw [hF 4 (by decide) (by decide) (by decide)]; exact h.d1, h.d2, h.d3, h.d4, by rw [hF 4 (by decide) (by decide) (by decide)]; exact h.f4, by rw [hF 5 (by decide) (by decide) (by decide)]; exact h.f5⟩
theorem set_here {bs : List Value} {k : Nat} {u : Value} (h : k < bs.length) : (bs.set k u)[k]? = some u := List.getElem?_set_self h
/-- A block ends so that it goes to the last one. -/
theorem LS.goes {w w' : World} {E base n g cB : Nat} {F : Nat → Rw} {IV : Value} {bs : List Value} {up : Nat → Bool} {ps ls : List Int} (h : LS w E base n g cB F IV bs up ps ls) {i q d q2 d2 : Nat} (hi : i < n)
    (hc : EdC w' E IV (.slice (some ⟨g, 0, none⟩) (n + 1) cB))
    (hf : Fam w' base E (upR (upR (upR (upR F (10 + i) ⟨3, 1, .slice (some ⟨q, 0, none⟩) 1 d, 1, [.int .i64 n]⟩) 0 ⟨46, 5, .slice (some ⟨g, 0, none⟩) (n + 1) cB, n + 1, ((bs.set (i * 5 + 2) (.int .i64 1)).set (i * 5 + 3) (.int .i64 (-1))).set (i * 5 + 4) (.slice (some ⟨q, 0, none⟩) 1 d)⟩) 4 ⟨3, 1, .slice (some ⟨q2, 0, none⟩) (ps.length + 1) d2, ps.length + 1, ints ps ++ [.int .i64 i]⟩) 0 ⟨46, 5, .slice (some ⟨g, 0, none⟩) (n + 1) cB, n + 1, (((bs.set (i * 5 + 2) (.int .i64 1)).set (i * 5 + 3) (.int .i64 (-1))).set (i * 5 + 4) (.slice (some ⟨q, 0, none⟩) 1 d)).set (n * 5 + 1) (.slice (some ⟨q2, 0, none⟩) (ps.length + 1) d2)⟩)) :
    ∃ F' bs', LS w' E base n g cB F' IV bs' (fun j => if j = i then true else up j) (ps ++ [(i : Int)]) ls ∧ (∀ k, k = 1 ∨ k = 2 ∨ k = 3 → F' k = F k) := by
  have hl := h.len
  refine ⟨_, _, ⟨hc, hf, upR_at _ _ _, fun j hj => ?_, ?_, ?_, ?_, ?_, ?_, ?_, ?_⟩, fun k hk => ?_⟩
  · by_cases hji : j = i
    · subst hji
      obtain ⟨s0, s1, s2, s3, s4⟩ := h.src j hj
      refine ⟨?_, ?_, ?_, ⟨-1, ?_⟩, .inl ⟨by simp, q, d, ?_, ?_⟩⟩
      · rw [set_away (by omega), set_away (by omega), set_away (by omega), set_away (by omega)]; exact s0
      · rw [set_away (by omega), set_away (by omega), set_away (by omega), set_away (by omega)]; exact s1
      · rw [set_away (by omega), set_away (by omega), set_away (by omega), set_here (by omega)]; simp
      · rw [set_away (by omega), set_away (by omega), set_here (by simp; omega)]
      · rw [set_away (by omega), set_here (by simp; omega)]
      · rw [upR_off _ _ _ _ (by omega), upR_off _ _ _ _ (by omega), upR_off _ _ _ _ (by omega), upR_at]; rfl
    · obtain ⟨s0, s1, s2, s3, s4⟩ := h.src j hj
      have e : ∀ r, r < 5 → ((((bs.set (i * 5 + 2) (Value.int .i64 1)).set (i * 5 + 3) (.int .i64 (-1))).set (i * 5 + 4) (.slice (some ⟨q, 0, none⟩) 1 d)).set (n * 5 + 1) (.slice (some ⟨q2, 0, none⟩) (ps.length + 1) d2))[j * 5 + r]? = bs[j * 5 + r]? := fun r hr => by
        rw [set_away (by omega), set_away (by omega), set_away (by omega), set_away (by omega)]
      have e0 := e 0 (by decide)
      rw [Nat.add_zero] at e0
      refine ⟨e0.trans s0, (e 1 (by decide)).trans s1, ?_, ?_, ?_⟩
      · rw [if_neg hji]; exact (e 2 (by decide)).trans s2
      · obtain ⟨ar, ha⟩ := s3; exact ⟨ar, (e 3 (by decide)).trans ha⟩
      · rw [if_neg hji]
        rcases s4 with ⟨hu, t, c, s4, s5⟩ | ⟨hu, s4⟩
        · refine .inl ⟨hu, t, c, (e 4 (by decide)).trans s4, ?_⟩
          rw [upR_off _ _ _ _ (by omega), upR_off _ _ _ _ (by omega), upR_off _ _ _ _ (by omega), upR_off _ _ _ _ (by omega)]
          exact s5
        · exact .inr ⟨hu, (e 4 (by decide)).trans s4⟩
  · rw [set_away (by omega), set_away (by omega), set_away (by omega), set_away (by omega), upR_off _ _ _ _ (by decide), upR_off _ _ _ _ (by decide), upR_off _ _ _ _ (by decide), upR_off _ _ _ _ (by omega)]; exact h.d0
  · rw [set_here (by simp; omega), upR_off _ _ _ _ (by decide), upR_at]
  · rw [set_away (by omega), set_away (by omega), set_away (by omega), set_away (by omega)]; exact h.d2
  · rw [set_away (by omega), set_away (by omega), set_away (by omega), set_away (by omega)]; exact h.d3
  · rw [set_away (by omega), set_away (by omega), set_away (by omega), set_away (by omega)]; exact h.d4
  · rw [upR_off _ _ _ _ (by decide), upR_at]; simp [rowI, ints]
  · rw [upR_off _ _ _ _ (by decide), upR_off _ _ _ _ (by decide), upR_off _ _ _ _ (by decide), upR_off _ _ _ _ (by omega)]; exact h.f5
  · rw [upR_off _ _ _ _ (by omega), upR_off _ _ _ _ (by omega), upR_off _ _ _ _ (by omega), upR_off _ _ _ _ (by omega)]
/-- A block ends with nothing. -/
theorem LS.cuts {w w' : World} {E base n g cB gi ci : Nat} {F : Nat → Rw} {IV : Value} {bs : List Value} {up : Nat → Bool} {ps ls args : List Int} (h : LS w E base n g cB F IV bs up ps ls) {k : Nat} {P' Q' : Value} {pred : Int} (hk : k < n)
    (hc : EdC w' E IV (.slice (some ⟨g, 0, none⟩) (n + 1) cB)) (hf : Fam w' base E (cutF F 4 g (n + 1) cB gi ci n k pred ps args bs P' Q')) :
    ∃ F' bs', LS w' E base n g cB F' IV bs' (fun j => if j = k then false else up j) (woA ps ps pred ps.length) ls ∧ F' 2 = rowI Q' (woA ps args pred args.length) ∧ F' 1 = ⟨38, 5, .slice (some ⟨gi, 0, none⟩) 1 ci, 1, [.int .i64 3, .int .i64 0, Q', .int .i64 0, .int .i64 0]⟩ ∧ F' 4 = rowI P' (woA ps ps pred ps.length) := by
  have hl := h.len
  unfold cutF at hf
  refine ⟨_, _, ⟨hc, hf, upR_at _ _ _, fun j hj => ?_, ?_, ?_, ?_, ?_, ?_, ?_, ?_⟩, ?_, ?_, ?_⟩
  · by_cases hji : j = k
    · subst hji
      obtain ⟨s0, s1, s2, s3, s4⟩ := h.src j hj
      refine ⟨?_, ?_, ?_, ⟨0, ?_⟩, .inr ⟨by simp, ?_⟩⟩
      · rw [set_away (by omega), set_away (by omega), set_away (by omega), set_away (by omega)]; exact s0
      · rw [set_away (by omega), set_away (by omega), set_away (by omega), set_away (by omega)]; exact s1
      · rw [set_away (by omega), set_away (by omega), set_here (by simp; omega)]; simp
      · rw [set_away (by omega), set_here (by simp; omega)]
      · rw [set_here (by simp; omega)]
    · obtain ⟨s0, s1, s2, s3, s4⟩ := h.src j hj
      have e : ∀ r, r < 5 → ((((bs.set (n * 5 + 1) P').set (k * 5 + 2) (Value.int .i64 0)).set (k * 5 + 3) (.int .i64 0)).set (k * 5 + 4) (.slice none 0 0))[j * 5 + r]? = bs[j * 5 + r]? := fun r hr => by
        rw [set_away (by omega), set_away (by omega), set_away (by omega), set_away (by omega)]
      have e0 := e 0 (by decide)
      rw [Nat.add_zero] at e0
      refine ⟨e0.trans s0, (e 1 (by decide)).trans s1, ?_, ?_, ?_⟩
      · rw [if_neg hji]; exact (e 2 (by decide)).trans s2
      · obtain ⟨ar, ha⟩ := s3; exact ⟨ar, (e 3 (by decide)).trans ha⟩
      · rw [if_neg hji]
        rcases s4 with ⟨hu, t, c, s4, s5⟩ | ⟨hu, s4⟩
        · refine .inl ⟨hu, t, c, (e 4 (by decide)).trans s4, ?_⟩
          rw [upR_off _ _ _ _ (by omega), upR_off _ _ _ _ (by omega), upR_off _ _ _ _ (by omega), upR_off _ _ _ _ (by omega), upR_off _ _ _ _ (by omega)]
          exact s5
        · exact .inr ⟨hu, (e 4 (by decide)).trans s4⟩
  · rw [set_away (by omega), set_away (by omega), set_away (by omega), set_away (by omega), upR_off _ _ _ _ (by decide), upR_off _ _ _ _ (by decide), upR_off _ _ _ _ (by decide), upR_off _ _ _ _ (by decide), upR_off _ _ _ _ (by decide)]; exact h.d0
  · rw [set_away (by omega), set_away (by omega), set_away (by omega), set_here (by omega), upR_off _ _ _ _ (by decide), upR_off _ _ _ _ (by decide), upR_off _ _ _ _ (by decide), upR_off _ _ _ _ (by decide), upR_at]; rfl
  · rw [set_away (by omega), set_away (by omega), set_away (by omega), set_away (by omega)]; exact h.d2
  · rw [set_away (by omega), set_away (by omega), set_away (by omega), set_away (by omega)]; exact h.d3
  · rw [set_away (by omega), set_away (by omega), set_away (by omega), set_away (by omega)]; exact h.d4
  · rw [upR_off _ _ _ _ (by decide), upR_off _ _ _ _ (by decide), upR_off _ _ _ _ (by decide), upR_off _ _ _ _ (by decide), upR_at]; rfl
  · rw [upR_off _ _ _ _ (by decide), upR_off _ _ _ _ (by decide), upR_off _ _ _ _ (by decide), upR_off _ _ _ _ (by decide), upR_off _ _ _ _ (by decide)]; exact h.f5
  · rw [upR_off _ _ _ _ (by decide), upR_off _ _ _ _ (by decide), upR_at]
  · rw [upR_off _ _ _ _ (by decide), upR_at]
  · rw [upR_off _ _ _ _ (by decide), upR_off _ _ _ _ (by decide), upR_off _ _ _ _ (by decide), upR_off _ _ _ _ (by decide), upR_at]
end Go.Proofs.Ytdjpjonikceadaa
