/-
  From and Reach over plain data are the same ways, there and back.
-/
import Derived.Test.YtlejpoofgnenhaaGsC
namespace Go.Proofs.Ytlejpoofgnenhaa
open Go.RowKit Go.Shelf
set_option linter.unusedVariables false
set_option linter.unusedSimpArgs false

/-- To which one comes from b, without wo. -/
inductive FR (g : List GB) (wo : Int) (b : Nat) : Nat → Prop
  | here : FR g wo b b
  | step (x : Nat) (t : Int) : FR g wo b x → t ∈ tosG g x → t ≠ wo → FR g wo b t.toNat
theorem FR.head {g : List GB} {wo : Int} {x b c : Nat} (ht : (b : Int) ∈ tosG g x) (hw : (b : Int) ≠ wo) (h : FR g wo b c) : FR g wo x c := by
  induction h with
  | here =>
    have := FR.step x (b : Int) (FR.here (g := g) (wo := wo) (b := x)) ht hw
    simpa using this
  | step y t _ h1 h2 ih => exact FR.step y t ih h1 h2
theorem FR.trans {g : List GB} {wo : Int} {a b c : Nat} (h : FR g wo a b) (k : FR g wo b c) : FR g wo a c := by
  induction k with
  | here => exact h
  | step y t _ h1 h2 ih => exact FR.step y t ih h1 h2
/-- Marks: of the same length, and whatever was marked is. -/
def Leq (s s' : List Bool) : Prop := s'.length = s.length ∧ ∀ c, s.getD c false = true → s'.getD c false = true
theorem Leq.refl (s : List Bool) : Leq s s := ⟨rfl, fun _ h => h⟩
theorem Leq.trans {a b c : List Bool} (h : Leq a b) (k : Leq b c) : Leq a c := ⟨k.1.trans h.1, fun x hx => k.2 x (h.2 x hx)⟩
theorem setT_leq (wo : Int) (out : List Bool) (t : Int) : Leq out (setT wo out t) := ⟨setT_len wo out t, fun c h => setT_mono wo out t c h⟩
theorem fold_leq (wo : Int) : ∀ (l : List Int) (out : List Bool), Leq out (l.foldl (setT wo) out)
  | [], out => Leq.refl out
  | t :: l, out => (setT_leq wo out t).trans (fold_leq wo l _)
theorem fold_has (wo : Int) : ∀ (l : List Int) (out : List Bool), ∀ t ∈ l, t ≠ wo → 0 ≤ t → t < out.length → (l.foldl (setT wo) out).getD t.toNat false = true
  | [], _, t, ht, _, _, _ => by cases ht
  | x :: l, out, t, ht, hw, h0, h1 => by
    rw [List.foldl_cons]
    rcases List.mem_cons.1 ht with rfl | ht
    · refine (fold_leq wo l _).2 _ ?_
      unfold setT
      rw [if_neg hw]
      exact set_getD _ _ (by omega)
    · exact fold_has wo l _ t ht hw h0 (by rw [setT_len]; exact h1)
theorem stepX_leq (g : List GB) (wo : Int) (out : List Bool) (x : Nat) : Leq out (stepX g wo out x) := by
  unfold stepX
  split
  · exact fold_leq wo _ _
  · exact Leq.refl _
theorem passR_leq (g : List GB) (wo : Int) : ∀ (k x : Nat) (out : List Bool), Leq out (passR g wo k x out)
  | 0, _, out => Leq.refl out
  | k + 1, x, out => (stepX_leq g wo out x).trans (passR_leq g wo k (x + 1) _)
/-- A pass looks at all that was marked. -/
theorem passR_has (g : List GB) (wo : Int) (hg : tosOk g) : ∀ (k x : Nat) (out : List Bool), out.length = g.length → ∀ y, x ≤ y → y < x + k → out.getD y false = true → ∀ t ∈ tosG g y, t ≠ wo → (passR g wo k x out).getD t.toNat false = true
  | 0, x, out, _, y, h1, h2, _, _, _, _ => by omega
  | k + 1, x, out, hl, y, h1, h2, hy, t, ht, hw => by
    rw [passR]
    have hin := hg y t ht
    by_cases e : y = x
    · subst e
      refine (passR_leq g wo k (y + 1) _).2 _ ?_
      unfold stepX
      rw [hy, if_pos rfl]
      exact fold_has wo _ _ t ht hw hin.1 (by rw [hl]; exact hin.2)
    · exact passR_has g wo hg k (x + 1) _ (by rw [(stepX_leq g wo out x).1]; exact hl) y (by omega) (by omega) ((stepX_leq g wo out x).2 y hy) t ht hw
theorem leq_unseen : ∀ (s s' : List Bool), Leq s s' → unseen s' ≤ unseen s ∧ (unseen s' = unseen s → s' = s)
  | [], s', h => by
    have : s' = [] := List.length_eq_zero_iff.1 h.1
    subst this
    exact ⟨Nat.le_refl _, fun _ => rfl⟩
  | a :: s, [], h => by have := h.1; simp at this
  | a :: s, b :: s', h => by
    have hl : Leq s s' := ⟨by have := h.1; simpa using this, fun c hc => by have := h.2 (c + 1) (by simpa [List.getD] using hc); simpa [List.getD] using this⟩
    obtain ⟨h1, h2⟩ := leq_unseen s s' hl
    have h0 : a = true → b = true := fun e => by have := h.2 0 (by simp [List.getD, e]); simpa [List.getD] using this
    cases a <;> cases b <;> simp [unseen] at h0 h1 h2 ⊢
    · exact ⟨h1, h2⟩
    · have := h1; omega
    · exact ⟨h1, h2⟩
def Clo (g : List GB) (wo : Int) (out : List Bool) : Prop := ∀ y, y < g.length → out.getD y false = true → ∀ t ∈ tosG g y, t ≠ wo → out.getD t.toNat false = true
theorem iterP_leq (g : List GB) (wo : Int) : ∀ (k : Nat) (out : List Bool), Leq out (iterP g wo k out)
  | 0, out => Leq.refl out
  | k + 1, out => (passR_leq g wo _ _ out).trans (iterP_leq g wo k _)
theorem iterP_clo (g : List GB) (wo : Int) (hg : tosOk g) : ∀ (k : Nat) (out : List Bool), out.length = g.length → unseen out < k ∨ Clo g wo out → Clo g wo (iterP g wo k out)
  | 0, out, _, h => by
    rcases h with h | h
    · omega
    · exact h
  | k + 1, out, hl, h => by
    rw [iterP]
    have hle := passR_leq g wo g.length 0 out
    have hlen : (passR g wo g.length 0 out).length = g.length := by rw [hle.1]; exact hl
    refine iterP_clo g wo hg k _ hlen ?_
    obtain ⟨h1, h2⟩ := leq_unseen _ _ hle
    by_cases e : unseen (passR g wo g.length 0 out) = unseen out
    · right
      rw [h2 e]
      intro y hy hm t ht hw
      have := passR_has g wo hg g.length 0 out hl y (Nat.zero_le _) (by omega) hm t ht hw
      rw [h2 e] at this
      exact this
    · rcases h with h | h
      · left; omega
      · right
        intro y hy hm t ht hw
        -- closed already: a pass changes nothing
        exfalso
        refine e ?_
        have hstep : ∀ (l : List Int) (o : List Bool), (∀ t ∈ l, t ≠ wo → o.getD t.toNat false = true) → (∀ t ∈ l, 0 ≤ t ∧ t < o.length) → l.foldl (setT wo) o = o := by
          intro l
          induction l with
          | nil => intro o _ _; rfl
          | cons x l ih =>
            intro o ho hr
            have hx : setT wo o x = o := by
              unfold setT
              split
              · rfl
              · next hne =>
                have h3 := ho x (by simp) hne
                have h4 := hr x (by simp)
                apply List.ext_getElem?
                intro j
                rw [List.getElem?_set]
                by_cases hj : x.toNat = j
                · subst hj
                  have : x.toNat < o.length := by omega
                  rw [if_pos rfl, if_pos this, List.getElem?_eq_getElem this]
                  simp [List.getD, this] at h3
                  rw [h3]
                · rw [if_neg hj]
            rw [List.foldl_cons, hx]
            exact ih o (fun t ht => ho t (List.mem_cons_of_mem _ ht)) (fun t ht => hr t (List.mem_cons_of_mem _ ht))
        have hpass : ∀ (k x : Nat), passR g wo k x out = out := by
          intro k
          induction k with
          | zero => intro x; rfl
          | succ k ih =>
            intro x
            rw [passR]
            have : stepX g wo out x = out := by
              unfold stepX
              split
              · next hq =>
                by_cases hx : x < g.length
                · exact hstep _ _ (fun t ht hw => h x hx hq t ht hw) (fun t ht => by rw [hl]; exact hg x t ht)
                · have : tosG g x = [] := by unfold tosG; rw [List.getElem?_eq_none (by omega)]; rfl
                  rw [this]; rfl
              · rfl
            rw [this]
            exact ih (x + 1)
        rw [hpass]
theorem setT_sound {g : List GB} {wo : Int} {b x : Nat} (hx : FR g wo b x) : ∀ (l : List Int) (out : List Bool), (∀ t ∈ l, t ∈ tosG g x) → (∀ c, out.getD c false = true → FR g wo b c) → ∀ c, (l.foldl (setT wo) out).getD c false = true → FR g wo b c
  | [], _, _, h, c, hc => h c hc
  | t :: l, out, hl, h, c, hc => by
    rw [List.foldl_cons] at hc
    refine setT_sound hx l _ (fun y hy => hl y (List.mem_cons_of_mem _ hy)) (fun d hd => ?_) c hc
    unfold setT at hd
    split at hd
    · exact h d hd
    · next hne =>
      by_cases e : t.toNat = d
      · rw [← e]; exact FR.step x t hx (hl t (by simp)) hne
      · rw [set_getD_ne _ _ _ e] at hd; exact h d hd
theorem passR_sound {g : List GB} {wo : Int} {b : Nat} : ∀ (k x : Nat) (out : List Bool), (∀ c, out.getD c false = true → FR g wo b c) → ∀ c, (passR g wo k x out).getD c false = true → FR g wo b c
  | 0, _, _, h => h
  | k + 1, x, out, h => by
    rw [passR]
    refine passR_sound k (x + 1) _ (fun c hc => ?_)
    unfold stepX at hc
    split at hc
    · next hq => exact setT_sound (h x hq) _ _ (fun t ht => ht) h c hc
    · exact h c hc
theorem iterP_sound {g : List GB} {wo : Int} {b : Nat} : ∀ (k : Nat) (out : List Bool), (∀ c, out.getD c false = true → FR g wo b c) → ∀ c, (iterP g wo k out).getD c false = true → FR g wo b c
  | 0, _, h => h
  | k + 1, out, h => by rw [iterP]; exact iterP_sound k _ (passR_sound _ _ _ h)
theorem fromP_spec {g : List GB} (hg : tosOk g) {b : Nat} {wo : Int} (hb : b < g.length) (hw : (b : Int) ≠ wo) (c : Nat) : (fromP g (b : Int) wo).getD c false = true ↔ FR g wo b c := by
  unfold fromP
  rw [if_neg (by omega), Int.toNat_natCast]
  have hl : ((List.replicate g.length false).set b true).length = g.length := by simp
  have hbs : ((List.replicate g.length false).set b true).getD b false = true := set_getD _ _ (by simpa using hb)
  constructor
  · refine iterP_sound _ _ (fun c hc => ?_) c
    by_cases e : b = c
    · subst e; exact FR.here
    · rw [set_getD_ne _ _ _ e] at hc
      have : (List.replicate g.length false).getD c false = false := by simp [List.getD, List.getElem?_replicate]; split <;> rfl
      rw [this] at hc; cases hc
  · intro h
    have hun : unseen ((List.replicate g.length false).set b true) < g.length := by
      have h1 := unseen_set (List.replicate g.length false) b (by simpa using hb) (by simp [List.getD, hb])
      have h2 := unseen_le (List.replicate g.length false)
      simp at h2
      omega
    have hc := iterP_clo g wo hg g.length _ hl (.inl hun)
    have hle := iterP_leq g wo g.length ((List.replicate g.length false).set b true)
    induction h with
    | here => exact hle.2 b hbs
    | step x t hx ht hne ih =>
      have hxl : x < g.length := by
        rcases Nat.lt_or_ge x g.length with h | h
        · exact h
        · have : tosG g x = [] := by unfold tosG; rw [List.getElem?_eq_none h]; rfl
          rw [this] at ht; cases ht
      exact hc x hxl ih t ht hne
end Go.Proofs.Ytlejpoofgnenhaa
