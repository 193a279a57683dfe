/-
  Ways through blocks over plain data: how blocks are left, by calls within one another and by a row of blocks that were entered; both come to the same.
-/
import Derived.Test.YthjlpbglnnebkaaGrB
namespace Go.Proofs.Ythjlpbglnnebkaa
open Go.RowKit
set_option linter.unusedVariables false
set_option linter.unusedSimpArgs false

/-- Where a block goes. -/
def tosG (g : List GB) (b : Nat) : List Int := ((g[b]?).map GB.to_).getD []
def goP (f : Nat → List Bool → List Nat → Option (List Bool × List Nat)) : List Int → List Bool → List Nat → Option (List Bool × List Nat)
  | [], s, o => some (s, o)
  | t :: ts, s, o => if s.getD t.toNat false then goP f ts s o else match f t.toNat s o with
    | none => none
    | some (s', o') => goP f ts s' o'
/-- By calls within one another. -/
def walkP (g : List GB) : Nat → Nat → List Bool → List Nat → Option (List Bool × List Nat)
  | 0, _, _, _ => none
  | k + 1, b, s, o => match goP (walkP g k) (tosG g b) (s.set b true) o with
    | none => none
    | some (s', o') => some (s', o' ++ [b])
/-- By a row of blocks that were entered. -/
def postRun (g : List GB) : Nat → List Bool → List (Nat × Nat) → List Nat → Option (List Nat)
  | _, _, [], o => some o
  | 0, _, _ :: _, _ => none
  | k + 1, s, (b, q) :: st, o => match (tosG g b)[q]? with
    | none => postRun g k s st (o ++ [b])
    | some t => if s.getD t.toNat false then postRun g k s ((b, q + 1) :: st) o else postRun g k (s.set t.toNat true) ((t.toNat, 0) :: (b, q + 1) :: st) o

/-- How many are not entered. -/
def unseen (s : List Bool) : Nat := s.count false
theorem set_getD (s : List Bool) (b : Nat) (hb : b < s.length) : (s.set b true).getD b false = true := by simp [List.getD, hb]
theorem set_getD_ne (s : List Bool) (b c : Nat) (h : b ≠ c) : (s.set b true).getD c false = s.getD c false := by simp [List.getD, List.getElem?_set_ne h]
theorem unseen_set : ∀ (s : List Bool) (b : Nat), b < s.length → s.getD b false = false → unseen (s.set b true) + 1 = unseen s
  | [], b, hb, _ => by simp at hb
  | x :: s, 0, _, h => by
    simp [List.getD] at h
    subst h
    simp [unseen]
  | x :: s, b + 1, hb, h => by
    have := unseen_set s b (by simpa using hb) (by simpa [List.getD] using h)
    cases x <;> simp [unseen] at this ⊢ <;> omega
/-- What was entered stays entered. -/
def Sub (s s' : List Bool) : Prop := s'.length = s.length ∧ unseen s' ≤ unseen s ∧ ∀ c, s.getD c false = true → s'.getD c false = true
theorem Sub.refl (s : List Bool) : Sub s s := ⟨rfl, Nat.le_refl _, fun _ h => h⟩
theorem Sub.trans {a b c : List Bool} (h : Sub a b) (k : Sub b c) : Sub a c := ⟨k.1.trans h.1, Nat.le_trans k.2.1 h.2.1, fun x hx => k.2.2 x (h.2.2 x hx)⟩
theorem Sub.set {s : List Bool} {b : Nat} (hb : b < s.length) (h : s.getD b false = false) : Sub s (s.set b true) :=
  ⟨by simp, by have := unseen_set s b hb h; omega, fun c hc => by
    by_cases e : b = c
    · subst e; rw [h] at hc; cases hc
    · rw [set_getD_ne _ _ _ e]; exact hc⟩
def tosOk (g : List GB) : Prop := ∀ b t, t ∈ tosG g b → 0 ≤ t ∧ t < g.length
theorem tosOk_of {g : List GB} (h : wholeG g = true) : tosOk g := by
  intro b t ht
  unfold tosG at ht
  cases hb : g[b]? with
  | none => rw [hb] at ht; simp at ht
  | some d => rw [hb] at ht; exact (wholeG_all h).2 b d hb t (by simpa using ht)

theorem goP_total (g : List GB) (f : Nat → List Bool → List Nat → Option (List Bool × List Nat)) (n k : Nat) (hf : ∀ b s o, s.length = n → unseen s ≤ k → b < n → s.getD b false = false → ∃ s' o', f b s o = some (s', o') ∧ Sub s s') :
    ∀ (ts : List Int) (s : List Bool) (o : List Nat), s.length = n → unseen s ≤ k → (∀ t ∈ ts, 0 ≤ t ∧ t < n) → ∃ s' o', goP f ts s o = some (s', o') ∧ Sub s s'
  | [], s, o, _, _, _ => ⟨s, o, rfl, Sub.refl s⟩
  | t :: ts, s, o, hs, hu, ht => by
    unfold goP
    have h0 := ht t (by simp)
    cases hq : s.getD t.toNat false with
    | true => rw [if_pos rfl]; exact goP_total g f n k hf ts s o hs hu (fun x hx => ht x (List.mem_cons_of_mem _ hx))
    | false =>
      rw [if_neg (by simp)]
      obtain ⟨s', o', h1, h2⟩ := hf t.toNat s o hs hu (by omega) hq
      rw [h1]
      obtain ⟨s2, o2, h3, h4⟩ := goP_total g f n k hf ts s' o' (h2.1.trans hs) (Nat.le_trans h2.2.1 hu) (fun x hx => ht x (List.mem_cons_of_mem _ hx))
      exact ⟨s2, o2, h3, h2.trans h4⟩
theorem walkP_total (g : List GB) (hg : tosOk g) : ∀ (k b : Nat) (s : List Bool) (o : List Nat), s.length = g.length → unseen s ≤ k → b < g.length → s.getD b false = false → ∃ s' o', walkP g k b s o = some (s', o') ∧ Sub s s' ∧ s'.getD b false = true
  | 0, b, s, o, hs, hu, hb, hq => by
    have := unseen_set s b (by omega) hq
    omega
  | k + 1, b, s, o, hs, hu, hb, hq => by
    have h1 := unseen_set s b (by omega) hq
    have h2 := Sub.set (by omega : b < s.length) hq
    obtain ⟨s', o', h3, h4⟩ := goP_total g (walkP g k) g.length k (fun b s o hs hu hb hq => by
      obtain ⟨s', o', h1, h2, _⟩ := walkP_total g hg k b s o hs hu hb hq
      exact ⟨s', o', h1, h2⟩) (tosG g b) (s.set b true) o (by simpa using hs) (by omega) (fun t ht => hg b t ht)
    unfold walkP
    rw [h3]
    exact ⟨s', o' ++ [b], rfl, h2.trans h4, h4.2.2 b (set_getD s b (by omega))⟩

theorem goP_post (g : List GB) (k : Nat) (hf : ∀ b s o s' o', walkP g k b s o = some (s', o') → ∀ st, ∃ j, ∀ m, postRun g (j + m) (s.set b true) ((b, 0) :: st) o = postRun g m s' st o') (b : Nat) :
    ∀ (ts : List Int) (q : Nat) (s : List Bool) (o : List Nat) (s' : List Bool) (o' : List Nat), (tosG g b).drop q = ts → goP (walkP g k) ts s o = some (s', o') → ∀ st, ∃ j, ∀ m, postRun g (j + m) s ((b, q) :: st) o = postRun g m s' ((b, (tosG g b).length) :: st) o'
  | [], q, s, o, s', o', hq, h, st => by
    simp [goP] at h
    obtain ⟨rfl, rfl⟩ := h
    have hl : (tosG g b).length ≤ q := List.drop_eq_nil_iff.1 hq
    refine ⟨0, fun m => ?_⟩
    rw [Nat.zero_add]
    cases m with
    | zero => simp [postRun]
    | succ m => simp [postRun, List.getElem?_eq_none hl]
  | t :: ts, q, s, o, s', o', hq, h, st => by
    have hlt : q < (tosG g b).length := by
      rcases Nat.lt_or_ge q (tosG g b).length with h | h
      · exact h
      · rw [List.drop_eq_nil_iff.2 h] at hq; cases hq
    have hd := List.drop_eq_getElem_cons hlt
    rw [hq] at hd
    injection hd with h1 h2
    have hget : (tosG g b)[q]? = some t := by rw [h1]; exact List.getElem?_eq_getElem hlt
    unfold goP at h
    cases hs : s.getD t.toNat false with
    | true =>
      rw [hs, if_pos rfl] at h
      obtain ⟨j, hj⟩ := goP_post g k hf b ts (q + 1) s o s' o' h2.symm h st
      refine ⟨j + 1, fun m => ?_⟩
      rw [show j + 1 + m = (j + m) + 1 by omega, ← hj m, postRun, hget]
      simp only [hs]
      rfl
    | false =>
      rw [hs, if_neg (by simp)] at h
      cases hw : walkP g k t.toNat s o with
      | none => rw [hw] at h; cases h
      | some r =>
        obtain ⟨s1, o1⟩ := r
        rw [hw] at h
        obtain ⟨j1, hj1⟩ := hf t.toNat s o s1 o1 hw ((b, q + 1) :: st)
        obtain ⟨j, hj⟩ := goP_post g k hf b ts (q + 1) s1 o1 s' o' h2.symm h st
        refine ⟨j1 + j + 1, fun m => ?_⟩
        rw [show j1 + j + 1 + m = (j1 + (j + m)) + 1 by omega, ← hj m, ← hj1 (j + m), postRun, hget]
        simp only [hs]
        rfl
theorem walkP_post (g : List GB) : ∀ (k b : Nat) (s : List Bool) (o : List Nat) (s' : List Bool) (o' : List Nat), walkP g k b s o = some (s', o') → ∀ st, ∃ j, ∀ m, postRun g (j + m) (s.set b true) ((b, 0) :: st) o = postRun g m s' st o'
  | 0, b, s, o, s', o', h, st => by simp [walkP] at h
  | k + 1, b, s, o, s', o', h, st => by
    unfold walkP at h
    cases hg : goP (walkP g k) (tosG g b) (s.set b true) o with
    | none => rw [hg] at h; cases h
    | some r =>
      obtain ⟨s1, o1⟩ := r
      rw [hg] at h
      simp only [Option.some.injEq, Prod.mk.injEq] at h
      obtain ⟨rfl, rfl⟩ := h
      obtain ⟨j, hj⟩ := goP_post g k (walkP_post g k) b (tosG g b) 0 (s.set b true) o s1 o1 (by simp) hg st
      refine ⟨j + 1, fun m => ?_⟩
      rw [show j + 1 + m = j + (1 + m) by omega, hj (1 + m), show 1 + m = m + 1 by omega, postRun, List.getElem?_eq_none (Nat.le_refl _)]

/-- The blocks as they are left. -/
def postP (g : List GB) : List Nat := if wholeG g then (match walkP g g.length 0 (List.replicate g.length false) [] with | some (_, o) => o | none => []) else []
theorem postP_run {g : List GB} (h : wholeG g = true) : ∃ s', walkP g g.length 0 (List.replicate g.length false) [] = some (s', postP g) ∧ ∃ j, postRun g j ((List.replicate g.length false).set 0 true) [(0, 0)] [] = some (postP g) := by
  obtain ⟨hp, _⟩ := wholeG_all h
  obtain ⟨s', o', h1, h2, h3⟩ := walkP_total g (tosOk_of h) g.length 0 (List.replicate g.length false) [] (by simp) (by simp [unseen]) hp (by simp [List.getD, hp])
  have hpost : postP g = o' := by unfold postP; rw [h, h1]; simp
  rw [hpost]
  refine ⟨s', h1, ?_⟩
  obtain ⟨j, hj⟩ := walkP_post g _ _ _ _ _ _ h1 []
  exact ⟨j + 0, by rw [hj 0]; rfl⟩
end Go.Proofs.Ythjlpbglnnebkaa
