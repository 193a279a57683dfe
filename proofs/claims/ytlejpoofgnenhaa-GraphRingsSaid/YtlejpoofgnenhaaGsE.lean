/-
  Reach's answer at the law's functions, by From's.
-/
import Derived.Test.YtlejpoofgnenhaaGsD
namespace Go.Proofs.Ytlejpoofgnenhaa
open Go.RowKit Go.Shelf
set_option linter.unusedVariables false
set_option linter.unusedSimpArgs false

theorem edgesG_mem : ∀ (ts : List (List Int)) (i a : Nat) (x : Int), (a, x) ∈ edgesG i ts ↔ i ≤ a ∧ ∃ t, ts[a - i]? = some t ∧ x ∈ t
  | [], i, a, x => by simp [edgesG]
  | t :: ts, i, a, x => by
    rw [edgesG, List.mem_append, edgesG_mem ts (i + 1) a x]
    constructor
    · rintro (h | ⟨h, u, hu, hx⟩)
      · obtain ⟨y, hy, e⟩ := List.mem_map.1 h
        injection e with e1 e2
        subst e1 e2
        exact ⟨Nat.le_refl _, t, by simp, hy⟩
      · refine ⟨by omega, u, ?_, hx⟩
        rw [show a - i = (a - (i + 1)) + 1 by omega, List.getElem?_cons_succ]
        exact hu
    · rintro ⟨h, u, hu, hx⟩
      by_cases e : a = i
      · subst e
        rw [Nat.sub_self, List.getElem?_cons_zero] at hu
        injection hu with hu
        subst hu
        exact .inl (List.mem_map.2 ⟨x, hx, rfl⟩)
      · refine .inr ⟨by omega, u, ?_, hx⟩
        rw [show a - i = (a - (i + 1)) + 1 by omega, List.getElem?_cons_succ] at hu
        exact hu
theorem predsG_mem (E : List (Nat × Int)) (j : Nat) (p : Int) : p ∈ predsG E j ↔ ∃ a : Nat, p = (a : Int) ∧ (a, (j : Int)) ∈ E := by
  unfold predsG
  rw [List.mem_map]
  constructor
  · rintro ⟨⟨a, x⟩, he, rfl⟩
    obtain ⟨h1, h2⟩ := List.mem_filter.1 he
    have : x = (j : Int) := by simpa using h2
    subst this
    exact ⟨a, rfl, h1⟩
  · rintro ⟨a, rfl, h⟩
    exact ⟨(a, (j : Int)), List.mem_filter.2 ⟨h, by simp⟩, rfl⟩
theorem graphP_len (l : List (Int × Int)) (whole : Bool) : (graphP l whole).length = min l.length 14 := by
  unfold graphP mkG
  rw [List.length_mapIdx, endsG_len]
theorem tosL_len (l : List (Int × Int)) : (tosL l).length = min l.length 14 := by
  unfold tosL
  rw [List.length_map, endsG_len]
theorem tosG_graphP (l : List (Int × Int)) (b : Nat) : tosG (graphP l true) b = ((tosL l)[b]?).getD [] := by
  unfold tosG graphP mkG tosL
  rw [List.getElem?_mapIdx, List.getElem?_map]
  cases (endsG l true)[b]? <;> rfl
theorem bkG_graphP (l : List (Int × Int)) (b : Nat) (hb : b < (graphP l true).length) : bkG (graphP l true) b = (predsG (edgesG 0 (tosL l)) b).filter (hasG (graphP l true).length) := by
  have hb2 : b < (endsG l true).length := by rw [endsG_len]; rw [graphP_len] at hb; exact hb
  unfold bkG
  congr 1
  conv => lhs; unfold graphP mkG
  rw [List.getElem?_mapIdx, List.getElem?_eq_getElem hb2]
  rfl
/-- Who comes to a block are those that go to it. -/
theorem bk_tos (l : List (Int × Int)) (b : Nat) (hb : b < (graphP l true).length) (x : Int) : x ∈ bkG (graphP l true) b ↔ ∃ a : Nat, x = (a : Int) ∧ (b : Int) ∈ tosG (graphP l true) a := by
  rw [bkG_graphP l b hb, List.mem_filter, predsG_mem]
  constructor
  · rintro ⟨⟨a, rfl, he⟩, h2⟩
    obtain ⟨-, t, ht, hx⟩ := (edgesG_mem _ _ _ _).1 he
    refine ⟨a, rfl, ?_⟩
    rw [tosG_graphP, show (tosL l)[a]? = some t from ht]
    exact hx
  · rintro ⟨a, rfl, hx⟩
    rw [tosG_graphP] at hx
    cases ht : (tosL l)[a]? with
    | none => rw [ht] at hx; cases hx
    | some t =>
      rw [ht] at hx
      refine ⟨⟨a, rfl, (edgesG_mem _ _ _ _).2 ⟨Nat.zero_le _, t, ht, hx⟩⟩, ?_⟩
      have := (List.getElem?_eq_some_iff.1 ht).1
      rw [tosL_len] at this
      unfold hasG
      rw [graphP_len]
      exact decide_eq_true ⟨by omega, by omega⟩
theorem tosOk_graphP {l : List (Int × Int)} (hin : ∀ x ∈ l, InG x.1 ∧ InG x.2) : tosOk (graphP l true) := by
  intro b t ht
  rw [tosG_graphP] at ht
  cases hq : (tosL l)[b]? with
  | none => rw [hq] at ht; cases ht
  | some u =>
    rw [hq] at ht
    have hm : u ∈ tosL l := List.mem_of_getElem? hq
    unfold tosL at hm
    obtain ⟨e, he, rfl⟩ := List.mem_map.1 hm
    rw [graphP_len]
    exact (endsG_ok hin e he).2.2 rfl t ht
theorem wholeG_graphP {l : List (Int × Int)} (hin : ∀ x ∈ l, InG x.1 ∧ InG x.2) (hl : 0 < (graphP l true).length) : wholeG (graphP l true) = true := by
  rw [wholeG_true, decide_eq_true hl]
  intro j d hj hd t ht
  have := tosOk_graphP hin j t (by unfold tosG; rw [hd]; exact ht)
  exact decide_eq_true this

theorem RB.shut {bk : Nat → List Int} {sh : List Bool} {to_ c : Nat} (h : RB bk sh to_ c) : sh.getD to_ false = false ∧ sh.getD c false = false := by
  induction h with
  | here h => exact ⟨h, h⟩
  | back b x _ _ h ih => exact ⟨ih.1, h⟩
theorem rep_getD (n c : Nat) : (List.replicate n false).getD c false = false := by
  simp [List.getD, List.getElem?_replicate]
  split <;> rfl
theorem shutG_at (n c : Nat) (wo : Int) (hc : c < n) : (shutG n wo).getD c false = decide ((c : Int) = wo) := by
  unfold shutG
  cases hq : hasG n wo with
  | true =>
    obtain ⟨p0, p1⟩ : 0 ≤ wo ∧ wo < n := of_decide_eq_true hq
    rw [if_pos rfl]
    by_cases e : wo.toNat = c
    · rw [e, set_getD _ _ (by simpa using hc)]
      exact (decide_eq_true (by omega)).symm
    · rw [set_getD_ne _ _ _ e, rep_getD]
      exact (decide_eq_false (by omega)).symm
  | false =>
    rw [if_neg (by simp), rep_getD]
    have : ¬ (0 ≤ wo ∧ wo < n) := of_decide_eq_false hq
    exact (decide_eq_false (by omega)).symm
theorem markP_has : ∀ (xs : List Nat) (l : List Bool) (c : Nat), c < l.length → ((markP l xs).getD c false = true ↔ (l.getD c false = true ∨ c ∈ xs))
  | [], l, c, _ => by simp [markP]
  | x :: xs, l, c, hc => by
    have h := markP_has xs (l.set x true) c (by simpa using hc)
    rw [show markP l (x :: xs) = markP (l.set x true) xs from rfl, h, List.mem_cons]
    by_cases e : x = c
    · subst e
      exact ⟨fun _ => .inr (.inl rfl), fun _ => .inl (set_getD _ _ hc)⟩
    · rw [set_getD_ne _ _ _ e]
      constructor
      · rintro (h | h)
        · exact .inl h
        · exact .inr (.inr h)
      · rintro (h | h | h)
        · exact .inl h
        · exact absurd h.symm e
        · exact .inr h
theorem FR.off {g : List GB} {wo : Int} {b c : Nat} (hg : tosOk g) (hb : (b : Int) ≠ wo) (h : FR g wo b c) : (c : Int) ≠ wo := by
  induction h with
  | here => exact hb
  | step x t _ ht hw _ => have := hg x t ht; omega
theorem FR.lt {g : List GB} {wo : Int} {b c : Nat} (hg : tosOk g) (hb : b < g.length) (h : FR g wo b c) : c < g.length := by
  induction h with
  | here => exact hb
  | step x t _ ht hw _ => have := hg x t ht; omega
/-- From which one comes to a block, and to which one comes from a block. -/
theorem rb_fr {l : List (Int × Int)} (hin : ∀ x ∈ l, InG x.1 ∧ InG x.2) {to_ b : Nat} {wo : Int} (ht : to_ < (graphP l true).length) (hb : b < (graphP l true).length) (htw : (to_ : Int) ≠ wo) (hbw : (b : Int) ≠ wo) :
    RB (bkG (graphP l true)) (shutG (graphP l true).length wo) to_ b ↔ FR (graphP l true) wo b to_ := by
  have hg := tosOk_graphP hin
  constructor
  · intro h
    have : ∀ c, RB (bkG (graphP l true)) (shutG (graphP l true).length wo) to_ c → c < (graphP l true).length ∧ (c : Int) ≠ wo ∧ FR (graphP l true) wo c to_ := by
      intro c hc
      induction hc with
      | here _ => exact ⟨ht, htw, FR.here⟩
      | back d x _ hx hs ih =>
        obtain ⟨hd, hdw, hf⟩ := ih
        obtain ⟨a, rfl, hm⟩ := (bk_tos l d hd x).1 hx
        have ha := bkG_in _ d hd _ hx
        rw [Int.toNat_natCast] at hs ⊢
        have ha2 : a < (graphP l true).length := by omega
        rw [shutG_at _ _ _ ha2] at hs
        exact ⟨ha2, of_decide_eq_false hs, FR.head hm hdw hf⟩
    exact (this b h).2.2
  · intro h
    have : ∀ c, FR (graphP l true) wo b c → RB (bkG (graphP l true)) (shutG (graphP l true).length wo) to_ c → RB (bkG (graphP l true)) (shutG (graphP l true).length wo) to_ b := by
      intro c hc
      induction hc with
      | here => exact id
      | step x t hx hm hw ih =>
        intro hr
        have hi := hg x t hm
        have hxl := hx.lt hg hb
        have hxo := hx.off hg hbw
        have hx2 : ((x : Nat) : Int) ∈ bkG (graphP l true) t.toNat := (bk_tos l t.toNat (by omega) _).2 ⟨x, rfl, by rw [show ((t.toNat : Nat) : Int) = t by omega]; exact hm⟩
        have := RB.back t.toNat (x : Int) hr hx2 (by rw [Int.toNat_natCast, shutG_at _ _ _ hxl]; exact decide_eq_false hxo)
        rw [Int.toNat_natCast] at this
        exact ih this
    exact this to_ h (RB.here (by rw [shutG_at _ _ _ ht]; exact decide_eq_false htw))
theorem reachP_len (g : List GB) (to_ wo : Int) : (reachP g to_ wo).length = g.length := by
  unfold reachP
  split
  · rw [markP_len]; simp
  · simp
/-- What the law asks of Reach. -/
theorem reach_spec {l : List (Int × Int)} (hin : ∀ x ∈ l, InG x.1 ∧ InG x.2) {to_ wo : Int} {b : Nat} (hb : b < (graphP l true).length) :
    (reachP (graphP l true) to_ wo).getD b false = (decide (0 ≤ to_ ∧ to_ < ((graphP l true).length : Int) ∧ to_ ≠ wo ∧ (b : Int) ≠ wo) && (fromP (graphP l true) (b : Int) wo).getD to_.toNat false) := by
  have hg := tosOk_graphP hin
  have hw := wholeG_graphP hin (by omega)
  unfold reachP
  rw [hw, Bool.true_and]
  cases hq : hasG (graphP l true).length to_ with
  | false =>
    have hn : ¬ (0 ≤ to_ ∧ to_ < ((graphP l true).length : Int)) := of_decide_eq_false hq
    rw [if_neg (by simp), rep_getD, decide_eq_false (by omega), Bool.false_and]
  | true =>
    obtain ⟨p0, p1⟩ : 0 ≤ to_ ∧ to_ < ((graphP l true).length : Int) := of_decide_eq_true hq
    have ht : to_.toNat < (graphP l true).length := by omega
    rw [if_pos rfl]
    have hsp := srcP_spec (bk := bkG (graphP l true)) (n := (graphP l true).length) (sh := shutG (graphP l true).length wo) (b := to_.toNat) (bkG_in _) (shutG_len _ _) ht
    rw [Bool.eq_iff_iff, markP_has _ _ _ (by simpa using hb), rep_getD, Bool.and_eq_true, decide_eq_true_iff, hsp.1]
    simp only [Bool.false_eq_true, false_or]
    constructor
    · intro h
      have h2 := h.shut
      rw [shutG_at _ _ _ ht, shutG_at _ _ _ hb] at h2
      have e1 : ((to_.toNat : Nat) : Int) ≠ wo := of_decide_eq_false h2.1
      have e2 : (b : Int) ≠ wo := of_decide_eq_false h2.2
      exact ⟨⟨p0, p1, by omega, e2⟩, (fromP_spec hg hb e2 _).2 ((rb_fr hin ht hb e1 e2).1 h)⟩
    · rintro ⟨⟨-, -, e1, e2⟩, h⟩
      exact (rb_fr hin ht hb (by omega) e2).2 ((fromP_spec hg hb e2 _).1 h)
theorem fromP_len (g : List GB) (b wo : Int) : (fromP g b wo).length = g.length := by
  unfold fromP
  split
  · simp
  · rw [(iterP_leq g wo _ _).1]; simp
end Go.Proofs.Ytlejpoofgnenhaa
