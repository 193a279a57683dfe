/-
  Rings over plain data: its parts are those that lead to each other, each behind all that it leads to.
-/
import Derived.Test.YtlejpoofgnenhaaGrX
import Derived.Test.YtlejpoofgnenhaaGsM
namespace Go.Proofs.Ytlejpoofgnenhaa
open Go.RowKit Go.Shelf
set_option linter.unusedVariables false
set_option linter.unusedSimpArgs false

theorem bkE_mem (g : List GB) (l : List Nat) (b : Nat) (x : Int) : x ∈ bkE g l b ↔ ∃ a ∈ l, x = (a : Int) ∧ (b : Int) ∈ tosG g a := by
  unfold bkE
  rw [predsG_mem]
  unfold edgesOf
  constructor
  · rintro ⟨a, rfl, h⟩
    obtain ⟨c, hc, h2⟩ := List.mem_flatMap.1 h
    obtain ⟨y, hy, e⟩ := List.mem_map.1 h2
    injection e with e1 e2
    subst e1 e2
    exact ⟨c, hc, rfl, hy⟩
  · rintro ⟨a, ha, rfl, h⟩
    exact ⟨a, rfl, List.mem_flatMap.2 ⟨a, ha, List.mem_map.2 ⟨_, h, rfl⟩⟩⟩
theorem sortN_up {xs : List Nat} (h : xs.Nodup) : (sortN xs).Pairwise (· < ·) := by
  have h1 : (sortN xs).Pairwise (fun x y => decide (x ≤ y) = true) := by
    unfold sortN
    exact List.pairwise_mergeSort (fun a b c h1 h2 => by simp at *; omega) (fun a b => by simp; omega) xs
  have h2 : (sortN xs).Nodup := (List.mergeSort_perm xs _).nodup_iff.2 h
  exact (h1.and h2).imp (fun {a b} ⟨h1, h2⟩ => by
    have := of_decide_eq_true h1
    omega)
/-- While parts are told. -/
structure RI (g : List GB) (L pre : List Nat) (sh : List Bool) (ps : List (List Nat)) : Prop where
  len : sh.length = g.length
  pre : ∀ c ∈ pre, sh.getD c false = true
  bc : ∀ u ∈ L, ∀ t ∈ tosG g u, sh.getD t.toNat false = true → sh.getD u false = true
  inn : ∀ c, sh.getD c false = true ↔ ∃ p ∈ ps, c ∈ p
  scc : ∀ p ∈ ps, ∃ r ∈ L, ∀ x, x ∈ p ↔ x ∈ L ∧ RR g r x ∧ RR g x r
  up : ∀ p ∈ ps, p.Pairwise (· < ·)
  ord : ps.Pairwise fun p q => ∀ a ∈ q, ∀ b ∈ p, ¬ RR g a b
theorem RI.back {g : List GB} {L pre : List Nat} {sh : List Bool} {ps : List (List Nat)} (h : RI g L pre sh ps) (hL : ∀ c, c ∈ L ↔ RR g 0 c) {a b : Nat} (ha : a ∈ L) (hr : RR g a b) : sh.getD b false = true → sh.getD a false = true := by
  induction hr with
  | here => exact id
  | step x t hx ht _ ih => exact fun e => ih (h.bc x ((hL x).2 (((hL a).1 ha).trans hx)) t ht e)
theorem RI.skip {g : List GB} {L pre : List Nat} {sh : List Bool} {ps : List (List Nat)} {b : Nat} (h : RI g L pre sh ps) (hb : sh.getD b false = true) : RI g L (pre ++ [b]) sh ps :=
  ⟨h.len, fun c hc => by
    rcases List.mem_append.1 hc with hc | hc
    · exact h.pre c hc
    · simp at hc; subst hc; exact hb, h.bc, h.inn, h.scc, h.up, h.ord⟩
theorem RI.part {g : List GB} {L pre l : List Nat} {sh : List Bool} {ps : List (List Nat)} {b : Nat} (hg : tosOk g) (hL : ∀ c, c ∈ L ↔ RR g 0 c) (hLn : ∀ c ∈ L, c < g.length) (hq : ∀ pre r post, L = pre ++ r :: post → ∀ x ∈ L, ∀ t ∈ tosG g x, RR g t.toNat r → ¬ RR g t.toNat x → x ∈ pre)
    (h : RI g L pre sh ps) (e : L = pre ++ b :: l) (hb : sh.getD b false = false) : RI g L (pre ++ [b]) (srcP (bkE g L) g.length sh b).1 (ps ++ [sortN (srcP (bkE g L) g.length sh b).2]) := by
  have hbL : b ∈ L := by rw [e]; simp
  have hbn := hLn b hbL
  obtain ⟨s1, s2, s3, s4, s5⟩ := srcP_spec (bk := bkE g L) (n := g.length) (sh := sh) (b := b) (bkE_in hLn) h.len hbn
  have hin : ∀ {a c : Nat}, a ∈ L → RR g a c → c ∈ L := fun ha hc => (hL _).2 (((hL _).1 ha).trans hc)
  have hmem : ∀ x, x ∈ (srcP (bkE g L) g.length sh b).2 ↔ x ∈ L ∧ RR g b x ∧ RR g x b := by
    intro x
    rw [s1 x]
    constructor
    · intro hx
      induction hx with
      | here _ => exact ⟨hbL, FR.here, FR.here⟩
      | back c y hc hy hs ih =>
        obtain ⟨a, ha, rfl, hm⟩ := (bkE_mem g L c y).1 hy
        rw [Int.toNat_natCast] at hs ⊢
        obtain ⟨i1, i2, i3⟩ := ih
        have hac : RR g a c := by have := rr_edge hg hm; simpa using this
        have hab : RR g a b := hac.trans i3
        refine ⟨ha, ?_, hab⟩
        refine Classical.byContradiction fun hn => ?_
        have hp := hq pre b l e a ha (c : Int) hm (by simpa using i3) (fun hca => hn (i2.trans (by simpa using hca)))
        have := h.pre a hp
        rw [hs] at this
        cases this
    · rintro ⟨hxL, hbx, hxb⟩
      have key : ∀ c, RR g x c → RB (bkE g L) sh b c → RB (bkE g L) sh b x := by
        intro c hc
        induction hc with
        | here => exact id
        | step y t hy ht hw ih =>
          intro hr
          have hyL := hin hxL hy
          have hin2 := hg y t ht
          have hyu : sh.getD y false = false := by
            cases e2 : sh.getD y false with
            | false => rfl
            | true =>
              have := h.back hL hbL (hbx.trans hy) e2
              rw [hb] at this
              cases this
          have := RB.back t.toNat (y : Int) hr ((bkE_mem g L _ _).2 ⟨y, hyL, rfl, by rw [show ((t.toNat : Nat) : Int) = t by omega]; exact ht⟩) (by rw [Int.toNat_natCast]; exact hyu)
          rw [Int.toNat_natCast] at this
          exact ih this
      exact key b hxb (RB.here hb)
  refine ⟨s4, fun c hc => ?_, fun u hu t ht hs => ?_, fun c => ?_, fun p hp => ?_, fun p hp => ?_, ?_⟩
  · rw [s2]
    rcases List.mem_append.1 hc with hc | hc
    · exact .inl (h.pre c hc)
    · simp at hc; subst hc; exact .inr ((hmem c).2 ⟨hbL, FR.here, FR.here⟩)
  · rw [s2] at hs ⊢
    rcases hs with hs | hs
    · exact .inl (h.bc u hu t ht hs)
    · obtain ⟨t1, t2, t3⟩ := (hmem _).1 hs
      have hut := rr_edge hg ht
      refine Classical.byContradiction fun hn => ?_
      rw [not_or] at hn
      have hn2 : ¬ RR g b u := fun hbu => hn.2 ((hmem u).2 ⟨hu, hbu, hut.trans t3⟩)
      have := h.pre u (hq pre b l e u hu t ht t3 (fun htu => hn2 (t2.trans htu)))
      exact hn.1 this
  · rw [s2, h.inn]
    constructor
    · rintro (⟨p, hp, hc⟩ | hc)
      · exact ⟨p, List.mem_append_left _ hp, hc⟩
      · exact ⟨_, List.mem_append_right _ (List.mem_singleton.2 rfl), (sortN_mem _ _).2 hc⟩
    · rintro ⟨p, hp, hc⟩
      rcases List.mem_append.1 hp with hp | hp
      · exact .inl ⟨p, hp, hc⟩
      · simp at hp; subst hp; exact .inr ((sortN_mem _ _).1 hc)
  · rcases List.mem_append.1 hp with hp | hp
    · exact h.scc p hp
    · simp at hp
      subst hp
      exact ⟨b, hbL, fun x => by rw [sortN_mem]; exact hmem x⟩
  · rcases List.mem_append.1 hp with hp | hp
    · exact h.up p hp
    · simp at hp; subst hp; exact sortN_up s3
  · rw [List.pairwise_append]
    refine ⟨h.ord, by simp, fun p hp q hq2 a ha c hc hr => ?_⟩
    simp at hq2
    subst hq2
    have ha2 := (sortN_mem _ _).1 ha
    obtain ⟨a1, a2, a3⟩ := (hmem a).1 ha2
    have hcs := (h.inn c).2 ⟨p, hp, hc⟩
    have := h.back hL hbL (a2.trans hr) hcs
    rw [hb] at this
    cases this
theorem run_ri {g : List GB} {L : List Nat} (hg : tosOk g) (hL : ∀ c, c ∈ L ↔ RR g 0 c) (hLn : ∀ c ∈ L, c < g.length) (hq : ∀ pre r post, L = pre ++ r :: post → ∀ x ∈ L, ∀ t ∈ tosG g x, RR g t.toNat r → ¬ RR g t.toNat x → x ∈ pre) :
    ∀ (l pre : List Nat) (sh : List Bool) (ps : List (List Nat)), L = pre ++ l → RI g L pre sh ps → ∃ sh', RI g L L sh' (ringsRun (bkE g L) g.length l sh ps)
  | [], pre, sh, ps, e, h => by
    rw [List.append_nil] at e
    rw [ringsRun]
    have h2 := h
    rw [← e] at h2
    exact ⟨sh, h2⟩
  | b :: l, pre, sh, ps, e, h => by
    rw [ringsRun]
    cases hb : sh.getD b false with
    | true =>
      rw [if_pos rfl]
      exact run_ri hg hL hLn hq l (pre ++ [b]) sh ps (by rw [e]; simp) (h.skip hb)
    | false =>
      rw [if_neg (by simp)]
      exact run_ri hg hL hLn hq l (pre ++ [b]) _ _ (by rw [e]; simp) (h.part hg hL hLn hq e hb)
/-- What the law asks of the parts. -/
structure PS8 (g : List GB) (parts : List (List Nat)) : Prop where
  all : ∀ c, RR g 0 c ↔ ∃ p ∈ parts, c ∈ p
  scc : ∀ p ∈ parts, ∃ r, ∀ x, x ∈ p ↔ RR g 0 x ∧ RR g r x ∧ RR g x r
  up : ∀ p ∈ parts, p.Pairwise (· < ·)
  ord : parts.Pairwise fun p q => ∀ a ∈ p, ∀ b ∈ q, ¬ RR g a b
theorem rings_ps {g : List GB} (hw : wholeG g = true) : PS8 g (ringsP g) := by
  obtain ⟨hL, hq⟩ := order_q hw
  obtain ⟨sh, h⟩ := run_ri (tosOk_of hw) hL (orderP_lt g) hq (orderP g) [] (List.replicate g.length false) [] rfl ⟨by simp, fun c hc => (by cases hc), fun u _ t _ h => (by rw [rep_getD] at h; cases h), fun c => ⟨fun h => (by rw [rep_getD] at h; cases h), fun ⟨p, hp, _⟩ => (by cases hp)⟩, fun p hp => (by cases hp), fun p hp => (by cases hp), by simp⟩
  unfold ringsP
  refine ⟨fun c => ?_, fun p hp => ?_, fun p hp => h.up p (List.mem_reverse.1 hp), ?_⟩
  · constructor
    · intro hc
      obtain ⟨p, hp, hc2⟩ := (h.inn c).1 (h.pre c ((hL c).2 hc))
      exact ⟨p, List.mem_reverse.2 hp, hc2⟩
    · rintro ⟨p, hp, hc⟩
      obtain ⟨r, _, hr⟩ := h.scc p (List.mem_reverse.1 hp)
      exact (hL c).1 ((hr c).1 hc).1
  · obtain ⟨r, _, hr⟩ := h.scc p (List.mem_reverse.1 hp)
    exact ⟨r, fun x => by rw [hr x, hL x]⟩
  · rw [List.pairwise_reverse]
    exact h.ord
end Go.Proofs.Ytlejpoofgnenhaa
