/-
  Rings over plain data: its parts are those that lead to each other, each behind all that it leads to.
  The row that says in which part a block stands.
-/
import Derived.Test.YtoplllebaagnnaaJd13
import Derived.Test.YtoplllebaagnnaaJd30
namespace Go.Proofs.Ytoplllebaagnnaa
set_option linter.unusedVariables false
set_option linter.unusedSimpArgs false
open Go.RowKit Go.Shelf

theorem bkE_mem (g : List GB) (l : List Nat) (b : Nat) (x : Int) : x ∈ bkE g l b ↔ ∃ a ∈ l, x = (a : Int) ∧ (b : Int) ∈ tosG g a := by
  unfold bkE
  rw [predsG_mem]
  unfold edgesOf
  constructor
  · rintro ⟨a, rfl, h⟩
    obtain ⟨c, hc, h2⟩ := List.mem_flatMap.1 h
    obtain ⟨y, hy, e⟩ := List.mem_map.1 h2
    injection e with e1 e2
    subst e1 e2
    exact ⟨c, hc, rfl, hy⟩
  · rintro ⟨a, ha, rfl, h⟩
    exact ⟨a, rfl, List.mem_flatMap.2 ⟨a, ha, List.mem_map.2 ⟨_, h, rfl⟩⟩⟩
theorem sortN_up {xs : List Nat} (h : xs.Nodup) : (sortN xs).Pairwise (· < ·) := by
  have h1 : (sortN xs).Pairwise (fun x y => decide (x ≤ y) = true) := by
    unfold sortN
    exact List.pairwise_mergeSort (fun a b c h1 h2 => by simp at *; omega) (fun a b => by simp; omega) xs
  have h2 : (sortN xs).Nodup := (List.mergeSort_perm xs _).nodup_iff.2 h
  exact (h1.and h2).imp (fun {a b} ⟨h1, h2⟩ => by
    have := of_decide_eq_true h1
    omega)
/-- While parts are told. -/
structure RI (g : List GB) (L pre : List Nat) (sh : List Bool) (ps : List (List Nat)) : Prop where
  len : sh.length = g.length
  pre : ∀ c ∈ pre, sh.getD c false = true
  bc : ∀ u ∈ L, ∀ t ∈ tosG g u, sh.getD t.toNat false = true → sh.getD u false = true
  inn : ∀ c, sh.getD c false = true ↔ ∃ p ∈ ps, c ∈ p
  scc : ∀ p ∈ ps, ∃ r ∈ L, ∀ x, x ∈ p ↔ x ∈ L ∧ RR g r x ∧ RR g x r
  up : ∀ p ∈ ps, p.Pairwise (· < ·)
  ord : ps.Pairwise fun p q => ∀ a ∈ q, ∀ b ∈ p, ¬ RR g a b
theorem RI.back {g : List GB} {L pre : List Nat} {sh : List Bool} {ps : List (List Nat)} (h : RI g L pre sh ps) (hL : ∀ c, c ∈ L ↔ RR g 0 c) {a b : Nat} (ha : a ∈ L) (hr : RR g a b) : sh.getD b false = true → sh.getD a false = true := by
  induction hr with
  | here => exact id
  | step x t hx ht _ ih => exact fun e => ih (h.bc x ((hL x).2 (((hL a).1 ha).trans hx)) t ht e)
theorem RI.skip {g : List GB} {L pre : List Nat} {sh : List Bool} {ps : List (List Nat)} {b : Nat} (h : RI g L pre sh ps) (hb : sh.getD b false = true) : RI g L (pre ++ [b]) sh ps :=
  ⟨h.len, fun c hc => by
    rcases List.mem_append.1 hc with hc | hc
    · exact h.pre c hc
    · simp at hc; subst hc; exact hb, h.bc, h.inn, h.scc, h.up, h.ord⟩
theorem RI.part {g : List GB} {L pre l : List Nat} {sh : List Bool} {ps : List (List Nat)} {b : Nat} (hg : tosOk g) (hL : ∀ c, c ∈ L ↔ RR g 0 c) (hLn : ∀ c ∈ L, c < g.length) (hq : ∀ pre r post, L = pre ++ r :: post → ∀ x ∈ L, ∀ t ∈ tosG g x, RR g t.toNat r → ¬ RR g t.toNat x → x ∈ pre)
    (h : RI g L pre sh ps) (e : L = pre ++ b :: l) (hb : sh.getD b false = false) : RI g L (pre ++ [b]) (srcP (bkE g L) g.length sh b).1 (ps ++ [sortN (srcP (bkE g L) g.length sh b).2]) := by
  have hbL : b ∈ L := by rw [e]; simp
  have hbn := hLn b hbL
  obtain ⟨s1, s2, s3, s4, s5⟩ := srcP_spec (bk := bkE g L) (n := g.length) (sh := sh) (b := b) (bkE_in hLn) h.len hbn
  have hin : ∀ {a c : Nat}, a ∈ L → RR g a c → c ∈ L := fun ha hc => (hL _).2 (((hL _).1 ha).trans hc)
  have hmem : ∀ x, x ∈ (srcP (bkE g L) g.length sh b).2 ↔ x ∈ L ∧ RR g b x ∧ RR g x b := by
    intro x
    rw [s1 x]
    constructor
    · intro hx
      induction hx with
      | here _ => exact ⟨hbL, FR.here, FR.here⟩
      | back c y hc hy hs ih =>
        obtain ⟨a, ha, rfl, hm⟩ := (bkE_mem g L c y).1 hy
        rw [Int.toNat_natCast] at hs ⊢
        obtain ⟨i1, i2, i3⟩ := ih
        have hac : RR g a c := by have := rr_edge hg hm; simpa using this
        have hab : RR g a b := hac.trans i3
        refine ⟨ha, ?_, hab⟩
        refine Classical.byContradiction fun hn => ?_
        have hp := hq pre b l e a ha (c : Int) hm (by simpa using i3) (fun hca => hn (i2.trans (by simpa using hca)))
        have := h.pre a hp
        rw [hs] at this
        cases this
    · rintro ⟨hxL, hbx, hxb⟩
      have key : ∀ c, RR g x c → RB (bkE g L) sh b c → RB (bkE g L) sh b x := by
        intro c hc
        induction hc with
        | here => exact id
        | step y t hy ht hw ih =>
          intro hr
          have hyL := hin hxL hy
          have hin2 := hg y t ht
          have hyu : sh.getD y false = false := by
            cases e2 : sh.getD y false with
            | false => rfl
            | true =>
              have := h.back hL hbL (hbx.trans hy) e2
              rw [hb] at this
              cases this
          have := RB.back t.toNat (y : Int) hr ((bkE_mem g L _ _).2 ⟨y, hyL, rfl, by rw [show ((t.toNat : Nat) : Int) = t by omega]; exact ht⟩) (by rw [Int.toNat_natCast]; exact hyu)
          rw [Int.toNat_natCast] at this
          exact ih this
      exact key b hxb (RB.here hb)
  refine ⟨s4, fun c hc => ?_, fun u hu t ht hs => ?_, fun c => ?_, fun p hp => ?_, fun p hp => ?_, ?_⟩
  · rw [s2]
    rcases List.mem_append.1 hc with hc | hc
    · exact .inl (h.pre c hc)
    · simp at hc; subst hc; exact .inr ((hmem c).2 ⟨hbL, FR.here, FR.here⟩)
  · rw [s2] at hs ⊢
    rcases hs with hs | hs
    · exact .inl (h.bc u hu t ht hs)
    · obtain ⟨t1, t2, t3⟩ := (hmem _).1 hs
      have hut := rr_edge hg ht
      refine Classical.byContradiction fun hn => ?_
      rw [not_or] at hn
      have hn2 : ¬ RR g b u := fun hbu => hn.2 ((hmem u).2 ⟨hu, hbu, hut.trans t3⟩)
      have := h.pre u (hq pre b l e u hu t ht t3 (fun htu => hn2 (t2.trans htu)))
      exact hn.1 this
  · rw [s2, h.inn]
    constructor
    · rintro (⟨p, hp, hc⟩ | hc)
      · exact ⟨p, List.mem_append_left _ hp, hc⟩
      · exact ⟨_, List.mem_append_right _ (List.mem_singleton.2 rfl), (sortN_mem _ _).2 hc⟩
    · rintro ⟨p, hp, hc⟩
      rcases List.mem_append.1 hp with hp | hp
      · exact .inl ⟨p, hp, hc⟩
      · simp at hp; subst hp; exact .inr ((sortN_mem _ _).1 hc)
  · rcases List.mem_append.1 hp with hp | hp
    · exact h.scc p hp
    · simp at hp
      subst hp
      exact ⟨b, hbL, fun x => by rw [sortN_mem]; exact hmem x⟩
  · rcases List.mem_append.1 hp with hp | hp
    · exact h.up p hp
    · simp at hp; subst hp; exact sortN_up s3
  · rw [List.pairwise_append]
    refine ⟨h.ord, by simp, fun p hp q hq2 a ha c hc hr => ?_⟩
    simp at hq2
    subst hq2
    have ha2 := (sortN_mem _ _).1 ha
    obtain ⟨a1, a2, a3⟩ := (hmem a).1 ha2
    have hcs := (h.inn c).2 ⟨p, hp, hc⟩
    have := h.back hL hbL (a2.trans hr) hcs
    rw [hb] at this
    cases this
theorem run_ri {g : List GB} {L : List Nat} (hg : tosOk g) (hL : ∀ c, c ∈ L ↔ RR g 0 c) (hLn : ∀ c ∈ L, c < g.length) (hq : ∀ pre r post, L = pre ++ r :: post → ∀ x ∈ L, ∀ t ∈ tosG g x, RR g t.toNat r → ¬ RR g t.toNat x → x ∈ pre) :
    ∀ (l pre : List Nat) (sh : List Bool) (ps : List (List Nat)), L = pre ++ l → RI g L pre sh ps → ∃ sh', RI g L L sh' (ringsRun (bkE g L) g.length l sh ps)
  | [], pre, sh, ps, e, h => by
    rw [List.append_nil] at e
    rw [ringsRun]
    have h2 := h
    rw [← e] at h2
    exact ⟨sh, h2⟩
  | b :: l, pre, sh, ps, e, h => by
    rw [ringsRun]
    cases hb : sh.getD b false with
    | true =>
      rw [if_pos rfl]
      exact run_ri hg hL hLn hq l (pre ++ [b]) sh ps (by rw [e]; simp) (h.skip hb)
    | false =>
      rw [if_neg (by simp)]
      exact run_ri hg hL hLn hq l (pre ++ [b]) _ _ (by rw [e]; simp) (h.part hg hL hLn hq e hb)
/-- What the law asks of the parts. -/
structure PS8 (g : List GB) (parts : List (List Nat)) : Prop where
  all : ∀ c, RR g 0 c ↔ ∃ p ∈ parts, c ∈ p
  scc : ∀ p ∈ parts, ∃ r, ∀ x, x ∈ p ↔ RR g 0 x ∧ RR g r x ∧ RR g x r
  up : ∀ p ∈ parts, p.Pairwise (· < ·)
  ord : parts.Pairwise fun p q => ∀ a ∈ p, ∀ b ∈ q, ¬ RR g a b
theorem rings_ps {g : List GB} (hw : wholeG g = true) : PS8 g (ringsP g) := by
  obtain ⟨hL, hq⟩ := order_q hw
  obtain ⟨sh, h⟩ := run_ri (tosOk_of hw) hL (orderP_lt g) hq (orderP g) [] (List.replicate g.length false) [] rfl ⟨by simp, fun c hc => (by cases hc), fun u _ t _ h => (by rw [rep_getD] at h; cases h), fun c => ⟨fun h => (by rw [rep_getD] at h; cases h), fun ⟨p, hp, _⟩ => (by cases hp)⟩, fun p hp => (by cases hp), fun p hp => (by cases hp), by simp⟩
  unfold ringsP
  refine ⟨fun c => ?_, fun p hp => ?_, fun p hp => h.up p (List.mem_reverse.1 hp), ?_⟩
  · constructor
    · intro hc
      obtain ⟨p, hp, hc2⟩ := (h.inn c).1 (h.pre c ((hL c).2 hc))
      exact ⟨p, List.mem_reverse.2 hp, hc2⟩
    · rintro ⟨p, hp, hc⟩
      obtain ⟨r, _, hr⟩ := h.scc p (List.mem_reverse.1 hp)
      exact (hL c).1 ((hr c).1 hc).1
  · obtain ⟨r, _, hr⟩ := h.scc p (List.mem_reverse.1 hp)
    exact ⟨r, fun x => by rw [hr x, hL x]⟩
  · rw [List.pairwise_reverse]
    exact h.ord
end Go.Proofs.Ytoplllebaagnnaa
namespace Go.Proofs.Ytoplllebaagnnaa
set_option linter.unusedVariables false
set_option linter.unusedSimpArgs false
open Go.RowKit Go.Shelf

def Vis (parts : List (List Nat)) (i k b : Nat) : Prop := (∃ j p, j < i ∧ parts[j]? = some p ∧ b ∈ p) ∨ (∃ p, parts[i]? = some p ∧ b ∈ p.take k)
structure PR (n : Nat) (parts : List (List Nat)) (i k : Nat) (pr : List Int) : Prop where
  len : pr.length = n
  at_ : ∀ b, b < n → (pr.getD b 0 = -1 ∧ ¬ Vis parts i k b) ∨ (Vis parts i k b ∧ ∃ j p, pr.getD b 0 = ((j : Nat) : Int) ∧ parts[j]? = some p ∧ b ∈ p)
theorem PR.start (n : Nat) (parts : List (List Nat)) : PR n parts 0 0 (List.replicate n (-1)) :=
  ⟨by simp, fun b hb => .inl ⟨by simp [List.getD, hb], by
    rintro (⟨j, p, h, _⟩ | ⟨p, _, h⟩)
    · omega
    · simp at h⟩⟩
theorem vis_step {parts : List (List Nat)} {i k b c : Nat} {p : List Nat} (hp : parts[i]? = some p) (hb : p[k]? = some b) : Vis parts i (k + 1) c ↔ (Vis parts i k c ∨ c = b) := by
  have hk := (List.getElem?_eq_some_iff.1 hb)
  obtain ⟨hk, he⟩ := hk
  have ht : p.take (k + 1) = p.take k ++ [b] := by rw [List.take_succ_eq_append_getElem hk, he]
  unfold Vis
  constructor
  · rintro (h | ⟨q, hq, h⟩)
    · exact .inl (.inl h)
    · rw [hp] at hq
      injection hq with hq
      subst hq
      rw [ht] at h
      rcases List.mem_append.1 h with h | h
      · exact .inl (.inr ⟨p, hp, h⟩)
      · simp at h; exact .inr h
  · rintro ((h | ⟨q, hq, h⟩) | rfl)
    · exact .inl h
    · rw [hp] at hq
      injection hq with hq
      subst hq
      exact .inr ⟨p, hp, by rw [ht]; exact List.mem_append_left _ h⟩
    · exact .inr ⟨p, hp, by rw [ht]; simp⟩
theorem PR.put {n : Nat} {parts : List (List Nat)} {i k b : Nat} {p : List Nat} {pr : List Int} (h : PR n parts i k pr) (hp : parts[i]? = some p) (hb : p[k]? = some b) : PR n parts i (k + 1) (pr.set b (i : Int)) := by
  refine ⟨by simpa using h.len, fun c hc => ?_⟩
  rw [vis_step hp hb]
  by_cases e : b = c
  · subst e
    refine .inr ⟨.inr rfl, i, p, ?_, hp, List.mem_of_getElem? hb⟩
    have : b < pr.length := by rw [h.len]; exact hc
    simp [List.getD, this]
  · have hg : (pr.set b (i : Int)).getD c 0 = pr.getD c 0 := by simp [List.getD, List.getElem?_set_ne e]
    rw [hg]
    rcases h.at_ c hc with ⟨h1, h2⟩ | ⟨h1, h2⟩
    · exact .inl ⟨h1, by rintro (h | h); exact h2 h; exact e h.symm⟩
    · exact .inr ⟨.inl h1, h2⟩
theorem PR.next {n : Nat} {parts : List (List Nat)} {i : Nat} {p : List Nat} {pr : List Int} (h : PR n parts i p.length pr) (hp : parts[i]? = some p) : PR n parts (i + 1) 0 pr := by
  have hv : ∀ c, Vis parts (i + 1) 0 c ↔ Vis parts i p.length c := fun c => by
    unfold Vis
    constructor
    · rintro (⟨j, q, hj, hq, hc⟩ | ⟨q, _, hc⟩)
      · by_cases e : j = i
        · subst e
          rw [hp] at hq
          injection hq with hq
          subst hq
          exact .inr ⟨p, hp, by rw [List.take_length]; exact hc⟩
        · exact .inl ⟨j, q, by omega, hq, hc⟩
      · simp at hc
    · rintro (⟨j, q, hj, hq, hc⟩ | ⟨q, hq, hc⟩)
      · exact .inl ⟨j, q, by omega, hq, hc⟩
      · exact .inl ⟨i, q, by omega, hq, List.mem_of_mem_take hc⟩
  exact ⟨h.len, fun c hc => by rw [hv]; exact h.at_ c hc⟩
theorem PS8.apart {g : List GB} {parts : List (List Nat)} (h : PS8 g parts) {i j : Nat} {p q : List Nat} (hi : parts[i]? = some p) (hj : parts[j]? = some q) (hlt : i < j) {a b : Nat} (ha : a ∈ p) (hb : b ∈ q) : ¬ RR g a b := by
  obtain ⟨h1, e1⟩ := List.getElem?_eq_some_iff.1 hi
  obtain ⟨h2, e2⟩ := List.getElem?_eq_some_iff.1 hj
  have := List.pairwise_iff_getElem.1 h.ord i j h1 h2 hlt
  rw [e1, e2] at this
  exact this a ha b hb
theorem PS8.rise {g : List GB} {parts : List (List Nat)} (h : PS8 g parts) {i k l : Nat} {p : List Nat} (hi : parts[i]? = some p) {a b : Nat} (ha : p[k]? = some a) (hb : p[l]? = some b) (hlt : k < l) : a < b := by
  obtain ⟨h1, e1⟩ := List.getElem?_eq_some_iff.1 ha
  obtain ⟨h2, e2⟩ := List.getElem?_eq_some_iff.1 hb
  have := List.pairwise_iff_getElem.1 (h.up p (List.mem_of_getElem? hi)) k l h1 h2 hlt
  rw [e1, e2] at this
  exact this
theorem PR.fresh {g : List GB} {n : Nat} {parts : List (List Nat)} {i k b : Nat} {p : List Nat} {pr : List Int} (hP : PS8 g parts) (h : PR n parts i k pr) (hp : parts[i]? = some p) (hb : p[k]? = some b) (hbn : b < n) : pr.getD b 0 = -1 := by
  rcases h.at_ b hbn with ⟨h1, _⟩ | ⟨h1, _⟩
  · exact h1
  · exfalso
    rcases h1 with ⟨j, q, hj, hq, hc⟩ | ⟨q, hq, hc⟩
    · exact hP.apart hq hp hj hc (List.mem_of_getElem? hb) FR.here
    · rw [hp] at hq
      injection hq with hq
      subst hq
      obtain ⟨m, hm⟩ := List.getElem?_of_mem hc
      rw [List.getElem?_take] at hm
      split at hm
      · next hlt => have := hP.rise hp hm hb hlt; omega
      · cases hm
theorem PR.fin {g : List GB} {n : Nat} {parts : List (List Nat)} {pr : List Int} (hP : PS8 g parts) (h : PR n parts parts.length 0 pr) (b : Nat) (hb : b < n) : (pr.getD b 0 = -1 ∧ ¬ RR g 0 b) ∨ (RR g 0 b ∧ ∃ j p, pr.getD b 0 = ((j : Nat) : Int) ∧ parts[j]? = some p ∧ b ∈ p) := by
  rcases h.at_ b hb with ⟨h1, h2⟩ | ⟨_, j, p, h1, h2, h3⟩
  · refine .inl ⟨h1, fun hr => h2 ?_⟩
    obtain ⟨p, hp, hbp⟩ := (hP.all b).1 hr
    obtain ⟨j, hj⟩ := List.getElem?_of_mem hp
    exact .inl ⟨j, p, (List.getElem?_eq_some_iff.1 hj).1, hj, hbp⟩
  · exact .inr ⟨(hP.all b).2 ⟨p, List.mem_of_getElem? h2, h3⟩, j, p, h1, h2, h3⟩
theorem PR.ge {g : List GB} {n : Nat} {parts : List (List Nat)} {pr : List Int} (hP : PS8 g parts) (h : PR n parts parts.length 0 pr) (b : Nat) (hb : b < n) (hr : RR g 0 b) : 0 ≤ pr.getD b 0 := by
  rcases h.fin hP b hb with ⟨_, h2⟩ | ⟨_, j, p, h1, _⟩
  · exact absurd hr h2
  · rw [h1]; omega
theorem PR.no {g : List GB} {n : Nat} {parts : List (List Nat)} {pr : List Int} (hP : PS8 g parts) (h : PR n parts parts.length 0 pr) (b : Nat) (hb : b < n) (hr : ¬ RR g 0 b) : pr.getD b 0 = -1 := by
  rcases h.fin hP b hb with ⟨h1, _⟩ | ⟨h2, _⟩
  · exact h1
  · exact absurd h2 hr
theorem PR.le {g : List GB} {n : Nat} {parts : List (List Nat)} {pr : List Int} (hP : PS8 g parts) (h : PR n parts parts.length 0 pr) (a b : Nat) (ha : a < n) (hb : b < n) (hr : RR g 0 a) (hab : RR g a b) : pr.getD b 0 ≤ pr.getD a 0 := by
  rcases h.fin hP a ha with ⟨_, h2⟩ | ⟨_, i, p, h1, h2, h3⟩
  · exact absurd hr h2
  rcases h.fin hP b hb with ⟨_, k2⟩ | ⟨_, j, q, k1, k2, k3⟩
  · exact absurd (hr.trans hab) k2
  · rw [h1, k1]
    rcases Nat.lt_or_ge i j with h | h
    · exact absurd hab (hP.apart h2 k2 h h3 k3)
    · omega
theorem PR.eq {g : List GB} {n : Nat} {parts : List (List Nat)} {pr : List Int} (hP : PS8 g parts) (h : PR n parts parts.length 0 pr) (a b : Nat) (ha : a < n) (hb : b < n) (hr : RR g 0 a) : pr.getD a 0 = pr.getD b 0 ↔ (RR g a b ∧ RR g b a) := by
  constructor
  · intro e
    rcases h.fin hP a ha with ⟨_, h2⟩ | ⟨_, i, p, h1, h2, h3⟩
    · exact absurd hr h2
    rcases h.fin hP b hb with ⟨k1, _⟩ | ⟨_, j, q, k1, k2, k3⟩
    · omega
    · obtain rfl : i = j := by omega
      rw [h2] at k2
      injection k2 with k2
      subst k2
      obtain ⟨r, hrr⟩ := hP.scc p (List.mem_of_getElem? h2)
      obtain ⟨-, a1, a2⟩ := (hrr a).1 h3
      obtain ⟨-, b1, b2⟩ := (hrr b).1 k3
      exact ⟨a2.trans b1, b2.trans a1⟩
  · rintro ⟨h1, h2⟩
    have := h.le hP a b ha hb hr h1
    have := h.le hP b a hb ha (hr.trans h1) h2
    omega
theorem edgesOf_len {g : List GB} (h : ∀ b, (tosG g b).length ≤ 2) : ∀ l : List Nat, (edgesOf g l).length ≤ 2 * l.length
  | [] => by simp [edgesOf]
  | b :: l => by
    have h1 := edgesOf_len h l
    have h2 := h b
    unfold edgesOf at h1 ⊢
    simp only [List.flatMap_cons, List.length_append, List.length_map, List.length_cons]
    omega
theorem tos_two {l : List (Int × Int)} (hin : ∀ x ∈ l, InG x.1 ∧ InG x.2) (b : Nat) : (tosG (graphP l true) b).length ≤ 2 := by
  rw [tosG_graphP]
  cases hq : (tosL l)[b]? with
  | none => simp
  | some u =>
    have hm : u ∈ tosL l := List.mem_of_getElem? hq
    unfold tosL at hm
    obtain ⟨e, he, rfl⟩ := List.mem_map.1 hm
    exact (endsG_ok hin e he).1
theorem from_rr {g : List GB} (hg : tosOk g) {a : Nat} (ha : a < g.length) (b : Nat) : (fromP g (a : Int) (-1)).getD b false = true ↔ RR g a b := fromP_spec hg ha (by omega) b
end Go.Proofs.Ytoplllebaagnnaa
