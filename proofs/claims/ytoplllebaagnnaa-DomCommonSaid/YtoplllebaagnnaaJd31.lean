/-
  Blocks on all ways, over plain data: the walk that enters blocks.
  Blocks on all ways, over plain data: the chains of the search.
  Blocks on all ways, over plain data: the search, and its last pass.
-/
import Derived.Test.YtoplllebaagnnaaJd28
import Derived.Test.YtoplllebaagnnaaJd29
import Derived.Test.YtoplllebaagnnaaJd30
namespace Go.Proofs.Ytoplllebaagnnaa
set_option linter.unusedVariables false
set_option linter.unusedSimpArgs false

/-- From which turn one goes to which. -/
def Ed (g : List GB) (bs : List Int) (u v : Nat) : Prop := u < bs.length ∧ v < bs.length ∧ bs.getD v 0 ∈ tosG g (bs.getD u 0).toNat
def prN (fs : List Int) (v : Nat) : Nat := (fs.getD v 0).toNat
theorem getD_snoc {α : Type} (l : List α) (x d : α) (i : Nat) : (l ++ [x]).getD i d = if i < l.length then l.getD i d else if i = l.length then x else d := by
  simp only [List.getD, List.getElem?_append]
  split
  · rfl
  · next h =>
    by_cases e : i = l.length
    · subst e; simp
    · have : i - l.length ≠ 0 := by omega
      simp [e, List.getElem?_eq_none, this]
theorem getD_set_eq {α : Type} (l : List α) (j : Nat) (x d : α) (i : Nat) : (l.set j x).getD i d = if i = j ∧ j < l.length then x else l.getD i d := by
  simp only [List.getD, List.getElem?_set]
  by_cases h : j = i
  · subst h
    by_cases h2 : j < l.length
    · simp [h2]
    · simp [h2, List.getElem?_eq_none]
  · simp [h, Ne.symm h]
theorem anc_cong {par par' : Nat → Nat} {k : Nat} (hp : ∀ v, 0 < v → v < k → par' v = par v) (hl : ∀ v, 0 < v → v < k → par v < v) {a v : Nat} (h : Anc par a v) (hv : v < k) : Anc par' a v := by
  induction h with
  | refl => exact .refl _
  | @step v h0 h1 ih =>
    have := hl v h0 hv
    exact .step h0 (by rw [hp v h0 hv]; exact ih (by omega))
theorem mem_pushT {n : Int} : ∀ {l : List Int} {st : List (Int × Int)} {p : Int × Int}, p ∈ pushT n l st ↔ p ∈ st ∨ ∃ t ∈ l, p = (n, t)
  | [], st, p => by simp [pushT]
  | x :: l, st, p => by
    rw [pushT, mem_pushT]
    constructor
    · rintro (h | ⟨t, ht, rfl⟩)
      · rcases List.mem_cons.1 h with rfl | h
        · exact .inr ⟨x, by simp, rfl⟩
        · exact .inl h
      · exact .inr ⟨t, List.mem_cons_of_mem _ ht, rfl⟩
    · rintro (h | ⟨t, ht, rfl⟩)
      · exact .inl (List.mem_cons_of_mem _ h)
      · rcases List.mem_cons.1 ht with rfl | ht
        · exact .inl (by simp)
        · exact .inr ⟨t, ht, rfl⟩
theorem pw_pushT {n : Int} : ∀ {l : List Int} {st : List (Int × Int)}, st.Pairwise (fun s s' => s'.1 ≤ s.1) → (∀ s ∈ st, s.1 ≤ n) → (pushT n l st).Pairwise (fun s s' => s'.1 ≤ s.1)
  | [], st, h, _ => h
  | x :: l, st, h, hb => by
    rw [pushT]
    refine pw_pushT (List.pairwise_cons.2 ⟨fun s hs => hb s hs, h⟩) (fun s hs => ?_)
    rcases List.mem_cons.1 hs with rfl | hs
    · exact Int.le_refl _
    · exact hb s hs

/-- The walk on its way. -/
structure EnI (g : List GB) (e : En) (st : List (Int × Int)) : Prop where
  tl : e.turn.length = g.length
  fl : e.from_.length = e.blocks.length
  pos : 0 < e.blocks.length
  b0 : e.blocks.getD 0 0 = 0
  f0 : e.from_.getD 0 0 = -1
  inv1 : ∀ t, t < e.blocks.length → 0 ≤ e.blocks.getD t 0 ∧ e.blocks.getD t 0 < g.length ∧ e.turn.getD (e.blocks.getD t 0).toNat 0 = t
  inv2 : ∀ b, b < g.length → e.turn.getD b 0 = -1 ∨ ∃ t, t < e.blocks.length ∧ e.turn.getD b 0 = t ∧ e.blocks.getD t 0 = b
  fp : ∀ v, 0 < v → v < e.blocks.length → 0 ≤ e.from_.getD v 0
  dfs : Dfs e.blocks.length (Ed g e.blocks) (prN e.from_)
  stk : ∀ s ∈ st, ∃ u : Nat, u < e.blocks.length ∧ s.1 = u ∧ s.2 ∈ tosG g (e.blocks.getD u 0).toNat ∧ Anc (prN e.from_) u (e.blocks.length - 1)
  srt : st.Pairwise (fun s s' => s'.1 ≤ s.1)
  cov : ∀ u, u < e.blocks.length → ∀ t ∈ tosG g (e.blocks.getD u 0).toNat, e.turn.getD t.toNat 0 ≠ -1 ∨ ((u : Int), t) ∈ st
  cnt : e.turn.count (-1) + e.blocks.length = g.length
  sl : st.length ≤ 2 * e.blocks.length

theorem count_set_one {l : List Int} {i : Nat} {x : Int} (hi : i < l.length) (h : l.getD i 0 = -1) (hx : x ≠ -1) : (l.set i x).count (-1) + 1 = l.count (-1) := by
  have e : l[i] = -1 := by simpa [List.getD, hi] using h
  have hc := List.count_set (a := x) (b := (-1 : Int)) (l := l) (i := i) hi
  have hm : 0 < l.count (-1) := List.count_pos_iff.2 (e ▸ List.getElem_mem hi)
  rw [hc]
  simp [e, hx]
  omega

theorem EnI.skip {g : List GB} {e : En} {s : Int × Int} {l : List (Int × Int)} (h : EnI g e (s :: l)) (ht : e.turn.getD s.2.toNat 0 ≠ -1) : EnI g e l where
  tl := h.tl
  fl := h.fl
  pos := h.pos
  b0 := h.b0
  f0 := h.f0
  inv1 := h.inv1
  inv2 := h.inv2
  fp := h.fp
  dfs := h.dfs
  stk := fun s' hs => h.stk s' (List.mem_cons_of_mem _ hs)
  srt := (List.pairwise_cons.1 h.srt).2
  cov := fun u hu t hm => by
    rcases h.cov u hu t hm with h1 | h1
    · exact .inl h1
    · rcases List.mem_cons.1 h1 with rfl | h1
      · exact .inl ht
      · exact .inr h1
  cnt := h.cnt
  sl := by have := h.sl; simp at this; omega

theorem EnI.enter {g : List GB} (hg : tosOk g) (h2 : ∀ b, (tosG g b).length ≤ 2) {e : En} {s : Int × Int} {l : List (Int × Int)} (h : EnI g e (s :: l)) (ht : e.turn.getD s.2.toNat 0 = -1) :
    EnI g ⟨e.blocks ++ [s.2], e.turn.set s.2.toNat (e.blocks.length : Int), e.from_ ++ [s.1]⟩ (pushT (e.blocks.length : Int) (tosG g s.2.toNat) l) := by
  obtain ⟨u, hu, hsu, hst, hanc⟩ := h.stk s (by simp)
  obtain ⟨hx0, hxn⟩ := hg _ _ hst
  obtain ⟨k, hk⟩ : ∃ k, k = e.blocks.length := ⟨_, rfl⟩
  have htl := h.tl
  have hlt : s.2.toNat < e.turn.length := by omega
  have hbs : ∀ i, i < e.blocks.length → (e.blocks ++ [s.2]).getD i 0 = e.blocks.getD i 0 := fun i hi => by rw [getD_snoc, if_pos hi]
  have hbk : (e.blocks ++ [s.2]).getD e.blocks.length 0 = s.2 := by rw [getD_snoc, if_neg (by omega), if_pos rfl]
  have hfs : ∀ i, i < e.blocks.length → (e.from_ ++ [s.1]).getD i 0 = e.from_.getD i 0 := fun i hi => by rw [getD_snoc, if_pos (by rw [h.fl]; exact hi)]
  have hfk : (e.from_ ++ [s.1]).getD e.blocks.length 0 = s.1 := by rw [getD_snoc, if_neg (by rw [h.fl]; omega), if_pos h.fl.symm]
  have hpar : ∀ v, 0 < v → v < e.blocks.length → prN (e.from_ ++ [s.1]) v = prN e.from_ v := fun v _ hv => by unfold prN; rw [hfs v hv]
  have hpk : prN (e.from_ ++ [s.1]) e.blocks.length = u := by unfold prN; rw [hfk, hsu]; rfl
  have hac : ∀ {a v : Nat}, Anc (prN e.from_) a v → v < e.blocks.length → Anc (prN (e.from_ ++ [s.1])) a v := fun h1 hv => anc_cong hpar h.dfs.par_lt h1 hv
  have hpos := h.pos
  have hnew : ∀ b, b < g.length → b ≠ s.2.toNat → (e.turn.set s.2.toNat (e.blocks.length : Int)).getD b 0 = e.turn.getD b 0 := fun b hb hn => by rw [getD_set_eq, if_neg (by omega)]
  have hnewx : (e.turn.set s.2.toNat (e.blocks.length : Int)).getD s.2.toNat 0 = (e.blocks.length : Int) := by rw [getD_set_eq, if_pos ⟨rfl, hlt⟩]
  -- what stands on the row from which one comes later: up the walk
  have hup : ∀ s' ∈ s :: l, ∀ u' : Nat, s'.1 = u' → u' < e.blocks.length → Anc (prN e.from_) u' (e.blocks.length - 1) → Anc (prN (e.from_ ++ [s.1])) u' e.blocks.length := by
    intro s' hs' u' hu' hul ha
    have hle : s'.1 ≤ s.1 := by
      rcases List.mem_cons.1 hs' with rfl | hs'
      · exact Int.le_refl _
      · exact (List.pairwise_cons.1 h.srt).1 s' hs'
    have h1 := h.dfs.anc_lin ha hanc (by omega) (by omega)
    refine .step hpos ?_
    rw [hpk]
    exact hac h1 hu
  refine ⟨by simpa using h.tl, by simp [h.fl], by simp, ?_, ?_, ?_, ?_, ?_, ?_, ?_, ?_, ?_, ?_, ?_⟩
  · show (e.blocks ++ [s.2]).getD 0 0 = 0
    rw [hbs 0 hpos]; exact h.b0
  · show (e.from_ ++ [s.1]).getD 0 0 = -1
    rw [hfs 0 hpos]; exact h.f0
  · intro t htt
    simp only [List.length_append, List.length_singleton] at htt
    by_cases e1 : t < e.blocks.length
    · obtain ⟨i1, i2, i3⟩ := h.inv1 t e1
      dsimp only
      rw [hbs t e1]
      refine ⟨i1, i2, ?_⟩
      rw [hnew _ (by omega) (fun e2 => by rw [e2, ht] at i3; omega)]
      exact i3
    · obtain rfl : t = e.blocks.length := by omega
      dsimp only
      rw [hbk]
      exact ⟨hx0, hxn, hnewx⟩
  · intro b hb
    dsimp only
    by_cases e1 : b = s.2.toNat
    · right
      refine ⟨e.blocks.length, by simp, ?_, ?_⟩
      · rw [e1]; exact hnewx
      · rw [hbk]; omega
    · rw [hnew b hb e1]
      rcases h.inv2 b hb with q | ⟨t, q1, q2, q3⟩
      · exact .inl q
      · exact .inr ⟨t, by simp; omega, q2, by rw [hbs t q1]; exact q3⟩
  · intro v h0 hv
    simp only [List.length_append, List.length_singleton] at hv
    dsimp only
    by_cases e1 : v < e.blocks.length
    · rw [hfs v e1]; exact h.fp v h0 e1
    · obtain rfl : v = e.blocks.length := by omega
      rw [hfk]; omega
  · refine ⟨fun v h0 hv => ?_, fun v h0 hv => ?_, fun u v he => ⟨he.1, he.2.1⟩, fun a v he hav => ?_, fun v h0 hv => ?_⟩
    · simp only [List.length_append, List.length_singleton] at hv
      dsimp only
      by_cases e1 : v < e.blocks.length
      · rw [hpar v h0 e1]; exact h.dfs.par_lt v h0 e1
      · obtain rfl : v = e.blocks.length := by omega
        rw [hpk]; exact hu
    · simp only [List.length_append, List.length_singleton] at hv
      dsimp only
      by_cases e1 : v < e.blocks.length
      · rw [hpar v h0 e1]
        obtain ⟨q1, q2, q3⟩ := h.dfs.par_E v h0 e1
        refine ⟨by simp; omega, by simp; omega, ?_⟩
        rw [hbs v e1, hbs _ q1]; exact q3
      · obtain rfl : v = e.blocks.length := by omega
        rw [hpk]
        refine ⟨by simp; omega, by simp, ?_⟩
        rw [hbk, hbs u hu]; exact hst
    · obtain ⟨q1, q2, q3⟩ := he
      simp only [List.length_append, List.length_singleton] at q1 q2
      dsimp only at q3 ⊢
      by_cases e1 : v < e.blocks.length
      · rw [hbs v e1, hbs a (by omega)] at q3
        exact hac (h.dfs.fwd a v ⟨by omega, e1, q3⟩ hav) e1
      · obtain rfl : v = e.blocks.length := by omega
        rw [hbk, hbs a hav] at q3
        rcases h.cov a hav s.2 q3 with r | r
        · exact absurd ht r
        · obtain ⟨u2, w1, w2, w3, w4⟩ := h.stk _ r
          obtain rfl : a = u2 := by have w2 : (a : Int) = (u2 : Int) := w2; omega
          exact hup _ r a rfl hav w4
    · simp only [List.length_append, List.length_singleton] at hv
      dsimp only
      by_cases e1 : v < e.blocks.length
      · rw [hpar v h0 e1]; exact hac (h.dfs.pre v h0 e1) (by omega)
      · obtain rfl : v = e.blocks.length := by omega
        rw [hpk]; exact hac hanc (by omega)
  · intro s' hs'
    dsimp only
    simp only [List.length_append, List.length_singleton, Nat.add_sub_cancel]
    rcases mem_pushT.1 hs' with hl | ⟨t, htm, rfl⟩
    · obtain ⟨u', w1, w2, w3, w4⟩ := h.stk s' (List.mem_cons_of_mem _ hl)
      exact ⟨u', by omega, w2, by rw [hbs u' w1]; exact w3, hup s' (List.mem_cons_of_mem _ hl) u' w2 w1 w4⟩
    · exact ⟨e.blocks.length, by omega, rfl, by rw [hbk]; exact htm, .refl _⟩
  · refine pw_pushT (List.pairwise_cons.1 h.srt).2 (fun s' hs' => ?_)
    obtain ⟨u', w1, w2, _⟩ := h.stk s' (List.mem_cons_of_mem _ hs')
    omega
  · intro a ha t htm
    simp only [List.length_append, List.length_singleton] at ha
    dsimp only at htm ⊢
    by_cases e1 : a < e.blocks.length
    · rw [hbs a e1] at htm
      have hin := hg _ _ htm
      by_cases e2 : t.toNat = s.2.toNat
      · left; rw [e2, hnewx]; omega
      · rw [hnew _ (by omega) e2]
        rcases h.cov a e1 t htm with r | r
        · exact .inl r
        · rcases List.mem_cons.1 r with r | r
          · exfalso; rw [← r] at e2; exact e2 rfl
          · exact .inr (mem_pushT.2 (.inl r))
    · obtain rfl : a = e.blocks.length := by omega
      rw [hbk] at htm
      exact .inr (mem_pushT.2 (.inr ⟨t, htm, rfl⟩))
  · have := count_set_one hlt ht (x := (e.blocks.length : Int)) (by omega)
    have h3 := h.cnt
    simp only [List.length_append, List.length_singleton]
    omega
  · have := h.sl
    rw [pushT_len]
    simp only [List.length_append, List.length_singleton, List.length_cons] at this ⊢
    have := h2 s.2.toNat
    omega

theorem enRun_ok {g : List GB} (hg : tosOk g) (h2 : ∀ b, (tosG g b).length ≤ 2) (hn : g.length ≤ 1000) : ∀ (k : Nat) (e : En) (st : List (Int × Int)), EnI g e st → 3 * (g.length - e.blocks.length) + st.length ≤ k → ∃ en, enRun g k e st = some en ∧ EnI g en [] := by
  intro k
  induction k with
  | zero =>
    intro e st h hk
    obtain rfl : st = [] := List.length_eq_zero_iff.1 (by omega)
    exact ⟨e, rfl, h⟩
  | succ k ih =>
    intro e st h hk
    cases st with
    | nil => exact ⟨e, rfl, h⟩
    | cons s l =>
      obtain ⟨u, hu, hsu, hst, hanc⟩ := h.stk s (by simp)
      obtain ⟨hx0, hxn⟩ := hg _ _ hst
      have htl := h.tl
      rw [enRun]
      have hrd : rdI e.turn s.2 = some (e.turn.getD s.2.toNat 0) := by unfold rdI; rw [if_pos (by omega)]
      rw [hrd, Option.bind_some]
      have hc := h.cnt
      by_cases ht : e.turn.getD s.2.toNat 0 = -1
      · have hm : 0 < e.turn.count (-1) := List.count_pos_iff.2 (by
          rw [← ht]
          have : s.2.toNat < e.turn.length := by omega
          simp [List.getD, this])
        have hsl := h.sl
        have := h2 s.2.toNat
        simp only [List.length_cons] at hsl hk
        rw [if_pos ht, if_pos (by omega)]
        refine ih _ _ (h.enter hg h2 ht) ?_
        rw [pushT_len]
        simp only [List.length_append, List.length_singleton]
        omega
      · rw [if_neg ht]
        refine ih _ _ (h.skip ht) ?_
        simp only [List.length_cons] at hk
        omega
theorem enRun_start {g : List GB} (hg : tosOk g) (h2 : ∀ b, (tosG g b).length ≤ 2) (hn : g.length ≤ 1000) (hp : 0 < g.length) : ∃ en, enRun g (3 * g.length + 1) ⟨[], List.replicate g.length (-1), []⟩ [(-1, 0)] = some en ∧ EnI g en [] := by
  have hrd : rdI (List.replicate g.length (-1)) 0 = some (-1) := by
    unfold rdI
    rw [if_pos (by simp; omega)]
    simp [List.getD, hp]
  have h0 := h2 0
  rw [enRun]
  simp only [hrd, Option.bind_some]
  rw [if_pos trivial, if_pos (by simp; omega)]
  refine enRun_ok hg h2 hn _ _ _ ?_ (by rw [pushT_len]; simp; omega)
  have hs : ∀ b, b < g.length → ((List.replicate g.length (-1 : Int)).set 0 0).getD b 0 = if b = 0 then 0 else -1 := fun b hb => by
    rw [getD_set_eq]
    by_cases e : b = 0
    · subst e; simp [hp]
    · simp [e, List.getD, hb]
  refine ⟨by simp, rfl, by simp, rfl, rfl, ?_, ?_, ?_, ?_, ?_, ?_, ?_, ?_, ?_⟩
  · intro t ht
    obtain rfl : t = 0 := by simp at ht; omega
    exact ⟨Int.le_refl _, by simpa using hp, by simpa using hs 0 hp⟩
  · intro b hb
    by_cases e : b = 0
    · subst e
      exact .inr ⟨0, by simp, by simpa using hs 0 hp, rfl⟩
    · left
      have := hs b hb
      rw [if_neg e] at this
      simpa using this
  · intro v h0 hv; simp at hv; omega
  · refine ⟨fun v h0 hv => ?_, fun v h0 hv => ?_, fun u v he => ⟨he.1, he.2.1⟩, fun a v he hav => ?_, fun v h0 hv => ?_⟩
    · simp at hv; omega
    · simp at hv; omega
    · have := he.2.1; simp at this; omega
    · simp at hv; omega
  · intro s hs
    rcases mem_pushT.1 hs with hl | ⟨t, htm, rfl⟩
    · cases hl
    · exact ⟨0, by simp, rfl, by simpa using htm, .refl _⟩
  · exact pw_pushT .nil (fun s hs => by cases hs)
  · intro u hu t ht
    obtain rfl : u = 0 := by simp at hu; omega
    exact .inr (mem_pushT.2 (.inr ⟨t, by simpa using ht, rfl⟩))
  · have := count_set_one (l := List.replicate g.length (-1)) (i := 0) (x := 0) (by simpa using hp) (by simp [List.getD, hp]) (by omega)
    simp at this ⊢
    omega
  · rw [pushT_len]; simp; omega
end Go.Proofs.Ytoplllebaagnnaa
namespace Go.Proofs.Ytoplllebaagnnaa
set_option linter.unusedVariables false
set_option linter.unusedSimpArgs false

section
variable {m : Nat} {E : Nat → Nat → Prop} {par : Nat → Nat}

theorem rdI_at {l : List Int} {i : Nat} (h : i < l.length) : rdI l (i : Int) = some (l.getD i 0) := by
  unfold rdI
  rw [if_pos (by omega), Int.toNat_natCast]
/-- The chains while the search goes on: blocks from c on were searched. -/
structure ChI (m : Nat) (par : Nat → Nat) (c : Nat) (early above best : List Int) : Prop where
  le : early.length = m
  la : above.length = m
  lb : best.length = m
  un : ∀ x, x < c → x < m → above.getD x 0 = -1 ∧ best.getD x 0 = x
  ln : ∀ x, c ≤ x → x < m → ∃ a v : Nat, above.getD x 0 = a ∧ best.getD x 0 = v ∧ a < x ∧ Anc par a x ∧ (∀ z, Anc par z x → a < z → c ≤ z) ∧ Anc par v x ∧ a < v ∧ ∀ z, Anc par z x → a < z → early.getD v 0 ≤ early.getD z 0
theorem ChI.early' {c : Nat} {early early' above best : List Int} (h : ChI m par c early above best) (hl : early'.length = m) (he : ∀ z, c ≤ z → early'.getD z 0 = early.getD z 0) : ChI m par c early' above best :=
  ⟨hl, h.la, h.lb, h.un, fun x hc hx => by
    obtain ⟨a, v, h1, h2, h3, h4, h5, h6, h7, h8⟩ := h.ln x hc hx
    exact ⟨a, v, h1, h2, h3, h4, h5, h6, h7, fun z hz ha => by rw [he v (h5 v h6 h7), he z (h5 z hz ha)]; exact h8 z hz ha⟩⟩
theorem cmp_one (D : Dfs m E par) {c : Nat} {early ab be : List Int} (h : ChI m par c early ab be) {x a : Nat} (hc : c ≤ x) (hx : x < m) (ha : ab.getD x 0 = a) (hca : c ≤ a) (xs : List Int) :
    ∃ ab' be', cmpP early ((x : Int) :: xs) ab be = cmpP early xs ab' be' ∧ ChI m par c early ab' be' ∧ ab'.getD x 0 = ab.getD a 0 ∧ (∀ z, z ≠ x → ab'.getD z 0 = ab.getD z 0) := by
  obtain ⟨a0, v, h1, h2, h3, h4, h5, h6, h7, h8⟩ := h.ln x hc hx
  obtain rfl : a = a0 := by omega
  have hax : a < m := by omega
  obtain ⟨aa, va, g1, g2, g3, g4, g5, g6, g7, g8⟩ := h.ln a hca hax
  have hvm : v < m := by have := D.le h6 hx; omega
  have hvam : va < m := by have := D.le g6 hax; omega
  have hlen := h.le
  refine ⟨ab.set x (aa : Int), if early.getD va 0 < early.getD v 0 then be.set x (va : Int) else be, ?_, ?_, ?_, ?_⟩
  · rw [cmpP, rdI_at (by rw [h.la]; exact hx), Option.bind_some, ha, rdI_at (by rw [h.lb]; exact hax), Option.bind_some, g2, rdI_at (by rw [h.le]; exact hvam), Option.bind_some, rdI_at (by rw [h.lb]; exact hx), Option.bind_some, h2, rdI_at (by rw [h.le]; exact hvm), Option.bind_some, rdI_at (by rw [h.la]; exact hax), Option.bind_some, g1, Int.toNat_natCast]
  · refine ⟨h.le, by simpa using h.la, by split <;> simp [h.lb], fun y hy hym => ?_, fun y hy hym => ?_⟩
    · have hne : y ≠ x := by omega
      obtain ⟨q1, q2⟩ := h.un y hy hym
      refine ⟨by rw [getD_set_eq, if_neg (by omega)]; exact q1, ?_⟩
      split
      · rw [getD_set_eq, if_neg (by omega)]; exact q2
      · exact q2
    · by_cases e : y = x
      · subst e
        have hz : ∀ z, Anc par z y → aa < z → (Anc par z a ∧ aa < z) ∨ a < z := fun z hz1 hz2 => by
          by_cases hza : a < z
          · exact .inr hza
          · exact .inl ⟨D.anc_lin hz1 h4 hym (by omega), hz2⟩
        by_cases hlt : early.getD va 0 < early.getD v 0
        · refine ⟨aa, va, by rw [getD_set_eq, if_pos ⟨rfl, by rw [h.la]; exact hym⟩], by rw [if_pos hlt, getD_set_eq, if_pos ⟨rfl, by rw [h.lb]; exact hym⟩], by omega, g4.trans h4, fun z hz1 hz2 => ?_, g6.trans h4, g7, fun z hz1 hz2 => ?_⟩
          · rcases hz z hz1 hz2 with ⟨q1, q2⟩ | q
            · exact g5 z q1 q2
            · exact h5 z hz1 q
          · rcases hz z hz1 hz2 with ⟨q1, q2⟩ | q
            · exact g8 z q1 q2
            · have := h8 z hz1 q; omega
        · refine ⟨aa, v, by rw [getD_set_eq, if_pos ⟨rfl, by rw [h.la]; exact hym⟩], by rw [if_neg hlt]; exact h2, by omega, g4.trans h4, fun z hz1 hz2 => ?_, h6, by omega, fun z hz1 hz2 => ?_⟩
          · rcases hz z hz1 hz2 with ⟨q1, q2⟩ | q
            · exact g5 z q1 q2
            · exact h5 z hz1 q
          · rcases hz z hz1 hz2 with ⟨q1, q2⟩ | q
            · have := g8 z q1 q2; omega
            · exact h8 z hz1 q
      · obtain ⟨a2, v2, k1, k2, k3⟩ := h.ln y hy hym
        refine ⟨a2, v2, by rw [getD_set_eq, if_neg (by omega)]; exact k1, ?_, k3⟩
        split
        · rw [getD_set_eq, if_neg (by omega)]; exact k2
        · exact k2
  · rw [getD_set_eq, if_pos ⟨rfl, by rw [h.la]; exact hx⟩, g1]
  · intro z hz
    rw [getD_set_eq, if_neg (by omega)]

theorem chain_ok (D : Dfs m E par) {c : Nat} {early ab be : List Int} (h : ChI m par c early ab be) : ∀ (k x : Nat), x < m → x < k → ∃ p, chainP ab k (x : Int) = some p ∧
    ∀ xs, ∃ ab' be', cmpP early (p.reverse ++ xs) ab be = cmpP early xs ab' be' ∧ ChI m par c early ab' be' ∧ (c ≤ x → ∃ r : Nat, ab'.getD x 0 = r ∧ r < c) ∧ ∀ z, x < z → ab'.getD z 0 = ab.getD z 0 := by
  intro k
  induction k with
  | zero => intro x _ h; omega
  | succ k ih =>
    intro x hx hk
    rw [chainP, rdI_at (by rw [h.la]; exact hx), Option.bind_some]
    by_cases hc : x < c
    · obtain ⟨q1, q2⟩ := h.un x hc hx
      rw [if_pos q1]
      exact ⟨[], rfl, fun xs => ⟨ab, be, rfl, h, fun hh => by omega, fun z _ => rfl⟩⟩
    · obtain ⟨a, v, h1, h2, h3, h4, h5, h6, h7, h8⟩ := h.ln x (by omega) hx
      have hax : a < m := by omega
      rw [if_neg (by omega), h1, rdI_at (by rw [h.la]; exact hax), Option.bind_some]
      by_cases hca : a < c
      · obtain ⟨q1, q2⟩ := h.un a hca hax
        rw [if_pos q1]
        exact ⟨[], rfl, fun xs => ⟨ab, be, rfl, h, fun _ => ⟨a, h1, hca⟩, fun z _ => rfl⟩⟩
      · obtain ⟨a2, v2, g1, _⟩ := h.ln a (by omega) hax
        rw [if_neg (by omega)]
        obtain ⟨p, hp, hq⟩ := ih a hax (by omega)
        rw [hp]
        refine ⟨(x : Int) :: p, rfl, fun xs => ?_⟩
        rw [List.reverse_cons, List.append_assoc]
        obtain ⟨ab1, be1, r1, r2, r3, r4⟩ := hq ([(x : Int)] ++ xs)
        obtain ⟨r, w1, w2⟩ := r3 (by omega)
        have hx1 : ab1.getD x 0 = (a : Int) := by rw [r4 x h3]; exact h1
        obtain ⟨ab2, be2, s1, s2, s3, s4⟩ := cmp_one D r2 (by omega) hx hx1 (by omega) xs
        refine ⟨ab2, be2, by rw [r1]; exact s1, s2, fun _ => ⟨r, by rw [s3]; exact w1, w2⟩, fun z hz => ?_⟩
        rw [s4 z (by omega), r4 z (by omega)]

theorem least_ok (D : Dfs m E par) {c : Nat} {early ab be : List Int} (h : ChI m par c early ab be) {k x : Nat} (hx : x < m) (hk : x < k) :
    ∃ (ab' be' : List Int) (v : Nat), leastP early ab be k (x : Int) = some (ab', be', (v : Int)) ∧ ChI m par c early ab' be' ∧ v < m ∧ (x < c → v = x) ∧ (c ≤ x → Anc par v x ∧ c ≤ v ∧ ∀ z, Anc par z x → c ≤ z → early.getD v 0 ≤ early.getD z 0) := by
  obtain ⟨p, hp, hq⟩ := chain_ok D h k x hx hk
  obtain ⟨ab', be', r1, r2, r3, r4⟩ := hq []
  rw [List.append_nil] at r1
  have hc : cmpP early p.reverse ab be = some (ab', be') := by rw [r1]; rfl
  unfold leastP
  rw [hp, Option.bind_some, hc, Option.bind_some]
  dsimp only
  rw [rdI_at (by rw [r2.lb]; exact hx)]
  by_cases hxc : x < c
  · obtain ⟨q1, q2⟩ := r2.un x hxc hx
    exact ⟨ab', be', x, by rw [q2]; rfl, r2, hx, fun _ => rfl, fun hh => by omega⟩
  · obtain ⟨a, v, h1, h2, h3, h4, h5, h6, h7, h8⟩ := r2.ln x (by omega) hx
    obtain ⟨r, w1, w2⟩ := r3 (by omega)
    obtain rfl : a = r := by omega
    exact ⟨ab', be', v, by rw [h2]; rfl, r2, by have := D.le h6 hx; omega, fun hh => by omega, fun _ => ⟨h6, h5 v h6 h7, fun z hz hzc => h8 z hz (by omega)⟩⟩
end
end Go.Proofs.Ytoplllebaagnnaa
namespace Go.Proofs.Ytoplllebaagnnaa
set_option linter.unusedVariables false
set_option linter.unusedSimpArgs false

section
variable {m : Nat} {E : Nat → Nat → Prop} {par : Nat → Nat}

theorem IsS.eq {w s s' : Nat} (h : IsS E w s) (h' : IsS E w s') : s = s' := Nat.le_antisymm (h.le _ h'.sw) (h'.le _ h.sw)
/-- What is known of a block's Up once it does not wait any more. -/
def Got (E : Nat → Nat → Prop) (par : Nat → Nat) (up : List Int) (y : Nat) : Prop := ∃ v e ev : Nat, IsS E y e ∧ IsS E v ev ∧ Anc par v y ∧ e < v ∧ (∀ z, e < z → Anc par z y → ∀ x, SW E z x → ev ≤ x) ∧ up.getD y 0 = if ev < e then (v : Int) else (e : Int)
structure RnI (m : Nat) (E : Nat → Nat → Prop) (par : Nat → Nat) (c : Nat) (s : Sr) : Prop where
  lu : s.up.length = m
  lw : s.wait.length = m
  ch : ChI m par c s.early s.above s.best
  ee : ∀ x, c ≤ x → x < m → ∃ e : Nat, s.early.getD x 0 = e ∧ IsS E x e
  eu : ∀ x, x < c → x < m → s.early.getD x 0 = x
  wt : ∀ q, q < m → ∀ x ∈ s.wait.getD q [], ∃ y : Nat, x = y ∧ c ≤ y ∧ y < m ∧ s.early.getD y 0 = q ∧ ∀ b, c ≤ b → Anc par b y → 0 < b → par b ≠ q
  al : ∀ y, c ≤ y → y < m → (∃ q, q < m ∧ (y : Int) ∈ s.wait.getD q []) ∨ Got E par s.up y
  up0 : ∀ y, y < c → y < m → s.up.getD y 0 = -1
  wl : ∀ q, (s.wait.getD q []).length + c ≤ m

theorem fr_ok (D : Dfs m E par) {b k : Nat} (hb : b < m) (hkm : m ≤ k) : ∀ (fs : List Int) (s : Sr) (e0 : Nat), ChI m par (b + 1) s.early s.above s.best → (∀ x, b < x → x < m → ∃ e : Nat, s.early.getD x 0 = e ∧ IsS E x e) → (∀ x, x < b → s.early.getD x 0 = x) → s.early.getD b 0 = e0 → (∀ x ∈ fs, ∃ f : Nat, x = f ∧ E f b) →
    ∃ (s1 : Sr) (e1 : Nat), frRun k b fs s = some s1 ∧ ChI m par (b + 1) s1.early s1.above s1.best ∧ (∀ x, x ≠ b → s1.early.getD x 0 = s.early.getD x 0) ∧ s1.early.getD b 0 = e1 ∧ s1.up = s.up ∧ s1.wait = s.wait ∧ e1 ≤ e0 ∧ (e1 = e0 ∨ SW E b e1) ∧
      ∀ f : Nat, (f : Int) ∈ fs → (f < b → e1 ≤ f) ∧ (b < f → ∀ z, Anc par z f → b < z → (e1 : Int) ≤ s.early.getD z 0)
  | [], s, e0, hch, hee, heu, he0, hfs => ⟨s, e0, rfl, hch, fun _ _ => rfl, he0, rfl, rfl, Nat.le_refl _, .inl rfl, fun f hf => by cases hf⟩
  | x :: fs, s, e0, hch, hee, heu, he0, hfs => by
    obtain ⟨f, rfl, hE⟩ := hfs x (by simp)
    have hfm := (D.E_lt _ _ hE).1
    obtain ⟨ab', be', v, hl, hch1, hvm, hv1, hv2⟩ := least_ok D hch (k := k) hfm (by omega)
    -- the number that comes of it
    obtain ⟨ev, hev, hsw, hcand⟩ : ∃ ev : Nat, s.early.getD v 0 = ev ∧ (ev = e0 ∨ SW E b ev) ∧ ((f < b → ev ≤ f) ∧ (b < f → ∀ z, Anc par z f → b < z → (ev : Int) ≤ s.early.getD z 0)) := by
      by_cases h1 : f < b
      · obtain rfl : v = f := hv1 (by omega)
        exact ⟨v, heu v h1, .inr (.inl hE), fun _ => Nat.le_refl _, fun hh => by omega⟩
      · by_cases h2 : f = b
        · obtain rfl : v = f := hv1 (by omega)
          subst h2
          exact ⟨e0, he0, .inl rfl, fun hh => by omega, fun hh => by omega⟩
        · obtain ⟨w1, w2, w3⟩ := hv2 (by omega)
          obtain ⟨ev, he, hs⟩ := hee v (by omega) hvm
          refine ⟨ev, he, .inr (D.sw_out (by omega) hs.sw w1 hfm hE), fun hh => by omega, fun _ z hz hbz => ?_⟩
          rw [← he]
          exact w3 z hz (by omega)
    have hlen := hch.le
    obtain ⟨e2, he2⟩ : ∃ e2, e2 = min e0 ev := ⟨_, rfl⟩
    have hset : ∀ x, x ≠ b → (s.early.set b (min (e0 : Int) (ev : Int))).getD x 0 = s.early.getD x 0 := fun x hx => by rw [getD_set_eq, if_neg (by omega)]
    have hsb : (s.early.set b (min (e0 : Int) (ev : Int))).getD b 0 = (e2 : Int) := by rw [getD_set_eq, if_pos ⟨rfl, by omega⟩]; omega
    obtain ⟨s1, e1, r1, r2, r3, r4, r5, r6, r7, r8, r9⟩ := fr_ok D hb hkm fs { s with above := ab', best := be', early := s.early.set b (min (e0 : Int) (ev : Int)) } e2
      (hch1.early' (by simpa using hlen) (fun z hz => hset z (by omega))) (fun x hx hxm => by
        obtain ⟨e, q1, q2⟩ := hee x hx hxm
        exact ⟨e, by rw [← q1]; exact hset x (by omega), q2⟩) (fun x hx => by rw [← heu x hx]; exact hset x (by omega)) hsb (fun x hx => hfs x (List.mem_cons_of_mem _ hx))
    refine ⟨s1, e1, ?_, r2, fun x hx => by rw [r3 x hx]; exact hset x hx, r4, r5, r6, by omega, ?_, fun f' hf' => ?_⟩
    · rw [frRun, hl, Option.bind_some]
      dsimp only
      rw [rdI_at (by omega), Option.bind_some, rdI_at (by omega), Option.bind_some, hev, he0]
      exact r1
    · rcases r8 with r | r
      · have : e2 = e0 ∨ e2 = ev := by omega
        rcases this with q | q
        · exact .inl (by omega)
        · rcases hsw with w | w
          · exact .inl (by omega)
          · exact .inr (by rw [r, q]; exact w)
      · exact .inr r
    · rcases List.mem_cons.1 hf' with h | h
      · obtain rfl : f' = f := by omega
        refine ⟨fun hh => by have := hcand.1 hh; omega, fun hh z hz hbz => ?_⟩
        have := hcand.2 hh z hz hbz
        omega
      · obtain ⟨q1, q2⟩ := r9 f' h
        refine ⟨q1, fun hh z hz hbz => ?_⟩
        have := q2 hh z hz hbz
        rw [hset z (by omega)] at this
        exact this

theorem wt_ok (D : Dfs m E par) {b p k : Nat} (hb0 : 0 < b) (hb : b < m) (hp : p = par b) (hkm : m ≤ k) : ∀ (xs : List Int) (s : Sr), s.up.length = m → ChI m par b s.early s.above s.best → (∀ x, b ≤ x → x < m → ∃ e : Nat, s.early.getD x 0 = e ∧ IsS E x e) →
    (∀ x ∈ xs, ∃ y : Nat, x = y ∧ b ≤ y ∧ y < m ∧ s.early.getD y 0 = p ∧ ∀ z, p < z → Anc par z y → b ≤ z) →
    ∃ s1, wtRun k p xs s = some s1 ∧ s1.up.length = m ∧ ChI m par b s1.early s1.above s1.best ∧ s1.early = s.early ∧ s1.wait = s.wait ∧ (∀ y : Nat, (y : Int) ∈ xs → Got E par s1.up y) ∧ ∀ y : Nat, (y : Int) ∉ xs → s1.up.getD y 0 = s.up.getD y 0
  | [], s, hl, hch, hee, hxs => ⟨s, rfl, hl, hch, rfl, rfl, (fun y hy => by cases hy), fun _ _ => rfl⟩
  | x :: xs, s, hl, hch, hee, hxs => by
    obtain ⟨y, rfl, hby, hym, hey, hz⟩ := hxs x (by simp)
    obtain ⟨ab', be', v, hle, hch1, hvm, -, hv2⟩ := least_ok D hch (k := k) hym (by omega)
    obtain ⟨w1, w2, w3⟩ := hv2 hby
    obtain ⟨ev, he, hs⟩ := hee v w2 hvm
    obtain ⟨e, he1, hs1⟩ := hee y hby hym
    obtain rfl : e = p := by omega
    have hlen := hch.le
    have hpb : e < b := by have := D.par_lt b hb0 hb; omega
    obtain ⟨up', hup'⟩ : ∃ up', up' = if (ev : Int) < (e : Int) then (s.up.set y (e : Int)).set y (v : Int) else s.up.set y (e : Int) := ⟨_, rfl⟩
    have hul : up'.length = m := by rw [hup']; split <;> simpa using hl
    have huy : up'.getD y 0 = if ev < e then (v : Int) else (e : Int) := by
      rw [hup']
      by_cases h : ev < e
      · rw [if_pos (by omega), if_pos h, getD_set_eq, if_pos ⟨rfl, by simpa [hl] using hym⟩]
      · rw [if_neg (by omega), if_neg h, getD_set_eq, if_pos ⟨rfl, by omega⟩]
    have huo : ∀ z : Nat, z ≠ y → up'.getD z 0 = s.up.getD z 0 := fun z hz => by
      rw [hup']
      split
      · rw [getD_set_eq, if_neg (by omega), getD_set_eq, if_neg (by omega)]
      · rw [getD_set_eq, if_neg (by omega)]
    have hgot : Got E par up' y := ⟨v, e, ev, hs1, hs, w1, by omega, fun z hz1 hz2 x hx => by
      have hbz := hz z hz1 hz2
      have hzm : z < m := by have := D.le hz2 hym; omega
      obtain ⟨ez, k1, k2⟩ := hee z hbz hzm
      have := w3 z hz2 hbz
      have := k2.le x hx
      omega, huy⟩
    obtain ⟨s1, r1, r2, r3, r4, r5, r6, r7⟩ := wt_ok D hb0 hb hp hkm xs { s with above := ab', best := be', up := up' } hul hch1 hee (fun x hx => hxs x (List.mem_cons_of_mem _ hx))
    refine ⟨s1, ?_, r2, r3, r4, r5, fun y' hy' => ?_, fun y' hy' => ?_⟩
    · rw [wtRun, rdI_at (by omega), Option.bind_some, hle, Option.bind_some]
      dsimp only
      rw [rdI_at (by omega), Option.bind_some, he, Int.toNat_natCast, ← hup']
      exact r1
    · by_cases h : (y' : Int) ∈ xs
      · exact r6 y' h
      · rcases List.mem_cons.1 hy' with h2 | h2
        · obtain rfl : y' = y := by omega
          obtain ⟨v', e', ev', g1, g2, g3, g4, g5, g6⟩ := hgot
          exact ⟨v', e', ev', g1, g2, g3, g4, g5, by rw [r7 y' h]; exact g6⟩
        · exact absurd h2 h
    · have h1 : (y' : Int) ∉ xs := fun h => hy' (List.mem_cons_of_mem _ h)
      have h2 : y' ≠ y := fun h => hy' (by rw [h]; simp)
      rw [r7 y' h1]
      exact huo y' h2

theorem st_ok (D : Dfs m E par) {b k : Nat} {from_ : List Int} {back : List (List Int)} (hb0 : 0 < b) (hb : b < m) (hkm : m ≤ k) (hm : m ≤ 1048576) (hfl : from_.length = m) (hf : ∀ v, 0 < v → v < m → from_.getD v 0 = par v)
    (hbk : ∀ b, b < m → ∀ x : Int, x ∈ back.getD b [] ↔ ∃ u : Nat, x = u ∧ E u b) {s : Sr} (h : RnI m E par (b + 1) s) : ∃ s', stRun k from_ back b s = some s' ∧ RnI m E par b s' := by
  obtain ⟨s1, e1, r1, r2, r3, r4, r5, r6, r7, r8, r9⟩ := fr_ok D hb hkm (back.getD b []) s b h.ch (fun x hx hxm => h.ee x (by omega) hxm) (fun x hx => h.eu x (by omega) (by omega)) (h.eu b (by omega) hb) (fun x hx => (hbk b hb x).1 hx)
  have hpl := D.par_lt b hb0 hb
  obtain ⟨p, hp⟩ : ∃ p, p = par b := ⟨_, rfl⟩
  have hEp := D.par_E b hb0 hb
  rw [← hp] at hpl hEp
  have hep : e1 ≤ p := (r9 p ((hbk b hb p).2 ⟨p, rfl, hEp⟩)).1 hpl
  have hS : IsS E b e1 := by
    refine ⟨r8.resolve_left (by omega), fun x hx => ?_⟩
    rcases hx with hx | ⟨f, hu, he⟩
    · obtain ⟨q1, q2⟩ := r9 x ((hbk b hb x).2 ⟨x, rfl, hx⟩)
      by_cases hxb : x < b
      · exact q1 hxb
      · omega
    · obtain ⟨z, z1, z2, z3, z4⟩ := D.sw_in hu
      have hbf : b < f := hu.end
      obtain ⟨q1, q2⟩ := r9 f ((hbk b hb f).2 ⟨f, rfl, he⟩)
      have hfm := (D.E_lt _ _ he).1
      have hzm : z < m := by have := D.le z2 hfm; omega
      obtain ⟨ez, k1, k2⟩ := h.ee z (by omega) hzm
      have := q2 hbf z z2 z1
      have := k2.le x z3
      omega
  have hl1 := r2.le
  have hw1 : s1.wait.length = m := by rw [r6]; exact h.lw
  have hwl := h.wl e1
  have he1m : e1 < m := by omega
  obtain ⟨s2, hs2⟩ : ∃ s2, s2 = waitS b e1 p s1 := ⟨_, rfl⟩
  have hE2 : s2.early = s1.early := by rw [hs2]; rfl
  have hU2 : s2.up = s.up := by rw [hs2, ← r5]; rfl
  have hB2 : s2.best = s1.best := by rw [hs2]; rfl
  have hA2 : s2.above = s1.above.set b (p : Int) := by rw [hs2]; rfl
  have hW2 : s2.wait = s.wait.set e1 (s.wait.getD e1 [] ++ [(b : Int)]) := by rw [hs2, ← r6]; rfl
  have hpb : Anc par p b := .step hb0 (by rw [hp]; exact .refl _)
  have hbelow : ∀ z, Anc par z b → p < z → z = b := fun z hz hpz => Classical.byContradiction fun hn => by
    obtain ⟨_, h2⟩ := hz.up hn
    rw [← hp] at h2
    have := D.le h2 (by omega)
    omega
  have hch2 : ChI m par b s2.early s2.above s2.best := by
    rw [hE2, hA2, hB2]
    refine ⟨r2.le, by simpa using r2.la, r2.lb, fun x hx hxm => ?_, fun x hx hxm => ?_⟩
    · obtain ⟨q1, q2⟩ := r2.un x (by omega) hxm
      exact ⟨by rw [getD_set_eq, if_neg (by omega)]; exact q1, q2⟩
    · by_cases hxb : x = b
      · subst hxb
        obtain ⟨q1, q2⟩ := r2.un x (by omega) hxm
        exact ⟨p, x, by rw [getD_set_eq, if_pos ⟨rfl, by rw [r2.la]; exact hb⟩], q2, hpl, hpb, fun z hz hpz => by rw [hbelow z hz hpz]; omega, .refl _, hpl, fun z hz hpz => by rw [hbelow z hz hpz]; omega⟩
      · obtain ⟨a, v, g1, g2, g3, g4, g5, g6⟩ := r2.ln x (by omega) hxm
        exact ⟨a, v, by rw [getD_set_eq, if_neg (by omega)]; exact g1, g2, g3, g4, fun z hz haz => by have := g5 z hz haz; omega, g6⟩
  have hee2 : ∀ x, b ≤ x → x < m → ∃ e : Nat, s2.early.getD x 0 = e ∧ IsS E x e := fun x hx hxm => by
    rw [hE2]
    by_cases hxb : x = b
    · subst hxb; exact ⟨e1, r4, hS⟩
    · rw [r3 x hxb]; exact h.ee x (by omega) hxm
  -- what waits now
  have hwq : ∀ q, s2.wait.getD q [] = if q = e1 then s.wait.getD e1 [] ++ [(b : Int)] else s.wait.getD q [] := fun q => by
    rw [hW2, getD_set_eq]
    by_cases hq : q = e1
    · rw [if_pos ⟨hq, by rw [h.lw]; exact he1m⟩, if_pos hq]
    · rw [if_neg (by omega), if_neg hq]
  have hwm : ∀ q, q < m → ∀ x ∈ s2.wait.getD q [], ∃ y : Nat, x = y ∧ b ≤ y ∧ y < m ∧ s2.early.getD y 0 = q ∧ ((y = b ∧ q = e1) ∨ (x ∈ s.wait.getD q [] ∧ b < y)) ∧ ∀ c, b ≤ c → Anc par c y → 0 < c → c ≠ b → par c ≠ q := fun q hq x hx => by
    have hbb : x = (b : Int) → q = e1 → ∃ y : Nat, x = y ∧ b ≤ y ∧ y < m ∧ s2.early.getD y 0 = q ∧ ((y = b ∧ q = e1) ∨ (x ∈ s.wait.getD q [] ∧ b < y)) ∧ ∀ c, b ≤ c → Anc par c y → 0 < c → c ≠ b → par c ≠ q := fun e1' e2' =>
      ⟨b, e1', Nat.le_refl _, hb, by rw [hE2, e2']; exact r4, .inl ⟨rfl, e2'⟩, fun c hc ha _ hn => by have := D.le ha hb; omega⟩
    have hold : x ∈ s.wait.getD q [] → ∃ y : Nat, x = y ∧ b ≤ y ∧ y < m ∧ s2.early.getD y 0 = q ∧ ((y = b ∧ q = e1) ∨ (x ∈ s.wait.getD q [] ∧ b < y)) ∧ ∀ c, b ≤ c → Anc par c y → 0 < c → c ≠ b → par c ≠ q := fun hm => by
      obtain ⟨y, y1, y2, y3, y4, y5⟩ := h.wt q hq x hm
      exact ⟨y, y1, by omega, y3, by rw [hE2, r3 y (by omega)]; exact y4, .inr ⟨hm, by omega⟩, fun c hc ha h0 hn => y5 c (by omega) ha h0⟩
    rw [hwq] at hx
    split at hx
    · next hq1 =>
      rcases List.mem_append.1 hx with hx | hx
      · exact hold (by rw [hq1]; exact hx)
      · exact hbb (by simpa using hx) hq1
    · exact hold hx
  -- those that wait for p stand under b
  have hxs : ∀ x ∈ s2.wait.getD p [], ∃ y : Nat, x = y ∧ b ≤ y ∧ y < m ∧ s2.early.getD y 0 = p ∧ ∀ z, p < z → Anc par z y → b ≤ z := fun x hx => by
    obtain ⟨y, y1, y2, y3, y4, -, y6⟩ := hwm p (by omega) x hx
    obtain ⟨e, q1, q2⟩ := hee2 y y2 y3
    obtain rfl : e = p := by omega
    have hsy := D.s_anc q2 (by omega) y3
    have hsl := (D.s_lt q2 (by omega) y3).2
    refine ⟨y, y1, y2, y3, y4, ?_⟩
    -- the one right under p
    have top : ∀ z, e < z → Anc par z y → ∃ t, 0 < t ∧ par t = e ∧ Anc par t y ∧ Anc par t z := by
      intro z
      induction z using Nat.strongRecOn with
      | ind z ih =>
        intro hez hzy
        have hzm : z < m := by have := D.le hzy y3; omega
        have hez2 := D.anc_lin hsy hzy y3 (by omega)
        obtain ⟨hz0, hup⟩ := hez2.up (by omega)
        have hzl := D.par_lt z hz0 hzm
        by_cases hpe : par z = e
        · exact ⟨z, hz0, hpe, hzy, .refl _⟩
        · have hle := D.le hup (by omega)
          obtain ⟨t, t1, t2, t3, t4⟩ := ih (par z) hzl (by omega) ((Anc.step hz0 (.refl _)).trans hzy)
          exact ⟨t, t1, t2, t3, .step hz0 t4⟩
    intro z hez hzy
    have hzm : z < m := by have := D.le hzy y3; omega
    obtain ⟨t, t1, t2, t3, t4⟩ := top z hez hzy
    have htz := D.le t4 hzm
    apply Nat.le_of_not_lt
    intro hzb
    have hta : Anc par t b := D.mid t3 y3 (by omega) y2
    obtain ⟨_, hup⟩ := hta.up (by omega)
    rw [← hp] at hup
    have := D.le hup (by omega)
    have := D.par_lt t t1 (by omega)
    omega
  obtain ⟨s3, t1, t2, t3, t4, t5, t6, t7⟩ := wt_ok D hb0 hb hp hkm (s2.wait.getD p []) s2 (by rw [hU2]; exact h.lu) hch2 hee2 hxs
  refine ⟨clearS p s3, ?_, ?_⟩
  · unfold stRun
    rw [r1, Option.bind_some, rdI_at (by omega), Option.bind_some, rdI_at (by omega), Option.bind_some, r4, hf b hb0 hb, ← hp, Int.toNat_natCast, Int.toNat_natCast, r6]
    rw [if_pos ⟨by omega, by rw [h.lw]; omega, by omega, by omega, by rw [h.lw]; omega⟩, ← hs2, t1]
    rfl
  · have hcw : ∀ q, (clearS p s3).wait.getD q [] = if q = p then [] else s2.wait.getD q [] := fun q => by
      show (s3.wait.set p []).getD q [] = _
      rw [getD_set_eq, t5]
      by_cases hq : q = p
      · rw [if_pos ⟨hq, by rw [hW2]; simp [h.lw]; omega⟩, if_pos hq]
      · rw [if_neg (by omega), if_neg hq]
    have hce : (clearS p s3).early = s2.early := t4
    have hlw2 : s2.wait.length = m := by rw [hW2]; simp [h.lw]
    refine ⟨t2, by show (s3.wait.set p []).length = m; rw [List.length_set, t5]; exact hlw2, t3, fun x hx hxm => by rw [hce]; exact hee2 x hx hxm, fun x hx hxm => ?_, fun q hq x hx => ?_, fun y hy hym => ?_, fun y hy hym => ?_, fun q => ?_⟩
    · rw [hce, hE2, r3 x (by omega)]; exact h.eu x (by omega) hxm
    · rw [hcw] at hx
      split at hx
      · cases hx
      · next hqp =>
        obtain ⟨y, y1, y2, y3, y4, y5, y6⟩ := hwm q hq x hx
        refine ⟨y, y1, y2, y3, by rw [hce]; exact y4, fun c hc ha h0 => ?_⟩
        by_cases hcb : c = b
        · subst hcb; rw [← hp]; exact fun e => hqp e.symm
        · exact y6 c hc ha h0 hcb
    · by_cases hin : (y : Int) ∈ s2.wait.getD p []
      · exact .inr (t6 y hin)
      · have hst : ∀ q, q < m → (y : Int) ∈ s2.wait.getD q [] → ∃ q, q < m ∧ (y : Int) ∈ (clearS p s3).wait.getD q [] := fun q hq hm => by
          refine ⟨q, hq, ?_⟩
          rw [hcw, if_neg (fun e => hin (by rw [← e]; exact hm))]
          exact hm
        by_cases hyb : y = b
        · left
          subst hyb
          refine hst e1 he1m ?_
          rw [hwq, if_pos rfl]
          simp
        · rcases h.al y (by omega) hym with ⟨q, hq, hm⟩ | hg
          · left
            refine hst q hq ?_
            rw [hwq]
            split
            · next e => rw [e] at hm; exact List.mem_append_left _ hm
            · exact hm
          · right
            obtain ⟨v, e, ev, g1, g2, g3, g4, g5, g6⟩ := hg
            exact ⟨v, e, ev, g1, g2, g3, g4, g5, by show s3.up.getD y 0 = _; rw [t7 y hin, hU2]; exact g6⟩
    · show s3.up.getD y 0 = -1
      rw [t7 y (fun hm => by obtain ⟨y', w1, w2, _⟩ := hxs _ hm; omega), hU2]
      exact h.up0 y (by omega) hym
    · rw [hcw]
      split
      · simp; omega
      · rw [hwq]
        split
        · have := h.wl e1; rw [List.length_append, List.length_singleton]; omega
        · have := h.wl q; omega

theorem rn_ok (D : Dfs m E par) {k : Nat} {from_ : List Int} {back : List (List Int)} (hkm : m ≤ k) (hm : m ≤ 1048576) (hfl : from_.length = m) (hf : ∀ v, 0 < v → v < m → from_.getD v 0 = par v)
    (hbk : ∀ b, b < m → ∀ x : Int, x ∈ back.getD b [] ↔ ∃ u : Nat, x = u ∧ E u b) : ∀ (i : Nat) (s : Sr), i < m → RnI m E par (i + 1) s → ∃ s', rnRun k from_ back i s = some s' ∧ RnI m E par 1 s'
  | 0, s, _, h => ⟨s, rfl, h⟩
  | i + 1, s, hi, h => by
    obtain ⟨s1, h1, h2⟩ := st_ok D (by omega) hi hkm hm hfl hf hbk h
    obtain ⟨s2, h3, h4⟩ := rn_ok D hkm hm hfl hf hbk i s1 (by omega) h2
    exact ⟨s2, by rw [rnRun, h1, Option.bind_some]; exact h3, h4⟩
theorem upTo_at {m t : Nat} (h : t < m) : (upTo m m).getD t 0 = t := by
  simp [upTo, List.getD, h]
theorem rn_start (hm : 0 < m) : RnI m E par m ⟨List.replicate m (-1), upTo m m, List.replicate m (-1), upTo m m, List.replicate m []⟩ where
  lu := by simp
  lw := by simp
  ch := ⟨upTo_len m m, by simp, upTo_len m m, fun x hx _ => ⟨by simp [List.getD, hx], upTo_at hx⟩, fun x h1 h2 => by omega⟩
  ee := fun x h1 h2 => by omega
  eu := fun x hx _ => upTo_at hx
  wt := fun q hq x hx => by simp [List.getD, hq] at hx
  al := fun y h1 h2 => by omega
  up0 := fun y hy _ => by simp [List.getD, hy]
  wl := fun q => by
    have : (List.replicate m ([] : List Int)).getD q [] = [] := by
      simp only [List.getD, List.getElem?_replicate]; split <;> rfl
    dsimp only
    rw [this]; simp
/-- At the end nothing waits. -/
theorem RnI.all (D : Dfs m E par) {s : Sr} (h : RnI m E par 1 s) {y : Nat} (h0 : 0 < y) (hy : y < m) : Got E par s.up y := by
  rcases h.al y (by omega) hy with ⟨q, hq, hm⟩ | hg
  · exfalso
    obtain ⟨y', y1, y2, y3, y4, y5⟩ := h.wt q hq _ hm
    obtain rfl : y = y' := by omega
    obtain ⟨e, q1, q2⟩ := h.ee y (by omega) hy
    obtain rfl : e = q := by omega
    have hsy := D.s_anc q2 h0 hy
    have hsl := (D.s_lt q2 h0 hy).2
    have top : ∀ z, z < m → Anc par z y → e < z → Anc par e z → False := by
      intro z
      induction z using Nat.strongRecOn with
      | ind z ih =>
        intro hzm hzy hez ha
        obtain ⟨hz0, hup⟩ := ha.up (by omega)
        have hzl := D.par_lt z hz0 hzm
        have hle := D.le hup (by omega)
        by_cases hpe : par z = e
        · exact y5 z (by omega) hzy hz0 hpe
        · exact ih (par z) hzl (by omega) ((Anc.step hz0 (.refl _)).trans hzy) (by omega) hup
    exact top y hy (.refl _) hsl hsy
  · exact hg
/-- The last pass. -/
theorem fin_ok (D : Dfs m E par) {early : List Int} (hle : early.length = m) (hee : ∀ x, 0 < x → x < m → ∃ e : Nat, early.getD x 0 = e ∧ IsS E x e) : ∀ (c i : Nat) (up : List Int), c + i = m → up.length = m → (0 < m → up.getD 0 0 = -1) → (∀ y, 0 < y → y < i → ∃ d : Nat, up.getD y 0 = d ∧ IsUp E y d) → (∀ y, 0 < y → i ≤ y → y < m → Got E par up y) →
    ∃ up', finP early c i up = some up' ∧ up'.length = m ∧ (0 < m → up'.getD 0 0 = -1) ∧ ∀ y, 0 < y → y < m → ∃ d : Nat, up'.getD y 0 = d ∧ IsUp E y d
  | 0, i, up, hc, hl, h0, hd, hg => ⟨up, rfl, hl, h0, fun y hy hym => hd y hy (by omega)⟩
  | c + 1, i, up, hc, hl, h0, hd, hg => by
    rw [finP, rdI_at (by omega), Option.bind_some]
    by_cases hi : i = 0
    · subst hi
      rw [if_pos (h0 (by omega))]
      exact fin_ok D hle hee c 1 up (by omega) hl h0 (fun y h1 h2 => by omega) (fun y h1 h2 h3 => hg y h1 (by omega) h3)
    · obtain ⟨v, e, ev, g1, g2, g3, g4, g5, g6⟩ := hg i (by omega) (Nat.le_refl _) (by omega)
      obtain ⟨e', q1, q2⟩ := hee i (by omega) (by omega)
      obtain rfl : e' = e := q2.eq g1
      have hnn : up.getD i 0 ≠ -1 := by rw [g6]; split <;> omega
      rw [if_neg hnn, rdI_at (by omega), Option.bind_some, q1]
      by_cases hlt : ev < e'
      · rw [if_pos hlt] at g6
        rw [if_neg (by omega), g6]
        have hvi : v < i := by
          have := D.le g3 (by omega)
          have : v ≠ i := fun e => by subst e; have := g2.eq g1; omega
          omega
        obtain ⟨d, d1, d2⟩ := hd v (by omega) hvi
        rw [rdI_at (by omega), Option.bind_some, d1]
        refine fin_ok D hle hee c (i + 1) (up.set i (d : Int)) (by omega) (by simpa using hl) (fun hm => by rw [getD_set_eq, if_neg (by omega)]; exact h0 hm) (fun y h1 h2 => ?_) (fun y h1 h2 h3 => ?_)
        · by_cases hy : y = i
          · subst hy
            exact ⟨d, by rw [getD_set_eq, if_pos ⟨rfl, by omega⟩], D.up_less h1 (by omega) g1 (by omega) g3 g2 hlt (fun z hz1 hz2 x hx => g5 z hz1 hz2 x hx) d2⟩
          · obtain ⟨d', w1, w2⟩ := hd y h1 (by omega)
            exact ⟨d', by rw [getD_set_eq, if_neg (by omega)]; exact w1, w2⟩
        · obtain ⟨v', e2, ev', k1, k2, k3, k4, k5, k6⟩ := hg y h1 (by omega) h3
          exact ⟨v', e2, ev', k1, k2, k3, k4, k5, by rw [getD_set_eq, if_neg (by omega)]; exact k6⟩
      · rw [if_neg hlt] at g6
        rw [if_pos g6]
        refine fin_ok D hle hee c (i + 1) up (by omega) hl h0 (fun y h1 h2 => ?_) (fun y h1 h2 h3 => hg y h1 (by omega) h3)
        by_cases hy : y = i
        · subst hy
          exact ⟨e', g6, D.up_same h1 (by omega) g1 (fun z hz1 hz2 x hx => by have := g5 z hz1 hz2 x hx; omega)⟩
        · exact hd y h1 (by omega)
end
end Go.Proofs.Ytoplllebaagnnaa
