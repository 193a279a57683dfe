/-
  Blocks on all ways: what a tree tells: Reached, Up, Over.
-/
import Derived.Test.YtlejpoofgnenhaaDoV
import Derived.BigQuiet
namespace Go.Proofs.Ytlejpoofgnenhaa
open Go.RowKit Go.Shelf
set_option linter.unusedVariables false
set_option linter.unusedSimpArgs false

def reachedT (T : TrP) (b : Int) : Bool := decide (0 ≤ b) && decide (b < (T.place.length : Int)) && (T.place.getD b.toNat 0 != -1)
def upT (T : TrP) (b : Int) : Int := if reachedT T b then T.up.getD b.toNat 0 else -1
def overT (T : TrP) (a b : Int) : Bool := reachedT T a && reachedT T b && decide (T.place.getD a.toNat 0 ≤ T.place.getD b.toNat 0) && decide (T.place.getD b.toNat 0 < T.past.getD a.toNat 0)
theorem reachedT_in {T : TrP} {b : Int} (h : reachedT T b = true) : ∃ k : Nat, b = k ∧ k < T.place.length := by
  unfold reachedT at h
  simp only [Bool.and_eq_true, decide_eq_true_eq] at h
  exact ⟨b.toNat, by omega, by omega⟩
/-- One number of a row of the tree. -/
theorem GNs.get {n0 n c : Nat} {w : World} {A : Option Addr} {l : List Int} (h : GNs n0 w (.slice A n c) l) {j : Nat} (hj : j < l.length) : ∃ b o, A = some ⟨b, o, none⟩ ∧ w.cell? ⟨b, o + j, none⟩ = some (.int .i64 (l.getD j 0)) := by
  obtain ⟨b, o, hA, -, hc⟩ := h.at hj
  exact ⟨b, o, hA, by rw [hc]; simp [List.getD, hj]⟩

theorem reached_nil (b : Int) (w : World) : Calls Try.prog 19 #[.pointer none, .int .i64 b] w fun e w' => e = .returned (.bool false) ∧ w' = w := by
  go_enter Try.func19, Try.ntmps19
  go_wp2
  go_ret
  exact ⟨rfl, rfl⟩
set_option maxRecDepth 100000 in
set_option maxHeartbeats 4000000 in
theorem reached_g (tp n : Nat) (T : TrP) (b : Int) (w : World) (h : TreeAt w tp n T) : Calls Try.prog 19 #[.pointer (some ⟨tp, 0, none⟩), .int .i64 b] w fun e w' => e = .returned (.bool (reachedT T b)) ∧ w' = w := by
  obtain ⟨vo, vu, vd, vp, vq, vt, vs, vst, gk, vk, h1, h2, h3, h4, h5, h6, h7, h8, h9, l1, l2, l3, l4, l5, l6, h10, h11, h12⟩ := h
  obtain ⟨Ap, cp, rfl, -⟩ := id h5
  rw [l3] at h1 h5
  have c4 := Lib.cell_of_heap h1 4
  obtain ⟨v, hv⟩ : ∃ v, v = reachedT T b := ⟨_, rfl⟩
  rw [← hv]
  by_cases hb0 : 0 ≤ b
  · have d0 : decide (b ≥ 0) = true := decide_eq_true hb0
    by_cases hbn : b < n
    · have d1 : decide (b < (n : Int)) = true := decide_eq_true hbn
      obtain ⟨k, rfl⟩ : ∃ k : Nat, b = k := ⟨b.toNat, by omega⟩
      obtain ⟨pb, po, rfl, cc⟩ := h5.get (j := k) (by omega)
      have hve : v = (T.place.getD k 0 != -1) := by rw [hv]; unfold reachedT; simp [hb0, l3]; omega
      obtain ⟨x, hx⟩ : ∃ x, x = T.place.getD k 0 := ⟨_, rfl⟩
      rw [← hx] at cc hve
      have Hve := Lib.hid hve
      clear hve hv hx h1 h2 h3 h4 h5 h6 h7 h8 h9 l1 l2 l3 l4 l5 l6 h10 h11 h12 hb0
      go_enter Try.func19, Try.ntmps19
      go_wp2
      go_ret
      exact ⟨by rw [Hve.out]; rfl, rfl⟩
    · have d1 : decide (b < (n : Int)) = false := decide_eq_false hbn
      have hve : v = false := by rw [hv]; unfold reachedT; rw [l3, d1]; simp
      subst hve
      clear hv h1 h2 h3 h4 h5 h6 h7 h8 h9 l1 l2 l3 l4 l5 l6 h10 h11 h12
      go_enter Try.func19, Try.ntmps19
      go_wp2
      go_ret
      exact ⟨rfl, rfl⟩
  · have d0 : decide (b ≥ 0) = false := decide_eq_false hb0
    have hve : v = false := by
      rw [hv]
      unfold reachedT
      have : decide (0 ≤ b) = false := decide_eq_false hb0
      rw [this]
      simp
    subst hve
    clear hv h1 h2 h3 h4 h5 h6 h7 h8 h9 l1 l2 l3 l4 l5 l6 h10 h11 h12
    go_enter Try.func19, Try.ntmps19
    go_wp2
    go_ret
    exact ⟨rfl, rfl⟩

theorem up_nil (b : Int) (w : World) : Calls Try.prog 18 #[.pointer none, .int .i64 b] w fun e w' => e = .returned (.int .i64 (-1)) ∧ w' = w := by
  have hR := reached_nil b w
  go_enter Try.func18, Try.ntmps18
  go_wp2_with (go_at_call 19; refine hR.mono ?_; rintro e w1 ⟨rfl, rfl⟩; clear hR)
  go_ret
  exact ⟨rfl, rfl⟩
theorem upt_g (tp n : Nat) (T : TrP) (b : Int) (w : World) (h : TreeAt w tp n T) : Calls Try.prog 18 #[.pointer (some ⟨tp, 0, none⟩), .int .i64 b] w fun e w' => e = .returned (.int .i64 (upT T b)) ∧ w' = w := by
  have hR := reached_g tp n T b w h
  obtain ⟨vo, vu, vd, vp, vq, vt, vs, vst, gk, vk, h1, h2, h3, h4, h5, h6, h7, h8, h9, l1, l2, l3, l4, l5, l6, h10, h11, h12⟩ := h
  obtain ⟨Au, cu, rfl, -⟩ := id h3
  rw [l1] at h1 h3
  have c1 := Lib.cell_of_heap h1 1
  obtain ⟨x, hx⟩ : ∃ x, x = upT T b := ⟨_, rfl⟩
  rw [← hx]
  by_cases hr : reachedT T b = true
  · obtain ⟨k, rfl, hk⟩ := reachedT_in hr
    obtain ⟨ub, uo, rfl, cc⟩ := h3.get (j := k) (by omega)
    have hxe : x = T.up.getD k 0 := by rw [hx]; unfold upT; rw [if_pos hr]; rfl
    rw [← hxe] at cc
    rw [hr] at hR
    have hkn : k < n := by omega
    clear hx hxe hr h1 h2 h3 h4 h5 h6 h7 h8 h9 l1 l2 l3 l4 l5 l6 h10 h11 h12 hk
    go_enter Try.func18, Try.ntmps18
    go_wp2_with (go_at_call 19; refine hR.mono ?_; rintro e w1 ⟨rfl, rfl⟩; clear hR)
    go_ret
    exact ⟨rfl, rfl⟩
  · have hr : reachedT T b = false := by simpa using hr
    have hxe : x = -1 := by rw [hx]; unfold upT; rw [hr]; rfl
    rw [hr] at hR
    subst hxe
    clear hx hr h1 h2 h3 h4 h5 h6 h7 h8 h9 l1 l2 l3 l4 l5 l6 h10 h11 h12
    go_enter Try.func18, Try.ntmps18
    go_wp2_with (go_at_call 19; refine hR.mono ?_; rintro e w1 ⟨rfl, rfl⟩; clear hR)
    go_ret
    exact ⟨rfl, rfl⟩
theorem over_nil (a b : Int) (w : World) : Calls Try.prog 16 #[.pointer none, .int .i64 a, .int .i64 b] w fun e w' => e = .returned (.bool false) ∧ ∃ q, w' = w.drewN q := by
  have hR : ∀ w', Calls Try.prog 19 #[.pointer none, .int .i64 a] w' fun e w2 => e = .returned (.bool false) ∧ ∃ q, w2 = w'.drewN q := fun w' => (reached_nil a w').mono fun e w2 ⟨h1, h2⟩ => ⟨h1, 0, by rw [h2]; rfl⟩
  go_enter Try.func16, Try.ntmps16
  go_upto_region 1 with fail
  go_quiet (first | (go_at_call 19; exact Calls.quiet_of (hR _)))
  go_wp2
  go_ret
  exact ⟨rfl, _, rfl⟩
set_option maxRecDepth 100000 in
set_option maxHeartbeats 8000000 in
theorem over_g (tp n : Nat) (T : TrP) (a b : Int) (w : World) (h : TreeAt w tp n T) : Calls Try.prog 16 #[.pointer (some ⟨tp, 0, none⟩), .int .i64 a, .int .i64 b] w fun e w' => e = .returned (.bool (overT T a b)) ∧ ∃ q, w' = w.drewN q := by
  have hRa : ∀ w', TreeAt w' tp n T → Calls Try.prog 19 #[.pointer (some ⟨tp, 0, none⟩), .int .i64 a] w' fun e w2 => e = .returned (.bool (reachedT T a)) ∧ ∃ q, w2 = w'.drewN q := fun w' h' => (reached_g tp n T a w' h').mono fun e w2 ⟨h1, h2⟩ => ⟨h1, 0, by rw [h2]; rfl⟩
  have hRb : ∀ w', TreeAt w' tp n T → Calls Try.prog 19 #[.pointer (some ⟨tp, 0, none⟩), .int .i64 b] w' fun e w2 => e = .returned (.bool (reachedT T b)) ∧ ∃ q, w2 = w'.drewN q := fun w' h' => (reached_g tp n T b w' h').mono fun e w2 ⟨h1, h2⟩ => ⟨h1, 0, by rw [h2]; rfl⟩
  have HTA := Lib.hid h
  obtain ⟨vo, vu, vd, vp, vq, vt, vs, vst, gk, vk, h1, h2, h3, h4, h5, h6, h7, h8, h9, l1, l2, l3, l4, l5, l6, h10, h11, h12⟩ := h
  obtain ⟨Ap, cp, rfl, -⟩ := id h5
  obtain ⟨Aq, cq, rfl, -⟩ := id h6
  rw [l3] at h1 h5
  rw [l4] at h1 h6
  have c4 := Lib.cell_of_heap h1 4
  have c5 := Lib.cell_of_heap h1 5
  obtain ⟨x, hx⟩ : ∃ x, x = overT T a b := ⟨_, rfl⟩
  rw [← hx]
  by_cases hra : reachedT T a = true
  · rw [hra] at hRa
    by_cases hrb : reachedT T b = true
    · rw [hrb] at hRb
      obtain ⟨ka, rfl, hka⟩ := reachedT_in hra
      obtain ⟨kb, rfl, hkb⟩ := reachedT_in hrb
      obtain ⟨pb, po, rfl, ca⟩ := h5.get (j := ka) (by omega)
      obtain ⟨pb2, po2, hpe, cb⟩ := h5.get (j := kb) (by omega)
      obtain ⟨rfl, rfl⟩ : pb = pb2 ∧ po = po2 := by simpa using hpe
      obtain ⟨qb, qo, rfl, cqa⟩ := h6.get (j := ka) (by omega)
      have hka2 : ka < n := by omega
      have hkb2 : kb < n := by omega
      have hxe : x = (decide (T.place.getD ka 0 ≤ T.place.getD kb 0) && decide (T.place.getD kb 0 < T.past.getD ka 0)) := by rw [hx]; unfold overT; rw [hra, hrb]; rfl
      obtain ⟨pa, hpa⟩ : ∃ pa, pa = T.place.getD ka 0 := ⟨_, rfl⟩
      obtain ⟨pc, hpc⟩ : ∃ pc, pc = T.place.getD kb 0 := ⟨_, rfl⟩
      obtain ⟨qa, hqa⟩ : ∃ qa, qa = T.past.getD ka 0 := ⟨_, rfl⟩
      rw [← hpa, ← hpc, ← hqa] at hxe
      rw [← hpa] at ca
      rw [← hpc] at cb
      rw [← hqa] at cqa
      clear hpa hpc hqa hx hpe hra hrb h1 h2 h3 h4 h5 h6 h7 h8 h9 l1 l2 l3 l4 l5 l6 h10 h11 h12 hka hkb
      by_cases hle : pa ≤ pc
      · have d1 : decide (pa ≤ pc) = true := decide_eq_true hle
        have hxe2 : x = decide (pc < qa) := by rw [hxe, d1]; rfl
        clear hxe
        subst hxe2
        have HRa := Lib.hid hRa
        have HRb := Lib.hid hRb
        clear hRa hRb
        go_enter Try.func16, Try.ntmps16
        go_upto_region 1 with fail
        go_quiet (first | (go_at_call 19; with_reducible refine Calls.quiet_of (HRa.out _ ?_); exact HTA.out.keep ⟨rfl, rfl, rfl, Nat.le_refl _, fun _ _ => rfl⟩) | (go_at_call 19; with_reducible refine Calls.quiet_of (HRb.out _ ?_); exact HTA.out.keep ⟨rfl, rfl, rfl, Nat.le_refl _, fun _ _ => rfl⟩))
        go_wp2
        go_ret
        exact ⟨rfl, _, rfl⟩
      · have d1 : decide (pa ≤ pc) = false := decide_eq_false hle
        have hxe2 : x = false := by rw [hxe, d1]; rfl
        clear hxe
        subst hxe2
        have HRa := Lib.hid hRa
        have HRb := Lib.hid hRb
        clear hRa hRb
        go_enter Try.func16, Try.ntmps16
        go_upto_region 1 with fail
        go_quiet (first | (go_at_call 19; with_reducible refine Calls.quiet_of (HRa.out _ ?_); exact HTA.out.keep ⟨rfl, rfl, rfl, Nat.le_refl _, fun _ _ => rfl⟩) | (go_at_call 19; with_reducible refine Calls.quiet_of (HRb.out _ ?_); exact HTA.out.keep ⟨rfl, rfl, rfl, Nat.le_refl _, fun _ _ => rfl⟩))
        go_wp2
        go_ret
        exact ⟨rfl, _, rfl⟩
    · have hrb : reachedT T b = false := by simpa using hrb
      have hxe : x = false := by rw [hx]; unfold overT; rw [hra, hrb]; rfl
      subst hxe
      rw [hrb] at hRb
      clear hx hra hrb h1 h2 h3 h4 h5 h6 h7 h8 h9 l1 l2 l3 l4 l5 l6 h10 h11 h12
      have HRa := Lib.hid hRa
      have HRb := Lib.hid hRb
      clear hRa hRb
      go_enter Try.func16, Try.ntmps16
      go_upto_region 1 with fail
      go_quiet (first | (go_at_call 19; with_reducible refine Calls.quiet_of (HRa.out _ ?_); exact HTA.out.keep ⟨rfl, rfl, rfl, Nat.le_refl _, fun _ _ => rfl⟩) | (go_at_call 19; with_reducible refine Calls.quiet_of (HRb.out _ ?_); exact HTA.out.keep ⟨rfl, rfl, rfl, Nat.le_refl _, fun _ _ => rfl⟩))
      go_wp2
      go_ret
      exact ⟨rfl, _, rfl⟩
  · have hra : reachedT T a = false := by simpa using hra
    have hxe : x = false := by rw [hx]; unfold overT; rw [hra]; rfl
    subst hxe
    rw [hra] at hRa
    clear hx hra h1 h2 h3 h4 h5 h6 h7 h8 h9 l1 l2 l3 l4 l5 l6 h10 h11 h12
    have HRa := Lib.hid hRa
    have HRb := Lib.hid hRb
    clear hRa hRb
    go_enter Try.func16, Try.ntmps16
    go_upto_region 1 with fail
    go_quiet (first | (go_at_call 19; with_reducible refine Calls.quiet_of (HRa.out _ ?_); exact HTA.out.keep ⟨rfl, rfl, rfl, Nat.le_refl _, fun _ _ => rfl⟩) | (go_at_call 19; with_reducible refine Calls.quiet_of (HRb.out _ ?_); exact HTA.out.keep ⟨rfl, rfl, rfl, Nat.le_refl _, fun _ _ => rfl⟩))
    go_wp2
    go_ret
    exact ⟨rfl, _, rfl⟩
theorem kids_nil (b : Int) (w : World) : Calls Try.prog 23 #[.pointer none, .int .i64 b] w fun e w' => e = .returned (.slice none 0 0) ∧ w' = w := by
  have hR := reached_nil b w
  go_enter Try.func23, Try.ntmps23
  go_wp2_with (go_at_call 19; refine hR.mono ?_; rintro e w1 ⟨rfl, rfl⟩; clear hR)
  go_ret
  exact ⟨rfl, rfl⟩
theorem frontier_nil (b : Int) (w : World) : Calls Try.prog 25 #[.pointer none, .int .i64 b] w fun e w' => e = .returned (.slice none 0 0) ∧ w' = w := by
  have hR := reached_nil b w
  go_enter Try.func25, Try.ntmps25
  go_wp2_with (go_at_call 19; refine hR.mono ?_; rintro e w1 ⟨rfl, rfl⟩; clear hR)
  go_ret
  exact ⟨rfl, rfl⟩
theorem order_nil (w : World) : Calls Try.prog 22 #[.pointer none] w fun e w' => e = .returned (.slice none 0 0) ∧ w' = w := by
  go_enter Try.func22, Try.ntmps22
  go_wp2
  go_ret
  exact ⟨rfl, rfl⟩
theorem common_nil (a b : Int) (w : World) : Calls Try.prog 24 #[.pointer none, .int .i64 a, .int .i64 b] w fun e w' => e = .returned (.int .i64 (-1)) ∧ w' = w := by
  have hR := reached_nil a w
  go_enter Try.func24, Try.ntmps24
  go_wp2_with (go_at_call 19; refine hR.mono ?_; rintro e w1 ⟨rfl, rfl⟩; clear hR)
  go_ret
  exact ⟨rfl, rfl⟩
end Go.Proofs.Ytlejpoofgnenhaa
