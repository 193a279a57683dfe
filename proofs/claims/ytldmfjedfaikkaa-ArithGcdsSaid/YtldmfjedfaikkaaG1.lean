/-
  arith's Gcd: the greatest number that divides both.
-/
import Derived.Test.YtldmfjedfaikkaaA3
import Derived.Lib.Hide
namespace Go.Proofs.Ytldmfjedfaikkaa
open Go.RowKit

theorem wf_i64_in {n : Int} (w0 : (Lit.int .i64 n).wf = true) : -9223372036854775808 ≤ n ∧ n ≤ 9223372036854775807 := by simpa [Lit.wf, IntKind.min, IntKind.max, IntKind.signed, IntKind.bits] using w0

theorem abs_lt (n : Int) (h : -9223372036854775808 ≤ n ∧ n ≤ 9223372036854775807) : n.natAbs ≤ 9223372036854775808 := by omega

set_option maxHeartbeats 400000 in
theorem asize_any (n : Int) (hn : -9223372036854775808 ≤ n ∧ n ≤ 9223372036854775807) (w : World) : Calls Try.prog 44 #[.int .i64 n] w fun e w' => e = .returned (.int .u64 (n.natAbs : Nat)) ∧ w = w' := by
  by_cases h : n < 0
  · go_enter Try.func44, Try.ntmps44
    go_wp2
    go_ret
    exact ⟨ret_int (by rw [u64wrap, u64wrap]; omega), rfl⟩
  · go_enter Try.func44, Try.ntmps44
    go_wp2
    go_ret
    exact ⟨ret_int (by first | omega | (rw [u64wrap]; omega)), rfl⟩

set_option maxHeartbeats 1000000 in
theorem gcd_any (a b : Int) (ha : -9223372036854775808 ≤ a ∧ a ≤ 9223372036854775807) (hb : -9223372036854775808 ≤ b ∧ b ≤ 9223372036854775807) (w : World) :
    Calls Try.prog 27 #[.int .i64 a, .int .i64 b] w fun e w' => e = .returned (.int .u64 (Nat.gcd a.natAbs b.natAbs : Nat)) ∧ ∃ n, w' = w.drewN n := by
  have A := abs_lt a ha
  have B := abs_lt b hb
  go_enter Try.func27, Try.ntmps27
  go_wp2_with (go_at_call 44; refine (asize_any _ (by omega) _).mono ?_; rintro e w' ⟨rfl, rfl⟩)
  go_loopw [5, 6] (fun x y wr => ∃ X Y : Nat, x = .int .u64 X ∧ y = .int .u64 Y ∧ Nat.gcd X Y = Nat.gcd a.natAbs b.natAbs ∧ X ≤ 9223372036854775808 ∧ Y ≤ 9223372036854775808 ∧ ∃ n, wr = w.drewN n) (fun _ y _ => (intOf y).toNat)
  case atStart => exact ⟨a.natAbs, b.natAbs, rfl, rfl, rfl, A, B, 0, rfl⟩
  case round =>
    obtain ⟨X, Y, rfl, rfl, hg, hX, hY, n, rfl⟩ := hrel
    by_cases h0 : Y = 0
    · subst h0
      go_wp2
      go_ret
      exact ⟨ret_int (by rw [← hg, Nat.gcd_zero_right]), n, rfl⟩
    · have hm := Nat.mod_lt X (show Y > 0 by omega)
      have hg2 : Nat.gcd Y (X % Y) = Nat.gcd a.natAbs b.natAbs := by rw [← hg, Nat.gcd_comm, ← Nat.gcd_rec, Nat.gcd_comm]
      have HG := Lib.hid hg2
      clear hg2 hg
      go_wp2_with (fail)
      go_quiet (fail)
      go_wp2
      go_roundw
      case rel => exact ⟨Y, X % Y, rfl, rfl, HG.out, hY, by omega, n + nq, World.drewN_drewN _ _ _⟩
      case measure => simp only [intOf]; omega

theorem gcd_is (a b : Int) (G : Nat) (hG : Hid (Nat.gcd a.natAbs b.natAbs = G)) (ha : -9223372036854775808 ≤ a ∧ a ≤ 9223372036854775807) (hb : -9223372036854775808 ≤ b ∧ b ≤ 9223372036854775807) (w : World) :
    Calls Try.prog 27 #[.int .i64 a, .int .i64 b] w fun e w' => e = .returned (.int .u64 (G : Nat)) ∧ ∃ n, w' = w.drewN n :=
  (gcd_any a b ha hb w).mono fun _ _ ⟨he, hw⟩ => ⟨by rw [he, hG.out], hw⟩

set_option maxHeartbeats 1000000 in
theorem gcds_law0 (w : World) : Calls Try.prog 9 #[.int .i64 0, .int .i64 0] w fun e w' => e = .returned (.bool true) ∧ ∃ n, w' = w.drewN n := by
  have H : Hid (Nat.gcd (Int.natAbs 0) (Int.natAbs 0) = 0) := Lib.hid rfl
  go_enter Try.func9, Try.ntmps9
  go_wp2_with (first | (go_at_call 27; refine (gcd_is _ _ 0 H (by omega) (by omega) _).mono ?_; rintro e w' ⟨rfl, n, rfl⟩) | (go_at_call 13; refine (awake_any _).mono ?_; rintro e w' ⟨rfl, rfl⟩))
  go_ret
  exact ⟨rfl, _, rfl⟩

/-- What the law's slots hold of a number: its size. -/
def Sized (a : Int) (X : Nat) : Prop := a.natAbs = X
theorem wrap_neg (X : Nat) (hX : X ≤ 9223372036854775808) (h1 : 1 ≤ X) : IntKind.u64.wrap (-IntKind.u64.wrap (-(X : Int))) = X := by rw [u64wrap, u64wrap]; omega
theorem gcd_left (X Y : Nat) (h : 1 ≤ X + Y) : Nat.gcd (X / Nat.gcd X Y) (Y / Nat.gcd X Y) = 1 := by
  rcases Nat.eq_zero_or_pos X with h0 | h0
  · exact Nat.gcd_div_gcd_div_gcd_of_pos_right (by omega)
  · exact Nat.gcd_div_gcd_div_gcd_of_pos_left h0
theorem gcd_round (P Q g : Nat) (h : Nat.gcd P Q = g) : Nat.gcd Q (P % Q) = g := by rw [← h, Nat.gcd_comm, ← Nat.gcd_rec, Nat.gcd_comm]
theorem slot_div (X G : Nat) (h : X / G ≤ 9223372036854775808) : Value.int .u64 (IntKind.u64.wrap ((X : Int) / (G : Int))) = .int .u64 ((X / G : Nat) : Int) := by
  have e : (X : Int) / (G : Int) = ((X / G : Nat) : Int) := rfl
  rw [e, IntWalk.u64_in _ ⟨Int.natCast_nonneg _, by omega⟩]
theorem mod0 {X G : Nat} (h : G ∣ X) : (X : Int) % (G : Int) = 0 := Int.emod_eq_zero_of_dvd (Int.ofNat_dvd.mpr h)

set_option maxHeartbeats 1000000 in
theorem gcds_zp (Y G : Nat) (hY : Y ≤ 9223372036854775807) (y1 : 1 ≤ Y) (hg : Nat.gcd 0 Y = G) (w : World) : Calls Try.prog 9 #[.int .i64 0, .int .i64 Y] w fun e w' => e = .returned (.bool true) ∧ ∃ n, w' = w.drewN n := by
  have H1 : Hid (Nat.gcd (Int.natAbs 0) (Int.natAbs Y) = G) := Lib.hid (by simpa using hg)
  have H2 : Hid (Nat.gcd (Int.natAbs Y) (Int.natAbs 0) = G) := Lib.hid (by rw [Nat.gcd_comm]; exact H1.out)
  have hG : 1 ≤ G := by rw [← hg]; exact Nat.gcd_pos_iff.mpr (by omega)
  have gX : G ∣ 0 := hg ▸ Nat.gcd_dvd_left 0 Y
  have gY : G ∣ Y := hg ▸ Nat.gcd_dvd_right 0 Y
  have d2 : (Y : Int) % (G : Int) = 0 := mod0 gY
  have HC : Hid (Nat.gcd (0 / G) (Y / G) = 1) := Lib.hid (by subst hg; exact gcd_left 0 Y (by omega))
  have z2 := Nat.div_le_self Y G
  clear hg gX gY
  go_enter Try.func9, Try.ntmps9
  go_wp2_with (first | (go_at_call 27; refine (gcd_is _ _ G (by first | exact H1 | exact H2) (by omega) (by omega) _).mono ?_; rintro e w' ⟨rfl, n, rfl⟩) | (go_at_call 13; refine (awake_any _).mono ?_; rintro e w' ⟨rfl, rfl⟩))
  go_quiet (fail)
  go_wp2
  go_loopw [6, 7] (fun x y wr => ∃ P Q : Nat, x = .int .u64 P ∧ y = .int .u64 Q ∧ Hid (Nat.gcd P Q = 1) ∧ P ≤ 9223372036854775808 ∧ Q ≤ 9223372036854775808 ∧ ∃ n, wr = w.drewN n) (fun _ y _ => (intOf y).toNat)
  case atStart => exact ⟨0 / G, Y / G, (by rw [Nat.zero_div]; rfl), slot_div _ _ (by omega), HC, by rw [Nat.zero_div]; omega, by omega, _, World.drewN_drewN _ _ _⟩
  case round =>
    obtain ⟨P, Q, rfl, rfl, HP, hP, hQ, m, rfl⟩ := hrel
    by_cases q0 : Q = 0
    · subst q0
      have p1 : P = 1 := by have := HP.out; rwa [Nat.gcd_zero_right] at this
      subst p1
      go_wp2_with (go_at_call 13; refine (awake_any _).mono ?_; rintro e w' ⟨rfl, rfl⟩)
      go_ret
      exact ⟨rfl, m, rfl⟩
    · have hm := Nat.mod_lt P (show Q > 0 by omega)
      have HG := Lib.hid (gcd_round P Q 1 HP.out)
      clear HP
      go_wp2_with (fail)
      go_quiet (fail)
      go_wp2
      go_roundw
      case rel => exact ⟨Q, P % Q, rfl, rfl, HG, hQ, by omega, _, World.drewN_drewN _ _ _⟩
      case measure => simp only [intOf]; omega

set_option maxHeartbeats 1000000 in
theorem gcds_zn (Y G : Nat) (hY : Y ≤ 9223372036854775808) (y1 : 1 ≤ Y) (hg : Nat.gcd 0 Y = G) (w : World) : Calls Try.prog 9 #[.int .i64 0, .int .i64 (-(Y : Int))] w fun e w' => e = .returned (.bool true) ∧ ∃ n, w' = w.drewN n := by
  have H1 : Hid (Nat.gcd (Int.natAbs 0) (Int.natAbs (-(Y : Int))) = G) := Lib.hid (by simpa using hg)
  have H2 : Hid (Nat.gcd (Int.natAbs (-(Y : Int))) (Int.natAbs 0) = G) := Lib.hid (by rw [Nat.gcd_comm]; exact H1.out)
  have hG : 1 ≤ G := by rw [← hg]; exact Nat.gcd_pos_iff.mpr (by omega)
  have gX : G ∣ 0 := hg ▸ Nat.gcd_dvd_left 0 Y
  have gY : G ∣ Y := hg ▸ Nat.gcd_dvd_right 0 Y
  have sy := wrap_neg Y hY y1
  have d2 : (Y : Int) % (G : Int) = 0 := mod0 gY
  have HC : Hid (Nat.gcd (0 / G) (Y / G) = 1) := Lib.hid (by subst hg; exact gcd_left 0 Y (by omega))
  have z2 := Nat.div_le_self Y G
  clear hg gX gY
  go_enter Try.func9, Try.ntmps9
  go_wp2_with (first | (go_at_call 27; refine (gcd_is _ _ G (by first | exact H1 | exact H2) (by omega) (by omega) _).mono ?_; rintro e w' ⟨rfl, n, rfl⟩) | (go_at_call 13; refine (awake_any _).mono ?_; rintro e w' ⟨rfl, rfl⟩))
  go_quiet (fail)
  go_wp2
  go_loopw [6, 7] (fun x y wr => ∃ P Q : Nat, x = .int .u64 P ∧ y = .int .u64 Q ∧ Hid (Nat.gcd P Q = 1) ∧ P ≤ 9223372036854775808 ∧ Q ≤ 9223372036854775808 ∧ ∃ n, wr = w.drewN n) (fun _ y _ => (intOf y).toNat)
  case atStart => exact ⟨0 / G, Y / G, (by rw [Nat.zero_div]; rfl), slot_div _ _ (by omega), HC, by rw [Nat.zero_div]; omega, by omega, _, World.drewN_drewN _ _ _⟩
  case round =>
    obtain ⟨P, Q, rfl, rfl, HP, hP, hQ, m, rfl⟩ := hrel
    by_cases q0 : Q = 0
    · subst q0
      have p1 : P = 1 := by have := HP.out; rwa [Nat.gcd_zero_right] at this
      subst p1
      go_wp2_with (go_at_call 13; refine (awake_any _).mono ?_; rintro e w' ⟨rfl, rfl⟩)
      go_ret
      exact ⟨rfl, m, rfl⟩
    · have hm := Nat.mod_lt P (show Q > 0 by omega)
      have HG := Lib.hid (gcd_round P Q 1 HP.out)
      clear HP
      go_wp2_with (fail)
      go_quiet (fail)
      go_wp2
      go_roundw
      case rel => exact ⟨Q, P % Q, rfl, rfl, HG, hQ, by omega, _, World.drewN_drewN _ _ _⟩
      case measure => simp only [intOf]; omega

set_option maxHeartbeats 1000000 in
theorem gcds_pp (X Y G : Nat) (hX : X ≤ 9223372036854775807) (x1 : 1 ≤ X) (hY : Y ≤ 9223372036854775807) (hg : Nat.gcd X Y = G) (w : World) : Calls Try.prog 9 #[.int .i64 X, .int .i64 Y] w fun e w' => e = .returned (.bool true) ∧ ∃ n, w' = w.drewN n := by
  have H1 : Hid (Nat.gcd (Int.natAbs X) (Int.natAbs Y) = G) := Lib.hid (by simpa using hg)
  have H2 : Hid (Nat.gcd (Int.natAbs Y) (Int.natAbs X) = G) := Lib.hid (by rw [Nat.gcd_comm]; exact H1.out)
  have hG : 1 ≤ G := by rw [← hg]; exact Nat.gcd_pos_iff.mpr (by omega)
  have gX : G ∣ X := hg ▸ Nat.gcd_dvd_left X Y
  have gY : G ∣ Y := hg ▸ Nat.gcd_dvd_right X Y
  have d1 : (X : Int) % (G : Int) = 0 := mod0 gX
  have d2 : (Y : Int) % (G : Int) = 0 := mod0 gY
  have HC : Hid (Nat.gcd (X / G) (Y / G) = 1) := Lib.hid (by subst hg; exact gcd_left X Y (by omega))
  have z2 := Nat.div_le_self Y G
  have z1 := Nat.div_le_self X G
  clear hg gX gY
  go_enter Try.func9, Try.ntmps9
  go_wp2_with (first | (go_at_call 27; refine (gcd_is _ _ G (by first | exact H1 | exact H2) (by omega) (by omega) _).mono ?_; rintro e w' ⟨rfl, n, rfl⟩) | (go_at_call 13; refine (awake_any _).mono ?_; rintro e w' ⟨rfl, rfl⟩))
  go_quiet (fail)
  go_wp2
  go_loopw [6, 7] (fun x y wr => ∃ P Q : Nat, x = .int .u64 P ∧ y = .int .u64 Q ∧ Hid (Nat.gcd P Q = 1) ∧ P ≤ 9223372036854775808 ∧ Q ≤ 9223372036854775808 ∧ ∃ n, wr = w.drewN n) (fun _ y _ => (intOf y).toNat)
  case atStart => exact ⟨X / G, Y / G, slot_div _ _ (by omega), slot_div _ _ (by omega), HC, by omega, by omega, _, World.drewN_drewN _ _ _⟩
  case round =>
    obtain ⟨P, Q, rfl, rfl, HP, hP, hQ, m, rfl⟩ := hrel
    by_cases q0 : Q = 0
    · subst q0
      have p1 : P = 1 := by have := HP.out; rwa [Nat.gcd_zero_right] at this
      subst p1
      go_wp2_with (go_at_call 13; refine (awake_any _).mono ?_; rintro e w' ⟨rfl, rfl⟩)
      go_ret
      exact ⟨rfl, m, rfl⟩
    · have hm := Nat.mod_lt P (show Q > 0 by omega)
      have HG := Lib.hid (gcd_round P Q 1 HP.out)
      clear HP
      go_wp2_with (fail)
      go_quiet (fail)
      go_wp2
      go_roundw
      case rel => exact ⟨Q, P % Q, rfl, rfl, HG, hQ, by omega, _, World.drewN_drewN _ _ _⟩
      case measure => simp only [intOf]; omega

set_option maxHeartbeats 1000000 in
theorem gcds_pn (X Y G : Nat) (hX : X ≤ 9223372036854775807) (x1 : 1 ≤ X) (hY : Y ≤ 9223372036854775808) (y1 : 1 ≤ Y) (hg : Nat.gcd X Y = G) (w : World) : Calls Try.prog 9 #[.int .i64 X, .int .i64 (-(Y : Int))] w fun e w' => e = .returned (.bool true) ∧ ∃ n, w' = w.drewN n := by
  have H1 : Hid (Nat.gcd (Int.natAbs X) (Int.natAbs (-(Y : Int))) = G) := Lib.hid (by simpa using hg)
  have H2 : Hid (Nat.gcd (Int.natAbs (-(Y : Int))) (Int.natAbs X) = G) := Lib.hid (by rw [Nat.gcd_comm]; exact H1.out)
  have hG : 1 ≤ G := by rw [← hg]; exact Nat.gcd_pos_iff.mpr (by omega)
  have gX : G ∣ X := hg ▸ Nat.gcd_dvd_left X Y
  have gY : G ∣ Y := hg ▸ Nat.gcd_dvd_right X Y
  have sy := wrap_neg Y hY y1
  have d1 : (X : Int) % (G : Int) = 0 := mod0 gX
  have d2 : (Y : Int) % (G : Int) = 0 := mod0 gY
  have HC : Hid (Nat.gcd (X / G) (Y / G) = 1) := Lib.hid (by subst hg; exact gcd_left X Y (by omega))
  have z2 := Nat.div_le_self Y G
  have z1 := Nat.div_le_self X G
  clear hg gX gY
  go_enter Try.func9, Try.ntmps9
  go_wp2_with (first | (go_at_call 27; refine (gcd_is _ _ G (by first | exact H1 | exact H2) (by omega) (by omega) _).mono ?_; rintro e w' ⟨rfl, n, rfl⟩) | (go_at_call 13; refine (awake_any _).mono ?_; rintro e w' ⟨rfl, rfl⟩))
  go_quiet (fail)
  go_wp2
  go_loopw [6, 7] (fun x y wr => ∃ P Q : Nat, x = .int .u64 P ∧ y = .int .u64 Q ∧ Hid (Nat.gcd P Q = 1) ∧ P ≤ 9223372036854775808 ∧ Q ≤ 9223372036854775808 ∧ ∃ n, wr = w.drewN n) (fun _ y _ => (intOf y).toNat)
  case atStart => exact ⟨X / G, Y / G, slot_div _ _ (by omega), slot_div _ _ (by omega), HC, by omega, by omega, _, World.drewN_drewN _ _ _⟩
  case round =>
    obtain ⟨P, Q, rfl, rfl, HP, hP, hQ, m, rfl⟩ := hrel
    by_cases q0 : Q = 0
    · subst q0
      have p1 : P = 1 := by have := HP.out; rwa [Nat.gcd_zero_right] at this
      subst p1
      go_wp2_with (go_at_call 13; refine (awake_any _).mono ?_; rintro e w' ⟨rfl, rfl⟩)
      go_ret
      exact ⟨rfl, m, rfl⟩
    · have hm := Nat.mod_lt P (show Q > 0 by omega)
      have HG := Lib.hid (gcd_round P Q 1 HP.out)
      clear HP
      go_wp2_with (fail)
      go_quiet (fail)
      go_wp2
      go_roundw
      case rel => exact ⟨Q, P % Q, rfl, rfl, HG, hQ, by omega, _, World.drewN_drewN _ _ _⟩
      case measure => simp only [intOf]; omega

set_option maxHeartbeats 1000000 in
theorem gcds_np (X Y G : Nat) (hX : X ≤ 9223372036854775808) (x1 : 1 ≤ X) (hY : Y ≤ 9223372036854775807) (hg : Nat.gcd X Y = G) (w : World) : Calls Try.prog 9 #[.int .i64 (-(X : Int)), .int .i64 Y] w fun e w' => e = .returned (.bool true) ∧ ∃ n, w' = w.drewN n := by
  have H1 : Hid (Nat.gcd (Int.natAbs (-(X : Int))) (Int.natAbs Y) = G) := Lib.hid (by simpa using hg)
  have H2 : Hid (Nat.gcd (Int.natAbs Y) (Int.natAbs (-(X : Int))) = G) := Lib.hid (by rw [Nat.gcd_comm]; exact H1.out)
  have hG : 1 ≤ G := by rw [← hg]; exact Nat.gcd_pos_iff.mpr (by omega)
  have gX : G ∣ X := hg ▸ Nat.gcd_dvd_left X Y
  have gY : G ∣ Y := hg ▸ Nat.gcd_dvd_right X Y
  have sx := wrap_neg X hX x1
  have d1 : (X : Int) % (G : Int) = 0 := mod0 gX
  have d2 : (Y : Int) % (G : Int) = 0 := mod0 gY
  have HC : Hid (Nat.gcd (X / G) (Y / G) = 1) := Lib.hid (by subst hg; exact gcd_left X Y (by omega))
  have z2 := Nat.div_le_self Y G
  have z1 := Nat.div_le_self X G
  clear hg gX gY
  go_enter Try.func9, Try.ntmps9
  go_wp2_with (first | (go_at_call 27; refine (gcd_is _ _ G (by first | exact H1 | exact H2) (by omega) (by omega) _).mono ?_; rintro e w' ⟨rfl, n, rfl⟩) | (go_at_call 13; refine (awake_any _).mono ?_; rintro e w' ⟨rfl, rfl⟩))
  go_quiet (fail)
  go_wp2
  go_loopw [6, 7] (fun x y wr => ∃ P Q : Nat, x = .int .u64 P ∧ y = .int .u64 Q ∧ Hid (Nat.gcd P Q = 1) ∧ P ≤ 9223372036854775808 ∧ Q ≤ 9223372036854775808 ∧ ∃ n, wr = w.drewN n) (fun _ y _ => (intOf y).toNat)
  case atStart => exact ⟨X / G, Y / G, slot_div _ _ (by omega), slot_div _ _ (by omega), HC, by omega, by omega, _, World.drewN_drewN _ _ _⟩
  case round =>
    obtain ⟨P, Q, rfl, rfl, HP, hP, hQ, m, rfl⟩ := hrel
    by_cases q0 : Q = 0
    · subst q0
      have p1 : P = 1 := by have := HP.out; rwa [Nat.gcd_zero_right] at this
      subst p1
      go_wp2_with (go_at_call 13; refine (awake_any _).mono ?_; rintro e w' ⟨rfl, rfl⟩)
      go_ret
      exact ⟨rfl, m, rfl⟩
    · have hm := Nat.mod_lt P (show Q > 0 by omega)
      have HG := Lib.hid (gcd_round P Q 1 HP.out)
      clear HP
      go_wp2_with (fail)
      go_quiet (fail)
      go_wp2
      go_roundw
      case rel => exact ⟨Q, P % Q, rfl, rfl, HG, hQ, by omega, _, World.drewN_drewN _ _ _⟩
      case measure => simp only [intOf]; omega

set_option maxHeartbeats 1000000 in
theorem gcds_nn (X Y G : Nat) (hX : X ≤ 9223372036854775808) (x1 : 1 ≤ X) (hY : Y ≤ 9223372036854775808) (y1 : 1 ≤ Y) (hg : Nat.gcd X Y = G) (w : World) : Calls Try.prog 9 #[.int .i64 (-(X : Int)), .int .i64 (-(Y : Int))] w fun e w' => e = .returned (.bool true) ∧ ∃ n, w' = w.drewN n := by
  have H1 : Hid (Nat.gcd (Int.natAbs (-(X : Int))) (Int.natAbs (-(Y : Int))) = G) := Lib.hid (by simpa using hg)
  have H2 : Hid (Nat.gcd (Int.natAbs (-(Y : Int))) (Int.natAbs (-(X : Int))) = G) := Lib.hid (by rw [Nat.gcd_comm]; exact H1.out)
  have hG : 1 ≤ G := by rw [← hg]; exact Nat.gcd_pos_iff.mpr (by omega)
  have gX : G ∣ X := hg ▸ Nat.gcd_dvd_left X Y
  have gY : G ∣ Y := hg ▸ Nat.gcd_dvd_right X Y
  have sx := wrap_neg X hX x1
  have sy := wrap_neg Y hY y1
  have d1 : (X : Int) % (G : Int) = 0 := mod0 gX
  have d2 : (Y : Int) % (G : Int) = 0 := mod0 gY
  have HC : Hid (Nat.gcd (X / G) (Y / G) = 1) := Lib.hid (by subst hg; exact gcd_left X Y (by omega))
  have z2 := Nat.div_le_self Y G
  have z1 := Nat.div_le_self X G
  clear hg gX gY
  go_enter Try.func9, Try.ntmps9
  go_wp2_with (first | (go_at_call 27; refine (gcd_is _ _ G (by first | exact H1 | exact H2) (by omega) (by omega) _).mono ?_; rintro e w' ⟨rfl, n, rfl⟩) | (go_at_call 13; refine (awake_any _).mono ?_; rintro e w' ⟨rfl, rfl⟩))
  go_quiet (fail)
  go_wp2
  go_loopw [6, 7] (fun x y wr => ∃ P Q : Nat, x = .int .u64 P ∧ y = .int .u64 Q ∧ Hid (Nat.gcd P Q = 1) ∧ P ≤ 9223372036854775808 ∧ Q ≤ 9223372036854775808 ∧ ∃ n, wr = w.drewN n) (fun _ y _ => (intOf y).toNat)
  case atStart => exact ⟨X / G, Y / G, slot_div _ _ (by omega), slot_div _ _ (by omega), HC, by omega, by omega, _, World.drewN_drewN _ _ _⟩
  case round =>
    obtain ⟨P, Q, rfl, rfl, HP, hP, hQ, m, rfl⟩ := hrel
    by_cases q0 : Q = 0
    · subst q0
      have p1 : P = 1 := by have := HP.out; rwa [Nat.gcd_zero_right] at this
      subst p1
      go_wp2_with (go_at_call 13; refine (awake_any _).mono ?_; rintro e w' ⟨rfl, rfl⟩)
      go_ret
      exact ⟨rfl, m, rfl⟩
    · have hm := Nat.mod_lt P (show Q > 0 by omega)
      have HG := Lib.hid (gcd_round P Q 1 HP.out)
      clear HP
      go_wp2_with (fail)
      go_quiet (fail)
      go_wp2
      go_roundw
      case rel => exact ⟨Q, P % Q, rfl, rfl, HG, hQ, by omega, _, World.drewN_drewN _ _ _⟩
      case measure => simp only [intOf]; omega

theorem gcds_law (a b : Int) (w0 : (Lit.int .i64 a).wf = true) (w1 : (Lit.int .i64 b).wf = true) (w : World) : Calls Try.prog 9 #[.int .i64 a, .int .i64 b] w fun e w' => e = .returned (.bool true) ∧ ∃ n, w' = w.drewN n := by
  have ha := wf_i64_in w0
  have hb := wf_i64_in w1
  have hA : (∃ X : Nat, a = X ∧ 1 ≤ X) ∨ (∃ X : Nat, a = -(X : Int) ∧ 1 ≤ X) ∨ a = 0 := by
    rcases Int.lt_trichotomy a 0 with h | h | h
    · exact .inr (.inl ⟨a.natAbs, by omega, by omega⟩)
    · exact .inr (.inr h)
    · exact .inl ⟨a.natAbs, by omega, by omega⟩
  have hB : (∃ Y : Nat, b = Y) ∨ (∃ Y : Nat, b = -(Y : Int) ∧ 1 ≤ Y) := by
    by_cases h : b < 0
    · exact .inr ⟨b.natAbs, by omega, by omega⟩
    · exact .inl ⟨b.natAbs, by omega⟩
  rcases hA with ⟨X, rfl, hx⟩ | ⟨X, rfl, hx⟩ | rfl
  · rcases hB with ⟨Y, rfl⟩ | ⟨Y, rfl, hy⟩
    · exact gcds_pp X Y _ (by omega) hx (by omega) rfl w
    · exact gcds_pn X Y _ (by omega) hx (by omega) hy rfl w
  · rcases hB with ⟨Y, rfl⟩ | ⟨Y, rfl, hy⟩
    · exact gcds_np X Y _ (by omega) hx (by omega) rfl w
    · exact gcds_nn X Y _ (by omega) hx (by omega) hy rfl w
  · rcases hB with ⟨Y, rfl⟩ | ⟨Y, rfl, hy⟩
    · by_cases hy : Y = 0
      · subst hy; exact gcds_law0 w
      · exact gcds_zp Y _ (by omega) (by omega) rfl w
    · exact gcds_zn Y _ (by omega) hy rfl w
end Go.Proofs.Ytldmfjedfaikkaa
