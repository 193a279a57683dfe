/-
  ArithPowers: awake, TrailingZeros64 at a power of two, Power, and the law, walked.
-/
import Derived.Test.YtldmfjedfaikkaaDoorRows
import Derived.WalkKit
import Derived.WalkSpells
import Derived.WalkLawsBesides
import Derived.BigQuiet
import Derived.Deep.QuietTactic
import Derived.Lib.Hide
import Derived.Test.YtldmfjedfaikkaaDoorM3
namespace Go.Proofs.YtldmfjedfaikkaaDoor
open Go.RowKit

set_option maxRecDepth 100000 in
set_option maxHeartbeats 1000000 in
theorem awake_any (w : World) : Calls Tryd.prog 5 #[] w fun e w' => e = .returned (.bool true) ∧ w = w' := by
  go_enter Tryd.func5, Tryd.ntmps5
  go_wp2
  go_ret
  exact ⟨rfl, rfl⟩

/-- The table stands in the first variable. -/
def Tab (w : World) : Prop := ∀ i : Nat, i < 64 → w.cell? ⟨0, i, none⟩ = (tab[i]?).map (Value.int .u8)

set_option maxHeartbeats 1000000 in
theorem tz_at (x v : Int) (k : Nat) (x0 : 1 ≤ x) (x1 : x ≤ 4611686018427387904) (h1 : bits .and .u64 x (IntKind.u64.wrap (-x)) = x) (h2 : IntKind.u64.wrap (x * 285870213051353865) / 288230376151711744 = (k : Int)) (hk : k < 64) (v0 : 0 ≤ v) (v1 : v ≤ 63) (w : World)
    (hc : w.cell? ⟨0, k, none⟩ = some (.int .u8 v)) : Calls Tryd.prog 6 #[.int .u64 x] w fun e w' => e = .returned (.int .i64 v) ∧ w = w' := by
  go_enter Tryd.func6, Tryd.ntmps6
  go_wp2
  go_ret
  exact ⟨rfl, rfl⟩

theorem tz_pow (n : Int) (j : Nat) (hj : j ≤ 62) (hn : Hid (n = 2 ^ j)) (w : World) (ht : Tab w) : Calls Tryd.prog 6 #[.int .u64 n] w fun e w' => e = .returned (.int .i64 (j : Int)) ∧ w = w' := by
  have hp := pow_lo j hj
  obtain ⟨p1, p2⟩ := place_tab j (by omega)
  have hc : w.cell? ⟨0, place j, none⟩ = some (.int .u8 (j : Int)) := by rw [ht _ p1, p2]; rfl
  obtain rfl := hn.out
  exact tz_at (2 ^ j) j (place j) hp.1 hp.2 (and_neg j hj) (place_is j) p1 (by omega) (by omega) w hc

set_option maxHeartbeats 1000000 in
theorem power_yes (n : Int) (j : Nat) (hj : j ≤ 62) (hn : Hid (n = 2 ^ j)) (w : World) (ht : Hid (Tab w)) : Calls Tryd.prog 4 #[.int .i64 n] w fun e w' => e = .returned (.tuple #[.int .i64 (j : Int), .bool true]) ∧ w = w' := by
  have hb : 1 ≤ n ∧ n ≤ 4611686018427387904 := by rw [hn.out]; exact pow_lo j hj
  have h0 : bits .and .i64 n (n - 1) = 0 := by rw [hn.out, and_low _ j hj, Int.emod_self]
  go_enter Tryd.func4, Tryd.ntmps4
  go_wp2_with (go_at_call 6; refine (tz_pow _ j hj hn _ ht.out).mono ?_; rintro e w' ⟨rfl, rfl⟩)
  go_ret2
  exact ⟨rfl, rfl⟩

set_option maxHeartbeats 1000000 in
theorem power_no (n : Int) (hn : Hid (¬ ∃ j : Nat, j ≤ 62 ∧ n = 2 ^ j)) (h1 : -9223372036854775808 ≤ n ∧ n ≤ 9223372036854775807) (w : World) : Calls Tryd.prog 4 #[.int .i64 n] w fun e w' => e = .returned (.tuple #[.int .i64 0, .bool false]) ∧ w = w' := by
  by_cases h : n ≤ 0
  · go_enter Tryd.func4, Tryd.ntmps4
    go_wp2
    go_ret2
    exact ⟨rfl, rfl⟩
  · have h0 : (bits .and .i64 n (n - 1) != 0) = true := by
      rw [bne_iff_ne]
      exact fun e => hn.out (pow_of n (by omega) h1.2 e)
    go_enter Tryd.func4, Tryd.ntmps4
    go_wp2
    go_ret2
    exact ⟨rfl, rfl⟩

theorem pow_ne (j k : Nat) (h : k < j) : ((2 : Int) ^ j == 2 ^ k) = false := by
  have h1 : (2 : Nat) ^ k < 2 ^ j := Nat.pow_lt_pow_right (by decide) h
  rw [pow_int, pow_int]
  simp only [beq_eq_false_iff_ne]
  omega

set_option maxHeartbeats 1000000 in
theorem powers_yes (n : Int) (j : Nat) (hj : j ≤ 62) (hn : Hid (n = 2 ^ j)) (w : World) (ht : Hid (Tab w)) : Calls Tryd.prog 3 #[.int .i64 n] w fun e w' => e = .returned (.bool true) ∧ w = w' := by
  go_enter Tryd.func3, Tryd.ntmps3
  go_wp2_with (go_at_call 4; refine (power_yes _ j hj hn _ ht).mono ?_; rintro e w' ⟨rfl, rfl⟩)
  go_loop [5] (fun i => ∃ k : Nat, k ≤ j ∧ i = .int .i64 k) (fun i => (63 - intOf i).toNat)
  case atStart => exact ⟨0, by omega, rfl⟩
  case round =>
    obtain ⟨k, hk, rfl⟩ := hrel
    have hp := pow_lo k (by omega)
    by_cases h : k = j
    · subst h
      have hq : (n == 2 ^ k) = true := by rw [hn.out]; simp
      go_wp2_with (go_at_call 5; refine (awake_any _).mono ?_; rintro e w' ⟨rfl, rfl⟩)
      go_ret
      exact ⟨rfl, rfl⟩
    · have hq : (n == 2 ^ k) = false := by rw [hn.out]; exact pow_ne j k (by omega)
      go_wp2_with (go_at_call 5; refine (awake_any _).mono ?_; rintro e w' ⟨rfl, rfl⟩)
      go_round
      case rel => exact ⟨k + 1, by omega, by go_num⟩
      case measure => simp only [intOf]; omega

set_option maxHeartbeats 1000000 in
theorem powers_no (n : Int) (hn : Hid (¬ ∃ j : Nat, j ≤ 62 ∧ n = 2 ^ j)) (h1 : -9223372036854775808 ≤ n ∧ n ≤ 9223372036854775807) (w : World) : Calls Tryd.prog 3 #[.int .i64 n] w fun e w' => e = .returned (.bool true) ∧ w = w' := by
  have H1 := Lib.hid h1
  clear h1
  go_enter Tryd.func3, Tryd.ntmps3
  go_wp2_with (go_at_call 4; refine (power_no _ hn H1.out _).mono ?_; rintro e w' ⟨rfl, rfl⟩)
  go_loop [5] (fun i => ∃ k : Nat, k ≤ 63 ∧ i = .int .i64 k) (fun i => (63 - intOf i).toNat)
  case atStart => exact ⟨0, by omega, rfl⟩
  case round =>
    obtain ⟨k, hk, rfl⟩ := hrel
    by_cases h : k = 63
    · subst h
      go_wp2_with (go_at_call 5; refine (awake_any _).mono ?_; rintro e w' ⟨rfl, rfl⟩)
      go_ret
      exact ⟨rfl, rfl⟩
    · have hp := pow_lo k (by omega)
      have hq : (n == 2 ^ k) = false := by
        simp only [beq_eq_false_iff_ne]
        exact fun e => hn.out ⟨k, by omega, e⟩
      go_wp2_with (go_at_call 5; refine (awake_any _).mono ?_; rintro e w' ⟨rfl, rfl⟩)
      go_round
      case rel => exact ⟨k + 1, by omega, by go_num⟩
      case measure => simp only [intOf]; omega

theorem powers_law (n : Int) (w0 : (Lit.int .i64 n).wf = true) (w : World) (ht : Tab w) : Calls Tryd.prog 3 #[.int .i64 n] w fun e w' => e = .returned (.bool true) ∧ w = w' := by
  have h1 : -9223372036854775808 ≤ n ∧ n ≤ 9223372036854775807 := by simpa [Lit.wf, IntKind.min, IntKind.max, IntKind.signed, IntKind.bits] using w0
  by_cases h : ∃ j : Nat, j ≤ 62 ∧ n = 2 ^ j
  · obtain ⟨j, hj, hn⟩ := h
    exact powers_yes n j hj (Lib.hid hn) w (Lib.hid ht)
  · exact powers_no n (Lib.hid h) h1 w
end Go.Proofs.YtldmfjedfaikkaaDoor
