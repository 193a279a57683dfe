/-
  ArithFits: what the law answers, walked.
-/
import Derived.Test.YtldmfjedfaikkaaA3
namespace Go.Proofs.Ytldmfjedfaikkaa
open Go.RowKit

theorem fitB_no (n k : Int) (h : k < 1) : fitB n k = false := by unfold fitB; rw [decide_eq_false (by omega)]; rfl
theorem extV_no (n k : Int) (h : k < 1) : extV n k = 0 := by unfold extV; rw [if_pos h]
theorem extV_all (n k : Int) (h : 64 ≤ k) : extV n k = n := by unfold extV; rw [if_neg (by omega), if_pos h]
theorem fitB_all (n k : Int) (h : 64 ≤ k) : fitB n k = true := by unfold fitB; rw [decide_eq_true (by omega), extV_all n k h]; simp
theorem pow_lo (j : Nat) (hj : j ≤ 62) : (1 : Int) ≤ 2 ^ j ∧ (2 : Int) ^ j ≤ 4611686018427387904 := by
  have hp : (2 : Nat) ^ j ≤ 2 ^ 62 := Nat.pow_le_pow_right (by decide) hj
  have hp0 : 0 < (2 : Nat) ^ j := Nat.pow_pos (by decide)
  rw [pow_int]; omega

set_option maxHeartbeats 1000000 in
theorem fits_law (n k : Int) (w0 : (Lit.int .i64 n).wf = true) (w : World) : Calls Try.prog 7 #[.int .i64 n, .int .i64 k] w fun e w' => e = .returned (.bool true) ∧ w = w' := by
  have hs : k < 1 ∨ 64 ≤ k ∨ (1 ≤ k ∧ k ≤ 63) := by omega
  rcases hs with h | h | h
  · have e1 := fitB_no n k h
    have e2 := extV_no n k h
    go_enter Try.func7, Try.ntmps7
    go_wp2_with (first | (go_at_call 21; refine (extend_any _ _ _).mono ?_; rintro e w' ⟨rfl, rfl⟩) | (go_at_call 22; refine (fits_any _ _ _).mono ?_; rintro e w' ⟨rfl, rfl⟩) | (go_at_call 13; refine (awake_any _).mono ?_; rintro e w' ⟨rfl, rfl⟩))
    go_ret
    exact ⟨rfl, rfl⟩
  · have e1 := fitB_all n k h
    have e2 := extV_all n k h
    go_enter Try.func7, Try.ntmps7
    go_wp2_with (first | (go_at_call 21; refine (extend_any _ _ _).mono ?_; rintro e w' ⟨rfl, rfl⟩) | (go_at_call 22; refine (fits_any _ _ _).mono ?_; rintro e w' ⟨rfl, rfl⟩) | (go_at_call 13; refine (awake_any _).mono ?_; rintro e w' ⟨rfl, rfl⟩))
    go_ret
    exact ⟨rfl, rfl⟩
  · obtain ⟨j, hj⟩ : ∃ j : Nat, k = (j : Int) + 1 := ⟨(k - 1).toNat, by omega⟩
    subst hj
    have hj : j ≤ 62 := by omega
    have hp := pow_lo j hj
    have wn : -9223372036854775808 ≤ n ∧ n ≤ 9223372036854775807 := by simpa [Lit.wf, IntKind.min, IntKind.max, IntKind.signed, IntKind.bits] using w0
    have mid := extV_mid n ((j : Int) + 1) (by omega) (by omega)
    rw [show ((j : Int) + 1 - 1).toNat = j by omega] at mid
    have ht := and_top n j hj
    have hl := and_low n j hj
    have m0 := Int.emod_nonneg n (show (2 : Int) ^ j ≠ 0 by omega)
    have m1 := Int.emod_lt_of_pos n (show (0 : Int) < 2 ^ j by omega)
    have hf : fitB n ((j : Int) + 1) = (extV n ((j : Int) + 1) == n) := by unfold fitB; rw [decide_eq_true (by omega)]; rfl
    rcases bt_01 n j with hb | hb
    · have q1 : (bits BinOp.and IntKind.i64 n (2 ^ j) != 0) = false := by rw [ht, hb]; simp
      have q2 : extV n ((j : Int) + 1) = bits BinOp.and IntKind.i64 n (2 ^ j - 1) := by rw [mid, hl]; unfold lowS; rw [hb]; simp
      rw [q2] at hf
      clear mid ht hl m0 m1 hb
      go_enter Try.func7, Try.ntmps7
      go_wp2_with (first | (go_at_call 21; refine (extend_any _ _ _).mono ?_; rintro e w' ⟨rfl, rfl⟩) | (go_at_call 22; refine (fits_any _ _ _).mono ?_; rintro e w' ⟨rfl, rfl⟩) | (go_at_call 13; refine (awake_any _).mono ?_; rintro e w' ⟨rfl, rfl⟩))
      go_ret
      exact ⟨rfl, rfl⟩
    · have q1 : (bits BinOp.and IntKind.i64 n (2 ^ j) != 0) = true := by rw [ht, hb]; simp; omega
      have q2 : extV n ((j : Int) + 1) = wrap64 (bits BinOp.and IntKind.i64 n (2 ^ j - 1) - 2 ^ j) := by rw [mid, hl, IntWalk.wrap64_in _ (by omega)]; unfold lowS; rw [hb]; simp
      rw [q2] at hf
      clear mid ht hl m0 m1 hb
      go_enter Try.func7, Try.ntmps7
      go_wp2_with (first | (go_at_call 21; refine (extend_any _ _ _).mono ?_; rintro e w' ⟨rfl, rfl⟩) | (go_at_call 22; refine (fits_any _ _ _).mono ?_; rintro e w' ⟨rfl, rfl⟩) | (go_at_call 13; refine (awake_any _).mono ?_; rintro e w' ⟨rfl, rfl⟩))
      go_ret
      exact ⟨rfl, rfl⟩
end Go.Proofs.Ytldmfjedfaikkaa
