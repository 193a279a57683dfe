/-
  Which operations are of two, of one; what Extend and Fits answer; awake.
-/
import Derived.Test.YtldmfjedfaikkaaA2
import Derived.Test.YtldmfjedfaikkaaM2
namespace Go.Proofs.Ytldmfjedfaikkaa
open Go.RowKit

set_option maxHeartbeats 1000000 in
theorem awake_any (w : World) : Calls Try.prog 13 #[] w fun e w' => e = .returned (.bool true) ∧ w = w' := by
  have hv7 : opV 7 (-7) 2 = -3 := by decide +kernel
  have ho7 : opOk 7 2 = true := by decide +kernel
  have hv1 : oneV 16 0 = -1 := by decide +kernel
  have ho1 : oneOk 16 = true := by decide +kernel
  go_enter Try.func13, Try.ntmps13
  go_wp2_with (first | (go_at_call 10; refine (do_any _ _ _ _).mono ?_; rintro e w' ⟨rfl, rfl⟩) | (go_at_call 14; refine (aone_any _ _ _).mono ?_; rintro e w' ⟨rfl, rfl⟩))
  go_ret
  exact ⟨rfl, rfl⟩

set_option maxHeartbeats 1000000 in
theorem binary_any (op : Int) (w : World) : Calls Try.prog 17 #[.int .i64 op] w fun e w' => e = .returned (.bool (binB op)) ∧ w = w' := by
  have hs : op < 4 ∨ (4 ≤ op ∧ op ≤ 14) ∨ (14 < op ∧ op < 17) ∨ (17 ≤ op ∧ op ≤ 23) ∨ 23 < op := by omega
  rcases hs with h | h | h | h | h
  all_goals
    go_enter Try.func17, Try.ntmps17
    go_wp2
    go_ret
    exact ⟨ret_bool (by unfold binB; first | exact (decide_eq_true (by omega)).symm | exact (decide_eq_false (by omega)).symm | (rw [Bool.eq_iff_iff]; simp; omega)), rfl⟩

set_option maxHeartbeats 1000000 in
theorem compares_any (op : Int) (w : World) : Calls Try.prog 18 #[.int .i64 op] w fun e w' => e = .returned (.bool (decide (17 ≤ op ∧ op ≤ 24))) ∧ w = w' := by
  have hs : op < 17 ∨ (17 ≤ op ∧ op ≤ 24) ∨ 24 < op := by omega
  rcases hs with h | h | h
  all_goals
    go_enter Try.func18, Try.ntmps18
    go_wp2
    go_ret
    exact ⟨ret_bool (by first | exact (decide_eq_true (by omega)).symm | exact (decide_eq_false (by omega)).symm | (rw [Bool.eq_iff_iff]; simp; omega)), rfl⟩

set_option maxHeartbeats 1000000 in
theorem unary_any (op : Int) (w : World) : Calls Try.prog 16 #[.int .i64 op] w fun e w' => e = .returned (.bool (oneOk op)) ∧ w = w' := by
  have hs : op = 15 ∨ op = 16 ∨ op = 24 ∨ (op ≠ 15 ∧ op ≠ 16 ∧ op ≠ 24) := by omega
  rcases hs with rfl | rfl | rfl | ⟨h1, h2, h3⟩
  all_goals
    go_enter Try.func16, Try.ntmps16
    go_wp2
    go_ret
    exact ⟨ret_bool (by unfold oneOk; first | exact (decide_eq_true (by omega)).symm | exact (decide_eq_false (by omega)).symm | (rw [Bool.eq_iff_iff]; simp; omega)), rfl⟩

set_option maxHeartbeats 1000000 in
theorem extend_any (n k : Int) (w : World) : Calls Try.prog 21 #[.int .i64 n, .int .i64 k] w fun e w' => e = .returned (.int .i64 (extV n k)) ∧ w = w' := by
  have hs : k < 1 ∨ 64 ≤ k ∨ (1 ≤ k ∧ k ≤ 63) := by omega
  rcases hs with h | h | h
  all_goals
    go_enter Try.func21, Try.ntmps21
    go_wp2
    go_ret
    exact ⟨ret_int (by unfold extV; first | rw [if_pos (by omega)] | rw [if_neg (by omega), if_pos (by omega)] | rw [if_neg (by omega), if_neg (by omega)]), rfl⟩
set_option maxHeartbeats 1000000 in
theorem fits_any (n k : Int) (w : World) : Calls Try.prog 22 #[.int .i64 n, .int .i64 k] w fun e w' => e = .returned (.bool (fitB n k)) ∧ w = w' := by
  by_cases h : 1 ≤ k
  all_goals
    go_enter Try.func22, Try.ntmps22
    go_wp2_with (go_at_call 21; refine (extend_any _ _ _).mono ?_; rintro e w' ⟨rfl, rfl⟩)
    go_ret
    exact ⟨ret_bool (by unfold fitB; first | (rw [decide_eq_true (by omega)]; rfl) | (rw [decide_eq_false (by omega)]; rfl)), rfl⟩
end Go.Proofs.Ytldmfjedfaikkaa
