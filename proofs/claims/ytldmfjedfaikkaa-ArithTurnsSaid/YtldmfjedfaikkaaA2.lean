/-
  What arith's Do, One, Binary, Unary, Compares answer, and awake.
-/
import Derived.Test.YtldmfjedfaikkaaA1
namespace Go.Proofs.Ytldmfjedfaikkaa
open Go.RowKit

set_option maxHeartbeats 1000000 in
theorem do_any (op a b : Int) (w : World) : Calls Try.prog 10 #[.int .i64 op, .int .i64 a, .int .i64 b] w fun e w' => e = .returned (.tuple #[.int .i64 (opV op a b), .bool (opOk op b)]) ∧ w = w' := by
  have hs : op = 4 ∨ op = 5 ∨ op = 6 ∨ op = 7 ∨ op = 8 ∨ op = 9 ∨ op = 10 ∨ op = 11 ∨ op = 12 ∨ op = 13 ∨ op = 14 ∨ (op < 4 ∨ 14 < op) := by omega
  have hp : 0 ≤ b % 64 ∧ b % 64 ≤ 63 := by omega
  rcases hs with rfl | rfl | rfl | rfl | rfl | rfl | rfl | rfl | rfl | rfl | rfl | hd
  case inr.inr.inr.inr.inr.inr.inr.inr.inr.inr.inr =>
    go_enter Try.func10, Try.ntmps10
    go_wp2_with (go_at_call 30; refine (compare_any _ _ _ (by omega) _).mono ?_; rintro e w' ⟨rfl, rfl⟩)
    all_goals
      go_ret2
      exact ⟨rfl, rfl⟩
  all_goals
    go_enter Try.func10, Try.ntmps10
    go_wp2_with (first | (go_at_call 29; refine (places_any _ _).mono ?_; rintro e w' ⟨rfl, rfl⟩) | (go_at_call 28; refine (divide_any _ _ _ (by omega) _).mono ?_; rintro e w' ⟨rfl, rfl⟩))
    go_ret2
    exact ⟨ret_two (by simp [opV, u64wrap]) (by simp [opOk, binB]), rfl⟩

theorem neg_i64 (a : Int) : wrap64 (0 - a) = wrap64 (-a) := by rw [Int.zero_sub]
set_option maxHeartbeats 1000000 in
theorem aone_any (op a : Int) (w : World) : Calls Try.prog 14 #[.int .i64 op, .int .i64 a] w fun e w' => e = .returned (.tuple #[.int .i64 (oneV op a), .bool (oneOk op)]) ∧ w = w' := by
  have hs : op = 15 ∨ op = 16 ∨ op = 24 ∨ (op ≠ 15 ∧ op ≠ 16 ∧ op ≠ 24) := by omega
  rcases hs with rfl | rfl | rfl | ⟨h1, h2, h3⟩
  case inr.inr.inr =>
    go_enter Try.func14, Try.ntmps14
    go_wp2
    go_ret2
    exact ⟨ret_two (by simp [oneV, h1, h2, h3]) (by simp [oneOk, h1, h2, h3]), rfl⟩
  all_goals
    go_enter Try.func14, Try.ntmps14
    go_wp2_with (go_at_call 39; refine (abit_any _ _).mono ?_; rintro e w' ⟨rfl, rfl⟩)
    go_ret2
    exact ⟨ret_two (by simp [oneV, xor_all]) (by simp [oneOk]), rfl⟩
end Go.Proofs.Ytldmfjedfaikkaa
