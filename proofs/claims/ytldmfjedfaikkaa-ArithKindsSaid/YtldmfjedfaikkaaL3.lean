/-
  The law ArithKinds, walked.
-/
import Derived.Test.YtldmfjedfaikkaaL1
namespace Go.Proofs.Ytldmfjedfaikkaa
open Go.RowKit

theorem opOk_1 (op : Int) : opOk op 1 = binB op := by
  unfold opOk; rw [decide_eq_false (by omega)]; simp

set_option maxRecDepth 100000 in
set_option maxHeartbeats 1000000 in
theorem kinds_17 (w : World) : Calls Try.prog 5 #[.int .i64 17] w fun e w' => e = .returned (.bool true) ∧ Grown w w' := by
  have o1 : opOk 17 1 = true := by decide +kernel
  have o2 : opOk 17 (-3) = true := by decide +kernel
  have b1 : binB 17 = true := by decide +kernel
  have v1 : opV 17 5 (-3) = 0 := by decide +kernel
  go_enter Try.func5, Try.ntmps5
  go_wp2_with (fail)
  refine (rdo_any _ _ _ (by omega) (by omega) _).mono ?_
  rintro e w1 ⟨rfl, h1⟩
  have H1 := Lib.hid h1
  clear h1
  go_wp2_with (first | (go_at_call 10; refine (do_any _ _ _ _).mono ?_; rintro e w' ⟨rfl, rfl⟩) | (go_at_call 13; refine (awake_any _).mono ?_; rintro e w' ⟨rfl, rfl⟩) | (go_at_call 17; refine (binary_any _ _).mono ?_; rintro e w' ⟨rfl, rfl⟩) | (go_at_call 18; refine (compares_any _ _).mono ?_; rintro e w' ⟨rfl, rfl⟩))
  go_ret
  exact ⟨rfl, H1.out⟩

set_option maxRecDepth 100000 in
set_option maxHeartbeats 1000000 in
theorem kinds_18 (w : World) : Calls Try.prog 5 #[.int .i64 18] w fun e w' => e = .returned (.bool true) ∧ Grown w w' := by
  have o1 : opOk 18 1 = true := by decide +kernel
  have o2 : opOk 18 (-3) = true := by decide +kernel
  have b1 : binB 18 = true := by decide +kernel
  have v1 : opV 18 5 (-3) = 1 := by decide +kernel
  go_enter Try.func5, Try.ntmps5
  go_wp2_with (fail)
  refine (rdo_any _ _ _ (by omega) (by omega) _).mono ?_
  rintro e w1 ⟨rfl, h1⟩
  have H1 := Lib.hid h1
  clear h1
  go_wp2_with (first | (go_at_call 10; refine (do_any _ _ _ _).mono ?_; rintro e w' ⟨rfl, rfl⟩) | (go_at_call 13; refine (awake_any _).mono ?_; rintro e w' ⟨rfl, rfl⟩) | (go_at_call 17; refine (binary_any _ _).mono ?_; rintro e w' ⟨rfl, rfl⟩) | (go_at_call 18; refine (compares_any _ _).mono ?_; rintro e w' ⟨rfl, rfl⟩))
  go_ret
  exact ⟨rfl, H1.out⟩

set_option maxRecDepth 100000 in
set_option maxHeartbeats 1000000 in
theorem kinds_19 (w : World) : Calls Try.prog 5 #[.int .i64 19] w fun e w' => e = .returned (.bool true) ∧ Grown w w' := by
  have o1 : opOk 19 1 = true := by decide +kernel
  have o2 : opOk 19 (-3) = true := by decide +kernel
  have b1 : binB 19 = true := by decide +kernel
  have v1 : opV 19 5 (-3) = 0 := by decide +kernel
  go_enter Try.func5, Try.ntmps5
  go_wp2_with (fail)
  refine (rdo_any _ _ _ (by omega) (by omega) _).mono ?_
  rintro e w1 ⟨rfl, h1⟩
  have H1 := Lib.hid h1
  clear h1
  go_wp2_with (first | (go_at_call 10; refine (do_any _ _ _ _).mono ?_; rintro e w' ⟨rfl, rfl⟩) | (go_at_call 13; refine (awake_any _).mono ?_; rintro e w' ⟨rfl, rfl⟩) | (go_at_call 17; refine (binary_any _ _).mono ?_; rintro e w' ⟨rfl, rfl⟩) | (go_at_call 18; refine (compares_any _ _).mono ?_; rintro e w' ⟨rfl, rfl⟩))
  go_ret
  exact ⟨rfl, H1.out⟩

set_option maxRecDepth 100000 in
set_option maxHeartbeats 1000000 in
theorem kinds_20 (w : World) : Calls Try.prog 5 #[.int .i64 20] w fun e w' => e = .returned (.bool true) ∧ Grown w w' := by
  have o1 : opOk 20 1 = true := by decide +kernel
  have o2 : opOk 20 (-3) = true := by decide +kernel
  have b1 : binB 20 = true := by decide +kernel
  have v1 : opV 20 5 (-3) = 0 := by decide +kernel
  go_enter Try.func5, Try.ntmps5
  go_wp2_with (fail)
  refine (rdo_any _ _ _ (by omega) (by omega) _).mono ?_
  rintro e w1 ⟨rfl, h1⟩
  have H1 := Lib.hid h1
  clear h1
  go_wp2_with (first | (go_at_call 10; refine (do_any _ _ _ _).mono ?_; rintro e w' ⟨rfl, rfl⟩) | (go_at_call 13; refine (awake_any _).mono ?_; rintro e w' ⟨rfl, rfl⟩) | (go_at_call 17; refine (binary_any _ _).mono ?_; rintro e w' ⟨rfl, rfl⟩) | (go_at_call 18; refine (compares_any _ _).mono ?_; rintro e w' ⟨rfl, rfl⟩))
  go_ret
  exact ⟨rfl, H1.out⟩

set_option maxRecDepth 100000 in
set_option maxHeartbeats 1000000 in
theorem kinds_21 (w : World) : Calls Try.prog 5 #[.int .i64 21] w fun e w' => e = .returned (.bool true) ∧ Grown w w' := by
  have o1 : opOk 21 1 = true := by decide +kernel
  have o2 : opOk 21 (-3) = true := by decide +kernel
  have b1 : binB 21 = true := by decide +kernel
  have v1 : opV 21 5 (-3) = 1 := by decide +kernel
  go_enter Try.func5, Try.ntmps5
  go_wp2_with (fail)
  refine (rdo_any _ _ _ (by omega) (by omega) _).mono ?_
  rintro e w1 ⟨rfl, h1⟩
  have H1 := Lib.hid h1
  clear h1
  go_wp2_with (first | (go_at_call 10; refine (do_any _ _ _ _).mono ?_; rintro e w' ⟨rfl, rfl⟩) | (go_at_call 13; refine (awake_any _).mono ?_; rintro e w' ⟨rfl, rfl⟩) | (go_at_call 17; refine (binary_any _ _).mono ?_; rintro e w' ⟨rfl, rfl⟩) | (go_at_call 18; refine (compares_any _ _).mono ?_; rintro e w' ⟨rfl, rfl⟩))
  go_ret
  exact ⟨rfl, H1.out⟩

set_option maxRecDepth 100000 in
set_option maxHeartbeats 1000000 in
theorem kinds_22 (w : World) : Calls Try.prog 5 #[.int .i64 22] w fun e w' => e = .returned (.bool true) ∧ Grown w w' := by
  have o1 : opOk 22 1 = true := by decide +kernel
  have o2 : opOk 22 (-3) = true := by decide +kernel
  have b1 : binB 22 = true := by decide +kernel
  have v1 : opV 22 5 (-3) = 1 := by decide +kernel
  go_enter Try.func5, Try.ntmps5
  go_wp2_with (fail)
  refine (rdo_any _ _ _ (by omega) (by omega) _).mono ?_
  rintro e w1 ⟨rfl, h1⟩
  have H1 := Lib.hid h1
  clear h1
  go_wp2_with (first | (go_at_call 10; refine (do_any _ _ _ _).mono ?_; rintro e w' ⟨rfl, rfl⟩) | (go_at_call 13; refine (awake_any _).mono ?_; rintro e w' ⟨rfl, rfl⟩) | (go_at_call 17; refine (binary_any _ _).mono ?_; rintro e w' ⟨rfl, rfl⟩) | (go_at_call 18; refine (compares_any _ _).mono ?_; rintro e w' ⟨rfl, rfl⟩))
  go_ret
  exact ⟨rfl, H1.out⟩

set_option maxRecDepth 100000 in
set_option maxHeartbeats 1000000 in
theorem kinds_23 (w : World) : Calls Try.prog 5 #[.int .i64 23] w fun e w' => e = .returned (.bool true) ∧ Grown w w' := by
  have o1 : opOk 23 1 = true := by decide +kernel
  have o2 : opOk 23 (-3) = true := by decide +kernel
  have b1 : binB 23 = true := by decide +kernel
  have v1 : opV 23 5 (-3) = 1 := by decide +kernel
  go_enter Try.func5, Try.ntmps5
  go_wp2_with (fail)
  refine (rdo_any _ _ _ (by omega) (by omega) _).mono ?_
  rintro e w1 ⟨rfl, h1⟩
  have H1 := Lib.hid h1
  clear h1
  go_wp2_with (first | (go_at_call 10; refine (do_any _ _ _ _).mono ?_; rintro e w' ⟨rfl, rfl⟩) | (go_at_call 13; refine (awake_any _).mono ?_; rintro e w' ⟨rfl, rfl⟩) | (go_at_call 17; refine (binary_any _ _).mono ?_; rintro e w' ⟨rfl, rfl⟩) | (go_at_call 18; refine (compares_any _ _).mono ?_; rintro e w' ⟨rfl, rfl⟩))
  go_ret
  exact ⟨rfl, H1.out⟩

set_option maxRecDepth 100000 in
set_option maxHeartbeats 1000000 in
theorem kinds_24 (w : World) : Calls Try.prog 5 #[.int .i64 24] w fun e w' => e = .returned (.bool true) ∧ Grown w w' := by
  have o1 : opOk 24 1 = false := by decide +kernel
  have o2 : opOk 24 (-3) = false := by decide +kernel
  have b1 : binB 24 = false := by decide +kernel
  have v1 : opV 24 5 (-3) = 0 := by decide +kernel
  go_enter Try.func5, Try.ntmps5
  go_wp2_with (fail)
  refine (rdo_any _ _ _ (by omega) (by omega) _).mono ?_
  rintro e w1 ⟨rfl, h1⟩
  have H1 := Lib.hid h1
  clear h1
  go_wp2_with (first | (go_at_call 10; refine (do_any _ _ _ _).mono ?_; rintro e w' ⟨rfl, rfl⟩) | (go_at_call 13; refine (awake_any _).mono ?_; rintro e w' ⟨rfl, rfl⟩) | (go_at_call 17; refine (binary_any _ _).mono ?_; rintro e w' ⟨rfl, rfl⟩) | (go_at_call 18; refine (compares_any _ _).mono ?_; rintro e w' ⟨rfl, rfl⟩))
  go_ret
  exact ⟨rfl, H1.out⟩

set_option maxRecDepth 100000 in
set_option maxHeartbeats 1000000 in
theorem kinds_no (op : Int) (h : op < 17 ∨ 24 < op) (w : World) : Calls Try.prog 5 #[.int .i64 op] w fun e w' => e = .returned (.bool true) ∧ Grown w w' := by
  have o1 := opOk_1 op
  have c1 : decide (17 ≤ op ∧ op ≤ 24) = false := decide_eq_false (by omega)
  rcases h with h | h
  all_goals
    go_enter Try.func5, Try.ntmps5
    go_wp2_with (fail)
    refine (rdo_any _ _ _ (by omega) (by omega) _).mono ?_
    rintro e w1 ⟨rfl, h1⟩
    have H1 := Lib.hid h1
    clear h1
    go_wp2_with (first | (go_at_call 10; refine (do_any _ _ _ _).mono ?_; rintro e w' ⟨rfl, rfl⟩) | (go_at_call 13; refine (awake_any _).mono ?_; rintro e w' ⟨rfl, rfl⟩) | (go_at_call 17; refine (binary_any _ _).mono ?_; rintro e w' ⟨rfl, rfl⟩) | (go_at_call 18; refine (compares_any _ _).mono ?_; rintro e w' ⟨rfl, rfl⟩))
    go_ret
    exact ⟨rfl, H1.out⟩

theorem kinds_law (op : Int) (w : World) : Calls Try.prog 5 #[.int .i64 op] w fun e w' => e = .returned (.bool true) ∧ Grown w w' := by
  have hs : op = 17 ∨ op = 18 ∨ op = 19 ∨ op = 20 ∨ op = 21 ∨ op = 22 ∨ op = 23 ∨ op = 24 ∨ (op < 17 ∨ 24 < op) := by omega
  rcases hs with rfl | rfl | rfl | rfl | rfl | rfl | rfl | rfl | h
  · exact kinds_17 w
  · exact kinds_18 w
  · exact kinds_19 w
  · exact kinds_20 w
  · exact kinds_21 w
  · exact kinds_22 w
  · exact kinds_23 w
  · exact kinds_24 w
  · exact kinds_no op h w
end Go.Proofs.Ytldmfjedfaikkaa
