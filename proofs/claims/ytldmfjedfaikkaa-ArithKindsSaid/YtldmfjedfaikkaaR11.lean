/-
  The reference's Do at the comparisons, and at what is no operation.
-/
import Derived.Test.YtldmfjedfaikkaaR10
namespace Go.Proofs.Ytldmfjedfaikkaa
open Go.RowKit

theorem not_lt_b (a b : Int) : (!decide (b < a)) = decide (a ≤ b) := by
  by_cases h : b < a
  · rw [decide_eq_true h, decide_eq_false (by omega)]; rfl
  · rw [decide_eq_false h, decide_eq_true (by omega)]; rfl
theorem ult_of (a b : Int) (h : a % 18446744073709551616 < b % 18446744073709551616) : ult a b = true := decide_eq_true h
theorem ult_not (a b : Int) (h : ¬ a % 18446744073709551616 < b % 18446744073709551616) : ult a b = false := decide_eq_false h

set_option maxRecDepth 100000 in
set_option maxHeartbeats 1000000 in
theorem rdo_17 (a b : Int) (ha : -9223372036854775808 ≤ a ∧ a ≤ 9223372036854775807) (hb : -9223372036854775808 ≤ b ∧ b ≤ 9223372036854775807) (w : World) : Calls Try.prog 11 #[.int .i64 17, .int .i64 a, .int .i64 b] w (Done w (opV 17 a b) (opOk 17 b)) := by
  have hs : (a % 18446744073709551616 < b % 18446744073709551616 ∧ ¬ b % 18446744073709551616 < a % 18446744073709551616 ∧ a ≠ b) ∨ (¬ a % 18446744073709551616 < b % 18446744073709551616 ∧ b % 18446744073709551616 < a % 18446744073709551616 ∧ a ≠ b) ∨ (¬ a % 18446744073709551616 < b % 18446744073709551616 ∧ ¬ b % 18446744073709551616 < a % 18446744073709551616 ∧ a = b) := by omega
  rcases hs with ⟨h1, h2, h3⟩ | ⟨h1, h2, h3⟩ | ⟨h1, h2, h3⟩
  · have q1 := ult_of a b h1
    have q2 := ult_not b a h2
    clear h1 h2
    have H3 := Lib.hid h3
    clear h3
    go_enter Try.func11, Try.ntmps11
    go_wp2_with (first | (go_at_call 37; refine (under_any _ _ _).mono ?_; rintro e w' ⟨rfl, rfl⟩) | (go_at_call 38; refine (below_any _ _ (by omega) (by omega) _).mono ?_; rintro e w' ⟨rfl, rfl⟩) | (go_at_call 36; refine (rone_any _ _).mono ?_; rintro e w' ⟨rfl, rfl⟩))
    go_ret2
    exact done_of (by have := H3.out; simp [opV, bitI, this]) (by simp [opOk, binB]) (Grown.refl w)
  · have q1 := ult_not a b h1
    have q2 := ult_of b a h2
    clear h1 h2
    have H3 := Lib.hid h3
    clear h3
    go_enter Try.func11, Try.ntmps11
    go_wp2_with (first | (go_at_call 37; refine (under_any _ _ _).mono ?_; rintro e w' ⟨rfl, rfl⟩) | (go_at_call 38; refine (below_any _ _ (by omega) (by omega) _).mono ?_; rintro e w' ⟨rfl, rfl⟩) | (go_at_call 36; refine (rone_any _ _).mono ?_; rintro e w' ⟨rfl, rfl⟩))
    go_ret2
    exact done_of (by have := H3.out; simp [opV, bitI, this]) (by simp [opOk, binB]) (Grown.refl w)
  · have q1 := ult_not a b h1
    have q2 := ult_not b a h2
    clear h1 h2
    have H3 := Lib.hid h3
    clear h3
    go_enter Try.func11, Try.ntmps11
    go_wp2_with (first | (go_at_call 37; refine (under_any _ _ _).mono ?_; rintro e w' ⟨rfl, rfl⟩) | (go_at_call 38; refine (below_any _ _ (by omega) (by omega) _).mono ?_; rintro e w' ⟨rfl, rfl⟩) | (go_at_call 36; refine (rone_any _ _).mono ?_; rintro e w' ⟨rfl, rfl⟩))
    go_ret2
    exact done_of (by have := H3.out; simp [opV, bitI, this]) (by simp [opOk, binB]) (Grown.refl w)

set_option maxRecDepth 100000 in
set_option maxHeartbeats 1000000 in
theorem rdo_18 (a b : Int) (ha : -9223372036854775808 ≤ a ∧ a ≤ 9223372036854775807) (hb : -9223372036854775808 ≤ b ∧ b ≤ 9223372036854775807) (w : World) : Calls Try.prog 11 #[.int .i64 18, .int .i64 a, .int .i64 b] w (Done w (opV 18 a b) (opOk 18 b)) := by
  have hs : (a % 18446744073709551616 < b % 18446744073709551616 ∧ ¬ b % 18446744073709551616 < a % 18446744073709551616 ∧ a ≠ b) ∨ (¬ a % 18446744073709551616 < b % 18446744073709551616 ∧ b % 18446744073709551616 < a % 18446744073709551616 ∧ a ≠ b) ∨ (¬ a % 18446744073709551616 < b % 18446744073709551616 ∧ ¬ b % 18446744073709551616 < a % 18446744073709551616 ∧ a = b) := by omega
  rcases hs with ⟨h1, h2, h3⟩ | ⟨h1, h2, h3⟩ | ⟨h1, h2, h3⟩
  · have q1 := ult_of a b h1
    have q2 := ult_not b a h2
    clear h1 h2
    have H3 := Lib.hid h3
    clear h3
    go_enter Try.func11, Try.ntmps11
    go_wp2_with (first | (go_at_call 37; refine (under_any _ _ _).mono ?_; rintro e w' ⟨rfl, rfl⟩) | (go_at_call 38; refine (below_any _ _ (by omega) (by omega) _).mono ?_; rintro e w' ⟨rfl, rfl⟩) | (go_at_call 36; refine (rone_any _ _).mono ?_; rintro e w' ⟨rfl, rfl⟩))
    go_ret2
    exact done_of (by have := H3.out; simp [opV, bitI, this]) (by simp [opOk, binB]) (Grown.refl w)
  · have q1 := ult_not a b h1
    have q2 := ult_of b a h2
    clear h1 h2
    have H3 := Lib.hid h3
    clear h3
    go_enter Try.func11, Try.ntmps11
    go_wp2_with (first | (go_at_call 37; refine (under_any _ _ _).mono ?_; rintro e w' ⟨rfl, rfl⟩) | (go_at_call 38; refine (below_any _ _ (by omega) (by omega) _).mono ?_; rintro e w' ⟨rfl, rfl⟩) | (go_at_call 36; refine (rone_any _ _).mono ?_; rintro e w' ⟨rfl, rfl⟩))
    go_ret2
    exact done_of (by have := H3.out; simp [opV, bitI, this]) (by simp [opOk, binB]) (Grown.refl w)
  · have q1 := ult_not a b h1
    have q2 := ult_not b a h2
    clear h1 h2
    have H3 := Lib.hid h3
    clear h3
    go_enter Try.func11, Try.ntmps11
    go_wp2_with (first | (go_at_call 37; refine (under_any _ _ _).mono ?_; rintro e w' ⟨rfl, rfl⟩) | (go_at_call 38; refine (below_any _ _ (by omega) (by omega) _).mono ?_; rintro e w' ⟨rfl, rfl⟩) | (go_at_call 36; refine (rone_any _ _).mono ?_; rintro e w' ⟨rfl, rfl⟩))
    go_ret2
    exact done_of (by have := H3.out; simp [opV, bitI, this]) (by simp [opOk, binB]) (Grown.refl w)

set_option maxRecDepth 100000 in
set_option maxHeartbeats 1000000 in
theorem rdo_19 (a b : Int) (ha : -9223372036854775808 ≤ a ∧ a ≤ 9223372036854775807) (hb : -9223372036854775808 ≤ b ∧ b ≤ 9223372036854775807) (w : World) : Calls Try.prog 11 #[.int .i64 19, .int .i64 a, .int .i64 b] w (Done w (opV 19 a b) (opOk 19 b)) := by
  go_enter Try.func11, Try.ntmps11
  go_wp2_with (first | (go_at_call 37; refine (under_any _ _ _).mono ?_; rintro e w' ⟨rfl, rfl⟩) | (go_at_call 38; refine (below_any _ _ (by omega) (by omega) _).mono ?_; rintro e w' ⟨rfl, rfl⟩) | (go_at_call 36; refine (rone_any _ _).mono ?_; rintro e w' ⟨rfl, rfl⟩))
  go_ret2
  exact done_of (by simp [opV]) (by simp [opOk, binB]) (Grown.refl w)

set_option maxRecDepth 100000 in
set_option maxHeartbeats 1000000 in
theorem rdo_20 (a b : Int) (ha : -9223372036854775808 ≤ a ∧ a ≤ 9223372036854775807) (hb : -9223372036854775808 ≤ b ∧ b ≤ 9223372036854775807) (w : World) : Calls Try.prog 11 #[.int .i64 20, .int .i64 a, .int .i64 b] w (Done w (opV 20 a b) (opOk 20 b)) := by
  go_enter Try.func11, Try.ntmps11
  go_wp2_with (first | (go_at_call 37; refine (under_any _ _ _).mono ?_; rintro e w' ⟨rfl, rfl⟩) | (go_at_call 38; refine (below_any _ _ (by omega) (by omega) _).mono ?_; rintro e w' ⟨rfl, rfl⟩) | (go_at_call 36; refine (rone_any _ _).mono ?_; rintro e w' ⟨rfl, rfl⟩))
  go_ret2
  exact done_of (by rw [not_lt_b a b]; simp [opV]) (by simp [opOk, binB]) (Grown.refl w)

set_option maxRecDepth 100000 in
set_option maxHeartbeats 1000000 in
theorem rdo_21 (a b : Int) (ha : -9223372036854775808 ≤ a ∧ a ≤ 9223372036854775807) (hb : -9223372036854775808 ≤ b ∧ b ≤ 9223372036854775807) (w : World) : Calls Try.prog 11 #[.int .i64 21, .int .i64 a, .int .i64 b] w (Done w (opV 21 a b) (opOk 21 b)) := by
  go_enter Try.func11, Try.ntmps11
  go_wp2_with (first | (go_at_call 37; refine (under_any _ _ _).mono ?_; rintro e w' ⟨rfl, rfl⟩) | (go_at_call 38; refine (below_any _ _ (by omega) (by omega) _).mono ?_; rintro e w' ⟨rfl, rfl⟩) | (go_at_call 36; refine (rone_any _ _).mono ?_; rintro e w' ⟨rfl, rfl⟩))
  go_ret2
  exact done_of (by simp [opV]) (by simp [opOk, binB]) (Grown.refl w)

set_option maxRecDepth 100000 in
set_option maxHeartbeats 1000000 in
theorem rdo_22 (a b : Int) (ha : -9223372036854775808 ≤ a ∧ a ≤ 9223372036854775807) (hb : -9223372036854775808 ≤ b ∧ b ≤ 9223372036854775807) (w : World) : Calls Try.prog 11 #[.int .i64 22, .int .i64 a, .int .i64 b] w (Done w (opV 22 a b) (opOk 22 b)) := by
  go_enter Try.func11, Try.ntmps11
  go_wp2_with (first | (go_at_call 37; refine (under_any _ _ _).mono ?_; rintro e w' ⟨rfl, rfl⟩) | (go_at_call 38; refine (below_any _ _ (by omega) (by omega) _).mono ?_; rintro e w' ⟨rfl, rfl⟩) | (go_at_call 36; refine (rone_any _ _).mono ?_; rintro e w' ⟨rfl, rfl⟩))
  go_ret2
  exact done_of (by rw [not_lt_b b a]; simp [opV]) (by simp [opOk, binB]) (Grown.refl w)

set_option maxRecDepth 100000 in
set_option maxHeartbeats 1000000 in
theorem rdo_23 (a b : Int) (w : World) : Calls Try.prog 11 #[.int .i64 23, .int .i64 a, .int .i64 b] w (Done w (opV 23 a b) (opOk 23 b)) := by
  go_enter Try.func11, Try.ntmps11
  go_wp2_with (first | (go_at_call 37; refine (under_any _ _ _).mono ?_; rintro e w' ⟨rfl, rfl⟩) | (go_at_call 38; refine (below_any _ _ (by omega) (by omega) _).mono ?_; rintro e w' ⟨rfl, rfl⟩) | (go_at_call 36; refine (rone_any _ _).mono ?_; rintro e w' ⟨rfl, rfl⟩))
  go_ret2
  exact done_of (by simp [opV]; rfl) (by simp [opOk, binB]) (Grown.refl w)

set_option maxRecDepth 100000 in
set_option maxHeartbeats 1000000 in
theorem rdo_no (op a b : Int) (h : ¬ (4 ≤ op ∧ op ≤ 14 ∨ 17 ≤ op ∧ op ≤ 23)) (w : World) : Calls Try.prog 11 #[.int .i64 op, .int .i64 a, .int .i64 b] w (Done w (opV op a b) (opOk op b)) := by
  have hv : opV op a b = 0 := by unfold opV; repeat (rw [if_neg (by omega)])
  have ho : opOk op b = false := by unfold opOk binB; rw [decide_eq_false h]; rfl
  have HV := Lib.hid hv
  have HO := Lib.hid ho
  clear hv ho
  have h0 : op < 4 ∨ 14 < op := by omega
  have h1 : op < 17 ∨ 23 < op := by omega
  clear h
  rcases h0 with h0 | h0
  · clear h1
    go_enter Try.func11, Try.ntmps11
    go_wp2_with (fail)
    go_ret2
    exact done_of HV.out.symm HO.out.symm (Grown.refl w)
  · rcases h1 with h1 | h1
    all_goals
      go_enter Try.func11, Try.ntmps11
      go_wp2_with (fail)
      go_ret2
      exact done_of HV.out.symm HO.out.symm (Grown.refl w)

theorem rdo_any (op a b : Int) (ha : -9223372036854775808 ≤ a ∧ a ≤ 9223372036854775807) (hb : -9223372036854775808 ≤ b ∧ b ≤ 9223372036854775807) (w : World) : Calls Try.prog 11 #[.int .i64 op, .int .i64 a, .int .i64 b] w (Done w (opV op a b) (opOk op b)) := by
  have hs : op = 4 ∨ op = 5 ∨ op = 6 ∨ op = 7 ∨ op = 8 ∨ op = 9 ∨ op = 10 ∨ op = 11 ∨ op = 12 ∨ op = 13 ∨ op = 14 ∨ op = 17 ∨ op = 18 ∨ op = 19 ∨ op = 20 ∨ op = 21 ∨ op = 22 ∨ op = 23 ∨ ¬ (4 ≤ op ∧ op ≤ 14 ∨ 17 ≤ op ∧ op ≤ 23) := by omega
  rcases hs with rfl | rfl | rfl | rfl | rfl | rfl | rfl | rfl | rfl | rfl | rfl | rfl | rfl | rfl | rfl | rfl | rfl | rfl | h
  · exact rdo_4 a b w
  · exact rdo_5 a b w
  · exact rdo_6 a b w
  · exact rdo_7 a b ha hb w
  · exact rdo_8 a b ha hb w
  · exact rdo_9 a b w
  · exact rdo_10 a b w
  · exact rdo_11 a b w
  · exact rdo_12 a b w
  · exact rdo_13 a b ha w
  · exact rdo_14 a b w
  · exact rdo_17 a b ha hb w
  · exact rdo_18 a b ha hb w
  · exact rdo_19 a b ha hb w
  · exact rdo_20 a b ha hb w
  · exact rdo_21 a b ha hb w
  · exact rdo_22 a b ha hb w
  · exact rdo_23 a b w
  · exact rdo_no op a b h w
end Go.Proofs.Ytldmfjedfaikkaa
