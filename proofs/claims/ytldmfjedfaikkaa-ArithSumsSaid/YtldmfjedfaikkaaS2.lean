/-
  The law ArithSums, walked.
-/
import Derived.Test.YtldmfjedfaikkaaS1
namespace Go.Proofs.Ytldmfjedfaikkaa
open Go.RowKit
set_option linter.unusedVariables false

set_option maxRecDepth 100000 in
set_option maxHeartbeats 1000000 in
theorem sums_5_1F (a b : Int) (h1 : a < 0) (h2 : b < 0) (h3 : wrap64 (a + b) < 0) (hs : sumOk a b = true) (an : (a == -1) = true) (bm : (b == -9223372036854775808) = false) (bn : (b == -1) = false) (am : (a == -9223372036854775808) = false) (qa : (wrap64 ((wrap64 (a * b)).tdiv b) == a) = true) (rz : ((wrap64 (a * b)).tmod b == 0) = true) (pk : prodOk a b = true) (ha : -9223372036854775808 ≤ a ∧ a ≤ 9223372036854775807) (hb : -9223372036854775808 ≤ b ∧ b ≤ 9223372036854775807) (w : World) : Calls Try.prog 8 #[.int .i64 a, .int .i64 b] w fun e w' => e = .returned (.bool true) ∧ Grown w w' := by
  have HV : prodV a b = wrap64 (a * b) := by unfold prodV; rw [if_neg (by omega)]
  have HA := Lib.hid ha
  have hd : decide (0 ≤ wrap64 (a + b)) = false := decide_eq_false (by omega)
  have HB := Lib.hid hb
  have HP := Lib.hid (wrap_bd (a * b))
  have e1 : (a == 0) = false := by simp; omega
  have e2 : (b == 0) = false := by simp; omega
  clear ha hb
  go_enter Try.func8, Try.ntmps8
  go_wp2_with (first | (go_at_call 23; refine (sum_any _ _ _).mono ?_; rintro e w' ⟨rfl, rfl⟩) | (go_at_call 24; refine (product_any _ _ _).mono ?_; rintro e w' ⟨rfl, n, rfl⟩))
  refine (rDiv_any _ _ HP.out HB.out (by omega) _).mono ?_
  rintro e w1 ⟨rfl, k1⟩
  have K1 := Lib.hid k1
  clear k1
  go_wp2_with (go_at_call 13; refine (awake_any _).mono ?_; rintro e w' ⟨rfl, rfl⟩)
  refine (add_any _ _ _).mono ?_
  rintro e w2 ⟨rfl, k2⟩
  have K2 := Lib.hid k2
  clear k2
  go_wp2_with (fail)
  go_ret
  exact ⟨rfl, grown_trans (Grown.refl w : Grown w (w.drewN n)) (grown_trans K1.out K2.out)⟩

set_option maxRecDepth 100000 in
set_option maxHeartbeats 1000000 in
theorem sums_6_1F (a b : Int) (h1 : a < 0) (h2 : 0 < b) (hs : sumOk a b = true) (an : (a == -1) = true) (bm : (b == -9223372036854775808) = false) (bn : (b == -1) = false) (am : (a == -9223372036854775808) = false) (qa : (wrap64 ((wrap64 (a * b)).tdiv b) == a) = true) (rz : ((wrap64 (a * b)).tmod b == 0) = true) (pk : prodOk a b = true) (ha : -9223372036854775808 ≤ a ∧ a ≤ 9223372036854775807) (hb : -9223372036854775808 ≤ b ∧ b ≤ 9223372036854775807) (w : World) : Calls Try.prog 8 #[.int .i64 a, .int .i64 b] w fun e w' => e = .returned (.bool true) ∧ Grown w w' := by
  have HV : prodV a b = wrap64 (a * b) := by unfold prodV; rw [if_neg (by omega)]
  have HA := Lib.hid ha
  have hd : True := trivial
  have HB := Lib.hid hb
  have HP := Lib.hid (wrap_bd (a * b))
  have e1 : (a == 0) = false := by simp; omega
  have e2 : (b == 0) = false := by simp; omega
  clear ha hb
  go_enter Try.func8, Try.ntmps8
  go_wp2_with (first | (go_at_call 23; refine (sum_any _ _ _).mono ?_; rintro e w' ⟨rfl, rfl⟩) | (go_at_call 24; refine (product_any _ _ _).mono ?_; rintro e w' ⟨rfl, n, rfl⟩))
  refine (rDiv_any _ _ HP.out HB.out (by omega) _).mono ?_
  rintro e w1 ⟨rfl, k1⟩
  have K1 := Lib.hid k1
  clear k1
  go_wp2_with (go_at_call 13; refine (awake_any _).mono ?_; rintro e w' ⟨rfl, rfl⟩)
  refine (add_any _ _ _).mono ?_
  rintro e w2 ⟨rfl, k2⟩
  have K2 := Lib.hid k2
  clear k2
  go_wp2_with (fail)
  go_ret
  exact ⟨rfl, grown_trans (Grown.refl w : Grown w (w.drewN n)) (grown_trans K1.out K2.out)⟩

set_option maxRecDepth 100000 in
set_option maxHeartbeats 1000000 in
theorem sums_5_1T (a b : Int) (h1 : a < 0) (h2 : b < 0) (h3 : wrap64 (a + b) < 0) (hs : sumOk a b = true) (an : (a == -1) = true) (bm : (b == -9223372036854775808) = false) (bn : (b == -1) = true) (am : (a == -9223372036854775808) = false) (qa : (wrap64 ((wrap64 (a * b)).tdiv b) == a) = true) (rz : ((wrap64 (a * b)).tmod b == 0) = true) (pk : prodOk a b = true) (ha : -9223372036854775808 ≤ a ∧ a ≤ 9223372036854775807) (hb : -9223372036854775808 ≤ b ∧ b ≤ 9223372036854775807) (w : World) : Calls Try.prog 8 #[.int .i64 a, .int .i64 b] w fun e w' => e = .returned (.bool true) ∧ Grown w w' := by
  have HV : prodV a b = wrap64 (a * b) := by unfold prodV; rw [if_neg (by omega)]
  have HA := Lib.hid ha
  have hd : decide (0 ≤ wrap64 (a + b)) = false := decide_eq_false (by omega)
  have HB := Lib.hid hb
  have HP := Lib.hid (wrap_bd (a * b))
  have e1 : (a == 0) = false := by simp; omega
  have e2 : (b == 0) = false := by simp; omega
  clear ha hb
  go_enter Try.func8, Try.ntmps8
  go_wp2_with (first | (go_at_call 23; refine (sum_any _ _ _).mono ?_; rintro e w' ⟨rfl, rfl⟩) | (go_at_call 24; refine (product_any _ _ _).mono ?_; rintro e w' ⟨rfl, n, rfl⟩))
  refine (rDiv_any _ _ HP.out HB.out (by omega) _).mono ?_
  rintro e w1 ⟨rfl, k1⟩
  have K1 := Lib.hid k1
  clear k1
  go_wp2_with (go_at_call 13; refine (awake_any _).mono ?_; rintro e w' ⟨rfl, rfl⟩)
  refine (add_any _ _ _).mono ?_
  rintro e w2 ⟨rfl, k2⟩
  have K2 := Lib.hid k2
  clear k2
  go_wp2_with (fail)
  go_ret
  exact ⟨rfl, grown_trans (Grown.refl w : Grown w (w.drewN n)) (grown_trans K1.out K2.out)⟩

set_option maxRecDepth 100000 in
set_option maxHeartbeats 1000000 in
theorem sums_4_2 (a b : Int) (h1 : a < 0) (h2 : b < 0) (h3 : 0 ≤ wrap64 (a + b)) (hs : sumOk a b = false) (an : (a == -1) = true) (bm : (b == -9223372036854775808) = true) (qa : (wrap64 ((wrap64 (a * b)).tdiv b) == a) = false) (pk : prodOk a b = false) (ha : -9223372036854775808 ≤ a ∧ a ≤ 9223372036854775807) (hb : -9223372036854775808 ≤ b ∧ b ≤ 9223372036854775807) (w : World) : Calls Try.prog 8 #[.int .i64 a, .int .i64 b] w fun e w' => e = .returned (.bool true) ∧ Grown w w' := by
  have HV : prodV a b = wrap64 (a * b) := by unfold prodV; rw [if_neg (by omega)]
  have HA := Lib.hid ha
  have hd : True := trivial
  have HB := Lib.hid hb
  have HP := Lib.hid (wrap_bd (a * b))
  have e1 : (a == 0) = false := by simp; omega
  have e2 : (b == 0) = false := by simp; omega
  clear ha hb
  go_enter Try.func8, Try.ntmps8
  go_wp2_with (first | (go_at_call 23; refine (sum_any _ _ _).mono ?_; rintro e w' ⟨rfl, rfl⟩) | (go_at_call 24; refine (product_any _ _ _).mono ?_; rintro e w' ⟨rfl, n, rfl⟩))
  refine (rDiv_any _ _ HP.out HB.out (by omega) _).mono ?_
  rintro e w1 ⟨rfl, k1⟩
  have K1 := Lib.hid k1
  clear k1
  go_wp2_with (go_at_call 13; refine (awake_any _).mono ?_; rintro e w' ⟨rfl, rfl⟩)
  refine (add_any _ _ _).mono ?_
  rintro e w2 ⟨rfl, k2⟩
  have K2 := Lib.hid k2
  clear k2
  go_wp2_with (fail)
  go_ret
  exact ⟨rfl, grown_trans (Grown.refl w : Grown w (w.drewN n)) (grown_trans K1.out K2.out)⟩

set_option maxRecDepth 100000 in
set_option maxHeartbeats 1000000 in
theorem sums_3_3 (a b : Int) (h1 : 0 < a) (h2 : b < 0) (hs : sumOk a b = true) (an : (a == -1) = false) (bm : (b == -9223372036854775808) = false) (bn : (b == -1) = true) (am : (a == -9223372036854775808) = false) (qa : (wrap64 ((wrap64 (a * b)).tdiv b) == a) = true) (rz : ((wrap64 (a * b)).tmod b == 0) = true) (pk : prodOk a b = true) (ha : -9223372036854775808 ≤ a ∧ a ≤ 9223372036854775807) (hb : -9223372036854775808 ≤ b ∧ b ≤ 9223372036854775807) (w : World) : Calls Try.prog 8 #[.int .i64 a, .int .i64 b] w fun e w' => e = .returned (.bool true) ∧ Grown w w' := by
  have HV : prodV a b = wrap64 (a * b) := by unfold prodV; rw [if_neg (by omega)]
  have HA := Lib.hid ha
  have hd : True := trivial
  have HB := Lib.hid hb
  have HP := Lib.hid (wrap_bd (a * b))
  have e1 : (a == 0) = false := by simp; omega
  have e2 : (b == 0) = false := by simp; omega
  clear ha hb
  go_enter Try.func8, Try.ntmps8
  go_wp2_with (first | (go_at_call 23; refine (sum_any _ _ _).mono ?_; rintro e w' ⟨rfl, rfl⟩) | (go_at_call 24; refine (product_any _ _ _).mono ?_; rintro e w' ⟨rfl, n, rfl⟩))
  refine (rDiv_any _ _ HP.out HB.out (by omega) _).mono ?_
  rintro e w1 ⟨rfl, k1⟩
  have K1 := Lib.hid k1
  clear k1
  go_wp2_with (go_at_call 13; refine (awake_any _).mono ?_; rintro e w' ⟨rfl, rfl⟩)
  refine (add_any _ _ _).mono ?_
  rintro e w2 ⟨rfl, k2⟩
  have K2 := Lib.hid k2
  clear k2
  go_wp2_with (fail)
  go_ret
  exact ⟨rfl, grown_trans (Grown.refl w : Grown w (w.drewN n)) (grown_trans K1.out K2.out)⟩

set_option maxRecDepth 100000 in
set_option maxHeartbeats 1000000 in
theorem sums_5_3 (a b : Int) (h1 : a < 0) (h2 : b < 0) (h3 : wrap64 (a + b) < 0) (hs : sumOk a b = true) (an : (a == -1) = false) (bm : (b == -9223372036854775808) = false) (bn : (b == -1) = true) (am : (a == -9223372036854775808) = false) (qa : (wrap64 ((wrap64 (a * b)).tdiv b) == a) = true) (rz : ((wrap64 (a * b)).tmod b == 0) = true) (pk : prodOk a b = true) (ha : -9223372036854775808 ≤ a ∧ a ≤ 9223372036854775807) (hb : -9223372036854775808 ≤ b ∧ b ≤ 9223372036854775807) (w : World) : Calls Try.prog 8 #[.int .i64 a, .int .i64 b] w fun e w' => e = .returned (.bool true) ∧ Grown w w' := by
  have HV : prodV a b = wrap64 (a * b) := by unfold prodV; rw [if_neg (by omega)]
  have HA := Lib.hid ha
  have hd : decide (0 ≤ wrap64 (a + b)) = false := decide_eq_false (by omega)
  have HB := Lib.hid hb
  have HP := Lib.hid (wrap_bd (a * b))
  have e1 : (a == 0) = false := by simp; omega
  have e2 : (b == 0) = false := by simp; omega
  clear ha hb
  go_enter Try.func8, Try.ntmps8
  go_wp2_with (first | (go_at_call 23; refine (sum_any _ _ _).mono ?_; rintro e w' ⟨rfl, rfl⟩) | (go_at_call 24; refine (product_any _ _ _).mono ?_; rintro e w' ⟨rfl, n, rfl⟩))
  refine (rDiv_any _ _ HP.out HB.out (by omega) _).mono ?_
  rintro e w1 ⟨rfl, k1⟩
  have K1 := Lib.hid k1
  clear k1
  go_wp2_with (go_at_call 13; refine (awake_any _).mono ?_; rintro e w' ⟨rfl, rfl⟩)
  refine (add_any _ _ _).mono ?_
  rintro e w2 ⟨rfl, k2⟩
  have K2 := Lib.hid k2
  clear k2
  go_wp2_with (fail)
  go_ret
  exact ⟨rfl, grown_trans (Grown.refl w : Grown w (w.drewN n)) (grown_trans K1.out K2.out)⟩

set_option maxRecDepth 100000 in
set_option maxHeartbeats 1000000 in
theorem sums_4_4 (a b : Int) (h1 : a < 0) (h2 : b < 0) (h3 : 0 ≤ wrap64 (a + b)) (hs : sumOk a b = false) (an : (a == -1) = false) (bm : (b == -9223372036854775808) = false) (bn : (b == -1) = true) (am : (a == -9223372036854775808) = true) (qa : (wrap64 ((wrap64 (a * b)).tdiv b) == a) = true) (rz : ((wrap64 (a * b)).tmod b == 0) = true) (pk : prodOk a b = false) (ha : -9223372036854775808 ≤ a ∧ a ≤ 9223372036854775807) (hb : -9223372036854775808 ≤ b ∧ b ≤ 9223372036854775807) (w : World) : Calls Try.prog 8 #[.int .i64 a, .int .i64 b] w fun e w' => e = .returned (.bool true) ∧ Grown w w' := by
  have HV : prodV a b = wrap64 (a * b) := by unfold prodV; rw [if_neg (by omega)]
  have HA := Lib.hid ha
  have hd : True := trivial
  have HB := Lib.hid hb
  have HP := Lib.hid (wrap_bd (a * b))
  have e1 : (a == 0) = false := by simp; omega
  have e2 : (b == 0) = false := by simp; omega
  clear ha hb
  go_enter Try.func8, Try.ntmps8
  go_wp2_with (first | (go_at_call 23; refine (sum_any _ _ _).mono ?_; rintro e w' ⟨rfl, rfl⟩) | (go_at_call 24; refine (product_any _ _ _).mono ?_; rintro e w' ⟨rfl, n, rfl⟩))
  refine (rDiv_any _ _ HP.out HB.out (by omega) _).mono ?_
  rintro e w1 ⟨rfl, k1⟩
  have K1 := Lib.hid k1
  clear k1
  go_wp2_with (go_at_call 13; refine (awake_any _).mono ?_; rintro e w' ⟨rfl, rfl⟩)
  refine (add_any _ _ _).mono ?_
  rintro e w2 ⟨rfl, k2⟩
  have K2 := Lib.hid k2
  clear k2
  go_wp2_with (fail)
  go_ret
  exact ⟨rfl, grown_trans (Grown.refl w : Grown w (w.drewN n)) (grown_trans K1.out K2.out)⟩

set_option maxRecDepth 100000 in
set_option maxHeartbeats 1000000 in
theorem sums_1_5 (a b : Int) (h1 : 0 < a) (h2 : 0 < b) (h3 : 0 < wrap64 (a + b)) (hs : sumOk a b = true) (an : (a == -1) = false) (bn : (b == -1) = false) (qa : (wrap64 ((wrap64 (a * b)).tdiv b) == a) = true) (rz : ((wrap64 (a * b)).tmod b == 0) = true) (pk : prodOk a b = true) (ha : -9223372036854775808 ≤ a ∧ a ≤ 9223372036854775807) (hb : -9223372036854775808 ≤ b ∧ b ≤ 9223372036854775807) (w : World) : Calls Try.prog 8 #[.int .i64 a, .int .i64 b] w fun e w' => e = .returned (.bool true) ∧ Grown w w' := by
  have HV : prodV a b = wrap64 (a * b) := by unfold prodV; rw [if_neg (by omega)]
  have HA := Lib.hid ha
  have hd : decide (wrap64 (a + b) ≤ 0) = false := decide_eq_false (by omega)
  have HB := Lib.hid hb
  have HP := Lib.hid (wrap_bd (a * b))
  have e1 : (a == 0) = false := by simp; omega
  have e2 : (b == 0) = false := by simp; omega
  clear ha hb
  go_enter Try.func8, Try.ntmps8
  go_wp2_with (first | (go_at_call 23; refine (sum_any _ _ _).mono ?_; rintro e w' ⟨rfl, rfl⟩) | (go_at_call 24; refine (product_any _ _ _).mono ?_; rintro e w' ⟨rfl, n, rfl⟩))
  refine (rDiv_any _ _ HP.out HB.out (by omega) _).mono ?_
  rintro e w1 ⟨rfl, k1⟩
  have K1 := Lib.hid k1
  clear k1
  go_wp2_with (go_at_call 13; refine (awake_any _).mono ?_; rintro e w' ⟨rfl, rfl⟩)
  refine (add_any _ _ _).mono ?_
  rintro e w2 ⟨rfl, k2⟩
  have K2 := Lib.hid k2
  clear k2
  go_wp2_with (fail)
  go_ret
  exact ⟨rfl, grown_trans (Grown.refl w : Grown w (w.drewN n)) (grown_trans K1.out K2.out)⟩

set_option maxRecDepth 100000 in
set_option maxHeartbeats 1000000 in
theorem sums_2_5 (a b : Int) (h1 : 0 < a) (h2 : 0 < b) (h3 : wrap64 (a + b) ≤ 0) (hs : sumOk a b = false) (an : (a == -1) = false) (bn : (b == -1) = false) (qa : (wrap64 ((wrap64 (a * b)).tdiv b) == a) = true) (rz : ((wrap64 (a * b)).tmod b == 0) = true) (pk : prodOk a b = true) (ha : -9223372036854775808 ≤ a ∧ a ≤ 9223372036854775807) (hb : -9223372036854775808 ≤ b ∧ b ≤ 9223372036854775807) (w : World) : Calls Try.prog 8 #[.int .i64 a, .int .i64 b] w fun e w' => e = .returned (.bool true) ∧ Grown w w' := by
  have HV : prodV a b = wrap64 (a * b) := by unfold prodV; rw [if_neg (by omega)]
  have HA := Lib.hid ha
  have hd : True := trivial
  have HB := Lib.hid hb
  have HP := Lib.hid (wrap_bd (a * b))
  have e1 : (a == 0) = false := by simp; omega
  have e2 : (b == 0) = false := by simp; omega
  clear ha hb
  go_enter Try.func8, Try.ntmps8
  go_wp2_with (first | (go_at_call 23; refine (sum_any _ _ _).mono ?_; rintro e w' ⟨rfl, rfl⟩) | (go_at_call 24; refine (product_any _ _ _).mono ?_; rintro e w' ⟨rfl, n, rfl⟩))
  refine (rDiv_any _ _ HP.out HB.out (by omega) _).mono ?_
  rintro e w1 ⟨rfl, k1⟩
  have K1 := Lib.hid k1
  clear k1
  go_wp2_with (go_at_call 13; refine (awake_any _).mono ?_; rintro e w' ⟨rfl, rfl⟩)
  refine (add_any _ _ _).mono ?_
  rintro e w2 ⟨rfl, k2⟩
  have K2 := Lib.hid k2
  clear k2
  go_wp2_with (fail)
  go_ret
  exact ⟨rfl, grown_trans (Grown.refl w : Grown w (w.drewN n)) (grown_trans K1.out K2.out)⟩

set_option maxRecDepth 100000 in
set_option maxHeartbeats 1000000 in
theorem sums_3_5 (a b : Int) (h1 : 0 < a) (h2 : b < 0) (hs : sumOk a b = true) (an : (a == -1) = false) (bn : (b == -1) = false) (qa : (wrap64 ((wrap64 (a * b)).tdiv b) == a) = true) (rz : ((wrap64 (a * b)).tmod b == 0) = true) (pk : prodOk a b = true) (ha : -9223372036854775808 ≤ a ∧ a ≤ 9223372036854775807) (hb : -9223372036854775808 ≤ b ∧ b ≤ 9223372036854775807) (w : World) : Calls Try.prog 8 #[.int .i64 a, .int .i64 b] w fun e w' => e = .returned (.bool true) ∧ Grown w w' := by
  have HV : prodV a b = wrap64 (a * b) := by unfold prodV; rw [if_neg (by omega)]
  have HA := Lib.hid ha
  have hd : True := trivial
  have HB := Lib.hid hb
  have HP := Lib.hid (wrap_bd (a * b))
  have e1 : (a == 0) = false := by simp; omega
  have e2 : (b == 0) = false := by simp; omega
  clear ha hb
  go_enter Try.func8, Try.ntmps8
  go_wp2_with (first | (go_at_call 23; refine (sum_any _ _ _).mono ?_; rintro e w' ⟨rfl, rfl⟩) | (go_at_call 24; refine (product_any _ _ _).mono ?_; rintro e w' ⟨rfl, n, rfl⟩))
  refine (rDiv_any _ _ HP.out HB.out (by omega) _).mono ?_
  rintro e w1 ⟨rfl, k1⟩
  have K1 := Lib.hid k1
  clear k1
  go_wp2_with (go_at_call 13; refine (awake_any _).mono ?_; rintro e w' ⟨rfl, rfl⟩)
  refine (add_any _ _ _).mono ?_
  rintro e w2 ⟨rfl, k2⟩
  have K2 := Lib.hid k2
  clear k2
  go_wp2_with (fail)
  go_ret
  exact ⟨rfl, grown_trans (Grown.refl w : Grown w (w.drewN n)) (grown_trans K1.out K2.out)⟩

set_option maxRecDepth 100000 in
set_option maxHeartbeats 1000000 in
theorem sums_4_5 (a b : Int) (h1 : a < 0) (h2 : b < 0) (h3 : 0 ≤ wrap64 (a + b)) (hs : sumOk a b = false) (an : (a == -1) = false) (bn : (b == -1) = false) (qa : (wrap64 ((wrap64 (a * b)).tdiv b) == a) = true) (rz : ((wrap64 (a * b)).tmod b == 0) = true) (pk : prodOk a b = true) (ha : -9223372036854775808 ≤ a ∧ a ≤ 9223372036854775807) (hb : -9223372036854775808 ≤ b ∧ b ≤ 9223372036854775807) (w : World) : Calls Try.prog 8 #[.int .i64 a, .int .i64 b] w fun e w' => e = .returned (.bool true) ∧ Grown w w' := by
  have HV : prodV a b = wrap64 (a * b) := by unfold prodV; rw [if_neg (by omega)]
  have HA := Lib.hid ha
  have hd : True := trivial
  have HB := Lib.hid hb
  have HP := Lib.hid (wrap_bd (a * b))
  have e1 : (a == 0) = false := by simp; omega
  have e2 : (b == 0) = false := by simp; omega
  clear ha hb
  go_enter Try.func8, Try.ntmps8
  go_wp2_with (first | (go_at_call 23; refine (sum_any _ _ _).mono ?_; rintro e w' ⟨rfl, rfl⟩) | (go_at_call 24; refine (product_any _ _ _).mono ?_; rintro e w' ⟨rfl, n, rfl⟩))
  refine (rDiv_any _ _ HP.out HB.out (by omega) _).mono ?_
  rintro e w1 ⟨rfl, k1⟩
  have K1 := Lib.hid k1
  clear k1
  go_wp2_with (go_at_call 13; refine (awake_any _).mono ?_; rintro e w' ⟨rfl, rfl⟩)
  refine (add_any _ _ _).mono ?_
  rintro e w2 ⟨rfl, k2⟩
  have K2 := Lib.hid k2
  clear k2
  go_wp2_with (fail)
  go_ret
  exact ⟨rfl, grown_trans (Grown.refl w : Grown w (w.drewN n)) (grown_trans K1.out K2.out)⟩

set_option maxRecDepth 100000 in
set_option maxHeartbeats 1000000 in
theorem sums_5_5 (a b : Int) (h1 : a < 0) (h2 : b < 0) (h3 : wrap64 (a + b) < 0) (hs : sumOk a b = true) (an : (a == -1) = false) (bn : (b == -1) = false) (qa : (wrap64 ((wrap64 (a * b)).tdiv b) == a) = true) (rz : ((wrap64 (a * b)).tmod b == 0) = true) (pk : prodOk a b = true) (ha : -9223372036854775808 ≤ a ∧ a ≤ 9223372036854775807) (hb : -9223372036854775808 ≤ b ∧ b ≤ 9223372036854775807) (w : World) : Calls Try.prog 8 #[.int .i64 a, .int .i64 b] w fun e w' => e = .returned (.bool true) ∧ Grown w w' := by
  have HV : prodV a b = wrap64 (a * b) := by unfold prodV; rw [if_neg (by omega)]
  have HA := Lib.hid ha
  have hd : decide (0 ≤ wrap64 (a + b)) = false := decide_eq_false (by omega)
  have HB := Lib.hid hb
  have HP := Lib.hid (wrap_bd (a * b))
  have e1 : (a == 0) = false := by simp; omega
  have e2 : (b == 0) = false := by simp; omega
  clear ha hb
  go_enter Try.func8, Try.ntmps8
  go_wp2_with (first | (go_at_call 23; refine (sum_any _ _ _).mono ?_; rintro e w' ⟨rfl, rfl⟩) | (go_at_call 24; refine (product_any _ _ _).mono ?_; rintro e w' ⟨rfl, n, rfl⟩))
  refine (rDiv_any _ _ HP.out HB.out (by omega) _).mono ?_
  rintro e w1 ⟨rfl, k1⟩
  have K1 := Lib.hid k1
  clear k1
  go_wp2_with (go_at_call 13; refine (awake_any _).mono ?_; rintro e w' ⟨rfl, rfl⟩)
  refine (add_any _ _ _).mono ?_
  rintro e w2 ⟨rfl, k2⟩
  have K2 := Lib.hid k2
  clear k2
  go_wp2_with (fail)
  go_ret
  exact ⟨rfl, grown_trans (Grown.refl w : Grown w (w.drewN n)) (grown_trans K1.out K2.out)⟩

set_option maxRecDepth 100000 in
set_option maxHeartbeats 1000000 in
theorem sums_6_5 (a b : Int) (h1 : a < 0) (h2 : 0 < b) (hs : sumOk a b = true) (an : (a == -1) = false) (bn : (b == -1) = false) (qa : (wrap64 ((wrap64 (a * b)).tdiv b) == a) = true) (rz : ((wrap64 (a * b)).tmod b == 0) = true) (pk : prodOk a b = true) (ha : -9223372036854775808 ≤ a ∧ a ≤ 9223372036854775807) (hb : -9223372036854775808 ≤ b ∧ b ≤ 9223372036854775807) (w : World) : Calls Try.prog 8 #[.int .i64 a, .int .i64 b] w fun e w' => e = .returned (.bool true) ∧ Grown w w' := by
  have HV : prodV a b = wrap64 (a * b) := by unfold prodV; rw [if_neg (by omega)]
  have HA := Lib.hid ha
  have hd : True := trivial
  have HB := Lib.hid hb
  have HP := Lib.hid (wrap_bd (a * b))
  have e1 : (a == 0) = false := by simp; omega
  have e2 : (b == 0) = false := by simp; omega
  clear ha hb
  go_enter Try.func8, Try.ntmps8
  go_wp2_with (first | (go_at_call 23; refine (sum_any _ _ _).mono ?_; rintro e w' ⟨rfl, rfl⟩) | (go_at_call 24; refine (product_any _ _ _).mono ?_; rintro e w' ⟨rfl, n, rfl⟩))
  refine (rDiv_any _ _ HP.out HB.out (by omega) _).mono ?_
  rintro e w1 ⟨rfl, k1⟩
  have K1 := Lib.hid k1
  clear k1
  go_wp2_with (go_at_call 13; refine (awake_any _).mono ?_; rintro e w' ⟨rfl, rfl⟩)
  refine (add_any _ _ _).mono ?_
  rintro e w2 ⟨rfl, k2⟩
  have K2 := Lib.hid k2
  clear k2
  go_wp2_with (fail)
  go_ret
  exact ⟨rfl, grown_trans (Grown.refl w : Grown w (w.drewN n)) (grown_trans K1.out K2.out)⟩

set_option maxRecDepth 100000 in
set_option maxHeartbeats 1000000 in
theorem sums_1_6 (a b : Int) (h1 : 0 < a) (h2 : 0 < b) (h3 : 0 < wrap64 (a + b)) (hs : sumOk a b = true) (an : (a == -1) = false) (bn : (b == -1) = false) (qa : (wrap64 ((wrap64 (a * b)).tdiv b) == a) = false) (pk : prodOk a b = false) (ha : -9223372036854775808 ≤ a ∧ a ≤ 9223372036854775807) (hb : -9223372036854775808 ≤ b ∧ b ≤ 9223372036854775807) (w : World) : Calls Try.prog 8 #[.int .i64 a, .int .i64 b] w fun e w' => e = .returned (.bool true) ∧ Grown w w' := by
  have HV : prodV a b = wrap64 (a * b) := by unfold prodV; rw [if_neg (by omega)]
  have HA := Lib.hid ha
  have hd : decide (wrap64 (a + b) ≤ 0) = false := decide_eq_false (by omega)
  have HB := Lib.hid hb
  have HP := Lib.hid (wrap_bd (a * b))
  have e1 : (a == 0) = false := by simp; omega
  have e2 : (b == 0) = false := by simp; omega
  clear ha hb
  go_enter Try.func8, Try.ntmps8
  go_wp2_with (first | (go_at_call 23; refine (sum_any _ _ _).mono ?_; rintro e w' ⟨rfl, rfl⟩) | (go_at_call 24; refine (product_any _ _ _).mono ?_; rintro e w' ⟨rfl, n, rfl⟩))
  refine (rDiv_any _ _ HP.out HB.out (by omega) _).mono ?_
  rintro e w1 ⟨rfl, k1⟩
  have K1 := Lib.hid k1
  clear k1
  go_wp2_with (go_at_call 13; refine (awake_any _).mono ?_; rintro e w' ⟨rfl, rfl⟩)
  refine (add_any _ _ _).mono ?_
  rintro e w2 ⟨rfl, k2⟩
  have K2 := Lib.hid k2
  clear k2
  go_wp2_with (fail)
  go_ret
  exact ⟨rfl, grown_trans (Grown.refl w : Grown w (w.drewN n)) (grown_trans K1.out K2.out)⟩

set_option maxRecDepth 100000 in
set_option maxHeartbeats 1000000 in
theorem sums_2_6 (a b : Int) (h1 : 0 < a) (h2 : 0 < b) (h3 : wrap64 (a + b) ≤ 0) (hs : sumOk a b = false) (an : (a == -1) = false) (bn : (b == -1) = false) (qa : (wrap64 ((wrap64 (a * b)).tdiv b) == a) = false) (pk : prodOk a b = false) (ha : -9223372036854775808 ≤ a ∧ a ≤ 9223372036854775807) (hb : -9223372036854775808 ≤ b ∧ b ≤ 9223372036854775807) (w : World) : Calls Try.prog 8 #[.int .i64 a, .int .i64 b] w fun e w' => e = .returned (.bool true) ∧ Grown w w' := by
  have HV : prodV a b = wrap64 (a * b) := by unfold prodV; rw [if_neg (by omega)]
  have HA := Lib.hid ha
  have hd : True := trivial
  have HB := Lib.hid hb
  have HP := Lib.hid (wrap_bd (a * b))
  have e1 : (a == 0) = false := by simp; omega
  have e2 : (b == 0) = false := by simp; omega
  clear ha hb
  go_enter Try.func8, Try.ntmps8
  go_wp2_with (first | (go_at_call 23; refine (sum_any _ _ _).mono ?_; rintro e w' ⟨rfl, rfl⟩) | (go_at_call 24; refine (product_any _ _ _).mono ?_; rintro e w' ⟨rfl, n, rfl⟩))
  refine (rDiv_any _ _ HP.out HB.out (by omega) _).mono ?_
  rintro e w1 ⟨rfl, k1⟩
  have K1 := Lib.hid k1
  clear k1
  go_wp2_with (go_at_call 13; refine (awake_any _).mono ?_; rintro e w' ⟨rfl, rfl⟩)
  refine (add_any _ _ _).mono ?_
  rintro e w2 ⟨rfl, k2⟩
  have K2 := Lib.hid k2
  clear k2
  go_wp2_with (fail)
  go_ret
  exact ⟨rfl, grown_trans (Grown.refl w : Grown w (w.drewN n)) (grown_trans K1.out K2.out)⟩

set_option maxRecDepth 100000 in
set_option maxHeartbeats 1000000 in
theorem sums_3_6 (a b : Int) (h1 : 0 < a) (h2 : b < 0) (hs : sumOk a b = true) (an : (a == -1) = false) (bn : (b == -1) = false) (qa : (wrap64 ((wrap64 (a * b)).tdiv b) == a) = false) (pk : prodOk a b = false) (ha : -9223372036854775808 ≤ a ∧ a ≤ 9223372036854775807) (hb : -9223372036854775808 ≤ b ∧ b ≤ 9223372036854775807) (w : World) : Calls Try.prog 8 #[.int .i64 a, .int .i64 b] w fun e w' => e = .returned (.bool true) ∧ Grown w w' := by
  have HV : prodV a b = wrap64 (a * b) := by unfold prodV; rw [if_neg (by omega)]
  have HA := Lib.hid ha
  have hd : True := trivial
  have HB := Lib.hid hb
  have HP := Lib.hid (wrap_bd (a * b))
  have e1 : (a == 0) = false := by simp; omega
  have e2 : (b == 0) = false := by simp; omega
  clear ha hb
  go_enter Try.func8, Try.ntmps8
  go_wp2_with (first | (go_at_call 23; refine (sum_any _ _ _).mono ?_; rintro e w' ⟨rfl, rfl⟩) | (go_at_call 24; refine (product_any _ _ _).mono ?_; rintro e w' ⟨rfl, n, rfl⟩))
  refine (rDiv_any _ _ HP.out HB.out (by omega) _).mono ?_
  rintro e w1 ⟨rfl, k1⟩
  have K1 := Lib.hid k1
  clear k1
  go_wp2_with (go_at_call 13; refine (awake_any _).mono ?_; rintro e w' ⟨rfl, rfl⟩)
  refine (add_any _ _ _).mono ?_
  rintro e w2 ⟨rfl, k2⟩
  have K2 := Lib.hid k2
  clear k2
  go_wp2_with (fail)
  go_ret
  exact ⟨rfl, grown_trans (Grown.refl w : Grown w (w.drewN n)) (grown_trans K1.out K2.out)⟩

set_option maxRecDepth 100000 in
set_option maxHeartbeats 1000000 in
theorem sums_4_6 (a b : Int) (h1 : a < 0) (h2 : b < 0) (h3 : 0 ≤ wrap64 (a + b)) (hs : sumOk a b = false) (an : (a == -1) = false) (bn : (b == -1) = false) (qa : (wrap64 ((wrap64 (a * b)).tdiv b) == a) = false) (pk : prodOk a b = false) (ha : -9223372036854775808 ≤ a ∧ a ≤ 9223372036854775807) (hb : -9223372036854775808 ≤ b ∧ b ≤ 9223372036854775807) (w : World) : Calls Try.prog 8 #[.int .i64 a, .int .i64 b] w fun e w' => e = .returned (.bool true) ∧ Grown w w' := by
  have HV : prodV a b = wrap64 (a * b) := by unfold prodV; rw [if_neg (by omega)]
  have HA := Lib.hid ha
  have hd : True := trivial
  have HB := Lib.hid hb
  have HP := Lib.hid (wrap_bd (a * b))
  have e1 : (a == 0) = false := by simp; omega
  have e2 : (b == 0) = false := by simp; omega
  clear ha hb
  go_enter Try.func8, Try.ntmps8
  go_wp2_with (first | (go_at_call 23; refine (sum_any _ _ _).mono ?_; rintro e w' ⟨rfl, rfl⟩) | (go_at_call 24; refine (product_any _ _ _).mono ?_; rintro e w' ⟨rfl, n, rfl⟩))
  refine (rDiv_any _ _ HP.out HB.out (by omega) _).mono ?_
  rintro e w1 ⟨rfl, k1⟩
  have K1 := Lib.hid k1
  clear k1
  go_wp2_with (go_at_call 13; refine (awake_any _).mono ?_; rintro e w' ⟨rfl, rfl⟩)
  refine (add_any _ _ _).mono ?_
  rintro e w2 ⟨rfl, k2⟩
  have K2 := Lib.hid k2
  clear k2
  go_wp2_with (fail)
  go_ret
  exact ⟨rfl, grown_trans (Grown.refl w : Grown w (w.drewN n)) (grown_trans K1.out K2.out)⟩

set_option maxRecDepth 100000 in
set_option maxHeartbeats 1000000 in
theorem sums_5_6 (a b : Int) (h1 : a < 0) (h2 : b < 0) (h3 : wrap64 (a + b) < 0) (hs : sumOk a b = true) (an : (a == -1) = false) (bn : (b == -1) = false) (qa : (wrap64 ((wrap64 (a * b)).tdiv b) == a) = false) (pk : prodOk a b = false) (ha : -9223372036854775808 ≤ a ∧ a ≤ 9223372036854775807) (hb : -9223372036854775808 ≤ b ∧ b ≤ 9223372036854775807) (w : World) : Calls Try.prog 8 #[.int .i64 a, .int .i64 b] w fun e w' => e = .returned (.bool true) ∧ Grown w w' := by
  have HV : prodV a b = wrap64 (a * b) := by unfold prodV; rw [if_neg (by omega)]
  have HA := Lib.hid ha
  have hd : decide (0 ≤ wrap64 (a + b)) = false := decide_eq_false (by omega)
  have HB := Lib.hid hb
  have HP := Lib.hid (wrap_bd (a * b))
  have e1 : (a == 0) = false := by simp; omega
  have e2 : (b == 0) = false := by simp; omega
  clear ha hb
  go_enter Try.func8, Try.ntmps8
  go_wp2_with (first | (go_at_call 23; refine (sum_any _ _ _).mono ?_; rintro e w' ⟨rfl, rfl⟩) | (go_at_call 24; refine (product_any _ _ _).mono ?_; rintro e w' ⟨rfl, n, rfl⟩))
  refine (rDiv_any _ _ HP.out HB.out (by omega) _).mono ?_
  rintro e w1 ⟨rfl, k1⟩
  have K1 := Lib.hid k1
  clear k1
  go_wp2_with (go_at_call 13; refine (awake_any _).mono ?_; rintro e w' ⟨rfl, rfl⟩)
  refine (add_any _ _ _).mono ?_
  rintro e w2 ⟨rfl, k2⟩
  have K2 := Lib.hid k2
  clear k2
  go_wp2_with (fail)
  go_ret
  exact ⟨rfl, grown_trans (Grown.refl w : Grown w (w.drewN n)) (grown_trans K1.out K2.out)⟩

set_option maxRecDepth 100000 in
set_option maxHeartbeats 1000000 in
theorem sums_6_6 (a b : Int) (h1 : a < 0) (h2 : 0 < b) (hs : sumOk a b = true) (an : (a == -1) = false) (bn : (b == -1) = false) (qa : (wrap64 ((wrap64 (a * b)).tdiv b) == a) = false) (pk : prodOk a b = false) (ha : -9223372036854775808 ≤ a ∧ a ≤ 9223372036854775807) (hb : -9223372036854775808 ≤ b ∧ b ≤ 9223372036854775807) (w : World) : Calls Try.prog 8 #[.int .i64 a, .int .i64 b] w fun e w' => e = .returned (.bool true) ∧ Grown w w' := by
  have HV : prodV a b = wrap64 (a * b) := by unfold prodV; rw [if_neg (by omega)]
  have HA := Lib.hid ha
  have hd : True := trivial
  have HB := Lib.hid hb
  have HP := Lib.hid (wrap_bd (a * b))
  have e1 : (a == 0) = false := by simp; omega
  have e2 : (b == 0) = false := by simp; omega
  clear ha hb
  go_enter Try.func8, Try.ntmps8
  go_wp2_with (first | (go_at_call 23; refine (sum_any _ _ _).mono ?_; rintro e w' ⟨rfl, rfl⟩) | (go_at_call 24; refine (product_any _ _ _).mono ?_; rintro e w' ⟨rfl, n, rfl⟩))
  refine (rDiv_any _ _ HP.out HB.out (by omega) _).mono ?_
  rintro e w1 ⟨rfl, k1⟩
  have K1 := Lib.hid k1
  clear k1
  go_wp2_with (go_at_call 13; refine (awake_any _).mono ?_; rintro e w' ⟨rfl, rfl⟩)
  refine (add_any _ _ _).mono ?_
  rintro e w2 ⟨rfl, k2⟩
  have K2 := Lib.hid k2
  clear k2
  go_wp2_with (fail)
  go_ret
  exact ⟨rfl, grown_trans (Grown.refl w : Grown w (w.drewN n)) (grown_trans K1.out K2.out)⟩

theorem sum_a0 (b : Int) (h : -9223372036854775808 ≤ b ∧ b ≤ 9223372036854775807) : sumOk 0 b = true := by
  rw [sumOk_is _ _ (by omega) (by omega)]
  have e : wrap64 (0 + b) = b := by rw [IntWalk.wrap64_in _ (by omega)]; omega
  rw [e]
  exact decide_eq_true (by omega)
set_option maxRecDepth 100000 in
set_option maxHeartbeats 1000000 in
theorem sums_a0 (b : Int) (h : -9223372036854775808 ≤ b ∧ b ≤ 9223372036854775807) (w : World) : Calls Try.prog 8 #[.int .i64 0, .int .i64 b] w fun e w' => e = .returned (.bool true) ∧ Grown w w' := by
  have HV : prodV 0 b = 0 := by unfold prodV; rw [if_pos (by omega)]
  have HK : prodOk 0 b = true := by unfold prodOk; rw [if_pos (by omega)]
  have HS : sumOk 0 b = true := sum_a0 _ h
  have e0 : True := trivial
  go_enter Try.func8, Try.ntmps8
  go_wp2_with (first | (go_at_call 13; refine (awake_any _).mono ?_; rintro e w' ⟨rfl, rfl⟩) | (go_at_call 23; refine (sum_any _ _ _).mono ?_; rintro e w' ⟨rfl, rfl⟩) | (go_at_call 24; refine (product_any _ _ _).mono ?_; rintro e w' ⟨rfl, n, rfl⟩))
  all_goals
    refine (add_any _ _ _).mono ?_
    rintro e w2 ⟨rfl, k2⟩
    have K2 := Lib.hid k2
    clear k2
    go_wp2_with (fail)
    go_ret
    exact ⟨rfl, grown_trans (Grown.refl w : Grown w (w.drewN n)) K2.out⟩

theorem sum_b0 (a : Int) (h : -9223372036854775808 ≤ a ∧ a ≤ 9223372036854775807) : sumOk a 0 = true := by
  rw [sumOk_is _ _ (by omega) (by omega)]
  have e : wrap64 (a + 0) = a := by rw [IntWalk.wrap64_in _ (by omega)]; omega
  rw [e]
  exact decide_eq_true (by omega)
set_option maxRecDepth 100000 in
set_option maxHeartbeats 1000000 in
theorem sums_b0 (a : Int) (h1 : a ≠ 0) (h : -9223372036854775808 ≤ a ∧ a ≤ 9223372036854775807) (w : World) : Calls Try.prog 8 #[.int .i64 a, .int .i64 0] w fun e w' => e = .returned (.bool true) ∧ Grown w w' := by
  have HV : prodV a 0 = 0 := by unfold prodV; rw [if_pos (by omega)]
  have HK : prodOk a 0 = true := by unfold prodOk; rw [if_pos (by omega)]
  have HS : sumOk a 0 = true := sum_b0 _ h
  have e1 : (a == 0) = false := by simp; omega
  go_enter Try.func8, Try.ntmps8
  go_wp2_with (first | (go_at_call 13; refine (awake_any _).mono ?_; rintro e w' ⟨rfl, rfl⟩) | (go_at_call 23; refine (sum_any _ _ _).mono ?_; rintro e w' ⟨rfl, rfl⟩) | (go_at_call 24; refine (product_any _ _ _).mono ?_; rintro e w' ⟨rfl, n, rfl⟩))
  all_goals
    refine (add_any _ _ _).mono ?_
    rintro e w2 ⟨rfl, k2⟩
    have K2 := Lib.hid k2
    clear k2
    go_wp2_with (fail)
    go_ret
    exact ⟨rfl, grown_trans (Grown.refl w : Grown w (w.drewN n)) K2.out⟩
end Go.Proofs.Ytldmfjedfaikkaa
