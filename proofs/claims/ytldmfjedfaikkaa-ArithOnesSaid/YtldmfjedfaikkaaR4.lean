/-
  The reference's mul, under, below, size.
-/
import Derived.Test.YtldmfjedfaikkaaR3
namespace Go.Proofs.Ytldmfjedfaikkaa
open Go.RowKit

theorem val64 (b : Int) : val (bt b) 64 = b % 18446744073709551616 := by
  rw [val_bt b 64 (Nat.le_refl _), show (2 : Int) ^ (64 - 64) = 1 by decide, Int.ediv_one]
theorem wrap_mul_mod (a b : Int) : wrap64 (a * (b % 18446744073709551616)) = wrap64 (a * b) := by
  unfold wrap64
  rw [Int.emod_def b]
  have e : a * (b - 18446744073709551616 * (b / 18446744073709551616)) + 9223372036854775808 = (a * b + 9223372036854775808) + 18446744073709551616 * (-(a * (b / 18446744073709551616))) := by
    rw [Int.mul_sub, ← Int.mul_assoc, Int.mul_comm a 18446744073709551616, Int.mul_assoc]; omega
  rw [e, Int.add_mul_emod_self_left]
/-- One round of mul: twice what there was, and a if the bit is set. -/
theorem mul_0 (a v t : Int) (h : t = 0) : wrap64 (wrap64 (a * v) + wrap64 (a * v)) = wrap64 (a * (v * 2 + t)) := by
  subst h
  rw [wrap_add, wrap_add_right, Int.add_zero, ← Int.mul_assoc]; congr 1; omega
theorem mul_1 (a v t : Int) (h : t = 1) : wrap64 (wrap64 (wrap64 (a * v) + wrap64 (a * v)) + a) = wrap64 (a * (v * 2 + t)) := by
  subst h
  rw [wrap_add (a * v), wrap_add_right, wrap_add, Int.mul_add, ← Int.mul_assoc]; congr 1; omega

set_option maxHeartbeats 1000000 in
theorem mul_any (a b : Int) (w : World) : Calls Try.prog 32 #[.int .i64 a, .int .i64 b] w fun e w' => e = .returned (.int .i64 (wrap64 (a * b))) ∧ Grown w w' := by
  go_enter Try.func32, Try.ntmps32
  go_wp2
  go_loopw [5, 6] (fun o i wr => ∃ k : Nat, k ≤ 64 ∧ i = .int .i64 (63 - (k : Int)) ∧ o = .int .i64 (wrap64 (a * val (bt b) k)) ∧ Grown w wr) (fun _ i _ => (intOf i + 1).toNat)
  case atStart => exact ⟨0, by omega, rfl, by simp [val, wrap64], Grown.refl w⟩
  case round =>
    obtain ⟨k, hk, rfl, rfl, hg⟩ := hrel
    have HG := Lib.hid hg
    clear hg
    by_cases h : k = 64
    · subst h
      go_wp2
      go_ret
      exact ⟨ret_int (by rw [val64, wrap_mul_mod]), HG.out⟩
    · rcases bt_01 b (63 - k) with hb | hb
      · have h0 := Lib.hid (mul_0 a (val (bt b) k) _ hb)
        go_wp2_with (fail)
        refine (add_any _ _ _).mono ?_
        rintro e w1 ⟨rfl, h1⟩
        have H1 := Lib.hid h1
        clear h1
        go_wp2_with (go_at_call 35; refine (rbit_any _ _ (by omega) (by omega) _).mono ?_; rintro e w' ⟨rfl, rfl⟩)
        go_roundw
        case rel => exact ⟨k + 1, by omega, by go_num, by rw [h0.out]; rfl, grown_trans HG.out H1.out⟩
        case measure => simp only [intOf]; omega
      · have h0 := Lib.hid (mul_1 a (val (bt b) k) _ hb)
        go_wp2_with (fail)
        refine (add_any _ _ _).mono ?_
        rintro e w1 ⟨rfl, h1⟩
        have H1 := Lib.hid h1
        clear h1
        go_wp2_with (go_at_call 35; refine (rbit_any _ _ (by omega) (by omega) _).mono ?_; rintro e w' ⟨rfl, rfl⟩)
        refine (add_any _ _ _).mono ?_
        rintro e w2 ⟨rfl, h2⟩
        have H2 := Lib.hid h2
        clear h2
        go_wp2_with (fail)
        go_roundw
        case rel => exact ⟨k + 1, by omega, by go_num, by rw [h0.out]; rfl, grown_trans HG.out (grown_trans H1.out H2.out)⟩
        case measure => simp only [intOf]; omega

def ult (a b : Int) : Bool := decide (a % 18446744073709551616 < b % 18446744073709551616)
theorem lt_of_div (A B : Int) (j : Nat) (h : A / 2 ^ j < B / 2 ^ j) : A < B := by
  have hp : (0 : Int) < 2 ^ j := Int.pow_pos (by decide)
  have h1 := Int.mul_ediv_add_emod A (2 ^ j)
  have h2 := Int.mul_ediv_add_emod B (2 ^ j)
  have m1 := Int.emod_lt_of_pos A hp
  have m2 := Int.emod_nonneg B (show (2 : Int) ^ j ≠ 0 by omega)
  have h3 : 2 ^ j * (A / 2 ^ j + 1) ≤ 2 ^ j * (B / 2 ^ j) := Int.mul_le_mul_of_nonneg_left (by omega) (by omega)
  rw [Int.mul_add, Int.mul_one] at h3
  omega
theorem ult_lt (a b : Int) (k : Nat) (hk : k < 64) (h : val (bt a) k = val (bt b) k) (ha : bt a (63 - k) = 0) (hb : bt b (63 - k) = 1) : ult a b = true := by
  unfold ult
  refine decide_eq_true (lt_of_div _ _ (64 - (k + 1)) ?_)
  rw [← val_bt a (k + 1) (by omega), ← val_bt b (k + 1) (by omega)]
  simp only [val]; omega
theorem ult_gt (a b : Int) (k : Nat) (hk : k < 64) (h : val (bt a) k = val (bt b) k) (ha : bt a (63 - k) = 1) (hb : bt b (63 - k) = 0) : ult a b = false := by
  unfold ult
  have : b % 18446744073709551616 < a % 18446744073709551616 := by
    refine lt_of_div _ _ (64 - (k + 1)) ?_
    rw [← val_bt a (k + 1) (by omega), ← val_bt b (k + 1) (by omega)]
    simp only [val]; omega
  exact decide_eq_false (by omega)
theorem ult_eq (a b : Int) (h : val (bt a) 64 = val (bt b) 64) : ult a b = false := by
  unfold ult
  rw [val64, val64] at h
  exact decide_eq_false (by omega)

set_option maxHeartbeats 1000000 in
theorem under_any (a b : Int) (w : World) : Calls Try.prog 37 #[.int .i64 a, .int .i64 b] w fun e w' => e = .returned (.bool (ult a b)) ∧ w = w' := by
  go_enter Try.func37, Try.ntmps37
  go_wp2
  go_loop [5] (fun i => ∃ k : Nat, k ≤ 64 ∧ i = .int .i64 (63 - (k : Int)) ∧ Hid (val (bt a) k = val (bt b) k)) (fun i => (intOf i + 1).toNat)
  case atStart => exact ⟨0, by omega, rfl, Lib.hid rfl⟩
  case round =>
    obtain ⟨k, hk, rfl, hv⟩ := hrel
    by_cases h : k = 64
    · subst h
      have hr := ult_eq a b hv.out
      go_wp2
      go_ret
      exact ⟨ret_bool (by first | exact hr.symm | rfl), rfl⟩
    · rcases bt_01 a (63 - k) with ha | ha
      · rcases bt_01 b (63 - k) with hb | hb
        · have hv2 : Hid (val (bt a) (k + 1) = val (bt b) (k + 1)) := Lib.hid (by simp only [val]; rw [hv.out, ha, hb])
          go_wp2_with (go_at_call 35; refine (rbit_any _ _ (by omega) (by omega) _).mono ?_; rintro e w' ⟨rfl, rfl⟩)
          go_round
          case rel => exact ⟨k + 1, by omega, by go_num, hv2⟩
          case measure => simp only [intOf]; omega
        · have hr := ult_lt a b k (by omega) hv.out ha hb
          go_wp2_with (go_at_call 35; refine (rbit_any _ _ (by omega) (by omega) _).mono ?_; rintro e w' ⟨rfl, rfl⟩)
          go_ret
          exact ⟨ret_bool (by first | exact hr.symm | rfl), rfl⟩
      · rcases bt_01 b (63 - k) with hb | hb
        · have hr := ult_gt a b k (by omega) hv.out ha hb
          go_wp2_with (go_at_call 35; refine (rbit_any _ _ (by omega) (by omega) _).mono ?_; rintro e w' ⟨rfl, rfl⟩)
          go_ret
          exact ⟨ret_bool (by first | exact hr.symm | rfl), rfl⟩
        · have hv2 : Hid (val (bt a) (k + 1) = val (bt b) (k + 1)) := Lib.hid (by simp only [val]; rw [hv.out, ha, hb])
          go_wp2_with (go_at_call 35; refine (rbit_any _ _ (by omega) (by omega) _).mono ?_; rintro e w' ⟨rfl, rfl⟩)
          go_round
          case rel => exact ⟨k + 1, by omega, by go_num, hv2⟩
          case measure => simp only [intOf]; omega

theorem bt63_neg (a : Int) (ha : -9223372036854775808 ≤ a ∧ a ≤ 9223372036854775807) (h : a < 0) : bt a 63 = 1 := by
  unfold bt; have e : (2 : Int) ^ 63 = 9223372036854775808 := by decide
  rw [e]; omega
theorem bt63_pos (a : Int) (ha : -9223372036854775808 ≤ a ∧ a ≤ 9223372036854775807) (h : 0 ≤ a) : bt a 63 = 0 := by
  unfold bt; have e : (2 : Int) ^ 63 = 9223372036854775808 := by decide
  rw [e]; omega
theorem ult_pp (a b : Int) (ha : -9223372036854775808 ≤ a ∧ a ≤ 9223372036854775807) (hb : -9223372036854775808 ≤ b ∧ b ≤ 9223372036854775807) (h : a < 0 ↔ b < 0) : ult a b = decide (a < b) := by
  unfold ult
  by_cases h1 : a < 0
  · have h2 := h.mp h1
    exact decide_eq_decide.mpr (by omega)
  · have h2 : ¬ b < 0 := fun e => h1 (h.mpr e)
    exact decide_eq_decide.mpr (by omega)

set_option maxHeartbeats 1000000 in
theorem below_any (a b : Int) (ha : -9223372036854775808 ≤ a ∧ a ≤ 9223372036854775807) (hb : -9223372036854775808 ≤ b ∧ b ≤ 9223372036854775807) (w : World) : Calls Try.prog 38 #[.int .i64 a, .int .i64 b] w fun e w' => e = .returned (.bool (decide (a < b))) ∧ w = w' := by
  by_cases h1 : a < 0
  · have q1 := bt63_neg a ha h1
    by_cases h2 : b < 0
    · have q2 := bt63_neg b hb h2
      have q3 := Lib.hid (ult_pp a b ha hb ⟨fun _ => h2, fun _ => h1⟩)
      go_enter Try.func38, Try.ntmps38
      go_wp2_with (first | (go_at_call 35; refine (rbit_any _ _ (by omega) (by omega) _).mono ?_; rintro e w' ⟨rfl, rfl⟩) | (go_at_call 37; refine (under_any _ _ _).mono ?_; rintro e w' ⟨rfl, rfl⟩))
      go_ret
      exact ⟨ret_bool q3.out, rfl⟩
    · have q2 := bt63_pos b hb (by omega)
      go_enter Try.func38, Try.ntmps38
      go_wp2_with (first | (go_at_call 35; refine (rbit_any _ _ (by omega) (by omega) _).mono ?_; rintro e w' ⟨rfl, rfl⟩))
      go_ret
      exact ⟨ret_bool (decide_eq_true (by omega)).symm, rfl⟩
  · have q1 := bt63_pos a ha (by omega)
    by_cases h2 : b < 0
    · have q2 := bt63_neg b hb h2
      go_enter Try.func38, Try.ntmps38
      go_wp2_with (first | (go_at_call 35; refine (rbit_any _ _ (by omega) (by omega) _).mono ?_; rintro e w' ⟨rfl, rfl⟩))
      go_ret
      exact ⟨ret_bool (decide_eq_false (by omega)).symm, rfl⟩
    · have q2 := bt63_pos b hb (by omega)
      have q3 := Lib.hid (ult_pp a b ha hb ⟨fun h => absurd h h1, fun h => absurd h h2⟩)
      go_enter Try.func38, Try.ntmps38
      go_wp2_with (first | (go_at_call 35; refine (rbit_any _ _ (by omega) (by omega) _).mono ?_; rintro e w' ⟨rfl, rfl⟩) | (go_at_call 37; refine (under_any _ _ _).mono ?_; rintro e w' ⟨rfl, rfl⟩))
      go_ret
      exact ⟨ret_bool q3.out, rfl⟩

set_option maxHeartbeats 1000000 in
theorem rsize_any (a : Int) (ha : -9223372036854775808 ≤ a ∧ a ≤ 9223372036854775807) (w : World) : Calls Try.prog 42 #[.int .i64 a] w fun e w' => e = .returned (.int .i64 (wrap64 (a.natAbs : Int))) ∧ Grown w w' := by
  by_cases h1 : a < 0
  · have q1 := bt63_neg a ha h1
    go_enter Try.func42, Try.ntmps42
    go_wp2_with (go_at_call 35; refine (rbit_any _ _ (by omega) (by omega) _).mono ?_; rintro e w' ⟨rfl, rfl⟩)
    refine (neg_any _ _).mono ?_
    rintro e w1 ⟨rfl, h1⟩
    have H1 := Lib.hid h1
    clear h1
    go_wp2_with (fail)
    go_ret
    exact ⟨ret_int (by congr 1; omega), H1.out⟩
  · have q1 := bt63_pos a ha (by omega)
    go_enter Try.func42, Try.ntmps42
    go_wp2_with (go_at_call 35; refine (rbit_any _ _ (by omega) (by omega) _).mono ?_; rintro e w' ⟨rfl, rfl⟩)
    go_ret
    exact ⟨ret_int (by rw [IntWalk.wrap64_in _ (by omega)]; omega), Grown.refl _⟩
end Go.Proofs.Ytldmfjedfaikkaa
