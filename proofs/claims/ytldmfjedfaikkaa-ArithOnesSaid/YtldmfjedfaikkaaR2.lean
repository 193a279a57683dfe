/-
  The reference's number: what 64 bits say.
-/
import Derived.Test.YtldmfjedfaikkaaR1
namespace Go.Proofs.Ytldmfjedfaikkaa
open Go.RowKit

/-- What the bits from the k-th on say, of 64. -/
def val (f : Nat → Int) : Nat → Int
  | 0 => 0
  | k + 1 => val f k * 2 + f (63 - k)
def Bits (f : Nat → Int) : Prop := ∀ i, 0 ≤ f i ∧ f i ≤ 1
theorem val_bd (f : Nat → Int) (h : Bits f) (k : Nat) : 0 ≤ val f k ∧ val f k ≤ 2 ^ k - 1 := by
  induction k with
  | zero => simp [val]
  | succ k ih => have := h (63 - k); simp only [val, Int.pow_succ]; omega
theorem pow_le64 (k : Nat) (hk : k ≤ 64) : (2 : Int) ^ k ≤ 18446744073709551616 := by
  have hp : (2 : Nat) ^ k ≤ 2 ^ 64 := Nat.pow_le_pow_right (by decide) hk
  rw [pow_int]; omega

set_option maxHeartbeats 400000 in
theorem number_any (f : Nat → Int) (hf : Bits f) (w : World) : Calls Try.prog 43 #[.agg (arr f)] w fun e w' => e = .returned (.int .i64 (wrap64 (val f 64))) ∧ w' = w.alloc (.cells (arr f) 47) := by
  go_enter Try.func43, Try.ntmps43
  go_wp2_with (refine wpList_box47 rfl _ rfl (arr f) rfl ?_)
  go_loop [3, 4] (fun n i => ∃ k : Nat, k ≤ 64 ∧ i = .int .i64 (63 - (k : Int)) ∧ n = .int .u64 (val f k)) (fun _ i => (intOf i + 1).toNat)
  case atStart => exact ⟨0, by omega, rfl, rfl⟩
  case round =>
    obtain ⟨k, hk, rfl, rfl⟩ := hrel
    by_cases h : k = 64
    · subst h
      go_wp2
      go_ret
      exact ⟨rfl, rfl⟩
    · have hc : (w.alloc (.cells (arr f) 47)).cell? ⟨w.heap.size, 63 - k, none⟩ = some (.int .i64 (f (63 - k))) := by
        rw [cell_of_row _ _ _ _ _ _ (heap_alloc_last w _)]; exact arr_get f _ (by omega)
      have hb := hf (63 - k)
      have hv := val_bd f hf (k + 1)
      have hv0 := val_bd f hf k
      have hp := pow_le64 (k + 1) (by omega)
      have hvs : val f k * 2 + f (63 - k) ≤ 18446744073709551615 := by simp only [val] at hv; omega
      clear hv hp
      go_wp2
      go_round
      case rel => exact ⟨k + 1, by omega, by go_num, rfl⟩
      case measure => simp only [intOf]; omega

theorem val_congr (f g : Nat → Int) (h : ∀ i, i < 64 → f i = g i) (k : Nat) : val f k = val g k := by
  induction k with
  | zero => rfl
  | succ k ih => simp only [val]; rw [ih, h (63 - k) (by omega)]
theorem half_pow (x : Int) (k : Nat) : x / 2 ^ (k + 1) = x / 2 ^ k / 2 := by
  rw [Int.pow_succ, Int.ediv_ediv_of_nonneg (Int.le_of_lt (Int.pow_pos (by decide)))]
theorem val_bt (x : Int) (k : Nat) (hk : k ≤ 64) : val (bt x) k = x % 18446744073709551616 / 2 ^ (64 - k) := by
  induction k with
  | zero =>
    have h0 := Int.emod_nonneg x (show (18446744073709551616 : Int) ≠ 0 by decide)
    have h1 := Int.emod_lt_of_pos x (show (0 : Int) < 18446744073709551616 by decide)
    have e : (2 : Int) ^ (64 - 0) = 18446744073709551616 := by decide
    rw [e, Int.ediv_eq_zero_of_lt h0 h1]; rfl
  | succ k ih =>
    have e : 64 - k = 64 - (k + 1) + 1 := by omega
    have e2 : 63 - k = 64 - (k + 1) := by omega
    simp only [val]
    rw [ih (by omega), ← bt_mod x (63 - k) (by omega), e, half_pow, e2]
    omega
theorem wrap_mod (x : Int) : wrap64 (x % 18446744073709551616) = wrap64 x := by unfold wrap64; omega
theorem wrap_add (x y : Int) : wrap64 (wrap64 x + y) = wrap64 (x + y) := by unfold wrap64; omega
theorem wrap_add_right (x y : Int) : wrap64 (x + wrap64 y) = wrap64 (x + y) := by unfold wrap64; omega
theorem wrap_wrap (x : Int) : wrap64 (wrap64 x) = wrap64 x := by unfold wrap64; omega
theorem wrap_bd (x : Int) : -9223372036854775808 ≤ wrap64 x ∧ wrap64 x ≤ 9223372036854775807 := by unfold wrap64; omega
theorem mod_wrap (x : Int) : wrap64 x % 18446744073709551616 = x % 18446744073709551616 := by unfold wrap64; omega
/-- What bits say that are those of a number. -/
theorem val_of (f : Nat → Int) (x : Int) (h : ∀ i, i < 64 → f i = bt x i) : wrap64 (val f 64) = wrap64 x := by
  rw [val_congr f (bt x) h, val_bt x 64 (Nat.le_refl _)]
  have e : (2 : Int) ^ (64 - 64) = 1 := by decide
  rw [e, Int.ediv_one, wrap_mod]
/-- A number of bits that are those of x. -/
theorem number_of (f : Nat → Int) (x : Int) (hf : Bits f) (h : Hid (∀ i, i < 64 → f i = bt x i)) (w : World) : Calls Try.prog 43 #[.agg (arr f)] w fun e w' => e = .returned (.int .i64 (wrap64 x)) ∧ w' = w.alloc (.cells (arr f) 47) :=
  (number_any f hf w).mono fun _ _ ⟨he, hw⟩ => ⟨by rw [he, val_of f x h.out], hw⟩

theorem bt_not (a : Int) (k : Nat) : (-a - 1) / 2 ^ k = -(a / 2 ^ k) - 1 := by
  induction k with
  | zero => simp
  | succ k ih => rw [half_pow, half_pow, ih]; omega

/-- What is carried into bit k of a sum. -/
def cr (a b : Int) (k : Nat) : Int := (a + b) / 2 ^ k - a / 2 ^ k - b / 2 ^ k
theorem cr_zero (a b : Int) : cr a b 0 = 0 := by simp [cr]; omega
theorem cr_succ (a b : Int) (k : Nat) : cr a b (k + 1) = (bt a k + bt b k + cr a b k) / 2 := by
  unfold cr bt; rw [half_pow, half_pow, half_pow]; omega
theorem cr_bit (a b : Int) (k : Nat) : (bt a k + bt b k + cr a b k) % 2 = bt (a + b) k := by
  unfold cr bt; omega
theorem cr_bd (a b : Int) (k : Nat) : 0 ≤ cr a b k ∧ cr a b k ≤ 1 := by
  induction k with
  | zero => rw [cr_zero]; omega
  | succ k ih => have h1 := bt_nn a k; have h2 := bt_nn b k; rw [cr_succ]; omega
end Go.Proofs.Ytldmfjedfaikkaa
