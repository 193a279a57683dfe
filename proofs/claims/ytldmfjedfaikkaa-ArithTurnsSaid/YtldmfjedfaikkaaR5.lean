/-
  The reference's divide and Div.
-/
import Derived.Test.YtldmfjedfaikkaaR4
namespace Go.Proofs.Ytldmfjedfaikkaa
open Go.RowKit

/-- One round of a long division. -/
theorem div_lt (V B t : Int) (hB : 0 < B) (ht : 0 ≤ t) (h : 2 * (V % B) + t < B) : (V * 2 + t) / B = 2 * (V / B) ∧ (V * 2 + t) % B = 2 * (V % B) + t := by
  have e := Int.mul_ediv_add_emod V B
  have m0 := Int.emod_nonneg V (show B ≠ 0 by omega)
  have e2 : V * 2 + t = (2 * (V % B) + t) + B * (2 * (V / B)) := by
    have : B * (2 * (V / B)) = 2 * (B * (V / B)) := by rw [← Int.mul_assoc, Int.mul_comm B 2, Int.mul_assoc]
    omega
  rw [e2]
  constructor
  · rw [Int.add_mul_ediv_left _ _ (by omega), Int.ediv_eq_zero_of_lt (by omega) h]; omega
  · rw [Int.add_mul_emod_self_left, Int.emod_eq_of_lt (by omega) h]
theorem div_ge (V B t : Int) (hB : 0 < B) (ht : t ≤ 1) (h : B ≤ 2 * (V % B) + t) : (V * 2 + t) / B = 2 * (V / B) + 1 ∧ (V * 2 + t) % B = 2 * (V % B) + t - B := by
  have e := Int.mul_ediv_add_emod V B
  have m0 := Int.emod_nonneg V (show B ≠ 0 by omega)
  have m1 := Int.emod_lt_of_pos V hB
  have e2 : V * 2 + t = (2 * (V % B) + t - B) + B * (2 * (V / B) + 1) := by
    have : B * (2 * (V / B) + 1) = 2 * (B * (V / B)) + B := by rw [Int.mul_add, Int.mul_one, ← Int.mul_assoc, Int.mul_comm B 2, Int.mul_assoc]
    omega
  rw [e2]
  constructor
  · rw [Int.add_mul_ediv_left _ _ (by omega), Int.ediv_eq_zero_of_lt (by omega) (by omega)]; omega
  · rw [Int.add_mul_emod_self_left, Int.emod_eq_of_lt (by omega) (by omega)]

/-- The quotient's bit 63 - k is that of the number that k + 1 rounds have seen. -/
theorem quo_bit (A B : Int) (k : Nat) (hk : k < 64) (hB : 0 < B) : bt (A % 18446744073709551616 / B) (63 - k) = val (bt A) (k + 1) / B % 2 := by
  rw [val_bt A (k + 1) (by omega)]
  unfold bt
  have e : 64 - (k + 1) = 63 - k := by omega
  have hp : (0 : Int) < 2 ^ (63 - k) := Int.pow_pos (by decide)
  rw [e, Int.ediv_ediv_of_nonneg (by omega), Int.ediv_ediv_of_nonneg (by omega), Int.mul_comm]
theorem rem_all (A B : Int) : val (bt A) 64 % B = A % 18446744073709551616 % B := by rw [val64]

def tops (g : Nat → Int) (k : Nat) : Nat → Int := fun i => if 64 - k ≤ i then g i else 0
theorem arr_congr (f g : Nat → Int) (h : ∀ i, i < 64 → f i = g i) : arr f = arr g := by
  apply Array.ext_getElem?
  intro i
  by_cases hi : i < 64
  · rw [arr_get _ _ hi, arr_get _ _ hi, h i hi]
  · simp [arr, hi]
theorem tops_set (g : Nat → Int) (k : Nat) (hk : k < 64) (n : Int) (h : n = g (63 - k)) : (arr (tops g k)).setIfInBounds (63 - k) (.int .i64 n) = arr (tops g (k + 1)) := by
  rw [arr_set, h]
  refine arr_congr _ _ fun j hj => ?_
  unfold tops
  by_cases h1 : j = 63 - k
  · subst h1; rw [if_pos rfl, if_pos (by omega)]
  · rw [if_neg h1]
    by_cases h2 : 64 - k ≤ j
    · rw [if_pos h2, if_pos (by omega)]
    · rw [if_neg h2, if_neg (by omega)]
theorem tops_same (g : Nat → Int) (k : Nat) (hk : k < 64) (h : g (63 - k) = 0) : arr (tops g k) = arr (tops g (k + 1)) := by
  refine arr_congr _ _ fun j hj => ?_
  unfold tops
  by_cases h1 : j = 63 - k
  · subst h1; rw [if_neg (by omega), if_pos (by omega), h]
  · by_cases h2 : 64 - k ≤ j
    · rw [if_pos h2, if_pos (by omega)]
    · rw [if_neg h2, if_neg (by omega)]
theorem tops_bits (g : Nat → Int) (h : ∀ i, 0 ≤ g i ∧ g i ≤ 1) (k : Nat) : Bits (tops g k) := fun i => by
  unfold tops; split
  · exact h i
  · omega
theorem Has.tops {w : World} {B : Nat} {g : Nat → Int} {k : Nat} (h : Has w B (tops g k)) (hk : k < 64) (n : Int) (hn : n = g (63 - k)) : Has (w.setCell ⟨B, 63 - k, none⟩ (.int .i64 n)) B (Ytldmfjedfaikkaa.tops g (k + 1)) := by
  unfold Has; rw [h.set, tops_set g k hk n hn]
theorem Has.tops_same {w : World} {B : Nat} {g : Nat → Int} {k : Nat} (h : Has w B (Ytldmfjedfaikkaa.tops g k)) (hk : k < 64) (hn : g (63 - k) = 0) : Has w B (Ytldmfjedfaikkaa.tops g (k + 1)) := by
  unfold Has at *; rw [← Ytldmfjedfaikkaa.tops_same g k hk hn]; exact h
theorem has_tops0 {w : World} {B : Nat} (g : Nat → Int) (h : Has w B zer) : Has w B (tops g 0) := by
  unfold Has at *; rw [h, show arr (tops g 0) = arr zer from arr_congr _ _ fun j hj => by unfold tops zer; rw [if_neg (by omega)]]

theorem bt_wrap (x : Int) (i : Nat) (hi : i < 64) : bt (wrap64 x) i = bt x i := by rw [← bt_mod _ i hi, mod_wrap, bt_mod _ i hi]
theorem high_1 (R : Int) (h0 : 0 ≤ R) (h1 : R ≤ 18446744073709551615) (h : 9223372036854775808 ≤ R) : bt (wrap64 R) 63 = 1 := by
  rw [bt_wrap R 63 (by omega)]; unfold bt; have e : (2 : Int) ^ 63 = 9223372036854775808 := by decide
  rw [e]; omega
theorem high_0 (R : Int) (h0 : 0 ≤ R) (h1 : R ≤ 18446744073709551615) (h : R < 9223372036854775808) : bt (wrap64 R) 63 = 0 := by
  rw [bt_wrap R 63 (by omega)]; unfold bt; have e : (2 : Int) ^ 63 = 9223372036854775808 := by decide
  rw [e]; omega
theorem twice_wrap (R t : Int) : wrap64 (wrap64 (wrap64 R + wrap64 R) + t) = wrap64 (2 * R + t) := by
  unfold wrap64; omega
theorem less_wrap (x b : Int) : wrap64 (wrap64 x + wrap64 (-b)) = wrap64 (x - b % 18446744073709551616) := by unfold wrap64; omega

/-- What is left behind k rounds. -/
def rest (a b : Int) (k : Nat) : Int := val (bt a) k % (b % 18446744073709551616)
theorem rest_bd (a b : Int) (k : Nat) (hb : 1 ≤ b % 18446744073709551616) : 0 ≤ rest a b k ∧ rest a b k ≤ b % 18446744073709551616 - 1 ∧ rest a b k ≤ 18446744073709551614 := by
  have h1 := Int.emod_nonneg (val (bt a) k) (show b % 18446744073709551616 ≠ 0 by omega)
  have h2 := Int.emod_lt_of_pos (val (bt a) k) (show (0 : Int) < b % 18446744073709551616 by omega)
  unfold rest; omega
theorem rest_0 (a b : Int) : rest a b 0 = 0 := by simp [rest, val]
def gquo (a b : Int) : Nat → Int := bt (a % 18446744073709551616 / (b % 18446744073709551616))
theorem round_lt (a b : Int) (k : Nat) (hk : k < 64) (hb : 1 ≤ b % 18446744073709551616) (h : 2 * rest a b k + bt a (63 - k) < b % 18446744073709551616) : rest a b (k + 1) = 2 * rest a b k + bt a (63 - k) ∧ gquo a b (63 - k) = 0 := by
  have ht := bt_nn a (63 - k)
  have := div_lt (val (bt a) k) (b % 18446744073709551616) (bt a (63 - k)) (by omega) ht.1 h
  refine ⟨this.2, ?_⟩
  unfold gquo; rw [quo_bit a _ k hk (by omega)]; simp only [val]; rw [this.1]; omega
theorem round_ge (a b : Int) (k : Nat) (hk : k < 64) (hb : 1 ≤ b % 18446744073709551616) (h : b % 18446744073709551616 ≤ 2 * rest a b k + bt a (63 - k)) : rest a b (k + 1) = 2 * rest a b k + bt a (63 - k) - b % 18446744073709551616 ∧ 1 = gquo a b (63 - k) := by
  have ht := bt_nn a (63 - k)
  have := div_ge (val (bt a) k) (b % 18446744073709551616) (bt a (63 - k)) (by omega) ht.2 h
  refine ⟨this.2, ?_⟩
  unfold gquo; rw [quo_bit a _ k hk (by omega)]; simp only [val]; rw [this.1]; omega

theorem ret_pair {k : IntKind} {a b c d : Int} (h : a = b) (e : c = d) : Ending.returned (.tuple #[.int k a, .int k c]) = .returned (.tuple #[.int k b, .int k d]) := by rw [h, e]
end Go.Proofs.Ytldmfjedfaikkaa
