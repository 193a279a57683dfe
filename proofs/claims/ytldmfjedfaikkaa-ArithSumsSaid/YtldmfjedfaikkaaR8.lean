/-
  Bits of what and, or, xor and shifts come to.
-/
import Derived.Test.YtldmfjedfaikkaaR3
namespace Go.Proofs.Ytldmfjedfaikkaa
open Go.RowKit

theorem bt_nat (m i : Nat) : bt (m : Int) i = if m.testBit i = true then 1 else 0 := by
  unfold bt
  rw [Nat.testBit_eq_decide_div_mod_eq]
  have e : ((m : Int) / 2 ^ i % 2) = ((m / 2 ^ i % 2 : Nat) : Int) := by simp
  rw [e]
  by_cases h : m / 2 ^ i % 2 = 1
  · simp [h]
  · have h0 : m / 2 ^ i % 2 = 0 := by omega
    simp [h0]
theorem bt_vec (a : Int) (i : Nat) (hi : i < 64) : bt a i = if (BitVec.ofInt 64 a).toNat.testBit i = true then 1 else 0 := by
  rw [← bt_nat, ← bt_mod a i hi]
  have e : (((BitVec.ofInt 64 a).toNat : Nat) : Int) = a % 18446744073709551616 := by rw [BitVec.toNat_ofInt]; omega
  unfold bt
  rw [e]
theorem bt_wrapn (m : Nat) (i : Nat) (hi : i < 64) : bt (IntKind.i64.wrap (m : Int)) i = if m.testBit i = true then 1 else 0 := by
  rw [IntWalk.i64_left, ← bt_mod _ i hi, show wrap64 (m : Int) % 18446744073709551616 = (m : Int) % 18446744073709551616 by unfold wrap64; omega, bt_mod _ i hi, bt_nat]
theorem bt_and (a b : Int) (i : Nat) (hi : i < 64) : bt (bits .and .i64 a b) i = bt a i * bt b i := by
  have h : bt (bits .and .i64 a b) i = if (BitVec.ofInt 64 a &&& BitVec.ofInt 64 b).toNat.testBit i = true then 1 else 0 := bt_wrapn _ i hi
  rw [h, bt_vec a i hi, bt_vec b i hi, BitVec.toNat_and, Nat.testBit_and]
  cases (BitVec.ofInt 64 a).toNat.testBit i <;> cases (BitVec.ofInt 64 b).toNat.testBit i <;> rfl
theorem bt_or (a b : Int) (i : Nat) (hi : i < 64) : bt (bits .or .i64 a b) i = bt a i + bt b i - bt a i * bt b i := by
  have h : bt (bits .or .i64 a b) i = if (BitVec.ofInt 64 a ||| BitVec.ofInt 64 b).toNat.testBit i = true then 1 else 0 := bt_wrapn _ i hi
  rw [h, bt_vec a i hi, bt_vec b i hi, BitVec.toNat_or, Nat.testBit_or]
  cases (BitVec.ofInt 64 a).toNat.testBit i <;> cases (BitVec.ofInt 64 b).toNat.testBit i <;> rfl
theorem bt_xor (a b : Int) (i : Nat) (hi : i < 64) : bt (bits .xor .i64 a b) i = (bt a i + bt b i) % 2 := by
  have h : bt (bits .xor .i64 a b) i = if (BitVec.ofInt 64 a ^^^ BitVec.ofInt 64 b).toNat.testBit i = true then 1 else 0 := bt_wrapn _ i hi
  rw [h, bt_vec a i hi, bt_vec b i hi, BitVec.toNat_xor, Nat.testBit_xor]
  cases (BitVec.ofInt 64 a).toNat.testBit i <;> cases (BitVec.ofInt 64 b).toNat.testBit i <;> rfl
theorem bits_wrapped (op : BinOp) (a b : Int) (h : op = .and ∨ op = .or ∨ op = .xor) : wrap64 (bits op .i64 a b) = bits op .i64 a b := by
  rcases h with rfl | rfl | rfl
  all_goals
    refine IntWalk.wrap64_in _ ?_
  · show -9223372036854775808 ≤ IntKind.i64.wrap ((BitVec.ofInt 64 a &&& BitVec.ofInt 64 b).toNat : Int) ∧ IntKind.i64.wrap ((BitVec.ofInt 64 a &&& BitVec.ofInt 64 b).toNat : Int) ≤ 9223372036854775807
    rw [IntWalk.i64_left]; unfold wrap64; omega
  · show -9223372036854775808 ≤ IntKind.i64.wrap ((BitVec.ofInt 64 a ||| BitVec.ofInt 64 b).toNat : Int) ∧ IntKind.i64.wrap ((BitVec.ofInt 64 a ||| BitVec.ofInt 64 b).toNat : Int) ≤ 9223372036854775807
    rw [IntWalk.i64_left]; unfold wrap64; omega
  · show -9223372036854775808 ≤ IntKind.i64.wrap ((BitVec.ofInt 64 a ^^^ BitVec.ofInt 64 b).toNat : Int) ∧ IntKind.i64.wrap ((BitVec.ofInt 64 a ^^^ BitVec.ofInt 64 b).toNat : Int) ≤ 9223372036854775807
    rw [IntWalk.i64_left]; unfold wrap64; omega

theorem bt_shl (a : Int) (n i : Nat) (h : n ≤ i) : bt (a * 2 ^ n) i = bt a (i - n) := by
  unfold bt
  have e : (2 : Int) ^ i = 2 ^ (i - n) * 2 ^ n := by rw [← Int.pow_add]; congr 1; omega
  rw [e, Int.mul_ediv_mul_of_pos_left _ _ (Int.pow_pos (by decide))]
theorem bt_shl0 (a : Int) (n i : Nat) (h : i < n) : bt (a * 2 ^ n) i = 0 := by
  unfold bt
  have e : (2 : Int) ^ n = 2 ^ (n - i - 1) * 2 * 2 ^ i := by rw [← Int.pow_succ, ← Int.pow_add]; congr 1; omega
  have hp : (2 : Int) ^ i ≠ 0 := Int.ne_of_gt (Int.pow_pos (by decide))
  rw [e, ← Int.mul_assoc, Int.mul_ediv_cancel _ hp, ← Int.mul_assoc]
  omega
theorem bt_shr (a : Int) (n i : Nat) : bt (a / 2 ^ n) i = bt a (i + n) := by
  unfold bt
  rw [Int.ediv_ediv_of_nonneg (Int.le_of_lt (Int.pow_pos (by decide))), ← Int.pow_add, Nat.add_comm]
theorem bt_high (a : Int) (ha : -9223372036854775808 ≤ a ∧ a ≤ 9223372036854775807) (i : Nat) (hi : 63 ≤ i) : bt a i = bt a 63 := by
  obtain ⟨k, rfl⟩ : ∃ k, i = 63 + k := ⟨i - 63, by omega⟩
  unfold bt
  have e : (2 : Int) ^ 63 = 9223372036854775808 := by decide
  have h0 : a / 2 ^ 63 = 0 ∨ a / 2 ^ 63 = -1 := by rw [e]; omega
  rw [Int.pow_add, ← Int.ediv_ediv_of_nonneg (Int.le_of_lt (Int.pow_pos (by decide)))]
  have hp : (0 : Int) < 2 ^ k := Int.pow_pos (by decide)
  rcases h0 with h | h
  · rw [h]; simp
  · rw [h]
    have : (-1 : Int) / 2 ^ k = -1 := by
      have := bt_not 0 k
      simpa using this
    rw [this]
theorem bt_uhigh (a : Int) (i : Nat) (hi : 64 ≤ i) : bt (a % 18446744073709551616) i = 0 := by
  unfold bt
  have h0 := Int.emod_nonneg a (show (18446744073709551616 : Int) ≠ 0 by decide)
  have h1 := Int.emod_lt_of_pos a (show (0 : Int) < 18446744073709551616 by decide)
  have hp : (2 : Nat) ^ 64 ≤ 2 ^ i := Nat.pow_le_pow_right (by decide) hi
  rw [Int.ediv_eq_zero_of_lt h0 (by rw [pow_int]; omega)]; rfl
theorem bt_ulow (a : Int) (i : Nat) (hi : i < 64) : bt (a % 18446744073709551616) i = bt a i := bt_mod a i hi
end Go.Proofs.Ytldmfjedfaikkaa
