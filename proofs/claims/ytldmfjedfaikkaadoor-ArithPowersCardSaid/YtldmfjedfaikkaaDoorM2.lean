/-
  Plain facts for ArithFits: the lowest so many bits, with a sign.
-/
import Derived.Test.YtldmfjedfaikkaaDoorM1
namespace Go.Proofs.YtldmfjedfaikkaaDoor
open Go.RowKit

theorem pow_int (k : Nat) : ((2 : Int) ^ k) = ((2 ^ k : Nat) : Int) := by simp
theorem and_low (n : Int) (j : Nat) (hj : j ≤ 62) : bits .and .i64 n (2 ^ j - 1) = n % 2 ^ j := by
  have hp : (2 : Nat) ^ j ≤ 2 ^ 62 := Nat.pow_le_pow_right (by decide) hj
  have hp0 : 0 < (2 : Nat) ^ j := Nat.pow_pos (by decide)
  have hc : (2 : Int) ^ j = ((2 ^ j : Nat) : Int) := pow_int j
  rw [hc]
  have e : (BitVec.ofInt 64 n &&& BitVec.ofInt 64 ((2 ^ j : Nat) - 1 : Int)).toNat = (n % ((2 ^ j : Nat) : Int)).toNat := by
    have h63 : (BitVec.ofInt 64 ((2 ^ j : Nat) - 1 : Int)).toNat = 2 ^ j - 1 := by rw [BitVec.toNat_ofInt]; omega
    rw [BitVec.toNat_and, h63, Nat.and_two_pow_sub_one_eq_mod, BitVec.toNat_ofInt]
    have hd : ((2 ^ j : Nat) : Int) ∣ ((2 ^ 64 : Nat) : Int) := Int.ofNat_dvd.mpr (Nat.pow_dvd_pow 2 (by omega))
    have h1 : (n % ((2 ^ 64 : Nat) : Int)) % ((2 ^ j : Nat) : Int) = n % ((2 ^ j : Nat) : Int) := Int.emod_emod_of_dvd n hd
    have h2 : 0 ≤ n % ((2 ^ 64 : Nat) : Int) := Int.emod_nonneg _ (by decide)
    rw [← h1]
    rw [Int.toNat_emod h2 (by omega)]
    rfl
  show IntKind.i64.wrap ((BitVec.ofInt 64 n &&& BitVec.ofInt 64 ((2 ^ j : Nat) - 1 : Int)).toNat : Int) = _
  have b0 : 0 ≤ n % ((2 ^ j : Nat) : Int) := Int.emod_nonneg _ (by omega)
  have b1 : n % ((2 ^ j : Nat) : Int) < ((2 ^ j : Nat) : Int) := Int.emod_lt_of_pos _ (by omega)
  rw [e, IntWalk.i64_in _ (by omega)]
  omega

/-- Whether bit j is set. -/
theorem and_top (n : Int) (j : Nat) (hj : j ≤ 62) : bits .and .i64 n (2 ^ j) = 2 ^ j * bt n j := by
  have hp : (2 : Nat) ^ j ≤ 2 ^ 62 := Nat.pow_le_pow_right (by decide) hj
  have hp0 : 0 < (2 : Nat) ^ j := Nat.pow_pos (by decide)
  have hc : (2 : Int) ^ j = ((2 ^ j : Nat) : Int) := pow_int j
  have hbt := bt_mod n j (by omega)
  rw [hc] at hbt ⊢
  have e : (BitVec.ofInt 64 n &&& BitVec.ofInt 64 ((2 ^ j : Nat) : Int)).toNat = 2 ^ j * (bt n j).toNat := by
    have h63 : (BitVec.ofInt 64 ((2 ^ j : Nat) : Int)).toNat = 2 ^ j := by rw [BitVec.toNat_ofInt]; omega
    rw [BitVec.toNat_and, h63, nat_bit, BitVec.toNat_ofInt]
    have h2 : 0 ≤ n % ((2 ^ 64 : Nat) : Int) := Int.emod_nonneg _ (by decide)
    have h3 : ((n % ((2 ^ 64 : Nat) : Int)).toNat / 2 ^ j % 2 : Nat) = (bt n j).toNat := by
      have : (((n % ((2 ^ 64 : Nat) : Int)).toNat / 2 ^ j % 2 : Nat) : Int) = bt n j := by
        rw [← hbt, Int.natCast_emod, Int.natCast_ediv, Int.toNat_of_nonneg h2]; rfl
      omega
    rw [h3, Nat.mul_comm]
  show IntKind.i64.wrap ((BitVec.ofInt 64 n &&& BitVec.ofInt 64 ((2 ^ j : Nat) : Int)).toNat : Int) = _
  rw [e]
  rcases bt_01 n j with h | h
  · simp [h, IntKind.wrap, IntKind.bits, IntKind.signed]
  · rw [h, IntWalk.i64_in _ (by simp; omega)]; simp

def extV (n k : Int) : Int := if k < 1 then 0 else if 64 ≤ k then n else wrap64 (n * 2 ^ (64 - k).toNat) / 2 ^ (64 - k).toNat
def fitB (n k : Int) : Bool := decide (1 ≤ k) && extV n k == n
/-- The lowest j bits, and the sign that bit j says. -/
def lowS (n : Int) (j : Nat) : Int := if bt n j = 1 then n % 2 ^ j - 2 ^ j else n % 2 ^ j

theorem mod_twice (n t : Int) (ht : 0 < t) : (n + t) % (2 * t) - t = if n / t % 2 = 1 then n % t - t else n % t := by
  have e := Int.mul_ediv_add_emod n t
  have m0 := Int.emod_nonneg n (by omega : t ≠ 0)
  have m1 := Int.emod_lt_of_pos n ht
  generalize n % t = r at *
  generalize n / t = q at *
  obtain ⟨s, hs⟩ : ∃ s, q = 2 * s ∨ q = 2 * s + 1 := ⟨q / 2, by omega⟩
  rcases hs with rfl | rfl
  · rw [if_neg (by omega)]
    have h1 : n + t = (r + t) + (2 * t) * s := by
      rw [← e, ← Int.mul_assoc, Int.mul_comm t 2]; omega
    rw [h1, Int.add_mul_emod_self_left, Int.emod_eq_of_lt (by omega) (by omega)]
    omega
  · rw [if_pos (by omega)]
    have h1 : n + t = r + (2 * t) * (s + 1) := by
      rw [← e, Int.mul_add, Int.mul_add, Int.mul_one, Int.mul_one, ← Int.mul_assoc, Int.mul_comm t 2]; omega
    rw [h1, Int.add_mul_emod_self_left, Int.emod_eq_of_lt m0 (by omega)]

theorem extV_mid (n k : Int) (h1 : 1 ≤ k) (h2 : k ≤ 63) : extV n k = lowS n (k - 1).toNat := by
  unfold extV lowS bt
  rw [if_neg (by omega), if_neg (by omega)]
  obtain ⟨j, hj⟩ : ∃ j : Nat, k = j + 1 := ⟨(k - 1).toNat, by omega⟩
  have ej : (k - 1).toNat = j := by omega
  have em : (64 - k).toNat = 63 - j := by omega
  rw [ej, em, ← mod_twice n (2 ^ j) (Int.pow_pos (by decide))]
  have hm : (0 : Int) < 2 ^ (63 - j) := Int.pow_pos (by decide)
  have h63 : (9223372036854775808 : Int) = 2 ^ (63 - j) * 2 ^ j := by
    rw [← Int.pow_add, show 63 - j + j = 63 by omega]; decide
  have h64 : (18446744073709551616 : Int) = 2 ^ (63 - j) * (2 * 2 ^ j) := by
    have : (18446744073709551616 : Int) = 2 * 9223372036854775808 := by decide
    rw [this, h63, ← Int.mul_assoc, ← Int.mul_assoc, Int.mul_comm 2]
  unfold wrap64
  rw [h64, h63, Int.mul_comm n, ← Int.mul_add, Int.mul_emod_mul_of_pos _ _ hm, ← Int.mul_sub, Int.mul_ediv_cancel_left _ (by omega)]
end Go.Proofs.YtldmfjedfaikkaaDoor
