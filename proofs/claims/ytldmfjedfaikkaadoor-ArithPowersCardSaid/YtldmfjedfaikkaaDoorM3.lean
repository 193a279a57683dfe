/-
  Plain facts for ArithPowers: powers of two, and the table by which their places are found.
-/
import Derived.Test.YtldmfjedfaikkaaDoorM2
namespace Go.Proofs.YtldmfjedfaikkaaDoor
open Go.RowKit

def tab : List Int := [0, 1, 56, 2, 57, 49, 28, 3, 61, 58, 42, 50, 38, 29, 17, 4, 62, 47, 59, 36, 45, 43, 51, 22, 53, 39, 33, 30, 24, 18, 12, 5, 63, 55, 48, 27, 60, 41, 37, 16, 46, 35, 44, 21, 52, 32, 23, 11, 54, 26, 40, 15, 34, 20, 31, 10, 25, 14, 19, 9, 13, 8, 7, 6]
def place (j : Nat) : Nat := 2 ^ j * 285870213051353865 % 18446744073709551616 / 288230376151711744
theorem place_tab : ∀ j, j < 64 → place j < 64 ∧ tab[place j]? = some (j : Int) := by decide +kernel
theorem low_bit : ∀ j, j < 64 → 2 ^ j &&& (18446744073709551616 - 2 ^ j) = 2 ^ j := by decide +kernel

theorem pow_lo (j : Nat) (hj : j ≤ 62) : (1 : Int) ≤ 2 ^ j ∧ (2 : Int) ^ j ≤ 4611686018427387904 := by
  have hp : (2 : Nat) ^ j ≤ 2 ^ 62 := Nat.pow_le_pow_right (by decide) hj
  have hp0 : 0 < (2 : Nat) ^ j := Nat.pow_pos (by decide)
  rw [pow_int]; omega
theorem and_neg (j : Nat) (hj : j ≤ 62) : bits .and .u64 (2 ^ j) (IntKind.u64.wrap (-2 ^ j)) = 2 ^ j := by
  have hp := pow_lo j hj
  have hn := low_bit j (by omega)
  have e1 : (BitVec.ofInt 64 ((2 : Int) ^ j)).toNat = 2 ^ j := by rw [BitVec.toNat_ofInt]; rw [pow_int] at hp ⊢; omega
  have e2 : (BitVec.ofInt 64 (IntKind.u64.wrap (-2 ^ j))).toNat = 18446744073709551616 - 2 ^ j := by rw [BitVec.toNat_ofInt, u64wrap]; rw [pow_int] at hp ⊢; omega
  show IntKind.u64.wrap ((BitVec.ofInt 64 ((2 : Int) ^ j) &&& BitVec.ofInt 64 (IntKind.u64.wrap (-2 ^ j))).toNat : Int) = _
  rw [BitVec.toNat_and, e1, e2, hn, ← pow_int, u64wrap]
  omega
theorem place_is (j : Nat) : IntKind.u64.wrap (2 ^ j * 285870213051353865) / 288230376151711744 = (place j : Nat) := by
  rw [u64wrap, pow_int]; rfl
/-- A number above 0 that has no bit in common with the number below it is a power of two. -/
theorem pow_of (n : Int) (h0 : 0 < n) (h1 : n ≤ 9223372036854775807) (h : bits .and .i64 n (n - 1) = 0) : ∃ j : Nat, j ≤ 62 ∧ n = 2 ^ j := by
  obtain ⟨m, rfl⟩ : ∃ m : Nat, n = m := ⟨n.toNat, by omega⟩
  have e1 : (BitVec.ofInt 64 (m : Int)).toNat = m := by rw [BitVec.toNat_ofInt]; omega
  have e2 : (BitVec.ofInt 64 ((m : Int) - 1)).toNat = m - 1 := by rw [BitVec.toNat_ofInt]; omega
  have h2 : IntKind.i64.wrap ((BitVec.ofInt 64 (m : Int) &&& BitVec.ofInt 64 ((m : Int) - 1)).toNat : Int) = 0 := h
  rw [BitVec.toNat_and, e1, e2] at h2
  have hle : m &&& (m - 1) ≤ m := Nat.and_le_left
  rw [IntWalk.i64_in _ (by omega)] at h2
  have h3 : m &&& (m - 1) = 0 := by omega
  have hl := Nat.log2_self_le (n := m) (by omega)
  have hu := @Nat.lt_log2_self m
  refine ⟨m.log2, ?_, ?_⟩
  · have : m.log2 < 63 := (Nat.log2_lt (by omega)).mpr (by omega)
    omega
  · rw [pow_int]
    by_cases he : m = 2 ^ m.log2
    · omega
    · exfalso
      have ht : (m &&& (m - 1)).testBit m.log2 = true := by
        have hp : 0 < 2 ^ m.log2 := Nat.pow_pos (by decide)
        have q1 : m / 2 ^ m.log2 = 1 := by
          refine Nat.div_eq_of_lt_le (by omega) ?_
          rw [Nat.pow_succ] at hu; omega
        have q2 : (m - 1) / 2 ^ m.log2 = 1 := by
          refine Nat.div_eq_of_lt_le (by omega) ?_
          rw [Nat.pow_succ] at hu; omega
        rw [Nat.testBit_and, Nat.testBit_eq_decide_div_mod_eq, Nat.testBit_eq_decide_div_mod_eq, q1, q2]; rfl
      rw [h3] at ht
      simp at ht
end Go.Proofs.YtldmfjedfaikkaaDoor
