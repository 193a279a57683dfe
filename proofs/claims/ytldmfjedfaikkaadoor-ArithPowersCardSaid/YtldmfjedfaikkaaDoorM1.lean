/-
  Plain facts on numbers of 64 bits: what the walk's operations come to.
-/
import Derived.WalkKit
import Derived.IntWalk
namespace Go.Proofs.YtldmfjedfaikkaaDoor
open Go.RowKit

theorem and63 (b : Int) : bits .and .i64 b 63 = b % 64 := by
  have e : (BitVec.ofInt 64 b &&& BitVec.ofInt 64 63).toNat = (b % 64).toNat := by
    have h63 : (BitVec.ofInt 64 63).toNat = 2 ^ 6 - 1 := by decide
    rw [BitVec.toNat_and, h63, Nat.and_two_pow_sub_one_eq_mod, BitVec.toNat_ofInt]
    omega
  show IntKind.i64.wrap ((BitVec.ofInt 64 b &&& BitVec.ofInt 64 63).toNat : Int) = _
  rw [e, IntWalk.i64_in _ (by omega)]
  omega

theorem and1u (x : Int) : bits .and .u64 x 1 = x % 2 := by
  have e : (BitVec.ofInt 64 x &&& BitVec.ofInt 64 1).toNat = (x % 2).toNat := by
    have h1 : (BitVec.ofInt 64 1).toNat = 2 ^ 1 - 1 := by decide
    rw [BitVec.toNat_and, h1, Nat.and_two_pow_sub_one_eq_mod, BitVec.toNat_ofInt]
    omega
  show IntKind.u64.wrap ((BitVec.ofInt 64 x &&& BitVec.ofInt 64 1).toNat : Int) = _
  rw [e, IntWalk.u64_in _ (by omega)]
  omega

theorem u64wrap (a : Int) : IntKind.u64.wrap a = a % 18446744073709551616 := IntKind.wrap_u64 a

/-- A bit of a number. -/
def bt (a : Int) (i : Nat) : Int := a / 2 ^ i % 2
theorem bt_01 (a : Int) (i : Nat) : bt a i = 0 ∨ bt a i = 1 := by unfold bt; omega
theorem bt_nn (a : Int) (i : Nat) : 0 ≤ bt a i ∧ bt a i ≤ 1 := by unfold bt; omega

theorem bt_mod (a : Int) (i : Nat) (h : i < 64) : a % 18446744073709551616 / 2 ^ i % 2 = bt a i := by
  unfold bt
  obtain ⟨k, hk⟩ : ∃ k, 64 = i + (k + 1) := ⟨63 - i, by omega⟩
  have h64 : (18446744073709551616 : Int) = 2 ^ i * (2 * 2 ^ k) := by
    have : (18446744073709551616 : Int) = 2 ^ 64 := by decide
    rw [this, hk, Int.pow_add, Int.pow_succ, Int.mul_comm (2 ^ k) 2]
  have hp : (0 : Int) < 2 ^ i := Int.pow_pos (by decide)
  have e : a % 18446744073709551616 / 2 ^ i = a / 2 ^ i - 2 * (2 ^ k * (a / 18446744073709551616)) := by
    rw [Int.emod_def]
    generalize a / 18446744073709551616 = q
    have hN : 18446744073709551616 * q = 2 ^ i * (2 * (2 ^ k * q)) := by rw [h64]; simp only [Int.mul_assoc]
    have : a - 18446744073709551616 * q = a + 2 ^ i * (-(2 * (2 ^ k * q))) := by rw [hN, Int.mul_neg, Int.sub_eq_add_neg]
    rw [this, Int.add_mul_ediv_left _ _ (by omega)]
    omega
  rw [e]
  omega

theorem xor_all (a : Int) : bits .xor .i64 (-1) a = wrap64 (-a - 1) := by
  have e : (BitVec.ofInt 64 (-1) ^^^ BitVec.ofInt 64 a).toNat = 2 ^ 64 - 1 - (a % 18446744073709551616).toNat := by
    have h1 : BitVec.ofInt 64 (-1) = BitVec.allOnes 64 := by decide
    rw [h1, BitVec.allOnes_xor, BitVec.toNat_not, BitVec.toNat_ofInt]
    rfl
  show IntKind.i64.wrap ((BitVec.ofInt 64 (-1) ^^^ BitVec.ofInt 64 a).toNat : Int) = _
  rw [e, IntKind.wrap_i64]
  unfold wrap64
  omega

def bitI (p : Bool) : Int := if p = true then 1 else 0
theorem bitI_01 (p : Bool) : bitI p = 0 ∨ bitI p = 1 := by cases p <;> simp [bitI]

/-- What an operation of two numbers comes to, and whether it is one. -/
def opV (op a b : Int) : Int :=
  if op = 4 then wrap64 (a + b) else if op = 5 then wrap64 (a - b) else if op = 6 then wrap64 (a * b)
  else if op = 7 then (if b = 0 then 0 else wrap64 (a.tdiv b)) else if op = 8 then (if b = 0 then 0 else a.tmod b)
  else if op = 9 then bits .and .i64 a b else if op = 10 then bits .or .i64 a b else if op = 11 then bits .xor .i64 a b
  else if op = 12 then wrap64 (a * 2 ^ (b % 64).toNat) else if op = 13 then a / 2 ^ (b % 64).toNat else if op = 14 then wrap64 (a % 18446744073709551616 / 2 ^ (b % 64).toNat)
  else if op = 17 then bitI (a == b) else if op = 18 then bitI (a != b) else if op = 19 then bitI (decide (a < b)) else if op = 20 then bitI (decide (a ≤ b))
  else if op = 21 then bitI (decide (b < a)) else if op = 22 then bitI (decide (b ≤ a)) else if op = 23 then bitI (decide (a % 18446744073709551616 < b % 18446744073709551616))
  else 0
def binB (op : Int) : Bool := decide (4 ≤ op ∧ op ≤ 14 ∨ 17 ≤ op ∧ op ≤ 23)
def opOk (op b : Int) : Bool := binB op && !(decide ((op = 7 ∨ op = 8) ∧ b = 0))
def oneV (op a : Int) : Int := if op = 15 then wrap64 (-a) else if op = 16 then wrap64 (-a - 1) else if op = 24 then bitI (a == 0) else 0
def oneOk (op : Int) : Bool := decide (op = 15 ∨ op = 16 ∨ op = 24)
end Go.Proofs.YtldmfjedfaikkaaDoor
