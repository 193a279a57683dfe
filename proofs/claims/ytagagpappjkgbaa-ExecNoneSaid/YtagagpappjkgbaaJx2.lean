/-
  Plain facts on numbers of 64 bits: what the walk's operations come to.
  What package arith answers, and that it leaves the world alone.
-/
import Derived.WalkKit
import Derived.IntWalk
import Derived.Test.YtagagpappjkgbaaRows
import Derived.WalkSpells
import Derived.WalkLawsBesides
import Derived.BigQuiet
import Derived.Deep.QuietTactic
namespace Go.Proofs.Ytagagpappjkgbaa
set_option linter.unusedVariables false
set_option linter.unusedSimpArgs false
open Go.RowKit

theorem and63 (b : Int) : bits .and .i64 b 63 = b % 64 := by
  have e : (BitVec.ofInt 64 b &&& BitVec.ofInt 64 63).toNat = (b % 64).toNat := by
    have h63 : (BitVec.ofInt 64 63).toNat = 2 ^ 6 - 1 := by decide
    rw [BitVec.toNat_and, h63, Nat.and_two_pow_sub_one_eq_mod, BitVec.toNat_ofInt]
    omega
  show IntKind.i64.wrap ((BitVec.ofInt 64 b &&& BitVec.ofInt 64 63).toNat : Int) = _
  rw [e, IntWalk.i64_in _ (by omega)]
  omega

theorem u64wrap (a : Int) : IntKind.u64.wrap a = a % 18446744073709551616 := IntKind.wrap_u64 a

/-- A bit of a number. -/
def bt (a : Int) (i : Nat) : Int := a / 2 ^ i % 2
theorem xor_all (a : Int) : bits .xor .i64 (-1) a = wrap64 (-a - 1) := by
  have e : (BitVec.ofInt 64 (-1) ^^^ BitVec.ofInt 64 a).toNat = 2 ^ 64 - 1 - (a % 18446744073709551616).toNat := by
    have h1 : BitVec.ofInt 64 (-1) = BitVec.allOnes 64 := by decide
    rw [h1, BitVec.allOnes_xor, BitVec.toNat_not, BitVec.toNat_ofInt]
    rfl
  show IntKind.i64.wrap ((BitVec.ofInt 64 (-1) ^^^ BitVec.ofInt 64 a).toNat : Int) = _
  rw [e, IntKind.wrap_i64]
  unfold wrap64
  omega

def bitI (p : Bool) : Int := if p = true then 1 else 0
/-- What an operation of two numbers comes to, and whether it is one. -/
def opV (op a b : Int) : Int :=
  if op = 4 then wrap64 (a + b) else if op = 5 then wrap64 (a - b) else if op = 6 then wrap64 (a * b)
  else if op = 7 then (if b = 0 then 0 else wrap64 (a.tdiv b)) else if op = 8 then (if b = 0 then 0 else a.tmod b)
  else if op = 9 then bits .and .i64 a b else if op = 10 then bits .or .i64 a b else if op = 11 then bits .xor .i64 a b
  else if op = 12 then wrap64 (a * 2 ^ (b % 64).toNat) else if op = 13 then a / 2 ^ (b % 64).toNat else if op = 14 then wrap64 (a % 18446744073709551616 / 2 ^ (b % 64).toNat)
  else if op = 17 then bitI (a == b) else if op = 18 then bitI (a != b) else if op = 19 then bitI (decide (a < b)) else if op = 20 then bitI (decide (a ≤ b))
  else if op = 21 then bitI (decide (b < a)) else if op = 22 then bitI (decide (b ≤ a)) else if op = 23 then bitI (decide (a % 18446744073709551616 < b % 18446744073709551616))
  else 0
def binB (op : Int) : Bool := decide (4 ≤ op ∧ op ≤ 14 ∨ 17 ≤ op ∧ op ≤ 23)
def opOk (op b : Int) : Bool := binB op && !(decide ((op = 7 ∨ op = 8) ∧ b = 0))
def oneV (op a : Int) : Int := if op = 15 then wrap64 (-a) else if op = 16 then wrap64 (-a - 1) else if op = 24 then bitI (a == 0) else 0
def oneOk (op : Int) : Bool := decide (op = 15 ∨ op = 16 ∨ op = 24)
end Go.Proofs.Ytagagpappjkgbaa
namespace Go.Proofs.Ytagagpappjkgbaa
set_option linter.unusedVariables false
set_option linter.unusedSimpArgs false
open Go.RowKit

theorem ret_int {k : IntKind} {a b : Int} (h : a = b) : Ending.returned (.int k a) = .returned (.int k b) := by rw [h]
theorem ret_two {k : IntKind} {a b : Int} {p q : Bool} (h : a = b) (e : p = q) : Ending.returned (.tuple #[.int k a, .bool p]) = .returned (.tuple #[.int k b, .bool q]) := by rw [h, e]
theorem ret_bool {p q : Bool} (e : p = q) : Ending.returned (.bool p) = .returned (.bool q) := by rw [e]

set_option maxHeartbeats 400000 in
theorem abit_any (p : Bool) (w : World) : Calls Try.prog 150 #[.bool p] w fun e w' => e = .returned (.int .i64 (bitI p)) ∧ w = w' := by
  cases p
  all_goals
    go_enter Try.func150, Try.ntmps150
    go_wp2
    go_ret
    exact ⟨rfl, rfl⟩


set_option maxHeartbeats 400000 in
theorem places_any (b : Int) (w : World) : Calls Try.prog 152 #[.int .i64 b] w fun e w' => e = .returned (.int .u64 (b % 64)) ∧ w = w' := by
  go_enter Try.func152, Try.ntmps152
  go_wp2
  go_ret
  exact ⟨ret_int (by rw [and63, IntWalk.u64_in _ (by omega)]), rfl⟩


set_option maxHeartbeats 400000 in
theorem divide_any (op a b : Int) (h : op = 7 ∨ op = 8) (w : World) : Calls Try.prog 151 #[.int .i64 op, .int .i64 a, .int .i64 b] w fun e w' => e = .returned (.tuple #[.int .i64 (opV op a b), .bool (opOk op b)]) ∧ w = w' := by
  by_cases hb : b = 0
  · subst hb
    rcases h with rfl | rfl
    all_goals
      go_enter Try.func151, Try.ntmps151
      go_wp2
      go_ret2
      exact ⟨rfl, rfl⟩
  · rcases h with rfl | rfl
    all_goals
      go_enter Try.func151, Try.ntmps151
      go_wp2
      go_ret2
      exact ⟨ret_two (by simp [opV, hb]) (by simp [opOk, binB, hb]), rfl⟩

set_option maxHeartbeats 1000000 in
theorem compare_any (op a b : Int) (h : ¬ (4 ≤ op ∧ op ≤ 14)) (w : World) : Calls Try.prog 153 #[.int .i64 op, .int .i64 a, .int .i64 b] w fun e w' => e = .returned (.tuple #[.int .i64 (opV op a b), .bool (opOk op b)]) ∧ w = w' := by
  have cases7 : op = 17 ∨ op = 18 ∨ op = 19 ∨ op = 20 ∨ op = 21 ∨ op = 22 ∨ op = 23 ∨ (op < 17 ∨ 23 < op) := by omega
  rcases cases7 with rfl | rfl | rfl | rfl | rfl | rfl | rfl | hd
  case inr.inr.inr.inr.inr.inr.inr =>
    go_enter Try.func153, Try.ntmps153
    go_wp2
    all_goals
      go_ret2
      exact ⟨ret_two (by unfold opV; repeat (rw [if_neg (by omega)])) (by unfold opOk binB; rw [decide_eq_false (by omega)]; rfl), rfl⟩
  all_goals
    clear h
    go_enter Try.func153, Try.ntmps153
    go_wp2_with (go_at_call 150; refine (abit_any _ _).mono ?_; rintro e w' ⟨rfl, rfl⟩)
    go_ret2
    exact ⟨ret_two (by simp [opV, u64wrap]) (by simp [opOk, binB]), rfl⟩


set_option maxHeartbeats 1000000 in
theorem do_any (op a b : Int) (w : World) : Calls Try.prog 133 #[.int .i64 op, .int .i64 a, .int .i64 b] w fun e w' => e = .returned (.tuple #[.int .i64 (opV op a b), .bool (opOk op b)]) ∧ w = w' := by
  have hs : op = 4 ∨ op = 5 ∨ op = 6 ∨ op = 7 ∨ op = 8 ∨ op = 9 ∨ op = 10 ∨ op = 11 ∨ op = 12 ∨ op = 13 ∨ op = 14 ∨ (op < 4 ∨ 14 < op) := by omega
  have hp : 0 ≤ b % 64 ∧ b % 64 ≤ 63 := by omega
  rcases hs with rfl | rfl | rfl | rfl | rfl | rfl | rfl | rfl | rfl | rfl | rfl | hd
  case inr.inr.inr.inr.inr.inr.inr.inr.inr.inr.inr =>
    go_enter Try.func133, Try.ntmps133
    go_wp2_with (go_at_call 153; refine (compare_any _ _ _ (by omega) _).mono ?_; rintro e w' ⟨rfl, rfl⟩)
    all_goals
      go_ret2
      exact ⟨rfl, rfl⟩
  all_goals
    go_enter Try.func133, Try.ntmps133
    go_wp2_with (first | (go_at_call 152; refine (places_any _ _).mono ?_; rintro e w' ⟨rfl, rfl⟩) | (go_at_call 151; refine (divide_any _ _ _ (by omega) _).mono ?_; rintro e w' ⟨rfl, rfl⟩))
    go_ret2
    exact ⟨ret_two (by simp [opV, u64wrap]) (by simp [opOk, binB]), rfl⟩

set_option maxHeartbeats 1000000 in
theorem aone_any (op a : Int) (w : World) : Calls Try.prog 132 #[.int .i64 op, .int .i64 a] w fun e w' => e = .returned (.tuple #[.int .i64 (oneV op a), .bool (oneOk op)]) ∧ w = w' := by
  have hs : op = 15 ∨ op = 16 ∨ op = 24 ∨ (op ≠ 15 ∧ op ≠ 16 ∧ op ≠ 24) := by omega
  rcases hs with rfl | rfl | rfl | ⟨h1, h2, h3⟩
  case inr.inr.inr =>
    go_enter Try.func132, Try.ntmps132
    go_wp2
    go_ret2
    exact ⟨ret_two (by simp [oneV, h1, h2, h3]) (by simp [oneOk, h1, h2, h3]), rfl⟩
  all_goals
    go_enter Try.func132, Try.ntmps132
    go_wp2_with (go_at_call 150; refine (abit_any _ _).mono ?_; rintro e w' ⟨rfl, rfl⟩)
    go_ret2
    exact ⟨ret_two (by simp [oneV, xor_all]) (by simp [oneOk]), rfl⟩

set_option maxHeartbeats 1000000 in
theorem unary_any (op : Int) (w : World) : Calls Try.prog 131 #[.int .i64 op] w fun e w' => e = .returned (.bool (oneOk op)) ∧ w = w' := by
  have hs : op = 15 ∨ op = 16 ∨ op = 24 ∨ (op ≠ 15 ∧ op ≠ 16 ∧ op ≠ 24) := by omega
  rcases hs with rfl | rfl | rfl | ⟨h1, h2, h3⟩
  all_goals
    go_enter Try.func131, Try.ntmps131
    go_wp2
    go_ret
    exact ⟨ret_bool (by unfold oneOk; first | exact (decide_eq_true (by omega)).symm | exact (decide_eq_false (by omega)).symm | (rw [Bool.eq_iff_iff]; simp; omega)), rfl⟩
end Go.Proofs.Ytagagpappjkgbaa
