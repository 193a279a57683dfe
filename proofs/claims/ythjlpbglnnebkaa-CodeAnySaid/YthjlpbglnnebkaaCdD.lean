/-
  Programs as bytes: signs.
-/
import Derived.Test.YthjlpbglnnebkaaCdC
namespace Go.Proofs.Ythjlpbglnnebkaa
open Go.RowKit
set_option linter.unusedVariables false
set_option linter.unusedSimpArgs false

def signQ (n : Int) : Nat := if n < 0 then 2 * (-(n + 1)).toNat + 1 else 2 * n.toNat
def unsQ (n : Nat) : Int := if n % 2 = 1 then -((n / 2 : Nat) : Int) - 1 else ((n / 2 : Nat) : Int)
theorem uns_sign (n : Int) : unsQ (signQ n) = n := by
  unfold unsQ signQ
  split <;> split <;> omega
theorem signQ_lt (n : Int) (h : InG n) : signQ n < 18446744073709551616 := by
  unfold signQ InG at *
  split <;> omega
set_option maxRecDepth 100000 in
set_option maxHeartbeats 4000000 in
theorem sign_c (n : Int) (hn : InG n) (w : World) : Calls Try.prog 9 #[.int .i64 n] w fun e w' => e = .returned (.int .u64 (signQ n : Int)) ∧ w' = w := by
  unfold InG at hn
  by_cases h : n < 0
  · have e : (signQ n : Int) = 2 * -(n + 1) + 1 := by unfold signQ; rw [if_pos h]; omega
    have d : decide (n < 0) = true := decide_eq_true h
    rw [e]
    clear e
    go_enter Try.func9, Try.ntmps9
    go_wp2
    go_ret
    exact ⟨rfl, rfl⟩
  · have e : (signQ n : Int) = 2 * n := by unfold signQ; rw [if_neg h]; omega
    have d : decide (n < 0) = false := decide_eq_false h
    rw [e]
    clear e
    go_enter Try.func9, Try.ntmps9
    go_wp2
    go_ret
    exact ⟨rfl, rfl⟩
set_option maxRecDepth 100000 in
set_option maxHeartbeats 4000000 in
theorem unsign_c (n : Nat) (hn : n < 18446744073709551616) (w : World) : Calls Try.prog 17 #[.int .u64 (n : Int)] w fun e w' => e = .returned (.int .i64 (unsQ n)) ∧ w' = w := by
  by_cases h : n % 2 = 1
  · have e : unsQ n = -((n : Int) / 2) - 1 := by unfold unsQ; rw [if_pos h]; omega
    have d : ((n : Int) % 2 == 1) = true := by simp; omega
    rw [e]
    clear e h
    go_enter Try.func17, Try.ntmps17
    go_wp2
    go_ret
    exact ⟨rfl, rfl⟩
  · have e : unsQ n = (n : Int) / 2 := by unfold unsQ; rw [if_neg h]; omega
    have d : ((n : Int) % 2 == 1) = false := by simp; omega
    rw [e]
    clear e h
    go_enter Try.func17, Try.ntmps17
    go_wp2
    go_ret
    exact ⟨rfl, rfl⟩
end Go.Proofs.Ythjlpbglnnebkaa
