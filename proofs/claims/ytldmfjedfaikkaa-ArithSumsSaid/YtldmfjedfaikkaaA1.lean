/-
  What the small functions of package arith answer, and that they leave the world alone.
-/
import Derived.Test.YtldmfjedfaikkaaRows
import Derived.WalkKit
import Derived.WalkSpells
import Derived.WalkLawsBesides
import Derived.BigQuiet
import Derived.Deep.QuietTactic
import Derived.Test.YtldmfjedfaikkaaM1
namespace Go.Proofs.Ytldmfjedfaikkaa
open Go.RowKit

theorem ret_int {k : IntKind} {a b : Int} (h : a = b) : Ending.returned (.int k a) = .returned (.int k b) := by rw [h]
theorem ret_two {k : IntKind} {a b : Int} {p q : Bool} (h : a = b) (e : p = q) : Ending.returned (.tuple #[.int k a, .bool p]) = .returned (.tuple #[.int k b, .bool q]) := by rw [h, e]
theorem ret_bool {p q : Bool} (e : p = q) : Ending.returned (.bool p) = .returned (.bool q) := by rw [e]

set_option maxHeartbeats 400000 in
theorem abit_any (p : Bool) (w : World) : Calls Try.prog 39 #[.bool p] w fun e w' => e = .returned (.int .i64 (bitI p)) ∧ w = w' := by
  cases p
  all_goals
    go_enter Try.func39, Try.ntmps39
    go_wp2
    go_ret
    exact ⟨rfl, rfl⟩

set_option maxHeartbeats 400000 in
theorem rone_any (p : Bool) (w : World) : Calls Try.prog 36 #[.bool p] w fun e w' => e = .returned (.int .i64 (bitI p)) ∧ w = w' := by
  cases p
  all_goals
    go_enter Try.func36, Try.ntmps36
    go_wp2
    go_ret
    exact ⟨rfl, rfl⟩

set_option maxHeartbeats 400000 in
theorem places_any (b : Int) (w : World) : Calls Try.prog 29 #[.int .i64 b] w fun e w' => e = .returned (.int .u64 (b % 64)) ∧ w = w' := by
  go_enter Try.func29, Try.ntmps29
  go_wp2
  go_ret
  exact ⟨ret_int (by rw [and63, IntWalk.u64_in _ (by omega)]), rfl⟩

set_option maxHeartbeats 400000 in
theorem rbit_any (a : Int) (i : Int) (h0 : 0 ≤ i) (h1 : i < 64) (w : World) : Calls Try.prog 35 #[.int .i64 a, .int .i64 i] w fun e w' => e = .returned (.int .i64 (bt a i.toNat)) ∧ w = w' := by
  go_enter Try.func35, Try.ntmps35
  go_wp2
  go_ret
  exact ⟨ret_int (by rw [and1u, u64wrap, bt_mod _ _ (by omega)]; have := bt_nn a i.toNat; exact IntWalk.wrap64_in _ (by omega)), rfl⟩

set_option maxHeartbeats 400000 in
theorem divide_any (op a b : Int) (h : op = 7 ∨ op = 8) (w : World) : Calls Try.prog 28 #[.int .i64 op, .int .i64 a, .int .i64 b] w fun e w' => e = .returned (.tuple #[.int .i64 (opV op a b), .bool (opOk op b)]) ∧ w = w' := by
  by_cases hb : b = 0
  · subst hb
    rcases h with rfl | rfl
    all_goals
      go_enter Try.func28, Try.ntmps28
      go_wp2
      go_ret2
      exact ⟨rfl, rfl⟩
  · rcases h with rfl | rfl
    all_goals
      go_enter Try.func28, Try.ntmps28
      go_wp2
      go_ret2
      exact ⟨ret_two (by simp [opV, hb]) (by simp [opOk, binB, hb]), rfl⟩

set_option maxHeartbeats 1000000 in
theorem compare_any (op a b : Int) (h : ¬ (4 ≤ op ∧ op ≤ 14)) (w : World) : Calls Try.prog 30 #[.int .i64 op, .int .i64 a, .int .i64 b] w fun e w' => e = .returned (.tuple #[.int .i64 (opV op a b), .bool (opOk op b)]) ∧ w = w' := by
  have cases7 : op = 17 ∨ op = 18 ∨ op = 19 ∨ op = 20 ∨ op = 21 ∨ op = 22 ∨ op = 23 ∨ (op < 17 ∨ 23 < op) := by omega
  rcases cases7 with rfl | rfl | rfl | rfl | rfl | rfl | rfl | hd
  case inr.inr.inr.inr.inr.inr.inr =>
    go_enter Try.func30, Try.ntmps30
    go_wp2
    all_goals
      go_ret2
      exact ⟨ret_two (by unfold opV; repeat (rw [if_neg (by omega)])) (by unfold opOk binB; rw [decide_eq_false (by omega)]; rfl), rfl⟩
  all_goals
    clear h
    go_enter Try.func30, Try.ntmps30
    go_wp2_with (go_at_call 39; refine (abit_any _ _).mono ?_; rintro e w' ⟨rfl, rfl⟩)
    go_ret2
    exact ⟨ret_two (by simp [opV, u64wrap]) (by simp [opOk, binB]), rfl⟩
end Go.Proofs.Ytldmfjedfaikkaa
