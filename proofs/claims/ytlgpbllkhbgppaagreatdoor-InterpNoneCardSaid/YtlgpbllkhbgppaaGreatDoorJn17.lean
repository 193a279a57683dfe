/-
  What signs say.
-/
import Derived.Test.YtlgpbllkhbgppaaGreatDoorJn10
namespace Go.Proofs.YtlgpbllkhbgppaaGreatDoor
set_option linter.unusedVariables false
set_option linter.unusedSimpArgs false
open Go.RowKit

theorem ret_is {k : IntKind} {a b : Int} (h : a = b) : Ending.returned (.int k a) = .returned (.int k b) := by rw [h]
set_option maxRecDepth 100000 in
set_option maxHeartbeats 4000000 in
theorem rankOf_any (b : List UInt8) (w : World) : Calls Tryz.prog 148 #[.string ⟨b.toArray⟩] w fun e w' => e = .returned (.int .i64 (rankOf b)) ∧ w = w' := by
  go_enter Tryz.func148, Tryz.ntmps148
  go_wp2
  all_goals
    go_ret
    exact ⟨ret_is (by first | (exfalso; simp_all; done) | (simp [rankOf, *]; done)), rfl⟩
set_option maxRecDepth 100000 in
set_option maxHeartbeats 4000000 in
theorem kindOf_any (r : Int) (w : World) : Calls Tryz.prog 149 #[.int .i64 r] w fun e w' => e = .returned (.int .i64 (kindOf r)) ∧ w = w' := by
  go_enter Tryz.func149, Tryz.ntmps149
  go_wp2
  all_goals
    go_ret
    exact ⟨ret_is (by simp_all [kindOf]), rfl⟩
set_option maxRecDepth 100000 in
set_option maxHeartbeats 4000000 in
theorem turning_any (b : List UInt8) (w : World) : Calls Tryz.prog 155 #[.string ⟨b.toArray⟩] w fun e w' => e = .returned (.int .i64 (turnOf b)) ∧ w = w' := by
  go_enter Tryz.func155, Tryz.ntmps155
  go_wp2
  all_goals
    go_ret
    exact ⟨ret_is (by first | (exfalso; simp_all; done) | (simp [turnOf, *]; done)), rfl⟩
/-- What a comparison says. -/
def cmpOf (x : List UInt8) : Int := if x == [61, 61] then 17 else if x == [33, 61] then 18 else if x == [60] then 19 else if x == [60, 61] then 20 else if x == [62] then 21 else if x == [62, 61] then 22 else 0
set_option maxRecDepth 100000 in
set_option maxHeartbeats 4000000 in
theorem comparison_any (b : List UInt8) (w : World) : Calls Tryz.prog 157 #[.string ⟨b.toArray⟩] w fun e w' => e = .returned (.int .i64 (cmpOf b)) ∧ w = w' := by
  go_enter Tryz.func157, Tryz.ntmps157
  go_wp2
  all_goals
    go_ret
    exact ⟨ret_is (by first | (exfalso; simp_all; done) | (simp [cmpOf, *]; done)), rfl⟩
set_option maxRecDepth 100000 in
set_option maxHeartbeats 4000000 in
theorem operation_any (b : List UInt8) (w : World) : Calls Tryz.prog 150 #[.string ⟨b.toArray⟩] w fun e w' => e = .returned (.int .i64 (opOf b)) ∧ w = w' := by
  have hC := comparison_any b w
  obtain ⟨c, hc⟩ : ∃ c, c = cmpOf b := ⟨_, rfl⟩
  have Hc := Lib.hid hc
  rw [← hc] at hC
  clear hc
  go_enter Tryz.func150, Tryz.ntmps150
  go_wp2_with (go_at_call 157; refine hC.mono ?_; rintro e w1 ⟨rfl, rfl⟩)
  all_goals
    go_ret
    exact ⟨ret_is (by first | (exfalso; simp_all; done) | (simp [opOf, *]; done) | (rw [Hc.out]; simp [opOf, cmpOf, *]; done)), rfl⟩
set_option maxRecDepth 100000 in
set_option maxHeartbeats 4000000 in
theorem measure_any (b : List UInt8) (w : World) : Calls Tryz.prog 170 #[.string ⟨b.toArray⟩] w fun e w' => e = .returned (.int .i64 (if b == [108, 101, 110] then 11 else if b == [114, 111, 119, 115] then 12 else 13)) ∧ w = w' := by
  go_enter Tryz.func170, Tryz.ntmps170
  go_wp2
  all_goals
    go_ret
    exact ⟨ret_is (by first | (exfalso; simp_all; done) | (simp [*]; done)), rfl⟩
end Go.Proofs.YtlgpbllkhbgppaaGreatDoor
