/-
  What signs say.
-/
import Derived.Test.YtiadbeglhnocoaaGreatDoorJb16
namespace Go.Proofs.YtiadbeglhnocoaaGreatDoor
set_option linter.unusedVariables false
set_option linter.unusedSimpArgs false
open Go.RowKit

theorem ret_is {k : IntKind} {a b : Int} (h : a = b) : Ending.returned (.int k a) = .returned (.int k b) := by rw [h]
set_option maxRecDepth 100000 in
set_option maxHeartbeats 4000000 in
theorem rankOf_any (b : List UInt8) (w : World) : Calls Tryz.prog 107 #[.string ⟨b.toArray⟩] w fun e w' => e = .returned (.int .i64 (rankOf b)) ∧ w = w' := by
  go_enter Tryz.func107, Tryz.ntmps107
  go_wp2
  all_goals
    go_ret
    exact ⟨ret_is (by first | (exfalso; simp_all; done) | (simp [rankOf, *]; done)), rfl⟩
set_option maxRecDepth 100000 in
set_option maxHeartbeats 4000000 in
theorem kindOf_any (r : Int) (w : World) : Calls Tryz.prog 108 #[.int .i64 r] w fun e w' => e = .returned (.int .i64 (kindOf r)) ∧ w = w' := by
  go_enter Tryz.func108, Tryz.ntmps108
  go_wp2
  all_goals
    go_ret
    exact ⟨ret_is (by simp_all [kindOf]), rfl⟩
set_option maxRecDepth 100000 in
set_option maxHeartbeats 4000000 in
theorem turning_any (b : List UInt8) (w : World) : Calls Tryz.prog 115 #[.string ⟨b.toArray⟩] w fun e w' => e = .returned (.int .i64 (turnOf b)) ∧ w = w' := by
  go_enter Tryz.func115, Tryz.ntmps115
  go_wp2
  all_goals
    go_ret
    exact ⟨ret_is (by first | (exfalso; simp_all; done) | (simp [turnOf, *]; done)), rfl⟩
/-- What a comparison says. -/
def cmpOf (x : List UInt8) : Int := if x == [61, 61] then 17 else if x == [33, 61] then 18 else if x == [60] then 19 else if x == [60, 61] then 20 else if x == [62] then 21 else if x == [62, 61] then 22 else 0
set_option maxRecDepth 100000 in
set_option maxHeartbeats 4000000 in
theorem comparison_any (b : List UInt8) (w : World) : Calls Tryz.prog 117 #[.string ⟨b.toArray⟩] w fun e w' => e = .returned (.int .i64 (cmpOf b)) ∧ w = w' := by
  go_enter Tryz.func117, Tryz.ntmps117
  go_wp2
  all_goals
    go_ret
    exact ⟨ret_is (by first | (exfalso; simp_all; done) | (simp [cmpOf, *]; done)), rfl⟩
set_option maxRecDepth 100000 in
set_option maxHeartbeats 4000000 in
theorem operation_any (b : List UInt8) (w : World) : Calls Tryz.prog 109 #[.string ⟨b.toArray⟩] w fun e w' => e = .returned (.int .i64 (opOf b)) ∧ w = w' := by
  have hC := comparison_any b w
  obtain ⟨c, hc⟩ : ∃ c, c = cmpOf b := ⟨_, rfl⟩
  have Hc := Lib.hid hc
  rw [← hc] at hC
  clear hc
  go_enter Tryz.func109, Tryz.ntmps109
  go_wp2_with (go_at_call 117; refine hC.mono ?_; rintro e w1 ⟨rfl, rfl⟩)
  all_goals
    go_ret
    exact ⟨ret_is (by first | (exfalso; simp_all; done) | (simp [opOf, *]; done) | (rw [Hc.out]; simp [opOf, cmpOf, *]; done)), rfl⟩
set_option maxRecDepth 100000 in
set_option maxHeartbeats 4000000 in
theorem measure_any (b : List UInt8) (w : World) : Calls Tryz.prog 130 #[.string ⟨b.toArray⟩] w fun e w' => e = .returned (.int .i64 (if b == [108, 101, 110] then 11 else if b == [114, 111, 119, 115] then 12 else 13)) ∧ w = w' := by
  go_enter Tryz.func130, Tryz.ntmps130
  go_wp2
  all_goals
    go_ret
    exact ⟨ret_is (by first | (exfalso; simp_all; done) | (simp [*]; done)), rfl⟩
end Go.Proofs.YtiadbeglhnocoaaGreatDoor
