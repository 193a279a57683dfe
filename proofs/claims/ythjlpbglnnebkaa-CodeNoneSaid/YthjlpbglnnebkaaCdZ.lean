/-
  Programs as bytes: no reader reads nothing; nothing is no program.
-/
import Derived.Test.YthjlpbglnnebkaaCdY
namespace Go.Proofs.Ythjlpbglnnebkaa
open Go.RowKit Go.Shelf
set_option linter.unusedVariables false
set_option linter.unusedSimpArgs false

set_option maxRecDepth 100000 in
set_option maxHeartbeats 8000000 in
theorem codeNone_any (n : Int) (w : World) : Calls Try.prog 6 #[.int .i64 n] w fun e w' => e = .returned (.bool true) ∧ Below w.heap.size w w' := by
  have hD : Calls Try.prog 22 #[.string ⟨#[]⟩] w fun e w' => e = .returned (.tuple #[.agg #[.slice none 0 0, .int .i64 0], .bool false]) ∧ Below w.heap.size w w' := by
    have h := decode_c [] (by simp) w
    rw [show decodeQ [] = none from by kernel_rfl] at h
    exact h
  have hA := fun X => awake12_any X
  have hO := fun X => ok_nil X
  have hL := fun X => left_nil X
  have hN : ∀ X, Calls Try.prog 10 #[.pointer none, .int .u64 5] X fun e w' => e = .returned (.int .u64 0) ∧ w' = X := fun X => num_nil 5 X
  have hI := fun X => int_nil X
  have hT := fun X => text_nil n X
  go_enter Try.func6, Try.ntmps6
  go_upto_region 3 with (go_at_call 22; refine hD.mono ?_; rintro e w1 ⟨rfl, hb⟩; have B1 := Lib.hid hb; clear hb hD)
  generalize hY : World.alloc _ _ = Y
  have HBY : Hid (Below w.heap.size w Y) := Lib.hid (by rw [← hY]; exact B1.out.trans ((Below.refl _ _).alloc B1.out.size _))
  clear hY
  go_wp2_with (first
    | (go_at_call 12; refine (hA _).mono ?_; rintro e w2 ⟨rfl, hb⟩; have B2 := Lib.hid (HBY.out.trans (hb.mono HBY.out.size)); clear hb hA)
    | (go_at_call 14; refine (hO _).mono ?_; rintro e w3 ⟨rfl, rfl⟩; clear hO)
    | (go_at_call 15; refine (hL _).mono ?_; rintro e w3 ⟨rfl, rfl⟩; clear hL)
    | (go_at_call 10; refine (hN _).mono ?_; rintro e w3 ⟨rfl, rfl⟩; clear hN)
    | (go_at_call 11; refine (hI _).mono ?_; rintro e w3 ⟨rfl, rfl⟩; clear hI)
    | (go_at_call 26; refine (hT _).mono ?_; rintro e w3 ⟨rfl, rfl⟩; clear hT))
  go_ret
  exact ⟨rfl, B2.out⟩
end Go.Proofs.Ythjlpbglnnebkaa
