/-
  The laws ArithDoes, ArithOnes, ArithKinds, walked.
-/
import Derived.Test.YtldmfjedfaikkaaR12
namespace Go.Proofs.Ytldmfjedfaikkaa
open Go.RowKit

set_option maxRecDepth 100000 in
set_option maxHeartbeats 1000000 in
theorem does_law (op a b : Int) (w1 : (Lit.int .i64 a).wf = true) (w2 : (Lit.int .i64 b).wf = true) (w : World) : Calls Try.prog 3 #[.int .i64 op, .int .i64 a, .int .i64 b] w fun e w' => e = .returned (.bool true) ∧ Grown w w' := by
  have ha := wf_i64_in w1
  have hb := wf_i64_in w2
  clear w1 w2
  go_enter Try.func3, Try.ntmps3
  go_wp2_with (fail)
  refine (do_any _ _ _ _).mono ?_
  rintro e w' ⟨rfl, rfl⟩
  go_wp2_with (fail)
  refine (rdo_any _ _ _ ha hb _).mono ?_
  rintro e w1 ⟨rfl, h1⟩
  have H1 := Lib.hid h1
  clear h1
  go_wp2_with (fail)
  refine (plain_any _ _ _ _).mono ?_
  rintro e w' ⟨rfl, rfl⟩
  go_wp2_with (go_at_call 13; refine (awake_any _).mono ?_; rintro e w' ⟨rfl, rfl⟩)
  go_ret
  exact ⟨rfl, H1.out⟩

set_option maxRecDepth 100000 in
set_option maxHeartbeats 1000000 in
theorem ones_law (op a : Int) (w : World) : Calls Try.prog 4 #[.int .i64 op, .int .i64 a] w fun e w' => e = .returned (.bool true) ∧ Grown w w' := by
  have hs : (oneOk op = true ∧ binB op = false) ∨ oneOk op = false := by
    by_cases h : op = 15 ∨ op = 16 ∨ op = 24
    · exact .inl ⟨decide_eq_true h, decide_eq_false (by omega)⟩
    · exact .inr (decide_eq_false h)
  rcases hs with ⟨q1, q2⟩ | q1
  all_goals
    go_enter Try.func4, Try.ntmps4
    go_wp2_with (fail)
    refine (aone_any _ _ _).mono ?_
    rintro e w' ⟨rfl, rfl⟩
    go_wp2_with (fail)
    refine (rone2_any _ _ _).mono ?_
    rintro e w1 ⟨rfl, h1⟩
    have H1 := Lib.hid h1
    clear h1
    go_wp2_with (first | (go_at_call 13; refine (awake_any _).mono ?_; rintro e w' ⟨rfl, rfl⟩) | (go_at_call 16; refine (unary_any _ _).mono ?_; rintro e w' ⟨rfl, rfl⟩) | (go_at_call 17; refine (binary_any _ _).mono ?_; rintro e w' ⟨rfl, rfl⟩))
    go_ret
    exact ⟨rfl, H1.out⟩
end Go.Proofs.Ytldmfjedfaikkaa
