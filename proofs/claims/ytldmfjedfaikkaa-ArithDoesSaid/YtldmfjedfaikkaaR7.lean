/-
  The reference's Div: quotient and what is left, with signs.
-/
import Derived.Test.YtldmfjedfaikkaaR6
import Derived.Test.YtldmfjedfaikkaaG1
namespace Go.Proofs.Ytldmfjedfaikkaa
open Go.RowKit

theorem rdiv_abs (X Y : Nat) (hX : X ≤ 9223372036854775808) (hY : Y ≤ 9223372036854775808) (h1 : 1 ≤ Y) (w : World) : Calls Try.prog 41 #[.int .i64 (wrap64 (X : Int)), .int .i64 (wrap64 (Y : Int))] w fun e w' => e = .returned (.tuple #[.int .i64 (wrap64 ((X : Int) / (Y : Int))), .int .i64 ((X : Int) % (Y : Int))]) ∧ Grown w w' := by
  have e1 : wrap64 (X : Int) % 18446744073709551616 = X := by rw [mod_wrap]; omega
  have e2 : wrap64 (Y : Int) % 18446744073709551616 = Y := by rw [mod_wrap]; omega
  have h := rdivide_any (wrap64 (X : Int)) (wrap64 (Y : Int)) (by rw [e2]; omega) w
  rw [e1, e2] at h
  have m0 := Int.emod_nonneg (X : Int) (show (Y : Int) ≠ 0 by omega)
  have m1 := Int.emod_lt_of_pos (X : Int) (show (0 : Int) < Y by omega)
  rw [IntWalk.wrap64_in _ (show -9223372036854775808 ≤ (X : Int) % (Y : Int) ∧ (X : Int) % (Y : Int) ≤ 9223372036854775807 by omega)] at h
  exact h

theorem abs_pos (X : Nat) : (X : Int).natAbs = X := by omega
theorem abs_neg (X : Nat) : (-(X : Int)).natAbs = X := by omega
theorem wrap_negw (x : Int) : wrap64 (-wrap64 x) = wrap64 (-x) := by unfold wrap64; omega

theorem size_is (a : Int) (X : Nat) (hX : Hid (a.natAbs = X)) (ha : -9223372036854775808 ≤ a ∧ a ≤ 9223372036854775807) (w : World) : Calls Try.prog 42 #[.int .i64 a] w fun e w' => e = .returned (.int .i64 (wrap64 (X : Int))) ∧ Grown w w' :=
  (rsize_any a ha w).mono fun _ _ ⟨he, hw⟩ => ⟨by rw [he, hX.out], hw⟩

set_option maxHeartbeats 1000000 in
theorem rDiv_pp (X Y : Nat) (hX : X ≤ 9223372036854775807) (hY : Y ≤ 9223372036854775807) (y1 : 1 ≤ Y) (w : World) : Calls Try.prog 25 #[.int .i64 (X : Int), .int .i64 (Y : Int)] w fun e w' => e = .returned (.tuple #[.int .i64 (wrap64 (Int.tdiv (X : Int) (Y : Int))), .int .i64 (Int.tmod (X : Int) (Y : Int))]) ∧ Grown w w' := by
  have SX : Hid (Int.natAbs (X : Int) = X) := Lib.hid (abs_pos X)
  have SY : Hid (Int.natAbs (Y : Int) = Y) := Lib.hid (abs_pos Y)
  have qa := bt63_pos (X : Int) (by omega) (by omega)
  have qb := bt63_pos (Y : Int) (by omega) (by omega)
  have m0 := Int.emod_nonneg (X : Int) (show (Y : Int) ≠ 0 by omega)
  have m1 := Int.emod_lt_of_pos (X : Int) (show (0 : Int) < Y by omega)
  have QQ : Hid (Int.tdiv (X : Int) (Y : Int) = ((X : Int) / (Y : Int))) := Lib.hid (by rw [Int.tdiv_eq_ediv_of_nonneg (by omega)])
  have RR : Hid (Int.tmod (X : Int) (Y : Int) = ((X : Int) % (Y : Int))) := Lib.hid (by rw [Int.tmod_eq_emod_of_nonneg (by omega)])
  rw [QQ.out, RR.out]
  go_enter Try.func25, Try.ntmps25
  go_wp2_with (fail)
  refine (size_is _ X SX (by omega) _).mono ?_
  rintro e w1 ⟨rfl, h1⟩
  have H1 := Lib.hid h1
  clear h1
  go_wp2_with (fail)
  refine (size_is _ Y SY (by omega) _).mono ?_
  rintro e w2 ⟨rfl, h2⟩
  have H2 := Lib.hid h2
  clear h2
  go_wp2_with (fail)
  refine (rdiv_abs X Y (by omega) (by omega) y1 _).mono ?_
  rintro e w3 ⟨rfl, h3⟩
  have H3 := Lib.hid (grown_trans H1.out (grown_trans H2.out h3))
  clear h3
  go_wp2_with (go_at_call 35; refine (rbit_any _ _ (by omega) (by omega) _).mono ?_; rintro e w' ⟨rfl, rfl⟩)
  go_ret2
  exact ⟨ret_pair (rfl) (rfl), H3.out⟩

set_option maxHeartbeats 1000000 in
theorem rDiv_pn (X Y : Nat) (hX : X ≤ 9223372036854775807) (hY : Y ≤ 9223372036854775808) (y1 : 1 ≤ Y) (w : World) : Calls Try.prog 25 #[.int .i64 (X : Int), .int .i64 (-(Y : Int))] w fun e w' => e = .returned (.tuple #[.int .i64 (wrap64 (Int.tdiv (X : Int) (-(Y : Int)))), .int .i64 (Int.tmod (X : Int) (-(Y : Int)))]) ∧ Grown w w' := by
  have SX : Hid (Int.natAbs (X : Int) = X) := Lib.hid (abs_pos X)
  have SY : Hid (Int.natAbs (-(Y : Int)) = Y) := Lib.hid (abs_neg Y)
  have qa := bt63_pos (X : Int) (by omega) (by omega)
  have qb := bt63_neg (-(Y : Int)) (by omega) (by omega)
  have m0 := Int.emod_nonneg (X : Int) (show (Y : Int) ≠ 0 by omega)
  have m1 := Int.emod_lt_of_pos (X : Int) (show (0 : Int) < Y by omega)
  have QQ : Hid (Int.tdiv (X : Int) (-(Y : Int)) = -((X : Int) / (Y : Int))) := Lib.hid (by rw [Int.tdiv_neg]; rw [Int.tdiv_eq_ediv_of_nonneg (by omega)])
  have RR : Hid (Int.tmod (X : Int) (-(Y : Int)) = ((X : Int) % (Y : Int))) := Lib.hid (by rw [Int.tmod_neg]; rw [Int.tmod_eq_emod_of_nonneg (by omega)])
  rw [QQ.out, RR.out]
  go_enter Try.func25, Try.ntmps25
  go_wp2_with (fail)
  refine (size_is _ X SX (by omega) _).mono ?_
  rintro e w1 ⟨rfl, h1⟩
  have H1 := Lib.hid h1
  clear h1
  go_wp2_with (fail)
  refine (size_is _ Y SY (by omega) _).mono ?_
  rintro e w2 ⟨rfl, h2⟩
  have H2 := Lib.hid h2
  clear h2
  go_wp2_with (fail)
  refine (rdiv_abs X Y (by omega) (by omega) y1 _).mono ?_
  rintro e w3 ⟨rfl, h3⟩
  have H3 := Lib.hid (grown_trans H1.out (grown_trans H2.out h3))
  clear h3
  go_wp2_with (go_at_call 35; refine (rbit_any _ _ (by omega) (by omega) _).mono ?_; rintro e w' ⟨rfl, rfl⟩)
  refine (neg_any _ _).mono ?_
  rintro e w4 ⟨rfl, h4⟩
  have H4 := Lib.hid (grown_trans H3.out h4)
  clear h4
  go_wp2_with (go_at_call 35; refine (rbit_any _ _ (by omega) (by omega) _).mono ?_; rintro e w' ⟨rfl, rfl⟩)
  go_ret2
  exact ⟨ret_pair (by rw [wrap_negw]) (rfl), H4.out⟩

set_option maxHeartbeats 1000000 in
theorem rDiv_np (X Y : Nat) (hX : X ≤ 9223372036854775808) (x1 : 1 ≤ X) (hY : Y ≤ 9223372036854775807) (y1 : 1 ≤ Y) (w : World) : Calls Try.prog 25 #[.int .i64 (-(X : Int)), .int .i64 (Y : Int)] w fun e w' => e = .returned (.tuple #[.int .i64 (wrap64 (Int.tdiv (-(X : Int)) (Y : Int))), .int .i64 (Int.tmod (-(X : Int)) (Y : Int))]) ∧ Grown w w' := by
  have SX : Hid (Int.natAbs (-(X : Int)) = X) := Lib.hid (abs_neg X)
  have SY : Hid (Int.natAbs (Y : Int) = Y) := Lib.hid (abs_pos Y)
  have qa := bt63_neg (-(X : Int)) (by omega) (by omega)
  have qb := bt63_pos (Y : Int) (by omega) (by omega)
  have m0 := Int.emod_nonneg (X : Int) (show (Y : Int) ≠ 0 by omega)
  have m1 := Int.emod_lt_of_pos (X : Int) (show (0 : Int) < Y by omega)
  have QQ : Hid (Int.tdiv (-(X : Int)) (Y : Int) = -((X : Int) / (Y : Int))) := Lib.hid (by rw [Int.neg_tdiv]; rw [Int.tdiv_eq_ediv_of_nonneg (by omega)])
  have RR : Hid (Int.tmod (-(X : Int)) (Y : Int) = -((X : Int) % (Y : Int))) := Lib.hid (by rw [Int.neg_tmod]; rw [Int.tmod_eq_emod_of_nonneg (by omega)])
  rw [QQ.out, RR.out]
  go_enter Try.func25, Try.ntmps25
  go_wp2_with (fail)
  refine (size_is _ X SX (by omega) _).mono ?_
  rintro e w1 ⟨rfl, h1⟩
  have H1 := Lib.hid h1
  clear h1
  go_wp2_with (fail)
  refine (size_is _ Y SY (by omega) _).mono ?_
  rintro e w2 ⟨rfl, h2⟩
  have H2 := Lib.hid h2
  clear h2
  go_wp2_with (fail)
  refine (rdiv_abs X Y (by omega) (by omega) y1 _).mono ?_
  rintro e w3 ⟨rfl, h3⟩
  have H3 := Lib.hid (grown_trans H1.out (grown_trans H2.out h3))
  clear h3
  go_wp2_with (go_at_call 35; refine (rbit_any _ _ (by omega) (by omega) _).mono ?_; rintro e w' ⟨rfl, rfl⟩)
  refine (neg_any _ _).mono ?_
  rintro e w4 ⟨rfl, h4⟩
  have H4 := Lib.hid (grown_trans H3.out h4)
  clear h4
  go_wp2_with (go_at_call 35; refine (rbit_any _ _ (by omega) (by omega) _).mono ?_; rintro e w' ⟨rfl, rfl⟩)
  refine (neg_any _ _).mono ?_
  rintro e w5 ⟨rfl, h5⟩
  have H5 := Lib.hid (grown_trans H4.out h5)
  clear h5
  go_wp2_with (fail)
  go_ret2
  exact ⟨ret_pair (by rw [wrap_negw]) (by rw [IntWalk.wrap64_in _ (by omega)]), H5.out⟩

set_option maxHeartbeats 1000000 in
theorem rDiv_nn (X Y : Nat) (hX : X ≤ 9223372036854775808) (x1 : 1 ≤ X) (hY : Y ≤ 9223372036854775808) (y1 : 1 ≤ Y) (w : World) : Calls Try.prog 25 #[.int .i64 (-(X : Int)), .int .i64 (-(Y : Int))] w fun e w' => e = .returned (.tuple #[.int .i64 (wrap64 (Int.tdiv (-(X : Int)) (-(Y : Int)))), .int .i64 (Int.tmod (-(X : Int)) (-(Y : Int)))]) ∧ Grown w w' := by
  have SX : Hid (Int.natAbs (-(X : Int)) = X) := Lib.hid (abs_neg X)
  have SY : Hid (Int.natAbs (-(Y : Int)) = Y) := Lib.hid (abs_neg Y)
  have qa := bt63_neg (-(X : Int)) (by omega) (by omega)
  have qb := bt63_neg (-(Y : Int)) (by omega) (by omega)
  have m0 := Int.emod_nonneg (X : Int) (show (Y : Int) ≠ 0 by omega)
  have m1 := Int.emod_lt_of_pos (X : Int) (show (0 : Int) < Y by omega)
  have QQ : Hid (Int.tdiv (-(X : Int)) (-(Y : Int)) = ((X : Int) / (Y : Int))) := Lib.hid (by rw [Int.neg_tdiv]; rw [Int.tdiv_neg]; rw [Int.neg_neg]; rw [Int.tdiv_eq_ediv_of_nonneg (by omega)])
  have RR : Hid (Int.tmod (-(X : Int)) (-(Y : Int)) = -((X : Int) % (Y : Int))) := Lib.hid (by rw [Int.neg_tmod]; rw [Int.tmod_neg]; rw [Int.tmod_eq_emod_of_nonneg (by omega)])
  rw [QQ.out, RR.out]
  go_enter Try.func25, Try.ntmps25
  go_wp2_with (fail)
  refine (size_is _ X SX (by omega) _).mono ?_
  rintro e w1 ⟨rfl, h1⟩
  have H1 := Lib.hid h1
  clear h1
  go_wp2_with (fail)
  refine (size_is _ Y SY (by omega) _).mono ?_
  rintro e w2 ⟨rfl, h2⟩
  have H2 := Lib.hid h2
  clear h2
  go_wp2_with (fail)
  refine (rdiv_abs X Y (by omega) (by omega) y1 _).mono ?_
  rintro e w3 ⟨rfl, h3⟩
  have H3 := Lib.hid (grown_trans H1.out (grown_trans H2.out h3))
  clear h3
  go_wp2_with (go_at_call 35; refine (rbit_any _ _ (by omega) (by omega) _).mono ?_; rintro e w' ⟨rfl, rfl⟩)
  refine (neg_any _ _).mono ?_
  rintro e w4 ⟨rfl, h4⟩
  have H4 := Lib.hid (grown_trans H3.out h4)
  clear h4
  go_wp2_with (fail)
  go_ret2
  exact ⟨ret_pair (rfl) (by rw [IntWalk.wrap64_in _ (by omega)]), H4.out⟩

theorem rDiv_any (a b : Int) (ha : -9223372036854775808 ≤ a ∧ a ≤ 9223372036854775807) (hb : -9223372036854775808 ≤ b ∧ b ≤ 9223372036854775807) (h0 : b ≠ 0) (w : World) : Calls Try.prog 25 #[.int .i64 a, .int .i64 b] w fun e w' => e = .returned (.tuple #[.int .i64 (wrap64 (a.tdiv b)), .int .i64 (a.tmod b)]) ∧ Grown w w' := by
  have hA : (∃ X : Nat, a = X) ∨ (∃ X : Nat, a = -(X : Int) ∧ 1 ≤ X) := by
    by_cases h : a < 0
    · exact .inr ⟨a.natAbs, by omega, by omega⟩
    · exact .inl ⟨a.natAbs, by omega⟩
  have hB : (∃ Y : Nat, b = Y ∧ 1 ≤ Y) ∨ (∃ Y : Nat, b = -(Y : Int) ∧ 1 ≤ Y) := by
    by_cases h : b < 0
    · exact .inr ⟨b.natAbs, by omega, by omega⟩
    · exact .inl ⟨b.natAbs, by omega, by omega⟩
  rcases hA with ⟨X, rfl⟩ | ⟨X, rfl, hx⟩
  · rcases hB with ⟨Y, rfl, hy⟩ | ⟨Y, rfl, hy⟩
    · exact rDiv_pp X Y (by omega) (by omega) hy w
    · exact rDiv_pn X Y (by omega) (by omega) hy w
  · rcases hB with ⟨Y, rfl, hy⟩ | ⟨Y, rfl, hy⟩
    · exact rDiv_np X Y (by omega) hx (by omega) hy w
    · exact rDiv_nn X Y (by omega) hx (by omega) hy w
end Go.Proofs.Ytldmfjedfaikkaa
