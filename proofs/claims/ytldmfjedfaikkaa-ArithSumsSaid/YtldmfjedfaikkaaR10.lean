/-
  The reference's Do: each operation comes to what it is for arith.
-/
import Derived.Test.YtldmfjedfaikkaaR7
import Derived.Test.YtldmfjedfaikkaaR9
namespace Go.Proofs.Ytldmfjedfaikkaa
open Go.RowKit

/-- The answer of the reference's Do. -/
def Done (w : World) (n : Int) (p : Bool) (e : Ending) (w' : World) : Prop := e = .returned (.tuple #[.int .i64 n, .bool p]) ∧ Grown w w'
theorem done_of {w w' : World} {n m : Int} {p q : Bool} (hn : n = m) (hp : p = q) (hg : Grown w w') : Done w m q (.returned (.tuple #[.int .i64 n, .bool p])) w' := ⟨ret_two hn hp, hg⟩

set_option maxRecDepth 100000 in
set_option maxHeartbeats 1000000 in
theorem rdo_4 (a b : Int) (w : World) : Calls Try.prog 11 #[.int .i64 4, .int .i64 a, .int .i64 b] w (Done w (opV 4 a b) (opOk 4 b)) := by
  go_enter Try.func11, Try.ntmps11
  go_wp2_with (fail)
  refine (add_any _ _ _).mono ?_
  rintro e w1 ⟨rfl, h1⟩
  have H1 := Lib.hid h1
  clear h1
  go_wp2_with (fail)
  go_ret2
  exact done_of (by simp [opV]) (by simp [opOk, binB]) H1.out

set_option maxRecDepth 100000 in
set_option maxHeartbeats 1000000 in
theorem rdo_5 (a b : Int) (w : World) : Calls Try.prog 11 #[.int .i64 5, .int .i64 a, .int .i64 b] w (Done w (opV 5 a b) (opOk 5 b)) := by
  go_enter Try.func11, Try.ntmps11
  go_wp2_with (fail)
  refine (neg_any _ _).mono ?_
  rintro e w1 ⟨rfl, h1⟩
  have H1 := Lib.hid h1
  clear h1
  go_wp2_with (fail)
  refine (add_any _ _ _).mono ?_
  rintro e w2 ⟨rfl, h2⟩
  have H2 := Lib.hid h2
  clear h2
  go_wp2_with (fail)
  go_ret2
  exact done_of (by rw [wrap_add_right]; simp [opV]; congr 1) (by simp [opOk, binB]) (grown_trans H1.out H2.out)

set_option maxRecDepth 100000 in
set_option maxHeartbeats 1000000 in
theorem rdo_6 (a b : Int) (w : World) : Calls Try.prog 11 #[.int .i64 6, .int .i64 a, .int .i64 b] w (Done w (opV 6 a b) (opOk 6 b)) := by
  go_enter Try.func11, Try.ntmps11
  go_wp2_with (fail)
  refine (mul_any _ _ _).mono ?_
  rintro e w1 ⟨rfl, h1⟩
  have H1 := Lib.hid h1
  clear h1
  go_wp2_with (fail)
  go_ret2
  exact done_of (by simp [opV]) (by simp [opOk, binB]) H1.out

set_option maxRecDepth 100000 in
set_option maxHeartbeats 1000000 in
theorem rdo_7 (a b : Int) (ha : -9223372036854775808 ≤ a ∧ a ≤ 9223372036854775807) (hb : -9223372036854775808 ≤ b ∧ b ≤ 9223372036854775807) (w : World) : Calls Try.prog 11 #[.int .i64 7, .int .i64 a, .int .i64 b] w (Done w (opV 7 a b) (opOk 7 b)) := by
  by_cases h0 : b = 0
  · subst h0
    go_enter Try.func11, Try.ntmps11
    go_wp2_with (fail)
    go_ret2
    exact done_of (by simp [opV]) (by simp [opOk, binB]) (Grown.refl w)
  · go_enter Try.func11, Try.ntmps11
    go_wp2_with (fail)
    refine (rDiv_any _ _ ha hb h0 _).mono ?_
    rintro e w1 ⟨rfl, h1⟩
    have H1 := Lib.hid h1
    clear h1
    go_wp2_with (fail)
    go_ret2
    exact done_of (by simp [opV, h0]) (by simp [opOk, binB, h0]) H1.out

set_option maxRecDepth 100000 in
set_option maxHeartbeats 1000000 in
theorem rdo_8 (a b : Int) (ha : -9223372036854775808 ≤ a ∧ a ≤ 9223372036854775807) (hb : -9223372036854775808 ≤ b ∧ b ≤ 9223372036854775807) (w : World) : Calls Try.prog 11 #[.int .i64 8, .int .i64 a, .int .i64 b] w (Done w (opV 8 a b) (opOk 8 b)) := by
  by_cases h0 : b = 0
  · subst h0
    go_enter Try.func11, Try.ntmps11
    go_wp2_with (fail)
    go_ret2
    exact done_of (by simp [opV]) (by simp [opOk, binB]) (Grown.refl w)
  · go_enter Try.func11, Try.ntmps11
    go_wp2_with (fail)
    refine (rDiv_any _ _ ha hb h0 _).mono ?_
    rintro e w1 ⟨rfl, h1⟩
    have H1 := Lib.hid h1
    clear h1
    go_wp2_with (fail)
    go_ret2
    exact done_of (by simp [opV, h0]) (by simp [opOk, binB, h0]) H1.out

set_option maxRecDepth 100000 in
set_option maxHeartbeats 1000000 in
theorem rdo_9 (a b : Int) (w : World) : Calls Try.prog 11 #[.int .i64 9, .int .i64 a, .int .i64 b] w (Done w (opV 9 a b) (opOk 9 b)) := by
  go_enter Try.func11, Try.ntmps11
  go_wp2_with (fail)
  refine (logic_and _ _ _).mono ?_
  rintro e w1 ⟨rfl, h1⟩
  have H1 := Lib.hid h1
  clear h1
  go_wp2_with (fail)
  go_ret2
  exact done_of (by simp [opV]) (by simp [opOk, binB]) H1.out

set_option maxRecDepth 100000 in
set_option maxHeartbeats 1000000 in
theorem rdo_10 (a b : Int) (w : World) : Calls Try.prog 11 #[.int .i64 10, .int .i64 a, .int .i64 b] w (Done w (opV 10 a b) (opOk 10 b)) := by
  go_enter Try.func11, Try.ntmps11
  go_wp2_with (fail)
  refine (logic_or _ _ _).mono ?_
  rintro e w1 ⟨rfl, h1⟩
  have H1 := Lib.hid h1
  clear h1
  go_wp2_with (fail)
  go_ret2
  exact done_of (by simp [opV]) (by simp [opOk, binB]) H1.out

set_option maxRecDepth 100000 in
set_option maxHeartbeats 1000000 in
theorem rdo_11 (a b : Int) (w : World) : Calls Try.prog 11 #[.int .i64 11, .int .i64 a, .int .i64 b] w (Done w (opV 11 a b) (opOk 11 b)) := by
  go_enter Try.func11, Try.ntmps11
  go_wp2_with (fail)
  refine (logic_xor _ _ _).mono ?_
  rintro e w1 ⟨rfl, h1⟩
  have H1 := Lib.hid h1
  clear h1
  go_wp2_with (fail)
  go_ret2
  exact done_of (by simp [opV]) (by simp [opOk, binB]) H1.out

set_option maxRecDepth 100000 in
set_option maxHeartbeats 1000000 in
theorem rdo_12 (a b : Int) (w : World) : Calls Try.prog 11 #[.int .i64 12, .int .i64 a, .int .i64 b] w (Done w (opV 12 a b) (opOk 12 b)) := by
  obtain ⟨n, hn⟩ : ∃ n : Nat, b % 64 = n := ⟨(b % 64).toNat, by omega⟩
  have hc : IntKind.u64.wrap b % 64 = (n : Int) := by rw [u64wrap]; omega
  have hc2 : (IntKind.u64.wrap b).tmod 64 = (n : Int) := by rw [Int.tmod_eq_emod_of_nonneg (by rw [u64wrap]; omega)]; exact hc
  have hn63 : n ≤ 63 := by omega
  have HN := Lib.hid hn
  clear hn
  go_enter Try.func11, Try.ntmps11
  go_wp2_with (fail)
  refine (shift_left _ n hn63 _).mono ?_
  rintro e w1 ⟨rfl, h1⟩
  have H1 := Lib.hid h1
  clear h1
  go_wp2_with (fail)
  go_ret2
  exact done_of (by simp [opV, HN.out]) (by simp [opOk, binB]) H1.out

theorem shr_in (a : Int) (ha : -9223372036854775808 ≤ a ∧ a ≤ 9223372036854775807) (n : Nat) : wrap64 (a / 2 ^ n) = a / 2 ^ n := by
  refine IntWalk.wrap64_in _ ?_
  have hp : (0 : Int) < 2 ^ n := Int.pow_pos (by decide)
  by_cases h : a < 0
  · have h1 : -9223372036854775808 ≤ a / 2 ^ n := by
      refine Int.le_ediv_of_mul_le hp ?_
      have h1 : 9223372036854775808 * 1 ≤ 9223372036854775808 * (2 : Int) ^ n := Int.mul_le_mul_of_nonneg_left (by omega) (by decide)
      omega
    have h2 : a / 2 ^ n < 0 := Int.ediv_neg_of_neg_of_pos h hp
    omega
  · have h1 := Int.ediv_nonneg (show 0 ≤ a by omega) (Int.le_of_lt hp)
    have h2 := Int.ediv_le_self (2 ^ n) (show 0 ≤ a by omega)
    omega
set_option maxRecDepth 100000 in
set_option maxHeartbeats 1000000 in
theorem rdo_13 (a b : Int) (ha : -9223372036854775808 ≤ a ∧ a ≤ 9223372036854775807) (w : World) : Calls Try.prog 11 #[.int .i64 13, .int .i64 a, .int .i64 b] w (Done w (opV 13 a b) (opOk 13 b)) := by
  obtain ⟨n, hn⟩ : ∃ n : Nat, b % 64 = n := ⟨(b % 64).toNat, by omega⟩
  have hc : IntKind.u64.wrap b % 64 = (n : Int) := by rw [u64wrap]; omega
  have hc2 : (IntKind.u64.wrap b).tmod 64 = (n : Int) := by rw [Int.tmod_eq_emod_of_nonneg (by rw [u64wrap]; omega)]; exact hc
  have hn63 : n ≤ 63 := by omega
  have HN := Lib.hid hn
  clear hn
  go_enter Try.func11, Try.ntmps11
  go_wp2_with (go_at_call 35; refine (rbit_at _ _ 63 (by omega) (by omega) _).mono ?_; rintro e w' ⟨rfl, rfl⟩)
  refine (shift_right _ n hn63 _ (bt_nn a 63) (a / 2 ^ n) (Lib.hid fun i _ => gshr_signed a ha n i) _).mono ?_
  rintro e w1 ⟨rfl, h1⟩
  have H1 := Lib.hid h1
  clear h1
  go_wp2_with (fail)
  go_ret2
  exact done_of (by rw [shr_in a ha]; simp [opV, HN.out]) (by simp [opOk, binB]) H1.out
set_option maxRecDepth 100000 in
set_option maxHeartbeats 1000000 in
theorem rdo_14 (a b : Int) (w : World) : Calls Try.prog 11 #[.int .i64 14, .int .i64 a, .int .i64 b] w (Done w (opV 14 a b) (opOk 14 b)) := by
  obtain ⟨n, hn⟩ : ∃ n : Nat, b % 64 = n := ⟨(b % 64).toNat, by omega⟩
  have hc : IntKind.u64.wrap b % 64 = (n : Int) := by rw [u64wrap]; omega
  have hc2 : (IntKind.u64.wrap b).tmod 64 = (n : Int) := by rw [Int.tmod_eq_emod_of_nonneg (by rw [u64wrap]; omega)]; exact hc
  have hn63 : n ≤ 63 := by omega
  have HN := Lib.hid hn
  clear hn
  go_enter Try.func11, Try.ntmps11
  go_wp2_with (fail)
  refine (shift_right _ n hn63 _ (by decide) (a % 18446744073709551616 / 2 ^ n) (Lib.hid fun i _ => gshr_plain a n i) _).mono ?_
  rintro e w1 ⟨rfl, h1⟩
  have H1 := Lib.hid h1
  clear h1
  go_wp2_with (fail)
  go_ret2
  exact done_of (by simp [opV, HN.out]) (by simp [opOk, binB]) H1.out
end Go.Proofs.Ytldmfjedfaikkaa
