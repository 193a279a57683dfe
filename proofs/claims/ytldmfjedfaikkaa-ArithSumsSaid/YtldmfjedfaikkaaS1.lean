/-
  arith's Sum and Product, and plain facts on what goes round.
-/
import Derived.Test.YtldmfjedfaikkaaL1
namespace Go.Proofs.Ytldmfjedfaikkaa
open Go.RowKit

def sumOk (a b : Int) : Bool := decide (0 ≤ bits .and .i64 (bits .xor .i64 a (wrap64 (a + b))) (bits .xor .i64 b (wrap64 (a + b))))
def prodOk (a b : Int) : Bool := if a = 0 ∨ b = 0 then true else if a = -1 ∨ b = -1 then wrap64 (a * b) != -9223372036854775808 else wrap64 ((wrap64 (a * b)).tdiv b) == a
def prodV (a b : Int) : Int := if a = 0 ∨ b = 0 then 0 else wrap64 (a * b)

set_option maxHeartbeats 1000000 in
theorem sum_any (a b : Int) (w : World) : Calls Try.prog 23 #[.int .i64 a, .int .i64 b] w fun e w' => e = .returned (.tuple #[.int .i64 (wrap64 (a + b)), .bool (sumOk a b)]) ∧ w = w' := by
  go_enter Try.func23, Try.ntmps23
  go_wp2
  go_ret2
  exact ⟨rfl, rfl⟩

set_option maxHeartbeats 1000000 in
theorem product_any (a b : Int) (w : World) : Calls Try.prog 24 #[.int .i64 a, .int .i64 b] w fun e w' => e = .returned (.tuple #[.int .i64 (prodV a b), .bool (prodOk a b)]) ∧ ∃ n, w' = w.drewN n := by
  have hs : a = 0 ∨ (a ≠ 0 ∧ b = 0) ∨ (b ≠ 0 ∧ a = -1) ∨ (a ≠ 0 ∧ a ≠ -1 ∧ b = -1) ∨ (a ≠ 0 ∧ b ≠ 0 ∧ a ≠ -1 ∧ b ≠ -1) := by omega
  rcases hs with rfl | ⟨h1, rfl⟩ | ⟨h1, rfl⟩ | ⟨h1, h2, rfl⟩ | ⟨h1, h2, h3, h4⟩
  · go_enter Try.func24, Try.ntmps24
    go_wp2
    go_ret2
    exact ⟨ret_two (by simp [prodV]) (by simp [prodOk]), 0, rfl⟩
  · go_enter Try.func24, Try.ntmps24
    go_wp2
    go_ret2
    exact ⟨ret_two (by simp [prodV]) (by simp [prodOk]), 0, rfl⟩
  · have HV : Hid (prodV (-1) b = wrap64 (-1 * b)) := Lib.hid (by unfold prodV; rw [if_neg (by omega)])
    have HB : Hid (prodOk (-1) b = (wrap64 (-1 * b) != -9223372036854775808)) := Lib.hid (by unfold prodOk; rw [if_neg (by omega), if_pos (by omega)])
    rw [HV.out, HB.out]
    go_enter Try.func24, Try.ntmps24
    go_wp2
    go_ret2
    exact ⟨by first | rfl | (exact ret_two (by simp) (by simp)), 0, rfl⟩
  · have HV : Hid (prodV a (-1) = wrap64 (a * -1)) := Lib.hid (by unfold prodV; rw [if_neg (by omega)])
    have HB : Hid (prodOk a (-1) = (wrap64 (a * -1) != -9223372036854775808)) := Lib.hid (by unfold prodOk; rw [if_neg (by omega), if_pos (by omega)])
    rw [HV.out, HB.out]
    go_enter Try.func24, Try.ntmps24
    go_wp2
    go_ret2
    exact ⟨by first | rfl | (exact ret_two (by simp) (by simp)), 0, rfl⟩
  · have HV : Hid (prodV a b = wrap64 (a * b)) := Lib.hid (by unfold prodV; rw [if_neg (by omega)])
    have HB : Hid (prodOk a b = (wrap64 ((wrap64 (a * b)).tdiv b) == a)) := Lib.hid (by unfold prodOk; rw [if_neg (by omega), if_neg (by omega)])
    rw [HV.out, HB.out]
    have e1 : (a == 0) = false := by simp; omega
    have e2 : (b == 0) = false := by simp; omega
    have e3 : (a == -1) = false := by simp; omega
    have e4 : (b == -1) = false := by simp; omega
    go_enter Try.func24, Try.ntmps24
    go_wp2
    go_quiet (fail)
    go_wp2
    go_ret2
    exact ⟨rfl, _, rfl⟩

theorem sign63 (x : Int) (hx : -9223372036854775808 ≤ x ∧ x ≤ 9223372036854775807) : bt x 63 = if x < 0 then 1 else 0 := by
  split
  · exact bt63_neg x hx ‹_›
  · exact bt63_pos x hx (by omega)
theorem bits_in (op : BinOp) (a b : Int) (h : op = .and ∨ op = .or ∨ op = .xor) : -9223372036854775808 ≤ bits op .i64 a b ∧ bits op .i64 a b ≤ 9223372036854775807 := by
  rw [← bits_wrapped op a b h]; exact wrap_bd _
theorem sumOk_is (a b : Int) (ha : -9223372036854775808 ≤ a ∧ a ≤ 9223372036854775807) (hb : -9223372036854775808 ≤ b ∧ b ≤ 9223372036854775807) :
    sumOk a b = decide (¬ ((a < 0 ↔ ¬ wrap64 (a + b) < 0) ∧ (b < 0 ↔ ¬ wrap64 (a + b) < 0))) := by
  have hs := wrap_bd (a + b)
  have hx := bits_in .and (bits .xor .i64 a (wrap64 (a + b))) (bits .xor .i64 b (wrap64 (a + b))) (by simp)
  have h63 := sign63 _ hx
  rw [bt_and _ _ 63 (by omega), bt_xor _ _ 63 (by omega), bt_xor _ _ 63 (by omega), sign63 a ha, sign63 b hb, sign63 _ hs] at h63
  unfold sumOk
  refine decide_eq_decide.mpr ?_
  generalize bits .and .i64 (bits .xor .i64 a (wrap64 (a + b))) (bits .xor .i64 b (wrap64 (a + b))) = x at *
  generalize wrap64 (a + b) = s at *
  by_cases h1 : a < 0 <;> by_cases h2 : b < 0 <;> by_cases h3 : s < 0 <;> by_cases h4 : x < 0 <;> simp [h1, h2, h3, h4] at h63 ⊢ <;> omega
end Go.Proofs.Ytldmfjedfaikkaa
