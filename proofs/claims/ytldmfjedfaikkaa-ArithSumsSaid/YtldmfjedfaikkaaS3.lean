/-
  The law ArithSums: all ways together.
-/
import Derived.Test.YtldmfjedfaikkaaS2
namespace Go.Proofs.Ytldmfjedfaikkaa
open Go.RowKit

/-- A quotient that is the number again leaves nothing. -/
theorem rem_zero (a b : Int) (hb : -9223372036854775808 ≤ b ∧ b ≤ 9223372036854775807) (h0 : b ≠ 0) (h1 : b ≠ -1) (hq : wrap64 ((wrap64 (a * b)).tdiv b) = a) : (wrap64 (a * b)).tmod b = 0 := by
  have hp := wrap_bd (a * b)
  obtain ⟨t, ht⟩ : ∃ t, a * b = wrap64 (a * b) + 18446744073709551616 * t := ⟨(a * b + 9223372036854775808) / 18446744073709551616, by unfold wrap64; omega⟩
  generalize wrap64 (a * b) = p at *
  have hqb : -9223372036854775808 ≤ p.tdiv b ∧ p.tdiv b ≤ 9223372036854775807 := by
    have hn : (p.tdiv b).natAbs = p.natAbs / b.natAbs := Int.natAbs_tdiv p b
    have hle : p.natAbs / b.natAbs ≤ p.natAbs := Nat.div_le_self _ _
    by_cases hp0 : p = -9223372036854775808
    · by_cases hb1 : b = 1
      · subst hb1; rw [Int.tdiv_one]; exact hp
      · have h2 : p.natAbs / b.natAbs ≤ p.natAbs / 2 := Nat.div_le_div_left (by omega) (by omega)
        omega
    · omega
  rw [IntWalk.wrap64_in _ hqb] at hq
  have e := Int.mul_tdiv_add_tmod p b
  rw [hq, Int.mul_comm b a] at e
  have hm : (p.tmod b).natAbs = p.natAbs % b.natAbs := Int.natAbs_tmod p b
  have hlt : p.natAbs % b.natAbs < b.natAbs := Nat.mod_lt _ (by omega)
  omega

theorem quo_of_neg (b : Int) (hb : -9223372036854775808 ≤ b ∧ b ≤ 9223372036854775807) (h0 : b ≠ 0) (hm : b ≠ -9223372036854775808) : wrap64 ((wrap64 (-1 * b)).tdiv b) = -1 ∧ (wrap64 (-1 * b)).tmod b = 0 := by
  rw [IntWalk.wrap64_in (-1 * b) (by omega)]
  exact ⟨by rw [Int.mul_tdiv_cancel _ h0]; exact IntWalk.wrap64_in _ (by omega), Int.mul_tmod_left _ _⟩
theorem quo_by_neg (a : Int) (ha : -9223372036854775808 ≤ a ∧ a ≤ 9223372036854775807) (hm : a ≠ -9223372036854775808) : wrap64 ((wrap64 (a * -1)).tdiv (-1)) = a ∧ (wrap64 (a * -1)).tmod (-1) = 0 := by
  rw [IntWalk.wrap64_in (a * -1) (by omega)]
  exact ⟨by rw [Int.mul_tdiv_cancel _ (by decide)]; exact IntWalk.wrap64_in _ ha, Int.mul_tmod_left _ _⟩

theorem bq {x y : Int} (h : x = y) : (x == y) = true := by simp [h]
theorem bn {x y : Int} (h : x ≠ y) : (x == y) = false := by simp [h]
theorem wrap_sum (a b : Int) (ha : -9223372036854775808 ≤ a ∧ a ≤ 9223372036854775807) (hb : -9223372036854775808 ≤ b ∧ b ≤ 9223372036854775807) :
    wrap64 (a + b) = a + b ∨ wrap64 (a + b) = a + b - 18446744073709551616 ∧ 9223372036854775808 ≤ a + b ∨ wrap64 (a + b) = a + b + 18446744073709551616 ∧ a + b < -9223372036854775808 := by unfold wrap64; omega
theorem sok (a b : Int) (ha : -9223372036854775808 ≤ a ∧ a ≤ 9223372036854775807) (hb : -9223372036854775808 ≤ b ∧ b ≤ 9223372036854775807) (p : Bool) (h : (¬ ((a < 0 ↔ ¬ wrap64 (a + b) < 0) ∧ (b < 0 ↔ ¬ wrap64 (a + b) < 0))) ↔ p = true) : sumOk a b = p := by
  rw [sumOk_is a b ha hb]
  cases p
  · exact decide_eq_false (by simpa using h)
  · exact decide_eq_true (by simpa using h)
theorem pok (a b : Int) (h : ¬ (a = 0 ∨ b = 0)) (h2 : ¬ (a = -1 ∨ b = -1)) : prodOk a b = (wrap64 ((wrap64 (a * b)).tdiv b) == a) := by
  unfold prodOk; rw [if_neg h, if_neg h2]
theorem pok1 (a b : Int) (h : ¬ (a = 0 ∨ b = 0)) (h2 : a = -1 ∨ b = -1) : prodOk a b = (wrap64 (a * b) != -9223372036854775808) := by
  unfold prodOk; rw [if_neg h, if_pos h2]

theorem sums_law (a b : Int) (w0 : (Lit.int .i64 a).wf = true) (w1 : (Lit.int .i64 b).wf = true) (w : World) : Calls Try.prog 8 #[.int .i64 a, .int .i64 b] w fun e w' => e = .returned (.bool true) ∧ Grown w w' := by
  have ha := wf_i64_in w0
  have hb := wf_i64_in w1
  have hw := wrap_sum a b ha hb
  by_cases ha0 : a = 0
  · subst ha0; exact sums_a0 b hb w
  by_cases hb0 : b = 0
  · subst hb0; exact sums_b0 a ha0 ha w
  by_cases hm : a = -1
  · subst hm
    by_cases hbm : b = -9223372036854775808
    · subst hbm
      exact sums_4_2 _ _ (by omega) (by omega) (by decide +kernel) (by decide +kernel) (by decide +kernel) (by decide +kernel) (by decide +kernel) (by decide +kernel) ha hb w
    · have q := quo_of_neg b hb hb0 hbm
      have hp : prodOk (-1) b = true := by
        rw [pok1 (-1) b (by omega) (by omega), IntWalk.wrap64_in (-1 * b) (by omega)]; simp; omega
      by_cases hbn : b < 0
      · have h3 : wrap64 (-1 + b) < 0 := by omega
        have hs := sok (-1) b ha hb true (by simp; omega)
        by_cases hb1 : b = -1
        · exact sums_5_1T (-1) b (by omega) hbn h3 hs (bq rfl) (bn hbm) (bq hb1) (by decide) (bq q.1) (bq q.2) hp ha hb w
        · exact sums_5_1F (-1) b (by omega) hbn h3 hs (bq rfl) (bn hbm) (bn hb1) (by decide) (bq q.1) (bq q.2) hp ha hb w
      · have hs := sok (-1) b ha hb true (by simp; omega)
        exact sums_6_1F (-1) b (by omega) (by omega) hs (bq rfl) (bn hbm) (bn (by omega)) (by decide) (bq q.1) (bq q.2) hp ha hb w
  by_cases hn : b = -1
  · subst hn
    by_cases ham : a = -9223372036854775808
    · subst ham
      exact sums_4_4 _ _ (by omega) (by omega) (by decide +kernel) (by decide +kernel) (by decide +kernel) (by decide +kernel) (by decide +kernel) (by decide +kernel) (by decide +kernel) (by decide +kernel) (by decide +kernel) ha hb w
    · have q := quo_by_neg a ha ham
      have hp : prodOk a (-1) = true := by
        rw [pok1 a (-1) (by omega) (by omega), IntWalk.wrap64_in (a * -1) (by omega)]; simp; omega
      by_cases han : a < 0
      · have h3 : wrap64 (a + -1) < 0 := by omega
        have hs := sok a (-1) ha hb true (by simp; omega)
        exact sums_5_3 a (-1) han (by omega) h3 hs (bn hm) (by decide) (bq rfl) (bn ham) (bq q.1) (bq q.2) hp ha hb w
      · have hs := sok a (-1) ha hb true (by simp; omega)
        exact sums_3_3 a (-1) (by omega) (by omega) hs (bn hm) (by decide) (bq rfl) (bn ham) (bq q.1) (bq q.2) hp ha hb w
  have hk := pok a b (by omega) (by omega)
  have hi : (0 < a ∧ 0 < b ∧ 0 < wrap64 (a + b)) ∨ (0 < a ∧ 0 < b ∧ wrap64 (a + b) ≤ 0) ∨ (0 < a ∧ b < 0) ∨ (a < 0 ∧ b < 0 ∧ 0 ≤ wrap64 (a + b)) ∨ (a < 0 ∧ b < 0 ∧ wrap64 (a + b) < 0) ∨ (a < 0 ∧ 0 < b) := by omega
  by_cases hq : wrap64 ((wrap64 (a * b)).tdiv b) = a
  · have hr := rem_zero a b hb hb0 hn hq
    rw [bq hq] at hk
    rcases hi with ⟨i1, i2, i3⟩ | ⟨i1, i2, i3⟩ | ⟨i1, i2⟩ | ⟨i1, i2, i3⟩ | ⟨i1, i2, i3⟩ | ⟨i1, i2⟩
    · exact sums_1_5 a b i1 i2 i3 (sok a b ha hb _ (by simp; omega)) (bn hm) (bn hn) (bq hq) (bq hr) hk ha hb w
    · exact sums_2_5 a b i1 i2 i3 (sok a b ha hb _ (by simp; omega)) (bn hm) (bn hn) (bq hq) (bq hr) hk ha hb w
    · exact sums_3_5 a b i1 i2 (sok a b ha hb _ (by simp; omega)) (bn hm) (bn hn) (bq hq) (bq hr) hk ha hb w
    · exact sums_4_5 a b i1 i2 i3 (sok a b ha hb _ (by simp; omega)) (bn hm) (bn hn) (bq hq) (bq hr) hk ha hb w
    · exact sums_5_5 a b i1 i2 i3 (sok a b ha hb _ (by simp; omega)) (bn hm) (bn hn) (bq hq) (bq hr) hk ha hb w
    · exact sums_6_5 a b i1 i2 (sok a b ha hb _ (by simp; omega)) (bn hm) (bn hn) (bq hq) (bq hr) hk ha hb w
  · rw [bn hq] at hk
    rcases hi with ⟨i1, i2, i3⟩ | ⟨i1, i2, i3⟩ | ⟨i1, i2⟩ | ⟨i1, i2, i3⟩ | ⟨i1, i2, i3⟩ | ⟨i1, i2⟩
    · exact sums_1_6 a b i1 i2 i3 (sok a b ha hb _ (by simp; omega)) (bn hm) (bn hn) (bn hq) hk ha hb w
    · exact sums_2_6 a b i1 i2 i3 (sok a b ha hb _ (by simp; omega)) (bn hm) (bn hn) (bn hq) hk ha hb w
    · exact sums_3_6 a b i1 i2 (sok a b ha hb _ (by simp; omega)) (bn hm) (bn hn) (bn hq) hk ha hb w
    · exact sums_4_6 a b i1 i2 i3 (sok a b ha hb _ (by simp; omega)) (bn hm) (bn hn) (bn hq) hk ha hb w
    · exact sums_5_6 a b i1 i2 i3 (sok a b ha hb _ (by simp; omega)) (bn hm) (bn hn) (bn hq) hk ha hb w
    · exact sums_6_6 a b i1 i2 (sok a b ha hb _ (by simp; omega)) (bn hm) (bn hn) (bn hq) hk ha hb w
end Go.Proofs.Ytldmfjedfaikkaa
