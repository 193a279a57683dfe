/-
  The reference's divide, walked.
-/
import Derived.Test.YtldmfjedfaikkaaR5
namespace Go.Proofs.Ytldmfjedfaikkaa
open Go.RowKit

theorem wrap_0 : wrap64 0 = 0 := by decide +kernel
theorem add_is (a b c : Int) (h : Hid (wrap64 (a + b) = c)) (w : World) : Calls Try.prog 26 #[.int .i64 a, .int .i64 b] w fun e w' => e = .returned (.int .i64 c) ∧ Grown w w' :=
  (add_any a b w).mono fun _ _ ⟨he, hw⟩ => ⟨by rw [he, h.out], hw⟩

set_option maxHeartbeats 2000000 in
theorem rdivide_any (a b : Int) (hb : 1 ≤ b % 18446744073709551616) (w : World) : Calls Try.prog 41 #[.int .i64 a, .int .i64 b] w fun e w' => e = .returned (.tuple #[.int .i64 (wrap64 (a % 18446744073709551616 / (b % 18446744073709551616))), .int .i64 (wrap64 (a % 18446744073709551616 % (b % 18446744073709551616)))]) ∧ Grown w w' := by
  have HB := Lib.hid hb
  clear hb
  go_enter Try.func41, Try.ntmps41
  go_wp2_with (first | (refine wpList_build47 rfl rfl ?_) | (refine wpList_alloc47 rfl rfl ?_) | (refine wpList_store47 rfl _ _ rfl zer zer rfl rfl ?_))
  go_loopw [7, 8] (fun r i wr => ∃ k : Nat, k ≤ 64 ∧ i = .int .i64 (63 - (k : Int)) ∧ r = .int .i64 (wrap64 (rest a b k)) ∧ Has wr w.heap.size (tops (gquo a b) k) ∧ Grown w wr) (fun _ i _ => (intOf i + 1).toNat)
  case atStart => exact ⟨0, by omega, rfl, by rw [rest_0, wrap_0], has_tops0 _ (has_new _ _), (Grown.refl w).alloc _ _⟩
  case round =>
    obtain ⟨k, hk, rfl, rfl, hh, hg⟩ := hrel
    have HH := Lib.hid hh
    have HG := Lib.hid hg
    clear hh hg
    by_cases h : k = 64
    · subst h
      have hn : Hid (∀ i, i < 64 → tops (gquo a b) 64 i = bt (a % 18446744073709551616 / (b % 18446744073709551616)) i) := Lib.hid (fun i hi => by unfold tops; rw [if_pos (by omega)]; rfl)
      have hb := Lib.hid (tops_bits (gquo a b) (fun i => bt_nn _ i) 64)
      go_wp2_with (first | (refine wpList_load47 rfl _ rfl (tops (gquo a b) 64) w.heap.size rfl HH.out ?_) | (go_at_call 43; refine (number_of _ (a % 18446744073709551616 / (b % 18446744073709551616)) hb.out hn _).mono ?_; rintro e w' ⟨rfl, rfl⟩))
      go_ret2
      exact ⟨ret_pair rfl (by unfold rest; rw [rem_all]), HG.out.alloc _ _⟩
    · have HR := Lib.hid (rest_bd a b k HB.out)
      have HT := Lib.hid (bt_nn a (63 - k))
      have D1 : Hid (wrap64 (wrap64 (rest a b k) + wrap64 (rest a b k)) = wrap64 (2 * rest a b k)) := Lib.hid (by unfold wrap64; omega)
      have D2 : Hid (wrap64 (wrap64 (2 * rest a b k) + bt a (63 - k)) = wrap64 (2 * rest a b k + bt a (63 - k))) := Lib.hid (wrap_add _ _)
      by_cases hge : b % 18446744073709551616 ≤ 2 * rest a b k + bt a (63 - k)
      · have ST := Lib.hid (round_ge a b k (by omega) HB.out hge)
        have D3 : Hid (wrap64 (wrap64 (2 * rest a b k + bt a (63 - k)) + wrap64 (-b)) = wrap64 (rest a b (k + 1))) := Lib.hid (by rw [less_wrap, ST.out.1])
        by_cases hhi : 9223372036854775808 ≤ rest a b k
        · have hb1 := high_1 (rest a b k) (by have := HR.out; omega) (by have := HR.out; omega) hhi
          clear hge hhi
          go_wp2_with (go_at_call 35; refine (rbit_any _ _ (by omega) (by omega) _).mono ?_; rintro e w' ⟨rfl, rfl⟩)
          refine (add_is _ _ _ D1 _).mono ?_
          rintro e w1 ⟨rfl, h1⟩
          have H1 := Lib.hid h1
          clear h1
          go_wp2_with (go_at_call 35; refine (rbit_any _ _ (by omega) (by omega) _).mono ?_; rintro e w' ⟨rfl, rfl⟩)
          refine (add_is _ _ _ D2 _).mono ?_
          rintro e w2 ⟨rfl, h2⟩
          have H2 := Lib.hid h2
          clear h2
          go_wp2_with (fail)
          refine (neg_any _ _).mono ?_
          rintro e w3 ⟨rfl, h3⟩
          have H3 := Lib.hid h3
          clear h3
          go_wp2_with (fail)
          refine (add_is _ _ _ D3 _).mono ?_
          rintro e w4 ⟨rfl, h4⟩
          have H4 := Lib.hid (grown_trans H1.out (grown_trans H2.out (grown_trans H3.out h4)))
          clear h4
          have hh := has_grown HH.out H4.out
          have hc := hh.cell (63 - k) (by omega)
          have hf := hh.free (63 - k)
          have hd := Lib.hid (hh.tops (by omega) 1 ST.out.2)
          have HG2 := Lib.hid (grown_set (grown_trans HG.out H4.out) (Nat.le_refl _) (63 - k) (.int .i64 1))
          clear hh
          go_wp2_with (fail)
          go_roundw
          case rel => exact ⟨k + 1, by omega, by go_num, rfl, hd.out, HG2.out⟩
          case measure => simp only [intOf]; omega
        · have hb1 := high_0 (rest a b k) (by have := HR.out; omega) (by have := HR.out; omega) (by omega)
          have hu : ult (wrap64 (2 * rest a b k + bt a (63 - k))) b = false := by
            have := HR.out; have := HT.out
            unfold ult; rw [mod_wrap]; exact decide_eq_false (by omega)
          clear hge hhi
          go_wp2_with (go_at_call 35; refine (rbit_any _ _ (by omega) (by omega) _).mono ?_; rintro e w' ⟨rfl, rfl⟩)
          refine (add_is _ _ _ D1 _).mono ?_
          rintro e w1 ⟨rfl, h1⟩
          have H1 := Lib.hid h1
          clear h1
          go_wp2_with (go_at_call 35; refine (rbit_any _ _ (by omega) (by omega) _).mono ?_; rintro e w' ⟨rfl, rfl⟩)
          refine (add_is _ _ _ D2 _).mono ?_
          rintro e w2 ⟨rfl, h2⟩
          have H2 := Lib.hid h2
          clear h2
          go_wp2_with (first | (go_at_call 35; refine (rbit_any _ _ (by omega) (by omega) _).mono ?_; rintro e w' ⟨rfl, rfl⟩) | (go_at_call 37; refine (under_any _ _ _).mono ?_; rintro e w' ⟨rfl, rfl⟩))
          refine (neg_any _ _).mono ?_
          rintro e w3 ⟨rfl, h3⟩
          have H3 := Lib.hid h3
          clear h3
          go_wp2_with (fail)
          refine (add_is _ _ _ D3 _).mono ?_
          rintro e w4 ⟨rfl, h4⟩
          have H4 := Lib.hid (grown_trans H1.out (grown_trans H2.out (grown_trans H3.out h4)))
          clear h4
          have hh := has_grown HH.out H4.out
          have hc := hh.cell (63 - k) (by omega)
          have hf := hh.free (63 - k)
          have hd := Lib.hid (hh.tops (by omega) 1 ST.out.2)
          have HG2 := Lib.hid (grown_set (grown_trans HG.out H4.out) (Nat.le_refl _) (63 - k) (.int .i64 1))
          clear hh
          go_wp2_with (fail)
          go_roundw
          case rel => exact ⟨k + 1, by omega, by go_num, rfl, hd.out, HG2.out⟩
          case measure => simp only [intOf]; omega
      · have ST := Lib.hid (round_lt a b k (by omega) HB.out (by omega))
        have hb1 := high_0 (rest a b k) (by have := HR.out; omega) (by have := HR.out; omega) (by have := HR.out; have := HT.out; have := Int.emod_lt_of_pos b (show (0 : Int) < 18446744073709551616 by decide); omega)
        have hu : ult (wrap64 (2 * rest a b k + bt a (63 - k))) b = true := by
          have := HR.out; have := HT.out; have := Int.emod_lt_of_pos b (show (0 : Int) < 18446744073709551616 by decide)
          unfold ult; rw [mod_wrap]; exact decide_eq_true (by omega)
        clear hge
        go_wp2_with (go_at_call 35; refine (rbit_any _ _ (by omega) (by omega) _).mono ?_; rintro e w' ⟨rfl, rfl⟩)
        refine (add_is _ _ _ D1 _).mono ?_
        rintro e w1 ⟨rfl, h1⟩
        have H1 := Lib.hid h1
        clear h1
        go_wp2_with (go_at_call 35; refine (rbit_any _ _ (by omega) (by omega) _).mono ?_; rintro e w' ⟨rfl, rfl⟩)
        refine (add_is _ _ _ D2 _).mono ?_
        rintro e w2 ⟨rfl, h2⟩
        have H2 := Lib.hid h2
        clear h2
        go_wp2_with (first | (go_at_call 35; refine (rbit_any _ _ (by omega) (by omega) _).mono ?_; rintro e w' ⟨rfl, rfl⟩) | (go_at_call 37; refine (under_any _ _ _).mono ?_; rintro e w' ⟨rfl, rfl⟩))
        go_roundw
        case rel => exact ⟨k + 1, by omega, by go_num, by rw [ST.out.1], (has_grown HH.out (grown_trans H1.out H2.out)).tops_same (by omega) ST.out.2, grown_trans HG.out (grown_trans H1.out H2.out)⟩
        case measure => simp only [intOf]; omega
end Go.Proofs.Ytldmfjedfaikkaa
