/-
  Programs as bytes: numbers there and back.
-/
import Derived.Test.YthjlpbglnnebkaaCeA
namespace Go.Proofs.Ythjlpbglnnebkaa
open Go.RowKit Go.Shelf
set_option linter.unusedVariables false
set_option linter.unusedSimpArgs false

set_option maxRecDepth 100000 in
set_option maxHeartbeats 8000000 in
theorem codeNums_any (n : Nat) (hn : n < 18446744073709551616) (k : Int) (hk : InG k) (w : World) : Calls Try.prog 3 #[.int .u64 (n : Int), .int .i64 k] w fun e w' => e = .returned (.bool true) ∧ Below w.heap.size w w' := by
  have hsk := signQ_lt k hk
  have hus := uns_sign k
  have hN1 := fun X => num_c n hn X
  have hRN := fun X => rnum_c n hn X
  have hS := fun X => sign_c k hk X
  have hRS := fun X => rsign_c k hk X
  have hN2 := fun X => num_c (signQ k) hsk X
  have hU := fun X => unsign_c n hn X
  have hRU := fun X => runsign_c n hn X
  have hU2 := fun X => unsign_c (signQ k) hsk X
  have q1 := numS_back 18446744073709551615 n (cdN (signQ k)) (by omega) hn
  have q2 := numS_back 18446744073709551615 (signQ k) [] (by omega) hsk
  rw [List.append_nil] at q2
  have hal := cdN_len n
  have hbl := cdN_len (signQ k)
  obtain ⟨a, ha⟩ : ∃ a, a = cdN n := ⟨_, rfl⟩
  obtain ⟨b, hb⟩ : ∃ b, b = cdN (signQ k) := ⟨_, rfl⟩
  obtain ⟨sk, hskd⟩ : ∃ sk, sk = signQ k := ⟨_, rfl⟩
  rw [← ha] at hN1 hRN hal q1
  rw [← hb] at hN2 hbl q1 q2
  rw [← hskd] at hS hRS hN2 hU2 q2 hus
  rw [hus] at hU2
  have hW := fun X => new_c (a ++ b) X (by rw [List.length_append]; omega)
  have hR1 : ∀ (E : Nat) (X : World), RdAt E (some (a ++ b)) X → Calls Try.prog 10 #[.pointer (some ⟨E, 0, none⟩), .int .u64 18446744073709551615] X fun e w' => e = .returned (.int .u64 (n : Int)) ∧ RdAt E (some b) w' ∧ GBu E X w' := fun E X h => by
    have := num_r E 18446744073709551615 (some (a ++ b)) X h (by show (a ++ b).length ≤ _; rw [List.length_append]; omega)
    rw [q1] at this
    exact this
  have hR2 : ∀ (E : Nat) (X : World), RdAt E (some b) X → Calls Try.prog 11 #[.pointer (some ⟨E, 0, none⟩)] X fun e w' => e = .returned (.int .i64 k) ∧ RdAt E (some []) w' ∧ GBu E X w' := fun E X h => by
    have := int_r E (some b) X h (by show b.length ≤ _; omega)
    rw [q2] at this
    simp only [hus] at this
    exact this
  have hA := fun X => awake12_any X
  have hO := fun (E : Nat) (X : World) (h : RdAt E (some []) X) => ok_r E (some []) X h
  have hL := fun (E : Nat) (X : World) (h : RdAt E (some []) X) => left_r E (some []) X h
  obtain ⟨un, hun⟩ : ∃ un, un = unsQ n := ⟨_, rfl⟩
  rw [← hun] at hU hRU
  clear q1 q2 ha hb hskd hus hun hk hsk
  go_enter Try.func3, Try.ntmps3
  go_upto_region 2 with (first
    | (go_at_call 8; first
        | (refine (hN1 _).mono ?_; rintro e w1 ⟨rfl, h1⟩; have B1 := Lib.hid h1; clear h1)
        | (refine (hN2 _).mono ?_; rintro e w2 ⟨rfl, h2⟩; have B2 := Lib.hid (B1.out.trans (h2.mono B1.out.size)); clear h2))
    | (go_at_call 9; refine (hS _).mono ?_; rintro e w9 ⟨rfl, rfl⟩)
    | (go_at_call 7; rw [ba_two]; refine (hW _).mono ?_; rintro e w3 ⟨E, rfl, h3, hE, hb3⟩; have R3 := Lib.hid h3; have HE := Lib.hid (Nat.le_trans B2.out.size hE); have B3 := Lib.hid (B2.out.trans (hb3.mono B2.out.size)); clear h3 hE hb3 hW))
  go_upto_region 3 with (first
    | (go_at_call 10; refine (hR1 _ _ R3.out).mono ?_; rintro e w4 ⟨rfl, h4, g4⟩; have R4 := Lib.hid h4; have B4 := Lib.hid (g4.below B3.out HE.out B3.out.size); clear h4 g4 hR1)
    | (go_at_call 11; refine (hR2 _ _ R4.out).mono ?_; rintro e w5 ⟨rfl, h5, g5⟩; have R5 := Lib.hid h5; have B5 := Lib.hid (g5.below B4.out HE.out B4.out.size); clear h5 g5 hR2))
  go_wp2_with (first
    | (go_at_call 12; refine (hA _).mono ?_; rintro e w6 ⟨rfl, h6⟩; have R6 := Lib.hid (R5.out.keep h6); have B6 := Lib.hid (B5.out.trans (h6.mono B5.out.size)); clear h6 hA)
    | (go_at_call 8; refine (hN1 _).mono ?_; rintro e w7 ⟨rfl, h7⟩; have R7 := Lib.hid (R6.out.keep h7); have B7 := Lib.hid (B6.out.trans (h7.mono B6.out.size)); clear h7 hN1)
    | (go_at_call 13; refine (hRN _).mono ?_; rintro e w8 ⟨rfl, h8⟩; have R8 := Lib.hid (R7.out.keep h8); have B8 := Lib.hid (B7.out.trans (h8.mono B7.out.size)); clear h8 hRN)
    | (go_at_call 14; refine (hO _ _ R8.out).mono ?_; rintro e w9 ⟨rfl, rfl⟩; clear hO)
    | (go_at_call 15; refine (hL _ _ R8.out).mono ?_; rintro e w9 ⟨rfl, rfl⟩; clear hL)
    | (go_at_call 9; refine (hS _).mono ?_; rintro e w9 ⟨rfl, rfl⟩)
    | (go_at_call 16; refine (hRS _).mono ?_; rintro e w9 ⟨rfl, rfl⟩; clear hRS)
    | (go_at_call 17; first
        | (refine (hU _).mono ?_; rintro e w9 ⟨rfl, rfl⟩; clear hU)
        | (refine (hU2 _).mono ?_; rintro e w9 ⟨rfl, rfl⟩))
    | (go_at_call 18; refine (hRU _).mono ?_; rintro e w9 ⟨rfl, rfl⟩))
  go_ret
  exact ⟨rfl, B8.out⟩
theorem codeNums_row (n k : Int) (hn : (Lit.int .u64 n).wf = true) (hk : (Lit.int .i64 k).wf = true) (w : World) : Calls Try.prog 3 #[.int .u64 n, .int .i64 k] w fun e w' => e = .returned (.bool true) ∧ Below w.heap.size w w' := by
  have h1 : 0 ≤ n ∧ n ≤ 18446744073709551615 := by
    unfold Lit.wf at hn
    rw [Bool.and_eq_true] at hn
    exact ⟨of_decide_eq_true hn.1, of_decide_eq_true hn.2⟩
  have h2 : InG k := by
    unfold Lit.wf at hk
    rw [Bool.and_eq_true] at hk
    exact ⟨of_decide_eq_true hk.1, of_decide_eq_true hk.2⟩
  obtain ⟨m, rfl⟩ : ∃ m : Nat, n = (m : Int) := ⟨n.toNat, by omega⟩
  exact codeNums_any m (by omega) k h2 w
end Go.Proofs.Ythjlpbglnnebkaa
