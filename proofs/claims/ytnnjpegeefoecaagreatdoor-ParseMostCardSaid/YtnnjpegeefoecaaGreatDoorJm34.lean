/-
  Package tree's Sign, comparison, TypeName: an operation's sign, a type's word.
-/
import Derived.Test.YtnnjpegeefoecaaGreatDoorRows
import Derived.WalkKit
import Derived.WalkSpells
import Derived.WalkLawsBesides
import Derived.BigCall
import Derived.BigGuard
import Derived.Below
import Derived.Lib.Builder
import Derived.Lib.Hide
namespace Go.Proofs.YtnnjpegeefoecaaGreatDoor
set_option linter.unusedVariables false
set_option linter.unusedSimpArgs false
open Go.RowKit

theorem ret_txt {a b : ByteArray} (h : a = b) : Ending.returned (.string a) = .returned (.string b) := by rw [h]
def signL : List ByteArray := [⟨#[]⟩, ⟨#[]⟩, ⟨#[]⟩, ⟨#[]⟩, ⟨#[43]⟩, ⟨#[45]⟩, ⟨#[42]⟩, ⟨#[47]⟩, ⟨#[37]⟩, ⟨#[38]⟩, ⟨#[124]⟩, ⟨#[94]⟩, ⟨#[60, 60]⟩, ⟨#[62, 62]⟩, ⟨#[62, 62, 62]⟩, ⟨#[45]⟩, ⟨#[126]⟩, ⟨#[61, 61]⟩, ⟨#[33, 61]⟩, ⟨#[60]⟩, ⟨#[60, 61]⟩, ⟨#[62]⟩, ⟨#[62, 61]⟩, ⟨#[]⟩, ⟨#[33]⟩]
def typeL : List ByteArray := [⟨#[]⟩, ⟨#[105, 110, 116]⟩, ⟨#[98, 111, 111, 108]⟩, ⟨#[91, 105, 110, 116, 93]⟩, ⟨#[91, 91, 105, 110, 116, 93, 93]⟩]
def nameAt (l : List ByteArray) (k : Int) : ByteArray := if k < 0 then ⟨#[]⟩ else l.getD k.toNat ⟨#[]⟩
def signA (k : Int) : ByteArray := nameAt signL k
def typeA (k : Int) : ByteArray := nameAt typeL k
theorem nameAt_at (l : List ByteArray) (k : Nat) : nameAt l k = l.getD k ⟨#[]⟩ := by
  unfold nameAt
  rw [if_neg (by omega), Int.toNat_natCast]
theorem nameAt_neg (l : List ByteArray) (k : Int) (h : k < 0) : nameAt l k = ⟨#[]⟩ := if_pos h
theorem nameAt_far (l : List ByteArray) (k : Int) (h : (l.length : Int) ≤ k) : nameAt l k = ⟨#[]⟩ := by
  unfold nameAt
  rw [if_neg (by omega), List.getD_eq_getElem?_getD, List.getElem?_eq_none (by omega)]
  rfl
theorem signA_0 : signA 0 = ⟨#[]⟩ := nameAt_at signL 0
theorem signA_1 : signA 1 = ⟨#[]⟩ := nameAt_at signL 1
theorem signA_2 : signA 2 = ⟨#[]⟩ := nameAt_at signL 2
theorem signA_3 : signA 3 = ⟨#[]⟩ := nameAt_at signL 3
theorem signA_4 : signA 4 = ⟨#[43]⟩ := nameAt_at signL 4
theorem signA_5 : signA 5 = ⟨#[45]⟩ := nameAt_at signL 5
theorem signA_6 : signA 6 = ⟨#[42]⟩ := nameAt_at signL 6
theorem signA_7 : signA 7 = ⟨#[47]⟩ := nameAt_at signL 7
theorem signA_8 : signA 8 = ⟨#[37]⟩ := nameAt_at signL 8
theorem signA_9 : signA 9 = ⟨#[38]⟩ := nameAt_at signL 9
theorem signA_10 : signA 10 = ⟨#[124]⟩ := nameAt_at signL 10
theorem signA_11 : signA 11 = ⟨#[94]⟩ := nameAt_at signL 11
theorem signA_12 : signA 12 = ⟨#[60, 60]⟩ := nameAt_at signL 12
theorem signA_13 : signA 13 = ⟨#[62, 62]⟩ := nameAt_at signL 13
theorem signA_14 : signA 14 = ⟨#[62, 62, 62]⟩ := nameAt_at signL 14
theorem signA_15 : signA 15 = ⟨#[45]⟩ := nameAt_at signL 15
theorem signA_16 : signA 16 = ⟨#[126]⟩ := nameAt_at signL 16
theorem signA_17 : signA 17 = ⟨#[61, 61]⟩ := nameAt_at signL 17
theorem signA_18 : signA 18 = ⟨#[33, 61]⟩ := nameAt_at signL 18
theorem signA_19 : signA 19 = ⟨#[60]⟩ := nameAt_at signL 19
theorem signA_20 : signA 20 = ⟨#[60, 61]⟩ := nameAt_at signL 20
theorem signA_21 : signA 21 = ⟨#[62]⟩ := nameAt_at signL 21
theorem signA_22 : signA 22 = ⟨#[62, 61]⟩ := nameAt_at signL 22
theorem signA_23 : signA 23 = ⟨#[]⟩ := nameAt_at signL 23
theorem signA_24 : signA 24 = ⟨#[33]⟩ := nameAt_at signL 24
theorem typeA_0 : typeA 0 = ⟨#[]⟩ := nameAt_at typeL 0
theorem typeA_1 : typeA 1 = ⟨#[105, 110, 116]⟩ := nameAt_at typeL 1
theorem typeA_2 : typeA 2 = ⟨#[98, 111, 111, 108]⟩ := nameAt_at typeL 2
theorem typeA_3 : typeA 3 = ⟨#[91, 105, 110, 116, 93]⟩ := nameAt_at typeL 3
theorem typeA_4 : typeA 4 = ⟨#[91, 91, 105, 110, 116, 93, 93]⟩ := nameAt_at typeL 4
theorem signA_none (k : Int) (h4 : k ≠ 4) (h5 : k ≠ 5) (h6 : k ≠ 6) (h7 : k ≠ 7) (h8 : k ≠ 8) (h9 : k ≠ 9) (h10 : k ≠ 10) (h11 : k ≠ 11) (h12 : k ≠ 12) (h13 : k ≠ 13) (h14 : k ≠ 14) (h15 : k ≠ 15) (h16 : k ≠ 16) (h17 : k ≠ 17) (h18 : k ≠ 18) (h19 : k ≠ 19) (h20 : k ≠ 20) (h21 : k ≠ 21) (h22 : k ≠ 22) (h24 : k ≠ 24) : signA k = ⟨#[]⟩ := by
  by_cases hn : k < 0
  · exact nameAt_neg _ k hn
  by_cases hf : 25 ≤ k
  · exact nameAt_far _ k hf
  have hs : k = 0 ∨ k = 1 ∨ k = 2 ∨ k = 3 ∨ k = 23 := by omega
  rcases hs with rfl | rfl | rfl | rfl | rfl
  · exact signA_0
  · exact signA_1
  · exact signA_2
  · exact signA_3
  · exact signA_23
theorem typeA_none (k : Int) (h1 : k ≠ 1) (h2 : k ≠ 2) (h3 : k ≠ 3) (h4 : k ≠ 4) : typeA k = ⟨#[]⟩ := by
  by_cases hn : k < 0
  · exact nameAt_neg _ k hn
  by_cases hf : 5 ≤ k
  · exact nameAt_far _ k hf
  obtain rfl : k = 0 := by omega
  exact typeA_0
set_option maxHeartbeats 1000000 in
theorem cmpW_17 (w : World) : Calls Tryz.prog 232 #[.int .i64 17] w fun e w' => e = .returned (.string ⟨#[61, 61]⟩) ∧ w = w' := by
  go_enter Tryz.func232, Tryz.ntmps232
  go_wp2
  go_ret
  exact ⟨rfl, rfl⟩
set_option maxHeartbeats 1000000 in
theorem cmpW_18 (w : World) : Calls Tryz.prog 232 #[.int .i64 18] w fun e w' => e = .returned (.string ⟨#[33, 61]⟩) ∧ w = w' := by
  go_enter Tryz.func232, Tryz.ntmps232
  go_wp2
  go_ret
  exact ⟨rfl, rfl⟩
set_option maxHeartbeats 1000000 in
theorem cmpW_19 (w : World) : Calls Tryz.prog 232 #[.int .i64 19] w fun e w' => e = .returned (.string ⟨#[60]⟩) ∧ w = w' := by
  go_enter Tryz.func232, Tryz.ntmps232
  go_wp2
  go_ret
  exact ⟨rfl, rfl⟩
set_option maxHeartbeats 1000000 in
theorem cmpW_20 (w : World) : Calls Tryz.prog 232 #[.int .i64 20] w fun e w' => e = .returned (.string ⟨#[60, 61]⟩) ∧ w = w' := by
  go_enter Tryz.func232, Tryz.ntmps232
  go_wp2
  go_ret
  exact ⟨rfl, rfl⟩
set_option maxHeartbeats 1000000 in
theorem cmpW_21 (w : World) : Calls Tryz.prog 232 #[.int .i64 21] w fun e w' => e = .returned (.string ⟨#[62]⟩) ∧ w = w' := by
  go_enter Tryz.func232, Tryz.ntmps232
  go_wp2
  go_ret
  exact ⟨rfl, rfl⟩
set_option maxHeartbeats 1000000 in
theorem cmpW_22 (w : World) : Calls Tryz.prog 232 #[.int .i64 22] w fun e w' => e = .returned (.string ⟨#[62, 61]⟩) ∧ w = w' := by
  go_enter Tryz.func232, Tryz.ntmps232
  go_wp2
  go_ret
  exact ⟨rfl, rfl⟩
set_option maxHeartbeats 1000000 in
theorem signW_4 (w : World) : Calls Tryz.prog 216 #[.int .i64 4] w fun e w' => e = .returned (.string ⟨#[43]⟩) ∧ w = w' := by
  go_enter Tryz.func216, Tryz.ntmps216
  go_wp2
  go_ret
  exact ⟨rfl, rfl⟩
set_option maxHeartbeats 1000000 in
theorem signW_5 (w : World) : Calls Tryz.prog 216 #[.int .i64 5] w fun e w' => e = .returned (.string ⟨#[45]⟩) ∧ w = w' := by
  go_enter Tryz.func216, Tryz.ntmps216
  go_wp2
  go_ret
  exact ⟨rfl, rfl⟩
set_option maxHeartbeats 1000000 in
theorem signW_15 (w : World) : Calls Tryz.prog 216 #[.int .i64 15] w fun e w' => e = .returned (.string ⟨#[45]⟩) ∧ w = w' := by
  go_enter Tryz.func216, Tryz.ntmps216
  go_wp2
  go_ret
  exact ⟨rfl, rfl⟩
set_option maxHeartbeats 1000000 in
theorem signW_6 (w : World) : Calls Tryz.prog 216 #[.int .i64 6] w fun e w' => e = .returned (.string ⟨#[42]⟩) ∧ w = w' := by
  go_enter Tryz.func216, Tryz.ntmps216
  go_wp2
  go_ret
  exact ⟨rfl, rfl⟩
set_option maxHeartbeats 1000000 in
theorem signW_7 (w : World) : Calls Tryz.prog 216 #[.int .i64 7] w fun e w' => e = .returned (.string ⟨#[47]⟩) ∧ w = w' := by
  go_enter Tryz.func216, Tryz.ntmps216
  go_wp2
  go_ret
  exact ⟨rfl, rfl⟩
set_option maxHeartbeats 1000000 in
theorem signW_8 (w : World) : Calls Tryz.prog 216 #[.int .i64 8] w fun e w' => e = .returned (.string ⟨#[37]⟩) ∧ w = w' := by
  go_enter Tryz.func216, Tryz.ntmps216
  go_wp2
  go_ret
  exact ⟨rfl, rfl⟩
set_option maxHeartbeats 1000000 in
theorem signW_9 (w : World) : Calls Tryz.prog 216 #[.int .i64 9] w fun e w' => e = .returned (.string ⟨#[38]⟩) ∧ w = w' := by
  go_enter Tryz.func216, Tryz.ntmps216
  go_wp2
  go_ret
  exact ⟨rfl, rfl⟩
set_option maxHeartbeats 1000000 in
theorem signW_10 (w : World) : Calls Tryz.prog 216 #[.int .i64 10] w fun e w' => e = .returned (.string ⟨#[124]⟩) ∧ w = w' := by
  go_enter Tryz.func216, Tryz.ntmps216
  go_wp2
  go_ret
  exact ⟨rfl, rfl⟩
set_option maxHeartbeats 1000000 in
theorem signW_11 (w : World) : Calls Tryz.prog 216 #[.int .i64 11] w fun e w' => e = .returned (.string ⟨#[94]⟩) ∧ w = w' := by
  go_enter Tryz.func216, Tryz.ntmps216
  go_wp2
  go_ret
  exact ⟨rfl, rfl⟩
set_option maxHeartbeats 1000000 in
theorem signW_12 (w : World) : Calls Tryz.prog 216 #[.int .i64 12] w fun e w' => e = .returned (.string ⟨#[60, 60]⟩) ∧ w = w' := by
  go_enter Tryz.func216, Tryz.ntmps216
  go_wp2
  go_ret
  exact ⟨rfl, rfl⟩
set_option maxHeartbeats 1000000 in
theorem signW_13 (w : World) : Calls Tryz.prog 216 #[.int .i64 13] w fun e w' => e = .returned (.string ⟨#[62, 62]⟩) ∧ w = w' := by
  go_enter Tryz.func216, Tryz.ntmps216
  go_wp2
  go_ret
  exact ⟨rfl, rfl⟩
set_option maxHeartbeats 1000000 in
theorem signW_14 (w : World) : Calls Tryz.prog 216 #[.int .i64 14] w fun e w' => e = .returned (.string ⟨#[62, 62, 62]⟩) ∧ w = w' := by
  go_enter Tryz.func216, Tryz.ntmps216
  go_wp2
  go_ret
  exact ⟨rfl, rfl⟩
set_option maxHeartbeats 1000000 in
theorem signW_16 (w : World) : Calls Tryz.prog 216 #[.int .i64 16] w fun e w' => e = .returned (.string ⟨#[126]⟩) ∧ w = w' := by
  go_enter Tryz.func216, Tryz.ntmps216
  go_wp2
  go_ret
  exact ⟨rfl, rfl⟩
set_option maxHeartbeats 1000000 in
theorem signW_24 (w : World) : Calls Tryz.prog 216 #[.int .i64 24] w fun e w' => e = .returned (.string ⟨#[33]⟩) ∧ w = w' := by
  go_enter Tryz.func216, Tryz.ntmps216
  go_wp2
  go_ret
  exact ⟨rfl, rfl⟩
set_option maxHeartbeats 1000000 in
theorem typeW_1 (w : World) : Calls Tryz.prog 42 #[.int .i64 1] w fun e w' => e = .returned (.string ⟨#[105, 110, 116]⟩) ∧ w = w' := by
  go_enter Tryz.func42, Tryz.ntmps42
  go_wp2
  go_ret
  exact ⟨rfl, rfl⟩
set_option maxHeartbeats 1000000 in
theorem typeW_2 (w : World) : Calls Tryz.prog 42 #[.int .i64 2] w fun e w' => e = .returned (.string ⟨#[98, 111, 111, 108]⟩) ∧ w = w' := by
  go_enter Tryz.func42, Tryz.ntmps42
  go_wp2
  go_ret
  exact ⟨rfl, rfl⟩
set_option maxHeartbeats 1000000 in
theorem typeW_3 (w : World) : Calls Tryz.prog 42 #[.int .i64 3] w fun e w' => e = .returned (.string ⟨#[91, 105, 110, 116, 93]⟩) ∧ w = w' := by
  go_enter Tryz.func42, Tryz.ntmps42
  go_wp2
  go_ret
  exact ⟨rfl, rfl⟩
set_option maxHeartbeats 1000000 in
theorem typeW_4 (w : World) : Calls Tryz.prog 42 #[.int .i64 4] w fun e w' => e = .returned (.string ⟨#[91, 91, 105, 110, 116, 93, 93]⟩) ∧ w = w' := by
  go_enter Tryz.func42, Tryz.ntmps42
  go_wp2
  go_ret
  exact ⟨rfl, rfl⟩
set_option maxHeartbeats 1000000 in
theorem cmpW_none (k : Int) (h17 : k ≠ 17) (h18 : k ≠ 18) (h19 : k ≠ 19) (h20 : k ≠ 20) (h21 : k ≠ 21) (h22 : k ≠ 22) (w : World) : Calls Tryz.prog 232 #[.int .i64 k] w fun e w' => e = .returned (.string ⟨#[]⟩) ∧ w = w' := by
  have b17 : (k == 17) = false := by simpa using h17
  have b18 : (k == 18) = false := by simpa using h18
  have b19 : (k == 19) = false := by simpa using h19
  have b20 : (k == 20) = false := by simpa using h20
  have b21 : (k == 21) = false := by simpa using h21
  have b22 : (k == 22) = false := by simpa using h22
  clear h17 h18 h19 h20 h21 h22
  go_enter Tryz.func232, Tryz.ntmps232
  go_wp2
  go_ret
  exact ⟨rfl, rfl⟩
theorem cmp_any (k : Int) (h4 : k ≠ 4) (h5 : k ≠ 5) (h15 : k ≠ 15) (h6 : k ≠ 6) (h7 : k ≠ 7) (h8 : k ≠ 8) (h9 : k ≠ 9) (h10 : k ≠ 10) (h11 : k ≠ 11) (h12 : k ≠ 12) (h13 : k ≠ 13) (h14 : k ≠ 14) (h16 : k ≠ 16) (h24 : k ≠ 24) (w : World) : Calls Tryz.prog 232 #[.int .i64 k] w fun e w' => e = .returned (.string (signA k)) ∧ w = w' := by
  by_cases h17 : k = 17
  · subst h17
    rw [signA_17]
    exact cmpW_17 w
  by_cases h18 : k = 18
  · subst h18
    rw [signA_18]
    exact cmpW_18 w
  by_cases h19 : k = 19
  · subst h19
    rw [signA_19]
    exact cmpW_19 w
  by_cases h20 : k = 20
  · subst h20
    rw [signA_20]
    exact cmpW_20 w
  by_cases h21 : k = 21
  · subst h21
    rw [signA_21]
    exact cmpW_21 w
  by_cases h22 : k = 22
  · subst h22
    rw [signA_22]
    exact cmpW_22 w
  rw [signA_none k h4 h5 h6 h7 h8 h9 h10 h11 h12 h13 h14 h15 h16 h17 h18 h19 h20 h21 h22 h24]
  exact cmpW_none k h17 h18 h19 h20 h21 h22 w
set_option maxHeartbeats 1000000 in
theorem signW_rest (k : Int) (h4 : k ≠ 4) (h5 : k ≠ 5) (h15 : k ≠ 15) (h6 : k ≠ 6) (h7 : k ≠ 7) (h8 : k ≠ 8) (h9 : k ≠ 9) (h10 : k ≠ 10) (h11 : k ≠ 11) (h12 : k ≠ 12) (h13 : k ≠ 13) (h14 : k ≠ 14) (h16 : k ≠ 16) (h24 : k ≠ 24) (w : World) : Calls Tryz.prog 216 #[.int .i64 k] w fun e w' => e = .returned (.string (signA k)) ∧ w = w' := by
  have hc := cmp_any k h4 h5 h15 h6 h7 h8 h9 h10 h11 h12 h13 h14 h16 h24
  obtain ⟨S, hS⟩ : ∃ S, S = signA k := ⟨_, rfl⟩
  rw [← hS] at hc ⊢
  clear hS
  have b4 : (k == 4) = false := by simpa using h4
  have b5 : (k == 5) = false := by simpa using h5
  have b15 : (k == 15) = false := by simpa using h15
  have b6 : (k == 6) = false := by simpa using h6
  have b7 : (k == 7) = false := by simpa using h7
  have b8 : (k == 8) = false := by simpa using h8
  have b9 : (k == 9) = false := by simpa using h9
  have b10 : (k == 10) = false := by simpa using h10
  have b11 : (k == 11) = false := by simpa using h11
  have b12 : (k == 12) = false := by simpa using h12
  have b13 : (k == 13) = false := by simpa using h13
  have b14 : (k == 14) = false := by simpa using h14
  have b16 : (k == 16) = false := by simpa using h16
  have b24 : (k == 24) = false := by simpa using h24
  clear h4 h5 h15 h6 h7 h8 h9 h10 h11 h12 h13 h14 h16 h24
  go_enter Tryz.func216, Tryz.ntmps216
  go_wp2_with (go_at_call 232; refine (hc _).mono ?_; rintro e w' ⟨rfl, rfl⟩)
  go_ret
  exact ⟨rfl, rfl⟩
theorem tsign_any (k : Int) (w : World) : Calls Tryz.prog 216 #[.int .i64 k] w fun e w' => e = .returned (.string (signA k)) ∧ w = w' := by
  by_cases h4 : k = 4
  · subst h4
    rw [signA_4]
    exact signW_4 w
  by_cases h5 : k = 5
  · subst h5
    rw [signA_5]
    exact signW_5 w
  by_cases h15 : k = 15
  · subst h15
    rw [signA_15]
    exact signW_15 w
  by_cases h6 : k = 6
  · subst h6
    rw [signA_6]
    exact signW_6 w
  by_cases h7 : k = 7
  · subst h7
    rw [signA_7]
    exact signW_7 w
  by_cases h8 : k = 8
  · subst h8
    rw [signA_8]
    exact signW_8 w
  by_cases h9 : k = 9
  · subst h9
    rw [signA_9]
    exact signW_9 w
  by_cases h10 : k = 10
  · subst h10
    rw [signA_10]
    exact signW_10 w
  by_cases h11 : k = 11
  · subst h11
    rw [signA_11]
    exact signW_11 w
  by_cases h12 : k = 12
  · subst h12
    rw [signA_12]
    exact signW_12 w
  by_cases h13 : k = 13
  · subst h13
    rw [signA_13]
    exact signW_13 w
  by_cases h14 : k = 14
  · subst h14
    rw [signA_14]
    exact signW_14 w
  by_cases h16 : k = 16
  · subst h16
    rw [signA_16]
    exact signW_16 w
  by_cases h24 : k = 24
  · subst h24
    rw [signA_24]
    exact signW_24 w
  exact signW_rest k h4 h5 h15 h6 h7 h8 h9 h10 h11 h12 h13 h14 h16 h24 w
set_option maxHeartbeats 1000000 in
theorem typeW_none (k : Int) (h1 : k ≠ 1) (h2 : k ≠ 2) (h3 : k ≠ 3) (h4 : k ≠ 4) (w : World) : Calls Tryz.prog 42 #[.int .i64 k] w fun e w' => e = .returned (.string ⟨#[]⟩) ∧ w = w' := by
  have b1 : (k == 1) = false := by simpa using h1
  have b2 : (k == 2) = false := by simpa using h2
  have b3 : (k == 3) = false := by simpa using h3
  have b4 : (k == 4) = false := by simpa using h4
  clear h1 h2 h3 h4
  go_enter Tryz.func42, Tryz.ntmps42
  go_wp2
  go_ret
  exact ⟨rfl, rfl⟩
theorem type_any (k : Int) (w : World) : Calls Tryz.prog 42 #[.int .i64 k] w fun e w' => e = .returned (.string (typeA k)) ∧ w = w' := by
  by_cases h1 : k = 1
  · subst h1
    rw [typeA_1]
    exact typeW_1 w
  by_cases h2 : k = 2
  · subst h2
    rw [typeA_2]
    exact typeW_2 w
  by_cases h3 : k = 3
  · subst h3
    rw [typeA_3]
    exact typeW_3 w
  by_cases h4 : k = 4
  · subst h4
    rw [typeA_4]
    exact typeW_4 w
  rw [typeA_none k h1 h2 h3 h4]
  exact typeW_none k h1 h2 h3 h4 w
end Go.Proofs.YtnnjpegeefoecaaGreatDoor
