/-
  Which texts may be names: the program's function and the reference's.
-/
import Derived.Test.YtmoeokfjfnegmaaDoorB1
namespace Go.Proofs.YtmoeokfjfnegmaaDoor
open Go.RowKit

def isNameB : List UInt8 → Bool
  | [] => false
  | c :: r => letterB c.toNat && (pastN nameB (c :: r) == (c :: r).length) && !keptB (c :: r)

theorem empty_of (s : ByteArray) (h : s.size = 0) : s = ⟨#[]⟩ := by
  apply ByteArray.ext
  exact Array.eq_empty_of_size_eq_zero h
theorem ne_empty (s : ByteArray) (h : 0 < s.size) : s.toList.isEmpty = false := by
  have hlen : s.data.toList.length = s.size := by simp
  rw [ByteArray.toList_eq]
  rcases hd : s.data.toList with _ | ⟨c, r⟩
  · rw [hd] at hlen; simp at hlen; omega
  · rfl
theorem isName_at (s : ByteArray) (h : 0 < s.size) : isNameB s.data.toList = (letterB s[0].toNat && (pastN nameB s.data.toList == s.size) && !keptB s.data.toList) := by
  have e := drop_at s 0 h
  rw [List.drop_zero] at e
  have hlen : s.data.toList.length = s.size := by simp
  rw [← hlen, e]
  rfl

set_option maxHeartbeats 2000000 in
theorem lname_any (s : ByteArray) (w : World) (hs : s.size ≤ maxLen) : Calls Tryd.prog 15 #[.string s] w fun e w' => e = .returned (.bool (isNameB s.data.toList)) ∧ Below w.heap.size w w' := by
  have hs' := hs
  unfold maxLen at hs
  by_cases h0 : s.size = 0
  · have e := empty_of s h0
    subst e
    clear h0 hs hs'
    go_enter Tryd.func15, Tryd.ntmps15
    go_wp2_with (fail)
    go_ret
    exact ⟨rfl, Below.refl _ _⟩
  · have h1 : 0 < s.size := by omega
    have hE := isName_at s h1
    obtain ⟨b, hb⟩ : ∃ b, b = isNameB s.data.toList := ⟨_, rfl⟩
    rw [← hb] at hE
    rw [← hb]
    clear hb
    have t1 := ne_empty s h1
    obtain ⟨P, hP⟩ : ∃ P, P = pastN nameB s.data.toList := ⟨_, rfl⟩
    obtain ⟨K, hK⟩ : ∃ K, K = keptB s.data.toList := ⟨_, rfl⟩
    have HP : ∀ w : World, Calls Tryd.prog 25 #[.string s, .int .i64 0, .func (.func 26) #[] #[]] w fun e w' => e = .returned (.int .i64 (P : Nat)) ∧ w = w' := fun w => (past_name s 0 w hs' (by omega)).mono fun _ _ ⟨he, hw⟩ => ⟨by rw [he, List.drop_zero, hP, Nat.zero_add], hw⟩
    have HK : ∀ w : World, Calls Tryd.prog 13 #[.string s] w fun e w' => e = .returned (.bool K) ∧ w = w' := fun w => by rw [hK]; exact kept_any s w
    rw [← hP, ← hK] at hE
    clear hP hK
    have HE := Lib.hid hE
    clear hE
    by_cases hl : letterB s[0].toNat = true
    · by_cases hq : P = s.size
      · subst hq
        go_enter Tryd.func15, Tryd.ntmps15
        go_wp2_with (first | (go_at_call 24; refine (letter_any _ _).mono ?_; rintro e w' ⟨rfl, rfl⟩) | (go_at_call 25; refine (HP _).mono ?_; rintro e w' ⟨rfl, rfl⟩) | (go_at_call 13; refine (HK _).mono ?_; rintro e w' ⟨rfl, rfl⟩))
        go_ret
        exact ⟨ret_bool (by rw [HE.out]; simp [hl]), Below.refl _ _⟩
      · have t2 : ((P : Int) == (s.size : Int)) = false := by simp; omega
        have t3 : (P == s.size) = false := by simp; omega
        go_enter Tryd.func15, Tryd.ntmps15
        go_wp2_with (first | (go_at_call 24; refine (letter_any _ _).mono ?_; rintro e w' ⟨rfl, rfl⟩) | (go_at_call 25; refine (HP _).mono ?_; rintro e w' ⟨rfl, rfl⟩) | (go_at_call 13; refine (HK _).mono ?_; rintro e w' ⟨rfl, rfl⟩))
        go_ret
        exact ⟨ret_bool (by rw [HE.out]; simp [t3]), Below.refl _ _⟩
    · have hl : letterB s[0].toNat = false := by simpa using hl
      go_enter Tryd.func15, Tryd.ntmps15
      go_wp2_with (first | (go_at_call 24; refine (letter_any _ _).mono ?_; rintro e w' ⟨rfl, rfl⟩) | (go_at_call 25; refine (HP _).mono ?_; rintro e w' ⟨rfl, rfl⟩) | (go_at_call 13; refine (HK _).mono ?_; rintro e w' ⟨rfl, rfl⟩))
      go_ret
      exact ⟨ret_bool (by rw [HE.out]; simp [hl]), Below.refl _ _⟩

theorem letN_cases (c : Int) : (letterB c = true ∧ letN c = 1 ∧ nameB c = true) ∨ (letterB c = false ∧ digitB c = true ∧ letN c = 2 ∧ nameB c = true) ∨ (letterB c = false ∧ letN c = 0 ∧ nameB c = false) := by
  unfold letN nameB
  rcases hl : letterB c with _ | _ <;> rcases hd : digitB c with _ | _ <;> simp
/-- letter, where its answer is known. -/
theorem rletter_is (c v : Int) (h : Hid (letN c = v)) (w : World) : Calls Tryd.prog 21 #[.int .u8 c] w fun e w' => e = .returned (.int .i64 v) ∧ w = w' :=
  (rletter_any c w).mono fun _ _ ⟨he, hw⟩ => ⟨by rw [he, h.out], hw⟩

set_option maxHeartbeats 2000000 in
theorem rname_any (s : ByteArray) (w : World) (hs : s.size ≤ maxLen) : Calls Tryd.prog 16 #[.string s] w fun e w' => e = .returned (.bool (isNameB s.data.toList)) ∧ Below w.heap.size w w' := by
  have hs' := hs
  unfold maxLen at hs
  by_cases h0 : s.size = 0
  · have e := empty_of s h0
    subst e
    clear h0 hs hs'
    go_enter Tryd.func16, Tryd.ntmps16
    go_wp2_with (fail)
    go_loop [3] (fun a => a = .int .i64 0) (fun a => 0)
    case atStart => rfl
    case round =>
      subst hrel
      go_wp2_with (fail)
      go_ret
      exact ⟨rfl, Below.refl _ _⟩
  · have h1 : 0 < s.size := by omega
    have hE := isName_at s h1
    obtain ⟨b, hb⟩ : ∃ b, b = isNameB s.data.toList := ⟨_, rfl⟩
    rw [← hb] at hE
    rw [← hb]
    clear hb
    have HE := Lib.hid hE
    clear hE
    have t1 := ne_empty s h1
    go_enter Tryd.func16, Tryd.ntmps16
    go_wp2_with (fail)
    go_loop [3] (fun a => ∃ i : Nat, i ≤ s.size ∧ a = .int .i64 i ∧ Hid (0 < i → letterB s[0].toNat = true) ∧ Hid (i + pastN nameB (s.data.toList.drop i) = pastN nameB s.data.toList)) (fun a => s.size - (intOf a).toNat)
    case atStart => exact ⟨0, by omega, rfl, fun h => absurd h (by omega), by simp [Hid]⟩
    case round =>
      obtain ⟨i, hi, rfl, HF, HI⟩ := hrel
      by_cases hlt : i < s.size
      · rcases letN_cases s[i].toNat with ⟨c1, c2, c3⟩ | ⟨c1, c4, c2, c3⟩ | ⟨c1, c2, c3⟩
        · have H1 := Lib.hid (past_on _ s i _ hlt c3 HI.out)
          have C2 := Lib.hid c2
          have HL : Hid (0 < i + 1 → letterB s[0].toNat = true) := Lib.hid (fun _ => by
            rcases Nat.eq_zero_or_pos i with h | h
            · subst h; exact c1
            · exact HF.out h)
          by_cases hi0 : i = 0
          · subst hi0
            clear c1 c2 c3 HI HF
            go_wp2_with (go_at_call 21; refine (rletter_is _ _ C2 _).mono ?_; rintro e w' ⟨rfl, rfl⟩)
            go_round
            case rel => exact ⟨1, by omega, rfl, HL, H1⟩
            case measure => simp [intOf]; omega
          · have t2 : ((i : Int) == 0) = false := by simp; omega
            clear c1 c2 c3 HI HF
            go_wp2_with (go_at_call 21; refine (rletter_is _ _ C2 _).mono ?_; rintro e w' ⟨rfl, rfl⟩)
            go_round
            case rel => exact ⟨i + 1, by omega, by go_num, HL, H1⟩
            case measure => simp [intOf]; omega
        · by_cases hi0 : i = 0
          · subst hi0
            have hb := HE.out
            rw [c1] at hb
            simp only [Bool.false_and] at hb
            have HB := Lib.hid hb
            have C2 := Lib.hid c2
            clear c1 c2 c3 c4 hb HI HF
            go_wp2_with (go_at_call 21; refine (rletter_is _ _ C2 _).mono ?_; rintro e w' ⟨rfl, rfl⟩)
            go_ret
            exact ⟨ret_bool HB.out.symm, Below.refl _ _⟩
          · have H1 := Lib.hid (past_on _ s i _ hlt c3 HI.out)
            have C2 := Lib.hid c2
            have HL : Hid (0 < i + 1 → letterB s[0].toNat = true) := Lib.hid (fun _ => HF.out (by omega))
            have t2 : ((i : Int) == 0) = false := by simp; omega
            clear c1 c2 c3 c4 HI HF
            go_wp2_with (go_at_call 21; refine (rletter_is _ _ C2 _).mono ?_; rintro e w' ⟨rfl, rfl⟩)
            go_round
            case rel => exact ⟨i + 1, by omega, by go_num, HL, H1⟩
            case measure => simp [intOf]; omega
        · have hp := past_off _ s i _ hlt c3 HI.out
          have hb := HE.out
          have hne : (pastN nameB s.data.toList == s.size) = false := by simp; omega
          rw [hne] at hb
          simp only [Bool.and_false, Bool.false_and] at hb
          have HB := Lib.hid hb
          have C2 := Lib.hid c2
          clear c1 c2 c3 hb HI HF hp hne
          go_wp2_with (go_at_call 21; refine (rletter_is _ _ C2 _).mono ?_; rintro e w' ⟨rfl, rfl⟩)
          go_ret
          exact ⟨ret_bool HB.out.symm, Below.refl _ _⟩
      · have hp := past_end _ s i _ hlt HI.out
        have hb := HE.out
        have hq : (pastN nameB s.data.toList == s.size) = true := by simp; omega
        rw [hq, HF.out (by omega)] at hb
        simp only [Bool.true_and] at hb
        have HB := Lib.hid hb
        clear hb HI HF hp hq
        obtain ⟨K, hK⟩ : ∃ K, K = keptB s.data.toList := ⟨_, rfl⟩
        have HK : ∀ w : World, Calls Tryd.prog 14 #[.string s] w fun e w' => e = .returned (.bool K) ∧ Below w.heap.size w w' := fun w => by rw [hK]; exact rkept_any s w
        have HK2 := Lib.hid hK
        clear hK
        go_wp2_with (go_at_call 14; refine (HK _).mono ?_; rintro e w1 ⟨rfl, hb1⟩)
        go_ret
        exact ⟨ret_bool (by rw [HB.out, HK2.out]), hb1⟩
end Go.Proofs.YtmoeokfjfnegmaaDoor
