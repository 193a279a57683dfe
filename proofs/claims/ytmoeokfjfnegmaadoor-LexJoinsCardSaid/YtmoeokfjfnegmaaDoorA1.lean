/-
  Package lex's small functions: what they answer, and what becomes of the world.
-/
import Derived.Test.YtmoeokfjfnegmaaDoorRows
import Derived.WalkKit
import Derived.WalkSpells
import Derived.WalkLawsBesides
import Derived.BigQuiet
import Derived.Deep.QuietTactic
import Derived.Deep.RegionWith
import Derived.Lib.Hide
import Derived.Test.YtmoeokfjfnegmaaDoorM1
namespace Go.Proofs.YtmoeokfjfnegmaaDoor
open Go.RowKit

theorem ret_int {k : IntKind} {a b : Int} (h : a = b) : Ending.returned (.int k a) = .returned (.int k b) := by rw [h]
theorem ret_bool {p q : Bool} (e : p = q) : Ending.returned (.bool p) = .returned (.bool q) := by rw [e]

set_option maxHeartbeats 400000 in
theorem letter_any (c : Int) (w : World) : Calls Tryd.prog 24 #[.int .u8 c] w fun e w' => e = .returned (.bool (letterB c)) ∧ w = w' := by
  go_enter Tryd.func24, Tryd.ntmps24
  go_wp2
  all_goals
    go_ret
    exact ⟨ret_bool (by unfold letterB; rw [Bool.eq_iff_iff]; simp; omega), rfl⟩

set_option maxHeartbeats 400000 in
theorem digit_any (c : Int) (w : World) : Calls Tryd.prog 30 #[.int .u8 c] w fun e w' => e = .returned (.bool (digitB c)) ∧ w = w' := by
  go_enter Tryd.func30, Tryd.ntmps30
  go_wp2
  all_goals
    go_ret
    exact ⟨ret_bool (by unfold digitB; rw [Bool.eq_iff_iff]; simp; omega), rfl⟩

set_option maxHeartbeats 400000 in
theorem inName_any (c : Int) (w : World) : Calls Tryd.prog 26 #[.int .u8 c] w fun e w' => e = .returned (.bool (nameB c)) ∧ w = w' := by
  go_enter Tryd.func26, Tryd.ntmps26
  go_wp2_with (first | (go_at_call 24; refine (letter_any _ _).mono ?_; rintro e w' ⟨rfl, rfl⟩) | (go_at_call 30; refine (digit_any _ _).mono ?_; rintro e w' ⟨rfl, rfl⟩))
  all_goals
    go_ret
    exact ⟨ret_bool (by unfold nameB; simp [*]), rfl⟩

set_option maxHeartbeats 400000 in
theorem notin_any (c : Int) (b : Nat) (w : World) (hc : w.cell? ⟨b, 0, none⟩ = some (.int .u8 10)) : Calls Tryd.prog 33 #[.int .u8 c, .pointer (some ⟨b, 0, none⟩)] w fun e w' => e = .returned (.bool (noteB c)) ∧ w = w' := by
  go_enter Tryd.func33, Tryd.ntmps33
  go_wp2
  all_goals
    go_ret
    exact ⟨ret_bool (by unfold noteB; rw [Bool.eq_iff_iff]; simp), rfl⟩

set_option maxHeartbeats 400000 in
theorem not_any (w : World) : Calls Tryd.prog 28 #[.int .u8 10] w fun e w' => e = .returned (.func (.func 33) #[] #[.pointer (some ⟨w.heap.size, 0, none⟩)]) ∧ w' = w.alloc (.cells #[.int .u8 10] 5) := by
  go_enter Tryd.func28, Tryd.ntmps28
  go_wp2
  go_ret
  exact ⟨rfl, rfl⟩

theorem drop_at (s : ByteArray) (j : Nat) (h : j < s.size) : s.data.toList.drop j = s[j] :: s.data.toList.drop (j + 1) := by
  rw [List.drop_eq_getElem_cons (by simpa using h)]; rfl
theorem past_on (p : Int → Bool) (s : ByteArray) (j N : Nat) (h : j < s.size) (hp : p s[j].toNat = true) (e : j + pastN p (s.data.toList.drop j) = N) : j + 1 + pastN p (s.data.toList.drop (j + 1)) = N := by
  rw [drop_at s j h, pastN, if_pos hp] at e; omega
theorem past_off (p : Int → Bool) (s : ByteArray) (j N : Nat) (h : j < s.size) (hp : p s[j].toNat = false) (e : j + pastN p (s.data.toList.drop j) = N) : j = N := by
  rw [drop_at s j h, pastN, if_neg (by simp [hp])] at e; omega
theorem past_end (p : Int → Bool) (s : ByteArray) (j N : Nat) (h : ¬ j < s.size) (e : j + pastN p (s.data.toList.drop j) = N) : j = N := by
  rw [List.drop_of_length_le (by simpa using h), pastN] at e; omega

set_option maxHeartbeats 1000000 in
theorem past_name (s : ByteArray) (k : Nat) (w : World) (hs : s.size ≤ maxLen) (hk : k ≤ s.size) :
    Calls Tryd.prog 25 #[.string s, .int .i64 k, .func (.func 26) #[] #[]] w fun e w' => e = .returned (.int .i64 (k + pastN nameB (s.data.toList.drop k) : Nat)) ∧ w = w' := by
  unfold maxLen at hs
  obtain ⟨N, hN⟩ : ∃ N, N = k + pastN nameB (s.data.toList.drop k) := ⟨_, rfl⟩
  rw [← hN]
  have HN := Lib.hid hN.symm
  clear hN
  go_enter Tryd.func25, Tryd.ntmps25
  go_wp2
  go_loop [1] (fun a => ∃ j : Nat, j ≤ s.size ∧ a = .int .i64 j ∧ Hid (j + pastN nameB (s.data.toList.drop j) = N)) (fun a => s.size - (intOf a).toNat)
  case atStart => exact ⟨k, hk, rfl, HN⟩
  case round =>
    obtain ⟨j, hj, rfl, H⟩ := hrel
    by_cases hlt : j < s.size
    · by_cases hp : nameB s[j].toNat = true
      · have H1 := Lib.hid (past_on _ s j N hlt hp H.out)
        clear H
        go_wp2_with (go_at_call 26; refine (inName_any _ _).mono ?_; rintro e w' ⟨rfl, rfl⟩)
        go_round
        case rel => exact ⟨j + 1, by omega, by go_num, H1⟩
        case measure => simp [intOf]; omega
      · have hp : nameB s[j].toNat = false := by simpa using hp
        have e := past_off _ s j N hlt hp H.out
        subst e
        clear H HN
        go_wp2_with (go_at_call 26; refine (inName_any _ _).mono ?_; rintro e w' ⟨rfl, rfl⟩)
        go_ret
        exact ⟨rfl, rfl⟩
    · have e := past_end _ s j N hlt H.out
      subst e
      clear H HN
      go_wp2_with (fail)
      go_ret
      exact ⟨rfl, rfl⟩

set_option maxHeartbeats 1000000 in
theorem past_digit (s : ByteArray) (k : Nat) (w : World) (hs : s.size ≤ maxLen) (hk : k ≤ s.size) :
    Calls Tryd.prog 25 #[.string s, .int .i64 k, .func (.func 30) #[] #[]] w fun e w' => e = .returned (.int .i64 (k + pastN digitB (s.data.toList.drop k) : Nat)) ∧ w = w' := by
  unfold maxLen at hs
  obtain ⟨N, hN⟩ : ∃ N, N = k + pastN digitB (s.data.toList.drop k) := ⟨_, rfl⟩
  rw [← hN]
  have HN := Lib.hid hN.symm
  clear hN
  go_enter Tryd.func25, Tryd.ntmps25
  go_wp2
  go_loop [1] (fun a => ∃ j : Nat, j ≤ s.size ∧ a = .int .i64 j ∧ Hid (j + pastN digitB (s.data.toList.drop j) = N)) (fun a => s.size - (intOf a).toNat)
  case atStart => exact ⟨k, hk, rfl, HN⟩
  case round =>
    obtain ⟨j, hj, rfl, H⟩ := hrel
    by_cases hlt : j < s.size
    · by_cases hp : digitB s[j].toNat = true
      · have H1 := Lib.hid (past_on _ s j N hlt hp H.out)
        clear H
        go_wp2_with (go_at_call 30; refine (digit_any _ _).mono ?_; rintro e w' ⟨rfl, rfl⟩)
        go_round
        case rel => exact ⟨j + 1, by omega, by go_num, H1⟩
        case measure => simp [intOf]; omega
      · have hp : digitB s[j].toNat = false := by simpa using hp
        have e := past_off _ s j N hlt hp H.out
        subst e
        clear H HN
        go_wp2_with (go_at_call 30; refine (digit_any _ _).mono ?_; rintro e w' ⟨rfl, rfl⟩)
        go_ret
        exact ⟨rfl, rfl⟩
    · have e := past_end _ s j N hlt H.out
      subst e
      clear H HN
      go_wp2_with (fail)
      go_ret
      exact ⟨rfl, rfl⟩

set_option maxHeartbeats 1000000 in
theorem past_note (s : ByteArray) (k : Nat) (b : Nat) (w : World) (hs : s.size ≤ maxLen) (hk : k ≤ s.size) (hc : w.cell? ⟨b, 0, none⟩ = some (.int .u8 10)) :
    Calls Tryd.prog 25 #[.string s, .int .i64 k, .func (.func 33) #[] #[.pointer (some ⟨b, 0, none⟩)]] w fun e w' => e = .returned (.int .i64 (k + pastN noteB (s.data.toList.drop k) : Nat)) ∧ w = w' := by
  unfold maxLen at hs
  obtain ⟨N, hN⟩ : ∃ N, N = k + pastN noteB (s.data.toList.drop k) := ⟨_, rfl⟩
  rw [← hN]
  have HN := Lib.hid hN.symm
  clear hN
  go_enter Tryd.func25, Tryd.ntmps25
  go_wp2
  go_loop [1] (fun a => ∃ j : Nat, j ≤ s.size ∧ a = .int .i64 j ∧ Hid (j + pastN noteB (s.data.toList.drop j) = N)) (fun a => s.size - (intOf a).toNat)
  case atStart => exact ⟨k, hk, rfl, HN⟩
  case round =>
    obtain ⟨j, hj, rfl, H⟩ := hrel
    by_cases hlt : j < s.size
    · by_cases hp : noteB s[j].toNat = true
      · have H1 := Lib.hid (past_on _ s j N hlt hp H.out)
        clear H
        go_wp2_with (go_at_call 33; refine (notin_any _ b _ hc).mono ?_; rintro e w' ⟨rfl, rfl⟩)
        go_round
        case rel => exact ⟨j + 1, by omega, by go_num, H1⟩
        case measure => simp [intOf]; omega
      · have hp : noteB s[j].toNat = false := by simpa using hp
        have e := past_off _ s j N hlt hp H.out
        subst e
        clear H HN
        go_wp2_with (go_at_call 33; refine (notin_any _ b _ hc).mono ?_; rintro e w' ⟨rfl, rfl⟩)
        go_ret
        exact ⟨rfl, rfl⟩
    · have e := past_end _ s j N hlt H.out
      subst e
      clear H HN
      go_wp2_with (fail)
      go_ret
      exact ⟨rfl, rfl⟩

end Go.Proofs.YtmoeokfjfnegmaaDoor
