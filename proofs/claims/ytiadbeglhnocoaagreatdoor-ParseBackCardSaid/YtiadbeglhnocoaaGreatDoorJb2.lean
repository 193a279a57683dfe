/-
  Package lex's small functions: what they answer, and what becomes of the world.
  lex's skip: where the next word begins.
  Which names are kept, which texts are signs.
-/
import Derived.Test.YtiadbeglhnocoaaGreatDoorJb1
import Derived.Test.YtiadbeglhnocoaaGreatDoorRows
import Derived.WalkKit
import Derived.WalkSpells
import Derived.WalkLawsBesides
import Derived.BigQuiet
import Derived.Deep.QuietTactic
import Derived.Deep.RegionWith
import Derived.Lib.Hide
import Derived.WalkMore
namespace Go.Proofs.YtiadbeglhnocoaaGreatDoor
set_option linter.unusedVariables false
set_option linter.unusedSimpArgs false
open Go.RowKit

theorem ret_int {k : IntKind} {a b : Int} (h : a = b) : Ending.returned (.int k a) = .returned (.int k b) := by rw [h]
theorem ret_bool {p q : Bool} (e : p = q) : Ending.returned (.bool p) = .returned (.bool q) := by rw [e]

set_option maxHeartbeats 400000 in
theorem letter_any (c : Int) (w : World) : Calls Tryz.prog 33 #[.int .u8 c] w fun e w' => e = .returned (.bool (letterB c)) ∧ w = w' := by
  go_enter Tryz.func33, Tryz.ntmps33
  go_wp2
  all_goals
    go_ret
    exact ⟨ret_bool (by unfold letterB; rw [Bool.eq_iff_iff]; simp; omega), rfl⟩

set_option maxHeartbeats 400000 in
theorem digit_any (c : Int) (w : World) : Calls Tryz.prog 35 #[.int .u8 c] w fun e w' => e = .returned (.bool (digitB c)) ∧ w = w' := by
  go_enter Tryz.func35, Tryz.ntmps35
  go_wp2
  all_goals
    go_ret
    exact ⟨ret_bool (by unfold digitB; rw [Bool.eq_iff_iff]; simp; omega), rfl⟩

set_option maxHeartbeats 400000 in
theorem inName_any (c : Int) (w : World) : Calls Tryz.prog 53 #[.int .u8 c] w fun e w' => e = .returned (.bool (nameB c)) ∧ w = w' := by
  go_enter Tryz.func53, Tryz.ntmps53
  go_wp2_with (first | (go_at_call 33; refine (letter_any _ _).mono ?_; rintro e w' ⟨rfl, rfl⟩) | (go_at_call 35; refine (digit_any _ _).mono ?_; rintro e w' ⟨rfl, rfl⟩))
  all_goals
    go_ret
    exact ⟨ret_bool (by unfold nameB; simp [*]), rfl⟩

set_option maxHeartbeats 400000 in
theorem notin_any (c : Int) (b : Nat) (w : World) (hc : w.cell? ⟨b, 0, none⟩ = some (.int .u8 10)) : Calls Tryz.prog 52 #[.int .u8 c, .pointer (some ⟨b, 0, none⟩)] w fun e w' => e = .returned (.bool (noteB c)) ∧ w = w' := by
  go_enter Tryz.func52, Tryz.ntmps52
  go_wp2
  all_goals
    go_ret
    exact ⟨ret_bool (by unfold noteB; rw [Bool.eq_iff_iff]; simp), rfl⟩

set_option maxHeartbeats 400000 in
theorem not_any (w : World) : Calls Tryz.prog 32 #[.int .u8 10] w fun e w' => e = .returned (.func (.func 52) #[] #[.pointer (some ⟨w.heap.size, 0, none⟩)]) ∧ w' = w.alloc (.cells #[.int .u8 10] 5) := by
  go_enter Tryz.func32, Tryz.ntmps32
  go_wp2
  go_ret
  exact ⟨rfl, rfl⟩

theorem drop_at (s : ByteArray) (j : Nat) (h : j < s.size) : s.data.toList.drop j = s[j] :: s.data.toList.drop (j + 1) := by
  rw [List.drop_eq_getElem_cons (by simpa using h)]; rfl
theorem past_on (p : Int → Bool) (s : ByteArray) (j N : Nat) (h : j < s.size) (hp : p s[j].toNat = true) (e : j + pastN p (s.data.toList.drop j) = N) : j + 1 + pastN p (s.data.toList.drop (j + 1)) = N := by
  rw [drop_at s j h, pastN, if_pos hp] at e; omega
theorem past_off (p : Int → Bool) (s : ByteArray) (j N : Nat) (h : j < s.size) (hp : p s[j].toNat = false) (e : j + pastN p (s.data.toList.drop j) = N) : j = N := by
  rw [drop_at s j h, pastN, if_neg (by simp [hp])] at e; omega
theorem past_end (p : Int → Bool) (s : ByteArray) (j N : Nat) (h : ¬ j < s.size) (e : j + pastN p (s.data.toList.drop j) = N) : j = N := by
  rw [List.drop_of_length_le (by simpa using h), pastN] at e; omega

set_option maxHeartbeats 1000000 in
theorem past_name (s : ByteArray) (k : Nat) (w : World) (hs : s.size ≤ maxLen) (hk : k ≤ s.size) :
    Calls Tryz.prog 31 #[.string s, .int .i64 k, .func (.func 53) #[] #[]] w fun e w' => e = .returned (.int .i64 (k + pastN nameB (s.data.toList.drop k) : Nat)) ∧ w = w' := by
  unfold maxLen at hs
  obtain ⟨N, hN⟩ : ∃ N, N = k + pastN nameB (s.data.toList.drop k) := ⟨_, rfl⟩
  rw [← hN]
  have HN := Lib.hid hN.symm
  clear hN
  go_enter Tryz.func31, Tryz.ntmps31
  go_wp2
  go_loop [1] (fun a => ∃ j : Nat, j ≤ s.size ∧ a = .int .i64 j ∧ Hid (j + pastN nameB (s.data.toList.drop j) = N)) (fun a => s.size - (intOf a).toNat)
  case atStart => exact ⟨k, hk, rfl, HN⟩
  case round =>
    obtain ⟨j, hj, rfl, H⟩ := hrel
    by_cases hlt : j < s.size
    · by_cases hp : nameB s[j].toNat = true
      · have H1 := Lib.hid (past_on _ s j N hlt hp H.out)
        clear H
        go_wp2_with (go_at_call 53; refine (inName_any _ _).mono ?_; rintro e w' ⟨rfl, rfl⟩)
        go_round
        case rel => exact ⟨j + 1, by omega, by go_num, H1⟩
        case measure => simp [intOf]; omega
      · have hp : nameB s[j].toNat = false := by simpa using hp
        have e := past_off _ s j N hlt hp H.out
        subst e
        clear H HN
        go_wp2_with (go_at_call 53; refine (inName_any _ _).mono ?_; rintro e w' ⟨rfl, rfl⟩)
        go_ret
        exact ⟨rfl, rfl⟩
    · have e := past_end _ s j N hlt H.out
      subst e
      clear H HN
      go_wp2_with (fail)
      go_ret
      exact ⟨rfl, rfl⟩

set_option maxHeartbeats 1000000 in
theorem past_digit (s : ByteArray) (k : Nat) (w : World) (hs : s.size ≤ maxLen) (hk : k ≤ s.size) :
    Calls Tryz.prog 31 #[.string s, .int .i64 k, .func (.func 35) #[] #[]] w fun e w' => e = .returned (.int .i64 (k + pastN digitB (s.data.toList.drop k) : Nat)) ∧ w = w' := by
  unfold maxLen at hs
  obtain ⟨N, hN⟩ : ∃ N, N = k + pastN digitB (s.data.toList.drop k) := ⟨_, rfl⟩
  rw [← hN]
  have HN := Lib.hid hN.symm
  clear hN
  go_enter Tryz.func31, Tryz.ntmps31
  go_wp2
  go_loop [1] (fun a => ∃ j : Nat, j ≤ s.size ∧ a = .int .i64 j ∧ Hid (j + pastN digitB (s.data.toList.drop j) = N)) (fun a => s.size - (intOf a).toNat)
  case atStart => exact ⟨k, hk, rfl, HN⟩
  case round =>
    obtain ⟨j, hj, rfl, H⟩ := hrel
    by_cases hlt : j < s.size
    · by_cases hp : digitB s[j].toNat = true
      · have H1 := Lib.hid (past_on _ s j N hlt hp H.out)
        clear H
        go_wp2_with (go_at_call 35; refine (digit_any _ _).mono ?_; rintro e w' ⟨rfl, rfl⟩)
        go_round
        case rel => exact ⟨j + 1, by omega, by go_num, H1⟩
        case measure => simp [intOf]; omega
      · have hp : digitB s[j].toNat = false := by simpa using hp
        have e := past_off _ s j N hlt hp H.out
        subst e
        clear H HN
        go_wp2_with (go_at_call 35; refine (digit_any _ _).mono ?_; rintro e w' ⟨rfl, rfl⟩)
        go_ret
        exact ⟨rfl, rfl⟩
    · have e := past_end _ s j N hlt H.out
      subst e
      clear H HN
      go_wp2_with (fail)
      go_ret
      exact ⟨rfl, rfl⟩

set_option maxHeartbeats 1000000 in
theorem past_note (s : ByteArray) (k : Nat) (b : Nat) (w : World) (hs : s.size ≤ maxLen) (hk : k ≤ s.size) (hc : w.cell? ⟨b, 0, none⟩ = some (.int .u8 10)) :
    Calls Tryz.prog 31 #[.string s, .int .i64 k, .func (.func 52) #[] #[.pointer (some ⟨b, 0, none⟩)]] w fun e w' => e = .returned (.int .i64 (k + pastN noteB (s.data.toList.drop k) : Nat)) ∧ w = w' := by
  unfold maxLen at hs
  obtain ⟨N, hN⟩ : ∃ N, N = k + pastN noteB (s.data.toList.drop k) := ⟨_, rfl⟩
  rw [← hN]
  have HN := Lib.hid hN.symm
  clear hN
  go_enter Tryz.func31, Tryz.ntmps31
  go_wp2
  go_loop [1] (fun a => ∃ j : Nat, j ≤ s.size ∧ a = .int .i64 j ∧ Hid (j + pastN noteB (s.data.toList.drop j) = N)) (fun a => s.size - (intOf a).toNat)
  case atStart => exact ⟨k, hk, rfl, HN⟩
  case round =>
    obtain ⟨j, hj, rfl, H⟩ := hrel
    by_cases hlt : j < s.size
    · by_cases hp : noteB s[j].toNat = true
      · have H1 := Lib.hid (past_on _ s j N hlt hp H.out)
        clear H
        go_wp2_with (go_at_call 52; refine (notin_any _ b _ hc).mono ?_; rintro e w' ⟨rfl, rfl⟩)
        go_round
        case rel => exact ⟨j + 1, by omega, by go_num, H1⟩
        case measure => simp [intOf]; omega
      · have hp : noteB s[j].toNat = false := by simpa using hp
        have e := past_off _ s j N hlt hp H.out
        subst e
        clear H HN
        go_wp2_with (go_at_call 52; refine (notin_any _ b _ hc).mono ?_; rintro e w' ⟨rfl, rfl⟩)
        go_ret
        exact ⟨rfl, rfl⟩
    · have e := past_end _ s j N hlt H.out
      subst e
      clear H HN
      go_wp2_with (fail)
      go_ret
      exact ⟨rfl, rfl⟩

end Go.Proofs.YtiadbeglhnocoaaGreatDoor
namespace Go.Proofs.YtiadbeglhnocoaaGreatDoor
set_option linter.unusedVariables false
set_option linter.unusedSimpArgs false
open Go.RowKit

theorem skip_gap (s : ByteArray) (j N : Nat) (h : j < s.size) (hp : gapB s[j].toNat = true) (e : j + skipN false (s.data.toList.drop j) = N) : j + 1 + skipN false (s.data.toList.drop (j + 1)) = N := by
  rw [drop_at s j h, skipN, if_pos hp] at e; omega
theorem skip_off (s : ByteArray) (j N : Nat) (h : j < s.size) (hp : gapB s[j].toNat = false) (hq : ¬ s[j].toNat = 35) (e : j + skipN false (s.data.toList.drop j) = N) : j = N := by
  rw [drop_at s j h, skipN, if_neg (by simp [hp]), if_neg hq] at e; omega
theorem skip_end (s : ByteArray) (j N : Nat) (h : ¬ j < s.size) (e : j + skipN false (s.data.toList.drop j) = N) : j = N := by
  rw [List.drop_of_length_le (by simpa using h), skipN] at e; omega
theorem skip_note (s : ByteArray) (j N : Nat) (h : j < s.size) (hq : s[j].toNat = 35) (e : j + skipN false (s.data.toList.drop j) = N) :
    j + pastN noteB (s.data.toList.drop j) + skipN false (s.data.toList.drop (j + pastN noteB (s.data.toList.drop j))) = N ∧ 1 ≤ pastN noteB (s.data.toList.drop j) ∧ j + pastN noteB (s.data.toList.drop j) ≤ s.size := by
  have hle := pastN_le noteB (s.data.toList.drop j)
  rw [List.length_drop, Array.length_toList] at hle
  have hg : gapB (s[j].toNat : Int) = false := by simp [gapB, hq]
  have hn : noteB (s[j].toNat : Int) = true := by simp [noteB, hq]
  have e1 : pastN noteB (s.data.toList.drop j) = pastN noteB (s.data.toList.drop (j + 1)) + 1 := by rw [drop_at s j h, pastN, if_pos hn]
  rw [drop_at s j h, skipN, if_neg (by simp [hg]), if_pos hq, skipN_note] at e
  have e2 : s.data.toList.drop (j + pastN noteB (s.data.toList.drop j)) = (s.data.toList.drop (j + 1)).drop (pastN noteB (s.data.toList.drop (j + 1))) := by rw [List.drop_drop, e1]; congr 1; omega
  rw [e2, e1]
  refine ⟨by omega, by omega, ?_⟩
  rw [← e1]
  have : s.data.size = s.size := rfl
  omega

set_option maxHeartbeats 1000000 in
theorem skip_any (s : ByteArray) (k : Nat) (w : World) (hs : s.size ≤ maxLen) (hk : k ≤ s.size) :
    Calls Tryz.prog 16 #[.string s, .int .i64 k] w fun e w' => e = .returned (.int .i64 (k + skipN false (s.data.toList.drop k) : Nat)) ∧ Below w.heap.size w w' := by
  have hs' := hs
  unfold maxLen at hs
  obtain ⟨N, hN⟩ : ∃ N, N = k + skipN false (s.data.toList.drop k) := ⟨_, rfl⟩
  rw [← hN]
  have HN := Lib.hid hN.symm
  clear hN
  go_enter Tryz.func16, Tryz.ntmps16
  go_wp2
  go_step3
  go_wp2
  go_step3
  go_wp2
  go_loopw [1] (fun a wr => ∃ j : Nat, j ≤ s.size ∧ a = .int .i64 j ∧ Hid (j + skipN false (s.data.toList.drop j) = N) ∧ Below w.heap.size w wr) (fun a _ => s.size - (intOf a).toNat)
  case atStart => exact ⟨k, hk, rfl, HN, Below.refl _ _⟩
  case round =>
    obtain ⟨j, hj, rfl, H, hb⟩ := hrel
    by_cases hlt : j < s.size
    · by_cases hp : gapB s[j].toNat = true
      · have H1 := Lib.hid (skip_gap s j N hlt hp H.out)
        clear H
        have hc : (s[j].toNat : Int) = 32 ∨ (s[j].toNat : Int) = 9 ∨ (s[j].toNat : Int) = 10 ∨ (s[j].toNat : Int) = 13 := by simpa [gapB] using hp
        clear hp
        rcases hc with h | h | h | h
        all_goals
          go_wp2_with (fail)
          go_roundw
          case rel => exact ⟨j + 1, by omega, by go_num, H1, hb⟩
          case measure => simp [intOf]; omega
      · have hp : gapB s[j].toNat = false := by simpa using hp
        have hc : (s[j].toNat : Int) ≠ 32 ∧ (s[j].toNat : Int) ≠ 9 ∧ (s[j].toNat : Int) ≠ 10 ∧ (s[j].toNat : Int) ≠ 13 := by simpa [gapB] using hp
        have t1 : ((s[j].toNat : Int) == 32) = false := by simpa using hc.1
        have t2 : ((s[j].toNat : Int) == 9) = false := by simpa using hc.2.1
        have t3 : ((s[j].toNat : Int) == 10) = false := by simpa using hc.2.2.1
        have t4 : ((s[j].toNat : Int) == 13) = false := by simpa using hc.2.2.2
        by_cases hq : s[j].toNat = 35
        · obtain ⟨H1, h1, h2⟩ := skip_note s j N hlt hq H.out
          have t5 : ((s[j].toNat : Int) == 35) = true := by simp [hq]
          replace H1 := Lib.hid H1
          clear H hp hc hq
          go_wp2_with (first | (go_at_call 32; refine (not_any _).mono ?_; rintro e w' ⟨rfl, rfl⟩) | (go_at_call 31; refine (past_note s j wr.heap.size _ hs' hj (by simp)).mono ?_; rintro e w' ⟨rfl, rfl⟩))
          go_roundw
          case rel => exact ⟨j + pastN noteB (s.data.toList.drop j), h2, by go_num, H1, hb.alloc hb.size _⟩
          case measure => simp [intOf]; omega
        · have e := skip_off s j N hlt hp hq H.out
          subst e
          have t5 : ((s[j].toNat : Int) == 35) = false := by simp; omega
          clear H HN hp hc hq
          go_wp2_with (fail)
          try rw [Exit.noGoto_ret]
          go_ret
          exact ⟨rfl, hb⟩
    · have e := skip_end s j N hlt H.out
      subst e
      clear H HN
      go_wp2_with (fail)
      try rw [Exit.noGoto_ret]
      go_ret
      exact ⟨rfl, hb⟩
end Go.Proofs.YtiadbeglhnocoaaGreatDoor
namespace Go.Proofs.YtiadbeglhnocoaaGreatDoor
set_option linter.unusedVariables false
set_option linter.unusedSimpArgs false
open Go.RowKit

set_option maxHeartbeats 4000000 in
theorem kept_any (s : ByteArray) (w : World) : Calls Tryz.prog 54 #[.string s] w fun e w' => e = .returned (.bool (keptB s.data.toList)) ∧ w = w' := by
  rw [← ByteArray.toList_eq]
  go_enter Tryz.func54, Tryz.ntmps54
  go_wp2
  all_goals
    first
      | (exfalso; simp_all; done)
      | (go_ret
         exact ⟨ret_bool (by simp [keptB, keptW, *]), rfl⟩)

set_option maxHeartbeats 4000000 in
theorem isSign_any (s : ByteArray) (w : World) : Calls Tryz.prog 56 #[.string s] w fun e w' => e = .returned (.bool (signB s.data.toList)) ∧ w = w' := by
  rw [← ByteArray.toList_eq]
  go_enter Tryz.func56, Tryz.ntmps56
  go_wp2
  all_goals
    first
      | (exfalso; simp_all; done)
      | (go_ret
         exact ⟨ret_bool (by simp [signB, signW, *]), rfl⟩)

theorem signU_hit (z N : Nat) (l : List UInt8) (h : signB (l.take (z + 1)) = true) (e : signU (z + 1) l = N) : z + 1 = N := by
  rw [signU, if_pos h] at e; exact e
theorem signU_miss (z N : Nat) (l : List UInt8) (h : signB (l.take (z + 1)) = false) (e : signU (z + 1) l = N) : signU z l = N := by
  rw [signU, if_neg (by simp [h])] at e; exact e

theorem len_drop (s : ByteArray) (k : Nat) : (s.data.toList.drop k).length = s.size - k := by simp
theorem sign_start (s : ByteArray) (k : Nat) : (3 ≤ s.size - k → signU 3 (s.data.toList.drop k) = signN (s.data.toList.drop k)) ∧ (s.size - k ≤ 3 → signU (s.size - k) (s.data.toList.drop k) = signN (s.data.toList.drop k)) := by
  unfold signN
  rw [len_drop]
  refine ⟨fun h => ?_, fun h => ?_⟩
  · rw [Nat.min_eq_left h]
  · rw [Nat.min_eq_right h]

theorem isSign_cut (s : ByteArray) (k z : Nat) (b : Bool) (h : Hid (signB ((s.data.toList.drop k).take z) = b)) (w : World) : Calls Tryz.prog 56 #[.string (s.extract k (k + z))] w fun e w' => e = .returned (.bool b) ∧ w = w' :=
  (isSign_any _ w).mono fun _ _ ⟨he, hw⟩ => ⟨by rw [he, extract_drop]; exact ret_bool h.out, hw⟩
theorem sign_none (l : List UInt8) (k : Nat) (h : 0 = signN l) : Ending.returned (.tuple #[.agg #[.int .i64 0, .int .i64 0, .int .i64 0, .string ⟨#[]⟩], .bool false]) = Ending.returned (.tuple #[tkV (tkO (signT k l)), .bool (signT k l).isSome]) := by
  unfold signT
  rw [if_pos h.symm]
  rfl
theorem sign_some (s : ByteArray) (k z : Nat) (h : z + 1 = signN (s.data.toList.drop k)) : Ending.returned (.tuple #[.agg #[.int .i64 4, .int .i64 k, .int .i64 0, .string (s.extract k (k + (z + 1)))], .bool true]) = Ending.returned (.tuple #[tkV (tkO (signT k (s.data.toList.drop k))), .bool (signT k (s.data.toList.drop k)).isSome]) := by
  unfold signT
  rw [if_neg (by omega), extract_drop, ← h]
  rfl

set_option maxHeartbeats 1000000 in
theorem sign_any (s : ByteArray) (k : Nat) (w : World) (hs : s.size ≤ maxLen) (hk : k < s.size) :
    Calls Tryz.prog 37 #[.string s, .int .i64 k] w fun e w' => e = .returned (.tuple #[tkV (tkO (signT k (s.data.toList.drop k))), .bool (signT k (s.data.toList.drop k)).isSome]) ∧ Below w.heap.size w w' := by
  unfold maxLen at hs
  obtain ⟨N, hN⟩ : ∃ N, N = signN (s.data.toList.drop k) := ⟨_, rfl⟩
  have HN := sign_start s k
  rw [← hN] at HN
  replace HN := Lib.hid HN
  have HT := Lib.hid hN
  clear hN
  obtain ⟨V, hV⟩ : ∃ V, V = Ending.returned (.tuple #[tkV (tkO (signT k (s.data.toList.drop k))), .bool (signT k (s.data.toList.drop k)).isSome]) := ⟨_, rfl⟩
  rw [← hV]
  replace hV := Lib.hid hV
  go_enter Tryz.func37, Tryz.ntmps37
  go_wp2
  all_goals
    go_loop [6] (fun a => ∃ z : Nat, z ≤ 3 ∧ k + z ≤ s.size ∧ a = .int .i64 z ∧ Hid (signU z (s.data.toList.drop k) = N)) (fun a => (intOf a).toNat)
    case atStart => first | exact ⟨3, by omega, by omega, rfl, HN.out.1 (by omega)⟩ | exact ⟨s.size - k, by omega, by omega, by go_num, HN.out.2 (by omega)⟩
    case round =>
      clear HN
      obtain ⟨z, hz, hkz, rfl, H⟩ := hrel
      rcases z with _ | z
      · have e : N = 0 := H.out.symm
        subst e
        clear H
        go_wp2_with (fail)
        refine bodyPost_ret (v := .tuple #[.agg #[.int .i64 0, .int .i64 0, .int .i64 0, .string ⟨#[]⟩], .bool false]) (by simp [results, Tryz.results37, go_sem]) rfl ⟨?_, ?_⟩
        · rw [hV.out]; exact sign_none _ _ HT.out
        · exact (Below.refl _ _).alloc (Nat.le_refl _) _
      · by_cases hg : signB ((s.data.toList.drop k).take (z + 1)) = true
        · have e := signU_hit _ _ _ hg H.out
          subst e
          have H1 := Lib.hid hg
          clear H hg
          go_wp2_with (go_at_call 56; refine (isSign_cut _ _ _ _ H1 _).mono ?_; rintro e w' ⟨rfl, rfl⟩)
          refine bodyPost_ret (v := .tuple #[.agg #[.int .i64 4, .int .i64 k, .int .i64 0, .string (s.extract k (k + (z + 1)))], .bool true]) (by simp [results, Tryz.results37, go_sem]) rfl ⟨?_, ?_⟩
          · rw [hV.out]; exact sign_some _ _ _ HT.out
          · exact (Below.refl _ _).alloc (Nat.le_refl _) _
        · have hg : signB ((s.data.toList.drop k).take (z + 1)) = false := by simpa using hg
          have H1 := Lib.hid hg
          have H2 := Lib.hid (signU_miss _ _ _ hg H.out)
          clear H hg
          go_wp2_with (go_at_call 56; refine (isSign_cut _ _ _ _ H1 _).mono ?_; rintro e w' ⟨rfl, rfl⟩)
          go_round
          case rel => exact ⟨z, by omega, by omega, by go_num, H2⟩
          case measure => simp [intOf]
end Go.Proofs.YtiadbeglhnocoaaGreatDoor
