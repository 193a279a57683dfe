/-
  lex's skip: where the next word begins.
-/
import Derived.Test.YtmoeokfjfnegmaaDoorA1
import Derived.WalkMore
namespace Go.Proofs.YtmoeokfjfnegmaaDoor
open Go.RowKit

theorem skip_gap (s : ByteArray) (j N : Nat) (h : j < s.size) (hp : gapB s[j].toNat = true) (e : j + skipN false (s.data.toList.drop j) = N) : j + 1 + skipN false (s.data.toList.drop (j + 1)) = N := by
  rw [drop_at s j h, skipN, if_pos hp] at e; omega
theorem skip_off (s : ByteArray) (j N : Nat) (h : j < s.size) (hp : gapB s[j].toNat = false) (hq : ¬ s[j].toNat = 35) (e : j + skipN false (s.data.toList.drop j) = N) : j = N := by
  rw [drop_at s j h, skipN, if_neg (by simp [hp]), if_neg hq] at e; omega
theorem skip_end (s : ByteArray) (j N : Nat) (h : ¬ j < s.size) (e : j + skipN false (s.data.toList.drop j) = N) : j = N := by
  rw [List.drop_of_length_le (by simpa using h), skipN] at e; omega
theorem skip_note (s : ByteArray) (j N : Nat) (h : j < s.size) (hq : s[j].toNat = 35) (e : j + skipN false (s.data.toList.drop j) = N) :
    j + pastN noteB (s.data.toList.drop j) + skipN false (s.data.toList.drop (j + pastN noteB (s.data.toList.drop j))) = N ∧ 1 ≤ pastN noteB (s.data.toList.drop j) ∧ j + pastN noteB (s.data.toList.drop j) ≤ s.size := by
  have hle := pastN_le noteB (s.data.toList.drop j)
  rw [List.length_drop, Array.length_toList] at hle
  have hg : gapB (s[j].toNat : Int) = false := by simp [gapB, hq]
  have hn : noteB (s[j].toNat : Int) = true := by simp [noteB, hq]
  have e1 : pastN noteB (s.data.toList.drop j) = pastN noteB (s.data.toList.drop (j + 1)) + 1 := by rw [drop_at s j h, pastN, if_pos hn]
  rw [drop_at s j h, skipN, if_neg (by simp [hg]), if_pos hq, skipN_note] at e
  have e2 : s.data.toList.drop (j + pastN noteB (s.data.toList.drop j)) = (s.data.toList.drop (j + 1)).drop (pastN noteB (s.data.toList.drop (j + 1))) := by rw [List.drop_drop, e1]; congr 1; omega
  rw [e2, e1]
  refine ⟨by omega, by omega, ?_⟩
  rw [← e1]
  have : s.data.size = s.size := rfl
  omega

set_option maxHeartbeats 1000000 in
theorem skip_any (s : ByteArray) (k : Nat) (w : World) (hs : s.size ≤ maxLen) (hk : k ≤ s.size) :
    Calls Tryd.prog 18 #[.string s, .int .i64 k] w fun e w' => e = .returned (.int .i64 (k + skipN false (s.data.toList.drop k) : Nat)) ∧ Below w.heap.size w w' := by
  have hs' := hs
  unfold maxLen at hs
  obtain ⟨N, hN⟩ : ∃ N, N = k + skipN false (s.data.toList.drop k) := ⟨_, rfl⟩
  rw [← hN]
  have HN := Lib.hid hN.symm
  clear hN
  go_enter Tryd.func18, Tryd.ntmps18
  go_wp2
  go_step3
  go_wp2
  go_step3
  go_wp2
  go_loopw [1] (fun a wr => ∃ j : Nat, j ≤ s.size ∧ a = .int .i64 j ∧ Hid (j + skipN false (s.data.toList.drop j) = N) ∧ Below w.heap.size w wr) (fun a _ => s.size - (intOf a).toNat)
  case atStart => exact ⟨k, hk, rfl, HN, Below.refl _ _⟩
  case round =>
    obtain ⟨j, hj, rfl, H, hb⟩ := hrel
    by_cases hlt : j < s.size
    · by_cases hp : gapB s[j].toNat = true
      · have H1 := Lib.hid (skip_gap s j N hlt hp H.out)
        clear H
        have hc : (s[j].toNat : Int) = 32 ∨ (s[j].toNat : Int) = 9 ∨ (s[j].toNat : Int) = 10 ∨ (s[j].toNat : Int) = 13 := by simpa [gapB] using hp
        clear hp
        rcases hc with h | h | h | h
        all_goals
          go_wp2_with (fail)
          go_roundw
          case rel => exact ⟨j + 1, by omega, by go_num, H1, hb⟩
          case measure => simp [intOf]; omega
      · have hp : gapB s[j].toNat = false := by simpa using hp
        have hc : (s[j].toNat : Int) ≠ 32 ∧ (s[j].toNat : Int) ≠ 9 ∧ (s[j].toNat : Int) ≠ 10 ∧ (s[j].toNat : Int) ≠ 13 := by simpa [gapB] using hp
        have t1 : ((s[j].toNat : Int) == 32) = false := by simpa using hc.1
        have t2 : ((s[j].toNat : Int) == 9) = false := by simpa using hc.2.1
        have t3 : ((s[j].toNat : Int) == 10) = false := by simpa using hc.2.2.1
        have t4 : ((s[j].toNat : Int) == 13) = false := by simpa using hc.2.2.2
        by_cases hq : s[j].toNat = 35
        · obtain ⟨H1, h1, h2⟩ := skip_note s j N hlt hq H.out
          have t5 : ((s[j].toNat : Int) == 35) = true := by simp [hq]
          replace H1 := Lib.hid H1
          clear H hp hc hq
          go_wp2_with (first | (go_at_call 28; refine (not_any _).mono ?_; rintro e w' ⟨rfl, rfl⟩) | (go_at_call 25; refine (past_note s j wr.heap.size _ hs' hj (by simp)).mono ?_; rintro e w' ⟨rfl, rfl⟩))
          go_roundw
          case rel => exact ⟨j + pastN noteB (s.data.toList.drop j), h2, by go_num, H1, hb.alloc hb.size _⟩
          case measure => simp [intOf]; omega
        · have e := skip_off s j N hlt hp hq H.out
          subst e
          have t5 : ((s[j].toNat : Int) == 35) = false := by simp; omega
          clear H HN hp hc hq
          go_wp2_with (fail)
          try rw [Exit.noGoto_ret]
          go_ret
          exact ⟨rfl, hb⟩
    · have e := skip_end s j N hlt H.out
      subst e
      clear H HN
      go_wp2_with (fail)
      try rw [Exit.noGoto_ret]
      go_ret
      exact ⟨rfl, hb⟩
end Go.Proofs.YtmoeokfjfnegmaaDoor
