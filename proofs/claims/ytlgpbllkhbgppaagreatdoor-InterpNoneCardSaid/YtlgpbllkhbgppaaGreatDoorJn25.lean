/-
  lex's word, and the library's Clone.
-/
import Derived.Test.YtlgpbllkhbgppaaGreatDoorJn4
namespace Go.Proofs.YtlgpbllkhbgppaaGreatDoor
set_option linter.unusedVariables false
set_option linter.unusedSimpArgs false
open Go.RowKit

theorem clone_any (s : ByteArray) (w : World) (hs : s.size ≤ 281474976710656) : Calls Tryz.prog 50 #[.string s] w fun e w' => e = .returned (.string s) ∧ Below w.heap.size w w' :=
  AnyPu.stringslite_Clone { laysPu14 with } s w hs

set_option maxHeartbeats 1000000 in
theorem sclone_any (s : ByteArray) (w : World) (hs : s.size ≤ 281474976710656) : Calls Tryz.prog 28 #[.string s] w fun e w' => e = .returned (.string s) ∧ Below w.heap.size w w' := by
  go_enter Tryz.func28, Tryz.ntmps28
  go_wp2_with (go_at_call 50; refine (clone_any s _ hs).mono ?_; rintro e w1 ⟨rfl, hb⟩)
  go_ret
  exact ⟨rfl, hb⟩

theorem word_at (s : ByteArray) (k : Nat) (hk : k < s.size) : wordT k (s.data.toList.drop k) = if letterB s[k].toNat = true then some (nameT k (s.data.toList.drop k)) else if digitB s[k].toNat = true then numT k (s.data.toList.drop k) else signT k (s.data.toList.drop k) := by
  rw [drop_at s k hk, wordT]

set_option maxHeartbeats 1000000 in
theorem word_any (s : ByteArray) (k : Nat) (w : World) (hs : s.size ≤ 281474976710656) (hk : k < s.size) (hr : Rng w) :
    Calls Tryz.prog 30 #[.string s, .int .i64 k] w fun e w' => e = .returned (.tuple #[tkV (tkO (wordT k (s.data.toList.drop k))), .bool (wordT k (s.data.toList.drop k)).isSome]) ∧ Below w.heap.size w w' := by
  have hm : s.size ≤ maxLen := by unfold maxLen; omega
  have hw := word_at s k hk
  have hr1 : Rng (w.alloc (.cells #[.int .i64 0, .int .i64 0, .int .i64 0, .string ⟨#[]⟩] 89)) := hr.up ((Below.refl _ _).alloc (Nat.le_refl _) _)
  by_cases hl : letterB s[k].toNat = true
  · rw [if_pos hl] at hw
    rw [hw]
    have HN := name_any s k (w.alloc (.cells #[.int .i64 0, .int .i64 0, .int .i64 0, .string ⟨#[]⟩] 89)) hm (by omega)
    obtain ⟨⟨kd, a, nm, bs⟩, hT⟩ : ∃ T, T = nameT k (s.data.toList.drop k) := ⟨_, rfl⟩
    rw [← hT] at HN
    rw [← hT]
    clear hw hT
    have HC : Hid (Calls Tryz.prog 54 #[.string s, .int .i64 k] (w.alloc (.cells #[.int .i64 0, .int .i64 0, .int .i64 0, .string ⟨#[]⟩] 89)) fun e w' => e = .returned (.agg #[.int .i64 kd, .int .i64 a, .int .i64 nm, .string ⟨bs.toArray⟩]) ∧ Below (w.alloc (.cells #[.int .i64 0, .int .i64 0, .int .i64 0, .string ⟨#[]⟩] 89)).heap.size (w.alloc (.cells #[.int .i64 0, .int .i64 0, .int .i64 0, .string ⟨#[]⟩] 89)) w') := Lib.hid HN
    clear HN hr1 hr
    go_enter Tryz.func30, Tryz.ntmps30
    go_wp2_with (first | (go_at_call 53; refine (letter_any _ _).mono ?_; rintro e w' ⟨rfl, rfl⟩) | (go_at_call 55; refine (digit_any _ _).mono ?_; rintro e w' ⟨rfl, rfl⟩) | (go_at_call 54; refine HC.out.mono ?_; rintro e w1 ⟨rfl, hb1⟩; obtain ⟨hc1, hf1⟩ := bcell hb1; have hz1 := hb1.size))
    have hz2 : w.heap.size < w1.heap.size := by simp at hz1; omega
    refine bodyPost_ret (v := .tuple #[.agg #[.int .i64 kd, .int .i64 a, .int .i64 nm, .string ⟨bs.toArray⟩], .bool true]) (by simp [results, Tryz.results30, go_sem, hc1]) rfl ⟨rfl, ?_⟩
    exact ((((((Below.refl _ _).alloc (Nat.le_refl _) _).trans (hb1.mono (by simp))).setCell (Nat.le_refl _) _).setCell (Nat.le_refl _) _).setCell (Nat.le_refl _) _).setCell (Nat.le_refl _) _
  · have hl : letterB s[k].toNat = false := by simpa using hl
    rw [if_neg (by simp [hl])] at hw
    by_cases hd : digitB s[k].toNat = true
    · rw [if_pos hd] at hw
      rw [hw]
      have HN := number_any s k (w.alloc (.cells #[.int .i64 0, .int .i64 0, .int .i64 0, .string ⟨#[]⟩] 89)) hs hk hd hr1
      obtain ⟨o, hO⟩ : ∃ o, o = numT k (s.data.toList.drop k) := ⟨_, rfl⟩
      rw [← hO] at HN
      rw [← hO]
      clear hw hO
      obtain ⟨ok, hok⟩ : ∃ ok, ok = o.isSome := ⟨_, rfl⟩
      obtain ⟨⟨kd, a, nm, bs⟩, hT⟩ : ∃ T, T = tkO o := ⟨_, rfl⟩
      rw [← hok, ← hT] at HN
      rw [← hok, ← hT]
      clear hok hT
      have HC : Hid (Calls Tryz.prog 56 #[.string s, .int .i64 k] (w.alloc (.cells #[.int .i64 0, .int .i64 0, .int .i64 0, .string ⟨#[]⟩] 89)) fun e w' => e = .returned (.tuple #[.agg #[.int .i64 kd, .int .i64 a, .int .i64 nm, .string ⟨bs.toArray⟩], .bool ok]) ∧ Below (w.alloc (.cells #[.int .i64 0, .int .i64 0, .int .i64 0, .string ⟨#[]⟩] 89)).heap.size (w.alloc (.cells #[.int .i64 0, .int .i64 0, .int .i64 0, .string ⟨#[]⟩] 89)) w') := Lib.hid HN
      clear HN hr1 hr
      go_enter Tryz.func30, Tryz.ntmps30
      go_wp2_with (first | (go_at_call 53; refine (letter_any _ _).mono ?_; rintro e w' ⟨rfl, rfl⟩) | (go_at_call 55; refine (digit_any _ _).mono ?_; rintro e w' ⟨rfl, rfl⟩) | (go_at_call 56; refine HC.out.mono ?_; rintro e w1 ⟨rfl, hb1⟩; obtain ⟨hc1, hf1⟩ := bcell hb1; have hz1 := hb1.size))
      have hz2 : w.heap.size < w1.heap.size := by simp at hz1; omega
      refine bodyPost_ret (v := .tuple #[.agg #[.int .i64 kd, .int .i64 a, .int .i64 nm, .string ⟨bs.toArray⟩], .bool ok]) (by simp [results, Tryz.results30, go_sem, hc1]) rfl ⟨rfl, ?_⟩
      exact ((((((Below.refl _ _).alloc (Nat.le_refl _) _).trans (hb1.mono (by simp))).setCell (Nat.le_refl _) _).setCell (Nat.le_refl _) _).setCell (Nat.le_refl _) _).setCell (Nat.le_refl _) _
    · have hd : digitB s[k].toNat = false := by simpa using hd
      rw [if_neg (by simp [hd])] at hw
      rw [hw]
      have HN := sign_any s k (w.alloc (.cells #[.int .i64 0, .int .i64 0, .int .i64 0, .string ⟨#[]⟩] 89)) hm hk
      obtain ⟨o, hO⟩ : ∃ o, o = signT k (s.data.toList.drop k) := ⟨_, rfl⟩
      rw [← hO] at HN
      rw [← hO]
      clear hw hO
      obtain ⟨ok, hok⟩ : ∃ ok, ok = o.isSome := ⟨_, rfl⟩
      obtain ⟨⟨kd, a, nm, bs⟩, hT⟩ : ∃ T, T = tkO o := ⟨_, rfl⟩
      rw [← hok, ← hT] at HN
      rw [← hok, ← hT]
      clear hok hT
      have HC : Hid (Calls Tryz.prog 57 #[.string s, .int .i64 k] (w.alloc (.cells #[.int .i64 0, .int .i64 0, .int .i64 0, .string ⟨#[]⟩] 89)) fun e w' => e = .returned (.tuple #[.agg #[.int .i64 kd, .int .i64 a, .int .i64 nm, .string ⟨bs.toArray⟩], .bool ok]) ∧ Below (w.alloc (.cells #[.int .i64 0, .int .i64 0, .int .i64 0, .string ⟨#[]⟩] 89)).heap.size (w.alloc (.cells #[.int .i64 0, .int .i64 0, .int .i64 0, .string ⟨#[]⟩] 89)) w') := Lib.hid HN
      clear HN hr1 hr
      go_enter Tryz.func30, Tryz.ntmps30
      go_wp2_with (first | (go_at_call 53; refine (letter_any _ _).mono ?_; rintro e w' ⟨rfl, rfl⟩) | (go_at_call 55; refine (digit_any _ _).mono ?_; rintro e w' ⟨rfl, rfl⟩) | (go_at_call 57; refine HC.out.mono ?_; rintro e w1 ⟨rfl, hb1⟩; obtain ⟨hc1, hf1⟩ := bcell hb1; have hz1 := hb1.size))
      have hz2 : w.heap.size < w1.heap.size := by simp at hz1; omega
      refine bodyPost_ret (v := .tuple #[.agg #[.int .i64 kd, .int .i64 a, .int .i64 nm, .string ⟨bs.toArray⟩], .bool ok]) (by simp [results, Tryz.results30, go_sem, hc1]) rfl ⟨rfl, ?_⟩
      exact ((((((Below.refl _ _).alloc (Nat.le_refl _) _).trans (hb1.mono (by simp))).setCell (Nat.le_refl _) _).setCell (Nat.le_refl _) _).setCell (Nat.le_refl _) _).setCell (Nat.le_refl _) _
end Go.Proofs.YtlgpbllkhbgppaaGreatDoor
