/-
  The reference's small functions, the laws' few, and names.
-/
import Derived.Test.YtmoeokfjfnegmaaDoorL2
namespace Go.Proofs.YtmoeokfjfnegmaaDoor
open Go.RowKit

set_option maxHeartbeats 400000 in
theorem few_any (s : ByteArray) (w : World) (hs : s.size ≤ maxLen) : Calls Tryd.prog 8 #[.string s] w fun e w' => ∃ t : ByteArray, t.size ≤ 2000 ∧ e = .returned (.string t) ∧ w = w' := by
  unfold maxLen at hs
  by_cases h : 2000 < s.size
  · go_enter Tryd.func8, Tryd.ntmps8
    go_wp2
    go_ret
    exact ⟨s.extract 0 2000, by rw [ByteArray.size_extract]; omega, rfl, rfl⟩
  · go_enter Tryd.func8, Tryd.ntmps8
    go_wp2
    go_ret
    exact ⟨s, by omega, rfl, rfl⟩

def letN (c : Int) : Int := if letterB c = true then 1 else if digitB c = true then 2 else 0
set_option maxHeartbeats 1000000 in
theorem rletter_any (c : Int) (w : World) : Calls Tryd.prog 21 #[.int .u8 c] w fun e w' => e = .returned (.int .i64 (letN c)) ∧ w = w' := by
  by_cases h95 : c = 95
  · subst h95
    go_enter Tryd.func21, Tryd.ntmps21
    go_wp2
    go_ret
    exact ⟨rfl, rfl⟩
  · have hb : (c == 95) = false := by simpa using h95
    have h9 : (97 ≤ c ∧ c ≤ 122) ∨ (65 ≤ c ∧ c ≤ 90) ∨ (48 ≤ c ∧ c ≤ 57) ∨ c < 48 ∨ (58 ≤ c ∧ c ≤ 64) ∨ (91 ≤ c ∧ c ≤ 96) ∨ 123 ≤ c := by omega
    rcases h9 with ⟨h1, h2⟩ | ⟨h1, h2⟩ | ⟨h1, h2⟩ | h1 | ⟨h1, h2⟩ | ⟨h1, h2⟩ | h1
    all_goals
      go_enter Tryd.func21, Tryd.ntmps21
      go_wp2
      go_ret
      exact ⟨ret_int (by simp only [letN, letterB, digitB, decide_eq_true_eq]; first | rw [if_pos (by omega)] | rw [if_neg (by omega), if_pos (by omega)] | rw [if_neg (by omega), if_neg (by omega)]), rfl⟩

def strB (l : List UInt8) : Value := .string ⟨l.toArray⟩
set_option maxHeartbeats 1000000 in
theorem words_any (w : World) : Calls Tryd.prog 23 #[] w fun e w' => e = .returned (.slice (some ⟨w.heap.size, 0, none⟩) 21 21) ∧ w' = w.alloc (.cells (keptW.map strB).toArray 9) := by
  go_enter Tryd.func23, Tryd.ntmps23
  go_wp2
  go_ret
  exact ⟨rfl, rfl⟩

theorem kept_cell (w w' : World) (i : Nat) (x : List UInt8) (hw : w' = w.alloc (.cells (keptW.map strB).toArray 9)) (h : keptW[i]? = some x) : w'.cell? ⟨w.heap.size, i, none⟩ = some (.string ⟨x.toArray⟩) := by
  subst hw
  rw [cell_of_row _ _ _ _ _ _ (heap_alloc_new w _), List.getElem?_toArray, List.getElem?_map, h]
  rfl

set_option maxHeartbeats 2000000 in
theorem rkept_any (s : ByteArray) (w : World) : Calls Tryd.prog 14 #[.string s] w fun e w' => e = .returned (.bool (keptB s.data.toList)) ∧ Below w.heap.size w w' := by
  rw [← ByteArray.toList_eq]
  obtain ⟨b, hb⟩ : ∃ b, b = keptB s.toList := ⟨_, rfl⟩
  rw [← hb]
  have HB := Lib.hid hb
  clear hb
  go_enter Tryd.func14, Tryd.ntmps14
  go_wp2_with (go_at_call 23; refine (words_any _).mono ?_; rintro e w1 ⟨rfl, hw1⟩; have HW := Lib.hid hw1; clear hw1)
  go_loop [4] (fun a => ∃ i : Nat, i ≤ 21 ∧ a = .int .i64 i ∧ Hid ((keptW.take i).any (s.toList == ·) = false)) (fun a => 21 - (intOf a).toNat)
  case atStart => exact ⟨0, by omega, rfl, rfl⟩
  case round =>
    obtain ⟨i, hi, rfl, H⟩ := hrel
    by_cases hlt : i < 21
    · obtain ⟨x, hx⟩ : ∃ x, keptW[i]? = some x := ⟨_, List.getElem?_eq_getElem (show i < keptW.length from hlt)⟩
      have hc := kept_cell w w1 i x HW.out hx
      replace hx := Lib.hid hx
      by_cases hq : (x == s.toList) = true
      · have hk : keptB s.toList = true := by
          unfold keptB
          rw [List.any_eq_true]
          have e : x = s.toList := by simpa using hq
          exact ⟨x, List.mem_of_getElem? hx.out, by simp [e]⟩
        replace hk := Lib.hid hk
        go_wp2
        go_ret
        exact ⟨ret_bool (by rw [HB.out]; exact hk.out.symm), by rw [HW.out]; exact (Below.refl _ _).alloc (Nat.le_refl _) _⟩
      · have hq : (x == s.toList) = false := by simpa using hq
        have H1 : Hid ((keptW.take (i + 1)).any (s.toList == ·) = false) := by
          refine Lib.hid ?_
          rw [List.take_succ_eq_append_getElem (show i < keptW.length from hlt), List.any_append, H.out]
          have e : keptW[i]'(show i < keptW.length from hlt) = x := by
            have h := hx.out
            rw [List.getElem?_eq_getElem (show i < keptW.length from hlt)] at h
            exact Option.some.inj h
          rw [e]
          simp only [List.any_cons, List.any_nil, Bool.or_false, Bool.false_or]
          rw [← hq]
          exact Bool.beq_comm
        clear H
        go_wp2
        go_round
        case rel => exact ⟨i + 1, by omega, by go_num, H1⟩
        case measure => simp [intOf]; omega
    · have hk : keptB s.toList = false := by
        have e : i = keptW.length := by have : keptW.length = 21 := rfl
                                        omega
        have h := H.out
        rw [e, List.take_length] at h
        exact h
      replace hk := Lib.hid hk
      go_wp2
      go_ret
      exact ⟨ret_bool (by rw [HB.out]; exact hk.out.symm), by rw [HW.out]; exact (Below.refl _ _).alloc (Nat.le_refl _) _⟩
end Go.Proofs.YtmoeokfjfnegmaaDoor
