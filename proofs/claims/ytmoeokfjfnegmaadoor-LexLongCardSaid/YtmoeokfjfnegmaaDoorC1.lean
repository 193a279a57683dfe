/-
  The reference's skip and sign.
-/
import Derived.Test.YtmoeokfjfnegmaaDoorB2
namespace Go.Proofs.YtmoeokfjfnegmaaDoor
open Go.RowKit

set_option maxHeartbeats 1000000 in
theorem rskip_any (s : ByteArray) (k : Nat) (w : World) (hs : s.size ≤ maxLen) (hk : k ≤ s.size) :
    Calls Tryd.prog 20 #[.string s, .int .i64 k] w fun e w' => e = .returned (.int .i64 (k + skipN false (s.data.toList.drop k) : Nat)) ∧ w = w' := by
  have hs' := hs
  unfold maxLen at hs
  obtain ⟨N, hN⟩ : ∃ N, N = k + skipN false (s.data.toList.drop k) := ⟨_, rfl⟩
  rw [← hN]
  have HN := Lib.hid hN.symm
  clear hN
  go_enter Tryd.func20, Tryd.ntmps20
  go_wp2
  go_loop [5] (fun a => ∃ j : Nat, j ≤ s.size ∧ a = .int .i64 j ∧ Hid (j + skipN false (s.data.toList.drop j) = N)) (fun a => s.size - (intOf a).toNat)
  case atStart => exact ⟨k, hk, rfl, HN⟩
  case round =>
    obtain ⟨j, hj, rfl, H⟩ := hrel
    by_cases hlt : j < s.size
    · by_cases hp : gapB s[j].toNat = true
      · have H1 := Lib.hid (skip_gap s j N hlt hp H.out)
        clear H
        have hc : (s[j].toNat : Int) = 32 ∨ (s[j].toNat : Int) = 9 ∨ (s[j].toNat : Int) = 10 ∨ (s[j].toNat : Int) = 13 := by simpa [gapB] using hp
        clear hp
        rcases hc with h | h | h | h
        all_goals
          go_wp2_with (fail)
          go_round
          case rel => exact ⟨j + 1, by omega, by go_num, H1⟩
          case measure => simp [intOf]; omega
      · have hp : gapB s[j].toNat = false := by simpa using hp
        have hc : (s[j].toNat : Int) ≠ 32 ∧ (s[j].toNat : Int) ≠ 9 ∧ (s[j].toNat : Int) ≠ 10 ∧ (s[j].toNat : Int) ≠ 13 := by simpa [gapB] using hp
        have t1 : ((s[j].toNat : Int) == 32) = false := by simpa using hc.1
        have t2 : ((s[j].toNat : Int) == 9) = false := by simpa using hc.2.1
        have t3 : ((s[j].toNat : Int) == 10) = false := by simpa using hc.2.2.1
        have t4 : ((s[j].toNat : Int) == 13) = false := by simpa using hc.2.2.2
        by_cases hq : s[j].toNat = 35
        · obtain ⟨H1, h1, h2⟩ := skip_note s j N hlt hq H.out
          have t5 : ((s[j].toNat : Int) == 35) = true := by simp [hq]
          obtain ⟨M, hM⟩ : ∃ M, M = j + pastN noteB (s.data.toList.drop j) := ⟨_, rfl⟩
          rw [← hM] at H1 h2
          have hjM : j + 1 ≤ M := by omega
          have HM := Lib.hid hM.symm
          replace H1 := Lib.hid H1
          clear H hp hc hq hM h1
          go_wp2_with (fail)
          go_loop [5] (fun a => ∃ i : Nat, i ≤ s.size ∧ a = .int .i64 i ∧ Hid (i + pastN noteB (s.data.toList.drop i) = M)) (fun a => s.size - (intOf a).toNat)
          case atStart => exact ⟨j, hj, rfl, HM⟩
          case round =>
            obtain ⟨i, hi, rfl, HI⟩ := hrel
            by_cases hil : i < s.size
            · by_cases hn : noteB s[i].toNat = true
              · have H2 := Lib.hid (past_on _ s i _ hil hn HI.out)
                have t6 : ((s[i].toNat : Int) == 10) = false := by simpa [noteB] using hn
                clear HI hn
                go_wp2_with (fail)
                go_round
                case rel => exact ⟨i + 1, by omega, by go_num, H2⟩
                case measure => simp [intOf]; omega
              · have hn : noteB s[i].toNat = false := by simpa using hn
                have e := past_off _ s i _ hil hn HI.out
                have t6 : ((s[i].toNat : Int) == 10) = true := by simpa [noteB] using hn
                subst e
                clear HI hn HM
                go_wp2_with (fail)
                go_round
                case rel => exact ⟨i, hi, rfl, H1⟩
                case measure => simp [intOf]; omega
            · have e := past_end _ s i _ hil HI.out
              subst e
              clear HI HM
              go_wp2_with (fail)
              go_round
              case rel => exact ⟨i, hi, rfl, H1⟩
              case measure => simp [intOf]; omega
        · have e := skip_off s j N hlt hp hq H.out
          subst e
          have t5 : ((s[j].toNat : Int) == 35) = false := by simp; omega
          clear H HN hp hc hq
          go_wp2_with (fail)
          go_ret
          exact ⟨rfl, rfl⟩
    · have e := skip_end s j N hlt H.out
      subst e
      clear H HN
      go_wp2_with (fail)
      go_ret
      exact ⟨rfl, rfl⟩

/-- How many bytes the longest of some signs has that stands there. -/
def bestF (l : List UInt8) : List (List UInt8) → Nat → Nat
  | [], b => b
  | x :: r, b => if x.length ≤ l.length ∧ l.take x.length = x ∧ b < x.length then bestF l r x.length else bestF l r b
theorem bestF_ge (l : List UInt8) (xs : List (List UInt8)) (b : Nat) : b ≤ bestF l xs b ∧ ∀ x ∈ xs, x.length ≤ l.length → l.take x.length = x → x.length ≤ bestF l xs b := by
  induction xs generalizing b with
  | nil => exact ⟨Nat.le_refl _, fun x hx => by cases hx⟩
  | cons a r ih =>
    unfold bestF
    split
    · rename_i h
      refine ⟨Nat.le_trans (Nat.le_of_lt h.2.2) (ih _).1, fun x hx h1 h2 => ?_⟩
      rcases List.mem_cons.mp hx with rfl | hx
      · exact (ih _).1
      · exact (ih _).2 x hx h1 h2
    · rename_i h
      refine ⟨(ih _).1, fun x hx h1 h2 => ?_⟩
      rcases List.mem_cons.mp hx with rfl | hx
      · have : x.length ≤ b := Nat.le_of_not_lt (fun hb => h ⟨h1, h2, hb⟩)
        exact Nat.le_trans this (ih _).1
      · exact (ih _).2 x hx h1 h2
theorem bestF_of (l : List UInt8) (xs : List (List UInt8)) (b : Nat) : bestF l xs b = b ∨ ∃ x ∈ xs, x.length ≤ l.length ∧ l.take x.length = x ∧ bestF l xs b = x.length := by
  induction xs generalizing b with
  | nil => exact .inl rfl
  | cons a r ih =>
    unfold bestF
    split
    · rename_i h
      rcases ih a.length with e | ⟨x, hx, h1, h2, h3⟩
      · exact .inr ⟨a, List.mem_cons_self, h.1, h.2.1, e⟩
      · exact .inr ⟨x, List.mem_cons_of_mem _ hx, h1, h2, h3⟩
    · rcases ih b with e | ⟨x, hx, h1, h2, h3⟩
      · exact .inl e
      · exact .inr ⟨x, List.mem_cons_of_mem _ hx, h1, h2, h3⟩
theorem signU_ge (z : Nat) (l : List UInt8) (y : Nat) (h1 : 1 ≤ y) (h2 : y ≤ z) (h : signB (l.take y) = true) : y ≤ signU z l := by
  induction z with
  | zero => omega
  | succ z ih =>
    unfold signU
    split
    · exact h2
    · rename_i hn
      rcases Nat.lt_or_ge z y with hz | hz
      · have e : y = z + 1 := by omega
        subst e
        exact absurd h hn
      · exact ih hz
theorem signU_of (z : Nat) (l : List UInt8) : signU z l = 0 ∨ signB (l.take (signU z l)) = true := by
  induction z with
  | zero => exact .inl rfl
  | succ z ih =>
    unfold signU
    split
    · rename_i h; exact .inr h
    · exact ih
theorem signW_len : ∀ x ∈ signW, 1 ≤ x.length ∧ x.length ≤ 3 := by decide
theorem best_sign (l : List UInt8) : bestF l signW 0 = signN l := by
  have hle := signU_le (min 3 l.length) l
  apply Nat.le_antisymm
  · rcases bestF_of l signW 0 with e | ⟨x, hx, h1, h2, h3⟩
    · omega
    · rw [h3]
      obtain ⟨a, b⟩ := signW_len x hx
      refine signU_ge _ l _ a (by omega) ?_
      rw [h2]
      unfold signB
      rw [List.any_eq_true]
      exact ⟨x, hx, by simp⟩
  · unfold signN
    rcases signU_of (min 3 l.length) l with e | h
    · omega
    · unfold signB at h
      rw [List.any_eq_true] at h
      obtain ⟨x, hx, he⟩ := h
      have he : l.take (signU (min 3 l.length) l) = x := by simpa using he
      have hxl : x.length = signU (min 3 l.length) l := by rw [← he, List.length_take]; omega
      have := (bestF_ge l signW 0).2 x hx (by omega) (by rw [hxl]; exact he)
      omega

theorem sign_cell (w : World) (o : World) (i : Nat) (x : List UInt8) (hw : o = w.alloc (.cells (signW.map strB).toArray 9)) (h : signW[i]? = some x) : o.cell? ⟨w.heap.size, i, none⟩ = some (.string ⟨x.toArray⟩) := by
  subst hw
  rw [cell_of_row _ _ _ _ _ _ (heap_alloc_new w _), List.getElem?_toArray, List.getElem?_map, h]
  rfl

theorem drewN_below (w : World) (n : Nat) : Below w.heap.size w (w.drewN n) := ⟨rfl, rfl, rfl, Nat.le_refl _, fun _ _ => rfl⟩
theorem best_step (l : List UInt8) (i b N : Nat) (x : List UInt8) (hx : signW[i]? = some x) (e : bestF l (signW.drop i) b = N) :
    (x.length ≤ l.length ∧ l.take x.length = x ∧ b < x.length → bestF l (signW.drop (i + 1)) x.length = N) ∧ (¬ (x.length ≤ l.length ∧ l.take x.length = x ∧ b < x.length) → bestF l (signW.drop (i + 1)) b = N) := by
  obtain ⟨hi, hg⟩ := List.getElem?_eq_some_iff.mp hx
  rw [List.drop_eq_getElem_cons hi, hg, bestF] at e
  exact ⟨fun h => by rw [if_pos h] at e; exact e, fun h => by rw [if_neg h] at e; exact e⟩

set_option maxHeartbeats 2000000 in
theorem rsign_any (s : ByteArray) (k : Nat) (w : World) (hs : s.size ≤ 1048576) (hk : k ≤ s.size) :
    Calls Tryd.prog 22 #[.string s, .int .i64 k] w fun e w' => e = .returned (.int .i64 (signN (s.data.toList.drop k) : Nat)) ∧ Below w.heap.size w w' := by
  obtain ⟨N, hN⟩ : ∃ N, N = signN (s.data.toList.drop k) := ⟨_, rfl⟩
  rw [← hN]
  rw [← best_sign] at hN
  have HN := Lib.hid hN.symm
  clear hN
  obtain ⟨w1, hw1⟩ : ∃ w1, w1 = w.alloc (.cells (signW.map strB).toArray 9) := ⟨_, rfl⟩
  have HW := Lib.hid hw1
  go_enter Tryd.func22, Tryd.ntmps22
  go_wp2
  show Code.wp _ _ _ _ (w.alloc (.cells (signW.map strB).toArray 9))
  rw [← hw1]
  clear hw1
  go_loopw [6, 7] (fun v a wr => ∃ i b : Nat, i ≤ 31 ∧ b ≤ 3 ∧ a = .int .i64 i ∧ v = .int .i64 b ∧ Hid (bestF (s.data.toList.drop k) (signW.drop i) b = N) ∧ ∃ n, wr = w1.drewN n) (fun _ a _ => 31 - (intOf a).toNat)
  case atStart => exact ⟨0, 0, by omega, by omega, rfl, rfl, HN, 0, rfl⟩
  case round =>
    obtain ⟨i, b, hi, hb, rfl, rfl, H, n, rfl⟩ := hrel
    by_cases hlt : i < 31
    · obtain ⟨x, hx⟩ : ∃ x, signW[i]? = some x := ⟨_, List.getElem?_eq_getElem (show i < signW.length from hlt)⟩
      have hc := sign_cell w w1 i x HW.out hx
      have hxl := signW_len x (List.mem_of_getElem? hx)
      obtain ⟨S1, S2⟩ := best_step _ i b N x hx H.out
      rw [len_drop] at S1 S2
      replace hx := Lib.hid hx
      clear H
      have hw : IntKind.i64.wrap ((k : Int) + (x.length : Int)) = (k : Int) + (x.length : Int) := IntWalk.i64_in _ (by omega)
      have hn : ((k : Int) + (x.length : Int)).toNat = k + x.length := by omega
      have h0 : (0 : Int) ≤ (k : Int) + (x.length : Int) := by omega
      by_cases h1 : k + x.length ≤ s.size
      · have d1 : decide ((k : Int) + (x.length : Int) ≤ (s.size : Int)) = true := by simp; omega
        have d2 : decide (k + x.length ≤ s.size) = true := by simp; omega
        by_cases h2 : (s.data.toList.drop k).take x.length = x
        · have e2 : ((s.extract k (k + x.length)).toList == x) = true := by rw [ByteArray.toList_eq, extract_drop]; simp [h2]
          by_cases h3 : b < x.length
          · have d3 : decide ((b : Int) < (x.length : Int)) = true := by simp; omega
            have d4 : decide (b < x.length) = true := by simp; omega
            have H1 := Lib.hid (S1 ⟨by omega, h2, h3⟩)
            clear S1 S2 h2
            go_wp2_with (fail)
            go_quiet (fail)
            go_wp2_with (fail)
            go_roundw
            case rel => exact ⟨i + 1, x.length, by omega, by omega, by go_num, rfl, H1, _, rfl⟩
            case measure => simp [intOf]; omega
          · have d3 : decide ((b : Int) < (x.length : Int)) = false := by simp; omega
            have d4 : decide (b < x.length) = false := by simp; omega
            have H1 := Lib.hid (S2 (fun h => h3 h.2.2))
            clear S1 S2 h2
            go_wp2_with (fail)
            go_quiet (fail)
            go_wp2_with (fail)
            go_roundw
            case rel => exact ⟨i + 1, b, by omega, by omega, by go_num, rfl, H1, _, rfl⟩
            case measure => simp [intOf]; omega
        · have e2 : ((s.extract k (k + x.length)).toList == x) = false := by rw [ByteArray.toList_eq, extract_drop]; simp [h2]
          have H1 := Lib.hid (S2 (fun h => h2 h.2.1))
          clear S1 S2 h2
          go_wp2_with (fail)
          go_quiet (fail)
          go_wp2_with (fail)
          go_roundw
          case rel => exact ⟨i + 1, b, by omega, by omega, by go_num, rfl, H1, _, rfl⟩
          case measure => simp [intOf]; omega
      · have d1 : decide ((k : Int) + (x.length : Int) ≤ (s.size : Int)) = false := by simp; omega
        have d2 : decide (k + x.length ≤ s.size) = false := by simp; omega
        have H1 := Lib.hid (S2 (fun h => h1 (by have := h.1; omega)))
        clear S1 S2
        go_wp2_with (fail)
        go_quiet (fail)
        go_wp2_with (fail)
        go_roundw
        case rel => exact ⟨i + 1, b, by omega, by omega, by go_num, rfl, H1, _, rfl⟩
        case measure => simp [intOf]; omega
    · have h31 : signW.length = 31 := rfl
      have e : b = N := by
        have h := H.out
        have e31 : i = 31 := by omega
        rw [e31] at h
        exact h
      subst e
      clear H HN
      go_wp2_with (fail)
      go_ret
      exact ⟨rfl, by rw [HW.out]; exact ((Below.refl _ _).alloc (Nat.le_refl _) _).trans ((drewN_below _ _).mono (by simp))⟩
end Go.Proofs.YtmoeokfjfnegmaaDoor
