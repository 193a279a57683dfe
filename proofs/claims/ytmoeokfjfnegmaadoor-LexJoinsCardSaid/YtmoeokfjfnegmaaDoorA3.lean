/-
  Which names are kept, which texts are signs.
-/
import Derived.Test.YtmoeokfjfnegmaaDoorA2
namespace Go.Proofs.YtmoeokfjfnegmaaDoor
open Go.RowKit

set_option maxHeartbeats 4000000 in
theorem kept_any (s : ByteArray) (w : World) : Calls Tryd.prog 13 #[.string s] w fun e w' => e = .returned (.bool (keptB s.data.toList)) ∧ w = w' := by
  rw [← ByteArray.toList_eq]
  go_enter Tryd.func13, Tryd.ntmps13
  go_wp2
  all_goals
    first
      | (exfalso; simp_all; done)
      | (go_ret
         exact ⟨ret_bool (by simp [keptB, keptW, *]), rfl⟩)

set_option maxHeartbeats 4000000 in
theorem isSign_any (s : ByteArray) (w : World) : Calls Tryd.prog 35 #[.string s] w fun e w' => e = .returned (.bool (signB s.data.toList)) ∧ w = w' := by
  rw [← ByteArray.toList_eq]
  go_enter Tryd.func35, Tryd.ntmps35
  go_wp2
  all_goals
    first
      | (exfalso; simp_all; done)
      | (go_ret
         exact ⟨ret_bool (by simp [signB, signW, *]), rfl⟩)

theorem signU_hit (z N : Nat) (l : List UInt8) (h : signB (l.take (z + 1)) = true) (e : signU (z + 1) l = N) : z + 1 = N := by
  rw [signU, if_pos h] at e; exact e
theorem signU_miss (z N : Nat) (l : List UInt8) (h : signB (l.take (z + 1)) = false) (e : signU (z + 1) l = N) : signU z l = N := by
  rw [signU, if_neg (by simp [h])] at e; exact e

theorem len_drop (s : ByteArray) (k : Nat) : (s.data.toList.drop k).length = s.size - k := by simp
theorem sign_start (s : ByteArray) (k : Nat) : (3 ≤ s.size - k → signU 3 (s.data.toList.drop k) = signN (s.data.toList.drop k)) ∧ (s.size - k ≤ 3 → signU (s.size - k) (s.data.toList.drop k) = signN (s.data.toList.drop k)) := by
  unfold signN
  rw [len_drop]
  refine ⟨fun h => ?_, fun h => ?_⟩
  · rw [Nat.min_eq_left h]
  · rw [Nat.min_eq_right h]

theorem isSign_cut (s : ByteArray) (k z : Nat) (b : Bool) (h : Hid (signB ((s.data.toList.drop k).take z) = b)) (w : World) : Calls Tryd.prog 35 #[.string (s.extract k (k + z))] w fun e w' => e = .returned (.bool b) ∧ w = w' :=
  (isSign_any _ w).mono fun _ _ ⟨he, hw⟩ => ⟨by rw [he, extract_drop]; exact ret_bool h.out, hw⟩
theorem sign_none (l : List UInt8) (k : Nat) (h : 0 = signN l) : Ending.returned (.tuple #[.agg #[.int .i64 0, .int .i64 0, .int .i64 0, .string ⟨#[]⟩], .bool false]) = Ending.returned (.tuple #[tkV (tkO (signT k l)), .bool (signT k l).isSome]) := by
  unfold signT
  rw [if_pos h.symm]
  rfl
theorem sign_some (s : ByteArray) (k z : Nat) (h : z + 1 = signN (s.data.toList.drop k)) : Ending.returned (.tuple #[.agg #[.int .i64 4, .int .i64 k, .int .i64 0, .string (s.extract k (k + (z + 1)))], .bool true]) = Ending.returned (.tuple #[tkV (tkO (signT k (s.data.toList.drop k))), .bool (signT k (s.data.toList.drop k)).isSome]) := by
  unfold signT
  rw [if_neg (by omega), extract_drop, ← h]
  rfl

set_option maxHeartbeats 1000000 in
theorem sign_any (s : ByteArray) (k : Nat) (w : World) (hs : s.size ≤ maxLen) (hk : k < s.size) :
    Calls Tryd.prog 32 #[.string s, .int .i64 k] w fun e w' => e = .returned (.tuple #[tkV (tkO (signT k (s.data.toList.drop k))), .bool (signT k (s.data.toList.drop k)).isSome]) ∧ Below w.heap.size w w' := by
  unfold maxLen at hs
  obtain ⟨N, hN⟩ : ∃ N, N = signN (s.data.toList.drop k) := ⟨_, rfl⟩
  have HN := sign_start s k
  rw [← hN] at HN
  replace HN := Lib.hid HN
  have HT := Lib.hid hN
  clear hN
  obtain ⟨V, hV⟩ : ∃ V, V = Ending.returned (.tuple #[tkV (tkO (signT k (s.data.toList.drop k))), .bool (signT k (s.data.toList.drop k)).isSome]) := ⟨_, rfl⟩
  rw [← hV]
  replace hV := Lib.hid hV
  go_enter Tryd.func32, Tryd.ntmps32
  go_wp2
  all_goals
    go_loop [6] (fun a => ∃ z : Nat, z ≤ 3 ∧ k + z ≤ s.size ∧ a = .int .i64 z ∧ Hid (signU z (s.data.toList.drop k) = N)) (fun a => (intOf a).toNat)
    case atStart => first | exact ⟨3, by omega, by omega, rfl, HN.out.1 (by omega)⟩ | exact ⟨s.size - k, by omega, by omega, by go_num, HN.out.2 (by omega)⟩
    case round =>
      clear HN
      obtain ⟨z, hz, hkz, rfl, H⟩ := hrel
      rcases z with _ | z
      · have e : N = 0 := H.out.symm
        subst e
        clear H
        go_wp2_with (fail)
        refine bodyPost_ret (v := .tuple #[.agg #[.int .i64 0, .int .i64 0, .int .i64 0, .string ⟨#[]⟩], .bool false]) (by simp [results, Tryd.results32, go_sem]) rfl ⟨?_, ?_⟩
        · rw [hV.out]; exact sign_none _ _ HT.out
        · exact (Below.refl _ _).alloc (Nat.le_refl _) _
      · by_cases hg : signB ((s.data.toList.drop k).take (z + 1)) = true
        · have e := signU_hit _ _ _ hg H.out
          subst e
          have H1 := Lib.hid hg
          clear H hg
          go_wp2_with (go_at_call 35; refine (isSign_cut _ _ _ _ H1 _).mono ?_; rintro e w' ⟨rfl, rfl⟩)
          refine bodyPost_ret (v := .tuple #[.agg #[.int .i64 4, .int .i64 k, .int .i64 0, .string (s.extract k (k + (z + 1)))], .bool true]) (by simp [results, Tryd.results32, go_sem]) rfl ⟨?_, ?_⟩
          · rw [hV.out]; exact sign_some _ _ _ HT.out
          · exact (Below.refl _ _).alloc (Nat.le_refl _) _
        · have hg : signB ((s.data.toList.drop k).take (z + 1)) = false := by simpa using hg
          have H1 := Lib.hid hg
          have H2 := Lib.hid (signU_miss _ _ _ hg H.out)
          clear H hg
          go_wp2_with (go_at_call 35; refine (isSign_cut _ _ _ _ H1 _).mono ?_; rintro e w' ⟨rfl, rfl⟩)
          go_round
          case rel => exact ⟨z, by omega, by omega, by go_num, H2⟩
          case measure => simp [intOf]
end Go.Proofs.YtmoeokfjfnegmaaDoor
