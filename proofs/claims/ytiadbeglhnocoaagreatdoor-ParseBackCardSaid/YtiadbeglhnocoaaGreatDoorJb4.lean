/-
  lex's name and number.
-/
import Derived.Test.YtiadbeglhnocoaaGreatDoorJb2
import Derived.Test.YtiadbeglhnocoaaGreatDoorJb3
namespace Go.Proofs.YtiadbeglhnocoaaGreatDoor
set_option linter.unusedVariables false
set_option linter.unusedSimpArgs false
open Go.RowKit

/-- The variable strconv.ErrRange holds some error. -/
def Rng (w : World) : Prop := ∃ tp p, w.cell? ⟨2, 0, none⟩ = some (.iface tp p)
theorem Rng.below {w w' : World} {B : Nat} (h : Rng w) (hb : Below B w w') (hB : 2 < B) : Rng w' := by
  obtain ⟨tp, p, hc⟩ := h
  exact ⟨tp, p, (hb.cell (p := ⟨2, 0, none⟩) hB).trans hc⟩
theorem Rng.two {w : World} (h : Rng w) : 2 < w.heap.size := by
  obtain ⟨tp, p, hc⟩ := h
  exact Lib.lt_of_cell hc
theorem Rng.up {w w' : World} (h : Rng w) (hb : Below w.heap.size w w') : Rng w' := h.below hb h.two

/-- Behind a call that makes memory: what was there reads as it did. -/
theorem bcell {W w1 : World} (hb : Below W.heap.size W w1) : (∀ b o, b < W.heap.size → w1.cell? ⟨b, o, none⟩ = W.cell? ⟨b, o, none⟩) ∧ (∀ b o, b < W.heap.size → w1.frozen? ⟨b, o, none⟩ = W.frozen? ⟨b, o, none⟩) :=
  ⟨fun b o h => hb.cell (p := ⟨b, o, none⟩) h, fun b o h => hb.frozen (p := ⟨b, o, none⟩) h⟩

theorem kept_cut (s : ByteArray) (k z : Nat) (b : Bool) (h : Hid (keptB ((s.data.toList.drop k).take z) = b)) (w : World) : Calls Tryz.prog 54 #[.string (s.extract k (k + z))] w fun e w' => e = .returned (.bool b) ∧ w = w' :=
  (kept_any _ w).mono fun _ _ ⟨he, hw⟩ => ⟨by rw [he, extract_drop]; exact ret_bool h.out, hw⟩

set_option maxHeartbeats 1000000 in
theorem name_any (s : ByteArray) (k : Nat) (w : World) (hs : s.size ≤ maxLen) (hk : k ≤ s.size) :
    Calls Tryz.prog 34 #[.string s, .int .i64 k] w fun e w' => e = .returned (tkV (nameT k (s.data.toList.drop k))) ∧ Below w.heap.size w w' := by
  have hs' := hs
  unfold maxLen at hs
  obtain ⟨V, hV⟩ : ∃ V, V = Ending.returned (tkV (nameT k (s.data.toList.drop k))) := ⟨_, rfl⟩
  rw [← hV]
  obtain ⟨N, hN⟩ : ∃ N, N = pastN nameB (s.data.toList.drop k) := ⟨_, rfl⟩
  have hle : k + N ≤ s.size := by have := pastN_le nameB (s.data.toList.drop k); rw [len_drop] at this; omega
  have HP : ∀ w : World, Calls Tryz.prog 31 #[.string s, .int .i64 k, .func (.func 53) #[] #[]] w fun e w' => e = .returned (.int .i64 (k + N : Nat)) ∧ w = w' := fun w => by rw [hN]; exact past_name s k w hs' hk
  unfold nameT at hV
  rw [← hN] at hV
  clear hN
  by_cases hq : keptB ((s.data.toList.drop k).take N) = true
  · rw [if_pos hq] at hV
    replace hV := Lib.hid hV
    replace hq := Lib.hid hq
    go_enter Tryz.func34, Tryz.ntmps34
    go_wp2_with (first | (go_at_call 31; refine (HP _).mono ?_; rintro e w' ⟨rfl, rfl⟩) | (go_at_call 54; refine (kept_cut _ _ _ _ hq _).mono ?_; rintro e w' ⟨rfl, rfl⟩))
    refine bodyPost_ret (v := .agg #[.int .i64 3, .int .i64 k, .int .i64 0, .string (s.extract k (k + N))]) (by simp [results, Tryz.results34, go_sem]) rfl ⟨?_, ?_⟩
    · rw [hV.out, extract_drop]; rfl
    · exact ((Below.refl _ _).alloc (Nat.le_refl _) _).alloc (by simp) _
  · have hq : keptB ((s.data.toList.drop k).take N) = false := by simpa using hq
    rw [if_neg (by simp [hq])] at hV
    replace hV := Lib.hid hV
    replace hq := Lib.hid hq
    go_enter Tryz.func34, Tryz.ntmps34
    go_wp2_with (first | (go_at_call 31; refine (HP _).mono ?_; rintro e w' ⟨rfl, rfl⟩) | (go_at_call 54; refine (kept_cut _ _ _ _ hq _).mono ?_; rintro e w' ⟨rfl, rfl⟩))
    refine bodyPost_ret (v := .agg #[.int .i64 1, .int .i64 k, .int .i64 0, .string (s.extract k (k + N))]) (by simp [results, Tryz.results34, go_sem]) rfl ⟨?_, ?_⟩
    · rw [hV.out, extract_drop]; rfl
    · exact ((Below.refl _ _).alloc (Nat.le_refl _) _).alloc (by simp) _

theorem past_all (p : Int → Bool) (l : List UInt8) : ∀ c ∈ l.take (pastN p l), p (c.toNat : Int) = true := by
  induction l with
  | nil => simp
  | cons a r ih =>
    unfold pastN
    split
    · rename_i h
      intro c hc
      rw [List.take_succ_cons] at hc
      rcases List.mem_cons.mp hc with rfl | hc
      · exact h
      · exact ih c hc
    · simp
theorem parseM_digits (M : Nat) (l : List UInt8) (acc : Nat) (h : ∀ c ∈ l, digitB (c.toNat : Int) = true) : Lib.parseUintM M acc l = .range ∨ ∃ u, Lib.parseUintM M acc l = .ok u := by
  induction l generalizing acc with
  | nil => exact .inr ⟨acc, rfl⟩
  | cons a r ih =>
    have ha := h a (by simp)
    have ha2 : 48 ≤ (a.toNat : Int) ∧ (a.toNat : Int) ≤ 57 := by simpa [digitB] using ha
    have ha' : 48 ≤ a.toNat ∧ a.toNat ≤ 57 := by omega
    rw [Lib.parseUintM, if_pos ha']
    split
    · exact .inl rfl
    · split
      · exact .inl rfl
      · exact ih _ (fun c hc => h c (by simp [hc]))

theorem parse_ok (s : ByteArray) (k n : Nat) (u : Nat) (hs : s.size ≤ 9223372036854775806) (h : Hid (Lib.parseUintB 64 ((s.data.toList.drop k).take n) = .ok u)) (w : World) :
    Calls Tryz.prog 55 #[.string (s.extract k (k + n)), .int .i64 10, .int .i64 64] w fun e w' => e = .returned (.tuple #[.int .u64 u, .nilIface]) ∧ Below w.heap.size w w' :=
  (Any.strconv_ParseUint_10_at64_ok laysPu14 (s.extract k (k + n)) (by rw [ByteArray.size_extract]; omega) u (by rw [extract_drop]; exact h.out) w).mono fun _ _ ⟨he, hw⟩ => ⟨he, by
    rcases hw with rfl | rfl
    · exact Below.refl _ _
    · exact Lib.bytesWorld_below _ _ _⟩
theorem parse_range (s : ByteArray) (k n : Nat) (hs : s.size ≤ 281474976710656) (h : Hid (Lib.parseUintB 64 ((s.data.toList.drop k).take n) = .range)) (w : World) (hr : Rng w) :
    Calls Tryz.prog 55 #[.string (s.extract k (k + n)), .int .i64 10, .int .i64 64] w fun e w' => ∃ (m : Int) (N : Nat), e = .returned (.tuple #[.int .u64 m, .iface 119 (.pointer (some ⟨N, 0, none⟩))]) ∧ Below w.heap.size w w' := by
  obtain ⟨tp, p, hc⟩ := hr
  exact (Any.strconv_ParseUint_10_at64_range laysPu14 (s.extract k (k + n)) (by rw [ByteArray.size_extract]; omega) (by rw [extract_drop]; exact h.out) _ w hc (.inr ⟨tp, p, rfl⟩)).mono fun _ _ ⟨N, he, _, _, hw⟩ => ⟨_, N, he, hw⟩

set_option maxHeartbeats 1000000 in
theorem number_any (s : ByteArray) (k : Nat) (w : World) (hs : s.size ≤ 281474976710656) (hk : k < s.size) (hd : digitB s[k].toNat = true) (hr : Rng w) :
    Calls Tryz.prog 36 #[.string s, .int .i64 k] w fun e w' => e = .returned (.tuple #[tkV (tkO (numT k (s.data.toList.drop k))), .bool (numT k (s.data.toList.drop k)).isSome]) ∧ Below w.heap.size w w' := by
  have hs' := hs
  obtain ⟨V, hV⟩ : ∃ V, V = Ending.returned (.tuple #[tkV (tkO (numT k (s.data.toList.drop k))), .bool (numT k (s.data.toList.drop k)).isSome]) := ⟨_, rfl⟩
  rw [← hV]
  obtain ⟨N, hN⟩ : ∃ N, N = pastN digitB (s.data.toList.drop k) := ⟨_, rfl⟩
  have hle : k + N ≤ s.size := by have := pastN_le digitB (s.data.toList.drop k); rw [len_drop] at this; omega
  have HP : ∀ w : World, Calls Tryz.prog 31 #[.string s, .int .i64 k, .func (.func 35) #[] #[]] w fun e w' => e = .returned (.int .i64 (k + N : Nat)) ∧ w = w' := fun w => by rw [hN]; exact past_digit s k w (by unfold maxLen; omega) (by omega)
  have hall := past_all digitB (s.data.toList.drop k)
  have hne : (s.data.toList.drop k).take N ≠ [] := by
    rw [hN, drop_at s k hk, pastN, if_pos hd]; simp
  unfold numT at hV
  rw [← hN] at hV hall
  clear hN
  rcases hp : Lib.parseUintB 64 ((s.data.toList.drop k).take N) with u | _ | _
  · rw [hp] at hV
    replace hV := Lib.hid hV
    replace hp := Lib.hid hp
    clear hall hne hd
    go_enter Tryz.func36, Tryz.ntmps36
    go_wp2_with (first | (go_at_call 31; refine (HP _).mono ?_; rintro e w' ⟨rfl, rfl⟩) | (go_at_call 55; refine (parse_ok s k N u (by omega) hp _).mono ?_; rintro e w1 ⟨rfl, hb1⟩; obtain ⟨hc1, hf1⟩ := bcell hb1; have hz1 := hb1.size))
    have hz2 : w.heap.size < w1.heap.size := by simp at hz1; omega
    refine bodyPost_ret (v := .tuple #[.agg #[.int .i64 2, .int .i64 k, .int .i64 (wrap64 u), .string (s.extract k (k + N))], .bool true]) (by simp [results, Tryz.results36, go_sem, hc1]) rfl ⟨?_, ?_⟩
    · rw [hV.out, extract_drop]; rfl
    · exact ((((((Below.refl _ _).alloc (Nat.le_refl _) _).trans (hb1.mono (by simp))).setCell (Nat.le_refl _) _).setCell (Nat.le_refl _) _).setCell (Nat.le_refl _) _).setCell (Nat.le_refl _) _
  · exfalso
    unfold Lib.parseUintB at hp
    rw [if_neg hne] at hp
    rcases parseM_digits (2 ^ 64 - 1) _ 0 hall with h | ⟨u, h⟩
    · rw [hp] at h; cases h
    · rw [hp] at h; cases h
  · rw [hp] at hV
    replace hV := Lib.hid hV
    replace hp := Lib.hid hp
    clear hall hne hd
    have hr1 : Rng (w.alloc (.cells #[.int .i64 0, .int .i64 0, .int .i64 0, .string ⟨#[]⟩] 56)) := hr.up ((Below.refl _ _).alloc (Nat.le_refl _) _)
    go_enter Tryz.func36, Tryz.ntmps36
    go_wp2_with (first | (go_at_call 31; refine (HP _).mono ?_; rintro e w' ⟨rfl, rfl⟩) | (go_at_call 55; refine (parse_range s k N hs' hp _ hr1).mono ?_; rintro e w1 ⟨m, M, rfl, hb1⟩; obtain ⟨hc1, hf1⟩ := bcell hb1; have hz1 := hb1.size))
    have hz2 : w.heap.size < w1.heap.size := by simp at hz1; omega
    refine bodyPost_ret (v := .tuple #[.agg #[.int .i64 0, .int .i64 0, .int .i64 0, .string ⟨#[]⟩], .bool false]) (by simp [results, Tryz.results36, go_sem, hc1]) rfl ⟨?_, ?_⟩
    · rw [hV.out]; rfl
    · exact ((((((Below.refl _ _).alloc (Nat.le_refl _) _).trans (hb1.mono (by simp))).setCell (Nat.le_refl _) _).setCell (Nat.le_refl _) _).setCell (Nat.le_refl _) _).setCell (Nat.le_refl _) _
end Go.Proofs.YtiadbeglhnocoaaGreatDoor
