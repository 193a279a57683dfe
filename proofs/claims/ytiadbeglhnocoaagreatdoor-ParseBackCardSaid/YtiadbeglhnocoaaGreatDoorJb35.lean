/-
  Parse.
-/
import Derived.Test.YtiadbeglhnocoaaGreatDoorJb33
import Derived.Test.YtiadbeglhnocoaaGreatDoorJb34
namespace Go.Proofs.YtiadbeglhnocoaaGreatDoor
set_option linter.unusedVariables false
set_option linter.unusedSimpArgs false
open Go.RowKit

theorem tkC_at (l : List Tk) (i : Nat) (p : Tk) (hp : l[i]? = some p) : ∀ j, j < 4 → (l.flatMap tkC)[i * 4 + j]? = (tkC p)[j]? := by
  induction l generalizing i with
  | nil => simp at hp
  | cons x r ih =>
    intro j hj
    cases i with
    | zero =>
      simp at hp
      subst hp
      rw [List.flatMap_cons, Nat.zero_mul, Nat.zero_add, List.getElem?_append_left (by unfold tkC; simpa using hj)]
    | succ i =>
      rw [List.flatMap_cons, List.getElem?_append_right (by unfold tkC; simp; omega)]
      have := ih i (by simpa using hp) j hj
      rw [← this]
      congr 1
      unfold tkC
      simp
      omega
/-- Words in a row of one's own, for a parser behind it. -/
theorem own_words {w : World} {base g t cap : Nat} {ts : List Tk} (h : w.ownsRow base 56 4 (.slice (some ⟨t, 0, none⟩) ts.length cap) ts.length (ts.flatMap tkC)) (hg : t < g) : RdT w g (some ⟨t, 0, none⟩) ts := fun _ => by
  refine ⟨t, 0, rfl, hg, fun i x hx => ?_⟩
  have hi : i < ts.length := (List.getElem?_eq_some_iff.mp hx).1
  have e := tkC_at ts i x hx
  rw [Nat.zero_add]
  refine ⟨?_, ?_, ?_, ?_⟩
  · have h1 := h.cellAt (i * 4) (by omega)
    have h2 := e 0 (by omega)
    rw [Nat.add_zero] at h2
    rw [h1, h2]; rfl
  · rw [h.cellAt (i * 4 + 1) (by omega), e 1 (by omega)]; rfl
  · rw [h.cellAt (i * 4 + 2) (by omega), e 2 (by omega)]; rfl
  · rw [h.cellAt (i * 4 + 3) (by omega), e 3 (by omega)]; rfl
/-- The words of a text, as the parser begins. -/
def begin0 (s : ByteArray) (R : List Tk) : PS := ⟨R ++ [endT s.size], 0, 0, 0, 0⟩
/-- What Parse comes to. -/
def ParP (w : World) (l : List Fu) (fk fa : Int) (e : Ending) (w' : World) : Prop := ∃ A c, e = .returned (.tuple #[.agg #[.slice A l.length c], .agg #[.int .i64 fk, .int .i64 fa]]) ∧ RdFs w' (From w.heap.size w') A l ∧ Below w.heap.size w w'
theorem cells2 {w : World} {b : Nat} {v0 v1 : Value} {T : TypeId} (h : w.heap[b]? = some (.cells #[v0, v1] T (0, 0))) : w.cell? ⟨b, 0, none⟩ = some v0 ∧ w.cell? ⟨b, 1, none⟩ = some v1 ∧ ∀ j, w.frozen? ⟨b, j, none⟩ = false :=
  ⟨Lib.cell_of_heap h 0, Lib.cell_of_heap h 1, fun j => Lib.frozen_of_heap h j⟩
set_option maxRecDepth 100000 in
set_option maxHeartbeats 8000000 in
theorem parse_bad (s : ByteArray) (w : World) (hs : s.size ≤ 1048576) (hr : Rng w) (R : List Tk) (p : Nat) (hL : lexS s.data.toList = (R, some p)) :
    Calls Tryz.prog 4 #[.string s] w (ParP w [] 1 p) := by
  obtain ⟨W, hW, hbW, hzW, hbT, hbF⟩ := two_al w #[.slice none 0 0] #[.int .i64 0, .int .i64 0] 24 26
  have hX := lex_bad s W hs (hr.up hbW) R p (Lib.hid hL)
  have HbW := Lib.hid hbW
  have HbT := Lib.hid hbT
  have HbF := Lib.hid hbF
  rw [hW] at hX
  have HW := Lib.hid hW
  clear hL hr hbW hbT hbF hW
  go_enter Tryz.func4, Tryz.ntmps4
  go_upto_region 2 with (go_at_call 9; refine hX.mono ?_; rintro e w2 ⟨rfl, hb⟩; rw [← HW.out] at hb; have Hb2 := Lib.hid hb; have ht2 := (hb.block w.heap.size (by omega)).trans HbT.out; have hf2 := (hb.block (w.heap.size + 1) (by omega)).trans HbF.out; have Ht2 := Lib.hid ht2; have Hf2 := Lib.hid hf2; have hz2 := heap_lt hf2; clear hb ht2 hf2 hX)
  obtain ⟨w3, hw3, hb3, hz3, hc3⟩ := one_al w2 #[.int .i64 1, .int .i64 p] 26
  rw [← hw3]
  clear hw3 hz3
  obtain ⟨f0, f1, ff⟩ := cells2 hc3
  have ht3 := (hb3.block w.heap.size (by omega)).trans Ht2.out
  have hf3 := (hb3.block (w.heap.size + 1) (by omega)).trans Hf2.out
  have t0 := Lib.cell_of_heap ht3 0
  have tf := fun j => Lib.frozen_of_heap ht3 j
  obtain ⟨r0, r1, rf⟩ := cells2 hf3
  have hz3 := heap_lt hf3
  have Hb3 := Lib.hid ((HbW.out.trans (Hb2.out.mono (by omega))).trans (hb3.mono (by omega)))
  clear hb3 hc3 ht3 hf3
  have hzt : w.heap.size < w3.heap.size := by omega
  go_upto_region 3 with fail
  go_region
  go_wp2
  refine bodyPost_ret (v := .tuple #[.agg #[.slice none 0 0], .agg #[.int .i64 1, .int .i64 p]]) (by simp [results, Tryz.results4, go_sem, t0, r0, r1, hz3, hzt]) rfl ?_
  have hbe : Below w.heap.size w3 (((w3.setCell ⟨w.heap.size, 0, none⟩ (.slice none 0 0)).setCell ⟨w.heap.size + 1, 0, none⟩ (.int .i64 1)).setCell ⟨w.heap.size + 1, 1, none⟩ (.int .i64 p)).drew := (((((Below.refl _ _).setCell (by simp) _).setCell (by simp) _).setCell (by simp) _)).drew
  exact ⟨none, 0, rfl, fun h => by simp at h, Hb3.out.trans hbe⟩
set_option maxRecDepth 100000 in
set_option maxHeartbeats 8000000 in
theorem parse_fault (s : ByteArray) (w : World) (hs : s.size ≤ 1048576) (hr : Rng w) (R : List Tk) (hL : lexS s.data.toList = (R, none)) (k : Nat) (l : List Fu) (s' : PS) (hk : k ≤ 33554432) (hp : progK k [] (begin0 s R) = some (l, s')) (hfk : (s'.fk != 0) = true) :
    Calls Tryz.prog 4 #[.string s] w (ParP w [] s'.fk s'.fa) := by
  obtain ⟨W, hW, hbW, hzW, hbT, hbF⟩ := two_al w #[.slice none 0 0] #[.int .i64 0, .int .i64 0] 24 26
  have hX := lex_good s W hs (hr.up hbW) R (Lib.hid hL)
  have hok : Ok k (begin0 s R) := by unfold Ok begin0; simp; omega
  have hG := fun g w' (h : PAt w' g (begin0 s R)) => program_any k g (begin0 s R) (l, s') w' hp hok h
  have HbW := Lib.hid hbW
  have HbT := Lib.hid hbT
  have HbF := Lib.hid hbF
  rw [hW] at hX
  have HW := Lib.hid hW
  clear hL hr hbW hbT hbF hW hok hp
  go_enter Tryz.func4, Tryz.ntmps4
  go_upto_region 2 with (go_at_call 9; refine hX.mono ?_; rintro e w2 ⟨tb, cap, rfl, ho, hb⟩; rw [← HW.out] at ho hb; have Ho := ho; have Hb2 := Lib.hid hb; have ht2 := (hb.block w.heap.size (by omega)).trans HbT.out; have hf2 := (hb.block (w.heap.size + 1) (by omega)).trans HbF.out; have Ht2 := Lib.hid ht2; have Hf2 := Lib.hid hf2; have hz2 := heap_lt hf2; clear hb ht2 hf2 hX ho)
  obtain ⟨w3, hw3, hb3, hz3, hc3⟩ := one_al w2 #[.int .i64 0, .int .i64 0] 26
  rw [← hw3]
  clear hw3
  obtain ⟨f0, f1, ff⟩ := cells2 hc3
  have Hb3 := Lib.hid ((HbW.out.trans (Hb2.out.mono (by omega))).trans (hb3.mono (by omega)))
  have Hz3 := Lib.hid hz3
  clear hz3
  go_upto_region 4 with fail
  go_upto_region 5 with fail
  have hz3 := Hz3.out
  obtain ⟨w4, hw4, hb4, hz4, hc4⟩ := one_al w3 #[.slice (some ⟨tb, 0, none⟩) (R.length + 1) cap, .int .i64 0, .int .i64 0, .int .i64 0, .int .i64 0] 38
  rw [← hw4]
  have hbb := hb3.trans (hb4.mono (by omega))
  have ho4 : w4.ownsRow (W.heap.size + 1) 56 4 (.slice (some ⟨tb, 0, none⟩) (R.length + 1) cap) (R.length + 1) ((R ++ [endT s.size]).flatMap tkC) := Ho.out.kept (row := none) ⟨hbb.os, hbb.tape, hbb.output, hbb.size, fun i hi _ => hbb.block i hi⟩ (by simp [Value.ownBlock])
  have htl := Ho.out.lt tb rfl
  have hP4 : PAt w4 w3.heap.size (begin0 s R) := by
    have hlen : (R ++ [endT s.size]).length = R.length + 1 := by simp
    have hcap : R.length + 1 ≤ cap ∧ cap ≤ maxLen := by
      rcases ho4.2 with ⟨hv, _⟩ | ⟨b, c, cur, hv, _, _, hnc, hcm, _⟩
      · cases hv
      · injection hv with e1 e2 e3
        rw [e3]
        exact ⟨hnc, hcm⟩
    refine ⟨some ⟨tb, 0, none⟩, cap, ?_, by unfold begin0; simpa using hcap.1, hcap.2, ?_⟩
    · unfold begin0
      simp only [hlen]
      exact hc4
    · have := own_words (ts := R ++ [endT s.size]) (g := w3.heap.size) (by rw [hlen]; exact ho4) (by omega)
      exact this
  have hG4 := hG w3.heap.size w4 hP4
  have ht4 := (hb4.block w.heap.size (by omega)).trans ((hb3.block w.heap.size (by omega)).trans Ht2.out)
  have hf4 := (hb4.block (w.heap.size + 1) (by omega)).trans ((hb3.block (w.heap.size + 1) (by omega)).trans Hf2.out)
  have Ht4 := Lib.hid ht4
  have Hf4 := Lib.hid hf4
  have Hb4 := Lib.hid (Hb3.out.trans (hb4.mono (by omega)))
  have hz43 : w3.heap.size < w4.heap.size := by omega
  have hz42 : w.heap.size + 1 < w3.heap.size := by omega
  clear hw4 hb3 hb4 hz3 hz4 hc3 hc4 hbb ho4 htl Ho f0 f1 ff hG hP4 hzW hz2 ht4 hf4 Hb2 HbW HbT HbF Ht2 Hf2 HW
  go_upto_region 6 with (go_at_call 10; refine hG4.mono ?_; rintro e w5 ⟨A, c, rfl, hrd, hp5, hb5⟩; simp only at hrd hp5; have Hrd := Lib.hid hrd; have Hp5 := Lib.hid hp5; have Hb5 := Lib.hid (But.of_below (g := w3.heap.size) Hb4.out |>.trans (hb5)); have Ht5 := Lib.hid ((hb5.block w.heap.size (by omega) (by omega)).trans Ht4.out); have Hf5 := Lib.hid ((hb5.block (w.heap.size + 1) (by omega) (by omega)).trans Hf4.out); have hz5 : w3.heap.size < w5.heap.size := (by have := hb5.size; omega); have h45 := hb5.size; clear hrd hp5 hb5 hG4)
  obtain ⟨w6, hw6, hb6, hz6, hc6⟩ := one_al w5 #[.slice A l.length c] 24
  rw [← hw6]
  clear hw6
  have ht6 := (hb6.block w.heap.size (by omega)).trans Ht5.out
  have hf6 := (hb6.block (w.heap.size + 1) (by omega)).trans Hf5.out
  have t0 := Lib.cell_of_heap ht6 0
  have tf := fun j => Lib.frozen_of_heap ht6 j
  obtain ⟨r0, r1, rf⟩ := cells2 hf6
  have k0 := Lib.cell_of_heap hc6 0
  obtain ⟨_, _, _, p1, p2, _, _, _, _⟩ := (Hp5.out.keep hb6).five
  have hz7 := heap_lt hf6
  have hzt : w.heap.size < w6.heap.size := by omega
  have hb56 : Below w.heap.size w w6 := ⟨hb6.os.trans Hb5.out.os, hb6.tape.trans Hb5.out.tape, hb6.output.trans Hb5.out.output, Nat.le_trans Hb5.out.size hb6.size, fun i hi => (hb6.block i (by have := Hb5.out.size; omega)).trans (Hb5.out.block i hi (by omega))⟩
  have Hb6 := Lib.hid hb56
  have Hrd6 := Lib.hid (RdFs.more (S' := From (w.heap.size + 2) w6) (fun b hS => ⟨by have := hS.1; omega, Nat.lt_of_lt_of_le hS.2 hb6.size⟩) (RdFs.keep (w' := w6) (fun q hq => hb6.cell hq.2) Hrd.out))
  clear hb6 hz6 hc6 ht6 hf6 hb56 Hrd Hb5 Ht5 Hf5 Hp5
  go_upto_region 7 with fail
  go_region
  go_wp2
  refine bodyPost_ret (v := .tuple #[.agg #[.slice none 0 0], .agg #[.int .i64 s'.fk, .int .i64 s'.fa]]) (by simp [results, Tryz.results4, go_sem, t0, r0, r1, hz7, hzt]) rfl ?_
  have hbe : Below w.heap.size w6 (((w6.setCell ⟨w.heap.size, 0, none⟩ (.slice none 0 0)).setCell ⟨w.heap.size + 1, 0, none⟩ (.int .i64 s'.fk)).setCell ⟨w.heap.size + 1, 1, none⟩ (.int .i64 s'.fa)).drew := (((((Below.refl _ _).setCell (by simp) _).setCell (by simp) _).setCell (by simp) _)).drew
  exact ⟨none, 0, rfl, fun h => by simp at h, Hb6.out.trans hbe⟩
set_option maxRecDepth 100000 in
set_option maxHeartbeats 8000000 in
theorem parse_good (s : ByteArray) (w : World) (hs : s.size ≤ 1048576) (hr : Rng w) (R : List Tk) (hL : lexS s.data.toList = (R, none)) (k : Nat) (l : List Fu) (s' : PS) (hk : k ≤ 33554432) (hp : progK k [] (begin0 s R) = some (l, s')) (hfk : (s'.fk != 0) = false) :
    Calls Tryz.prog 4 #[.string s] w (ParP w l 0 0) := by
  obtain ⟨W, hW, hbW, hzW, hbT, hbF⟩ := two_al w #[.slice none 0 0] #[.int .i64 0, .int .i64 0] 24 26
  have hX := lex_good s W hs (hr.up hbW) R (Lib.hid hL)
  have hok : Ok k (begin0 s R) := by unfold Ok begin0; simp; omega
  have hG := fun g w' (h : PAt w' g (begin0 s R)) => program_any k g (begin0 s R) (l, s') w' hp hok h
  have HbW := Lib.hid hbW
  have HbT := Lib.hid hbT
  have HbF := Lib.hid hbF
  rw [hW] at hX
  have HW := Lib.hid hW
  clear hL hr hbW hbT hbF hW hok hp
  go_enter Tryz.func4, Tryz.ntmps4
  go_upto_region 2 with (go_at_call 9; refine hX.mono ?_; rintro e w2 ⟨tb, cap, rfl, ho, hb⟩; rw [← HW.out] at ho hb; have Ho := ho; have Hb2 := Lib.hid hb; have ht2 := (hb.block w.heap.size (by omega)).trans HbT.out; have hf2 := (hb.block (w.heap.size + 1) (by omega)).trans HbF.out; have Ht2 := Lib.hid ht2; have Hf2 := Lib.hid hf2; have hz2 := heap_lt hf2; clear hb ht2 hf2 hX ho)
  obtain ⟨w3, hw3, hb3, hz3, hc3⟩ := one_al w2 #[.int .i64 0, .int .i64 0] 26
  rw [← hw3]
  clear hw3
  obtain ⟨f0, f1, ff⟩ := cells2 hc3
  have Hb3 := Lib.hid ((HbW.out.trans (Hb2.out.mono (by omega))).trans (hb3.mono (by omega)))
  have Hz3 := Lib.hid hz3
  clear hz3
  go_upto_region 4 with fail
  go_upto_region 5 with fail
  have hz3 := Hz3.out
  obtain ⟨w4, hw4, hb4, hz4, hc4⟩ := one_al w3 #[.slice (some ⟨tb, 0, none⟩) (R.length + 1) cap, .int .i64 0, .int .i64 0, .int .i64 0, .int .i64 0] 38
  rw [← hw4]
  have hbb := hb3.trans (hb4.mono (by omega))
  have ho4 : w4.ownsRow (W.heap.size + 1) 56 4 (.slice (some ⟨tb, 0, none⟩) (R.length + 1) cap) (R.length + 1) ((R ++ [endT s.size]).flatMap tkC) := Ho.out.kept (row := none) ⟨hbb.os, hbb.tape, hbb.output, hbb.size, fun i hi _ => hbb.block i hi⟩ (by simp [Value.ownBlock])
  have htl := Ho.out.lt tb rfl
  have hP4 : PAt w4 w3.heap.size (begin0 s R) := by
    have hlen : (R ++ [endT s.size]).length = R.length + 1 := by simp
    have hcap : R.length + 1 ≤ cap ∧ cap ≤ maxLen := by
      rcases ho4.2 with ⟨hv, _⟩ | ⟨b, c, cur, hv, _, _, hnc, hcm, _⟩
      · cases hv
      · injection hv with e1 e2 e3
        rw [e3]
        exact ⟨hnc, hcm⟩
    refine ⟨some ⟨tb, 0, none⟩, cap, ?_, by unfold begin0; simpa using hcap.1, hcap.2, ?_⟩
    · unfold begin0
      simp only [hlen]
      exact hc4
    · have := own_words (ts := R ++ [endT s.size]) (g := w3.heap.size) (by rw [hlen]; exact ho4) (by omega)
      exact this
  have hG4 := hG w3.heap.size w4 hP4
  have ht4 := (hb4.block w.heap.size (by omega)).trans ((hb3.block w.heap.size (by omega)).trans Ht2.out)
  have hf4 := (hb4.block (w.heap.size + 1) (by omega)).trans ((hb3.block (w.heap.size + 1) (by omega)).trans Hf2.out)
  have Ht4 := Lib.hid ht4
  have Hf4 := Lib.hid hf4
  have Hb4 := Lib.hid (Hb3.out.trans (hb4.mono (by omega)))
  have hz43 : w3.heap.size < w4.heap.size := by omega
  have hz42 : w.heap.size + 1 < w3.heap.size := by omega
  clear hw4 hb3 hb4 hz3 hz4 hc3 hc4 hbb ho4 htl Ho f0 f1 ff hG hP4 hzW hz2 ht4 hf4 Hb2 HbW HbT HbF Ht2 Hf2 HW
  go_upto_region 6 with (go_at_call 10; refine hG4.mono ?_; rintro e w5 ⟨A, c, rfl, hrd, hp5, hb5⟩; simp only at hrd hp5; have Hrd := Lib.hid hrd; have Hp5 := Lib.hid hp5; have Hb5 := Lib.hid (But.of_below (g := w3.heap.size) Hb4.out |>.trans (hb5)); have Ht5 := Lib.hid ((hb5.block w.heap.size (by omega) (by omega)).trans Ht4.out); have Hf5 := Lib.hid ((hb5.block (w.heap.size + 1) (by omega) (by omega)).trans Hf4.out); have hz5 : w3.heap.size < w5.heap.size := (by have := hb5.size; omega); have h45 := hb5.size; clear hrd hp5 hb5 hG4)
  obtain ⟨w6, hw6, hb6, hz6, hc6⟩ := one_al w5 #[.slice A l.length c] 24
  rw [← hw6]
  clear hw6
  have ht6 := (hb6.block w.heap.size (by omega)).trans Ht5.out
  have hf6 := (hb6.block (w.heap.size + 1) (by omega)).trans Hf5.out
  have t0 := Lib.cell_of_heap ht6 0
  have tf := fun j => Lib.frozen_of_heap ht6 j
  obtain ⟨r0, r1, rf⟩ := cells2 hf6
  have k0 := Lib.cell_of_heap hc6 0
  obtain ⟨_, _, _, p1, p2, _, _, _, _⟩ := (Hp5.out.keep hb6).five
  have hz7 := heap_lt hf6
  have hzt : w.heap.size < w6.heap.size := by omega
  have hb56 : Below w.heap.size w w6 := ⟨hb6.os.trans Hb5.out.os, hb6.tape.trans Hb5.out.tape, hb6.output.trans Hb5.out.output, Nat.le_trans Hb5.out.size hb6.size, fun i hi => (hb6.block i (by have := Hb5.out.size; omega)).trans (Hb5.out.block i hi (by omega))⟩
  have Hb6 := Lib.hid hb56
  have Hrd6 := Lib.hid (RdFs.more (S' := From (w.heap.size + 2) w6) (fun b hS => ⟨by have := hS.1; omega, Nat.lt_of_lt_of_le hS.2 hb6.size⟩) (RdFs.keep (w' := w6) (fun q hq => hb6.cell hq.2) Hrd.out))
  clear hb6 hz6 hc6 ht6 hf6 hb56 Hrd Hb5 Ht5 Hf5 Hp5
  go_upto_region 8 with fail
  go_wp2
  refine bodyPost_ret (v := .tuple #[.agg #[.slice A l.length c], .agg #[.int .i64 0, .int .i64 0]]) (by simp [results, Tryz.results4, go_sem, t0, r0, r1, hz7, hzt]) rfl ?_
  have hbe : Below w.heap.size w6 (((w6.setCell ⟨w.heap.size, 0, none⟩ (.slice A l.length c)).setCell ⟨w.heap.size + 1, 0, none⟩ (.int .i64 0)).setCell ⟨w.heap.size + 1, 1, none⟩ (.int .i64 0)) := ((((Below.refl _ _).setCell (by simp) _).setCell (by simp) _).setCell (by simp) _)
  refine ⟨A, c, rfl, RdFs.more (fun b hS => ⟨by have := hS.1; omega, Nat.lt_of_lt_of_le hS.2 hbe.size⟩) (RdFs.keep (fun q hq => World.cell?_of_block ?_) Hrd6.out), Hb6.out.trans hbe⟩
  have h1 := hq.1
  exact (Below.heap_setCell _ _ _ _ (by simp; omega)).trans ((Below.heap_setCell _ _ _ _ (by simp; omega)).trans (Below.heap_setCell _ _ _ _ (by simp; omega)))
end Go.Proofs.YtiadbeglhnocoaaGreatDoor
