/-
  Blocks on all ways: the reference's Table.
-/
import Derived.Test.YthhjhdmdfneegaaJc26
import Derived.Test.YthhjhdmdfneegaaJc37
import Derived.Test.YthhjhdmdfneegaaJc38
namespace Go.Proofs.Ythhjhdmdfneegaa
set_option linter.unusedVariables false
set_option linter.unusedSimpArgs false
open Go.RowKit Go.Shelf

attribute [local go_sem] Oper.semAt_some

/-- Whether a block stands on all ways to another one, as the reference reckons it. -/
def tabP (g : List GB) (a b : Nat) : Bool := (fromP g 0 (-1)).getD a false && ((fromP g 0 (-1)).getD b false && (decide (a = b) || !(fromP g 0 (a : Int)).getD b false))
theorem makeB (n : Nat) (hn : n ≤ 1048576) (W : World) : (Instr.makeSlice 95 (.int .i64 (n : Int)) (.int .i64 (n : Int))).run Try.prog W = .ok (.slice (some ⟨W.heap.size, 0, none⟩) n n) (W.alloc (.cells (boolsV (List.replicate n false)).toArray 4)) := by
  obtain ⟨i0, hi0, hz0, hz1, hz2⟩ := info_parts infoBoolG
  have h := run_make (w := W) (P := Try.prog) 95 4 i0 (.bool false) Try.underlying95 hi0 hz0 .i64 .i64 (n : Int) (n : Int) (by omega) (by omega) (by rw [hz2]; omega) (by omega)
  rw [h, Int.toNat_natCast, hz1, Nat.mul_one, ← madeBool n, Array.toArray_toList]
  rfl
structure WK (SB : Nat) (row : Option Nat) (w w' : World) : Prop where
  os : w'.os = w.os
  tape : w'.tape = w.tape
  output : w'.output = w.output
  size : w.heap.size ≤ w'.heap.size
  block : ∀ k, k < w.heap.size → k ≠ SB → some k ≠ row → w'.heap[k]? = w.heap[k]?
theorem WK.trans {SB : Nat} {r r' : Option Nat} {a b c : World} (h : WK SB r a b) (k : WK SB r' b c) (hr : ∀ x, r' = some x → r = some x ∨ a.heap.size ≤ x) : WK SB r a c :=
  ⟨k.os.trans h.os, k.tape.trans h.tape, k.output.trans h.output, Nat.le_trans h.size k.size, fun x hx hn hne =>
    (k.block x (Nat.lt_of_lt_of_le hx h.size) hn (fun e => by
      rcases hr x e.symm with e2 | e2
      · exact hne e2.symm
      · omega)).trans (h.block x hx hn hne)⟩
theorem WK.below {SB B : Nat} {r : Option Nat} {w w' : World} (h : WK SB r w w') (hS : B ≤ SB) (hr : ∀ x, r = some x → B ≤ x) (hB : B ≤ w.heap.size) : Below B w w' :=
  ⟨h.os, h.tape, h.output, h.size, fun k hk => h.block k (by omega) (by omega) (fun e => by have := hr k e.symm; omega)⟩
theorem WK.of_below {SB : Nat} {r : Option Nat} {w w' : World} (h : Below w.heap.size w w') : WK SB r w w' := ⟨h.os, h.tape, h.output, h.size, fun k hk _ _ => h.block k hk⟩
theorem WK.of_grown {SB : Nat} {r : Option Nat} {w w' : World} (h : w.grownBy w' r) : WK SB r w w' := ⟨h.os, h.tape, h.output, h.size, fun k hk _ hne => h.block k hk hne⟩
theorem WK.put (SB : Nat) (r : Option Nat) (w : World) (j : Nat) (u : Value) : WK SB r w (w.setCell ⟨SB, j, none⟩ u) := ⟨rfl, rfl, rfl, by simp [World.setCell], fun k _ hn _ => Below.heap_setCell _ _ _ _ hn⟩
theorem fromP_len (g : List GB) (b wo : Int) : (fromP g b wo).length = g.length := by
  unfold fromP
  split
  · simp
  · rw [(iterP_leq g wo _ _).1]; simp
/-- A table of bools, for who reads it. -/
def BT (w : World) (tb : Nat) (ib : Nat → Nat) (n : Nat) (q : Nat → Nat → Bool) : Prop := tb < w.heap.size ∧ ∀ j, j < n → ib j < w.heap.size ∧ w.cell? ⟨tb, j, none⟩ = some (.slice (some ⟨ib j, 0, none⟩) n n) ∧ ∀ k, k < n → w.cell? ⟨ib j, k, none⟩ = some (.bool (q j k))
theorem BT.keep {w w' : World} {tb n : Nat} {ib : Nat → Nat} {q : Nat → Nat → Bool} (h : BT w tb ib n q) (hb : Below w.heap.size w w') : BT w' tb ib n q :=
  ⟨Nat.lt_of_lt_of_le h.1 hb.size, fun j hj => ⟨Nat.lt_of_lt_of_le (h.2 j hj).1 hb.size, (hb.cell (p := ⟨tb, j, none⟩) h.1).trans (h.2 j hj).2.1, fun k hk => (hb.cell (p := ⟨ib j, k, none⟩) (h.2 j hj).1).trans ((h.2 j hj).2.2 k hk)⟩⟩
/-- While it is made: rows so far. -/
def rowsV (ib : Nat → Nat) (n a : Nat) : List Value := (List.range n).map fun j => if j < a then .slice (some ⟨ib j, 0, none⟩) n n else .slice none 0 0
def tabRow (q : Nat → Nat → Bool) (n a k : Nat) : List Bool := (List.range n).map fun b => if b < k then q a b else false
theorem rowsV_zero (ib : Nat → Nat) (n : Nat) : rowsV ib n 0 = List.replicate n (.slice none 0 0) := by
  refine List.ext_getElem (by simp [rowsV]) fun i h1 h2 => by simp [rowsV]
theorem tabRow_zero (q : Nat → Nat → Bool) (n a : Nat) : tabRow q n a 0 = List.replicate n false := by
  refine List.ext_getElem (by simp [tabRow]) fun i h1 h2 => by simp [tabRow]
theorem rowsV_set (ib : Nat → Nat) (n a x : Nat) : (rowsV ib n a).set a (.slice (some ⟨x, 0, none⟩) n n) = rowsV (fun j => if j = a then x else ib j) n (a + 1) := by
  refine List.ext_getElem (by simp [rowsV]) fun i h1 h2 => ?_
  simp only [rowsV, List.getElem_set, List.getElem_map, List.getElem_range]
  by_cases h : a = i
  · subst h; simp
  · rw [if_neg h]
    by_cases h2 : i < a
    · rw [if_pos h2, if_pos (by omega), if_neg (fun e => h e.symm)]
    · rw [if_neg h2, if_neg (by omega)]
theorem tabRow_set (q : Nat → Nat → Bool) (n a k : Nat) : (tabRow q n a k).set k (q a k) = tabRow q n a (k + 1) := by
  refine List.ext_getElem (by simp [tabRow]) fun i h1 h2 => ?_
  simp only [tabRow, List.getElem_set, List.getElem_map, List.getElem_range]
  by_cases h : k = i
  · subst h; simp
  · rw [if_neg h]
    by_cases h2 : i < k
    · rw [if_pos h2, if_pos (by omega)]
    · rw [if_neg h2, if_neg (by omega)]
theorem rowsV_same {ib ib' : Nat → Nat} {n a : Nat} (h : ∀ j, j < a → ib' j = ib j) : rowsV ib' n a = rowsV ib n a := by
  unfold rowsV
  refine List.map_congr_left fun j _ => ?_
  by_cases hj : j < a
  · rw [if_pos hj, if_pos hj, h j hj]
  · rw [if_neg hj, if_neg hj]
/-- The rows that are made. -/
structure TbI (n : Nat) (q : Nat → Nat → Bool) (W : World) (gb a : Nat) (ib : Nat → Nat) (w : World) : Prop where
  bl : Below W.heap.size W w
  gb_ : W.heap.size ≤ gb
  out : w.heap[gb]? = some (.cells (rowsV ib n a).toArray 95 (0, 0))
  row : ∀ j, j < a → ib j ≠ gb ∧ W.heap.size ≤ ib j ∧ w.heap[ib j]? = some (.cells (boolsV (tabRow q n j n)).toArray 4 (0, 0))
theorem infoBoolsG : (Try.prog.info? 95).map (fun i => (i.zero, i.size, i.bytes)) = some (some (.slice none 0 0), 1, 24) := by kernel_rfl
theorem makeBB (n : Nat) (hn : n ≤ 1048576) (W : World) : (Instr.makeSlice 99 (.int .i64 (n : Int)) (.int .i64 (n : Int))).run Try.prog W = .ok (.slice (some ⟨W.heap.size, 0, none⟩) n n) (W.alloc (.cells (rowsV (fun _ => 0) n 0).toArray 95)) := by
  obtain ⟨i0, hi0, hz0, hz1, hz2⟩ := info_parts infoBoolsG
  have h := run_make (w := W) (P := Try.prog) 99 95 i0 (.slice none 0 0) Try.underlying99 hi0 hz0 .i64 .i64 (n : Int) (n : Int) (by omega) (by omega) (by rw [hz2]; omega) (by omega)
  have e : rowsV (fun _ => 0) n 0 = (madeCells #[Value.slice none 0 0] n).toList := by rw [toList_madeCells_one, rowsV_zero]
  rw [h, Int.toNat_natCast, hz1, Nat.mul_one, e, Array.toArray_toList]
  rfl
/-- Behind the first region: who is reached, and a row of no rows yet. -/
def MidT (W : World) (bn : Nat) (al : List Bool) (u4 u5 : Value) (wx : World) : Prop := ∃ (gb : Nat) (fa : Option Addr) (fc : Nat), u5 = .slice (some ⟨gb, 0, none⟩) bn bn ∧ u4 = .slice fa bn fc ∧ wx.ownsRow W.heap.size 4 1 (.slice fa bn fc) bn (boolsV al) ∧ wx.heap[gb]? = some (.cells (rowsV (fun _ => 0) bn 0).toArray 95 (0, 0)) ∧ (Value.slice fa bn fc).ownBlock ≠ some gb ∧ W.heap.size ≤ gb ∧ Below W.heap.size W wx
theorem midT_first {W X w4 : World} {bn fc : Nat} {fa : Option Addr} {al : List Bool} (hX : X = (W.alloc (.cells (rowsV (fun _ => 0) bn 0).toArray 95)).drew) (ho : w4.ownsRow X.heap.size 4 1 (.slice fa bn fc) bn (boolsV al)) (hb : Below X.heap.size X w4) : MidT W bn al (.slice fa bn fc) (.slice (some ⟨W.heap.size, 0, none⟩) bn bn) w4 := by
  subst hX
  have hz : (W.alloc (.cells (rowsV (fun _ => 0) bn 0).toArray 95)).drew.heap.size = W.heap.size + 1 := by simp
  refine ⟨_, fa, fc, rfl, rfl, gr_mono ho (by omega), ?_, fun e => ?_, Nat.le_refl _, ?_⟩
  · exact (hb.block _ (by omega)).trans (heap_alloc_new W _)
  · have := ho.lt _ e; omega
  · exact (((Below.refl _ _).alloc (Nat.le_refl _) _).drew).trans (hb.mono (by omega))
theorem midT_second {W X w4 : World} {bn fc : Nat} {fa : Option Addr} {al : List Bool} (hX : Below W.heap.size W X) (ho : w4.ownsRow X.heap.size 4 1 (.slice fa bn fc) bn (boolsV al)) (hb : Below X.heap.size X w4) : MidT W bn al (.slice fa bn fc) (.slice (some ⟨w4.heap.size, 0, none⟩) bn bn) (w4.alloc (.cells (rowsV (fun _ => 0) bn 0).toArray 95)) := by
  have h3 := hX.size
  have h4 := hb.size
  have hk : Below w4.heap.size w4 (w4.alloc (.cells (rowsV (fun _ => 0) bn 0).toArray 95)) := (Below.refl _ _).alloc (Nat.le_refl _) _
  refine ⟨_, fa, fc, rfl, rfl, gr_up (gr_mono ho h3) hk, heap_alloc_new w4 _, fun e => ?_, by omega, ?_⟩
  · have := ho.lt _ e; omega
  · exact (hX.trans (hb.mono h3)).trans (hk.mono (by omega))
theorem bool_cell {w : World} {b k : Nat} {l : List Bool} {T : TypeId} (h : w.heap[b]? = some (.cells (boolsV l).toArray T (0, 0))) (hk : k < l.length) : w.cell? ⟨b, k, none⟩ = some (.bool (l.getD k false)) := by
  rw [Lib.cell_of_heap h k]
  simp [boolsV, List.getD, hk]

set_option maxRecDepth 100000 in
set_option maxHeartbeats 16000000 in
theorem table_g (n0 : Nat) (f : Value) (g : List GB) (w : World) (hf : GF n0 w f g) (hn : n0 ≤ w.heap.size) (hg : tosOk g) :
    Calls Try.prog 57 #[f] w fun e w' => ∃ tb ib, e = .returned (.slice (some ⟨tb, 0, none⟩) g.length g.length) ∧ BT w' tb ib g.length (tabP g) ∧ Below w.heap.size w w' := by
  obtain ⟨s, pA, pn, pc, r, iA, in_, ic, bA, bn, bc, rfl, hG, hbn⟩ := hf
  obtain ⟨W, hW, hbW, hzW, h0W⟩ := gr_one w #[.string s, .slice pA pn pc, .int .i64 r, .slice iA in_ ic, .slice bA bn bc] 43
  have hlen : bn ≤ 1048576 := by rw [hbn]; obtain ⟨_, _, _, h, _⟩ := hG; exact h
  have hx : ∀ A : World, Below W.heap.size W A → A.cell? ⟨w.heap.size, 0, none⟩ = some (.string s) ∧ A.cell? ⟨w.heap.size, 1, none⟩ = some (.slice pA pn pc) ∧ A.cell? ⟨w.heap.size, 2, none⟩ = some (.int .i64 r) ∧ A.cell? ⟨w.heap.size, 3, none⟩ = some (.slice iA in_ ic) ∧ A.cell? ⟨w.heap.size, 4, none⟩ = some (.slice bA bn bc) := (fun A hA => by obtain ⟨x0, x1, x2, x3, x4, -⟩ := gr_five ((hA.block w.heap.size (by omega)).trans h0W); exact ⟨x0, x1, x2, x3, x4⟩)
  have hF : ∀ (A : World) (wo : Int), Below W.heap.size W A → InG wo → Calls Try.prog 54 #[.agg #[.string s, .slice pA pn pc, .int .i64 r, .slice iA in_ ic, .slice bA bn bc], .int .i64 0, .int .i64 wo] A fun e w' => ∃ v, e = .returned v ∧ w'.ownsRow A.heap.size 4 1 v bn (boolsV (fromP g 0 wo)) ∧ Below A.heap.size A w' := fun A wo hA hwo => by
    have h := from_g n0 (.agg #[.string s, .slice pA pn pc, .int .i64 r, .slice iA in_ ic, .slice bA bn bc]) g 0 wo A ⟨s, pA, pn, pc, r, iA, in_, ic, bA, bn, bc, rfl, hG.keep ((hbW.mono hn).trans (hA.mono (by omega))), hbn⟩ (by have := hA.size; omega) hg (Int.le_refl _) (by unfold InG; omega) hwo
    rw [← hbn] at h
    exact h
  have hal := fromP_len g 0 (-1)
  obtain ⟨al, hale⟩ : ∃ al, al = fromP g 0 (-1) := ⟨_, rfl⟩
  have hF0 := fun (A : World) hA => hF A (-1) hA (by unfold InG; omega)
  rw [← hale] at hF0
  rw [← hale, ← hbn] at hal
  rw [← hbn]
  have Hale := Lib.hid hale
  have Hal := Lib.hid hal
  have Hx := Lib.hid hx
  have HF := Lib.hid hF
  have HbW := Lib.hid hbW
  have HW := Lib.hid hW
  have HzW := Lib.hid hzW
  have Hbn := Lib.hid hbn
  have d1 : Below W.heap.size W W.drew := (Below.refl _ _).drew
  have d2 : Below W.heap.size W (W.alloc (.cells (rowsV (fun _ => 0) bn 0).toArray 95)) := (Below.refl _ _).alloc (Nat.le_refl _) _
  have K1 := hF0 _ d1
  have K3 := hF0 _ d2.drew
  obtain ⟨y0, y1, y2, y3, y4⟩ := hx _ d2
  obtain ⟨x0, x1, x2, x3, x4⟩ := hx _ (Below.refl _ _)
  have hmk := makeBB bn hlen
  clear hG hbW hzW h0W hx hF hal hale hbn hg hn d1 d2 hF0
  go_enter Try.func57, Try.ntmps57
  go_upto_region 1 with fail
  rw [← HW.out]
  clear hW
  go_upto_region 2 with fail
  go_cut [4, 5] (fun u4 u5 wx => MidT W bn al u4 u5 wx)
  case first =>
    go_region_with (go_at_call 54; first
      | (with_reducible refine K3.mono ?_; rintro e w4 ⟨v4, rfl, ho4, hb4⟩; obtain ⟨A4, c4, rfl⟩ := gr_slice ho4; have Hm := Lib.hid (midT_first rfl ho4 hb4); clear ho4 hb4 K1 K3)
      | (with_reducible refine K1.mono ?_; rintro e w4 ⟨v4, rfl, ho4, hb4⟩; obtain ⟨A4, c4, rfl⟩ := gr_slice ho4; have Hm := Lib.hid (midT_second ((Below.refl _ _).drew) ho4 hb4); clear ho4 hb4 K1 K3))
    all_goals (go_wp2_with fail; go_meet; exact Hm.out)
  case rest =>
  obtain ⟨V, hV⟩ : ∃ V, V = wc := ⟨_, rfl⟩
  subst hV
  obtain ⟨gb, fa, fc, rfl, rfl, hfs, hgb0, hne, hgb, hbV⟩ := hcut
  have hgbl := gr_in hgb0
  have HT0 : Hid (TbI bn (tabP g) W gb 0 (fun _ => 0) V ∧ (∀ k, k < V.heap.size → k ≠ gb → V.heap[k]? = V.heap[k]?) ∧ V.heap.size ≤ V.heap.size) := Lib.hid ⟨⟨hbV, hgb, hgb0, fun j hj => by omega⟩, fun _ _ _ => rfl, Nat.le_refl _⟩
  have Hfs := Lib.hid hfs
  have Hne := Lib.hid hne
  have HbV := Lib.hid hbV
  clear x0 x1 x2 x3 x4 y0 y1 y2 y3 y4 hfs hne hbV hmk hgb0 K1 K3
  have hmkB := makeB bn hlen
  go_upto_region 3 with fail
  go_upto_block 0 with fail
  go_wp2_with fail
  go_loopw [6] (fun u6 wr => ∃ (a : Nat) (ib : Nat → Nat), a ≤ bn ∧ u6 = .int .i64 a ∧ Hid (TbI bn (tabP g) W gb a ib wr ∧ (∀ k, k < V.heap.size → k ≠ gb → wr.heap[k]? = V.heap[k]?) ∧ V.heap.size ≤ wr.heap.size)) (fun u6 _ => bn - (intOf u6).toNat)
  case atStart => exact ⟨0, fun _ => 0, Nat.zero_le _, rfl, Lib.hid ⟨HT0.out.1, fun _ _ _ => rfl, Nat.le_refl _⟩⟩
  case round =>
    clear HT0
    obtain ⟨a, ib, ha, rfl, HI⟩ := hrel
    obtain ⟨hI, hk, hz⟩ := HI.out
    obtain ⟨wo, hwo⟩ : ∃ wo, wo = wr := ⟨_, rfl⟩
    rw [← hwo] at hI hk hz ⊢
    clear hwo HI
    by_cases hlt : a < bn
    · obtain ⟨Z, hZ, hbZ, hzZ, h0Z⟩ := gr_one wo (boolsV (List.replicate bn false)).toArray 4
      have hgbo := gr_in hI.out
      have hoZ := (hbZ.block gb hgbo).trans hI.out
      have f1 := Lib.frozen_of_heap hoZ a
      have c1 : ∃ x, Z.cell? ⟨gb, a, none⟩ = some x := ⟨_, by rw [Lib.cell_of_heap hoZ a, List.getElem?_toArray]; exact List.getElem?_eq_getElem (by simp [rowsV]; omega)⟩
      obtain ⟨x, c1⟩ := c1
      obtain ⟨ib2, hib2⟩ : ∃ ib2 : Nat → Nat, ib2 = fun j => if j = a then wo.heap.size else ib j := ⟨_, rfl⟩
      obtain ⟨Z0, hZ0⟩ : ∃ Z0, Z0 = wo.setCell ⟨gb, a, none⟩ (.slice (some ⟨wo.heap.size, 0, none⟩) bn bn) := ⟨_, rfl⟩
      have hZ0o : Z0.heap[gb]? = some (.cells (rowsV ib2 bn (a + 1)).toArray 95 (0, 0)) := by
        rw [hZ0, gr_put hI.out a]
        simp only [List.setIfInBounds_toArray, rowsV_set, hib2]
      have hZ0k : ∀ k, k ≠ gb → Z0.heap[k]? = wo.heap[k]? := fun k hkg => by rw [hZ0]; exact Below.heap_setCell _ _ _ _ hkg
      have hZ0z : Z0.heap.size = wo.heap.size := by rw [hZ0]; simp [World.setCell]
      obtain ⟨Y, hY, hbY0, hzY, h0Y⟩ := gr_one Z0 (boolsV (List.replicate bn false)).toArray 4
      have hYo : Y.heap[gb]? = some (.cells (rowsV ib2 bn (a + 1)).toArray 95 (0, 0)) := (hbY0.block gb (by omega)).trans hZ0o
      have hYz : Y.heap.size = wo.heap.size + 1 := by omega
      have hbY : Below W.heap.size W Y := by
        have h1 : Below W.heap.size W Z0 := by rw [hZ0]; exact hI.bl.trans ((Below.refl _ _).setCell (p := ⟨gb, a, none⟩) hgb _)
        exact h1.trans (hbY0.mono h1.size)
      have hKY : ∀ k, k < wo.heap.size → k ≠ gb → Y.heap[k]? = wo.heap[k]? := fun k hk1 hk2 => (hbY0.block k (by omega)).trans (hZ0k k hk2)
      have hY0 : Y.heap[wo.heap.size]? = some (.cells (boolsV (tabRow (tabP g) bn a 0)).toArray 4 (0, 0)) := by
        rw [← hZ0z, h0Y, tabRow_zero]
      have hFa := HF.out Y (a : Int) hbY (by unfold InG; omega)
      have hwl := fromP_len g 0 (a : Int)
      rw [← Hbn.out] at hwl
      obtain ⟨wl, hwle⟩ : ∃ wl, wl = fromP g 0 (a : Int) := ⟨_, rfl⟩
      rw [← hwle] at hFa hwl
      obtain ⟨x0, x1, x2, x3, x4⟩ := Hx.out Y hbY
      have hws := hI.bl.size
      rw [hZ0] at hY
      have HY := Lib.hid hY
      have HI := Lib.hid hI
      have Hk := Lib.hid hk
      have Hib2 := Lib.hid hib2
      have HYo := Lib.hid hYo
      have HYz := Lib.hid hYz
      have HbY := Lib.hid hbY
      have HKY := Lib.hid hKY
      have HY0 := Lib.hid hY0
      have Hwl := Lib.hid hwl
      have Hwle := Lib.hid hwle
      rw [hZ] at f1 c1
      clear hZ hbZ hzZ h0Z hoZ hY hI hk hib2 hYo hYz hbY hKY hY0 hwl hwle hZ0 hZ0o hZ0k hZ0z hbY0 hzY h0Y
      go_upto_region 7 with fail
      rw [← HY.out]
      clear f1 c1
      go_upto_region 8 with (go_at_call 54; refine hFa.mono ?_; rintro e w4 ⟨v4, rfl, ho4, hb4⟩; obtain ⟨A4, c4, rfl⟩ := gr_slice ho4; obtain ⟨g4, rfl, -, hg4, hg4l⟩ := gr_some ho4 (by omega); have Ho4 := Lib.hid ho4; have Hb4 := Lib.hid hb4; clear ho4 hb4 hFa)
      clear x0 x1 x2 x3 x4
      obtain ⟨ga, rfl, -, hga, hgal⟩ := gr_some Hfs.out (by omega)
      have hYz := HYz.out
      have hb4s := Hb4.out.size
      obtain ⟨ia, hia⟩ : ∃ ia, ia = wo.heap.size := ⟨_, rfl⟩
      have hgane : ga ≠ gb := fun e => Hne.out (by rw [e]; rfl)
      -- what is read within: the row of who is reached, the row without, where the rows lie
      have hrd : ∀ A : World, WK ia none w4 A → (∀ k, k < bn → A.cell? ⟨ga, k, none⟩ = some (.bool (al.getD k false))) ∧ (∀ k, k < bn → A.cell? ⟨g4, k, none⟩ = some (.bool (wl.getD k false))) ∧ A.cell? ⟨gb, a, none⟩ = some (.slice (some ⟨ia, 0, none⟩) bn bn) := fun A hA => by
        refine ⟨fun k hk => ?_, fun k hk => ?_, ?_⟩
        · have e1 : A.heap[ga]? = V.heap[ga]? := (hA.block ga (by omega) (by omega) (fun e => by cases e)).trans ((Hb4.out.block ga (by omega)).trans ((HKY.out ga (by omega) hgane).trans (Hk.out ga hgal hgane)))
          have e2 := Hfs.out.cellAt k (by omega)
          rw [World.cell?_of_block (a := ⟨ga, k, none⟩) e1, e2]
          have : k < al.length := by rw [Hal.out]; exact hk
          simp [boolsV, List.getD, this]
        · have e1 : A.heap[g4]? = w4.heap[g4]? := hA.block g4 hg4l (by omega) (fun e => by cases e)
          have e2 := Ho4.out.cellAt k (by omega)
          rw [World.cell?_of_block (a := ⟨g4, k, none⟩) e1, e2]
          have : k < wl.length := by rw [Hwl.out]; exact hk
          simp [boolsV, List.getD, this]
        · have e1 : A.heap[gb]? = some (.cells (rowsV ib2 bn (a + 1)).toArray 95 (0, 0)) := (hA.block gb (by omega) (by omega) (fun e => by cases e)).trans ((Hb4.out.block gb (by omega)).trans HYo.out)
          rw [Lib.cell_of_heap e1 a, List.getElem?_toArray]
          simp [rowsV, hlt, Hib2.out, hia]
      have Hrd := Lib.hid hrd
      have hi4 : w4.heap[ia]? = some (.cells (boolsV (tabRow (tabP g) bn a 0)).toArray 4 (0, 0)) := by rw [hia]; exact (Hb4.out.block _ (by omega)).trans HY0.out
      have HN0 : Hid (WK ia none w4 w4 ∧ w4.heap[ia]? = some (.cells (boolsV (tabRow (tabP g) bn a 0)).toArray 4 (0, 0))) := Lib.hid ⟨⟨rfl, rfl, rfl, Nat.le_refl _, fun _ _ _ _ => rfl⟩, hi4⟩
      have Hia := Lib.hid hia
      have HFX := Lib.hid (And.intro hYz (And.intro hb4s (And.intro hga (And.intro hgal (And.intro hg4 (And.intro hg4l (And.intro hgane (And.intro hws (And.intro hgb (And.intro hgbl (And.intro hgbo hz)))))))))))
      clear hrd hi4 hia hYz hb4s hga hgal hg4 hg4l hgane hws hgb hgbl hgbo hz
      go_upto_block 2 with fail
      go_wp2_with fail
      go_loopw [8] (fun u8 wr => ∃ b : Nat, b ≤ bn ∧ u8 = .int .i64 b ∧ Hid (WK ia none w4 wr ∧ wr.heap[ia]? = some (.cells (boolsV (tabRow (tabP g) bn a b)).toArray 4 (0, 0)))) (fun u8 _ => bn - (intOf u8).toNat)
      case atStart => exact ⟨0, Nat.zero_le _, rfl, HN0⟩
      case round =>
        clear HN0
        obtain ⟨b, hb, rfl, HN⟩ := hrel
        by_cases hltb : b < bn
        · obtain ⟨B, hB⟩ : ∃ B, B = wr := ⟨_, rfl⟩
          rw [← hB] at HN ⊢
          clear hB
          obtain ⟨hwk, hp⟩ := HN.out
          obtain ⟨r1, r2, k3⟩ := Hrd.out B hwk
          have k1 := r1 a hlt
          have k2 := r1 b hltb
          have k4 := r2 b hltb
          obtain ⟨q1, hq1⟩ : ∃ q, q = al.getD a false := ⟨_, rfl⟩
          obtain ⟨q2, hq2⟩ : ∃ q, q = al.getD b false := ⟨_, rfl⟩
          obtain ⟨q4, hq4⟩ : ∃ q, q = wl.getD b false := ⟨_, rfl⟩
          rw [← hq1] at k1
          rw [← hq2] at k2
          rw [← hq4] at k4
          have ht : tabP g a b = (q1 && (q2 && (decide (a = b) || !q4))) := by rw [hq1, hq2, hq4, Hale.out, Hwle.out]; rfl
          have f5 := Lib.frozen_of_heap hp b
          have k5 : ∃ x, B.cell? ⟨ia, b, none⟩ = some x := ⟨_, bool_cell hp (by simp [tabRow]; exact hltb)⟩
          obtain ⟨x5, k5⟩ := k5
          have hnx : ∀ v, v = tabP g a b → WK ia none w4 (B.drew.setCell ⟨ia, b, none⟩ (.bool v)) ∧ (B.drew.setCell ⟨ia, b, none⟩ (.bool v)).heap[ia]? = some (.cells (boolsV (tabRow (tabP g) bn a (b + 1))).toArray 4 (0, 0)) := fun v hv => by
            have hwd : WK ia none w4 B.drew := ⟨hwk.os, hwk.tape, hwk.output, hwk.size, hwk.block⟩
            refine ⟨hwd.trans (WK.put ia none B.drew b _) (fun x e => by cases e), ?_⟩
            rw [gr_put (show B.drew.heap[ia]? = _ from hp) b, hv, ← tabRow_set]
            simp only [List.setIfInBounds_toArray, boolsV, List.map_set]
          have Hnx := Lib.hid hnx
          have Ht := Lib.hid ht
          clear hwk hp r1 r2 hq1 hq2 hq4 ht hnx HN
          go_upto_region 11 with fail
          cases q1 with
          | false =>
            have HN2 := Lib.hid (Hnx.out false (by rw [Ht.out]; rfl))
            clear Hnx Ht
            refine wp_region_still_tail 28 (by kernel_rfl) (by kernel_rfl) ?_
            simp only [List.take_succ_cons, List.take_zero, List.drop_succ_cons, List.drop_zero]
            refine wpStill_of_quiet _ _ ?_
            repeat (go_big_quiet_step (fail))
            refine wpQuiet_nil ?_
            change wpList _ _ _ _ _ B.drew
            go_wp2
            go_roundw
            case rel => exact ⟨b + 1, by omega, by go_num, HN2⟩
            case measure => simp [intOf]; omega
          | true =>
            cases q2 with
            | false =>
              have HN2 := Lib.hid (Hnx.out false (by rw [Ht.out]; rfl))
              clear Hnx Ht
              refine wp_region_still_tail 28 (by kernel_rfl) (by kernel_rfl) ?_
              simp only [List.take_succ_cons, List.take_zero, List.drop_succ_cons, List.drop_zero]
              refine wpStill_of_quiet _ _ ?_
              repeat (go_big_quiet_step (fail))
              refine wpQuiet_nil ?_
              change wpList _ _ _ _ _ B.drew
              go_wp2
              go_roundw
              case rel => exact ⟨b + 1, by omega, by go_num, HN2⟩
              case measure => simp [intOf]; omega
            | true =>
              by_cases hab : a = b
              · subst hab
                have hd : ((a : Int) == (a : Int)) = true := by simp
                have HN2 := Lib.hid (Hnx.out true (by rw [Ht.out]; simp))
                clear Hnx Ht
                refine wp_region_still_tail 28 (by kernel_rfl) (by kernel_rfl) ?_
                simp only [List.take_succ_cons, List.take_zero, List.drop_succ_cons, List.drop_zero]
                refine wpStill_of_quiet _ _ ?_
                repeat (go_big_quiet_step (fail))
                refine wpQuiet_nil ?_
                change wpList _ _ _ _ _ B.drew
                go_wp2
                go_roundw
                case rel => exact ⟨a + 1, by omega, by go_num, HN2⟩
                case measure => simp [intOf]; omega
              · have hd : ((a : Int) == (b : Int)) = false := by simp; omega
                have HN2 := Lib.hid (Hnx.out (!q4) (by rw [Ht.out]; simp [hab]))
                clear Hnx Ht
                refine wp_region_still_tail 28 (by kernel_rfl) (by kernel_rfl) ?_
                simp only [List.take_succ_cons, List.take_zero, List.drop_succ_cons, List.drop_zero]
                refine wpStill_of_quiet _ _ ?_
                repeat (go_big_quiet_step (fail))
                refine wpQuiet_nil ?_
                change wpList _ _ _ _ _ B.drew
                go_wp2
                go_roundw
                case rel => exact ⟨b + 1, by omega, by go_num, HN2⟩
                case measure => simp [intOf]; omega
        · obtain rfl : bn = b := by omega
          obtain ⟨wd, hwd⟩ : ∃ wd, wd = wr := ⟨_, rfl⟩
          rw [← hwd] at HN ⊢
          clear hwd
          obtain ⟨hwk, hp⟩ := HN.out
          obtain ⟨hYz, hb4s, hga, hgal, hg4, hg4l, hgane, hws, hgb, hgbl, hgbo, hz⟩ := HFX.out
          have hia := Hia.out
          have hws2 := hwk.size
          have hI := HI.out
          have HN : Hid (TbI bn (tabP g) W gb (a + 1) ib2 wd ∧ (∀ k, k < V.heap.size → k ≠ gb → wd.heap[k]? = V.heap[k]?) ∧ V.heap.size ≤ wd.heap.size) := Lib.hid ⟨⟨HbY.out.trans ((Hb4.out.mono (by omega)).trans (hwk.below (by omega) (fun x e => by cases e) (by omega))), hgb, (hwk.block gb (by omega) (by omega) (fun e => by cases e)).trans ((Hb4.out.block gb (by omega)).trans HYo.out), fun j hj => by
            rw [Hib2.out]
            dsimp only
            by_cases e : j = a
            · subst e
              rw [if_pos rfl]
              exact ⟨by omega, by omega, by rw [← hia]; exact hp⟩
            · rw [if_neg e]
              obtain ⟨j1, j2, j3⟩ := hI.row j (by omega)
              have hjl := gr_in j3
              exact ⟨j1, j2, (hwk.block _ (by omega) (by omega) (fun e => by cases e)).trans ((Hb4.out.block _ (by omega)).trans ((HKY.out _ (by omega) j1).trans j3))⟩⟩, fun k hk1 hk2 => (hwk.block k (by omega) (by omega) (fun e => by cases e)).trans ((Hb4.out.block k (by omega)).trans ((HKY.out k (by omega) hk2).trans (Hk.out k hk1 hk2))), by omega⟩
          clear hwk hp hI hia hws2
          go_wp2_with fail
          go_roundw
          case rel => exact ⟨a + 1, ib2, by omega, by go_num, HN⟩
          case measure => simp [intOf]; omega
    · obtain rfl : bn = a := by omega
      have HI := Lib.hid hI
      clear hI hk
      go_wp2_with fail
      go_ret
      refine ⟨gb, ib, rfl, ⟨gr_in HI.out.out, fun j hj => ?_⟩, HbW.out.trans (HI.out.bl.mono (by have := HzW.out; omega))⟩
      obtain ⟨j1, j2, j3⟩ := HI.out.row j hj
      refine ⟨gr_in j3, ?_, fun k hk => ?_⟩
      · rw [Lib.cell_of_heap HI.out.out j, List.getElem?_toArray]
        simp [rowsV, hj]
      · rw [bool_cell j3 (by simp [tabRow]; exact hk)]
        simp [tabRow, List.getD, hk]
end Go.Proofs.Ythhjhdmdfneegaa
