/-
  Blocks on all ways: dom.ups.
-/
import Derived.Test.YtglobeajmdieaaaJe39
import Derived.Test.YtglobeajmdieaaaJe41
import Derived.Test.YtglobeajmdieaaaJe42
namespace Go.Proofs.Ytglobeajmdieaaa
set_option linter.unusedVariables false
set_option linter.unusedSimpArgs false
open Go.RowKit Go.Shelf

def outP (blocks : List Int) : List Int → Nat → List Int → Option (List Int)
  | [], _, up => some up
  | o :: os, t, up => if o = -1 then outP blocks os (t + 1) up else (rdI blocks t).bind fun bt => (rdI blocks o).bind fun bo => (wrI up bt bo).bind (outP blocks os (t + 1))
theorem own_obj {w : World} {base : Nat} {T : TypeId} {g n c : Nat} {xs : List Value} (h : w.ownsRow base T 1 (.slice (some ⟨g, 0, none⟩) n c) n xs) (hn : 0 < n) : ∃ o, w.heap[g]? = some o := by
  rcases h.2 with ⟨h', _⟩ | ⟨g', cap, cur, h', hb, hg, _⟩
  · simp at h'
  · simp only [Value.slice.injEq, Option.some.injEq, Addr.mk.injEq, and_true, true_and] at h'
    obtain ⟨rfl, rfl⟩ := h'
    exact ⟨_, hg⟩
theorem RoRows.of {T : TypeId} {w : World} {base E gk m sp z : Nat} {F F0 : Nat → GRw} {cs vs : List Value} {ls : List (List Int)} (hs : Sq T w base E F cs) (hr : RowsAt F 0 gk m vs ls) (hz : z ≤ base) (hF : ∀ k g, (F0 k).v.ownBlock = some g → g < z) (hsp : sp < z) (hm : 1 ≤ m) : RoRows w sp F0 gk m ls := by
  have hfx : ∀ g o, w.heap[g]? = some o → base ≤ g → Fx w sp F0 g o := fun g o ho hg => ⟨ho, fun k e => by have := hF k g e; omega, by omega⟩
  have h0 := hs.at hr.2.2.1
  obtain ⟨o, ho⟩ := own_obj h0 (by omega)
  refine ⟨vs, o, hr.1, hr.2.1, hfx gk o ho (h0.lt gk rfl).1, fun j v hv => hr.cell hs hv, fun j v l hv hl => ?_⟩
  have h1 := hs.at (hr.2.2.2 j v l hv hl)
  obtain ⟨A, c, hvA⟩ := gr_slice h1
  simp only [intR] at hvA h1
  subst hvA
  refine ⟨A, c, rfl, fun i x hx => ?_⟩
  have hil : i < l.length := (List.getElem?_eq_some_iff.1 hx).1
  obtain ⟨g, rfl, -, hg1, hg2⟩ := gr_some h1 (by omega)
  obtain ⟨o1, ho1⟩ := own_obj h1 (by omega)
  refine ⟨g, o1, rfl, hfx g o1 ho1 hg1, ?_⟩
  rw [h1.cellAt i (by omega)]
  simp only [intsV, List.getElem?_map, hx, Option.map_some]

set_option maxRecDepth 100000 in
set_option maxHeartbeats 32000000 in
theorem ups_g (n0 : Nat) (f : Value) (g : List GB) (w : World) (ke k0 m : Nat) (en : En) (bk : List (List Int)) (sE : Sr) (upE upF : List Int) (hf : GF n0 w f g) (hn : n0 ≤ w.heap.size) (hpos : 0 < g.length) (hk0 : k0 ≤ 1048576)
    (h1 : enRun g ke ⟨[], List.replicate g.length (-1), []⟩ [(-1, 0)] = some en) (hm : en.blocks.length = m) (hm1 : 1 ≤ m) (hmb : m ≤ 1048576) (hfl : en.from_.length = m) (htl : en.turn.length ≤ 1048576)
    (h2 : bkRun g en.turn 0 en.blocks (List.replicate m []) = some bk) (hbl : ∀ t, (bk.getD t []).length ≤ 1048576) (h3 : rnRun k0 en.from_ bk (m - 1) ⟨List.replicate m (-1), upTo m m, List.replicate m (-1), upTo m m, List.replicate m []⟩ = some sE)
    (h4 : finP sE.early m 0 sE.up = some upE) (hul : upE.length = m) (h5 : outP en.blocks upE 0 (List.replicate g.length (-1)) = some upF) :
    Calls Try.prog 57 #[f] w fun e w' => ∃ ub, e = .returned (.slice (some ⟨ub, 0, none⟩) g.length g.length) ∧ w.heap.size ≤ ub ∧ IRow w' ub upF ∧ Below w.heap.size w w' := by
  obtain ⟨s, pA, pn, pc, r, iA, in_, ic, bA, bn, bc, rfl, hG, hbn⟩ := id hf
  have hlen : bn ≤ 1048576 := by rw [hbn]; obtain ⟨_, _, _, h, _⟩ := hG; exact h
  obtain ⟨W1, hW1, hbW1, hzW1, h0W1⟩ := gr_one w #[.string s, .slice pA pn pc, .int .i64 r, .slice iA in_ ic, .slice bA bn bc] 46
  have hfr : ∀ A : World, Below W1.heap.size W1 A → GF n0 A (.agg #[.string s, .slice pA pn pc, .int .i64 r, .slice iA in_ ic, .slice bA bn bc]) g := fun A hA => ⟨s, pA, pn, pc, r, iA, in_, ic, bA, bn, bc, rfl, hG.keep ((hbW1.mono hn).trans (hA.mono (by omega))), hbn⟩
  have hx : ∀ A : World, Below W1.heap.size W1 A → A.cell? ⟨w.heap.size, 0, none⟩ = some (.string s) ∧ A.cell? ⟨w.heap.size, 1, none⟩ = some (.slice pA pn pc) ∧ A.cell? ⟨w.heap.size, 2, none⟩ = some (.int .i64 r) ∧ A.cell? ⟨w.heap.size, 3, none⟩ = some (.slice iA in_ ic) ∧ A.cell? ⟨w.heap.size, 4, none⟩ = some (.slice bA bn bc) := (fun A hA => by obtain ⟨x0, x1, x2, x3, x4, -⟩ := gr_five ((hA.block w.heap.size (by omega)).trans h0W1); exact ⟨x0, x1, x2, x3, x4⟩)
  have hE := enterD_g n0 _ g W1 ke en (hfr W1 (Below.refl _ _)) (by omega) hpos h1
  obtain ⟨x0, x1, x2, x3, x4⟩ := hx W1 (Below.refl _ _)
  have Hx := Lib.hid hx
  have Hfr := Lib.hid hfr
  have HW1 := Lib.hid hW1
  have HbW1 := Lib.hid hbW1
  have HzW1 := Lib.hid hzW1
  have Hbn := Lib.hid hbn
  have H2 := Lib.hid h2
  have H3 := Lib.hid h3
  have H4 := Lib.hid h4
  have H5 := Lib.hid h5
  have Hm := Lib.hid hm
  have Hfl := Lib.hid hfl
  have Hul := Lib.hid hul
  have Hbl := Lib.hid hbl
  clear hf hx hfr hW1 hbW1 hzW1 h0W1 hbn h1 h2 h3 h4 h5 hG hm hfl hul hbl
  go_enter Try.func57, Try.ntmps57
  go_upto_region 1 with fail
  rw [← HW1.out]
  go_upto_region 2 with (go_at_call 77; refine hE.mono ?_; rintro e w2 ⟨vb, vt, vf, rfl, hvb, hvt, hvf, hb2⟩; obtain ⟨Ab, cb, rfl, -⟩ := id hvb; obtain ⟨At, ct, rfl, -⟩ := id hvt; obtain ⟨Af, cf, rfl, -⟩ := id hvf; rw [Hm.out] at hvb ⊢; rw [Hfl.out] at hvf ⊢; have Hvb := Lib.hid hvb; have Hvt := Lib.hid hvt; have Hvf := Lib.hid hvf; have Hb2 := Lib.hid hb2; clear hvb hvt hvf hb2 hE)
  clear x0 x1 x2 x3 x4
  obtain ⟨W2, hW2, hbW2, hzW2, h0W2⟩ := gr_one w2 #[.slice Ab m cb, .slice At en.turn.length ct, .slice Af m cf] 128
  have h12 : Below W1.heap.size W1 W2 := Hb2.out.trans (hbW2.mono Hb2.out.size)
  obtain ⟨Y, hY, hbY, hzY, h0Y⟩ := gr_one W2 #[.int .i64 (-1)] 3
  have hRp := repeat_g W2.heap.size 0 (-1) bn Y (Lib.cell_of_heap h0Y 0) (by rw [Hbn.out]; exact hpos) hlen
  have h1Y : Below W1.heap.size W1 Y := h12.trans (hbY.mono h12.size)
  obtain ⟨y0, y1, y2, y3, y4⟩ := Hx.out Y h1Y
  rw [hY] at y0 y1 y2 y3 y4
  have HW2 := Lib.hid hW2
  have HY := Lib.hid hY
  have H1Y := Lib.hid h1Y
  have HzY := Lib.hid hzY
  have HzW2 := Lib.hid hzW2
  have Hw := Lib.hid ((hbY.block w2.heap.size (gr_in h0W2)).trans h0W2)
  have Hvb3 := Lib.hid ((Hvb.out.keep hbW2).keep (hbY.mono (by omega)))
  have Hvt3 := Lib.hid ((Hvt.out.keep hbW2).keep (hbY.mono (by omega)))
  have Hvf3 := Lib.hid ((Hvf.out.keep hbW2).keep (hbY.mono (by omega)))
  clear hW2 hbW2 hzW2 h0W2 h12 hY hbY hzY h0Y h1Y Hvb Hvt Hvf
  rw [← HW2.out]
  go_upto_region 3 with (go_at_call 33; rw [← HY.out]; refine hRp.mono ?_; rintro e w4 ⟨ub, rfl, hub, hrow, hb4⟩; have Hrow := Lib.hid hrow; have Hub := Lib.hid hub; have Hb4 := Lib.hid hb4; clear hrow hub hb4 hRp)
  clear y0 y1 y2 y3 y4
  obtain ⟨tl, htle⟩ : ∃ tl, tl = en.turn.length := ⟨_, rfl⟩
  have hzY := HzY.out
  have hzW2 := HzW2.out
  have hz4 := Hb4.out.size
  have h14 : Below W1.heap.size W1 w4 := H1Y.out.trans (Hb4.out.mono H1Y.out.size)
  have hbx4 := (Hb4.out.block w2.heap.size (by omega)).trans Hw.out
  have hS : ∀ A : World, Below w4.heap.size w4 A → A.cell? ⟨w2.heap.size, 0, none⟩ = some (.slice Ab m cb) ∧ A.cell? ⟨w2.heap.size, 1, none⟩ = some (.slice At tl ct) ∧ A.cell? ⟨w2.heap.size, 2, none⟩ = some (.slice Af m cf) ∧ A.cell? ⟨w.heap.size, 0, none⟩ = some (.string s) ∧ A.cell? ⟨w.heap.size, 1, none⟩ = some (.slice pA pn pc) ∧ A.cell? ⟨w.heap.size, 2, none⟩ = some (.int .i64 r) ∧ A.cell? ⟨w.heap.size, 3, none⟩ = some (.slice iA in_ ic) ∧ A.cell? ⟨w.heap.size, 4, none⟩ = some (.slice bA bn bc) := fun A hA => by
    have hb := (hA.block w2.heap.size (by omega)).trans hbx4
    rw [← htle] at hb
    exact ⟨Lib.cell_of_heap hb 0, Lib.cell_of_heap hb 1, Lib.cell_of_heap hb 2, Hx.out A (h14.trans (hA.mono h14.size))⟩
  have hN := newSearch_g Ab At Af cb tl ct m cf m w4.drew hm1 hmb
  have gd := hS w4.drew (Below.refl _ _).drew
  have HS := Lib.hid hS
  have H14 := Lib.hid h14
  have HN := Lib.hid hN
  have Htl := Lib.hid htle
  rw [← htle]
  clear hzY hzW2 hz4 hbx4 hS hN h14 htle
  refine wp_region_noPanic ?_
  refine wp_region_held_drew (S := fun w' => w'.cell? ⟨w2.heap.size, 0, none⟩ = some (.slice Ab m cb) ∧ w'.cell? ⟨w2.heap.size, 1, none⟩ = some (.slice At tl ct) ∧ w'.cell? ⟨w2.heap.size, 2, none⟩ = some (.slice Af m cf) ∧ w'.cell? ⟨w.heap.size, 0, none⟩ = some (.string s) ∧ w'.cell? ⟨w.heap.size, 1, none⟩ = some (.slice pA pn pc) ∧ w'.cell? ⟨w.heap.size, 2, none⟩ = some (.int .i64 r) ∧ w'.cell? ⟨w.heap.size, 3, none⟩ = some (.slice iA in_ ic) ∧ w'.cell? ⟨w.heap.size, 4, none⟩ = some (.slice bA bn bc)) (by kernel_rfl) gd (fun hHeld => ?_)
  refine wpAnyH_take (i := 0) (v := ?_) rfl (by kernel_rfl) (by kernel_rfl) (by kernel_rfl) (fun _ _ _ h => h) (Or.inl ⟨by rfl, ?_⟩) (by assumption) ?_
  rotate_left
  · (intro w hSw; (try dsimp only at hSw); first | (go_simp; done) | (go_simp; with_reducible rfl))
  try simp only [Act.put, List.setIfInBounds_toArray, List.set_cons_zero, List.set_cons_succ]
  refine wpAnyH_take (i := 2) (v := ?_) rfl (by kernel_rfl) (by kernel_rfl) (by kernel_rfl) (fun _ _ _ h => h) (Or.inl ⟨by rfl, ?_⟩) (by assumption) ?_
  rotate_left
  · (intro w hSw; (try dsimp only at hSw); first | (go_simp; done) | (go_simp; with_reducible rfl))
  try simp only [Act.put, List.setIfInBounds_toArray, List.set_cons_zero, List.set_cons_succ]
  refine wpAnyH_take (i := 3) (v := ?_) rfl (by kernel_rfl) (by kernel_rfl) (by kernel_rfl) (fun _ _ _ h => h) (Or.inl ⟨by rfl, ?_⟩) (by assumption) ?_
  rotate_left
  · (intro w hSw; (try dsimp only at hSw); first | (go_simp; done) | (go_simp; with_reducible rfl))
  try simp only [Act.put, List.setIfInBounds_toArray, List.set_cons_zero, List.set_cons_succ]
  refine wpAnyH_take (i := 4) (v := ?_) rfl (by kernel_rfl) (by kernel_rfl) (by kernel_rfl) (fun _ _ _ h => h) (Or.inl ⟨by rfl, ?_⟩) (by assumption) ?_
  rotate_left
  · (intro w hSw; (try dsimp only at hSw); first | (go_simp; done) | (go_simp; with_reducible rfl))
  try simp only [Act.put, List.setIfInBounds_toArray, List.set_cons_zero, List.set_cons_succ]
  refine wpAnyH_take (i := 8) (v := ?_) rfl (by kernel_rfl) (by kernel_rfl) (by kernel_rfl) (fun _ _ _ h => h) (Or.inl ⟨by rfl, ?_⟩) (by assumption) ?_
  rotate_left
  · (intro w hSw; (try dsimp only at hSw); first | (go_simp; done) | (go_simp; with_reducible rfl))
  try simp only [Act.put, List.setIfInBounds_toArray, List.set_cons_zero, List.set_cons_succ]
  refine wpAnyH_ready (rs := [1]) (by kernel_rfl) (by simp) ?_
  refine AllReadyH.cons rfl (fun K hK => ?_) (AllReadyH.nil)
  go_simp
  refine HN.out.mono ?_
  rintro e w5 ⟨sp, bu, be, ba, bb, F, rfl, hL, hoff, hb5⟩
  have hd4 : Below w4.heap.size w4 w5 := (Below.refl _ _).drew.trans hb5
  have g5 := HS.out w5 hd4
  have hY5 : Below w2.heap.size Y w5 := (Hb4.out.trans (hd4.mono Hb4.out.size)).mono (by have := HzY.out; have := HzW2.out; omega)
  have hz5 : w2.heap.size ≤ w5.heap.size := by have := HzY.out; have := HzW2.out; have := Hb4.out.size; have := hd4.size; omega
  have hBk := back_g n0 _ (.slice Ab m cb) (.slice At tl ct) (.slice Af m cf) g en bk m w5 (Hfr.out w5 (H14.out.trans (hd4.mono H14.out.size))) (by have := H14.out.size; have := hd4.size; have := HzW1.out; omega) ((Hvb3.out.keep hY5).mono hz5) (by rw [Htl.out]; exact (Hvt3.out.keep hY5).mono hz5) ⟨_, _, _, rfl⟩ Hm.out.symm hmb htl H2.out
  have HBk := Lib.hid hBk
  have HL := Lib.hid hL
  have Hoff := Lib.hid hoff
  have Hd4 := Lib.hid hd4
  have HY5 := Lib.hid hY5
  have Hz5 := Lib.hid hz5
  have Hb5 := Lib.hid hb5
  clear hL hoff hb5 hd4 hY5 hz5 hBk
  try dsimp only
  refine hK.out _ _ ?_ (fun hHeld => ?_)
  · ((try dsimp only); first | with_reducible exact gd | with_reducible exact g5 | with_reducible exact g6 | with_reducible exact g7)
  clear hK K
  try simp only [Act.put, List.setIfInBounds_toArray, List.set_cons_zero, List.set_cons_succ]
  refine wpAnyH_ready (rs := [5]) (by kernel_rfl) (by simp) ?_
  refine AllReadyH.cons rfl (fun K hK => ?_) (AllReadyH.nil)
  go_simp
  refine HBk.out.mono ?_
  rintro e w6 ⟨gk, Fb, vsb, rfl, hSb, hRb, hb6⟩
  have hd6 : Below w4.heap.size w4 w6 := Hd4.out.trans (hb6.mono Hd4.out.size)
  have g6 := HS.out w6 hd6
  have hL6 := HL.out.keep hb6
  have hro : RoRows w6 sp F gk m bk := RoRows.of (z := w5.heap.size + 1) hSb hRb (Nat.le_refl _) (fun k g' e => by have := ((HL.out.sq.fam.own k).lt g' e).2; omega) (by have := HL.out.sq.fam.el; omega) hm1
  have hvf6 : GNs w4.drew.heap.size w6 (.slice Af m cf) en.from_ := ((Hvf3.out.keep HY5.out).keep (hb6.mono Hz5.out)).mono (by have := HzY.out; have := HzW2.out; have := Hb4.out.size; show w2.heap.size ≤ w4.heap.size; omega)
  have hRn := run_g w4.drew.heap.size sp bu be ba bb gk m (.slice none 0 0) (.slice Af m cf) Ab At cb tl ct [] (List.replicate m (-1)) (upTo m m) (List.replicate m (-1)) (upTo m m) en.from_ upE bk F k0 sE w6 hL6 Hoff.out hvf6 hro hm1 hk0 Hbl.out Hfl.out H3.out H4.out
  have HRn := Lib.hid hRn
  have Hd6 := Lib.hid hd6
  clear hSb hRb hb6 hd6 hL6 hro hvf6 hRn
  try dsimp only
  refine hK.out _ _ ?_ (fun hHeld => ?_)
  · ((try dsimp only); first | with_reducible exact gd | with_reducible exact g5 | with_reducible exact g6 | with_reducible exact g7)
  clear hK K
  try simp only [Act.put, List.setIfInBounds_toArray, List.set_cons_zero, List.set_cons_succ]
  refine wpAnyH_ready (rs := [6]) (by kernel_rfl) (by simp) ?_
  refine AllReadyH.cons rfl (fun K hK => ?_) (AllReadyH.nil)
  go_simp
  refine HRn.out.mono ?_
  rintro e w7 ⟨rfl, hrE, hb7⟩
  have hd7 : Below w4.heap.size w4 w7 := Hd6.out.trans hb7
  have g7 := HS.out w7 hd7
  have hbu : w4.heap.size ≤ bu := ((HL.out.sq.fam.own 0).lt bu (by rw [HL.out.f0]; rfl)).1
  have HrE := Lib.hid hrE
  have Hd7 := Lib.hid hd7
  clear hrE hb7 hd7
  try dsimp only
  refine hK.out _ _ ?_ (fun hHeld => ?_)
  · ((try dsimp only); first | with_reducible exact gd | with_reducible exact g5 | with_reducible exact g6 | with_reducible exact g7)
  clear hK K
  try simp only [Act.put, List.setIfInBounds_toArray, List.set_cons_zero, List.set_cons_succ]
  refine wpAnyH_take (i := 7) (v := ?_) rfl (by kernel_rfl) (by kernel_rfl) (by kernel_rfl) (fun _ _ _ h => h) (Or.inl ⟨by rfl, ?_⟩) (by assumption) ?_
  rotate_left
  · (intro w hSw; (try dsimp only at hSw); first | (go_simp; done) | (go_simp; with_reducible rfl))
  try simp only [Act.put, List.setIfInBounds_toArray, List.set_cons_zero, List.set_cons_succ]
  refine wpAnyH_done (by kernel_rfl) ?_ _
  refine NoPanic.normal ?_
  clear gd g5 g6 HN HBk HRn HL Hoff
  obtain ⟨q0, q1, q2, -⟩ := g7
  have hzY := HzY.out
  have hzW2 := HzW2.out
  have hz4 := Hb4.out.size
  have hzW1 := HzW1.out
  have h14 := H14.out.size
  have hzw := HbW1.out.size
  have hw2 : w.heap.size ≤ w2.heap.size := by have := Hb2.out.size; omega
  have hubl := Hrow.out.lt
  have hub7 := (Hd7.out.block ub hubl)
  have hI0 : IRow w7 ub (List.replicate g.length (-1)) := by rw [← Hbn.out]; exact Hrow.out.keep hub7
  have HI0 : Hid (IRow w7 ub (List.replicate g.length (-1)) ∧ w7.heap[bu]? = w7.heap[bu]? ∧ Below w.heap.size w7 w7) := Lib.hid ⟨hI0, rfl, Below.refl _ _⟩
  have HO0 : Hid (outP en.blocks (upE.drop 0) 0 (List.replicate g.length (-1)) = some upF) := Lib.hid H5.out
  have hne : ub ≠ bu := by omega
  have Hbx : Hid (∀ A : World, (∀ k, k ≠ ub → A.heap[k]? = w7.heap[k]?) → A.cell? ⟨w2.heap.size, 0, none⟩ = some (.slice Ab m cb) ∧ IRow A bu upE ∧ GNs w2.heap.size A (.slice Ab m cb) en.blocks) := Lib.hid fun A hA => by
    have hub := Hub.out
    refine ⟨(cell_same (hA _ (by omega))).trans q0, HrE.out.keep (hA _ (by omega)), ?_⟩
    have hg7 : GNs w2.heap.size w7 (.slice Ab m cb) en.blocks := (Hvb3.out.keep (Hb4.out.mono (by omega))).keep (Hd7.out.mono (by omega))
    exact GNs_same hg7 (fun k hk => hA k (by omega))
  have hub0 : w.heap.size ≤ ub := by have := Hub.out; omega
  have Hw7 : Hid (Below w.heap.size w w7) := Lib.hid (HbW1.out.trans ((H14.out.trans (Hd7.out.mono H14.out.size)).mono hzw))
  have HbnL : Hid (bn = g.length) := Lib.hid Hbn.out
  clear hI0 q0 q1 q2 hub7 hubl Hrow
  go_upto_block 0 with fail
  go_wp2_with fail
  go_loopw [22] (fun u22 wr => ∃ (j : Nat) (up : List Int), j ≤ m ∧ u22 = .int .i64 j ∧ Hid (up.length = g.length) ∧ Hid (IRow wr ub up ∧ (∀ k, k ≠ ub → wr.heap[k]? = w7.heap[k]?) ∧ Below w.heap.size w7 wr) ∧ Hid (outP en.blocks (upE.drop j) j up = some upF)) (fun u22 _ => m - (intOf u22).toNat)
  case atStart => exact ⟨0, _, Nat.zero_le _, rfl, Lib.hid (by simp), Lib.hid ⟨HI0.out.1, fun _ _ => rfl, HI0.out.2.2⟩, HO0⟩
  case round =>
    clear HI0 HO0
    obtain ⟨j, up, hj, rfl, HL, HI, HO⟩ := hrel
    obtain ⟨hI, hk, hb⟩ := HI.out
    obtain ⟨c0, hbuR, hblk⟩ := Hbx.out wr hk
    by_cases hlt : j < m
    · have hO := HO.out
      have hjl : j < upE.length := by rw [Hul.out]; exact hlt
      rw [List.drop_eq_getElem_cons hjl, outP] at hO
      obtain ⟨ov, hov⟩ : ∃ ov, ov = upE.getD j 0 := ⟨_, rfl⟩
      have hov2 : upE[j] = ov := by rw [hov]; simp [List.getD, hjl]
      rw [hov2] at hO
      have cE : wr.cell? ⟨bu, j, none⟩ = some (.int .i64 ov) := by rw [hov]; exact hbuR.cell hjl
      by_cases h1 : ov = -1
      · have h1c : (ov != -1) = false := by simp [h1]
        rw [if_pos h1] at hO
        have HI2 := Lib.hid (And.intro hI (And.intro hk hb))
        have HO2 := Lib.hid hO
        clear hI hk hb hbuR hblk hO hov hov2 h1 HI HO hjl
        go_wp2
        go_roundw
        case rel => exact ⟨j + 1, up, by omega, by go_num, HL, HI2, HO2⟩
        case measure => simp [intOf]; omega
      · have h1c : (ov != -1) = true := by simpa using h1
        rw [if_neg h1, Option.bind_eq_some_iff] at hO
        obtain ⟨bt, hbt, hO⟩ := hO
        rw [Option.bind_eq_some_iff] at hO
        obtain ⟨bo, hbo, hO⟩ := hO
        rw [Option.bind_eq_some_iff] at hO
        obtain ⟨up2, hup2, hO⟩ := hO
        obtain ⟨j', hj', hjbl, hbte⟩ := rdI_some hbt
        obtain rfl : j = j' := by omega
        obtain ⟨on, rfl, honl, hboe⟩ := rdI_some hbo
        obtain ⟨tn, rfl, htnl, hup2e⟩ := wrI_some hup2
        have honm : on < m := by rw [← Hm.out]; exact honl
        have htn : tn < bn := by rw [HbnL.out, ← HL.out]; exact htnl
        obtain ⟨vb1, vo1, rfl, hvb1, cbt0⟩ := hblk.at hjbl
        obtain ⟨vb2, vo2, hvv, hvb2, cbo0⟩ := hblk.at honl
        obtain ⟨rfl, rfl⟩ : vb1 = vb2 ∧ vo1 = vo2 := by simpa using hvv
        have cbt : wr.cell? ⟨vb1, vo1 + j, none⟩ = some (.int .i64 (tn : Int)) := by rw [cbt0, hbte]; simp [List.getD, hjbl]
        have cbo : wr.cell? ⟨vb1, vo1 + on, none⟩ = some (.int .i64 bo) := by rw [cbo0, hboe]; simp [List.getD, honl]
        have cu : ∃ v, wr.cell? ⟨ub, tn, none⟩ = some v := ⟨_, hI.cell htnl⟩
        obtain ⟨vcu, cu⟩ := cu
        have cuf := hI.fro tn
        have HI2 : Hid (IRow (wr.setCell ⟨ub, tn, none⟩ (.int .i64 bo)).drew ub up2 ∧ (∀ k, k ≠ ub → (wr.setCell ⟨ub, tn, none⟩ (.int .i64 bo)).drew.heap[k]? = w7.heap[k]?) ∧ Below w.heap.size w7 (wr.setCell ⟨ub, tn, none⟩ (.int .i64 bo)).drew) := Lib.hid ⟨by rw [hup2e]; exact (hI.put tn bo).keep rfl, fun k hk2 => (Below.heap_setCell wr ⟨ub, tn, none⟩ _ k hk2).trans (hk k hk2), (hb.setCell (p := ⟨ub, tn, none⟩) hub0 _).drew⟩
        have HO2 := Lib.hid hO
        have HL2 : Hid (up2.length = g.length) := Lib.hid (by rw [hup2e]; simpa using HL.out)
        clear cbt0 cbo0 hI hk hb hbuR hblk hO hov hov2 h1 HI HO hjl hbt hbo hup2 hj' hjbl hbte honl hboe htnl hup2e hvv HL
        go_upto_region 7 with fail
        go_still_tail 11, (by kernel_rfl)
        change wpList _ _ _ _ _ wr.drew
        go_wp2
        go_roundw
        case rel => exact ⟨j + 1, up2, by omega, by go_num, HL2, HI2, HO2⟩
        case measure => simp [intOf]; omega
    · obtain rfl : j = m := by omega
      have hO := HO.out
      rw [← Hul.out, List.drop_length, outP] at hO
      injection hO with hO
      subst hO
      have HE := Lib.hid (And.intro hI hb)
      clear hI hk hb c0 hbuR hblk HI HO
      go_wp2
      go_ret
      exact ⟨ub, by rw [HbnL.out]; rfl, hub0, HE.out.1, Hw7.out.trans HE.out.2⟩
end Go.Proofs.Ytglobeajmdieaaa
