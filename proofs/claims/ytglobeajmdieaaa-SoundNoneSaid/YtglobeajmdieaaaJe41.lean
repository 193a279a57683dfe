/-
  Blocks on all ways: dom.enter.
-/
import Derived.Test.YtglobeajmdieaaaJe26
namespace Go.Proofs.Ytglobeajmdieaaa
set_option linter.unusedVariables false
set_option linter.unusedSimpArgs false
open Go.RowKit Go.Shelf

set_option maxRecDepth 100000 in
set_option maxHeartbeats 16000000 in
theorem enterD_g (n0 : Nat) (f : Value) (g : List GB) (w : World) (k0 : Nat) (res : En) (hf : GF n0 w f g) (hn : n0 ≤ w.heap.size) (hpos : 0 < g.length)
    (hrun : enRun g k0 ⟨[], List.replicate g.length (-1), []⟩ [(-1, 0)] = some res) :
    Calls Try.prog 77 #[f] w fun x w' => ∃ vb vt vf, x = .returned (.agg #[vb, vt, vf]) ∧ GNs w'.heap.size w' vb res.blocks ∧ GNs w'.heap.size w' vt res.turn ∧ GNs w'.heap.size w' vf res.from_ ∧ Below w.heap.size w w' := by
  obtain ⟨s, pA, pn, pc, r, iA, in_, ic, bA, bn, bc, rfl, hG, hbn⟩ := hf
  have hlen : bn ≤ 1048576 := by rw [hbn]; obtain ⟨_, _, _, h, _⟩ := hG; exact h
  obtain ⟨W1, hW1, hbW1, hzW1, h0W1⟩ := gr_one w #[.string s, .slice pA pn pc, .int .i64 r, .slice iA in_ ic, .slice bA bn bc] 46
  obtain ⟨W, hW, hbW, hzW, h0W⟩ := gr_one W1 #[.slice none 0 0, .slice none 0 0, .slice none 0 0] 128
  have hfW := (hbW.block w.heap.size (gr_in h0W1)).trans h0W1
  have hwW : Below w.heap.size w W := hbW1.trans (hbW.mono hbW1.size)
  obtain ⟨Y, hY, hbY, hzY, h0Y⟩ := gr_one W #[.int .i64 (-1)] 3
  have hR := repeat_g W.heap.size 0 (-1) bn Y (Lib.cell_of_heap h0Y 0) (by omega) hlen
  have hx : ∀ A : World, Below W.heap.size W A → A.cell? ⟨w.heap.size, 0, none⟩ = some (.string s) ∧ A.cell? ⟨w.heap.size, 1, none⟩ = some (.slice pA pn pc) ∧ A.cell? ⟨w.heap.size, 2, none⟩ = some (.int .i64 r) ∧ A.cell? ⟨w.heap.size, 3, none⟩ = some (.slice iA in_ ic) ∧ A.cell? ⟨w.heap.size, 4, none⟩ = some (.slice bA bn bc) := (fun A hA => by obtain ⟨x0, x1, x2, x3, x4, -⟩ := gr_five ((hA.block w.heap.size (by omega)).trans hfW); exact ⟨x0, x1, x2, x3, x4⟩)
  have hsz : W.heap.size = w.heap.size + 2 := by omega
  have hG2 : ∀ A : World, Below W.heap.size W A → GBs n0 A (.slice bA bn bc) g := fun A hA => (hG.keep (hwW.mono hn)).keep (hA.mono (by omega))
  have hWW : W = (w.alloc (.cells #[.string s, .slice pA pn pc, .int .i64 r, .slice iA in_ ic, .slice bA bn bc] 46)).alloc (.cells #[.slice none 0 0, .slice none 0 0, .slice none 0 0] 128) := by rw [hW, hW1]
  have hres : W.heap[w.heap.size + 1]? = some (.cells #[.slice none 0 0, .slice none 0 0, .slice none 0 0] 128 (0, 0)) := by rw [← hzW1]; exact h0W
  obtain ⟨j1, hj1, jz0, jz1, jz2⟩ := info_parts infoIntG
  have Ji := Lib.hid hj1
  have Jz0 := Lib.hid jz0
  have Jz1 := Lib.hid jz1
  have Jz2 := Lib.hid jz2
  obtain ⟨k1, hk1, kz0, kz1, kz2⟩ := info_parts infoStepD
  have Ki := Lib.hid hk1
  have Kz0 := Lib.hid kz0
  have Kz1 := Lib.hid kz1
  have Kz2 := Lib.hid kz2
  have Hx := Lib.hid hx
  have HG2 := Lib.hid hG2
  have HwW := Lib.hid hwW
  have HWW := Lib.hid hWW
  have HY := Lib.hid hY
  have HbY := Lib.hid hbY
  have HzY := Lib.hid hzY
  have Hres := Lib.hid hres
  have Hsz := Lib.hid hsz
  have Hbn := Lib.hid hbn
  have Hrun := Lib.hid hrun
  clear hj1 jz0 jz1 jz2 hk1 kz0 kz1 kz2 hx hG2 hwW hWW hY hbY hzY hres hsz hbn hrun hW1 hbW1 hzW1 h0W1 hW hbW hzW h0W hfW h0Y hG
  go_enter Try.func77, Try.ntmps77
  go_upto_region 1 with fail
  rw [← HWW.out]
  obtain ⟨x0, x1, x2, x3, x4⟩ := Hx.out W (Below.refl _ _)
  obtain ⟨y0, y1, y2, y3, y4⟩ := Hx.out Y HbY.out
  rw [HY.out] at y0 y1 y2 y3 y4
  go_upto_region 2 with (go_at_call 33; rw [← HY.out]; refine hR.mono ?_; rintro e w2 ⟨tb, rfl, htb, hrow, hb2⟩; have Hrow := Lib.hid hrow; have Hb2 := Lib.hid hb2; have Htb := Lib.hid htb; clear hrow hb2 hR htb)
  clear x0 x1 x2 x3 x4 y0 y1 y2 y3 y4
  obtain ⟨Z, hZ, hbZ, hzZ, h0Z⟩ := gr_one w2 #[.slice none 0 0, .slice (some ⟨tb, 0, none⟩) bn bn, .slice none 0 0] 128
  obtain ⟨X, hX⟩ : ∃ X, X = Z.alloc (.cells #[.int .i64 (-1), .int .i64 0] 152) := ⟨_, rfl⟩
  have hb2 := Hb2.out
  have hYZ : Below Y.heap.size Y Z := hb2.trans (hbZ.mono hb2.size)
  have hrow := Hrow.out
  obtain ⟨F0, hE0⟩ := EnS.first (base := Y.heap.size) h0Z hb2.size Htb.out (by have := hrow.lt; omega) (hrow.keep (hbZ.block tb hrow.lt)) hlen hYZ hX
  have HE0 : Hid (EnK Y.heap.size w2.heap.size bn Y g res k0 (.slice (some ⟨Z.heap.size, 0, none⟩) 1 1) X) := Lib.hid ⟨_, _, _, _, _, _, _, hE0, rfl, by rw [Hbn.out]; exact Hrun.out⟩
  have HX := Lib.hid hX
  have HZ := Lib.hid hZ
  rw [hzZ] at HE0
  have hYE : Y.heap.size ≤ w2.heap.size := hb2.size
  clear hX hZ hbZ hzZ h0Z hb2 hYZ hrow hE0 Hrun Hrow
  go_upto_region 3 with fail
  rw [← HZ.out, ← HX.out]
  clear HZ HX Hb2 Htb
  go_loopw [4] (fun u4 wr => ∃ k, EnK Y.heap.size w2.heap.size bn Y g res k u4 wr) (fun u4 wr => leastN (fun k => EnK Y.heap.size w2.heap.size bn Y g res k u4 wr))
  case atStart => exact ⟨k0, HE0.out⟩
  case round =>
    clear HE0
    obtain ⟨K, hK⟩ : ∃ K, K = leastN (fun k => EnK Y.heap.size w2.heap.size bn Y g res k u4 wr) := ⟨_, rfl⟩
    have hk : EnK Y.heap.size w2.heap.size bn Y g res K u4 wr := by rw [hK]; exact leastN_spec hrel
    have HK := Lib.hid hK
    clear hK hrel
    obtain ⟨vb, vf, tb, e, st, r4, F, hS, hfl, hr⟩ := hk
    have hbY : Below W.heap.size W wr := HbY.out.trans (hS.bw.mono (by have := HzY.out; omega))
    obtain ⟨x0, x1, x2, x3, x4⟩ := Hx.out wr hbY
    have Hfl := Lib.hid hfl
    clear hfl
    obtain ⟨A4, c4, hA4⟩ := gr_slice (hS.sq.at hS.f3)
    obtain ⟨Ab, cb, hAb⟩ := gr_slice (hS.sq.at hS.f0)
    obtain ⟨Af, cf, hAf⟩ := gr_slice (hS.sq.at hS.f2)
    simp only [intR] at hAb hAf
    subst hAb hAf
    cases st with
    | nil =>
      have hre : e = res := by cases K <;> simpa [enRun] using hr
      subst hre
      simp only [stkR, List.length_nil] at hA4
      subst hA4
      have HS := Lib.hid hS
      have c0 := hS.sq.cell 0 _ rfl
      have c1 := hS.sq.cell 1 (.slice (some ⟨tb, 0, none⟩) bn bn) rfl
      have c2 := hS.sq.cell 2 _ rfl
      have hfin : ∀ u, w.heap.size + 1 < W.heap.size := fun _ => by have := Hsz.out; omega
      have hr0 := (hbY.block (w.heap.size + 1) (by have := Hsz.out; omega)).trans Hres.out
      have z0 := Lib.cell_of_heap hr0 0
      have z1 := Lib.cell_of_heap hr0 1
      have z2 := Lib.cell_of_heap hr0 2
      have zf := fun j => Lib.frozen_of_heap hr0 j
      have zf0 := zf 0
      have zf1 := zf 1
      have zf2 := zf 2
      clear zf hfin
      have HB := Lib.hid hbY
      clear hS hr hbY hr0
      go_wp2
      refine bodyPost_ret (v := .agg #[.slice Ab e.blocks.length cb, .slice (some ⟨tb, 0, none⟩) bn bn, .slice Af e.from_.length cf]) (by simp [results, Try.results77, go_sem, z0, z1, z2]) rfl ?_
      have hk : ∀ k, k < wr.heap.size → k ≠ w.heap.size + 1 → (((wr.setCell ⟨w.heap.size + 1, 0, none⟩ (.slice Ab e.blocks.length cb)).setCell ⟨w.heap.size + 1, 1, none⟩ (.slice (some ⟨tb, 0, none⟩) bn bn)).setCell ⟨w.heap.size + 1, 2, none⟩ (.slice Af e.from_.length cf)).heap[k]? = wr.heap[k]? := fun k _ hne => by
        rw [Below.heap_setCell _ _ _ _ (by exact hne), Below.heap_setCell _ _ _ _ (by exact hne), Below.heap_setCell _ _ _ _ (by exact hne)]
      obtain ⟨r1, r2, r3⟩ := enter_res HS.out (by simp [World.setCell]) hk (by have := Hsz.out; have := HzY.out; omega)
      refine ⟨_, _, _, rfl, r1, r2, r3, ?_⟩
      refine (((HwW.out.trans (HB.out.mono (by have := Hsz.out; omega))).setCell (p := ⟨w.heap.size + 1, 0, none⟩) (by show w.heap.size ≤ w.heap.size + 1; omega) _).setCell (p := ⟨w.heap.size + 1, 1, none⟩) (by show w.heap.size ≤ w.heap.size + 1; omega) _).setCell (p := ⟨w.heap.size + 1, 2, none⟩) (by show w.heap.size ≤ w.heap.size + 1; omega) _
    | cons s1 st =>
      obtain ⟨fr, to_⟩ := s1
      cases K with
      | zero => simp [enRun] at hr
      | succ k =>
        have hst := hS.sq.at hS.f3
        simp only [stkR, List.length_cons] at hst hA4
        obtain ⟨p, hp⟩ : ∃ p, p = st.length := ⟨_, rfl⟩
        rw [← hp] at hst hA4
        subst hA4
        obtain ⟨gw, rfl, -, hgwb, hgwl⟩ := gr_some hst (by omega)
        have hcp : p + 1 ≤ c4 := (gr_len hst).1
        have hpb : p < 1048576 := by have := hS.sl; simp at this; omega
        have c0 : wr.cell? ⟨gw, p * 2, none⟩ = some (.int .i64 fr) := by
          rw [hst.cellAt (p * 2) (by omega), stkV, List.getElem?_append_right (by rw [stkV_len]; omega), stkV_len, hp]
          simp
        have c1 : wr.cell? ⟨gw, p * 2 + 1, none⟩ = some (.int .i64 to_) := by
          rw [hst.cellAt (p * 2 + 1) (by omega), stkV, List.getElem?_append_right (by rw [stkV_len]; omega), stkV_len, hp]
          simp
        rw [enRun, Option.bind_eq_some_iff] at hr
        obtain ⟨t, ht, hr⟩ := hr
        obtain ⟨tn, htn, htl, hte⟩ := rdI_some ht
        dsimp only at htn hr
        subst htn
        rw [Int.toNat_natCast] at hr
        have htb : tn < bn := by rw [← hS.tl]; exact htl
        obtain ⟨A, hA, hbA, hzA, h0A⟩ := gr_one wr #[.int .i64 fr, .int .i64 (tn : Int)] 152
        have hSA := (hS.str fr (tn : Int) hA).pop
        rw [← hp] at hSA
        obtain ⟨x0, x1, x2, x3, x4⟩ := Hx.out A (hbY.trans (hbA.mono hbY.size))
        have e0 := hSA.sq.cell 0 _ rfl
        have e1 := hSA.sq.cell 1 _ rfl
        have e2 := hSA.sq.cell 2 _ rfl
        obtain ⟨a0, a1⟩ := hSA.s0
        have a2 : A.cell? ⟨tb, tn, none⟩ = some (.int .i64 t) := by
          rw [hte]
          exact (hSA.sq.whole hSA.f1).cell htl
        have hcut := cut_step (gw := gw) (n := p + 1) (c := c4) p (by omega) hcp (by omega)
        have HSA := Lib.hid hSA
        have HA := Lib.hid hA
        have Hr := Lib.hid hr
        have HbA := Lib.hid (hbY.trans (hbA.mono hbY.size))
        have H0A := Lib.hid h0A
        have Hp := Lib.hid hp
        clear hS hr hbY hst hte ht htl hA hbA hSA h0A hp
        go_upto_region 5 with fail
        rw [← HA.out]
        clear c0 c1
        go_upto_region 6 with fail
        by_cases ht1 : t = -1
        · subst ht1
          have hr := Hr.out
          rw [if_pos rfl] at hr
          split at hr
          · next hq =>
            obtain ⟨hq1, hq2⟩ := hq
            have hSA := HSA.out
            have af := (hSA.sq.whole hSA.f1).fro tn
            have hSB := hSA.turn tn (e.blocks.length : Int)
            obtain ⟨B, hB⟩ : ∃ B, B = A.setCell ⟨tb, tn, none⟩ (.int .i64 (e.blocks.length : Int)) := ⟨_, rfl⟩
            rw [← hB] at hSB
            have hbB : Below W.heap.size W B := HbY.out.trans (hSB.bw.mono (by have := HzY.out; omega))
            obtain ⟨C, hC, hbC, hzC, h0C⟩ := gr_one B #[.int .i64 (tn : Int)] 3
            have hSC := hSB.keep hbC
            have HOW := Lib.hid (hSC.sq.at hSC.f0)
            have HNW := Lib.hid (World.news_of_block h0C)
            have HOn : Hid (∀ u ∈ ([.int .i64 (tn : Int)] : List Value), u.oneCell' = true) := Lib.hid (by intro u hu; simp at hu; subst hu; rfl)
            have hsz2 : Y.heap.size ≤ C.heap.size := hSC.sq.hb
            have b0 := hSB.sq.cell 0 _ rfl
            have b2 := hSB.sq.cell 2 _ rfl
            obtain ⟨ba0, ba1⟩ := hSB.s0
            have d0 := hSC.sq.cell 0 _ rfl
            obtain ⟨da0, da1⟩ := hSC.s0
            simp only [intR] at HOW
            rw [hC] at HOW HNW hsz2 d0 da0 da1
            have HB := Lib.hid hB
            have HC := Lib.hid hC
            have HSC := Lib.hid hSC
            have HzC := Lib.hid hzC
            have HbB := Lib.hid hbB
            have HR2 := Lib.hid hr
            have Hq2 := Lib.hid hq2
            clear hSA hSB hB hbB hC hbC hzC h0C hSC hr HSA HA Hr hq2
            go_upto_region 9 with fail
            rw [← HB.out]
            clear e0 e1 e2 a0 a1 a2 af
            go_wp2_with (at_builtin; refine wpList_append_lies _ rfl (.tmp 48) (.tmp 51) 42 rfl Y.heap.size 3 j1 (.int .i64 0) 1 8 Try.underlying42 Ji.out Jz0.out Jz1.out Jz2.out rfl (by decide) (.slice Ab e.blocks.length cb) e.blocks.length (intsV e.blocks) rfl HOW.out ⟨B.heap.size, 0, none⟩ 1 1 [.int .i64 (tn : Int)] rfl rfl HNW.out HOn.out (by decide) (by unfold maxLen; omega) (by omega) hsz2 _ rfl ?_)
            intro gp cp w5 hown5 hgrow hat hlt5
            rw [← HC.out] at hgrow
            have hat' : ∀ g, (Value.slice (some ⟨gp, 0, none⟩) (e.blocks.length + 1) cp).ownBlock = some g → (Value.slice Ab e.blocks.length cb).ownBlock = some g ∨ C.heap.size ≤ g := fun g ee => by
              simp only [Value.ownBlock, Option.some.injEq] at ee
              subst ee
              rcases hat with h | h
              · exact .inl h
              · exact .inr (by rw [h, HzC.out]; exact Nat.le_refl _)
            have hM := HSC.out.sq.grown 0 (by rw [HSC.out.f0]; exact hgrow) (intR (.slice (some ⟨gp, 0, none⟩) (e.blocks.length + 1) cp) (e.blocks ++ [(tn : Int)])) (by simpa [intR, intsV] using hown5) (fun g ee => by rw [HSC.out.f0]; exact hat' g ee)
            have m0 := hM.cell 0 _ rfl
            have mf := hM.fro 0
            have hSD := HSC.out.blk hgrow hown5 hat' hq1
            obtain ⟨D, hD⟩ : ∃ D, D = w5.setCell ⟨w2.heap.size, 0, none⟩ (.slice (some ⟨gp, 0, none⟩) (e.blocks.length + 1) cp) := ⟨_, rfl⟩
            rw [← hD] at hSD
            have hbD : Below W.heap.size W D := HbY.out.trans (hSD.bw.mono (by have := HzY.out; omega))
            obtain ⟨C2, hC2, hbC2, hzC2, h0C2⟩ := gr_one D #[.int .i64 fr] 3
            have hSC2 := hSD.keep hbC2
            have HOW2 := Lib.hid (hSC2.sq.at hSC2.f2)
            have HNW2 := Lib.hid (World.news_of_block h0C2)
            have HOn2 : Hid (∀ u ∈ ([.int .i64 fr] : List Value), u.oneCell' = true) := Lib.hid (by intro u hu; simp at hu; subst hu; rfl)
            have hsz3 : Y.heap.size ≤ C2.heap.size := hSC2.sq.hb
            have g2 := hSD.sq.cell 2 _ rfl
            obtain ⟨ga0, ga1⟩ := hSD.s0
            have k2 := hSC2.sq.cell 2 _ rfl
            obtain ⟨ka0, ka1⟩ := hSC2.s0
            simp only [intR] at HOW2
            rw [hC2] at HOW2 HNW2 hsz3 k2 ka0 ka1
            have HD := Lib.hid hD
            have HC2 := Lib.hid hC2
            have HSC2 := Lib.hid hSC2
            have HzC2 := Lib.hid hzC2
            clear hown5 hgrow hat hlt5 hat' hM hSD hD hbD hC2 hbC2 hzC2 h0C2 hSC2 HOW HNW hsz2 HC HSC HB
            go_upto_region 10 with fail
            rw [← HD.out]
            clear m0 mf b0 b2 ba0 ba1 d0 da0 da1
            have hfl2 : e.from_.length < 1048576 := by rw [Hfl.out]; exact hq1
            go_wp2_with (at_builtin; refine wpList_append_lies _ rfl (.tmp 55) (.tmp 58) 42 rfl Y.heap.size 3 j1 (.int .i64 0) 1 8 Try.underlying42 Ji.out Jz0.out Jz1.out Jz2.out rfl (by decide) (.slice Af e.from_.length cf) e.from_.length (intsV e.from_) rfl HOW2.out ⟨D.heap.size, 0, none⟩ 1 1 [.int .i64 fr] rfl rfl HNW2.out HOn2.out (by decide) (by unfold maxLen; omega) (by omega) hsz3 _ rfl ?_)
            intro gq cq w6 hown6 hgrow6 hat6 hlt6
            rw [← HC2.out] at hgrow6
            have hat' : ∀ g, (Value.slice (some ⟨gq, 0, none⟩) (e.from_.length + 1) cq).ownBlock = some g → (Value.slice Af e.from_.length cf).ownBlock = some g ∨ C2.heap.size ≤ g := fun g ee => by
              simp only [Value.ownBlock, Option.some.injEq] at ee
              subst ee
              rcases hat6 with h | h
              · exact .inl h
              · exact .inr (by rw [h, HzC2.out]; exact Nat.le_refl _)
            have hM := HSC2.out.sq.grown 2 (by rw [HSC2.out.f2]; exact hgrow6) (intR (.slice (some ⟨gq, 0, none⟩) (e.from_.length + 1) cq) (e.from_ ++ [fr])) (by simpa [intR, intsV] using hown6) (fun g ee => by rw [HSC2.out.f2]; exact hat' g ee)
            have m2 := hM.cell 2 _ rfl
            have mf := hM.fro 2
            have hSG := HSC2.out.frm hgrow6 hown6 hat'
            obtain ⟨G, hGG⟩ : ∃ G, G = w6.setCell ⟨w2.heap.size, 2, none⟩ (.slice (some ⟨gq, 0, none⟩) (e.from_.length + 1) cq) := ⟨_, rfl⟩
            rw [← hGG] at hSG
            have hbG : Below W.heap.size W G := HbY.out.trans (hSG.bw.mono (by have := HzY.out; omega))
            obtain ⟨x0, x1, x2, x3, x4⟩ := Hx.out G hbG
            obtain ⟨qa0, qa1⟩ := hSG.s0
            have htg : tn < g.length := by rw [← Hbn.out]; exact htb
            obtain ⟨qb, o, qA, qc, tA, tc, lA, ln, lc, rfl, hqb, z0, z1, z2, z3, z4, rp, rt, hok⟩ := (HG2.out G hbG).at htg
            have hto : tosG g tn = g[tn].to_ := tosG_at htg
            obtain ⟨tos, htos⟩ : ∃ l, l = g[tn].to_ := ⟨_, rfl⟩
            obtain ⟨m, hm⟩ : ∃ m, m = tos.length := ⟨_, rfl⟩
            have hmb : m ≤ 1048576 := by rw [hm, htos]; exact hok.2.2.1
            rw [← htos] at hto z4 rt
            rw [← hm] at z4 rt
            have hst2 := Hq2.out
            rw [hto, ← hm, ← Hp.out] at hst2
            have HGG := Lib.hid hGG
            have HSG := Lib.hid hSG
            have Hm := Lib.hid hm
            have Hto := Lib.hid hto
            have hbGG : Below G.heap.size G G := Below.refl _ _
            have hrt : ∀ X : World, Below Y.heap.size Y X → GNs n0 X (.slice tA m tc) tos := fun X hX => GNs_same rt (fun k hk => (hX.block k (by have := Hsz.out; have := HzY.out; omega)).trans ((HSG.out.bw).block k (by have := Hsz.out; have := HzY.out; omega)).symm)
            have Hrt := Lib.hid hrt
            clear hown6 hgrow6 hat6 hlt6 hat' hM hSG hGG hbG HOW2 HNW2 hsz3 HC2 HSC2 HD hfl2 hm hto htos rp rt hok hqb z0 z1 z2 z3 hrt hbGG
            go_upto_region 11 with fail
            rw [← HGG.out]
            clear g2 ga0 ga1 k2 ka0 ka1 m2 mf
            go_upto_region 12 with fail
            clear x0 x1 x2 x3 x4 qa0 qa1 z4
            obtain ⟨e2, he2⟩ : ∃ e2 : En, e2 = ⟨e.blocks ++ [(tn : Int)], e.turn.set tn (e.blocks.length : Int), e.from_ ++ [fr]⟩ := ⟨_, rfl⟩
            obtain ⟨bl, hbl⟩ : ∃ bl, bl = e.blocks.length := ⟨_, rfl⟩
            have hr2 := HR2.out
            rw [← he2, Hto.out] at hr2
            have HR3 := Lib.hid hr2
            have HI0 : Hid (EnS Y.heap.size w2.heap.size bn Y G (.slice (some ⟨gp, 0, none⟩) (e.blocks.length + 1) cp) (.slice (some ⟨gq, 0, none⟩) (e.from_.length + 1) cq) (.slice (some ⟨gw, 0, none⟩) p c4) tb e2 (pushT (e.blocks.length : Int) (tos.take 0) st) (sR wr.heap.size fr tn) (upG (upG (upG (upG (upG F 4 (sR wr.heap.size fr tn)) 3 (stkR (.slice (some ⟨gw, 0, none⟩) p c4) st)) 1 (wholeR tb (e.turn.set tn (e.blocks.length : Int)))) 0 (intR (.slice (some ⟨gp, 0, none⟩) (e.blocks.length + 1) cp) (e.blocks ++ [(tn : Int)]))) 2 (intR (.slice (some ⟨gq, 0, none⟩) (e.from_.length + 1) cq) (e.from_ ++ [fr])))) := Lib.hid (by rw [he2]; exact HSG.out)
            have hfl3 : e2.from_.length = e2.blocks.length := by rw [he2]; simp [Hfl.out]
            have Hfl3 := Lib.hid hfl3
            have hbl2 : bl < 1048576 := by omega
            rw [← hbl] at HI0 HR3 ⊢
            clear hr2 HR2 Hto HSG hfl3 he2 HGG HbA hbl
            go_loopw [70, 4] (fun u70 u4 wx => ∃ (i : Nat) (r4 : GRw) (F : Nat → GRw), i ≤ m ∧ u70 = .int .i64 i ∧ Hid (EnS Y.heap.size w2.heap.size bn Y wx (.slice (some ⟨gp, 0, none⟩) (bl + 1) cp) (.slice (some ⟨gq, 0, none⟩) (e.from_.length + 1) cq) u4 tb e2 (pushT (bl : Int) (tos.take i) st) r4 F)) (fun u70 _ _ => m - (intOf u70).toNat)
            case atStart => exact ⟨0, _, _, Nat.zero_le _, rfl, HI0⟩
            case round =>
              clear HI0
              obtain ⟨i, r5, F5, hi, rfl, HI⟩ := hrel
              have hS := HI.out
              obtain ⟨A5, c5, hA5⟩ := gr_slice (hS.sq.at hS.f3)
              obtain ⟨q, hq⟩ : ∃ q, q = (pushT (bl : Int) (tos.take i) st).length := ⟨_, rfl⟩
              simp only [stkR] at hA5
              rw [← hq] at hA5
              subst hA5
              have hq3 : q ≤ i + p := by
                rw [hq, pushT_len, List.length_take, Hp.out]
                omega
              by_cases hlti : i < m
              · have hil : i < tos.length := by rw [← Hm.out]; exact hlti
                obtain ⟨b1, o1, rfl, hb1, hc⟩ := (Hrt.out wr hS.bw).at hil
                have hsn : tos.take (i + 1) = tos.take i ++ [tos[i]] := List.take_succ_eq_append_getElem hil
                obtain ⟨x, hx⟩ : ∃ x, x = tos[i] := ⟨_, rfl⟩
                rw [← hx] at hc hsn
                obtain ⟨C3, hC3, hbC3, hzC3, h0C3⟩ := gr_one wr #[.int .i64 (bl : Int), .int .i64 x] 152
                have hSC3 := hS.keep hbC3
                have HOW3 := Lib.hid (hSC3.sq.at hSC3.f3)
                have HNW3 := Lib.hid (World.news_of_block h0C3)
                have HOn3 : Hid (∀ u ∈ ([.int .i64 (bl : Int), .int .i64 x] : List Value), u.oneCell' = true) := Lib.hid (by intro u hu; simp at hu; rcases hu with rfl | rfl <;> rfl)
                have hsz4 : Y.heap.size ≤ C3.heap.size := hSC3.sq.hb
                simp only [stkR] at HOW3
                rw [← hq] at HOW3
                rw [hC3] at HOW3 HNW3 hsz4
                have HC3 := Lib.hid hC3
                have HSC3 := Lib.hid hSC3
                have HzC3 := Lib.hid hzC3
                have Hq := Lib.hid hq
                have Hsn := Lib.hid hsn
                clear hS hb1 hx hsn hC3 hbC3 hzC3 h0C3 hSC3 HI hq hil
                go_wp2_with (at_builtin; refine wpList_append_lies _ rfl (.tmp 74) (.tmp 78) 153 rfl Y.heap.size 152 k1 (.agg #[.int .i64 0, .int .i64 0]) 2 16 Try.underlying153 Ki.out Kz0.out Kz1.out Kz2.out rfl (by decide) (.slice A5 q c5) q (stkV (pushT (bl : Int) (tos.take i) st)) rfl HOW3.out ⟨wr.heap.size, 0, none⟩ 1 1 [.int .i64 (bl : Int), .int .i64 x] rfl rfl HNW3.out HOn3.out (by decide) (by unfold maxLen; omega) (by omega) hsz4 _ rfl ?_)
                intro gx cx w7 hown7 hgrow7 hat7 hlt7
                rw [← HC3.out] at hgrow7
                have hat' : ∀ g, (Value.slice (some ⟨gx, 0, none⟩) (q + 1) cx).ownBlock = some g → (Value.slice A5 q c5).ownBlock = some g ∨ C3.heap.size ≤ g := fun g ee => by
                  simp only [Value.ownBlock, Option.some.injEq] at ee
                  subst ee
                  rcases hat7 with h | h
                  · exact .inl h
                  · exact .inr (by rw [h, HzC3.out]; exact Nat.le_refl _)
                have hS7 := HSC3.out.push (s := ((bl : Int), x)) hgrow7 (by rw [← Hq.out]; exact hown7) hat' (by rw [← Hq.out]; omega)
                rw [← pushT_snoc, ← Hsn.out] at hS7
                have HS7 := Lib.hid hS7
                clear hown7 hgrow7 hat7 hlt7 hat' hS7 HOW3 HNW3 hsz4 HC3 HSC3
                go_wp2
                go_roundw
                case rel => exact ⟨i + 1, _, _, by omega, by go_num, HS7⟩
                case measure => simp [intOf]; omega
              · obtain rfl : i = m := by omega
                have htk : tos.take i = tos := by rw [Hm.out, List.take_length]
                rw [htk] at hS
                have HN : Hid (EnK Y.heap.size w2.heap.size bn Y g res k (.slice A5 q c5) wr) := Lib.hid ⟨_, _, _, _, _, _, _, hS, Hfl3.out, HR3.out⟩
                clear hS htk HI hq
                go_wp2
                go_roundw
                case rel => exact ⟨k, HN.out⟩
                case measure => rw [← HK.out]; exact Nat.lt_succ_of_le (leastN_le HN.out)
          · cases hr
        · have hb1 : (t != (-1)) = true := by simpa using ht1
          have HN : Hid (EnK Y.heap.size w2.heap.size bn Y g res k (.slice (some ⟨gw, 0, none⟩) p c4) A) := Lib.hid ⟨_, _, _, _, _, _, _, HSA.out, Hfl.out, by have := Hr.out; rw [if_neg ht1] at this; exact this⟩
          go_wp2
          go_roundw
          case rel => exact ⟨k, HN.out⟩
          case measure => rw [← HK.out]; exact Nat.lt_succ_of_le (leastN_le HN.out)
end Go.Proofs.Ytglobeajmdieaaa
