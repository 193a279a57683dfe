/-
  Blocks on all ways: dom.back.
-/
import Derived.Test.YtglobeajmdieaaaJe18
import Derived.Test.YtglobeajmdieaaaJe26
namespace Go.Proofs.Ytglobeajmdieaaa
set_option linter.unusedVariables false
set_option linter.unusedSimpArgs false
open Go.RowKit Go.Shelf

set_option maxRecDepth 100000 in
set_option maxHeartbeats 16000000 in
theorem back_g (n0 : Nat) (f vb vt vf : Value) (g : List GB) (en : En) (ls0 : List (List Int)) (m : Nat) (w : World) (hf : GF n0 w f g) (hn : n0 ≤ w.heap.size) (hvb : GNs w.heap.size w vb en.blocks) (hvt : GNs w.heap.size w vt en.turn) (hvf : ∃ A n c, vf = .slice A n c)
    (hm : m = en.blocks.length) (hml : m ≤ 1048576) (htl : en.turn.length ≤ 1048576) (hrun : bkRun g en.turn 0 en.blocks (List.replicate m []) = some ls0) :
    Calls Try.prog 80 #[f, .agg #[vb, vt, vf]] w fun x w' => ∃ gb F vs, x = .returned (.slice (some ⟨gb, 0, none⟩) m m) ∧ Sq 128 w' (w.heap.size + 1) (w.heap.size + 1) F [vb, vt, vf] ∧ RowsAt F 0 gb m vs ls0 ∧ Below w.heap.size w w' := by
  obtain ⟨s, pA, pn, pc, r, iA, in_, ic, bA, bn, bc, rfl, hG, hbn⟩ := hf
  obtain ⟨Ab, cb, rfl, -⟩ := id hvb
  obtain ⟨At, ct, rfl, -⟩ := id hvt
  obtain ⟨Af, nf, cf, rfl⟩ := hvf
  rw [← hm] at hvb ⊢
  obtain ⟨tl, htl2⟩ : ∃ tl, tl = en.turn.length := ⟨_, rfl⟩
  rw [← htl2] at hvt htl ⊢
  obtain ⟨W1, hW1, hbW1, hzW1, h0W1⟩ := gr_one w #[.string s, .slice pA pn pc, .int .i64 r, .slice iA in_ ic, .slice bA bn bc] 46
  obtain ⟨W, hW, hbW, hzW, h0W⟩ := gr_one W1 #[.slice Ab m cb, .slice At tl ct, .slice Af nf cf] 128
  rw [hzW1] at h0W hzW
  have hfW := (hbW.block w.heap.size (gr_in h0W1)).trans h0W1
  have hwW : Below w.heap.size w W := hbW1.trans (hbW.mono hbW1.size)
  have hx : ∀ A : World, Below (w.heap.size + 1) W A → A.cell? ⟨w.heap.size, 0, none⟩ = some (.string s) ∧ A.cell? ⟨w.heap.size, 1, none⟩ = some (.slice pA pn pc) ∧ A.cell? ⟨w.heap.size, 2, none⟩ = some (.int .i64 r) ∧ A.cell? ⟨w.heap.size, 3, none⟩ = some (.slice iA in_ ic) ∧ A.cell? ⟨w.heap.size, 4, none⟩ = some (.slice bA bn bc) := (fun A hA => by obtain ⟨x0, x1, x2, x3, x4, -⟩ := gr_five ((hA.block w.heap.size (by omega)).trans hfW); exact ⟨x0, x1, x2, x3, x4⟩)
  have hG2 : ∀ A : World, Below (w.heap.size + 1) W A → GBs n0 A (.slice bA bn bc) g := fun A hA => (hG.keep (hwW.mono hn)).keep (hA.mono (by omega))
  have hvb2 : ∀ A : World, Below (w.heap.size + 1) W A → GNs w.heap.size A (.slice Ab m cb) en.blocks := fun A hA => (hvb.keep hwW).keep (hA.mono (by omega))
  have hvt2 : ∀ A : World, Below (w.heap.size + 1) W A → GNs w.heap.size A (.slice At tl ct) en.turn := fun A hA => (hvt.keep hwW).keep (hA.mono (by omega))
  have hWW : W = (w.alloc (.cells #[.string s, .slice pA pn pc, .int .i64 r, .slice iA in_ ic, .slice bA bn bc] 46)).alloc (.cells #[.slice Ab m cb, .slice At tl ct, .slice Af nf cf] 128) := by rw [hW, hW1]
  have hsq0 := Sq.start (base := w.heap.size + 1) (cs := [.slice Ab m cb, .slice At tl ct, .slice Af nf cf]) h0W (Nat.le_refl _)
  obtain ⟨i0, hi0, hz0, hz1, hz2⟩ := info_parts infoRowsG
  have Hi := Lib.hid hi0
  have Hz0 := Lib.hid hz0
  have Hz1 := Lib.hid hz1
  have Hz2 := Lib.hid hz2
  obtain ⟨j1, hj1, jz0, jz1, jz2⟩ := info_parts infoIntG
  have Ji := Lib.hid hj1
  have Jz0 := Lib.hid jz0
  have Jz1 := Lib.hid jz1
  have Jz2 := Lib.hid jz2
  have Hx := Lib.hid hx
  have HG2 := Lib.hid hG2
  have Hvb := Lib.hid hvb2
  have Hvt := Lib.hid hvt2
  have HwW := Lib.hid hwW
  have HWW := Lib.hid hWW
  have HzW := Lib.hid hzW
  have Hsq0 := Lib.hid hsq0
  have Hbn := Lib.hid hbn
  have Hm := Lib.hid hm
  have Htl := Lib.hid htl2
  have Hrun := Lib.hid hrun
  clear hi0 hz0 hz1 hz2 hj1 jz0 jz1 jz2 hx hG2 hvb hvb2 hvt hvt2 hwW hWW hzW hsq0 hbn hm htl2 hrun hW1 hbW1 hzW1 h0W1 hW hbW h0W hfW hG
  go_enter Try.func80, Try.ntmps80
  go_upto_region 1 with fail
  rw [← HWW.out]
  have b0 := Hsq0.out.cell 0 _ rfl
  go_wp2_with (at_make; refine wpList_make_full _ rfl (.tmp 12) (.tmp 12) 96 rfl W.heap.size 42 i0 (.slice none 0 0) 1 Try.underlying96 Hi.out Hz0.out Hz1.out _ _ _ _ m rfl rfl rfl rfl (by rw [Hz2.out]; omega) (by unfold maxLen; omega) (Nat.le_refl _) ?_)
  intro w3 ho3 hg3
  have hb3 : Below W.heap.size W w3 := (Below.refl _ _).grown hg3 (Nat.le_refl _) (fun k e => by cases e)
  rw [toList_madeCells_one] at ho3
  have hsq3 := Hsq0.out.new 0 rfl hb3 ⟨42, 1, .slice (some ⟨W.heap.size, 0, none⟩) m m, m, List.replicate m (.slice none 0 0)⟩ ho3
  have hra3 := RowsAt.start (F := fun _ => noRow) (k := 0) (gb := W.heap.size) (m := m) (fun _ _ => rfl)
  have hzW := HzW.out
  have hWw3 : Below (w.heap.size + 1) W w3 := hb3.mono (by omega)
  obtain ⟨gb, hgb⟩ : ∃ gb, gb = W.heap.size := ⟨_, rfl⟩
  have hBg : w.heap.size + 1 < gb := by omega
  rw [← hgb] at hsq3 hra3 ⊢
  have HI0 : Hid (Sq 128 w3 (w.heap.size + 1) (w.heap.size + 1) (upG (fun _ => noRow) 0 ⟨42, 1, .slice (some ⟨gb, 0, none⟩) m m, m, List.replicate m (.slice none 0 0)⟩) [.slice Ab m cb, .slice At tl ct, .slice Af nf cf]) := Lib.hid hsq3
  have HR0 := Lib.hid hra3
  have HB0 := Lib.hid hWw3
  have HN0 : Hid (bkRun g en.turn 0 (en.blocks.drop 0) (List.replicate m []) = some ls0) := Lib.hid Hrun.out
  have b0 := hsq3.cell 0 _ rfl
  clear ho3 hg3 hb3 hsq3 hra3 hWw3 Hrun Hsq0 hzW hgb
  go_upto_region 3 with fail
  clear b0
  go_loopw [17] (fun u17 wr => ∃ (i : Nat) (F : Nat → GRw) (vs : List Value) (ls : List (List Int)), i ≤ m ∧ u17 = .int .i64 i ∧ Hid (Sq 128 wr (w.heap.size + 1) (w.heap.size + 1) F [.slice Ab m cb, .slice At tl ct, .slice Af nf cf]) ∧ Hid (RowsAt F 0 gb m vs ls) ∧ Hid (Below (w.heap.size + 1) W wr) ∧ Hid (bkRun g en.turn i (en.blocks.drop i) ls = some ls0)) (fun u17 _ => m - (intOf u17).toNat)
  case atStart => exact ⟨0, _, _, _, Nat.zero_le _, rfl, HI0, HR0, HB0, HN0⟩
  case round =>
    clear HI0 HR0 HB0 HN0
    obtain ⟨i, F, vs, ls, hi, rfl, HS, HR, HBl, HN⟩ := hrel
    by_cases hlt : i < m
    · have hil : i < en.blocks.length := by rw [← Hm.out]; exact hlt
      obtain ⟨b1, o1, rfl, hb1, hc1⟩ := (Hvb.out wr HBl.out).at hil
      have hr := HN.out
      rw [List.drop_eq_getElem_cons hil, bkRun] at hr
      obtain ⟨bv, hbv⟩ : ∃ bv, bv = en.blocks[i] := ⟨_, rfl⟩
      rw [← hbv] at hr hc1
      split at hr
      · next hq =>
        obtain ⟨bn1, rfl⟩ : ∃ k : Nat, bv = k := ⟨bv.toNat, by omega⟩
        rw [Int.toNat_natCast, Option.bind_eq_some_iff] at hr
        obtain ⟨mid, hmid, hr⟩ := hr
        have hbg : bn1 < g.length := by omega
        obtain ⟨x0, x1, x2, x3, x4⟩ := Hx.out wr HBl.out
        obtain ⟨qb, o, qA, qc, tA, tc, lA, ln, lc, rfl, hqb, z0, z1, z2, z3, z4, rp, rt, hok⟩ := (HG2.out wr HBl.out).at hbg
        have hto : tosG g bn1 = g[bn1].to_ := tosG_at hbg
        obtain ⟨tos, htos⟩ : ∃ l, l = g[bn1].to_ := ⟨_, rfl⟩
        obtain ⟨mt, hmt⟩ : ∃ mt, mt = tos.length := ⟨_, rfl⟩
        have hmb : mt ≤ 1048576 := by rw [hmt, htos]; exact hok.2.2.1
        rw [← htos] at hto z4 rt
        rw [← hmt] at z4 rt
        have hbb : bn1 < bn := by rw [Hbn.out]; exact hbg
        have hrt : ∀ X : World, Below (w.heap.size + 1) W X → GNs n0 X (.slice tA mt tc) tos := fun X hX => GNs_same rt (fun k hk => (hX.block k (by omega)).trans ((HBl.out).block k (by omega)).symm)
        rw [hto] at hmid
        have HN1 : Hid (bkIns en.turn (i : Int) (tos.drop 0) ls = some mid) := Lib.hid hmid
        have Hr := Lib.hid hr
        have Hrt := Lib.hid hrt
        have Hmt := Lib.hid hmt
        clear hr hmid hto htos rp rt hok hqb z0 z1 z2 z3 hrt hmt hb1 hbv hq HN hil
        go_upto_region 6 with fail
        clear x0 x1 x2 x3 x4 z4 hc1
        go_loopw [30] (fun u30 wr => ∃ (k : Nat) (F : Nat → GRw) (vs : List Value) (ls : List (List Int)), k ≤ mt ∧ u30 = .int .i64 k ∧ Hid (Sq 128 wr (w.heap.size + 1) (w.heap.size + 1) F [.slice (some ⟨b1, o1, none⟩) m cb, .slice At tl ct, .slice Af nf cf]) ∧ Hid (RowsAt F 0 gb m vs ls) ∧ Hid (Below (w.heap.size + 1) W wr) ∧ Hid (bkIns en.turn (i : Int) (tos.drop k) ls = some mid)) (fun u30 _ => mt - (intOf u30).toNat)
        case atStart => exact ⟨0, _, _, _, Nat.zero_le _, rfl, HS, HR, HBl, HN1⟩
        case round =>
          clear HS HR HBl HN1
          obtain ⟨k, F, vs, ls, hk, rfl, HS, HR, HBl, HN1⟩ := hrel
          by_cases hltk : k < mt
          · have hkl : k < tos.length := by rw [← Hmt.out]; exact hltk
            obtain ⟨b2, o2, rfl, hb2, hc2⟩ := (Hrt.out wr HBl.out).at hkl
            have hr2 := HN1.out
            rw [List.drop_eq_getElem_cons hkl, bkIns, Option.bind_eq_some_iff] at hr2
            obtain ⟨t0, ht0, hr2⟩ := hr2
            obtain ⟨xv, hxv⟩ : ∃ xv, xv = tos[k] := ⟨_, rfl⟩
            rw [← hxv] at hc2 ht0
            obtain ⟨xn, rfl, hxl, ht0e⟩ := rdI_some ht0
            split at hr2
            · next hq =>
              obtain ⟨hq0, hq1, hq2⟩ := hq
              obtain ⟨t, rfl⟩ : ∃ t : Nat, t0 = t := ⟨t0.toNat, by omega⟩
              rw [Int.toNat_natCast] at hr2 hq2
              have htm : t < m := by have := HR.out.2.1; omega
              obtain ⟨v, l, hv, hl, hld, hFt⟩ := HR.out.at htm
              rw [hld] at hr2 hq2
              have hP := HS.out.at hFt
              obtain ⟨PA, PC, hPV⟩ := gr_slice hP
              simp only [intR] at hPV hP
              subst hPV
              obtain ⟨b3, o3, rfl, hb3, hc3⟩ := (Hvt.out wr HBl.out).at hxl
              have hte : en.turn[xn] = (t : Int) := by rw [ht0e]; simp [List.getD, hxl]
              rw [hte] at hc3
              have c0 := HS.out.cell 1 _ rfl
              have p1 := HR.out.cell HS.out hv
              have htb : xn < tl := by rw [Htl.out]; exact hxl
              obtain ⟨Y, hY, hbY, hzY, h0Y⟩ := gr_one wr #[.int .i64 (i : Int)] 3
              have hbD : Below wr.heap.size wr Y.drew := hbY.drew
              have hSD := HS.out.keep hbD
              have HOW := Lib.hid (gr_up hP hbD)
              have HNW := Lib.hid (World.news_of_block (w := Y.drew) h0Y)
              have HOn : Hid (∀ u ∈ ([.int .i64 (i : Int)] : List Value), u.oneCell' = true) := Lib.hid (by intro u hu; simp at hu; subst hu; rfl)
              have hsz2 : w.heap.size + 1 ≤ Y.drew.heap.size := hSD.hb
              have gd : wr.drew.cell? ⟨w.heap.size + 1, 1, none⟩ = some (.slice (some ⟨b3, o3, none⟩) tl ct) ∧ wr.drew.cell? ⟨b3, o3 + xn, none⟩ = some (.int .i64 (t : Int)) := ⟨c0, hc3⟩
              have hb3l : b3 < wr.heap.size := gr_clt hc3
              have ga : Y.drew.cell? ⟨w.heap.size + 1, 1, none⟩ = some (.slice (some ⟨b3, o3, none⟩) tl ct) ∧ Y.drew.cell? ⟨b3, o3 + xn, none⟩ = some (.int .i64 (t : Int)) := ⟨hSD.cell 1 _ rfl, (hbD.cell (p := ⟨b3, _, none⟩) hb3l).trans hc3⟩
              have pa : Y.drew.cell? ⟨gb, t, none⟩ = some (.slice PA l.length PC) := HR.out.cell hSD hv
              rw [hY] at HOW HNW hsz2 ga pa
              have HY := Lib.hid (show Y.drew = (wr.alloc (.cells #[.int .i64 (i : Int)] 3)).drew by rw [hY])
              have HbD := Lib.hid hbD
              have HzY := Lib.hid (show Y.drew.heap.size = wr.heap.size + 1 from hzY)
              have HSD := Lib.hid hSD
              have Hv := Lib.hid hv
              have Hl := Lib.hid hl
              have Hr2 := Lib.hid hr2
              have HS0 : w.heap.size + 1 ≤ wr.heap.size := HS.out.hb
              have Hb3 := Lib.hid (show b3 < w.heap.size from hb3)
              clear hr2 ht0 hxv hxl ht0e hld hFt hP hte hY hbY hzY h0Y hbD hSD hv hl hb2 hb3 hkl HN1 HS
              go_upto_region 8 with fail
              clear hc2 c0 hc3
              refine wp_region_noPanic ?_
              refine wp_region_held_drew (S := fun w' => w'.cell? ⟨w.heap.size + 1, 1, none⟩ = some (.slice (some ⟨b3, o3, none⟩) tl ct) ∧ w'.cell? ⟨b3, o3 + xn, none⟩ = some (.int .i64 (t : Int))) (by kernel_rfl) gd (fun hHeld => ?_)
              refine wpAnyH_take (i := 0) (v := ?_) rfl (by kernel_rfl) (by kernel_rfl) (by kernel_rfl) (fun _ _ _ h => h) (Or.inl ⟨by rfl, ?_⟩) (by assumption) ?_
              rotate_left
              · (intro w hSw; (try dsimp only at hSw); first | (go_simp; done) | (go_simp; with_reducible rfl))
              try simp only [Act.put, List.setIfInBounds_toArray, List.set_cons_zero, List.set_cons_succ]
              refine wpAnyH_take (i := 1) (v := ?_) rfl (by kernel_rfl) (by kernel_rfl) (by kernel_rfl) (fun _ _ _ h => h) (Or.inl ⟨by rfl, ?_⟩) (by assumption) ?_
              rotate_left
              · (intro w hSw; (try dsimp only at hSw); first | (go_simp; done) | (go_simp; with_reducible rfl))
              try simp only [Act.put, List.setIfInBounds_toArray, List.set_cons_zero, List.set_cons_succ]
              refine wpAnyH_take (i := 2) (v := ?_) rfl (by kernel_rfl) (by kernel_rfl) (by kernel_rfl) (fun _ _ _ h => h) (Or.inl ⟨by rfl, ?_⟩) (by assumption) ?_
              rotate_left
              · (intro w hSw; (try dsimp only at hSw); first | (go_simp; done) | (go_simp; with_reducible rfl))
              try simp only [Act.put, List.setIfInBounds_toArray, List.set_cons_zero, List.set_cons_succ]
              refine wpAnyH_take (i := 3) (v := ?_) rfl (by kernel_rfl) (by kernel_rfl) (by kernel_rfl) (fun _ _ _ h => h) (Or.inl ⟨by rfl, ?_⟩) (by assumption) ?_
              rotate_left
              · (intro w hSw; (try dsimp only at hSw); first | (go_simp; done) | (go_simp; with_reducible rfl))
              try simp only [Act.put, List.setIfInBounds_toArray, List.set_cons_zero, List.set_cons_succ]
              refine wpAnyH_take (i := 4) (v := ?_) rfl (by kernel_rfl) (by kernel_rfl) (by kernel_rfl) (fun _ _ _ h => h) (Or.inl ⟨by rfl, ?_⟩) (by assumption) ?_
              rotate_left
              · (intro w hSw; (try dsimp only at hSw); first | (go_simp; done) | (go_simp; with_reducible rfl))
              try simp only [Act.put, List.setIfInBounds_toArray, List.set_cons_zero, List.set_cons_succ]
              refine wpAnyH_take (i := 5) (v := ?_) rfl (by kernel_rfl) (by kernel_rfl) (by kernel_rfl) (fun _ _ _ h => h) (Or.inl ⟨by rfl, ?_⟩) (by assumption) ?_
              rotate_left
              · (intro w hSw; (try dsimp only at hSw); first | (go_simp; done) | (go_simp; with_reducible rfl))
              try simp only [Act.put, List.setIfInBounds_toArray, List.set_cons_zero, List.set_cons_succ]
              refine wpAnyH_take (i := 6) (v := ?_) rfl (by kernel_rfl) (by kernel_rfl) (by kernel_rfl) (fun _ _ _ h => h) (Or.inl ⟨by rfl, ?_⟩) (by assumption) ?_
              rotate_left
              · (intro w hSw; (try dsimp only at hSw); first | (go_simp; done) | (go_simp; with_reducible rfl))
              try simp only [Act.put, List.setIfInBounds_toArray, List.set_cons_zero, List.set_cons_succ]
              refine wpAnyH_take (i := 7) (v := ?_) rfl (by kernel_rfl) (by kernel_rfl) (by kernel_rfl) (fun _ _ _ h => h) (Or.inl ⟨by rfl, ?_⟩) (by assumption) ?_
              rotate_left
              · (intro w hSw; (try dsimp only at hSw); first | (go_simp; done) | (go_simp; with_reducible rfl))
              try simp only [Act.put, List.setIfInBounds_toArray, List.set_cons_zero, List.set_cons_succ]
              refine wpAnyH_take (i := 8) (v := ?_) rfl (by kernel_rfl) (by kernel_rfl) (by kernel_rfl) (fun _ _ _ h => h) (Or.inl ⟨by rfl, ?_⟩) (by assumption) ?_
              rotate_left
              · (intro w hSw; (try dsimp only at hSw); first | (go_simp; done) | (go_simp; with_reducible rfl))
              try simp only [Act.put, List.setIfInBounds_toArray, List.set_cons_zero, List.set_cons_succ]
              refine wpAnyH_take (i := 9) (v := ?_) rfl (by kernel_rfl) (by kernel_rfl) (by kernel_rfl) (fun _ _ _ h => h) (Or.inl ⟨by rfl, ?_⟩) (by assumption) ?_
              rotate_left
              · (intro w hSw; (try dsimp only at hSw); first | (go_simp; done) | (go_simp; with_reducible rfl))
              try simp only [Act.put, List.setIfInBounds_toArray, List.set_cons_zero, List.set_cons_succ]
              refine wpAnyH_take (i := 10) (v := ?_) rfl (by kernel_rfl) (by kernel_rfl) (by kernel_rfl) (fun _ _ _ h => h) (Or.inl ⟨by rfl, ?_⟩) (by assumption) ?_
              rotate_left
              · (intro w hSw; (try dsimp only at hSw); first | (go_simp; done) | (go_simp; with_reducible rfl))
              try simp only [Act.put, List.setIfInBounds_toArray, List.set_cons_zero, List.set_cons_succ]
              refine wpAnyH_take (i := 11) (v := ?_) rfl (by kernel_rfl) (by kernel_rfl) (by kernel_rfl) (fun _ _ _ h => h) (Or.inl ⟨by rfl, ?_⟩) (by assumption) ?_
              rotate_left
              · (intro w hSw; (try dsimp only at hSw); first | (go_simp; done) | (go_simp; with_reducible rfl))
              try simp only [Act.put, List.setIfInBounds_toArray, List.set_cons_zero, List.set_cons_succ]
              refine wpAnyH_take (i := 12) (v := ?_) rfl (by kernel_rfl) (by kernel_rfl) (by kernel_rfl) (fun _ _ _ h => h) (Or.inl ⟨by rfl, ?_⟩) (by assumption) ?_
              rotate_left
              · (intro w hSw; (try dsimp only at hSw); first | (go_simp; done) | (go_simp; with_reducible rfl))
              try simp only [Act.put, List.setIfInBounds_toArray, List.set_cons_zero, List.set_cons_succ]
              refine wpAnyH_take (i := 14) (v := ?_) rfl (by kernel_rfl) (by kernel_rfl) (by kernel_rfl) (fun _ _ _ h => h) (Or.inl ⟨by rfl, ?_⟩) (by assumption) ?_
              rotate_left
              · (intro w hSw; (try dsimp only at hSw); first | (go_simp; done) | (go_simp; with_reducible rfl))
              try simp only [Act.put, List.setIfInBounds_toArray, List.set_cons_zero, List.set_cons_succ]
              refine wpAnyH_ready (rs := [13, 15]) (by kernel_rfl) (by simp) ?_
              refine AllReadyH.cons rfl (fun K hK => ?_) (AllReadyH.cons rfl (fun K hK => ?_) (AllReadyH.nil))
              · go_simp
                refine hK.out _ _ ?_ (fun hHeld => ?_)
                · ((try dsimp only); first | with_reducible exact gd | with_reducible exact ga | with_reducible exact g5 | with_reducible exact g6)
                clear hK K
                try simp only [Act.put, List.setIfInBounds_toArray, List.set_cons_zero, List.set_cons_succ]
                refine wpAnyH_ready (rs := [15]) (by kernel_rfl) (by simp) ?_
                refine AllReadyH.cons rfl (fun K hK => ?_) (AllReadyH.nil)
                go_simp
                refine hK.out _ _ ?_ (fun hHeld => ?_)
                · ((try dsimp only); first | with_reducible exact gd | with_reducible exact ga | with_reducible exact g5 | with_reducible exact g6)
                clear hK K
                try simp only [Act.put, List.setIfInBounds_toArray, List.set_cons_zero, List.set_cons_succ]
                refine wpAnyH_ready (rs := [16]) (by kernel_rfl) (by simp) ?_
                refine AllReadyH.cons rfl (fun K hK => ?_) (AllReadyH.nil)
                refine step_append_lies _ rfl (.tmp 47) (.tmp 49) 42 rfl (w.heap.size + 1) 3 j1 (.int .i64 0) 1 8 Try.underlying42 Ji.out Jz0.out Jz1.out Jz2.out rfl (by decide) (.slice PA l.length PC) l.length (intsV l) (by simp [Act.eval, Act.put]) HOW.out ⟨wr.heap.size, 0, none⟩ 1 1 [.int .i64 (i : Int)] (by simp [Act.eval, Act.put]) rfl HNW.out HOn.out (by decide) (by unfold maxLen; omega) (by omega) hsz2 _ rfl ?_
                intro gp cp w5 hown5 hgrow hat hlt5
                rw [← HY.out] at hgrow
                have hat2 : (Value.slice PA l.length PC).ownBlock = some gp ∨ Y.drew.heap.size ≤ gp := by
                  rcases hat with h | h
                  · exact .inl h
                  · exact .inr (by rw [h, ← HY.out]; exact Nat.le_refl _)
                obtain ⟨hS5, hB5⟩ := HR.out.grown HSD.out Hv.out Hl.out hgrow hown5 hat2
                have hk5 : (upG F (0 + 1 + t) (intR (.slice (some ⟨gp, 0, none⟩) (l.length + 1) cp) (l ++ [(i : Int)]))) 0 = ⟨42, 1, .slice (some ⟨gb, 0, none⟩) m m, m, vs⟩ := by rw [upG_off _ _ _ _ (by omega)]; exact HR.out.2.2.1
                have p5 : w5.cell? ⟨gb, t, none⟩ = some (.slice PA l.length PC) := by
                  rw [(hS5.at hk5).cellAt t (by show t < m * 1; omega)]
                  exact Hv.out
                have pf5 := (hS5.at hk5).frozenAt t
                obtain ⟨hS6, hR6, hB6⟩ := HR.out.enter htm hS5
                have g5 : w5.cell? ⟨w.heap.size + 1, 1, none⟩ = some (.slice (some ⟨b3, o3, none⟩) tl ct) ∧ w5.cell? ⟨b3, o3 + xn, none⟩ = some (.int .i64 (t : Int)) := ⟨hS5.cell 1 _ rfl, (hB5.cell (p := ⟨b3, _, none⟩) (by have := Hb3.out; show b3 < w.heap.size + 1; omega)).trans (by rw [HY.out]; exact ga.2)⟩
                have g6 : (w5.setCell ⟨gb, t, none⟩ (.slice (some ⟨gp, 0, none⟩) (l.length + 1) cp)).cell? ⟨w.heap.size + 1, 1, none⟩ = some (.slice (some ⟨b3, o3, none⟩) tl ct) ∧ (w5.setCell ⟨gb, t, none⟩ (.slice (some ⟨gp, 0, none⟩) (l.length + 1) cp)).cell? ⟨b3, o3 + xn, none⟩ = some (.int .i64 (t : Int)) := ⟨hS6.cell 1 _ rfl, (hB6.cell (p := ⟨b3, _, none⟩) (by have := Hb3.out; show b3 < w.heap.size + 1; omega)).trans g5.2⟩
                have HS6 := Lib.hid hS6
                have HR6 := Lib.hid hR6
                have HB6 := Lib.hid ((HBl.out.trans (HbD.out.mono HS0)).trans (hB5.trans hB6))
                clear hown5 hgrow hat hlt5 hat2 hS5 hB5 hk5 hS6 hR6 hB6 HOW HNW hsz2 HY
                refine hK.out _ _ ?_ (fun hHeld => ?_)
                · ((try dsimp only); first | with_reducible exact gd | with_reducible exact ga | with_reducible exact g5 | with_reducible exact g6)
                clear hK K
                try simp only [Act.put, List.setIfInBounds_toArray, List.set_cons_zero, List.set_cons_succ]
                refine wpAnyH_take (i := 17) (v := ?_) rfl (by kernel_rfl) (by kernel_rfl) (by kernel_rfl) (fun _ _ _ h => h) (Or.inl ⟨by rfl, ?_⟩) (by assumption) ?_
                rotate_left
                · (intro w hSw; (try dsimp only at hSw); first | (go_simp; done) | (go_simp; with_reducible rfl))
                try simp only [Act.put, List.setIfInBounds_toArray, List.set_cons_zero, List.set_cons_succ]
                refine wpAnyH_ready (rs := [18]) (by kernel_rfl) (by simp) ?_
                refine AllReadyH.cons rfl (fun K hK => ?_) (AllReadyH.nil)
                go_simp
                refine hK.out _ _ ?_ (fun hHeld => ?_)
                · ((try dsimp only); first | with_reducible exact gd | with_reducible exact ga | with_reducible exact g5 | with_reducible exact g6)
                clear hK K
                try simp only [Act.put, List.setIfInBounds_toArray, List.set_cons_zero, List.set_cons_succ]
                refine wpAnyH_done (by kernel_rfl) ?_ _
                refine NoPanic.normal ?_
                clear gd ga pa p1 g5 g6 p5 pf5
                go_wp2
                go_roundw
                case rel => exact ⟨k + 1, _, _, _, by omega, by go_num, HS6, HR6, HB6, Hr2⟩
                case measure => simp [intOf]; omega
              · go_simp
                refine hK.out _ _ ?_ (fun hHeld => ?_)
                · ((try dsimp only); first | with_reducible exact gd | with_reducible exact ga | with_reducible exact g5 | with_reducible exact g6)
                clear hK K
                try simp only [Act.put, List.setIfInBounds_toArray, List.set_cons_zero, List.set_cons_succ]
                refine wpAnyH_ready (rs := [13]) (by kernel_rfl) (by simp) ?_
                refine AllReadyH.cons rfl (fun K hK => ?_) (AllReadyH.nil)
                go_simp
                refine hK.out _ _ ?_ (fun hHeld => ?_)
                · ((try dsimp only); first | with_reducible exact gd | with_reducible exact ga | with_reducible exact g5 | with_reducible exact g6)
                clear hK K
                try simp only [Act.put, List.setIfInBounds_toArray, List.set_cons_zero, List.set_cons_succ]
                refine wpAnyH_ready (rs := [16]) (by kernel_rfl) (by simp) ?_
                refine AllReadyH.cons rfl (fun K hK => ?_) (AllReadyH.nil)
                refine step_append_lies _ rfl (.tmp 47) (.tmp 49) 42 rfl (w.heap.size + 1) 3 j1 (.int .i64 0) 1 8 Try.underlying42 Ji.out Jz0.out Jz1.out Jz2.out rfl (by decide) (.slice PA l.length PC) l.length (intsV l) (by simp [Act.eval, Act.put]) HOW.out ⟨wr.heap.size, 0, none⟩ 1 1 [.int .i64 (i : Int)] (by simp [Act.eval, Act.put]) rfl HNW.out HOn.out (by decide) (by unfold maxLen; omega) (by omega) hsz2 _ rfl ?_
                intro gp cp w5 hown5 hgrow hat hlt5
                rw [← HY.out] at hgrow
                have hat2 : (Value.slice PA l.length PC).ownBlock = some gp ∨ Y.drew.heap.size ≤ gp := by
                  rcases hat with h | h
                  · exact .inl h
                  · exact .inr (by rw [h, ← HY.out]; exact Nat.le_refl _)
                obtain ⟨hS5, hB5⟩ := HR.out.grown HSD.out Hv.out Hl.out hgrow hown5 hat2
                have hk5 : (upG F (0 + 1 + t) (intR (.slice (some ⟨gp, 0, none⟩) (l.length + 1) cp) (l ++ [(i : Int)]))) 0 = ⟨42, 1, .slice (some ⟨gb, 0, none⟩) m m, m, vs⟩ := by rw [upG_off _ _ _ _ (by omega)]; exact HR.out.2.2.1
                have p5 : w5.cell? ⟨gb, t, none⟩ = some (.slice PA l.length PC) := by
                  rw [(hS5.at hk5).cellAt t (by show t < m * 1; omega)]
                  exact Hv.out
                have pf5 := (hS5.at hk5).frozenAt t
                obtain ⟨hS6, hR6, hB6⟩ := HR.out.enter htm hS5
                have g5 : w5.cell? ⟨w.heap.size + 1, 1, none⟩ = some (.slice (some ⟨b3, o3, none⟩) tl ct) ∧ w5.cell? ⟨b3, o3 + xn, none⟩ = some (.int .i64 (t : Int)) := ⟨hS5.cell 1 _ rfl, (hB5.cell (p := ⟨b3, _, none⟩) (by have := Hb3.out; show b3 < w.heap.size + 1; omega)).trans (by rw [HY.out]; exact ga.2)⟩
                have g6 : (w5.setCell ⟨gb, t, none⟩ (.slice (some ⟨gp, 0, none⟩) (l.length + 1) cp)).cell? ⟨w.heap.size + 1, 1, none⟩ = some (.slice (some ⟨b3, o3, none⟩) tl ct) ∧ (w5.setCell ⟨gb, t, none⟩ (.slice (some ⟨gp, 0, none⟩) (l.length + 1) cp)).cell? ⟨b3, o3 + xn, none⟩ = some (.int .i64 (t : Int)) := ⟨hS6.cell 1 _ rfl, (hB6.cell (p := ⟨b3, _, none⟩) (by have := Hb3.out; show b3 < w.heap.size + 1; omega)).trans g5.2⟩
                have HS6 := Lib.hid hS6
                have HR6 := Lib.hid hR6
                have HB6 := Lib.hid ((HBl.out.trans (HbD.out.mono HS0)).trans (hB5.trans hB6))
                clear hown5 hgrow hat hlt5 hat2 hS5 hB5 hk5 hS6 hR6 hB6 HOW HNW hsz2 HY
                refine hK.out _ _ ?_ (fun hHeld => ?_)
                · ((try dsimp only); first | with_reducible exact gd | with_reducible exact ga | with_reducible exact g5 | with_reducible exact g6)
                clear hK K
                try simp only [Act.put, List.setIfInBounds_toArray, List.set_cons_zero, List.set_cons_succ]
                refine wpAnyH_take (i := 17) (v := ?_) rfl (by kernel_rfl) (by kernel_rfl) (by kernel_rfl) (fun _ _ _ h => h) (Or.inl ⟨by rfl, ?_⟩) (by assumption) ?_
                rotate_left
                · (intro w hSw; (try dsimp only at hSw); first | (go_simp; done) | (go_simp; with_reducible rfl))
                try simp only [Act.put, List.setIfInBounds_toArray, List.set_cons_zero, List.set_cons_succ]
                refine wpAnyH_ready (rs := [18]) (by kernel_rfl) (by simp) ?_
                refine AllReadyH.cons rfl (fun K hK => ?_) (AllReadyH.nil)
                go_simp
                refine hK.out _ _ ?_ (fun hHeld => ?_)
                · ((try dsimp only); first | with_reducible exact gd | with_reducible exact ga | with_reducible exact g5 | with_reducible exact g6)
                clear hK K
                try simp only [Act.put, List.setIfInBounds_toArray, List.set_cons_zero, List.set_cons_succ]
                refine wpAnyH_done (by kernel_rfl) ?_ _
                refine NoPanic.normal ?_
                clear gd ga pa p1 g5 g6 p5 pf5
                go_wp2
                go_roundw
                case rel => exact ⟨k + 1, _, _, _, by omega, by go_num, HS6, HR6, HB6, Hr2⟩
                case measure => simp [intOf]; omega
            · cases hr2
          · obtain rfl : k = mt := by omega
            have hN := HN1.out
            rw [Hmt.out, List.drop_length, bkIns] at hN
            injection hN with hN
            subst hN
            go_wp2
            go_roundw
            case rel => exact ⟨i + 1, _, _, _, by omega, by go_num, HS, HR, HBl, Hr⟩
            case measure => simp [intOf]; omega
      · cases hr
    · obtain rfl : i = m := by omega
      have hN := HN.out
      rw [Hm.out, List.drop_length, bkRun] at hN
      injection hN with hN
      subst hN
      go_wp2
      go_ret
      exact ⟨_, _, _, rfl, HS.out, HR.out, HwW.out.trans (HBl.out.mono (by omega))⟩
end Go.Proofs.Ytglobeajmdieaaa
