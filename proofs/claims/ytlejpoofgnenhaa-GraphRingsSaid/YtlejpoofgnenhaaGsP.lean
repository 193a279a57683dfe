/-
  The law GraphRings.
-/
import Derived.Test.YtlejpoofgnenhaaGrY
import Derived.Test.YtlejpoofgnenhaaGsO
import Derived.Test.YtlejpoofgnenhaaGsI
import Derived.Deep.DeepCutAuto
namespace Go.Proofs.Ytlejpoofgnenhaa
open Go.RowKit Go.Shelf
set_option linter.unusedVariables false
set_option linter.unusedSimpArgs false

theorem rings_nil (g : List GB) (h : g.length = 0) : ringsP g = [] := by
  obtain rfl : g = [] := List.eq_nil_of_length_eq_zero h
  rfl
theorem makeI (n : Nat) (hn : n ≤ 1048576) (W : World) : (Instr.makeSlice 23 (.int .i64 (n : Int)) (.int .i64 (n : Int))).run Try.prog W = .ok (.slice (some ⟨W.heap.size, 0, none⟩) n n) (W.alloc (.cells (minusV n 0).toArray 3)) := by
  obtain ⟨i0, hi0, hz0, hz1, hz2⟩ := info_parts infoIntG
  have h := run_make (w := W) (P := Try.prog) 23 3 i0 (.int .i64 0) Try.underlying23 hi0 hz0 .i64 .i64 (n : Int) (n : Int) (by omega) (by omega) (by rw [hz2]; omega) (by omega)
  have e : minusV n 0 = (madeCells #[Value.int .i64 0] n).toList := by rw [madeInt]; simp [minusV]
  rw [h, Int.toNat_natCast, hz1, Nat.mul_one, e, Array.toArray_toList]
  rfl
def Mid8 (Y : World) (bn : Nat) (fs : List Bool) (w3 : World) (u6 u7 : Value) (wx : World) : Prop := ∃ (pb : Nat) (fa : Option Addr) (fc : Nat), u6 = .slice (some ⟨pb, 0, none⟩) bn bn ∧ u7 = .slice fa bn fc ∧ wx.ownsRow Y.heap.size 4 1 (.slice fa bn fc) bn (boolsV fs) ∧ wx.heap[pb]? = some (.cells (minusV bn 0).toArray 3 (0, 0)) ∧ (Value.slice fa bn fc).ownBlock ≠ some pb ∧ w3.heap.size ≤ pb ∧ Below w3.heap.size w3 wx
theorem mid_first {Y w3 X w4 : World} {bn fc : Nat} {fa : Option Addr} {fs : List Bool} (hY : Below Y.heap.size Y w3) (hX : X = (w3.alloc (.cells (minusV bn 0).toArray 3)).drew) (ho : w4.ownsRow X.heap.size 4 1 (.slice fa bn fc) bn (boolsV fs)) (hb : Below X.heap.size X w4) : Mid8 Y bn fs w3 (.slice (some ⟨w3.heap.size, 0, none⟩) bn bn) (.slice fa bn fc) w4 := by
  subst hX
  have hz : (w3.alloc (.cells (minusV bn 0).toArray 3)).drew.heap.size = w3.heap.size + 1 := by simp
  refine ⟨_, fa, fc, rfl, rfl, gr_mono ho (by have := hY.size; omega), ?_, fun e => ?_, Nat.le_refl _, ?_⟩
  · exact (hb.block _ (by omega)).trans (heap_alloc_new w3 _)
  · have := ho.lt _ e; omega
  · exact (((Below.refl _ _).alloc (Nat.le_refl _) _).drew).trans (hb.mono (by omega))
theorem mid_second {Y w3 X w4 : World} {bn fc : Nat} {fa : Option Addr} {fs : List Bool} (hY : Below Y.heap.size Y w3) (hX : Below w3.heap.size w3 X) (ho : w4.ownsRow X.heap.size 4 1 (.slice fa bn fc) bn (boolsV fs)) (hb : Below X.heap.size X w4) : Mid8 Y bn fs w3 (.slice (some ⟨w4.heap.size, 0, none⟩) bn bn) (.slice fa bn fc) (w4.alloc (.cells (minusV bn 0).toArray 3)) := by
  have h3 := hX.size
  have h4 := hb.size
  have hk : Below w4.heap.size w4 (w4.alloc (.cells (minusV bn 0).toArray 3)) := (Below.refl _ _).alloc (Nat.le_refl _) _
  refine ⟨_, fa, fc, rfl, rfl, gr_up (gr_mono ho (by have := hY.size; omega)) hk, heap_alloc_new w4 _, fun e => ?_, by omega, ?_⟩
  · have := ho.lt _ e; omega
  · exact (hX.trans (hb.mono h3)).trans (hk.mono (by omega))

theorem own_max {w : World} {base n : Nat} {T : TypeId} {v : Value} {xs : List Value} (h : w.ownsRow base T 1 v n xs) : n ≤ 9223372036854775807 := by
  rcases h.2 with ⟨_, h0⟩ | ⟨g, cap, cur, _, _, _, hnc, hcm, _⟩
  · omega
  · unfold maxLen at hcm; omega

set_option maxRecDepth 100000 in
set_option maxHeartbeats 16000000 in
theorem graphRings_any (n0 : Nat) (A : Option Addr) (L c : Nat) (l : List (Int × Int)) (w : World) (hv : GPr n0 w (.slice A L c) l) (hn : n0 ≤ w.heap.size) (hL : L ≤ c) (hc : c ≤ maxLen) (hin : ∀ x ∈ l, InG x.1 ∧ InG x.2) :
    Calls Try.prog 3 #[.slice A L c] w fun e w' => e = .returned (.bool true) ∧ Below w.heap.size w w' := by
  have hll : L = l.length := by obtain ⟨A', c', e, _⟩ := id hv; injection e
  have hGr := graph_true n0 _ l w hv hn (by unfold maxLen at hc; omega) hin
  have hg := tosOk_graphP hin
  have hgl : (graphP l true).length ≤ 14 := by rw [graphP_len]; omega
  have hwh := wholeG_graphP hin
  have hlim : (edgesOf (graphP l true) (orderP (graphP l true))).length ≤ 1048576 := by
    have h1 := edgesOf_len (tos_two hin) (orderP (graphP l true))
    have h2 : (orderP (graphP l true)).length ≤ (graphP l true).length := by unfold orderP; rw [List.length_reverse]; exact postP_len _
    omega
  obtain ⟨g, hge⟩ : ∃ g, g = graphP l true := ⟨_, rfl⟩
  rw [← hge] at hGr hg hgl hwh hlim
  have Hg := Lib.hid hg
  have Hgl := Lib.hid hgl
  have Hwh := Lib.hid hwh
  have Hlim := Lib.hid hlim
  clear hv hin hll hge hg hgl hL hc hwh hlim
  go_enter Try.func3, Try.ntmps3
  go_wp2_with (first
    | (go_at_call 10; refine hGr.mono ?_; rintro e w1 ⟨f, rfl, hf1, hb1⟩; obtain ⟨s, pA, pn, pc, r, iA, in_, ic, bA, bn, bc, rfl, hG1, hbn1⟩ := id hf1;
        obtain ⟨Y, hY, hbY, hzY, h0Y⟩ := gr_one w1 #[.string s, .slice pA pn pc, .int .i64 r, .slice iA in_ ic, .slice bA bn bc] 27;
        have hfr : ∀ A : World, Below Y.heap.size Y A → GF w1.heap.size A (.agg #[.string s, .slice pA pn pc, .int .i64 r, .slice iA in_ ic, .slice bA bn bc]) g := (fun A hA => ⟨s, pA, pn, pc, r, iA, in_, ic, bA, bn, bc, rfl, hG1.keep (hbY.trans (hA.mono (by omega))), hbn1⟩);
        have hx : ∀ A : World, Below Y.heap.size Y A → A.cell? ⟨w1.heap.size, 0, none⟩ = some (.string s) ∧ A.cell? ⟨w1.heap.size, 1, none⟩ = some (.slice pA pn pc) ∧ A.cell? ⟨w1.heap.size, 2, none⟩ = some (.int .i64 r) ∧ A.cell? ⟨w1.heap.size, 3, none⟩ = some (.slice iA in_ ic) ∧ A.cell? ⟨w1.heap.size, 4, none⟩ = some (.slice bA bn bc) := (fun A hA => by obtain ⟨x0, x1, x2, x3, x4, -⟩ := gr_five ((hA.block w1.heap.size (gr_in h0Y)).trans h0Y); exact ⟨x0, x1, x2, x3, x4⟩);
        have hR := rings_g w1.heap.size _ g Y (hfr Y (Below.refl _ _)) (by omega) Hlim.out;
        have hbl : bn ≤ 14 := (by rw [hbn1]; exact Hgl.out);
        have Hbn := Lib.hid hbn1; have Hx := Lib.hid hx;
        have Hfr := Lib.hid hfr; have HY := Lib.hid hY; have HbY := Lib.hid hbY; have HzY := Lib.hid hzY; have H0Y := Lib.hid h0Y; have Hb1 := Lib.hid hb1; clear hf1 hb1 hGr hG1 hbn1 hfr hY hbY hzY h0Y hx))
  have hY2 := HY.out
  go_upto_region 2 with fail
  rw [← HY.out]
  clear hY2
  have hFr : ∀ X : World, Below Y.heap.size Y X → ∀ b : Nat, b < bn → Calls Try.prog 13 #[.agg #[.string s, .slice pA pn pc, .int .i64 r, .slice iA in_ ic, .slice bA bn bc], .int .i64 (b : Int), .int .i64 (-1)] X fun e w' => ∃ v, e = .returned v ∧ w'.ownsRow X.heap.size 4 1 v bn (boolsV (fromP g (b : Int) (-1))) ∧ Below X.heap.size X w' := fun X hX b hb => by
    have h := from_g w1.heap.size _ g (b : Int) (-1) X (Hfr.out X hX) (by have := HzY.out; have := hX.size; omega) Hg.out (by omega) (by unfold InG; omega) (by unfold InG; omega)
    rw [← Hbn.out] at h
    exact h
  have HFr := Lib.hid hFr
  clear hFr
  obtain ⟨x0, x1, x2, x3, x4⟩ := Hx.out Y (Below.refl _ _)
  go_upto_region 3 with (go_at_call 11; refine hR.mono ?_; rintro e w2 ⟨PV, rs, rfl, hgr, hrs, hb2⟩; obtain ⟨A2, c2, rfl⟩ := gr_slice hgr.1; have hA := awake8_any w2; have Hgr := Lib.hid hgr; have Hrs := Lib.hid hrs; have Hb2 := Lib.hid hb2; clear hgr hrs hb2 hR)
  clear x0 x1 x2 x3 x4
  by_cases hb0 : bn = 0
  · have hrl : rs = [] := by
      have h := Hrs.out
      rw [rings_nil g (by rw [← Hbn.out]; exact hb0)] at h
      simpa using h
    subst hrl
    have hz : (bn : Int) = 0 := by omega
    have hA3 := fun X => awake8_any X
    go_wp2_with (go_at_call 12; refine (hA3 _).mono ?_; rintro e w3 ⟨rfl, hb3⟩; first | (have hc3 := Hb2.out.trans (hb3.mono Hb2.out.size); obtain ⟨x0, x1, x2, x3, x4⟩ := Hx.out w3 hc3; have Hc3 := Lib.hid hc3; clear hb3 hc3; have tok : True := trivial) | (have Hc4 := Lib.hid hb3; clear hb3))
    go_ret
    exact ⟨rfl, Hb1.out.trans ((HbY.out.trans ((Hc3.out.trans (Hc4.out.mono Hc3.out.size)).mono (by have := HzY.out; omega))).mono Hb1.out.size)⟩
  · have hz : ((bn : Int) == 0) = false := by simpa using hb0
    have hbpos : 0 < bn := by omega
    go_upto_region 5 with (go_at_call 12; refine hA.mono ?_; rintro e w3 ⟨rfl, hb3⟩; have hc3 := Hb2.out.trans (hb3.mono Hb2.out.size); obtain ⟨x0, x1, x2, x3, x4⟩ := Hx.out w3 hc3; have Hb3 := Lib.hid hb3; have Hc3 := Lib.hid hc3; clear hb3 hc3 hA)
    go_upto_region 6 with fail
    have hPS := rings_ps (Hwh.out (by rw [← Hbn.out]; omega))
    have hrsP := Hrs.out
    obtain ⟨P, hP⟩ : ∃ P, P = ringsP g := ⟨_, rfl⟩
    rw [← hP] at hPS hrsP
    have HPS := Lib.hid hPS
    have HrsP := Lib.hid hrsP
    have HGR : Hid (∀ A, Below w3.heap.size w3 A → GRows A Y.heap.size (.slice A2 rs.length c2) rs) := Lib.hid (fun A hA => (Hgr.out.keep Hb3.out).keep hA)
    have HF0 : ∀ X : World, Below Y.heap.size Y X → Calls Try.prog 13 #[.agg #[.string s, .slice pA pn pc, .int .i64 r, .slice iA in_ ic, .slice bA bn bc], .int .i64 0, .int .i64 (-1)] X fun e w' => ∃ v, e = .returned v ∧ w'.ownsRow X.heap.size 4 1 v bn (boolsV (fromP g (0 : Nat) (-1))) ∧ Below X.heap.size X w' := fun X hX => HFr.out X hX 0 hbpos
    clear hPS hrsP hP Hgr
    go_cut [6, 7, 8] (fun u6 u7 u8 wx => u8 = .int .i64 0 ∧ Mid8 Y bn (fromP g (0 : Nat) (-1)) w3 u6 u7 wx)
    case first =>
      have hmk := makeI bn (by omega)
      have d1 : Below Y.heap.size Y w3.drew := Hc3.out.drew
      have d2 : Below Y.heap.size Y (w3.alloc (.cells (minusV bn 0).toArray 3)) := Hc3.out.alloc Hc3.out.size _
      have d3 : Below Y.heap.size Y (w3.alloc (.cells (minusV bn 0).toArray 3)).drew := d2.drew
      obtain ⟨y0, y1, y2, y3, y4⟩ := Hx.out _ d2
      have K1 := HF0 _ d1
      have K3 := HF0 _ d3
      clear d1 d2 d3 HF0
      go_region_with (go_at_call 13; first
        | (with_reducible refine K3.mono ?_; rintro e w4 ⟨v4, rfl, ho4, hb4⟩; obtain ⟨A4, c4, rfl⟩ := gr_slice ho4; have Hm := Lib.hid (mid_first Hc3.out rfl ho4 hb4); clear ho4 hb4 K1 K3)
        | (with_reducible refine K1.mono ?_; rintro e w4 ⟨v4, rfl, ho4, hb4⟩; obtain ⟨A4, c4, rfl⟩ := gr_slice ho4; have Hm := Lib.hid (mid_second Hc3.out (Below.refl _ _).drew ho4 hb4); clear ho4 hb4 K1 K3))
      all_goals (go_wp2_with fail; go_meet; exact ⟨rfl, Hm.out⟩)
    case rest =>
    obtain ⟨W, hW⟩ : ∃ W, W = wc := ⟨_, rfl⟩
    subst hW
    obtain ⟨rfl, pb, fa, fc, rfl, rfl, hfs, hpb0, hne, hpb, hbx⟩ := hcut
    have hfrr := fun b (hb : b < bn) => from_rr Hg.out (a := 0) (by rw [← Hbn.out]; exact hbpos) b
    have hfsl := fromP_len g ((0 : Nat) : Int) (-1)
    rw [← Hbn.out] at hfsl
    obtain ⟨fs, hfsE⟩ : ∃ fs, fs = fromP g ((0 : Nat) : Int) (-1) := ⟨_, rfl⟩
    rw [← hfsE] at hfs hfsl hfrr
    have hpbl : pb < W.heap.size := gr_in hpb0
    have h3W := hbx.size
    have Hfs := Lib.hid hfs
    have Hne := Lib.hid hne
    have Hbx := Lib.hid hbx
    have Hfrr := Lib.hid hfrr
    have Hfsl := Lib.hid hfsl
    have hst : ∀ wr, WK pb none W wr → Below w3.heap.size w3 wr := fun wr h => Hbx.out.trans (h.below hpb (fun x e => by cases e) h3W)
    have Hst := Lib.hid hst
    have HN0 : Hid (WK pb none W W ∧ W.heap[pb]? = some (.cells (minusV bn 0).toArray 3 (0, 0))) := Lib.hid ⟨⟨rfl, rfl, rfl, Nat.le_refl _, fun _ _ _ _ => rfl⟩, hpb0⟩
    clear x0 x1 x2 x3 x4 hfs hne hbx hfrr hfsl hfsE hst hpb0 HF0 hz hb0
    go_upto_region 8 with fail
    go_loopw [9] (fun u9 wr => ∃ i : Nat, i ≤ bn ∧ u9 = .int .i64 i ∧ Hid (WK pb none W wr ∧ wr.heap[pb]? = some (.cells (minusV bn i).toArray 3 (0, 0)))) (fun u9 _ => bn - (intOf u9).toNat)
    case atStart => exact ⟨0, Nat.zero_le _, rfl, HN0⟩
    case round =>
      clear HN0
      obtain ⟨i, hi, rfl, HN⟩ := hrel
      obtain ⟨hwk, hp⟩ := HN.out
      by_cases hlt : i < bn
      · have f0 := Lib.frozen_of_heap hp i
        have c0 : ∃ x, wr.cell? ⟨pb, i, none⟩ = some x := ⟨_, by rw [Lib.cell_of_heap hp i, List.getElem?_toArray]; exact List.getElem?_eq_getElem (by simp [minusV]; omega)⟩
        obtain ⟨x, c0⟩ := c0
        obtain ⟨Z, hZ⟩ : ∃ Z, Z = wr.setCell ⟨pb, i, none⟩ (.int .i64 (-1)) := ⟨_, rfl⟩
        have hZp : Z.heap[pb]? = some (.cells (minusV bn (i + 1)).toArray 3 (0, 0)) := by
          rw [hZ, gr_put hp i]
          simp only [List.setIfInBounds_toArray, minusV_step bn i hlt]
        have hZk : WK pb none W Z := by rw [hZ]; exact hwk.trans (WK.put pb none wr i _) (fun x e => by cases e)
        have HNZ := Lib.hid (And.intro hZk hZp)
        have HZ := Lib.hid hZ
        clear hwk hp hZp hZk hZ HN
        go_wp2
        rw [← HZ.out]
        go_wp2
        go_roundw
        case rel => exact ⟨i + 1, by omega, by go_num, HNZ⟩
        case measure => simp [intOf]; omega
      · obtain rfl : i = bn := by omega
        rw [minusV_end] at hp
        have HN1 : Hid (PR i P 0 0 (List.replicate i (-1)) ∧ 0 = (List.replicate i (-1 : Int)).countP (fun x => decide (0 ≤ x)) ∧ WK pb none W wr ∧ wr.heap[pb]? = some (.cells (intsV (List.replicate i (-1))).toArray 3 (0, 0))) := Lib.hid ⟨PR.start i P, by simp [List.countP_replicate], hwk, hp⟩
        clear hwk hp HN
        go_upto_region 12 with fail
        go_loopw [10, 8] (fun u10 u8 wr => ∃ (j cnt : Nat) (pr : List Int), j ≤ rs.length ∧ u10 = .int .i64 j ∧ u8 = .int .i64 cnt ∧ cnt ≤ i ∧ Hid (PR i P j 0 pr ∧ cnt = pr.countP (fun x => decide (0 ≤ x)) ∧ WK pb none W wr ∧ wr.heap[pb]? = some (.cells (intsV pr).toArray 3 (0, 0)))) (fun u10 _ _ => rs.length - (intOf u10).toNat)
        case atStart => exact ⟨0, 0, _, Nat.zero_le _, rfl, rfl, Nat.zero_le _, HN1⟩
        case round =>
          clear HN1
          obtain ⟨j, cnt, pr, hj, rfl, rfl, hcb, HN⟩ := hrel
          have hb3r := Hst.out wr HN.out.2.2.1
          have hgw := HGR.out wr hb3r
          have hrsm := own_max hgw.1
          by_cases hltj : j < rs.length
          · obtain ⟨⟨rv, rl⟩, hrj⟩ : ∃ r, rs[j]? = some r := ⟨_, List.getElem?_eq_getElem hltj⟩
            have hPj : P[j]? = some rl := by rw [← HrsP.out, List.getElem?_map, hrj]; rfl
            have hmem := List.mem_of_getElem? hrj
            obtain ⟨pg, rfl, -, -, -⟩ := gr_some hgw.1 (by omega)
            obtain ⟨rA, rc, hrv⟩ := gr_slice (hgw.2 _ hmem)
            dsimp only at hrv
            subst hrv
            obtain ⟨m, hm⟩ : ∃ m, m = rl.length := ⟨_, rfl⟩
            have hcell : ∀ A, Below w3.heap.size w3 A → A.cell? ⟨pg, j, none⟩ = some (.slice rA m rc) := fun A hA => by
              have h := (HGR.out A hA).1.cellAt j (by omega)
              rw [h, List.getElem?_map, hrj, hm]
              rfl
            have hrow : ∀ A, Below w3.heap.size w3 A → A.ownsRow Y.heap.size 3 1 (.slice rA m rc) m (natsV rl) := fun A hA => by
              have h := (HGR.out A hA).2 _ hmem
              rw [hm]
              exact h
            have Hcell := Lib.hid hcell
            have Hrow := Lib.hid hrow
            have HPj := Lib.hid hPj
            have Hm := Lib.hid hm
            have c1 := hcell wr hb3r
            have hmm := own_max (hrow wr hb3r)
            clear hgw hmem hcell hrow hPj hrj hb3r hm
            go_upto_region 15 with fail
            go_loopw [11, 8] (fun u11 u8 wr => ∃ (k cnt : Nat) (pr : List Int), k ≤ m ∧ u11 = .int .i64 k ∧ u8 = .int .i64 cnt ∧ cnt ≤ i ∧ Hid (PR i P j k pr ∧ cnt = pr.countP (fun x => decide (0 ≤ x)) ∧ WK pb none W wr ∧ wr.heap[pb]? = some (.cells (intsV pr).toArray 3 (0, 0)))) (fun u11 _ _ => m - (intOf u11).toNat)
            case atStart => exact ⟨0, cnt, pr, Nat.zero_le _, rfl, rfl, hcb, HN⟩
            case round =>
              clear HN c1 hcb
              obtain ⟨k, cnt, pr, hk, rfl, rfl, hcb, HN⟩ := hrel
              have hb3r := Hst.out wr HN.out.2.2.1
              have c1 := Hcell.out wr hb3r
              by_cases hltk : k < m
              · have hor := Hrow.out wr hb3r
                obtain ⟨rg, rfl, -, -, -⟩ := gr_some hor (by omega)
                have hkl : k < rl.length := by rw [← Hm.out]; exact hltk
                obtain ⟨b, hbk⟩ : ∃ b, rl[k]? = some b := ⟨_, List.getElem?_eq_getElem hkl⟩
                have c2 : wr.cell? ⟨rg, k, none⟩ = some (.int .i64 (b : Int)) := by
                  rw [hor.cellAt k (by omega)]
                  simp [natsV, hbk]
                obtain ⟨hPR, hcnt, hwk, hp⟩ := HN.out
                have hbP : RR g 0 b := (HPS.out.all b).2 ⟨rl, List.mem_of_getElem? HPj.out, List.mem_of_getElem? hbk⟩
                have hbi : b < i := by rw [Hbn.out]; exact FR.lt Hg.out (by rw [← Hbn.out]; exact hbpos) hbP
                have hfresh := hPR.fresh HPS.out HPj.out hbk hbi
                have hpl : b < pr.length := by rw [hPR.len]; exact hbi
                have hpe : pr[b] = -1 := by
                  have := hfresh
                  simpa [List.getD, hpl] using this
                have c3 : wr.cell? ⟨pb, b, none⟩ = some (.int .i64 (-1)) := by
                  rw [Lib.cell_of_heap hp b]
                  simp [intsV, hpl, hpe]
                have f3 := Lib.frozen_of_heap hp b
                obtain ⟨Z, hZ⟩ : ∃ Z, Z = wr.setCell ⟨pb, b, none⟩ (.int .i64 (j : Int)) := ⟨_, rfl⟩
                have hZp : Z.heap[pb]? = some (.cells (intsV (pr.set b (j : Int))).toArray 3 (0, 0)) := by
                  rw [hZ, gr_put hp b]
                  simp only [List.setIfInBounds_toArray, intsV, List.map_set]
                have hZk : WK pb none W Z := by rw [hZ]; exact hwk.trans (WK.put pb none wr b _) (fun x e => by cases e)
                have hcnt2 : cnt + 1 = (pr.set b (j : Int)).countP (fun x => decide (0 ≤ x)) := by
                  rw [List.countP_set hpl, ← hcnt, hpe]
                  simp
                have hcb2 : cnt + 1 ≤ i := by
                  rw [hcnt2]
                  have := List.countP_le_length (p := fun x : Int => decide (0 ≤ x)) (l := pr.set b (j : Int))
                  rw [List.length_set, hPR.len] at this
                  exact this
                have HNZ := Lib.hid (And.intro (hPR.put HPj.out hbk) (And.intro hcnt2 (And.intro hZk hZp)))
                have HZ := Lib.hid hZ
                clear hPR hcnt hwk hp hbP hfresh hpl hpe hZp hZk hZ hcnt2 hkl
                cases k with
                | zero =>
                  clear hor hbk HN hb3r
                  go_wp2
                  rw [← HZ.out]
                  go_wp2
                  go_roundw
                  case rel => exact ⟨1, cnt + 1, _, by omega, by go_num, by go_num, hcb2, HNZ⟩
                  case measure => simp [intOf]; omega
                | succ k =>
                  obtain ⟨a, hak⟩ : ∃ a, rl[k]? = some a := ⟨_, List.getElem?_eq_getElem (by rw [← Hm.out]; omega)⟩
                  have hab := HPS.out.rise HPj.out hak hbk (by omega)
                  have c4 : wr.cell? ⟨rg, k, none⟩ = some (.int .i64 (a : Int)) := by
                    rw [hor.cellAt k (by omega)]
                    simp [natsV, hak]
                  have hk1 : ((k + 1 : Nat) : Int) - 1 = (k : Int) := by omega
                  clear hor hbk HN hb3r hak
                  go_wp2
                  rw [← HZ.out]
                  go_wp2
                  go_roundw
                  case rel => exact ⟨k + 1 + 1, cnt + 1, _, by omega, by go_num, by go_num, hcb2, HNZ⟩
                  case measure => simp [intOf]; omega
              · obtain rfl : k = m := by omega
                have hN2 := HN.out
                have HN2 := Lib.hid (And.intro (PR.next (by rw [← Hm.out]; exact hN2.1) HPj.out) hN2.2)
                clear hN2
                go_wp2
                go_roundw
                case rel => exact ⟨j + 1, cnt, pr, by omega, by go_num, rfl, hcb, HN2⟩
                case measure => simp [intOf]; omega
          · obtain rfl : j = rs.length := by omega
            have hPl : P.length = rs.length := by rw [← HrsP.out]; simp
            obtain ⟨hPR, hcnt, hwk, hp⟩ := HN.out
            rw [← hPl] at hPR
            have hc0 : 0 < cnt := by
              have h0 := hPR.ge HPS.out 0 hbpos FR.here
              have hl0 : 0 < pr.length := by rw [hPR.len]; exact hbpos
              rw [hcnt]
              refine List.countP_pos_iff.2 ⟨pr[0], List.getElem_mem hl0, ?_⟩
              simpa [List.getD, hl0] using h0
            have HPR := Lib.hid hPR
            have Hwk := Lib.hid hwk
            have Hp := Lib.hid hp
            obtain ⟨E, hE⟩ : ∃ E, E = wr := ⟨_, rfl⟩
            subst hE
            have HB0 : Hid (Below E.heap.size E E) := Lib.hid (Below.refl _ _)
            have hpbE : pb < E.heap.size := gr_in hp
            have hYE : Below Y.heap.size Y E := Hc3.out.trans (hb3r.mono Hc3.out.size)
            have hfsE := own_far Hfs.out hwk.size (fun k hk hne => hwk.block k hk hne (by simp)) Hne.out
            obtain ⟨fg, rfl, -, -, -⟩ := gr_some hfsE hbpos
            have hfc : ∀ A, Below E.heap.size E A → ∀ a, a < i → A.cell? ⟨fg, a, none⟩ = some (.bool (fs.getD a false)) := fun A hA a ha => by
              rw [(gr_up hfsE hA).cellAt a (by omega)]
              exact boolsV_at fs a (by rw [Hfsl.out]; exact ha)
            have hpc : ∀ A, Below E.heap.size E A → ∀ a, a < i → A.cell? ⟨pb, a, none⟩ = some (.int .i64 (pr.getD a 0)) := fun A hA a ha => by
              rw [Lib.cell_of_heap ((hA.block pb hpbE).trans hp) a]
              have : a < pr.length := by rw [hPR.len]; exact ha
              simp [intsV, List.getD, this]
            have Hfc := Lib.hid hfc
            have Hpc := Lib.hid hpc
            have HYE := Lib.hid hYE
            clear hPR hcnt hwk hp HN hb3r hgw hltj hcb hpbE hYE hfsE hfc hpc hj
            go_upto_region 23 with fail
            go_loopw [13] (fun u13 wr => ∃ a : Nat, a ≤ i ∧ u13 = .int .i64 a ∧ Hid (Below E.heap.size E wr)) (fun u13 _ => i - (intOf u13).toNat)
            case atStart => exact ⟨0, Nat.zero_le _, rfl, HB0⟩
            case round =>
              clear HB0
              obtain ⟨a, ha, rfl, HB⟩ := hrel
              by_cases hlta : a < i
              · have hag : a < g.length := by rw [← Hbn.out]; exact hlta
                have c1 := Hfc.out wr HB.out a hlta
                have c2 := Hpc.out wr HB.out a hlta
                have hK := fun X hX => HFr.out X hX a hlta
                have hro := fun b => from_rr Hg.out hag b
                have hrol := fromP_len g (a : Int) (-1)
                rw [← Hbn.out] at hrol
                obtain ⟨ra, hra⟩ : ∃ ra, ra = fromP g (a : Int) (-1) := ⟨_, rfl⟩
                rw [← hra] at hK hro hrol
                have Hro := Lib.hid hro
                have Hrol := Lib.hid hrol
                have hfa := Hfrr.out a hlta
                clear hra hro hrol
                cases hpa : fs.getD a false with
                | false =>
                  have hnr : ¬ RR g 0 a := fun h => by rw [hfa.2 h] at hpa; cases hpa
                  rw [HPR.out.no HPS.out a hlta hnr] at c2
                  rw [hpa] at c1
                  clear hnr hfa
                  go_upto_region 25 with fail
                  go_quiet (fail)
                  generalize hX : World.drewN wr _ = X
                  have bX : Below E.heap.size E X := HB.out.trans ((by rw [← hX]; exact below_dr (Below.refl _ _) _ : Below wr.heap.size wr X).mono HB.out.size)
                  have hyr := HYE.out.trans (bX.mono HYE.out.size)
                  obtain ⟨x0, x1, x2, x3, x4⟩ := Hx.out X hyr
                  replace hK := hK X hyr
                  have BX := Lib.hid bX
                  clear hX bX hyr c1 c2
                  go_upto_region 29 with (go_at_call 13; refine hK.mono ?_; rintro e w5 ⟨v5, rfl, ho5, hb5⟩; obtain ⟨A5, c5, rfl⟩ := gr_slice ho5; have HB5 := Lib.hid (BX.out.trans (hb5.mono BX.out.size)); clear ho5 hb5 hK)
                  clear x0 x1 x2 x3 x4
                  have c1 := Hfc.out w5 HB5.out a hlta
                  rw [hpa] at c1
                  go_loopw [15] (fun u15 wr => ∃ b : Nat, b ≤ i ∧ u15 = .int .i64 b ∧ wr = w5) (fun u15 _ => i - (intOf u15).toNat)
                  case atStart => exact ⟨0, Nat.zero_le _, rfl, rfl⟩
                  case round =>
                    obtain ⟨b, hb, rfl, rfl⟩ := hrel
                    by_cases hltb : b < i
                    · go_wp2
                      go_roundw
                      case rel => exact ⟨a + 1, by omega, by go_num, HB5⟩
                      case measure => simp [intOf]; omega
                    · go_wp2
                      go_roundw
                      case rel => exact ⟨a + 1, by omega, by go_num, HB5⟩
                      case measure => simp [intOf]; omega
                | true =>
                  have hrr : RR g 0 a := hfa.1 hpa
                  have hge := HPR.out.ge HPS.out a hlta hrr
                  obtain ⟨xa, hxa⟩ : ∃ xa : Nat, pr.getD a 0 = (xa : Int) := ⟨(pr.getD a 0).toNat, by omega⟩
                  rw [hxa] at c2
                  rw [hpa] at c1
                  clear hge hfa
                  go_upto_region 25 with fail
                  go_quiet (fail)
                  generalize hX : World.drewN wr _ = X
                  have bX : Below E.heap.size E X := HB.out.trans ((by rw [← hX]; exact below_dr (Below.refl _ _) _ : Below wr.heap.size wr X).mono HB.out.size)
                  have hyr := HYE.out.trans (bX.mono HYE.out.size)
                  obtain ⟨x0, x1, x2, x3, x4⟩ := Hx.out X hyr
                  replace hK := hK X hyr
                  have BX := Lib.hid bX
                  clear hX bX hyr c1 c2
                  go_upto_region 29 with (go_at_call 13; refine hK.mono ?_; rintro e w5 ⟨v5, rfl, ho5, hb5⟩; obtain ⟨A5, c5, rfl⟩ := gr_slice ho5; have HB5 := Lib.hid (BX.out.trans (hb5.mono BX.out.size)); have Ho5 := Lib.hid ho5; clear ho5 hb5 hK)
                  clear x0 x1 x2 x3 x4
                  have HB6 : Hid (Below w5.heap.size w5 w5) := Lib.hid (Below.refl _ _)
                  go_loopw [15] (fun u15 wr => ∃ b : Nat, b ≤ i ∧ u15 = .int .i64 b ∧ Hid (Below w5.heap.size w5 wr)) (fun u15 _ => i - (intOf u15).toNat)
                  case atStart => exact ⟨0, Nat.zero_le _, rfl, HB6⟩
                  case round =>
                    clear HB6
                    obtain ⟨b, hb, rfl, HB6⟩ := hrel
                    have hBr := HB5.out.trans (HB6.out.mono HB5.out.size)
                    have c1 := Hfc.out _ hBr a hlta
                    rw [hpa] at c1
                    by_cases hltb : b < i
                    · have hbg : b < g.length := by rw [← Hbn.out]; exact hltb
                      have c2 := Hpc.out _ hBr a hlta
                      have c3 := Hpc.out _ hBr b hltb
                      rw [hxa] at c2
                      have ho6 := gr_up Ho5.out HB6.out
                      obtain ⟨g5, rfl, -, -, -⟩ := gr_some ho6 (by omega)
                      have c4 : wr.cell? ⟨g5, b, none⟩ = some (.bool (ra.getD b false)) := by
                        rw [ho6.cellAt b (by omega)]
                        exact boolsV_at ra b (by rw [Hrol.out]; exact hltb)
                      have hyr := HYE.out.trans (hBr.mono HYE.out.size)
                      obtain ⟨x0, x1, x2, x3, x4⟩ := Hx.out _ hyr
                      have hab := Hro.out b
                      have hle := HPR.out.le HPS.out a b hlta hltb hrr
                      have heq := HPR.out.eq HPS.out a b hlta hltb hrr
                      rw [hxa] at hle heq
                      obtain ⟨xb, hxb⟩ : ∃ xb, xb = pr.getD b 0 := ⟨_, rfl⟩
                      rw [← hxb] at hle heq c3
                      have HXB := Lib.hid hxb
                      have HXA := Lib.hid hxa
                      clear hxb
                      cases hqa : ra.getD b false with
                      | false =>
                        have hnab : ¬ RR g a b := fun h => by rw [hab.2 h] at hqa; cases hqa
                        have hxne : ((xa : Int) == xb) = false := by
                          rw [beq_eq_false_iff_ne]
                          exact fun e => hnab (heq.1 e).1
                        rw [hqa] at c4
                        clear hab hle heq hnab ho6
                        go_upto_region 32 with fail
                        go_quiet (fail)
                        go_wp2
                        go_roundw
                        case rel => exact ⟨b + 1, by omega, by go_num, Lib.hid (below_dr HB6.out _)⟩
                        case measure => simp [intOf]; omega
                      | true =>
                        have hrab : RR g a b := hab.1 hqa
                        have hxle := hle hrab
                        have hK2 := HFr.out wr hyr b hltb
                        have hba := fun c => from_rr Hg.out hbg c
                        have hrbl := fromP_len g (b : Int) (-1)
                        rw [← Hbn.out] at hrbl
                        obtain ⟨rb, hrb⟩ : ∃ rb, rb = fromP g (b : Int) (-1) := ⟨_, rfl⟩
                        rw [← hrb] at hK2 hba hrbl
                        have hba2 := hba a
                        rw [hqa] at c4
                        have Hrbl := Lib.hid hrbl
                        obtain ⟨qb, hqb⟩ : ∃ qb, qb = rb.getD a false := ⟨_, rfl⟩
                        have Hqb := Lib.hid hqb
                        rw [← hqb] at hba2
                        clear hqb
                        have HBr := Lib.hid hBr
                        have Ho6 := Lib.hid ho6
                        clear hab hle hba hrb hrbl hyr ho6
                        go_upto_region 32 with (go_at_call 13; refine hK2.mono ?_; rintro e w7 ⟨v7, rfl, ho7, hb7⟩; obtain ⟨A7, c7, rfl⟩ := gr_slice ho7; obtain ⟨g7, rfl, -, -, -⟩ := gr_some ho7 (by omega); have c5 : w7.cell? ⟨g7, a, none⟩ = some (.bool qb) := (by rw [ho7.cellAt a (by omega), Hqb.out]; exact boolsV_at rb a (by rw [Hrbl.out]; exact hlta)); have HB7 := Lib.hid (HB6.out.trans (hb7.mono HB6.out.size)); have hBr7 := HBr.out.trans (hb7.mono HBr.out.size); have d2 := Hpc.out _ hBr7 a hlta; rw [HXA.out] at d2; have d3 := Hpc.out _ hBr7 b hltb; rw [← HXB.out] at d3; have d4 := (hb7.cell (p := ⟨g5, b, none⟩) (by obtain ⟨_, e, _, _, hlt⟩ := gr_some Ho6.out (by omega); injection e with e; injection e with e; show g5 < wr.heap.size; omega)).trans c4; clear ho7 hb7 hK2 hBr7 c1 c2 c3 c4 x0 x1 x2 x3 x4)
                        cases qb with
                        | false =>
                          have hnba : ¬ RR g b a := fun h => by have := hba2.2 h; cases this
                          have hxne : ((xa : Int) == xb) = false := by
                            rw [beq_eq_false_iff_ne]
                            exact fun e => hnba (heq.1 e).2
                          clear hba2 heq hnba
                          go_upto_region 32 with fail
                          go_quiet (fail)
                          go_wp2
                          go_roundw
                          case rel => exact ⟨b + 1, by omega, by go_num, Lib.hid (below_dr HB7.out _)⟩
                          case measure => simp [intOf]; omega
                        | true =>
                          obtain rfl : (xa : Int) = xb := heq.2 ⟨hrab, hba2.1 rfl⟩
                          clear hba2 heq hxle
                          go_upto_region 32 with fail
                          go_quiet (fail)
                          go_wp2
                          go_roundw
                          case rel => exact ⟨b + 1, by omega, by go_num, Lib.hid (below_dr HB7.out _)⟩
                          case measure => simp [intOf]; omega
                    · clear hBr
                      go_wp2
                      go_roundw
                      case rel => exact ⟨a + 1, by omega, by go_num, Lib.hid (HB5.out.trans (HB6.out.mono HB5.out.size))⟩
                      case measure => simp [intOf]; omega
              · obtain rfl : a = i := by omega
                go_wp2
                go_ret
                exact ⟨rfl, Hb1.out.trans ((HbY.out.trans ((HYE.out.trans (HB.out.mono HYE.out.size)).mono (by have := HzY.out; omega))).mono Hb1.out.size)⟩
end Go.Proofs.Ytlejpoofgnenhaa
