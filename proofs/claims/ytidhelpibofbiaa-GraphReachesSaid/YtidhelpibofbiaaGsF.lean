/-
  The law GraphReaches.
-/
import Derived.Test.YtidhelpibofbiaaGsE
namespace Go.Proofs.Ytidhelpibofbiaa
open Go.RowKit Go.Shelf
set_option linter.unusedVariables false
set_option linter.unusedSimpArgs false

set_option maxRecDepth 100000 in
set_option maxHeartbeats 16000000 in
theorem graphReaches_any (n0 : Nat) (A : Option Addr) (L c : Nat) (l : List (Int × Int)) (to_ wo : Int) (w : World) (hv : GPr n0 w (.slice A L c) l) (hn : n0 ≤ w.heap.size) (hL : L ≤ c) (hc : c ≤ maxLen) (hin : ∀ x ∈ l, InG x.1 ∧ InG x.2) (hto : InG to_) (hwo : InG wo) :
    Calls Try.prog 5 #[.slice A L c, .int .i64 to_, .int .i64 wo] w fun e w' => e = .returned (.bool true) ∧ Below w.heap.size w w' := by
  have hll : L = l.length := by obtain ⟨A', c', e, _⟩ := id hv; injection e
  have hGr := graph_true n0 _ l w hv hn (by unfold maxLen at hc; omega) hin
  have hsp := fun (b : Nat) (hb : b < (graphP l true).length) => reach_spec hin (to_ := to_) (wo := wo) (b := b) hb
  have hg := tosOk_graphP hin
  have hgl : (graphP l true).length ≤ 14 := by rw [graphP_len]; omega
  obtain ⟨g, hge⟩ : ∃ g, g = graphP l true := ⟨_, rfl⟩
  rw [← hge] at hGr hg hgl
  simp only [← hge] at hsp
  have Hto := Lib.hid hto
  have Hwo := Lib.hid hwo
  have Hg := Lib.hid hg
  have Hsp := Lib.hid hsp
  have Hgl := Lib.hid hgl
  clear hv hin hll hge hg hsp hgl hto hwo hL hc
  go_enter Try.func5, Try.ntmps5
  go_wp2_with (first
    | (go_at_call 8; refine hGr.mono ?_; rintro e w1 ⟨f, rfl, hf1, hb1⟩; obtain ⟨s, pA, pn, pc, r, iA, in_, ic, bA, bn, bc, rfl, hG1, hbn1⟩ := id hf1;
        obtain ⟨Y, hY, hbY, hzY, h0Y⟩ := gr_one w1 #[.string s, .slice pA pn pc, .int .i64 r, .slice iA in_ ic, .slice bA bn bc] 27;
        have hfr : ∀ A : World, Below w1.heap.size w1 A → GF w1.heap.size A (.agg #[.string s, .slice pA pn pc, .int .i64 r, .slice iA in_ ic, .slice bA bn bc]) g := (fun A hA => ⟨s, pA, pn, pc, r, iA, in_, ic, bA, bn, bc, rfl, hG1.keep hA, hbn1⟩);
        have hR := reach_g w1.heap.size _ g to_ wo Y (hfr Y hbY) (by omega) Hto.out Hwo.out;
        rw [← hbn1] at hR;
        have hbl : bn ≤ 14 := (by rw [hbn1]; exact Hgl.out);
        have Hbn := Lib.hid hbn1;
        have Hfr := Lib.hid hfr; have HY := Lib.hid hY; have HbY := Lib.hid hbY; have HzY := Lib.hid hzY; have H0Y := Lib.hid h0Y; have Hb1 := Lib.hid hb1; clear hf1 hb1 hGr hG1 hbn1 hfr hY hbY hzY h0Y))
  have hY2 := HY.out
  go_upto_region 2 with fail
  rw [← HY.out]
  clear hY2
  obtain ⟨x0, x1, x2, x3, x4, -⟩ := gr_five H0Y.out
  obtain ⟨res, hres⟩ : ∃ res, res = reachP g to_ wo := ⟨_, rfl⟩
  have hrl : res.length = bn := by rw [hres, reachP_len]; exact Hbn.out.symm
  rw [← hres] at hR
  have Hres := Lib.hid hres
  have Hrl := Lib.hid hrl
  clear hres hrl
  have hn1 : ((bn : Int) != (bn : Int)) = false := by simp
  go_upto_region 5 with (first
    | (go_at_call 16; refine hR.mono ?_; rintro e w2 ⟨v2, rfl, ho2, hb2⟩; obtain ⟨A2, c2, rfl⟩ := gr_slice ho2;
        have hA := awake8_any w2; have Ho2 := Lib.hid ho2; have Hb2 := Lib.hid hb2; clear ho2 hb2 hR)
    | (go_at_call 9; refine hA.mono ?_; rintro e w3 ⟨rfl, hb3⟩;
        have hb3Y : Below Y.heap.size Y w3 := Hb2.out.trans (hb3.mono Hb2.out.size);
        have h03 := (hb3Y.block w1.heap.size (gr_in H0Y.out)).trans H0Y.out;
        obtain ⟨y0, y1, y2, y3, y4, -⟩ := gr_five h03;
        have Hb3 := Lib.hid hb3; have Hb3Y := Lib.hid hb3Y; clear hb3 hb3Y h03 hA))
  clear x0 x1 x2 x3 x4 y0 y1 y2 y3 y4 hn1
  go_upto_region 6 with fail
  go_loopw [9] (fun u9 wr => ∃ k : Nat, k ≤ bn ∧ u9 = .int .i64 k ∧ Hid (Below w2.heap.size w2 wr)) (fun u9 _ => bn - (intOf u9).toNat)
  case atStart => exact ⟨0, Nat.zero_le _, rfl, Hb3⟩
  case round =>
    obtain ⟨k, hk, rfl, HW⟩ := hrel
    by_cases hltk : k < bn
    · have hkg : k < g.length := by rw [← Hbn.out]; exact hltk
      have hsk := Hsp.out k hkg
      rw [← Hres.out, ← Hbn.out] at hsk
      have hor := gr_up Ho2.out HW.out
      obtain ⟨g2, rfl, -, -, -⟩ := gr_some hor (by omega)
      obtain ⟨q, hq⟩ : ∃ q, q = res.getD k false := ⟨_, rfl⟩
      have hqk : wr.cell? ⟨g2, k, none⟩ = some (.bool q) := by
        rw [hor.cellAt k (by omega)]
        have : k < res.length := by rw [Hrl.out]; exact hltk
        rw [hq]
        simp [boolsV, List.getD, this]
      rw [← hq] at hsk
      have hbY : Below Y.heap.size Y wr := Hb2.out.trans (HW.out.mono Hb2.out.size)
      have h0 := (hbY.block w1.heap.size (gr_in H0Y.out)).trans H0Y.out
      obtain ⟨x0, x1, x2, x3, x4, -⟩ := gr_five h0
      have hwf : GF w1.heap.size wr (.agg #[.string s, .slice pA pn pc, .int .i64 r, .slice iA in_ ic, .slice bA bn bc]) g := Hfr.out wr (HbY.out.trans (hbY.mono (by have := HzY.out; omega)))
      have hszr : w1.heap.size ≤ wr.heap.size := by have := HzY.out; have := hbY.size; omega
      have hne : (q != q) = false := by cases q <;> rfl
      have Hor := Lib.hid hor
      clear hq hor h0 hbY
      by_cases hT : 0 ≤ to_ ∧ to_ < (bn : Int) ∧ to_ ≠ wo ∧ (k : Int) ≠ wo
      · obtain ⟨t0, t1, t2, t3⟩ := id hT
        rw [decide_eq_true hT, Bool.true_and] at hsk
        have hF := from_g w1.heap.size _ g (k : Int) wo wr hwf hszr Hg.out (by omega) (by unfold InG; omega) Hwo.out
        rw [← Hbn.out] at hF
        have hfl := fromP_len g (k : Int) wo
        rw [← Hbn.out] at hfl
        obtain ⟨fs, hfs⟩ : ∃ fs, fs = fromP g (k : Int) wo := ⟨_, rfl⟩
        rw [← hfs] at hsk hF hfl
        have b1 : (to_ != wo) = true := by simpa using t2
        have b2 : ((k : Int) != wo) = true := by simpa using t3
        obtain ⟨tn, htn⟩ : ∃ tn : Nat, to_ = tn := ⟨to_.toNat, by omega⟩
        subst htn
        rw [Int.toNat_natCast] at hsk
        have htb : tn < bn := by omega
        have Hsk := Lib.hid hsk
        have Hfl := Lib.hid hfl
        clear hfs hsk hfl hT t2 t3
        go_wp2_with (go_at_call 17; refine hF.mono ?_; rintro e w4 ⟨v4, rfl, ho4, hb4⟩; obtain ⟨A4, c4, rfl⟩ := gr_slice ho4; obtain ⟨g4, rfl, -, -, -⟩ := gr_some ho4 (by omega); have hp4 : w4.cell? ⟨g4, tn, none⟩ = some (.bool q) := (by rw [ho4.cellAt tn (by omega)]; have : tn < fs.length := (by rw [Hfl.out]; exact htb); rw [Hsk.out]; simp [boolsV, List.getD, this]); have hq4 : w4.cell? ⟨g2, k, none⟩ = some (.bool q) := (hb4.cell (p := ⟨g2, k, none⟩) (by obtain ⟨_, e, _, _, hlt⟩ := gr_some Hor.out (by omega); injection e with e; injection e with e; show g2 < wr.heap.size; omega)).trans hqk; have HW4 := Lib.hid (HW.out.trans (hb4.mono HW.out.size)); clear ho4 hb4 hF hqk x0 x1 x2 x3 x4)
        go_roundw
        case rel => exact ⟨k + 1, by omega, by go_num, HW4⟩
        case measure => simp [intOf]; omega
      · rw [decide_eq_false hT, Bool.false_and] at hsk
        subst hsk
        by_cases t0 : 0 ≤ to_
        · by_cases t1 : to_ < (bn : Int)
          · by_cases t2 : to_ = wo
            · have b1 : (to_ != wo) = false := by simpa using t2
              clear hT t2
              go_wp2
              go_roundw
              case rel => exact ⟨k + 1, by omega, by go_num, HW⟩
              case measure => simp [intOf]; omega
            · have b1 : (to_ != wo) = true := by simpa using t2
              have b2 : ((k : Int) != wo) = false := by
                have : (k : Int) = wo := by omega
                simpa using this
              clear hT t2
              go_wp2
              go_roundw
              case rel => exact ⟨k + 1, by omega, by go_num, HW⟩
              case measure => simp [intOf]; omega
          · clear hT
            go_wp2
            go_roundw
            case rel => exact ⟨k + 1, by omega, by go_num, HW⟩
            case measure => simp [intOf]; omega
        · clear hT
          go_wp2
          go_roundw
          case rel => exact ⟨k + 1, by omega, by go_num, HW⟩
          case measure => simp [intOf]; omega
    · obtain rfl : k = bn := by omega
      go_wp2
      go_ret
      exact ⟨rfl, Hb1.out.trans ((HbY.out.trans ((Hb2.out.trans (HW.out.mono Hb2.out.size)).mono (by have := HzY.out; omega))).mono Hb1.out.size)⟩
end Go.Proofs.Ytidhelpibofbiaa
