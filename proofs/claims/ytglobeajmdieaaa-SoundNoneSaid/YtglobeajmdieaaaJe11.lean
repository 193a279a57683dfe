/-
  graph.Post: how blocks are left.
-/
import Derived.Test.YtglobeajmdieaaaJe10
namespace Go.Proofs.Ytglobeajmdieaaa
set_option linter.unusedVariables false
set_option linter.unusedSimpArgs false
open Go.RowKit

/-- Between two rounds, with so much fuel left. -/
def PK (base n : Nat) (W : World) (ge : Nat) (g : List GB) (res : List Nat) (k : Nat) (u4 u5 : Value) (wr : World) : Prop :=
  ∃ st left ent, PSt base n W wr ge u4 u5 st left ent ∧ PIn g st left ent ∧ postRun g k ent st left = some res

set_option maxRecDepth 100000 in
set_option maxHeartbeats 16000000 in
theorem post_g (n0 : Nat) (f : Value) (g : List GB) (w : World) (hf : GF n0 w f g) (hn : n0 ≤ w.heap.size) :
    Calls Try.prog 50 #[f] w fun e w' => ∃ v, e = .returned v ∧ w'.ownsRow w.heap.size 3 1 v (postP g).length (natsV (postP g)) ∧ Below w.heap.size w w' := by
  have hf0 := hf
  obtain ⟨s, pA, pn, pc, r, iA, in_, ic, bA, bn, bc, rfl, hG, hbn⟩ := hf
  obtain ⟨W, hW, hbW, hzW, h0W⟩ := gr_one w #[.string s, .slice pA pn pc, .int .i64 r, .slice iA in_ ic, .slice bA bn bc] 46
  obtain ⟨x0, x1, x2, x3, x4, -⟩ := gr_five h0W
  have hlen : bn ≤ 1048576 := by rw [hbn]; obtain ⟨_, _, _, h, _⟩ := hG; exact h
  have hfW : GF n0 W (.agg #[.string s, .slice pA pn pc, .int .i64 r, .slice iA in_ ic, .slice bA bn bc]) g := ⟨s, pA, pn, pc, r, iA, in_, ic, bA, bn, bc, rfl, hG.keep (hbW.mono hn), hbn⟩
  have hH := whole_g n0 _ g W hfW (by omega)
  have HG := Lib.hid hG
  have Hbn := Lib.hid hbn
  have HbW := Lib.hid hbW
  have HW := Lib.hid hW
  have HzW := Lib.hid hzW
  have H0W := Lib.hid h0W
  clear hbW hW hG hbn hzW h0W hf0 hfW
  cases hq : wholeG g with
  | false =>
    rw [hq] at hH
    have hnil : postP g = [] := by unfold postP; rw [hq]; rfl
    go_enter Try.func50, Try.ntmps50
    go_upto_region 1 with fail
    rw [← HW.out]
    go_wp2_with (go_at_call 75; refine hH.mono ?_; rintro e w1 ⟨rfl, h1⟩; have H1 := Lib.hid h1; clear h1 hH)
    go_ret
    refine ⟨_, rfl, ?_, HbW.out.trans (H1.out.mono (by rw [HzW.out]; omega))⟩
    rw [hnil]
    exact World.ownsRow_nil _ _ _ _
  | true =>
    rw [hq] at hH
    obtain ⟨-, -, j0, hrun⟩ := postP_run hq
    obtain ⟨res, hres⟩ : ∃ res, res = postP g := ⟨_, rfl⟩
    rw [← hres] at hrun ⊢
    obtain ⟨hpos, hall⟩ := wholeG_all hq
    have Hall := Lib.hid hall
    have Hrun := Lib.hid hrun
    have hposb : 0 < bn := by rw [Hbn.out]; exact hpos
    clear hres hrun hall hq hpos
    obtain ⟨i0, hi0, hz0, hz1, hz2⟩ := info_parts infoBoolG
    have Hi := Lib.hid hi0
    have Hz0 := Lib.hid hz0
    have Hz1 := Lib.hid hz1
    have Hz2 := Lib.hid hz2
    obtain ⟨j1, hj1, jz0, jz1, jz2⟩ := info_parts infoIntG
    have Ji := Lib.hid hj1
    have Jz0 := Lib.hid jz0
    have Jz1 := Lib.hid jz1
    have Jz2 := Lib.hid jz2
    obtain ⟨k1, hk1, kz0, kz1, kz2⟩ := info_parts infoStayG
    have Ki := Lib.hid hk1
    have Kz0 := Lib.hid kz0
    have Kz1 := Lib.hid kz1
    have Kz2 := Lib.hid kz2
    clear hi0 hz0 hz1 hz2 hj1 jz0 jz1 jz2 hk1 kz0 kz1 kz2
    go_enter Try.func50, Try.ntmps50
    go_upto_region 1 with fail
    rw [← HW.out]
    go_upto_region 3 with (go_at_call 75; refine hH.mono ?_; rintro e w1 ⟨rfl, h1⟩; have H1 := Lib.hid h1; clear h1 hH)
    clear x0 x1 x2 x3 x4
    have h01 := (H1.out.block _ (by rw [HzW.out]; omega)).trans H0W.out
    obtain ⟨x0, x1, x2, x3, x4, -⟩ := gr_five h01
    go_wp2_with (at_make; refine wpList_make_full _ rfl (.tmp 14) (.tmp 14) 122 rfl w1.heap.size 4 i0 (.bool false) 1 Try.underlying122 Hi.out Hz0.out Hz1.out _ _ _ _ bn rfl rfl rfl rfl (by rw [Hz2.out]; omega) (by unfold maxLen; omega) (Nat.le_refl _) ?_)
    intro w2 ho2 hg2
    have hb2 : Below w1.heap.size w1 w2 := (Below.refl _ _).grown hg2 (Nat.le_refl _) (fun k e => by cases e)
    rw [madeBool] at ho2
    have hP2 : PSt w1.heap.size bn w1 w2 w1.heap.size (.slice none 0 0) (.slice none 0 0) [] [] (List.replicate bn false) := ⟨World.ownsRow_nil _ _ _ _, World.ownsRow_nil _ _ _ _, ho2, hb2, hb2.size⟩
    have f2 := ho2.frozenAt 0
    have e2 := ho2.cellAt 0 (by omega)
    rw [boolsV_at _ _ (by simpa using hposb)] at e2
    have hP3 := hP2.set (t := 0)
    obtain ⟨Y, hY⟩ : ∃ Y, Y = w2.setCell ⟨w1.heap.size, 0, none⟩ (.bool true) := ⟨_, rfl⟩
    rw [← hY] at hP3
    have HP3 := Lib.hid hP3
    have HY := Lib.hid hY
    clear ho2 hg2 hb2 hP2 hY hP3 x0 x1 x2 x3 x4
    go_upto_region 5 with fail
    rw [← HY.out]
    clear e2 f2
    obtain ⟨Z, hZ, hbZ, hzZ, h0Z⟩ := gr_one Y #[.int .i64 0, .int .i64 0] 124
    have hP4 := HP3.out.next hbZ
    have hw4 : Z.ownsRow w1.heap.size 124 2 (.slice (some ⟨Y.heap.size, 0, none⟩) 1 1) 1 (wayV [(0, 0)]) := by
      rw [hZ]
      exact World.ownsRow_lit Y #[.int .i64 0, .int .i64 0] 1 HP3.out.hb (by decide) rfl
    have hP5 : PSt w1.heap.size bn w1 Z w1.heap.size (.slice (some ⟨Y.heap.size, 0, none⟩) 1 1) (.slice none 0 0) [(0, 0)] [] ((List.replicate bn false).set 0 true) := ⟨hw4, hP4.left, hP4.ent, hP4.below, hP4.hb⟩
    have hIn : PIn g [(0, 0)] [] ((List.replicate bn false).set 0 true) := by
      refine PIn.enter ⟨by simp [Hbn.out], by simp [unseen, Hbn.out], fun p hp => by cases hp⟩ (by rw [← Hbn.out]; exact hposb) (by simp [List.getD, hposb])
    rw [Hbn.out] at hIn hP5
    have HP5 := Lib.hid hP5
    have HIn := Lib.hid hIn
    have HZ := Lib.hid hZ
    clear hZ hbZ hzZ h0Z hP4 hw4 hP5 hIn HP3 HY
    go_upto_region 6 with fail
    rw [← HZ.out]
    go_upto_region 7 with fail
    have hPK : ∃ k, PK w1.heap.size bn w1 w1.heap.size g res k (.slice (some ⟨Y.heap.size, 0, none⟩) 1 1) (.slice none 0 0) Z := ⟨j0, _, _, _, by rw [Hbn.out]; exact HP5.out, HIn.out, Hrun.out⟩
    clear HP5 HIn Hrun HZ
    go_loopw [4, 5] (fun u4 u5 wr => ∃ k, PK w1.heap.size bn w1 w1.heap.size g res k u4 u5 wr) (fun u4 u5 wr => leastN (fun k => PK w1.heap.size bn w1 w1.heap.size g res k u4 u5 wr))
    case atStart => exact hPK
    case round =>
      clear hPK
      obtain ⟨K, hK⟩ : ∃ K, K = leastN (fun k => PK w1.heap.size bn w1 w1.heap.size g res k u4 u5 wr) := ⟨_, rfl⟩
      have hk : PK w1.heap.size bn w1 w1.heap.size g res K u4 u5 wr := by rw [hK]; exact leastN_spec hrel
      have HK := Lib.hid hK
      clear hK hrel
      obtain ⟨st, left, ent, hS, hI, hr⟩ := hk
      have hB1 : Below w.heap.size w wr := (HbW.out.trans (H1.out.mono (by rw [HzW.out]; omega))).trans (hS.below.mono (by have := H1.out.size; have := HzW.out; omega))
      have h0r := (hS.below.block _ (gr_in h01)).trans h01
      obtain ⟨x0, x1, x2, x3, x4, -⟩ := gr_five h0r
      have HB1 := Lib.hid hB1
      cases st with
      | nil =>
        have hres : left = res := by cases K <;> simpa [postRun] using hr
        subst hres
        obtain ⟨A4, c4, hA4⟩ := gr_slice hS.way
        obtain ⟨A5, c5, hA5⟩ := gr_slice hS.left
        simp only [List.length_nil] at hA4
        subst hA4 hA5
        have HS := Lib.hid hS
        clear hS hI hr hB1 h0r
        go_wp2
        go_ret
        exact ⟨_, rfl, gr_mono HS.out.left (by have := H1.out.size; have := HzW.out; omega), HB1.out⟩
      | cons p st =>
        obtain ⟨b, q⟩ := p
        cases K with
        | zero => simp [postRun] at hr
        | succ k =>
          obtain ⟨hbl, hql⟩ := hI.lt (b, q) (by simp)
          obtain ⟨A4, c4, hA4⟩ := gr_slice hS.way
          obtain ⟨A5, c5, hA5⟩ := gr_slice hS.left
          subst hA4 hA5
          obtain ⟨gw, hgw, -, hgwb, hgwl⟩ := gr_some hS.way (by simp)
          subst hgw
          obtain ⟨p, hp⟩ : ∃ p, p = st.length := ⟨_, rfl⟩
          have hl4 : ((b, q) :: st).length = p + 1 := by rw [hp]; rfl
          rw [hl4] at hS HK ⊢
          have hp2 : p < 1048576 := by have := hI.few; rw [hl4] at this; rw [← Hbn.out] at this; omega
          have hlf : left.length < 1048576 := by have := hI.few; rw [hl4] at this; rw [← Hbn.out] at this; omega
          have hway : wr.ownsRow w1.heap.size 124 2 (.slice (some ⟨gw, 0, none⟩) (p + 1) c4) (p + 1) (wayV ((b, q) :: st)) := by have := hS.way; rw [hl4] at this; exact this
          have c0 : wr.cell? ⟨gw, p * 2, none⟩ = some (.int .i64 b) := by
            rw [hway.cellAt (p * 2) (by omega), wayV, List.getElem?_append_right (by rw [wayV_len]; omega), wayV_len, hp]
            simp
          have c1 : wr.cell? ⟨gw, p * 2 + 1, none⟩ = some (.int .i64 q) := by
            rw [hway.cellAt (p * 2 + 1) (by omega), wayV, List.getElem?_append_right (by rw [wayV_len]; omega), wayV_len, hp]
            simp
          have f1 := hway.frozenAt (p * 2 + 1)
          obtain ⟨bb, o, qA, qc, tA, tc, lA, ln, lc, rfl, hb0, d0, d1, d2, d3, d4, rp, rt, hok⟩ := (HG.out.keep (hB1.mono hn)).at hbl
          have hto : tosG g b = g[b].to_ := tosG_at hbl
          rw [hto] at hql
          obtain ⟨to_, hto_⟩ : ∃ l, l = g[b].to_ := ⟨_, rfl⟩
          obtain ⟨m, hm⟩ : ∃ m, m = to_.length := ⟨_, rfl⟩
          have hml : m ≤ 1048576 := by rw [hm, hto_]; exact hok.2.2.1
          rw [← hto_] at hto hql d4 rt
          rw [← hm] at hql d4 rt
          have hbb : b < bn := by rw [Hbn.out]; exact hbl
          have hga : g[b]? = some g[b] := List.getElem?_eq_getElem hbl
          have hmem : ∀ t ∈ to_, 0 ≤ t ∧ t < (bn : Int) := fun t ht => by rw [Hbn.out]; exact Hall.out b _ hga t (by rw [← hto_]; exact ht)
          have Hto := Lib.hid hto
          have Hm := Lib.hid hm
          have Hp := Lib.hid hp
          have Hrt := Lib.hid rt
          have HS := Lib.hid hS
          have HI := Lib.hid hI
          have Hr := Lib.hid hr
          have Hmem := Lib.hid hmem
          clear hto hm hp rt hS hI hr hto_ hmem hga hok rp d0 d1 d2 d3 hb0 hB1 h0r hl4 hbl hway
          by_cases hqm : q = m
          · subst hqm
            go_upto_region 9 with fail
            go_quiet (fail)
            generalize hX : World.drewN wr _ = X
            have bX : Below wr.heap.size wr X := by rw [← hX]; exact below_dr (Below.refl _ _) _
            have e0 : X.cell? ⟨gw, p * 2, none⟩ = some (.int .i64 b) := by rw [← hX]; exact c0
            have e1 : X.cell? ⟨gw, p * 2 + 1, none⟩ = some (.int .i64 q) := by rw [← hX]; exact c1
            have hSX := HS.out.next bX
            obtain ⟨A2, hA2, hbA, hzA, h0A⟩ := gr_one X #[.int .i64 b] 3
            have hSA := hSX.next hbA
            have HSA := Lib.hid hSA
            have HOW := Lib.hid hSA.left
            have HNW := Lib.hid (World.news_of_block h0A)
            have HOn : Hid (∀ u ∈ ([.int .i64 b] : List Value), u.oneCell' = true) := Lib.hid (by intro u hu; simp at hu; subst hu; rfl)
            have hsz2 := hSA.hb
            have hcut := cut_stay (g := gw) (c := c4) (n := p + 1) p (by omega) (by have := (gr_len HS.out.way).1; omega)
            have Hr2 : Hid (postRun g k ent st (left ++ [b]) = some res) := Lib.hid (by
              have := Hr.out
              rw [postRun, Hto.out, List.getElem?_eq_none (by rw [← Hm.out]; exact Nat.le_refl _)] at this
              exact this)
            rw [hA2] at HOW HNW hsz2
            have HA2 := Lib.hid hA2
            clear hX bX c0 c1 f1 d4 x0 x1 x2 x3 x4 hSX hSA hA2 hbA hzA h0A Hr
            go_wp2_with (at_builtin; refine wpList_append_lies _ rfl (.tmp 45) (.tmp 50) 42 rfl w1.heap.size 3 j1 (.int .i64 0) 1 8 Try.underlying42 Ji.out Jz0.out Jz1.out Jz2.out rfl (by decide) (.slice A5 left.length c5) left.length (natsV left) rfl HOW.out ⟨X.heap.size, 0, none⟩ 1 1 [.int .i64 b] rfl rfl HNW.out HOn.out (by decide) (by unfold maxLen; omega) (by omega) hsz2 _ rfl ?_)
            intro gp cp w5 hown5 hgrow hat hlt5
            rw [← HA2.out] at hgrow
            have HS5 := Lib.hid ((HSA.out.left_ hgrow hown5).pop Hp.out)
            have Hnew := Lib.hid (show PK w1.heap.size bn w1 w1.heap.size g res k (.slice (some ⟨gw, 0, none⟩) p c4) (.slice (some ⟨gp, 0, none⟩) (left.length + 1) cp) w5 from ⟨st, _, ent, HS5.out, HI.out.leave, Hr2.out⟩)
            clear hown5 hgrow hat hlt5 HOW HNW hsz2 HSA HA2 HS5
            go_wp2
            go_roundw
            case rel => exact ⟨k, Hnew.out⟩
            case measure => rw [← HK.out]; exact Nat.lt_succ_of_le (leastN_le Hnew.out)
          · have hlt : q < m := by omega
            have hqf := eqb_false hqm
            have hqt : q < to_.length := by rw [← Hm.out]; exact hlt
            obtain ⟨b2, o2, rfl, hb2, hc⟩ := (Hrt.out).at hqt
            have hget : (tosG g b)[q]? = some to_[q] := by rw [Hto.out]; exact List.getElem?_eq_getElem hqt
            obtain ⟨t0, t1⟩ := Hmem.out to_[q] (List.getElem_mem hqt)
            obtain ⟨t, ht⟩ : ∃ t : Nat, (t : Int) = to_[q] := ⟨to_[q].toNat, by omega⟩
            rw [← ht] at hc hget t0 t1
            have htl : t < bn := by omega
            have hr := Hr.out
            rw [postRun, hget] at hr
            simp only [Int.toNat_natCast] at hr
            have Hr2 := Lib.hid hr
            have HI2 := Lib.hid (HI.out.look (show q < (tosG g b).length by rw [Hto.out]; exact hqt))
            have hS2 := HS.out.look (q + 1)
            rw [← Hp.out] at hS2
            clear ht hget hr Hr t0 t1 hb2 hqt
            go_upto_region 9 with fail
            go_quiet (fail)
            generalize hX : World.drewN wr _ = X
            have bX : Below wr.heap.size wr X := by rw [← hX]; exact below_dr (Below.refl _ _) _
            have e0 : X.cell? ⟨gw, p * 2, none⟩ = some (.int .i64 b) := by rw [← hX]; exact c0
            have e1 : X.cell? ⟨gw, p * 2 + 1, none⟩ = some (.int .i64 q) := by rw [← hX]; exact c1
            have ef : X.frozen? ⟨gw, p * 2 + 1, none⟩ = false := by rw [← hX]; exact f1
            have e2 : X.cell? ⟨b2, o2 + q, none⟩ = some (.int .i64 t) := by rw [← hX]; exact hc
            have hSX : PSt w1.heap.size bn w1 (X.setCell ⟨gw, p * 2 + 1, none⟩ (.int .i64 ((q + 1 : Nat) : Int))) w1.heap.size (.slice (some ⟨gw, 0, none⟩) (p + 1) c4) (.slice A5 left.length c5) ((b, q + 1) :: st) left ent := by
              have := (HS.out.next bX).look (q + 1)
              rw [← Hp.out] at this
              exact this
            rw [show ((q + 1 : Nat) : Int) = (q : Int) + 1 from rfl] at hSX
            obtain ⟨Y, hY⟩ : ∃ Y, Y = X.setCell ⟨gw, p * 2 + 1, none⟩ (.int .i64 ((q : Int) + 1)) := ⟨_, rfl⟩
            rw [← hY] at hSX
            have g2 := hSX.ent.cellAt t (by omega)
            rw [boolsV_at _ _ (by rw [HI.out.len, ← Hbn.out]; exact htl)] at g2
            have gf := hSX.ent.frozenAt t
            have HY := Lib.hid hY
            have HSX := Lib.hid hSX
            clear hX bX c0 c1 f1 d4 x0 x1 x2 x3 x4 hSX hY hS2 hc
            go_upto_region 15 with fail
            rw [← HY.out]
            clear e0 e1 ef e2
            cases hq : ent.getD t false with
            | true =>
              rw [hq] at g2 Hr2
              rw [if_pos rfl] at Hr2
              have Hnew := Lib.hid (show PK w1.heap.size bn w1 w1.heap.size g res k (.slice (some ⟨gw, 0, none⟩) (p + 1) c4) (.slice A5 left.length c5) Y from ⟨_, left, ent, HSX.out, HI2.out, Hr2.out⟩)
              clear hq
              go_wp2
              go_roundw
              case rel => exact ⟨k, Hnew.out⟩
              case measure => rw [← HK.out]; exact Nat.lt_succ_of_le (leastN_le Hnew.out)
            | false =>
              rw [hq] at g2 Hr2
              rw [if_neg (by simp)] at Hr2
              have hSE := HSX.out.set (t := t)
              have HI3 := Lib.hid (HI2.out.enter (t := t) (by rw [← Hbn.out]; exact htl) hq)
              obtain ⟨X2, hX2⟩ : ∃ X2, X2 = Y.setCell ⟨w1.heap.size, t, none⟩ (.bool true) := ⟨_, rfl⟩
              rw [← hX2] at hSE
              have HX2 := Lib.hid hX2
              obtain ⟨A2, hA2, hbA, hzA, h0A⟩ := gr_one X2 #[.int .i64 t, .int .i64 0] 124
              have hSA := hSE.next hbA
              have HSA := Lib.hid hSA
              have HOW := Lib.hid hSA.way
              have HNW := Lib.hid (World.news_of_block h0A)
              have HOn : Hid (∀ u ∈ ([.int .i64 t, .int .i64 0] : List Value), u.oneCell' = true) := Lib.hid (by intro u hu; simp at hu; rcases hu with rfl | rfl <;> rfl)
              have hsz2 := hSA.hb
              rw [hA2] at HOW HNW hsz2
              have HA2 := Lib.hid hA2
              clear hX2 hSE hSA hA2 hbA hzA h0A hq
              go_upto_region 17 with fail
              rw [← HX2.out]
              clear g2 gf
              rw [show ((b, q + 1) :: st).length = p + 1 by rw [Hp.out]; rfl] at HOW
              go_wp2_with (at_builtin; refine wpList_append_lies _ rfl (.tmp 79) (.tmp 82) 125 rfl w1.heap.size 124 k1 (.agg #[.int .i64 0, .int .i64 0]) 2 16 Try.underlying125 Ki.out Kz0.out Kz1.out Kz2.out rfl (by decide) (.slice (some ⟨gw, 0, none⟩) (p + 1) c4) (p + 1) (wayV ((b, q + 1) :: st)) rfl HOW.out ⟨X2.heap.size, 0, none⟩ 1 1 [.int .i64 t, .int .i64 0] rfl rfl HNW.out HOn.out (by decide) (by unfold maxLen; omega) (by omega) hsz2 _ rfl ?_)
              intro gp cp w5 hown5 hgrow hat hlt5
              rw [← HA2.out] at hgrow
              have HS5 := HSA.out.push (b := t) hgrow (by rw [show ((b, q + 1) :: st).length = p + 1 by rw [Hp.out]; rfl]; exact hown5)
              have Hnew := Lib.hid (show PK w1.heap.size bn w1 w1.heap.size g res k (.slice (some ⟨gp, 0, none⟩) (p + 1 + 1) cp) (.slice A5 left.length c5) w5 from ⟨_, left, _, HS5, HI3.out, Hr2.out⟩)
              clear hown5 hgrow hat hlt5 HOW HNW hsz2 HSA HA2 HS5 HX2
              go_wp2
              go_roundw
              case rel => exact ⟨k, Hnew.out⟩
              case measure => rw [← HK.out]; exact Nat.lt_succ_of_le (leastN_le Hnew.out)
end Go.Proofs.Ytglobeajmdieaaa
