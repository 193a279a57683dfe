/-
  The law DomFrontiers.
-/
import Derived.Test.YtoplllebaagnnaaJd42
import Derived.Test.YtoplllebaagnnaaJd48
import Derived.Deep.DeepCutAuto
namespace Go.Proofs.Ytoplllebaagnnaa
set_option linter.unusedVariables false
set_option linter.unusedSimpArgs false
open Go.RowKit Go.Shelf

set_option maxRecDepth 100000 in
set_option maxHeartbeats 16000000 in
theorem domFrontiers_any (n0 : Nat) (A : Option Addr) (L c : Nat) (l : List (Int × Int)) (w : World) (hv : GPr n0 w (.slice A L c) l) (hn : n0 ≤ w.heap.size) (hL : L ≤ c) (hc : c ≤ maxLen) (hin : ∀ x ∈ l, InG x.1 ∧ InG x.2) :
    Calls Try.prog 7 #[.slice A L c] w fun e w' => e = .returned (.bool true) ∧ Below w.heap.size w w' := by
  have hll : L = l.length := by obtain ⟨A', c', e, _⟩ := id hv; injection e
  have hGr := graph_true n0 _ l w hv hn (by unfold maxLen at hc; omega) hin
  have hg := tosOk_graphP hin
  have hgl : (graphP l true).length ≤ 14 := by rw [graphP_len]; omega
  obtain ⟨T, hT⟩ := tree_any hg (tos_two hin) (by omega)
  obtain ⟨g, hge⟩ : ∃ g, g = graphP l true := ⟨_, rfl⟩
  rw [← hge] at hGr hg hgl hT
  have Hg := Lib.hid hg
  have Hgl := Lib.hid hgl
  have HT := Lib.hid hT
  clear hv hin hll hge hg hgl hL hc hT
  go_enter Try.func7, Try.ntmps7
  go_wp2_with (first
    | (go_at_call 9; refine hGr.mono ?_; rintro e w1 ⟨f, rfl, hf1, hb1⟩; obtain ⟨s, pA, pn, pc, r, iA, in_, ic, bA, bn, bc, rfl, hG1, hbn1⟩ := id hf1;
        obtain ⟨Y, hY, hbY, hzY, h0Y⟩ := gr_one w1 #[.string s, .slice pA pn pc, .int .i64 r, .slice iA in_ ic, .slice bA bn bc] 27;
        have hfr : ∀ A : World, Below Y.heap.size Y A → GF w1.heap.size A (.agg #[.string s, .slice pA pn pc, .int .i64 r, .slice iA in_ ic, .slice bA bn bc]) g := (fun A hA => ⟨s, pA, pn, pc, r, iA, in_, ic, bA, bn, bc, rfl, hG1.keep (hbY.trans (hA.mono (by omega))), hbn1⟩);
        have hx : ∀ A : World, Below Y.heap.size Y A → A.cell? ⟨w1.heap.size, 0, none⟩ = some (.string s) ∧ A.cell? ⟨w1.heap.size, 1, none⟩ = some (.slice pA pn pc) ∧ A.cell? ⟨w1.heap.size, 2, none⟩ = some (.int .i64 r) ∧ A.cell? ⟨w1.heap.size, 3, none⟩ = some (.slice iA in_ ic) ∧ A.cell? ⟨w1.heap.size, 4, none⟩ = some (.slice bA bn bc) := (fun A hA => by obtain ⟨x0, x1, x2, x3, x4, -⟩ := gr_five ((hA.block w1.heap.size (gr_in h0Y)).trans h0Y); exact ⟨x0, x1, x2, x3, x4⟩);
        have hbl : bn ≤ 14 := (by rw [hbn1]; exact Hgl.out);
        have Hbn := Lib.hid hbn1; have Hx := Lib.hid hx;
        have Hfr := Lib.hid hfr; have HY := Lib.hid hY; have HbY := Lib.hid hbY; have HzY := Lib.hid hzY; have H0Y := Lib.hid h0Y; have Hb1 := Lib.hid hb1; clear hf1 hb1 hGr hG1 hbn1 hfr hY hbY hzY h0Y hx))
  have hY2 := HY.out
  go_upto_region 2 with fail
  rw [← HY.out]
  clear hY2
  have hN : Calls Try.prog 10 #[.agg #[.string s, .slice pA pn pc, .int .i64 r, .slice iA in_ ic, .slice bA bn bc]] Y.drew fun e w' => ∃ tp, e = .returned (.pointer (some ⟨tp, 0, none⟩)) ∧ TR w' tp g T ∧ Below Y.heap.size Y w' := (new_t w1.heap.size _ g T Y.drew (Hfr.out Y.drew (Below.refl _ _).drew) (by have := HzY.out; show w1.heap.size ≤ Y.heap.size; omega) HT.out).mono fun e w' ⟨tp, h1, h2, h3⟩ => ⟨tp, h1, h2, ((Below.refl _ _).drew).trans h3⟩
  have hTb : ∀ X : World, Below Y.heap.size Y X → Calls Try.prog 11 #[.agg #[.string s, .slice pA pn pc, .int .i64 r, .slice iA in_ ic, .slice bA bn bc]] X fun e w' => ∃ tb ib, e = .returned (.slice (some ⟨tb, 0, none⟩) bn bn) ∧ BT w' tb ib bn (tabP g) ∧ Below X.heap.size X w' := fun X hX => by
    have h := table_g w1.heap.size _ g X (Hfr.out X hX) (by have := HzY.out; have := hX.size; omega) Hg.out
    rw [← Hbn.out] at h
    exact h
  have HTb := Lib.hid hTb
  clear hTb
  obtain ⟨x0, x1, x2, x3, x4⟩ := Hx.out Y (Below.refl _ _)
  obtain ⟨y0, y1, y2, y3, y4⟩ := Hx.out Y.drew (Below.refl _ _).drew
  go_cut [4, 5] (fun u4 u5 wx => MidD Y g T bn u4 u5 wx)
  case first =>
    go_region_with (first
      | (go_at_call 10; refine hN.mono ?_; rintro e w2 ⟨tp, rfl, htr, hb2⟩; obtain ⟨z0, z1, z2, z3, z4⟩ := Hx.out w2 hb2; have hTb2 := HTb.out w2 hb2; have Htr := Lib.hid htr; have Hb2 := Lib.hid hb2; clear htr hb2 hN)
      | (go_at_call 11; refine hTb2.mono ?_; rintro e w3 ⟨tb, ib, rfl, hbt, hb3⟩; have HM : Hid (MidD Y g T bn (.pointer (some ⟨tp, 0, none⟩)) (.slice (some ⟨tb, 0, none⟩) bn bn) w3) := Lib.hid ⟨tp, tb, ib, rfl, rfl, Htr.out.keep hb3, hbt, Hb2.out.trans (hb3.mono Hb2.out.size)⟩; clear hbt hb3 hTb2))
    all_goals (go_wp2_with fail; go_meet; exact HM.out)
  case rest =>
  obtain ⟨W, hW⟩ : ∃ W, W = wc := ⟨_, rfl⟩
  subst hW
  obtain ⟨tp, tb, ib, rfl, rfl, htr, hbt, hbW⟩ := hcut
  have HR : Hid (∀ B, Below W.heap.size W B → TR B tp g T ∧ BT B tb ib bn (tabP g) ∧ B.cell? ⟨w1.heap.size, 4, none⟩ = some (.slice bA bn bc)) := Lib.hid fun B hB => ⟨htr.keep hB, hbt.keep hB, (Hx.out B (hbW.trans (hB.mono hbW.size))).2.2.2.2⟩
  have HbW := Lib.hid hbW
  have HN0 : Hid (Below W.heap.size W W) := Lib.hid (Below.refl _ _)
  have HG : Hid (∀ B, Below W.heap.size W B → GBs w1.heap.size B (.slice bA bn bc) g) := Lib.hid fun B hB => by
    obtain ⟨_, _, _, _, _, _, _, _, _, _, _, he, hG, _⟩ := Hfr.out B (hbW.trans (hB.mono hbW.size))
    simp only [Value.agg.injEq, Array.mk.injEq, List.cons.injEq, Value.slice.injEq, and_true] at he
    obtain ⟨-, -, -, -, rfl, rfl, rfl⟩ := he
    exact hG
  clear x0 x1 x2 x3 x4 y0 y1 y2 y3 y4 htr hbt hbW hN
  go_upto_region 3 with fail
  go_upto_block 0 with fail
  go_wp2_with fail
  go_loopw [6] (fun u6 wr => ∃ b : Nat, b ≤ bn ∧ u6 = .int .i64 b ∧ Hid (Below W.heap.size W wr)) (fun u6 _ => bn - (intOf u6).toNat)
  case atStart => exact ⟨0, Nat.zero_le _, rfl, HN0⟩
  case round =>
    clear HN0
    obtain ⟨b, hb, rfl, HN⟩ := hrel
    obtain ⟨B, hB⟩ : ∃ B, B = wr := ⟨_, rfl⟩
    rw [← hB] at HN ⊢
    clear hB
    by_cases hlb : b < bn
    · obtain ⟨X, hX, hbX, hzX, h0X⟩ := gr_one B #[] 3
      have hoX : X.ownsRow B.heap.size 3 1 (.slice (some ⟨B.heap.size, 0, none⟩) 0 0) 0 [] := by rw [hX]; exact World.ownsRow_lit B #[] 0 (Nat.le_refl _) (by decide) rfl
      have HK0 : Hid (Below B.heap.size B X ∧ X.ownsRow B.heap.size 3 1 (.slice (some ⟨B.heap.size, 0, none⟩) 0 0) (frL g b 0).length (natsV (frL g b 0))) := Lib.hid ⟨hbX, hoX⟩
      have HX := Lib.hid hX
      have HNB := HN
      have hBW : W.heap.size ≤ B.heap.size := HN.out.size
      obtain ⟨i0, hi0, hz0, hz1, hz2⟩ := info_parts infoIntG
      have Ji := Lib.hid hi0
      have Jz0 := Lib.hid hz0
      have Jz1 := Lib.hid hz1
      have Jz2 := Lib.hid hz2
      clear hX hbX hzX h0X hoX hi0 hz0 hz1 hz2 HN
      go_upto_region 7 with fail
      rw [← HX.out]
      go_upto_block 2 with fail
      go_wp2_with fail
      go_loopw [8, 7] (fun u8 u7 wr => ∃ y : Nat, y ≤ bn ∧ u8 = .int .i64 y ∧ Hid (Below B.heap.size B wr ∧ wr.ownsRow B.heap.size 3 1 u7 (frL g b y).length (natsV (frL g b y)))) (fun u8 _ _ => bn - (intOf u8).toNat)
      case atStart => exact ⟨0, Nat.zero_le _, rfl, HK0⟩
      case round =>
        clear HK0
        obtain ⟨y, hy, rfl, HN⟩ := hrel
        obtain ⟨C, hC⟩ : ∃ C, C = wr := ⟨_, rfl⟩
        rw [← hC] at HN ⊢
        clear hC
        obtain ⟨xs, hxs⟩ : ∃ xs, xs = frL g b y := ⟨_, rfl⟩
        rw [← hxs] at HN
        obtain ⟨xn, hxn⟩ : ∃ xn, xn = xs.length := ⟨_, rfl⟩
        rw [← hxn] at HN
        obtain ⟨A7, c7, rfl⟩ := gr_slice HN.out.2
        have hbC : Below W.heap.size W C := HNB.out.trans (HN.out.1.mono hBW)
        have hxl : xn ≤ bn := by
          have h1 : xs.length ≤ (List.range y).length := by rw [hxs]; unfold frL; exact List.length_filter_le _ _
          rw [List.length_range] at h1
          omega
        by_cases hly : y < bn
        · obtain ⟨-, hbt, c4⟩ := HR.out C hbC
          have hgb := HG.out C hbC
          obtain ⟨-, k1, k2⟩ := hbt.2 b hlb
          have k3 := k2 y hly
          have hrow : ∀ p, p < bn → C.cell? ⟨ib b, p, none⟩ = some (.bool (tabP g b p)) := fun p hp => k2 p hp
          have hstep := frL_step g b y
          rw [← hxs] at hstep
          have Hrow := Lib.hid hrow
          have Hgb := Lib.hid hgb
          have Hstep := Lib.hid hstep
          have Hxn := Lib.hid hxn
          have HbC := Lib.hid hbC
          clear hbt k2 hrow hgb hstep hxs hxn hbC
          go_upto_block 4 with fail
          go_wp2_with fail
          go_loopw [10, 9] (fun u10 u9 wr => ∃ p : Nat, p ≤ bn ∧ u10 = .int .i64 p ∧ u9 = .bool (isP g b y p) ∧ wr = C) (fun u10 _ _ => bn - (intOf u10).toNat)
          case atStart => exact ⟨0, Nat.zero_le _, rfl, rfl, rfl⟩
          case round =>
            obtain ⟨p, hp, rfl, rfl, rfl⟩ := hrel
            by_cases hlp : p < bn
            · have hpg : p < g.length := by rw [← Hbn.out]; exact hlp
              obtain ⟨gb0, go0, pA0, pc0, tA, tc, lA, ln, lc, rfl, -, -, -, -, -, k5, -, htos, hok⟩ := Hgb.out.at hpg
              have hto : tosG g p = g[p].to_ := tosG_at hpg
              rw [← hto] at k5 htos
              obtain ⟨tn, htn⟩ : ∃ tn, tn = (tosG g p).length := ⟨_, rfl⟩
              rw [← htn] at k5 htos
              have htnb : tn ≤ 1048576 := by rw [htn, hto]; exact hok.2.2.1
              have k6 := Hrow.out p hlp
              obtain ⟨q0, hq0⟩ : ∃ q0, q0 = isP g b y p := ⟨_, rfl⟩
              rw [← hq0]
              have hisn : isP g b y (p + 1) = (q0 || (tosG g p).any (frQ g b y p)) := by rw [hq0]; rfl
              have Hisn := Lib.hid hisn
              have Htos := Lib.hid htos
              have Htn := Lib.hid htn
              clear hq0 hisn htos htn hto hok
              go_upto_block 6 with fail
              go_wp2_with fail
              go_loopw [11, 9] (fun u11 u9 w' => ∃ i : Nat, i ≤ tn ∧ u11 = .int .i64 i ∧ u9 = .bool (q0 || ((tosG g p).take i).any (frQ g b y p)) ∧ w' = wr) (fun u11 _ _ => tn - (intOf u11).toNat)
              case atStart => exact ⟨0, Nat.zero_le _, rfl, by simp, rfl⟩
              case round =>
                obtain ⟨i, hi, rfl, rfl, rfl⟩ := hrel
                by_cases hli : i < tn
                · have hil : i < (tosG g p).length := by rw [← Htn.out]; exact hli
                  obtain ⟨tb0, to0, rfl, -, k7⟩ := Htos.out.at hil
                  obtain ⟨t, ht⟩ : ∃ t, t = (tosG g p)[i] := ⟨_, rfl⟩
                  rw [← ht] at k7
                  obtain ⟨r, hr⟩ : ∃ r, r = (q0 || ((tosG g p).take i).any (frQ g b y p)) := ⟨_, rfl⟩
                  rw [← hr]
                  have hnx : (q0 || ((tosG g p).take (i + 1)).any (frQ g b y p)) = (r || frQ g b y p t) := by
                    rw [hr, ht, ← List.take_append_getElem hil, List.any_append, Bool.or_assoc]
                    simp
                  have hfq : frQ g b y p t = (decide (t = (y : Int)) && (tabP g b p && (decide (y = b) || !tabP g b y))) := rfl
                  rw [hfq] at hnx
                  have Hnx := Lib.hid hnx
                  have hw2 : IntKind.i64.wrap ((i : Int) + 1) = (i : Int) + 1 := by rw [IntKind.wrap_i64]; omega
                  clear hr ht hfq hnx hil
                  cases r with
                  | true =>
                    have HN3 : Hid ((q0 || ((tosG g p).take (i + 1)).any (frQ g b y p)) = true) := Lib.hid (by rw [Hnx.out]; simp)
                    clear Hnx
                    go_wp2
                    go_roundw
                    case rel => exact ⟨i + 1, by omega, by go_num, by first | (rw [HN3.out]; done) | (have h := HN3.out; simp only [h]; done) | (have h := HN3.out; cases q5 <;> simp_all), by trivial⟩
                    case measure => simp [intOf]; omega
                  | false =>
                    by_cases hty : t = (y : Int)
                    · have d1 : (t == (y : Int)) = true := by simpa using hty
                      cases h1 : tabP g b p with
                      | false =>
                        rw [h1] at k6
                        have HN3 : Hid ((q0 || ((tosG g p).take (i + 1)).any (frQ g b y p)) = false) := Lib.hid (by rw [Hnx.out]; simp [h1])
                        clear Hnx
                        go_wp2
                        go_roundw
                        case rel => exact ⟨i + 1, by omega, by go_num, by first | (rw [HN3.out]; done) | (have h := HN3.out; simp only [h]; done) | (have h := HN3.out; cases q5 <;> simp_all), by trivial⟩
                        case measure => simp [intOf]; omega
                      | true =>
                        rw [h1] at k6
                        by_cases hyb : y = b
                        · have d2 : ((y : Int) == (b : Int)) = true := by rw [hyb]; simp
                          have HN3 : Hid ((q0 || ((tosG g p).take (i + 1)).any (frQ g b y p)) = true) := Lib.hid (by rw [Hnx.out]; simp [h1, hty, hyb])
                          clear Hnx
                          go_wp2
                          go_roundw
                          case rel => exact ⟨i + 1, by omega, by go_num, by first | (rw [HN3.out]; done) | (have h := HN3.out; simp only [h]; done) | (have h := HN3.out; cases q5 <;> simp_all), by trivial⟩
                          case measure => simp [intOf]; omega
                        · have d2 : ((y : Int) == (b : Int)) = false := by simp; omega
                          obtain ⟨q5, hq5⟩ : ∃ q5, q5 = tabP g b y := ⟨_, rfl⟩
                          rw [← hq5] at k3
                          have HN3 : Hid ((q0 || ((tosG g p).take (i + 1)).any (frQ g b y p)) = (!q5)) := Lib.hid (by rw [Hnx.out]; simp [h1, hty, hyb, hq5])
                          clear Hnx
                          go_wp2
                          go_roundw
                          case rel => exact ⟨i + 1, by omega, by go_num, by first | (rw [HN3.out]; done) | (have h := HN3.out; simp only [h]; done) | (have h := HN3.out; cases q5 <;> simp_all), by trivial⟩
                          case measure => simp [intOf]; omega
                    · have d1 : (t == (y : Int)) = false := by simpa using hty
                      have HN3 : Hid ((q0 || ((tosG g p).take (i + 1)).any (frQ g b y p)) = false) := Lib.hid (by rw [Hnx.out]; simp [hty])
                      clear Hnx
                      go_wp2
                      go_roundw
                      case rel => exact ⟨i + 1, by omega, by go_num, by first | (rw [HN3.out]; done) | (have h := HN3.out; simp only [h]; done) | (have h := HN3.out; cases q5 <;> simp_all), by trivial⟩
                      case measure => simp [intOf]; omega
                · obtain rfl : tn = i := by omega
                  rw [Htn.out, List.take_length, ← Hisn.out, ← Htn.out]
                  clear Hisn
                  go_wp2_with fail
                  go_roundw
                  case rel => exact ⟨p + 1, by omega, by go_num, rfl, by trivial⟩
                  case measure => simp [intOf]; omega
            · obtain rfl : bn = p := by omega
              obtain ⟨q, hq⟩ : ∃ q, q = isP g b y bn := ⟨_, rfl⟩
              rw [← hq]
              have hst := Hstep.out
              rw [← Hbn.out, ← hq] at hst
              cases q with
              | false =>
                rw [if_neg (by simp)] at hst
                have HN5 : Hid (Below B.heap.size B wr ∧ wr.ownsRow B.heap.size 3 1 (.slice A7 xn c7) (frL g b (y + 1)).length (natsV (frL g b (y + 1)))) := Lib.hid ⟨HN.out.1, by rw [hst, ← Hxn.out]; exact HN.out.2⟩
                clear hst hq
                go_wp2_with fail
                go_roundw
                case rel => exact ⟨y + 1, by omega, by go_num, HN5⟩
                case measure => simp [intOf]; omega
              | true =>
                rw [if_pos rfl] at hst
                obtain ⟨Z, hZ, hbZ, hzZ, h0Z⟩ := gr_one wr #[.int .i64 (y : Int)] 3
                have HOW := Lib.hid (gr_up HN.out.2 hbZ)
                have HNW := Lib.hid (World.news_of_block h0Z)
                have HOn : Hid (∀ u ∈ ([.int .i64 (y : Int)] : List Value), u.oneCell' = true) := Lib.hid (by intro u hu; simp at hu; subst hu; rfl)
                have hsz2 : B.heap.size ≤ Z.heap.size := Nat.le_trans HN.out.1.size hbZ.size
                have HbZ := Lib.hid (HN.out.1.trans (hbZ.mono HN.out.1.size))
                have Hlt := Lib.hid (show ∀ k, (Value.slice A7 xn c7).ownBlock = some k → B.heap.size ≤ k from fun k e => (HN.out.2.lt k e).1)
                have Hst := Lib.hid hst
                rw [hZ] at HOW HNW hsz2
                have HZ := Lib.hid hZ
                clear hst hq hZ hbZ hzZ h0Z HN k1 k3
                go_wp2_with (at_builtin; refine wpList_append_lies _ rfl (.tmp 89) (.tmp 91) 23 rfl B.heap.size 3 i0 (.int .i64 0) 1 8 Try.underlying23 Ji.out Jz0.out Jz1.out Jz2.out rfl (by decide) (.slice A7 xn c7) xn (natsV xs) rfl HOW.out ⟨wr.heap.size, 0, none⟩ 1 1 [.int .i64 (y : Int)] rfl rfl HNW.out HOn.out (by decide) (by unfold maxLen; omega) (by omega) hsz2 _ rfl ?_)
                intro gp cp w5 hown5 hgrow hat hlt5
                rw [← HZ.out] at hgrow
                have HN5 : Hid (Below B.heap.size B w5 ∧ w5.ownsRow B.heap.size 3 1 (.slice (some ⟨gp, 0, none⟩) (xn + 1) cp) (frL g b (y + 1)).length (natsV (frL g b (y + 1)))) := Lib.hid ⟨HbZ.out.grown hgrow HbZ.out.size (fun k e => Hlt.out k e), by
                  rw [Hst.out, List.length_append, List.length_singleton, ← Hxn.out]
                  simpa [natsV] using hown5⟩
                clear hown5 hgrow hat hlt5 HOW HNW hsz2
                go_wp2
                go_roundw
                case rel => exact ⟨y + 1, by omega, by go_num, HN5⟩
                case measure => simp [intOf]; omega
        · obtain rfl : bn = y := by omega
          have hFr := frontier_t tp g T b C (HR.out C hbC).1 Hg.out (by rw [← Hbn.out]; exact hlb)
          rw [← Hbn.out, ← hxs] at hFr
          have hws : GNs C.heap.size C (.slice A7 xn c7) (natsI xs) := by
            have h := HN.out.2
            rw [hxn] at h ⊢
            exact row_ints h
          have hxl2 : (natsI xs).length ≤ 1048576 := by unfold natsI; rw [List.length_map, ← hxn]; omega
          have Hws := Lib.hid hws
          have HN6 := Lib.hid (HN.out.1)
          clear hws hxs hxn hbC HN
          go_wp2_with (first
            | (go_at_call 21; refine hFr.mono ?_; rintro e w5 ⟨v5, rfl, hg5, hb5⟩; have hI := ints_g w5.heap.size _ _ (natsI xs) (natsI xs) w5 hg5 (Hws.out.later hb5) hxl2 hxl2 (Nat.le_refl _); rw [decide_eq_true rfl] at hI; have Hb5 := Lib.hid hb5; clear hg5 hb5 hFr)
            | (go_at_call 17; refine hI.mono ?_; rintro e w6 ⟨rfl, hb6⟩; have HN7 : Hid (Below W.heap.size W w6) := Lib.hid (HNB.out.trans ((HN6.out.trans ((Hb5.out.trans (hb6.mono Hb5.out.size)).mono HN6.out.size)).mono hBW)); clear hb6 hI))
          go_roundw
          case rel => exact ⟨b + 1, by omega, by go_num, HN7⟩
          case measure => simp [intOf]; omega
    · obtain rfl : bn = b := by omega
      have hA := awake9_any B
      go_wp2_with (go_at_call 13; refine hA.mono ?_; rintro e w5 ⟨rfl, hb5⟩; have HbA := Lib.hid hb5; clear hb5 hA)
      go_ret
      exact ⟨rfl, Hb1.out.trans ((HbY.out.trans ((HbW.out.trans ((HN.out.trans (HbA.out.mono HN.out.size)).mono HbW.out.size)).mono (by have := HzY.out; omega))).mono Hb1.out.size)⟩
end Go.Proofs.Ytoplllebaagnnaa
