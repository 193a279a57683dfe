/-
  The law DomKids.
  Blocks on all ways: Common of a tree.
-/
import Derived.Test.YtoplllebaagnnaaJd41
import Derived.Test.YtoplllebaagnnaaJd42
import Derived.Test.YtoplllebaagnnaaJd44
import Derived.Test.YtoplllebaagnnaaJd45
import Derived.Deep.DeepCutAuto
namespace Go.Proofs.Ytoplllebaagnnaa
set_option linter.unusedVariables false
set_option linter.unusedSimpArgs false
open Go.RowKit Go.Shelf

theorem up_row {g : List GB} {T : TrP} (hT : TrOk g T) (hp : 0 < g.length) {o : Nat} (ho : o ∈ orderP g) : upV g T (o : Int) = T.up.getD o 0 := by
  have hrc : rcB g o = true := rcB_iff.2 ⟨hp, o, rfl, (hT.ord.o.mem o).1 ho⟩
  unfold upV
  rw [if_pos hrc, Int.toNat_natCast]
set_option maxRecDepth 100000 in
set_option maxHeartbeats 16000000 in
theorem domKids_any (n0 : Nat) (A : Option Addr) (L c : Nat) (l : List (Int × Int)) (w : World) (hv : GPr n0 w (.slice A L c) l) (hn : n0 ≤ w.heap.size) (hL : L ≤ c) (hc : c ≤ maxLen) (hin : ∀ x ∈ l, InG x.1 ∧ InG x.2) :
    Calls Try.prog 5 #[.slice A L c] w fun e w' => e = .returned (.bool true) ∧ Below w.heap.size w w' := by
  have hll : L = l.length := by obtain ⟨A', c', e, _⟩ := id hv; injection e
  have hGr := graph_true n0 _ l w hv hn (by unfold maxLen at hc; omega) hin
  have hg := tosOk_graphP hin
  have hgl : (graphP l true).length ≤ 14 := by rw [graphP_len]; omega
  obtain ⟨T, hT⟩ := tree_any hg (tos_two hin) (by omega)
  obtain ⟨g, hge⟩ : ∃ g, g = graphP l true := ⟨_, rfl⟩
  rw [← hge] at hGr hg hgl hT
  have Hg := Lib.hid hg
  have Hgl := Lib.hid hgl
  have HT := Lib.hid hT
  clear hv hin hll hge hg hgl hL hc hT
  go_enter Try.func5, Try.ntmps5
  go_wp2_with (first
    | (go_at_call 9; refine hGr.mono ?_; rintro e w1 ⟨f, rfl, hf1, hb1⟩; obtain ⟨s, pA, pn, pc, r, iA, in_, ic, bA, bn, bc, rfl, hG1, hbn1⟩ := id hf1;
        obtain ⟨Y, hY, hbY, hzY, h0Y⟩ := gr_one w1 #[.string s, .slice pA pn pc, .int .i64 r, .slice iA in_ ic, .slice bA bn bc] 27;
        have hfr : ∀ A : World, Below Y.heap.size Y A → GF w1.heap.size A (.agg #[.string s, .slice pA pn pc, .int .i64 r, .slice iA in_ ic, .slice bA bn bc]) g := (fun A hA => ⟨s, pA, pn, pc, r, iA, in_, ic, bA, bn, bc, rfl, hG1.keep (hbY.trans (hA.mono (by omega))), hbn1⟩);
        have hx : ∀ A : World, Below Y.heap.size Y A → A.cell? ⟨w1.heap.size, 0, none⟩ = some (.string s) ∧ A.cell? ⟨w1.heap.size, 1, none⟩ = some (.slice pA pn pc) ∧ A.cell? ⟨w1.heap.size, 2, none⟩ = some (.int .i64 r) ∧ A.cell? ⟨w1.heap.size, 3, none⟩ = some (.slice iA in_ ic) ∧ A.cell? ⟨w1.heap.size, 4, none⟩ = some (.slice bA bn bc) := (fun A hA => by obtain ⟨x0, x1, x2, x3, x4, -⟩ := gr_five ((hA.block w1.heap.size (gr_in h0Y)).trans h0Y); exact ⟨x0, x1, x2, x3, x4⟩);
        have hbl : bn ≤ 14 := (by rw [hbn1]; exact Hgl.out);
        have Hbn := Lib.hid hbn1; have Hx := Lib.hid hx;
        have Hfr := Lib.hid hfr; have HY := Lib.hid hY; have HbY := Lib.hid hbY; have HzY := Lib.hid hzY; have H0Y := Lib.hid h0Y; have Hb1 := Lib.hid hb1; clear hf1 hb1 hGr hG1 hbn1 hfr hY hbY hzY h0Y hx))
  have hY2 := HY.out
  go_upto_region 2 with fail
  rw [← HY.out]
  clear hY2
  have hN := new_t w1.heap.size _ g T Y (Hfr.out Y (Below.refl _ _)) (by have := HzY.out; omega) HT.out
  have hOr : ∀ X : World, Below Y.heap.size Y X → Calls Try.prog 16 #[.agg #[.string s, .slice pA pn pc, .int .i64 r, .slice iA in_ ic, .slice bA bn bc]] X fun e w' => ∃ v, e = .returned v ∧ w'.ownsRow X.heap.size 3 1 v (orderP g).length (natsV (orderP g)) ∧ Below X.heap.size X w' := fun X hX => rorder_g w1.heap.size _ g X (Hfr.out X hX) (by have := HzY.out; have := hX.size; omega)
  have HOr := Lib.hid hOr
  clear hOr
  obtain ⟨O, hO⟩ : ∃ O, O = orderP g := ⟨_, rfl⟩
  obtain ⟨m, hm⟩ : ∃ m, m = O.length := ⟨_, rfl⟩
  have hmb : m ≤ 14 := by
    have h1 : (orderP g).length ≤ g.length := by unfold orderP; rw [List.length_reverse]; exact postP_len _
    have := Hgl.out
    rw [hm, hO]; omega
  have HO := Lib.hid hO
  have Hm := Lib.hid hm
  clear hO hm
  obtain ⟨x0, x1, x2, x3, x4⟩ := Hx.out Y (Below.refl _ _)
  go_upto_region 3 with (go_at_call 10; refine hN.mono ?_; rintro e w2 ⟨tp, rfl, htr, hb2⟩; have hR := HOr.out w2 hb2; rw [← HO.out, ← Hm.out] at hR; have Htr := Lib.hid htr; have Hb2 := Lib.hid hb2; clear htr hb2 hN)
  clear x0 x1 x2 x3 x4
  obtain ⟨x0, x1, x2, x3, x4⟩ := Hx.out w2 Hb2.out
  go_upto_region 4 with (go_at_call 16; refine hR.mono ?_; rintro e w3 ⟨v3, rfl, ho3, hb3⟩; obtain ⟨A3, c3, rfl⟩ := gr_slice ho3; have Ho3 := Lib.hid ho3; have Hb3 := Lib.hid hb3; clear ho3 hb3 hR)
  clear x0 x1 x2 x3 x4
  have HGi : Hid (∀ B, Below w3.heap.size w3 B → GNs B.heap.size B (.slice A3 m c3) (natsI O)) := Lib.hid fun B hB => by
    have h := Ho3.out
    have hm2 := Hm.out
    subst hm2
    exact (row_ints h).later hB
  have hol : (natsI O).length ≤ 1048576 := by unfold natsI; rw [List.length_map, ← Hm.out]; omega
  have hA := awake9_any w3
  go_upto_region 6 with (first
    | (go_at_call 13; refine hA.mono ?_; rintro e w4 ⟨rfl, hb4⟩; have hOt := order_t tp g T w4 ((Htr.out.keep Hb3.out).keep hb4); rw [← HO.out] at hOt; have Hb4 := Lib.hid hb4; clear hb4 hA)
    | (go_at_call 18; refine hOt.mono ?_; rintro e w5 ⟨v5, rfl, hg5, hb5⟩;
        have hI := ints_g w5.heap.size _ _ (natsI O) (natsI O) w5 hg5 (HGi.out w5 (Hb4.out.trans (hb5.mono Hb4.out.size))) hol hol (Nat.le_refl _);
        rw [decide_eq_true rfl] at hI;
        have Hb5 := Lib.hid hb5; clear hg5 hb5 hOt)
    | (go_at_call 17; refine hI.mono ?_; rintro e w6 ⟨rfl, hb6⟩; have Hb6 := Lib.hid hb6; clear hb6 hI))
  have h36 : Below w3.heap.size w3 w6 := Hb4.out.trans ((Hb5.out.trans (Hb6.out.mono Hb5.out.size)).mono Hb4.out.size)
  have hY6 : Below Y.heap.size Y w6 := (Hb2.out.trans (Hb3.out.mono Hb2.out.size)).trans (h36.mono (by have := Hb2.out.size; have := Hb3.out.size; omega))
  obtain ⟨W, hW⟩ : ∃ W, W = w6 := ⟨_, rfl⟩
  have HR : Hid (∀ B, Below W.heap.size W B → TR B tp g T ∧ B.ownsRow w2.heap.size 3 1 (.slice A3 m c3) m (natsV O) ∧ B.cell? ⟨w1.heap.size, 4, none⟩ = some (.slice bA bn bc)) := Lib.hid fun B hB => by
    rw [hW] at hB
    have h3B := h36.trans (hB.mono h36.size)
    exact ⟨(Htr.out.keep Hb3.out).keep h3B, gr_up Ho3.out h3B, (Hx.out B (hY6.trans (hB.mono hY6.size))).2.2.2.2⟩
  have HbW : Hid (Below Y.heap.size Y W) := Lib.hid (by rw [hW]; exact hY6)
  have h2W : w2.heap.size ≤ W.heap.size := by have := Hb3.out.size; have := h36.size; rw [hW]; omega
  rw [← hW]
  have HN0 : Hid (Below W.heap.size W W) := Lib.hid (Below.refl _ _)
  clear hW h36 hY6 Hb4 Hb5 Hb6 Htr Ho3 Hb2 Hb3
  go_upto_block 0 with fail
  go_wp2_with fail
  go_loopw [6] (fun u6 wr => ∃ b : Nat, b ≤ bn ∧ u6 = .int .i64 b ∧ Hid (Below W.heap.size W wr)) (fun u6 _ => bn - (intOf u6).toNat)
  case atStart => exact ⟨0, Nat.zero_le _, rfl, HN0⟩
  case round =>
    clear HN0
    obtain ⟨b, hb, rfl, HN⟩ := hrel
    obtain ⟨B, hB⟩ : ∃ B, B = wr := ⟨_, rfl⟩
    rw [← hB] at HN ⊢
    clear hB
    obtain ⟨-, -, c4⟩ := HR.out B HN.out
    by_cases hlb : b < bn
    · have hp : 0 < g.length := by rw [← Hbn.out]; omega
      have hTk := HT.out hp
      obtain ⟨X, hX, hbX, hzX, h0X⟩ := gr_one B #[] 3
      have hoX : X.ownsRow B.heap.size 3 1 (.slice (some ⟨B.heap.size, 0, none⟩) 0 0) 0 [] := by rw [hX]; exact World.ownsRow_lit B #[] 0 (Nat.le_refl _) (by decide) rfl
      have HK0 : Hid (Below B.heap.size B X ∧ X.ownsRow B.heap.size 3 1 (.slice (some ⟨B.heap.size, 0, none⟩) 0 0) (kidsOf T.up (O.take 0) b).length (natsV (kidsOf T.up (O.take 0) b))) := Lib.hid ⟨hbX, hoX⟩
      have HX := Lib.hid hX
      have HNB := HN
      have hBW : W.heap.size ≤ B.heap.size := HN.out.size
      have HTk := Lib.hid hTk
      have Hp := Lib.hid hp
      obtain ⟨i0, hi0, hz0, hz1, hz2⟩ := info_parts infoIntG
      have Ji := Lib.hid hi0
      have Jz0 := Lib.hid hz0
      have Jz1 := Lib.hid hz1
      have Jz2 := Lib.hid hz2
      clear hX hbX hzX h0X hoX hTk hp hi0 hz0 hz1 hz2 HN
      go_upto_region 10 with fail
      rw [← HX.out]
      clear c4
      go_upto_block 2 with fail
      go_wp2_with fail
      go_loopw [8, 7] (fun u8 u7 wr => ∃ i : Nat, i ≤ m ∧ u8 = .int .i64 i ∧ Hid (Below B.heap.size B wr ∧ wr.ownsRow B.heap.size 3 1 u7 (kidsOf T.up (O.take i) b).length (natsV (kidsOf T.up (O.take i) b)))) (fun u8 _ _ => m - (intOf u8).toNat)
      case atStart => exact ⟨0, Nat.zero_le _, rfl, HK0⟩
      case round =>
        clear HK0
        obtain ⟨i, hi, rfl, HN⟩ := hrel
        obtain ⟨C, hC⟩ : ∃ C, C = wr := ⟨_, rfl⟩
        rw [← hC] at HN ⊢
        clear hC
        obtain ⟨xs, hxs⟩ : ∃ xs, xs = kidsOf T.up (O.take i) b := ⟨_, rfl⟩
        rw [← hxs] at HN
        obtain ⟨xn, hxn⟩ : ∃ xn, xn = xs.length := ⟨_, rfl⟩
        rw [← hxn] at HN
        obtain ⟨A7, c7, rfl⟩ := gr_slice HN.out.2
        have hbC : Below W.heap.size W C := HNB.out.trans (HN.out.1.mono hBW)
        obtain ⟨htr, hoo, c4⟩ := HR.out C hbC
        have hxl : xn ≤ m := by
          have h1 : xs.length ≤ (O.take i).length := by rw [hxs]; unfold kidsOf; exact List.length_filter_le _ _
          rw [List.length_take] at h1
          omega
        by_cases hli : i < m
        · obtain ⟨go, rfl, -, -, -⟩ := gr_some hoo (by omega)
          have hiO : i < O.length := by rw [← Hm.out]; exact hli
          obtain ⟨o, ho⟩ : ∃ o, o = O[i] := ⟨_, rfl⟩
          have k1 : C.cell? ⟨go, i, none⟩ = some (.int .i64 (o : Int)) := by
            rw [hoo.cellAt i (by omega)]
            simp [natsV, hiO, ho]
          have hU := up_t tp g T (o : Int) C htr
          rw [up_row HTk.out Hp.out (by rw [← HO.out, ho]; exact List.getElem_mem hiO)] at hU
          obtain ⟨x, hx⟩ : ∃ x, x = T.up.getD o 0 := ⟨_, rfl⟩
          rw [← hx] at hU
          have htk : O.take (i + 1) = O.take i ++ [o] := by rw [ho]; exact (List.take_append_getElem hiO).symm
          have hnx := kidsOf_snoc T.up (O.take i) o b
          rw [← htk, ← hxs, ← hx] at hnx
          by_cases hxb : x = (b : Int)
          · have hd : (x == (b : Int)) = true := by simpa using hxb
            rw [if_pos hxb] at hnx
            obtain ⟨Z, hZ, hbZ, hzZ, h0Z⟩ := gr_one C #[.int .i64 (o : Int)] 3
            have HOW := Lib.hid (gr_up HN.out.2 hbZ)
            have HNW := Lib.hid (World.news_of_block h0Z)
            have HOn : Hid (∀ u ∈ ([.int .i64 (o : Int)] : List Value), u.oneCell' = true) := Lib.hid (by intro u hu; simp at hu; subst hu; rfl)
            have hsz2 : B.heap.size ≤ Z.heap.size := Nat.le_trans HN.out.1.size hbZ.size
            have HbZ := Lib.hid (HN.out.1.trans (hbZ.mono HN.out.1.size))
            have Hlt := Lib.hid (show ∀ k, (Value.slice A7 xn c7).ownBlock = some k → B.heap.size ≤ k from fun k e => (HN.out.2.lt k e).1)
            have Hnx := Lib.hid hnx
            have Hxn := Lib.hid hxn
            rw [hZ] at HOW HNW hsz2
            have HZ := Lib.hid hZ
            clear hnx hZ hbZ hzZ h0Z htk hx hxs hxn ho hiO htr hoo c4 HN hbC hxb
            go_wp2_with (first
              | (go_at_call 14; refine hU.mono ?_; rintro e w4 ⟨rfl, hw4⟩; rw [hw4]; clear hw4 w4 hU)
              | (at_builtin; refine wpList_append_lies _ rfl (.tmp 46) (.tmp 51) 23 rfl B.heap.size 3 i0 (.int .i64 0) 1 8 Try.underlying23 Ji.out Jz0.out Jz1.out Jz2.out rfl (by decide) (.slice A7 xn c7) xn (natsV xs) rfl HOW.out ⟨C.heap.size, 0, none⟩ 1 1 [.int .i64 (o : Int)] rfl rfl HNW.out HOn.out (by decide) (by unfold maxLen; omega) (by omega) hsz2 _ rfl ?_))
            intro gp cp w5 hown5 hgrow hat hlt5
            rw [← HZ.out] at hgrow
            have HN5 : Hid (Below B.heap.size B w5 ∧ w5.ownsRow B.heap.size 3 1 (.slice (some ⟨gp, 0, none⟩) (xn + 1) cp) (kidsOf T.up (O.take (i + 1)) b).length (natsV (kidsOf T.up (O.take (i + 1)) b))) := Lib.hid ⟨HbZ.out.grown hgrow HbZ.out.size (fun k e => Hlt.out k e), by
              rw [Hnx.out, List.length_append, List.length_singleton, ← Hxn.out]
              simpa [natsV] using hown5⟩
            clear hown5 hgrow hat hlt5 HOW HNW hsz2
            go_wp2
            go_roundw
            case rel => exact ⟨i + 1, by omega, by go_num, HN5⟩
            case measure => simp [intOf]; omega
          · have hd : (x == (b : Int)) = false := by simpa using hxb
            rw [if_neg hxb] at hnx
            have HN5 : Hid (Below B.heap.size B C ∧ C.ownsRow B.heap.size 3 1 (.slice A7 xn c7) (kidsOf T.up (O.take (i + 1)) b).length (natsV (kidsOf T.up (O.take (i + 1)) b))) := Lib.hid ⟨HN.out.1, by rw [hnx, ← hxn]; exact HN.out.2⟩
            clear hnx htk hx hxs hxn ho hiO htr hoo c4 HN hbC hxb
            go_wp2_with (go_at_call 14; refine hU.mono ?_; rintro e w4 ⟨rfl, hw4⟩; rw [hw4]; clear hw4 w4 hU)
            go_roundw
            case rel => exact ⟨i + 1, by omega, by go_num, HN5⟩
            case measure => simp [intOf]; omega
        · obtain rfl : m = i := by omega
          rw [Hm.out, List.take_length, HO.out] at hxs
          have hRe := reached_t tp g T (b : Int) C htr
          have hKi := kids_t tp g T b C htr (by have := Hgl.out; omega)
          have hws : GNs C.heap.size C (.slice A7 xn c7) (natsI xs) := by
            have h := HN.out.2
            rw [hxn] at h ⊢
            exact row_ints h
          have hxl2 : (natsI xs).length ≤ 1048576 := by unfold natsI; rw [List.length_map, ← hxn]; omega
          obtain ⟨wv, hwv⟩ : ∃ wv : Value, wv = if rcB g b then .slice A7 xn c7 else .slice none 0 0 := ⟨_, rfl⟩
          have hwg : GNs C.heap.size C wv (kidV g T b) ∧ (kidV g T b).length ≤ 1048576 := by
            rw [hwv]
            unfold kidV
            cases hq : rcB g b with
            | true => rw [if_pos rfl, if_pos rfl, ← hxs]; exact ⟨hws, hxl2⟩
            | false => rw [if_neg (by simp), if_neg (by simp)]; exact ⟨⟨none, 0, rfl, fun h => by simp at h⟩, by simp⟩
          have Hwg := Lib.hid hwg
          have HN6 := Lib.hid (HN.out.1)
          have Htr := Lib.hid htr
          clear hws hxl2 hwg hxs hxn hoo c4 HN htr
          cases hq : rcB g b with
          | true =>
            rw [hq] at hRe
            rw [hq, if_pos rfl] at hwv
            rw [← hwv]
            clear hwv
            clear hq
            go_wp2_with (first
              | (go_at_call 15; refine hRe.mono ?_; rintro e w4 ⟨rfl, hw4⟩; rw [hw4]; clear hw4 w4 hRe)
              | (go_at_call 19; refine hKi.mono ?_; rintro e w5 ⟨v5, rfl, hg5, hb5⟩; have hI := ints_g w5.heap.size _ _ (kidV g T b) (kidV g T b) w5 hg5 (Hwg.out.1.later hb5) Hwg.out.2 Hwg.out.2 (Nat.le_refl _); rw [decide_eq_true rfl] at hI; have Hb5 := Lib.hid hb5; clear hg5 hb5 hKi)
              | (go_at_call 17; refine hI.mono ?_; rintro e w6 ⟨rfl, hb6⟩; have HN7 : Hid (Below W.heap.size W w6) := Lib.hid (HNB.out.trans ((HN6.out.trans ((Hb5.out.trans (hb6.mono Hb5.out.size)).mono HN6.out.size)).mono hBW)); clear hb6 hI))
            go_roundw
            case rel => exact ⟨b + 1, by omega, by go_num, HN7⟩
            case measure => simp [intOf]; omega
          | false =>
            rw [hq] at hRe
            rw [hq, if_neg (by simp)] at hwv
            subst hwv
            clear hq
            go_wp2_with (first
              | (go_at_call 15; refine hRe.mono ?_; rintro e w4 ⟨rfl, hw4⟩; rw [hw4]; clear hw4 w4 hRe)
              | (go_at_call 19; refine hKi.mono ?_; rintro e w5 ⟨v5, rfl, hg5, hb5⟩; have hI := ints_g w5.heap.size _ _ (kidV g T b) (kidV g T b) w5 hg5 (Hwg.out.1.later hb5) Hwg.out.2 Hwg.out.2 (Nat.le_refl _); rw [decide_eq_true rfl] at hI; have Hb5 := Lib.hid hb5; clear hg5 hb5 hKi)
              | (go_at_call 17; refine hI.mono ?_; rintro e w6 ⟨rfl, hb6⟩; have HN7 : Hid (Below W.heap.size W w6) := Lib.hid (HNB.out.trans ((HN6.out.trans ((Hb5.out.trans (hb6.mono Hb5.out.size)).mono HN6.out.size)).mono hBW)); clear hb6 hI))
            go_roundw
            case rel => exact ⟨b + 1, by omega, by go_num, HN7⟩
            case measure => simp [intOf]; omega
    · obtain rfl : bn = b := by omega
      go_wp2_with fail
      go_ret
      exact ⟨rfl, Hb1.out.trans ((HbY.out.trans ((HbW.out.trans (HN.out.mono HbW.out.size)).mono (by have := HzY.out; omega))).mono Hb1.out.size)⟩
end Go.Proofs.Ytoplllebaagnnaa
namespace Go.Proofs.Ytoplllebaagnnaa
set_option linter.unusedVariables false
set_option linter.unusedSimpArgs false
open Go.RowKit Go.Shelf

/-- The nearest block over two. -/
def comI (g : List GB) (a b : Nat) (c : Int) : Prop := if rcB g a = true ∧ rcB g b = true then ∃ z : Nat, c = z ∧ OvD g z a ∧ OvD g z b ∧ ∀ x, OvD g x a → OvD g x b → OvD g x z else c = -1
set_option maxRecDepth 100000 in
set_option maxHeartbeats 8000000 in
theorem common_t (tp : Nat) (g : List GB) (T : TrP) (a b : Nat) (w : World) (h : TR w tp g T) : Calls Try.prog 20 #[.pointer (some ⟨tp, 0, none⟩), .int .i64 (a : Int), .int .i64 (b : Int)] w fun e w' => ∃ c, e = .returned (.int .i64 c) ∧ comI g a b c ∧ Below w.heap.size w w' := by
  have hRa := reached_t tp g T (a : Int) w h
  have hRb := reached_t tp g T (b : Int) w h
  have HTR := Lib.hid h
  clear h
  cases hqa : rcB g a with
  | false =>
    rw [hqa] at hRa
    have HC : Hid (comI g a b (-1)) := Lib.hid (by unfold comI; rw [if_neg (by rw [hqa]; simp)])
    clear hqa hRb
    go_enter Try.func20, Try.ntmps20
    go_wp2_with (go_at_call 15; refine hRa.mono ?_; rintro e w1 ⟨rfl, rfl⟩; clear hRa)
    go_ret
    exact ⟨_, rfl, HC.out, Below.refl _ _⟩
  | true =>
    rw [hqa] at hRa
    cases hqb : rcB g b with
    | false =>
      rw [hqb] at hRb
      have HC : Hid (comI g a b (-1)) := Lib.hid (by unfold comI; rw [if_neg (by rw [hqb]; simp)])
      clear hqa hqb
      go_enter Try.func20, Try.ntmps20
      go_wp2_with (first
        | (go_at_call 15; (with_reducible refine hRa.mono ?_); rintro e w1 ⟨rfl, hw1⟩; rw [hw1]; clear hw1 w1 hRa)
        | (go_at_call 15; (with_reducible refine hRb.mono ?_); rintro e w1 ⟨rfl, hw1⟩; rw [hw1]; clear hw1 w1 hRb))
      go_ret
      exact ⟨_, rfl, HC.out, Below.refl _ _⟩
    | true =>
      rw [hqb] at hRb
      have HC : Hid (∀ z : Nat, OvD g z a → OvD g z b → (∀ x, OvD g x a → OvD g x b → OvD g x z) → comI g a b z) := Lib.hid fun z h1 h2 h3 => by unfold comI; rw [if_pos ⟨hqa, hqb⟩]; exact ⟨z, rfl, h1, h2, h3⟩
      obtain ⟨hp, a', ha', hra⟩ := rcB_iff.1 hqa
      obtain rfl : a = a' := by omega
      obtain ⟨-, b', hb', hrb⟩ := rcB_iff.1 hqb
      obtain rfl : b = b' := by omega
      have HT : Hid (TrOk g T) := Lib.hid (by
        rcases HTR.out with ⟨_, _, h⟩ | ⟨h, _⟩
        · exact h
        · omega)
      have HI0 : Hid (OvD g a a ∧ (∀ x, OvD g x a → OvD g x b → OvD g x a) ∧ Below w.heap.size w w) := Lib.hid ⟨OvD.refl hra, fun x h _ => h, Below.refl _ _⟩
      have Hrb := Lib.hid hrb
      have Hp := Lib.hid hp
      clear hqa hqb ha' hb' hra hrb hp
      go_enter Try.func20, Try.ntmps20
      go_upto_block 0 with (first
        | (go_at_call 15; (with_reducible refine hRa.mono ?_); rintro e w1 ⟨rfl, hw1⟩; rw [hw1]; clear hw1 w1 hRa)
        | (go_at_call 15; (with_reducible refine hRb.mono ?_); rintro e w1 ⟨rfl, hw1⟩; rw [hw1]; clear hw1 w1 hRb))
      go_wp2_with fail
      go_loopw [1] (fun u1 wr => ∃ z : Nat, u1 = .int .i64 (z : Int) ∧ Hid (OvD g z a ∧ (∀ x, OvD g x a → OvD g x b → OvD g x z) ∧ Below w.heap.size w wr)) (fun u1 _ => (T.deep.getD (intOf u1).toNat 0).toNat)
      case atStart => exact ⟨a, rfl, HI0⟩
      case round =>
        clear HI0
        obtain ⟨z, rfl, HI⟩ := hrel
        obtain ⟨C, hC⟩ : ∃ C, C = wr := ⟨_, rfl⟩
        rw [← hC] at HI ⊢
        clear hC
        have htr := HTR.out.keep HI.out.2.2
        have hO := over_t tp g T (z : Int) (b : Int) C htr
        cases hq : ovB g z b with
        | true =>
          rw [hq] at hO
          have hzb : OvD g z b := by
            obtain ⟨_, x, y, h1, h2, h3⟩ := ovB_iff.1 hq
            obtain rfl : z = x := by omega
            obtain rfl : b = y := by omega
            exact h3
          have HE : Hid (∀ q, comI g a b z ∧ Below w.heap.size w (C.drewN q)) := Lib.hid fun q => ⟨HC.out z HI.out.1 hzb HI.out.2.1, below_dr HI.out.2.2 q⟩
          clear hq hzb htr HI
          go_wp2_with (go_at_call 12; refine hO.mono ?_; rintro e w4 ⟨rfl, q4, rfl⟩; clear hO)
          go_ret
          exact ⟨_, rfl, (HE.out q4).1, (HE.out q4).2⟩
        | false =>
          rw [hq] at hO
          have hnb : ¬ OvD g z b := fun h => by
            have := ovB_iff.2 ⟨Hp.out, z, b, rfl, rfl, h⟩
            rw [hq] at this; cases this
          have hU := HT.out.ord.u
          have hzr := HI.out.1.1
          have hz0 : z ≠ 0 := fun e => hnb (by rw [e]; exact ⟨FR.here, Hrb.out, .inr (.inl rfl)⟩)
          obtain ⟨u, u1, u2, u3, u4⟩ := hU.is_ z hzr hz0
          have hdp := HT.out.dpt u z u3 u2
          have hd0 := HT.out.nn u u3.1
          have HN : Hid (∀ q, OvD g u a ∧ (∀ x, OvD g x a → OvD g x b → OvD g x u) ∧ Below w.heap.size w (C.drewN q)) := Lib.hid fun q => ⟨u3.trans HI.out.1, fun x h1 h2 => u4 x (fun e => hnb (by rw [← e]; exact h2)) (HI.out.2.1 x h1 h2), below_dr HI.out.2.2 q⟩
          rcases htr with ⟨-, ht, -⟩ | ⟨h0, -⟩
          · obtain ⟨vo, vu, vd, vp, vq, vt, vs, vst, gk, vk, t1, t2, t3, t4, t5, t6, t7, t8, t9, l1, -⟩ := ht
            obtain ⟨Au, cu, rfl, -⟩ := id t3
            have hzl : z < T.up.length := by
              have := HT.out.ord.o.lt z ((HT.out.ord.o.mem z).2 hzr)
              omega
            obtain ⟨ub, uo, rfl, cc⟩ := t3.get hzl
            rw [u1] at cc
            obtain ⟨n, hn⟩ : ∃ n, n = T.up.length := ⟨_, rfl⟩
            rw [← hn] at t1 hzl
            have c1 := Lib.cell_of_heap t1 1
            have Hdp : Hid (T.deep.getD u 0 < T.deep.getD z 0 ∧ 0 ≤ T.deep.getD u 0) := Lib.hid ⟨hdp, hd0⟩
            clear hq hnb hU hzr hz0 u1 u2 u3 u4 hdp hd0 t1 t2 t3 t4 t5 t6 t7 t8 t9 l1 hn HI
            go_wp2_with (go_at_call 12; refine hO.mono ?_; rintro e w4 ⟨rfl, q4, rfl⟩; have HN4 := Lib.hid (HN.out q4); clear hO)
            go_roundw
            case rel => exact ⟨u, rfl, HN4⟩
            case measure =>
              have := Hdp.out
              simp only [intOf, Int.toNat_natCast]
              omega
          · have := Hp.out; omega
end Go.Proofs.Ytoplllebaagnnaa
