/-
  The law DomUps.
-/
import Derived.Test.YtoplllebaagnnaaJd42
import Derived.Deep.DeepCutAuto
namespace Go.Proofs.Ytoplllebaagnnaa
set_option linter.unusedVariables false
set_option linter.unusedSimpArgs false
open Go.RowKit Go.Shelf

theorem ups_spec {g : List GB} {T : TrP} (hg : tosOk g) (hT : TrOk g T) {b : Nat} (hb : b < g.length) : (upV g T b = -1 ∧ ∀ a, a < g.length → a ≠ b → tabP g a b = false) ∨ ∃ v : Nat, upV g T b = v ∧ v < g.length ∧ v ≠ b ∧ tabP g v b = true ∧ ∀ a, a < g.length → a ≠ b → tabP g a b = true → tabP g a v = true := by
  have hp : 0 < g.length := by omega
  have hU := hT.ord.u
  by_cases hr : RR g 0 b
  · have hrc : rcB g b = true := rcB_iff.2 ⟨hp, b, rfl, hr⟩
    have hv : upV g T b = T.up.getD b 0 := by unfold upV; rw [if_pos hrc, Int.toNat_natCast]
    rw [hv]
    by_cases h0 : b = 0
    · left
      refine ⟨hU.no b hb (.inl h0), fun a ha hab => ?_⟩
      cases hq : tabP g a b with
      | false => rfl
      | true =>
        have := (tabP_ovd hg ha).1 hq
        rw [h0] at this
        exact absurd (ovd_zero this) (by omega)
    · right
      obtain ⟨u, u1, u2, u3, u4⟩ := hU.is_ b hr h0
      have hul := FR.lt hg hp u3.1
      exact ⟨u, u1, hul, u2, (tabP_ovd hg hul).2 u3, fun a ha hab hq => (tabP_ovd hg ha).2 (u4 a hab ((tabP_ovd hg ha).1 hq))⟩
  · left
    have hrc : rcB g b = false := by
      cases hq : rcB g b with
      | false => rfl
      | true =>
        obtain ⟨_, x, h1, h2⟩ := rcB_iff.1 hq
        obtain rfl : b = x := by omega
        exact absurd h2 hr
    refine ⟨by unfold upV; rw [hrc]; rfl, fun a ha hab => ?_⟩
    cases hq : tabP g a b with
    | false => rfl
    | true => exact absurd ((tabP_ovd hg ha).1 hq).2.1 hr
theorem reached_q (tp : Nat) (g : List GB) (T : TrP) (b : Int) (w : World) (h : TR w tp g T) : Calls Try.prog 15 #[.pointer (some ⟨tp, 0, none⟩), .int .i64 b] w fun e w' => e = .returned (.bool (rcB g b)) ∧ ∃ q, w' = w.drewN q :=
  (reached_t tp g T b w h).mono fun e w' ⟨h1, h2⟩ => ⟨h1, 0, by rw [h2]; rfl⟩
set_option maxRecDepth 100000 in
set_option maxHeartbeats 16000000 in
theorem domUps_any (n0 : Nat) (A : Option Addr) (L c : Nat) (l : List (Int × Int)) (w : World) (hv : GPr n0 w (.slice A L c) l) (hn : n0 ≤ w.heap.size) (hL : L ≤ c) (hc : c ≤ maxLen) (hin : ∀ x ∈ l, InG x.1 ∧ InG x.2) :
    Calls Try.prog 4 #[.slice A L c] w fun e w' => e = .returned (.bool true) ∧ Below w.heap.size w w' := by
  have hll : L = l.length := by obtain ⟨A', c', e, _⟩ := id hv; injection e
  have hGr := graph_true n0 _ l w hv hn (by unfold maxLen at hc; omega) hin
  have hg := tosOk_graphP hin
  have hgl : (graphP l true).length ≤ 14 := by rw [graphP_len]; omega
  obtain ⟨T, hT⟩ := tree_any hg (tos_two hin) (by omega)
  obtain ⟨g, hge⟩ : ∃ g, g = graphP l true := ⟨_, rfl⟩
  rw [← hge] at hGr hg hgl hT
  have Hg := Lib.hid hg
  have Hgl := Lib.hid hgl
  have HT := Lib.hid hT
  clear hv hin hll hge hg hgl hL hc hT
  go_enter Try.func4, Try.ntmps4
  go_wp2_with (first
    | (go_at_call 9; refine hGr.mono ?_; rintro e w1 ⟨f, rfl, hf1, hb1⟩; obtain ⟨s, pA, pn, pc, r, iA, in_, ic, bA, bn, bc, rfl, hG1, hbn1⟩ := id hf1;
        obtain ⟨Y, hY, hbY, hzY, h0Y⟩ := gr_one w1 #[.string s, .slice pA pn pc, .int .i64 r, .slice iA in_ ic, .slice bA bn bc] 27;
        have hfr : ∀ A : World, Below Y.heap.size Y A → GF w1.heap.size A (.agg #[.string s, .slice pA pn pc, .int .i64 r, .slice iA in_ ic, .slice bA bn bc]) g := (fun A hA => ⟨s, pA, pn, pc, r, iA, in_, ic, bA, bn, bc, rfl, hG1.keep (hbY.trans (hA.mono (by omega))), hbn1⟩);
        have hx : ∀ A : World, Below Y.heap.size Y A → A.cell? ⟨w1.heap.size, 0, none⟩ = some (.string s) ∧ A.cell? ⟨w1.heap.size, 1, none⟩ = some (.slice pA pn pc) ∧ A.cell? ⟨w1.heap.size, 2, none⟩ = some (.int .i64 r) ∧ A.cell? ⟨w1.heap.size, 3, none⟩ = some (.slice iA in_ ic) ∧ A.cell? ⟨w1.heap.size, 4, none⟩ = some (.slice bA bn bc) := (fun A hA => by obtain ⟨x0, x1, x2, x3, x4, -⟩ := gr_five ((hA.block w1.heap.size (gr_in h0Y)).trans h0Y); exact ⟨x0, x1, x2, x3, x4⟩);
        have hbl : bn ≤ 14 := (by rw [hbn1]; exact Hgl.out);
        have Hbn := Lib.hid hbn1; have Hx := Lib.hid hx;
        have Hfr := Lib.hid hfr; have HY := Lib.hid hY; have HbY := Lib.hid hbY; have HzY := Lib.hid hzY; have H0Y := Lib.hid h0Y; have Hb1 := Lib.hid hb1; clear hf1 hb1 hGr hG1 hbn1 hfr hY hbY hzY h0Y hx))
  have hY2 := HY.out
  go_upto_region 2 with fail
  rw [← HY.out]
  clear hY2
  have hN : Calls Try.prog 10 #[.agg #[.string s, .slice pA pn pc, .int .i64 r, .slice iA in_ ic, .slice bA bn bc]] Y.drew fun e w' => ∃ tp, e = .returned (.pointer (some ⟨tp, 0, none⟩)) ∧ TR w' tp g T ∧ Below Y.heap.size Y w' := (new_t w1.heap.size _ g T Y.drew (Hfr.out Y.drew (Below.refl _ _).drew) (by have := HzY.out; show w1.heap.size ≤ Y.heap.size; omega) HT.out).mono fun e w' ⟨tp, h1, h2, h3⟩ => ⟨tp, h1, h2, ((Below.refl _ _).drew).trans h3⟩
  have hTb : ∀ X : World, Below Y.heap.size Y X → Calls Try.prog 11 #[.agg #[.string s, .slice pA pn pc, .int .i64 r, .slice iA in_ ic, .slice bA bn bc]] X fun e w' => ∃ tb ib, e = .returned (.slice (some ⟨tb, 0, none⟩) bn bn) ∧ BT w' tb ib bn (tabP g) ∧ Below X.heap.size X w' := fun X hX => by
    have h := table_g w1.heap.size _ g X (Hfr.out X hX) (by have := HzY.out; have := hX.size; omega) Hg.out
    rw [← Hbn.out] at h
    exact h
  have HTb := Lib.hid hTb
  clear hTb
  obtain ⟨x0, x1, x2, x3, x4⟩ := Hx.out Y (Below.refl _ _)
  obtain ⟨y0, y1, y2, y3, y4⟩ := Hx.out Y.drew (Below.refl _ _).drew
  go_cut [4, 5] (fun u4 u5 wx => MidD Y g T bn u4 u5 wx)
  case first =>
    go_region_with (first
      | (go_at_call 10; refine hN.mono ?_; rintro e w2 ⟨tp, rfl, htr, hb2⟩; obtain ⟨z0, z1, z2, z3, z4⟩ := Hx.out w2 hb2; have hTb2 := HTb.out w2 hb2; have Htr := Lib.hid htr; have Hb2 := Lib.hid hb2; clear htr hb2 hN)
      | (go_at_call 11; refine hTb2.mono ?_; rintro e w3 ⟨tb, ib, rfl, hbt, hb3⟩; have HM : Hid (MidD Y g T bn (.pointer (some ⟨tp, 0, none⟩)) (.slice (some ⟨tb, 0, none⟩) bn bn) w3) := Lib.hid ⟨tp, tb, ib, rfl, rfl, Htr.out.keep hb3, hbt, Hb2.out.trans (hb3.mono Hb2.out.size)⟩; clear hbt hb3 hTb2))
    all_goals (go_wp2_with fail; go_meet; exact HM.out)
  case rest =>
  obtain ⟨W, hW⟩ : ∃ W, W = wc := ⟨_, rfl⟩
  subst hW
  obtain ⟨tp, tb, ib, rfl, rfl, htr, hbt, hbW⟩ := hcut
  have HR : Hid (∀ B, Below W.heap.size W B → TR B tp g T ∧ BT B tb ib bn (tabP g) ∧ B.cell? ⟨w1.heap.size, 4, none⟩ = some (.slice bA bn bc)) := Lib.hid fun B hB => ⟨htr.keep hB, hbt.keep hB, (Hx.out B (hbW.trans (hB.mono hbW.size))).2.2.2.2⟩
  have HbW := Lib.hid hbW
  have HN0 : Hid (Below W.heap.size W W) := Lib.hid (Below.refl _ _)
  clear x0 x1 x2 x3 x4 y0 y1 y2 y3 y4 htr hbt hbW hN
  go_upto_region 3 with fail
  go_upto_block 0 with fail
  go_wp2_with fail
  go_loopw [6] (fun u6 wr => ∃ b : Nat, b ≤ bn ∧ u6 = .int .i64 b ∧ Hid (Below W.heap.size W wr)) (fun u6 _ => bn - (intOf u6).toNat)
  case atStart => exact ⟨0, Nat.zero_le _, rfl, HN0⟩
  case round =>
    clear HN0
    obtain ⟨b, hb, rfl, HN⟩ := hrel
    by_cases hlb : b < bn
    · obtain ⟨B, hB⟩ : ∃ B, B = wr := ⟨_, rfl⟩
      rw [← hB] at HN ⊢
      clear hB
      have hU := up_t tp g T (b : Int) B (HR.out B HN.out).1
      have hsp := ups_spec Hg.out (HT.out (by rw [← Hbn.out]; omega)) (b := b) (by rw [← Hbn.out]; exact hlb)
      rw [← Hbn.out] at hsp
      obtain ⟨u, hu⟩ : ∃ u, u = upV g T b := ⟨_, rfl⟩
      rw [← hu] at hU hsp
      have hrc : rcB g b = tabP g b b := by rw [rcB_ov]; exact ovB_tab Hg.out (by rw [← Hbn.out]; exact hlb)
      have HRc : Hid (∀ w', TR w' tp g T → Calls Try.prog 15 #[.pointer (some ⟨tp, 0, none⟩), .int .i64 (b : Int)] w' fun e w2 => e = .returned (.bool (tabP g b b)) ∧ ∃ q, w2 = w'.drewN q) := Lib.hid fun w' h' => by rw [← hrc]; exact reached_q tp g T b w' h'
      clear hu hrc
      go_upto_region 7 with (go_at_call 14; refine hU.mono ?_; rintro e w4 ⟨rfl, hw4⟩; rw [hw4]; clear hw4 w4 hU)
      rcases hsp with ⟨rfl, hno⟩ | ⟨v, rfl, hv, hvb, hvt, hva⟩
      · have Hno := Lib.hid hno
        clear hno
        go_upto_block 2 with fail
        go_wp2_with fail
        go_loopw [9, 8] (fun u9 u8 wr => ∃ a : Nat, a ≤ bn ∧ u9 = .int .i64 a ∧ u8 = .int .i64 0 ∧ Hid (Below W.heap.size W wr)) (fun u9 _ _ => bn - (intOf u9).toNat)
        case atStart => exact ⟨0, Nat.zero_le _, rfl, rfl, HN⟩
        case round =>
          clear HN
          obtain ⟨a, ha, rfl, rfl, HN⟩ := hrel
          obtain ⟨C, hC⟩ : ∃ C, C = wr := ⟨_, rfl⟩
          rw [← hC] at HN ⊢
          clear hC
          by_cases hla : a < bn
          · obtain ⟨-, hbt, -⟩ := HR.out C HN.out
            obtain ⟨-, k1, k2⟩ := hbt.2 a hla
            have k3 := k2 b hlb
            clear hbt k2
            by_cases hab : a = b
            · subst hab
              have hd : ((a : Int) != (a : Int)) = false := by simp
              go_wp2
              go_roundw
              case rel => exact ⟨a + 1, by omega, by go_num, rfl, HN⟩
              case measure => simp [intOf]; omega
            · have hd : ((a : Int) != (b : Int)) = true := by simp; omega
              rw [Hno.out a hla hab] at k3
              go_wp2
              go_roundw
              case rel => exact ⟨a + 1, by omega, by go_num, rfl, HN⟩
              case measure => simp [intOf]; omega
          · obtain rfl : bn = a := by omega
            obtain ⟨htr, hbt, -⟩ := HR.out C HN.out
            obtain ⟨-, k1, k2⟩ := hbt.2 b hlb
            have k3 := k2 b hlb
            obtain ⟨q, hq⟩ : ∃ q, q = tabP g b b := ⟨_, rfl⟩
            have hne : (q != q) = false := by cases q <;> rfl
            rw [← hq] at k3 HRc
            have Htr := Lib.hid htr
            clear hbt k2 htr hq
            go_upto_region 14 with fail
            go_quiet (first | (go_at_call 15; with_reducible refine Calls.quiet_of (HRc.out _ ?_); exact Htr.out.keep ⟨rfl, rfl, rfl, Nat.le_refl _, fun _ _ => rfl⟩))
            have HN4 := Lib.hid (below_n HN.out nq)
            go_wp2
            go_roundw
            case rel => exact ⟨b + 1, by omega, by go_num, HN4⟩
            case measure => simp [intOf]; omega
      · have Hva := Lib.hid hva
        clear hva
        go_upto_block 2 with fail
        go_wp2_with fail
        go_loopw [9, 8] (fun u9 u8 wr => ∃ (a m : Nat), a ≤ bn ∧ m ≤ a ∧ u9 = .int .i64 a ∧ u8 = .int .i64 m ∧ (0 < m ∨ a ≤ v) ∧ Hid (Below W.heap.size W wr)) (fun u9 _ _ => bn - (intOf u9).toNat)
        case atStart => exact ⟨0, 0, Nat.zero_le _, Nat.le_refl _, rfl, rfl, .inr (Nat.zero_le _), HN⟩
        case round =>
          clear HN
          obtain ⟨a, m, ha, hm, rfl, rfl, hmv, HN⟩ := hrel
          obtain ⟨C, hC⟩ : ∃ C, C = wr := ⟨_, rfl⟩
          rw [← hC] at HN ⊢
          clear hC
          by_cases hla : a < bn
          · obtain ⟨-, hbt, -⟩ := HR.out C HN.out
            obtain ⟨-, k1, k2⟩ := hbt.2 a hla
            have k3 := k2 b hlb
            have k4 := k2 v hv
            clear hbt k2
            by_cases hab : a = b
            · subst hab
              have hd : ((a : Int) != (a : Int)) = false := by simp
              go_wp2
              go_roundw
              case rel => exact ⟨a + 1, m, by omega, by omega, by go_num, rfl, by omega, HN⟩
              case measure => simp [intOf]; omega
            · have hd : ((a : Int) != (b : Int)) = true := by simp; omega
              have hva := Hva.out a hla hab
              cases hq : tabP g a b with
              | false =>
                rw [hq] at k3
                have hav : a ≠ v := fun e => by rw [e, hvt] at hq; cases hq
                clear hva hq
                go_wp2
                go_roundw
                case rel => exact ⟨a + 1, m, by omega, by omega, by go_num, rfl, by omega, HN⟩
                case measure => simp [intOf]; omega
              | true =>
                rw [hq] at k3
                rw [hva hq] at k4
                have hw2 : IntKind.i64.wrap ((m : Int) + 1) = (m : Int) + 1 := by rw [IntKind.wrap_i64]; omega
                have hd2 : decide ((v : Int) < 0) = false := decide_eq_false (by omega)
                have hd3 : decide ((v : Int) ≥ (bn : Int)) = false := decide_eq_false (by omega)
                clear hva hq
                go_wp2
                go_roundw
                case rel => exact ⟨a + 1, m + 1, by omega, by omega, by go_num, by go_num, by omega, HN⟩
                case measure => simp [intOf]; omega
          · obtain rfl : bn = a := by omega
            obtain ⟨htr, hbt, -⟩ := HR.out C HN.out
            obtain ⟨-, k1, k2⟩ := hbt.2 b hlb
            have k3 := k2 b hlb
            obtain ⟨-, k5, k6⟩ := hbt.2 v hv
            have k7 := k6 b hlb
            rw [hvt] at k7
            have hm0 : 0 < m := by omega
            have e1 : decide ((v : Int) ≥ 0) = true := decide_eq_true (by omega)
            have e2 : decide ((m : Int) > 0) = true := decide_eq_true (by omega)
            have e3 : ((v : Int) == (b : Int)) = false := by simp; omega
            obtain ⟨q, hq⟩ : ∃ q, q = tabP g b b := ⟨_, rfl⟩
            have hne : (q != q) = false := by cases q <;> rfl
            rw [← hq] at k3 HRc
            have Htr := Lib.hid htr
            clear hbt k2 k6 htr hq hvt hmv
            go_upto_region 14 with fail
            go_quiet (first | (go_at_call 15; with_reducible refine Calls.quiet_of (HRc.out _ ?_); exact Htr.out.keep ⟨rfl, rfl, rfl, Nat.le_refl _, fun _ _ => rfl⟩))
            have HN4 := Lib.hid (below_n HN.out nq)
            go_wp2
            go_roundw
            case rel => exact ⟨b + 1, by omega, by go_num, HN4⟩
            case measure => simp [intOf]; omega
    · obtain rfl : bn = b := by omega
      have hA := awake9_any wr
      go_wp2_with (go_at_call 13; refine hA.mono ?_; rintro e w5 ⟨rfl, hb5⟩; have HbA := Lib.hid hb5; clear hb5 hA)
      go_ret
      exact ⟨rfl, Hb1.out.trans ((HbY.out.trans ((HbW.out.trans ((HN.out.trans (HbA.out.mono HN.out.size)).mono HbW.out.size)).mono (by have := HzY.out; omega))).mono Hb1.out.size)⟩
end Go.Proofs.Ytoplllebaagnnaa
