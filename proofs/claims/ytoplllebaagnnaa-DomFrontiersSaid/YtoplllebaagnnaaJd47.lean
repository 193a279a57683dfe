/-
  The law DomCommon.
-/
import Derived.Test.YtoplllebaagnnaaJd42
import Derived.Test.YtoplllebaagnnaaJd46
import Derived.Deep.DeepCutAuto
namespace Go.Proofs.Ytoplllebaagnnaa
set_option linter.unusedVariables false
set_option linter.unusedSimpArgs false
open Go.RowKit Go.Shelf

theorem com_spec {g : List GB} (hg : tosOk g) {a b : Nat} {c : Int} (ha : a < g.length) (hb : b < g.length) (h : comI g a b c) : (tabP g a a = true ∧ tabP g b b = true ∧ ∃ z : Nat, c = z ∧ z < g.length ∧ tabP g z a = true ∧ tabP g z b = true ∧ ∀ x, x < g.length → tabP g x a = true → tabP g x b = true → tabP g x z = true) ∨ ((tabP g a a = false ∨ (tabP g a a = true ∧ tabP g b b = false)) ∧ c = -1) := by
  have ea : rcB g a = tabP g a a := by rw [rcB_ov]; exact ovB_tab hg ha
  have eb : rcB g b = tabP g b b := by rw [rcB_ov]; exact ovB_tab hg hb
  unfold comI at h
  rw [ea, eb] at h
  split at h
  · next hc =>
    obtain ⟨z, rfl, h1, h2, h3⟩ := h
    have hz := FR.lt hg (by omega) h1.1
    exact .inl ⟨hc.1, hc.2, z, rfl, hz, (tabP_ovd hg hz).2 h1, (tabP_ovd hg hz).2 h2, fun x hx q1 q2 => (tabP_ovd hg hx).2 (h3 x ((tabP_ovd hg hx).1 q1) ((tabP_ovd hg hx).1 q2))⟩
  · next hc =>
    refine .inr ⟨?_, h⟩
    cases h1 : tabP g a a with
    | false => exact .inl rfl
    | true =>
      refine .inr ⟨rfl, ?_⟩
      cases h2 : tabP g b b with
      | false => rfl
      | true => exact absurd ⟨h1, h2⟩ hc
set_option maxRecDepth 100000 in
set_option maxHeartbeats 16000000 in
theorem domCommon_any (n0 : Nat) (A : Option Addr) (L c : Nat) (l : List (Int × Int)) (w : World) (hv : GPr n0 w (.slice A L c) l) (hn : n0 ≤ w.heap.size) (hL : L ≤ c) (hc : c ≤ maxLen) (hin : ∀ x ∈ l, InG x.1 ∧ InG x.2) :
    Calls Try.prog 6 #[.slice A L c] w fun e w' => e = .returned (.bool true) ∧ Below w.heap.size w w' := by
  have hll : L = l.length := by obtain ⟨A', c', e, _⟩ := id hv; injection e
  have hGr := graph_true n0 _ l w hv hn (by unfold maxLen at hc; omega) hin
  have hg := tosOk_graphP hin
  have hgl : (graphP l true).length ≤ 14 := by rw [graphP_len]; omega
  obtain ⟨T, hT⟩ := tree_any hg (tos_two hin) (by omega)
  obtain ⟨g, hge⟩ : ∃ g, g = graphP l true := ⟨_, rfl⟩
  rw [← hge] at hGr hg hgl hT
  have Hg := Lib.hid hg
  have Hgl := Lib.hid hgl
  have HT := Lib.hid hT
  clear hv hin hll hge hg hgl hL hc hT
  go_enter Try.func6, Try.ntmps6
  go_wp2_with (first
    | (go_at_call 9; refine hGr.mono ?_; rintro e w1 ⟨f, rfl, hf1, hb1⟩; obtain ⟨s, pA, pn, pc, r, iA, in_, ic, bA, bn, bc, rfl, hG1, hbn1⟩ := id hf1;
        obtain ⟨Y, hY, hbY, hzY, h0Y⟩ := gr_one w1 #[.string s, .slice pA pn pc, .int .i64 r, .slice iA in_ ic, .slice bA bn bc] 27;
        have hfr : ∀ A : World, Below Y.heap.size Y A → GF w1.heap.size A (.agg #[.string s, .slice pA pn pc, .int .i64 r, .slice iA in_ ic, .slice bA bn bc]) g := (fun A hA => ⟨s, pA, pn, pc, r, iA, in_, ic, bA, bn, bc, rfl, hG1.keep (hbY.trans (hA.mono (by omega))), hbn1⟩);
        have hx : ∀ A : World, Below Y.heap.size Y A → A.cell? ⟨w1.heap.size, 0, none⟩ = some (.string s) ∧ A.cell? ⟨w1.heap.size, 1, none⟩ = some (.slice pA pn pc) ∧ A.cell? ⟨w1.heap.size, 2, none⟩ = some (.int .i64 r) ∧ A.cell? ⟨w1.heap.size, 3, none⟩ = some (.slice iA in_ ic) ∧ A.cell? ⟨w1.heap.size, 4, none⟩ = some (.slice bA bn bc) := (fun A hA => by obtain ⟨x0, x1, x2, x3, x4, -⟩ := gr_five ((hA.block w1.heap.size (gr_in h0Y)).trans h0Y); exact ⟨x0, x1, x2, x3, x4⟩);
        have hbl : bn ≤ 14 := (by rw [hbn1]; exact Hgl.out);
        have Hbn := Lib.hid hbn1; have Hx := Lib.hid hx;
        have Hfr := Lib.hid hfr; have HY := Lib.hid hY; have HbY := Lib.hid hbY; have HzY := Lib.hid hzY; have H0Y := Lib.hid h0Y; have Hb1 := Lib.hid hb1; clear hf1 hb1 hGr hG1 hbn1 hfr hY hbY hzY h0Y hx))
  have hY2 := HY.out
  go_upto_region 2 with fail
  rw [← HY.out]
  clear hY2
  have hN : Calls Try.prog 10 #[.agg #[.string s, .slice pA pn pc, .int .i64 r, .slice iA in_ ic, .slice bA bn bc]] Y.drew fun e w' => ∃ tp, e = .returned (.pointer (some ⟨tp, 0, none⟩)) ∧ TR w' tp g T ∧ Below Y.heap.size Y w' := (new_t w1.heap.size _ g T Y.drew (Hfr.out Y.drew (Below.refl _ _).drew) (by have := HzY.out; show w1.heap.size ≤ Y.heap.size; omega) HT.out).mono fun e w' ⟨tp, h1, h2, h3⟩ => ⟨tp, h1, h2, ((Below.refl _ _).drew).trans h3⟩
  have hTb : ∀ X : World, Below Y.heap.size Y X → Calls Try.prog 11 #[.agg #[.string s, .slice pA pn pc, .int .i64 r, .slice iA in_ ic, .slice bA bn bc]] X fun e w' => ∃ tb ib, e = .returned (.slice (some ⟨tb, 0, none⟩) bn bn) ∧ BT w' tb ib bn (tabP g) ∧ Below X.heap.size X w' := fun X hX => by
    have h := table_g w1.heap.size _ g X (Hfr.out X hX) (by have := HzY.out; have := hX.size; omega) Hg.out
    rw [← Hbn.out] at h
    exact h
  have HTb := Lib.hid hTb
  clear hTb
  obtain ⟨x0, x1, x2, x3, x4⟩ := Hx.out Y (Below.refl _ _)
  obtain ⟨y0, y1, y2, y3, y4⟩ := Hx.out Y.drew (Below.refl _ _).drew
  go_cut [4, 5] (fun u4 u5 wx => MidD Y g T bn u4 u5 wx)
  case first =>
    go_region_with (first
      | (go_at_call 10; refine hN.mono ?_; rintro e w2 ⟨tp, rfl, htr, hb2⟩; obtain ⟨z0, z1, z2, z3, z4⟩ := Hx.out w2 hb2; have hTb2 := HTb.out w2 hb2; have Htr := Lib.hid htr; have Hb2 := Lib.hid hb2; clear htr hb2 hN)
      | (go_at_call 11; refine hTb2.mono ?_; rintro e w3 ⟨tb, ib, rfl, hbt, hb3⟩; have HM : Hid (MidD Y g T bn (.pointer (some ⟨tp, 0, none⟩)) (.slice (some ⟨tb, 0, none⟩) bn bn) w3) := Lib.hid ⟨tp, tb, ib, rfl, rfl, Htr.out.keep hb3, hbt, Hb2.out.trans (hb3.mono Hb2.out.size)⟩; clear hbt hb3 hTb2))
    all_goals (go_wp2_with fail; go_meet; exact HM.out)
  case rest =>
  obtain ⟨W, hW⟩ : ∃ W, W = wc := ⟨_, rfl⟩
  subst hW
  obtain ⟨tp, tb, ib, rfl, rfl, htr, hbt, hbW⟩ := hcut
  have HR : Hid (∀ B, Below W.heap.size W B → TR B tp g T ∧ BT B tb ib bn (tabP g) ∧ B.cell? ⟨w1.heap.size, 4, none⟩ = some (.slice bA bn bc)) := Lib.hid fun B hB => ⟨htr.keep hB, hbt.keep hB, (Hx.out B (hbW.trans (hB.mono hbW.size))).2.2.2.2⟩
  have HbW := Lib.hid hbW
  have HN0 : Hid (Below W.heap.size W W) := Lib.hid (Below.refl _ _)
  clear x0 x1 x2 x3 x4 y0 y1 y2 y3 y4 htr hbt hbW hN
  go_upto_region 3 with fail
  go_upto_block 0 with fail
  go_wp2_with fail
  go_loopw [6] (fun u6 wr => ∃ a : Nat, a ≤ bn ∧ u6 = .int .i64 a ∧ Hid (Below W.heap.size W wr)) (fun u6 _ => bn - (intOf u6).toNat)
  case atStart => exact ⟨0, Nat.zero_le _, rfl, HN0⟩
  case round =>
    clear HN0
    obtain ⟨a, ha, rfl, HN⟩ := hrel
    by_cases hla : a < bn
    · go_upto_block 2 with fail
      go_wp2_with fail
      go_loopw [7] (fun u7 wr => ∃ b : Nat, b ≤ bn ∧ u7 = .int .i64 b ∧ Hid (Below W.heap.size W wr)) (fun u7 _ => bn - (intOf u7).toNat)
      case atStart => exact ⟨0, Nat.zero_le _, rfl, HN⟩
      case round =>
        clear HN
        obtain ⟨b, hb, rfl, HN⟩ := hrel
        obtain ⟨B, hB⟩ : ∃ B, B = wr := ⟨_, rfl⟩
        rw [← hB] at HN ⊢
        clear hB
        by_cases hlb : b < bn
        · have hCo := common_t tp g T a b B (HR.out B HN.out).1
          go_upto_region 10 with (go_at_call 20; refine hCo.mono ?_; rintro e w4 ⟨c, rfl, hcs, hb4⟩; have Hcs := Lib.hid hcs; have HN4 : Hid (Below W.heap.size W w4) := Lib.hid (HN.out.trans (hb4.mono HN.out.size)); clear hcs hb4 hCo)
          have hsp := com_spec Hg.out (by rw [← Hbn.out]; exact hla) (by rw [← Hbn.out]; exact hlb) Hcs.out
          rw [← Hbn.out] at hsp
          obtain ⟨-, hbt, -⟩ := HR.out w4 HN4.out
          obtain ⟨-, k1, k2⟩ := hbt.2 a hla
          have k3 := k2 a hla
          obtain ⟨-, k4, k5⟩ := hbt.2 b hlb
          have k6 := k5 b hlb
          clear k2 k5 Hcs
          rcases hsp with ⟨q1, q2, z, rfl, hz, qa, qb, qx⟩ | ⟨q1 | ⟨q1, q2⟩, rfl⟩
          · rw [q1] at k3
            rw [q2] at k6
            obtain ⟨-, k7, k8⟩ := hbt.2 z hz
            have k9 := k8 a hla
            have k10 := k8 b hlb
            rw [qa] at k9
            rw [qb] at k10
            have e1 : decide ((z : Int) < 0) = false := decide_eq_false (by omega)
            have e2 : decide ((z : Int) ≥ (bn : Int)) = false := decide_eq_false (by omega)
            have Hqx := Lib.hid qx
            clear q1 q2 qa qb qx hbt k8
            go_upto_block 4 with fail
            clear k1 k3 k4 k6 k7 k9 k10 e1 e2
            go_wp2_with fail
            go_loopw [9] (fun u9 wr => ∃ x : Nat, x ≤ bn ∧ u9 = .int .i64 x ∧ Hid (Below W.heap.size W wr)) (fun u9 _ => bn - (intOf u9).toNat)
            case atStart => exact ⟨0, Nat.zero_le _, rfl, HN4⟩
            case round =>
              clear HN4
              obtain ⟨x, hx, rfl, HN4⟩ := hrel
              obtain ⟨C, hC⟩ : ∃ C, C = wr := ⟨_, rfl⟩
              rw [← hC] at HN4 ⊢
              clear hC
              by_cases hlx : x < bn
              · obtain ⟨-, hbt, -⟩ := HR.out C HN4.out
                obtain ⟨-, k1, k2⟩ := hbt.2 x hlx
                have k3 := k2 a hla
                have k4 := k2 b hlb
                have k5 := k2 z hz
                have hqx := Hqx.out x hlx
                clear hbt k2
                cases h1 : tabP g x a with
                | false =>
                  rw [h1] at k3
                  clear hqx h1
                  go_wp2
                  go_roundw
                  case rel => exact ⟨x + 1, by omega, by go_num, HN4⟩
                  case measure => simp [intOf]; omega
                | true =>
                  rw [h1] at k3
                  cases h2 : tabP g x b with
                  | false =>
                    rw [h2] at k4
                    clear hqx h1 h2
                    go_wp2
                    go_roundw
                    case rel => exact ⟨x + 1, by omega, by go_num, HN4⟩
                    case measure => simp [intOf]; omega
                  | true =>
                    rw [h2] at k4
                    rw [hqx h1 h2] at k5
                    clear hqx h1 h2
                    go_wp2
                    go_roundw
                    case rel => exact ⟨x + 1, by omega, by go_num, HN4⟩
                    case measure => simp [intOf]; omega
              · obtain rfl : bn = x := by omega
                go_wp2_with fail
                go_roundw
                case rel => exact ⟨b + 1, by omega, by go_num, HN4⟩
                case measure => simp [intOf]; omega
          · rw [q1] at k3
            clear q1 hbt
            go_wp2_with fail
            go_roundw
            case rel => exact ⟨b + 1, by omega, by go_num, HN4⟩
            case measure => simp [intOf]; omega
          · rw [q1] at k3
            rw [q2] at k6
            clear q1 q2 hbt
            go_wp2_with fail
            go_roundw
            case rel => exact ⟨b + 1, by omega, by go_num, HN4⟩
            case measure => simp [intOf]; omega
        · obtain rfl : bn = b := by omega
          go_wp2_with fail
          go_roundw
          case rel => exact ⟨a + 1, by omega, by go_num, HN⟩
          case measure => simp [intOf]; omega
    · obtain rfl : bn = a := by omega
      have hA := awake9_any wr
      go_wp2_with (go_at_call 13; refine hA.mono ?_; rintro e w5 ⟨rfl, hb5⟩; have HbA := Lib.hid hb5; clear hb5 hA)
      go_ret
      exact ⟨rfl, Hb1.out.trans ((HbY.out.trans ((HbW.out.trans ((HN.out.trans (HbA.out.mono HN.out.size)).mono HbW.out.size)).mono (by have := HzY.out; omega))).mono Hb1.out.size)⟩
end Go.Proofs.Ytoplllebaagnnaa
