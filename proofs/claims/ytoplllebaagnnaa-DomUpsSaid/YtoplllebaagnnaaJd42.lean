/-
  The law DomOver.
-/
import Derived.Test.YtoplllebaagnnaaJd41
import Derived.Deep.DeepCutAuto
namespace Go.Proofs.Ytoplllebaagnnaa
set_option linter.unusedVariables false
set_option linter.unusedSimpArgs false
open Go.RowKit Go.Shelf

/-- Behind the tree and the table. -/
def MidD (Y : World) (g : List GB) (T : TrP) (bn : Nat) (u4 u5 : Value) (wx : World) : Prop := ∃ (tp tb : Nat) (ib : Nat → Nat), u4 = .pointer (some ⟨tp, 0, none⟩) ∧ u5 = .slice (some ⟨tb, 0, none⟩) bn bn ∧ TR wx tp g T ∧ BT wx tb ib bn (tabP g) ∧ Below Y.heap.size Y wx
theorem below_n {w w' : World} (h : Below w.heap.size w w') (q : Nat) : Below w.heap.size w (w'.drewN q) := below_dr h q
set_option maxRecDepth 100000 in
set_option maxHeartbeats 16000000 in
theorem domOver_any (n0 : Nat) (A : Option Addr) (L c : Nat) (l : List (Int × Int)) (w : World) (hv : GPr n0 w (.slice A L c) l) (hn : n0 ≤ w.heap.size) (hL : L ≤ c) (hc : c ≤ maxLen) (hin : ∀ x ∈ l, InG x.1 ∧ InG x.2) :
    Calls Try.prog 3 #[.slice A L c] w fun e w' => e = .returned (.bool true) ∧ Below w.heap.size w w' := by
  have hll : L = l.length := by obtain ⟨A', c', e, _⟩ := id hv; injection e
  have hGr := graph_true n0 _ l w hv hn (by unfold maxLen at hc; omega) hin
  have hg := tosOk_graphP hin
  have hgl : (graphP l true).length ≤ 14 := by rw [graphP_len]; omega
  obtain ⟨T, hT⟩ := tree_any hg (tos_two hin) (by omega)
  obtain ⟨g, hge⟩ : ∃ g, g = graphP l true := ⟨_, rfl⟩
  rw [← hge] at hGr hg hgl hT
  have Hg := Lib.hid hg
  have Hgl := Lib.hid hgl
  have HT := Lib.hid hT
  clear hv hin hll hge hg hgl hL hc hT
  go_enter Try.func3, Try.ntmps3
  go_wp2_with (first
    | (go_at_call 9; refine hGr.mono ?_; rintro e w1 ⟨f, rfl, hf1, hb1⟩; obtain ⟨s, pA, pn, pc, r, iA, in_, ic, bA, bn, bc, rfl, hG1, hbn1⟩ := id hf1;
        obtain ⟨Y, hY, hbY, hzY, h0Y⟩ := gr_one w1 #[.string s, .slice pA pn pc, .int .i64 r, .slice iA in_ ic, .slice bA bn bc] 27;
        have hfr : ∀ A : World, Below Y.heap.size Y A → GF w1.heap.size A (.agg #[.string s, .slice pA pn pc, .int .i64 r, .slice iA in_ ic, .slice bA bn bc]) g := (fun A hA => ⟨s, pA, pn, pc, r, iA, in_, ic, bA, bn, bc, rfl, hG1.keep (hbY.trans (hA.mono (by omega))), hbn1⟩);
        have hx : ∀ A : World, Below Y.heap.size Y A → A.cell? ⟨w1.heap.size, 0, none⟩ = some (.string s) ∧ A.cell? ⟨w1.heap.size, 1, none⟩ = some (.slice pA pn pc) ∧ A.cell? ⟨w1.heap.size, 2, none⟩ = some (.int .i64 r) ∧ A.cell? ⟨w1.heap.size, 3, none⟩ = some (.slice iA in_ ic) ∧ A.cell? ⟨w1.heap.size, 4, none⟩ = some (.slice bA bn bc) := (fun A hA => by obtain ⟨x0, x1, x2, x3, x4, -⟩ := gr_five ((hA.block w1.heap.size (gr_in h0Y)).trans h0Y); exact ⟨x0, x1, x2, x3, x4⟩);
        have hbl : bn ≤ 14 := (by rw [hbn1]; exact Hgl.out);
        have Hbn := Lib.hid hbn1; have Hx := Lib.hid hx;
        have Hfr := Lib.hid hfr; have HY := Lib.hid hY; have HbY := Lib.hid hbY; have HzY := Lib.hid hzY; have H0Y := Lib.hid h0Y; have Hb1 := Lib.hid hb1; clear hf1 hb1 hGr hG1 hbn1 hfr hY hbY hzY h0Y hx))
  have hY2 := HY.out
  go_upto_region 2 with fail
  rw [← HY.out]
  clear hY2
  have hN : Calls Try.prog 10 #[.agg #[.string s, .slice pA pn pc, .int .i64 r, .slice iA in_ ic, .slice bA bn bc]] Y.drew fun e w' => ∃ tp, e = .returned (.pointer (some ⟨tp, 0, none⟩)) ∧ TR w' tp g T ∧ Below Y.heap.size Y w' := (new_t w1.heap.size _ g T Y.drew (Hfr.out Y.drew (Below.refl _ _).drew) (by have := HzY.out; show w1.heap.size ≤ Y.heap.size; omega) HT.out).mono fun e w' ⟨tp, h1, h2, h3⟩ => ⟨tp, h1, h2, ((Below.refl _ _).drew).trans h3⟩
  have hTb : ∀ X : World, Below Y.heap.size Y X → Calls Try.prog 11 #[.agg #[.string s, .slice pA pn pc, .int .i64 r, .slice iA in_ ic, .slice bA bn bc]] X fun e w' => ∃ tb ib, e = .returned (.slice (some ⟨tb, 0, none⟩) bn bn) ∧ BT w' tb ib bn (tabP g) ∧ Below X.heap.size X w' := fun X hX => by
    have h := table_g w1.heap.size _ g X (Hfr.out X hX) (by have := HzY.out; have := hX.size; omega) Hg.out
    rw [← Hbn.out] at h
    exact h
  have HTb := Lib.hid hTb
  clear hTb
  obtain ⟨x0, x1, x2, x3, x4⟩ := Hx.out Y (Below.refl _ _)
  obtain ⟨y0, y1, y2, y3, y4⟩ := Hx.out Y.drew (Below.refl _ _).drew
  go_cut [4, 5] (fun u4 u5 wx => MidD Y g T bn u4 u5 wx)
  case first =>
    go_region_with (first
      | (go_at_call 10; refine hN.mono ?_; rintro e w2 ⟨tp, rfl, htr, hb2⟩; obtain ⟨z0, z1, z2, z3, z4⟩ := Hx.out w2 hb2; have hTb2 := HTb.out w2 hb2; have Htr := Lib.hid htr; have Hb2 := Lib.hid hb2; clear htr hb2 hN)
      | (go_at_call 11; refine hTb2.mono ?_; rintro e w3 ⟨tb, ib, rfl, hbt, hb3⟩; have HM : Hid (MidD Y g T bn (.pointer (some ⟨tp, 0, none⟩)) (.slice (some ⟨tb, 0, none⟩) bn bn) w3) := Lib.hid ⟨tp, tb, ib, rfl, rfl, Htr.out.keep hb3, hbt, Hb2.out.trans (hb3.mono Hb2.out.size)⟩; clear hbt hb3 hTb2))
    all_goals (go_wp2_with fail; go_meet; exact HM.out)
  case rest =>
  obtain ⟨W, hW⟩ : ∃ W, W = wc := ⟨_, rfl⟩
  subst hW
  obtain ⟨tp, tb, ib, rfl, rfl, htr, hbt, hbW⟩ := hcut
  have HR : Hid (∀ B, Below W.heap.size W B → TR B tp g T ∧ BT B tb ib bn (tabP g) ∧ B.cell? ⟨w1.heap.size, 4, none⟩ = some (.slice bA bn bc)) := Lib.hid fun B hB => ⟨htr.keep hB, hbt.keep hB, (Hx.out B (hbW.trans (hB.mono hbW.size))).2.2.2.2⟩
  have HbW := Lib.hid hbW
  have HN0 : Hid (Below W.heap.size W W) := Lib.hid (Below.refl _ _)
  clear x0 x1 x2 x3 x4 y0 y1 y2 y3 y4 htr hbt hbW hN
  go_upto_region 3 with fail
  go_upto_block 0 with fail
  go_wp2_with fail
  go_loopw [6] (fun u6 wr => ∃ a : Int, -1 ≤ a ∧ a ≤ (bn : Int) + 1 ∧ u6 = .int .i64 a ∧ Hid (Below W.heap.size W wr)) (fun u6 _ => ((bn : Int) + 1 - intOf u6).toNat)
  case atStart => exact ⟨-1, by omega, by omega, rfl, HN0⟩
  case round =>
    clear HN0
    obtain ⟨a, ha1, ha2, rfl, HN⟩ := hrel
    obtain ⟨-, -, c4⟩ := HR.out wr HN.out
    by_cases hla : a ≤ (bn : Int)
    · go_upto_block 2 with fail
      clear c4
      go_wp2_with fail
      go_loopw [7] (fun u7 wr => ∃ b : Int, -1 ≤ b ∧ b ≤ (bn : Int) + 1 ∧ u7 = .int .i64 b ∧ Hid (Below W.heap.size W wr)) (fun u7 _ => ((bn : Int) + 1 - intOf u7).toNat)
      case atStart => exact ⟨-1, by omega, by omega, rfl, HN⟩
      case round =>
        clear HN
        obtain ⟨b, hb1, hb2, rfl, HN⟩ := hrel
        obtain ⟨B, hB⟩ : ∃ B, B = wr := ⟨_, rfl⟩
        rw [← hB] at HN ⊢
        clear hB
        obtain ⟨htr, hbt, c4⟩ := HR.out B HN.out
        have hO := over_t tp g T a b B htr
        obtain ⟨q, hq⟩ : ∃ q, q = ovB g a b := ⟨_, rfl⟩
        rw [← hq] at hO
        have hne : (q != q) = false := by cases q <;> rfl
        by_cases hlb : b ≤ (bn : Int)
        · have hout : (a < 0 ∨ b < 0 ∨ (bn : Int) ≤ a ∨ (bn : Int) ≤ b) → q = false := fun h => by rw [hq]; rw [Hbn.out] at h; exact ovB_out Hg.out h
          by_cases ha0 : 0 ≤ a
          · have d0 : decide (a ≥ 0) = true := decide_eq_true ha0
            by_cases hb0 : 0 ≤ b
            · have d1 : decide (b ≥ 0) = true := decide_eq_true hb0
              by_cases han : a < (bn : Int)
              · have d2 : decide (a < (bn : Int)) = true := decide_eq_true han
                by_cases hbn2 : b < (bn : Int)
                · have d3 : decide (b < (bn : Int)) = true := decide_eq_true hbn2
                  obtain ⟨an, rfl⟩ : ∃ an : Nat, a = an := ⟨a.toNat, by omega⟩
                  obtain ⟨bm, rfl⟩ : ∃ bm : Nat, b = bm := ⟨b.toNat, by omega⟩
                  have han2 : an < bn := by omega
                  have hbm2 : bm < bn := by omega
                  obtain ⟨-, k1, k2⟩ := hbt.2 an han2
                  have k3 := k2 bm hbm2
                  have hqt : q = tabP g an bm := by rw [hq]; exact ovB_tab Hg.out (by rw [← Hbn.out]; exact han2)
                  rw [← hqt] at k3
                  clear hq hout hqt htr hbt k2
                  go_wp2_with (go_at_call 12; refine hO.mono ?_; rintro e w4 ⟨rfl, q4, rfl⟩; have HN4 := Lib.hid (below_n HN.out q4); clear hO)
                  go_roundw
                  case rel => exact ⟨(bm : Int) + 1, by omega, by omega, by go_num, HN4⟩
                  case measure => simp [intOf]; omega
                · have d3 : decide (b < (bn : Int)) = false := decide_eq_false hbn2
                  obtain rfl := hout (by omega)
                  clear hq hout htr hbt
                  go_wp2_with (go_at_call 12; refine hO.mono ?_; rintro e w4 ⟨rfl, q4, rfl⟩; have HN4 := Lib.hid (below_n HN.out q4); clear hO)
                  go_roundw
                  case rel => exact ⟨b + 1, by omega, by omega, by go_num, HN4⟩
                  case measure => simp [intOf]; omega
              · have d2 : decide (a < (bn : Int)) = false := decide_eq_false han
                obtain rfl := hout (by omega)
                clear hq hout htr hbt
                go_wp2_with (go_at_call 12; refine hO.mono ?_; rintro e w4 ⟨rfl, q4, rfl⟩; have HN4 := Lib.hid (below_n HN.out q4); clear hO)
                go_roundw
                case rel => exact ⟨b + 1, by omega, by omega, by go_num, HN4⟩
                case measure => simp [intOf]; omega
            · have d1 : decide (b ≥ 0) = false := decide_eq_false hb0
              obtain rfl := hout (by omega)
              clear hq hout htr hbt
              go_wp2_with (go_at_call 12; refine hO.mono ?_; rintro e w4 ⟨rfl, q4, rfl⟩; have HN4 := Lib.hid (below_n HN.out q4); clear hO)
              go_roundw
              case rel => exact ⟨b + 1, by omega, by omega, by go_num, HN4⟩
              case measure => simp [intOf]; omega
          · have d0 : decide (a ≥ 0) = false := decide_eq_false ha0
            obtain rfl := hout (by omega)
            clear hq hout htr hbt
            go_wp2_with (go_at_call 12; refine hO.mono ?_; rintro e w4 ⟨rfl, q4, rfl⟩; have HN4 := Lib.hid (below_n HN.out q4); clear hO)
            go_roundw
            case rel => exact ⟨b + 1, by omega, by omega, by go_num, HN4⟩
            case measure => simp [intOf]; omega
        · clear hO hq hne htr hbt
          go_wp2_with fail
          go_roundw
          case rel => exact ⟨a + 1, by omega, by omega, by go_num, HN⟩
          case measure => simp [intOf]; omega
    · have hA := awake9_any wr
      go_wp2_with (go_at_call 13; refine hA.mono ?_; rintro e w5 ⟨rfl, hb5⟩; have HbA := Lib.hid hb5; clear hb5 hA)
      go_ret
      exact ⟨rfl, Hb1.out.trans ((HbY.out.trans ((HbW.out.trans ((HN.out.trans (HbA.out.mono HN.out.size)).mono HbW.out.size)).mono (by have := HzY.out; omega))).mono Hb1.out.size)⟩
end Go.Proofs.Ytoplllebaagnnaa
