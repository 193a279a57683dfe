/-
  The reference's From.
-/
import Derived.Test.YtlejpoofgnenhaaGrV
namespace Go.Proofs.Ytlejpoofgnenhaa
open Go.RowKit Go.Shelf
set_option linter.unusedVariables false
set_option linter.unusedSimpArgs false

def setT (wo : Int) (out : List Bool) (t : Int) : List Bool := if t = wo then out else out.set t.toNat true
def stepX (g : List GB) (wo : Int) (out : List Bool) (x : Nat) : List Bool := if out.getD x false then (tosG g x).foldl (setT wo) out else out
/-- From block x on. -/
def passR (g : List GB) (wo : Int) : Nat → Nat → List Bool → List Bool
  | 0, _, out => out
  | k + 1, x, out => passR g wo k (x + 1) (stepX g wo out x)
def iterP (g : List GB) (wo : Int) : Nat → List Bool → List Bool
  | 0, out => out
  | k + 1, out => iterP g wo k (passR g wo g.length 0 out)
def fromP (g : List GB) (b wo : Int) : List Bool := if b = wo ∨ (g.length : Int) ≤ b then List.replicate g.length false else iterP g wo g.length ((List.replicate g.length false).set b.toNat true)
theorem setT_len (wo : Int) (out : List Bool) (t : Int) : (setT wo out t).length = out.length := by unfold setT; split <;> simp
theorem setT_mono (wo : Int) (out : List Bool) (t : Int) (c : Nat) (h : out.getD c false = true) : (setT wo out t).getD c false = true := by
  unfold setT
  split
  · exact h
  · by_cases e : t.toNat = c
    · by_cases hl : t.toNat < out.length
      · rw [e]; exact set_getD _ _ (by omega)
      · rw [List.set_eq_of_length_le (by omega)]; exact h
    · rw [set_getD_ne _ _ _ e]; exact h

set_option maxRecDepth 100000 in
set_option maxHeartbeats 16000000 in
theorem from_g (n0 : Nat) (f : Value) (g : List GB) (b wo : Int) (w : World) (hf : GF n0 w f g) (hn : n0 ≤ w.heap.size) (hg : tosOk g) (hb : 0 ≤ b) (hbi : InG b) (hwi : InG wo) :
    Calls Try.prog 13 #[f, .int .i64 b, .int .i64 wo] w fun e w' => ∃ v, e = .returned v ∧ w'.ownsRow w.heap.size 4 1 v g.length (boolsV (fromP g b wo)) ∧ Below w.heap.size w w' := by
  obtain ⟨s, pA, pn, pc, r, iA, in_, ic, bA, bn, bc, rfl, hG, hbn⟩ := hf
  obtain ⟨W, hW, hbW, hzW, h0W⟩ := gr_one w #[.string s, .slice pA pn pc, .int .i64 r, .slice iA in_ ic, .slice bA bn bc] 27
  obtain ⟨x0, x1, x2, x3, x4, -⟩ := gr_five h0W
  have hlen : bn ≤ 1048576 := by rw [hbn]; obtain ⟨_, _, _, h, _⟩ := hG; exact h
  obtain ⟨i0, hi0, hz0, hz1, hz2⟩ := info_parts infoBoolG
  have Hi := Lib.hid hi0
  have Hz0 := Lib.hid hz0
  have Hz1 := Lib.hid hz1
  have Hz2 := Lib.hid hz2
  have HG := Lib.hid hG
  have Hbn := Lib.hid hbn
  have HbW := Lib.hid hbW
  have HW := Lib.hid hW
  have HzW := Lib.hid hzW
  have H0W := Lib.hid h0W
  have Hg := Lib.hid hg
  have Hbi := Lib.hid hbi
  clear hi0 hz0 hz1 hz2 hbW hW hG hbn hzW h0W hg hbi
  go_enter Try.func13, Try.ntmps13
  go_upto_region 1 with fail
  rw [← HW.out]
  go_wp2_with (at_make; refine wpList_make_full _ rfl (.tmp 14) (.tmp 14) 32 rfl W.heap.size 4 i0 (.bool false) 1 Try.underlying32 Hi.out Hz0.out Hz1.out _ _ _ _ bn rfl rfl rfl rfl (by rw [Hz2.out]; omega) (by unfold maxLen; omega) (Nat.le_refl _) ?_)
  intro w2 ho2 hg2
  have hb2 : Below W.heap.size W w2 := (Below.refl _ _).grown hg2 (Nat.le_refl _) (fun k e => by cases e)
  rw [madeBool] at ho2
  have hs2 := own_full ho2
  have hsl : W.heap.size < w2.heap.size := gr_in hs2
  have Hb2 := Lib.hid hb2
  have Hs2 := Lib.hid hs2
  have H02 := Lib.hid ((hb2.block w.heap.size (by have := HzW.out; omega)).trans H0W.out)
  clear ho2 hg2 hb2 hs2 x0 x1 x2 x3 x4
  have hearly : ∀ res, res = List.replicate bn false → w2.ownsRow w.heap.size 4 1 (.slice (some ⟨W.heap.size, 0, none⟩) bn bn) bn (boolsV res) := fun res e => by
    rw [e]
    exact full_own Hs2.out (by simp [boolsV]) (by have := HzW.out; omega) (by unfold maxLen; omega)
  have Hearly := Lib.hid hearly
  clear hearly
  go_upto_region 2 with fail
  by_cases h1 : b = wo
  · have hres : fromP g b wo = List.replicate bn false := by unfold fromP; rw [if_pos (.inl h1), Hbn.out]
    subst h1
    have hq : (b == b) = true := by simp
    go_wp2
    go_ret
    refine ⟨_, rfl, ?_, HbW.out.trans (Hb2.out.mono (by have := HzW.out; omega))⟩
    rw [← Hbn.out]
    exact Hearly.out _ hres
  · have hq : (b == wo) = false := eqb_ne h1
    by_cases h2 : (bn : Int) ≤ b
    · have hres : fromP g b wo = List.replicate bn false := by unfold fromP; rw [if_pos (.inr (by rw [← Hbn.out]; exact h2)), Hbn.out]
      clear h1
      go_wp2
      go_ret
      refine ⟨_, rfl, ?_, HbW.out.trans (Hb2.out.mono (by have := HzW.out; omega))⟩
      rw [← Hbn.out]
      exact Hearly.out _ hres
    · have hres : fromP g b wo = iterP g wo bn ((List.replicate bn false).set b.toNat true) := by
        unfold fromP
        rw [if_neg (by rw [← Hbn.out]; intro h; rcases h with h | h; exact h1 h; exact h2 h), Hbn.out]
      obtain ⟨bb, hbb⟩ : ∃ bb : Nat, b = bb := ⟨b.toNat, by omega⟩
      subst hbb
      have hbb2 : bb < bn := by omega
      have Hres := Lib.hid hres
      rw [Int.toNat_natCast] at Hres
      clear hres h1 Hearly
      have c0 : w2.cell? ⟨W.heap.size, bb, none⟩ = some (.bool false) := by rw [Lib.cell_of_heap Hs2.out bb]; simp [boolsV, hbb2]
      have cf := Lib.frozen_of_heap Hs2.out bb
      obtain ⟨V, hV⟩ : ∃ V, V = w2.setCell ⟨W.heap.size, bb, none⟩ (.bool true) := ⟨_, rfl⟩
      have hVs : V.heap[W.heap.size]? = some (.cells (boolsV ((List.replicate bn false).set bb true)).toArray 4 (0, 0)) := by
        rw [hV, gr_put Hs2.out bb]
        simp only [List.setIfInBounds_toArray, boolsV_set]
      have hVb : Below W.heap.size W V := by rw [hV]; exact Hb2.out.setCell (p := ⟨W.heap.size, bb, none⟩) (Nat.le_refl _) _
      obtain ⟨res, hre⟩ : ∃ res, res = iterP g wo bn ((List.replicate bn false).set bb true) := ⟨_, rfl⟩
      have Hre := Lib.hid hre
      have HN0 : Hid (V.heap[W.heap.size]? = some (.cells (boolsV ((List.replicate bn false).set bb true)).toArray 4 (0, 0)) ∧ Below W.heap.size W V ∧ ((List.replicate bn false).set bb true).length = bn ∧ iterP g wo (bn - 0) ((List.replicate bn false).set bb true) = res) := Lib.hid ⟨hVs, hVb, by simp, by rw [hre]; rfl⟩
      have HV := Lib.hid hV
      clear hV hVs hVb hre h2
      go_upto_region 5 with fail
      rw [← HV.out]
      clear c0 cf
      go_upto_region 6 with fail
      go_loopw [8] (fun u8 wr => ∃ (k : Nat) (out : List Bool), k ≤ bn ∧ u8 = .int .i64 k ∧ Hid (wr.heap[W.heap.size]? = some (.cells (boolsV out).toArray 4 (0, 0)) ∧ Below W.heap.size W wr ∧ out.length = bn ∧ iterP g wo (bn - k) out = res)) (fun u8 _ => bn - (intOf u8).toNat)
      case atStart => exact ⟨0, _, Nat.zero_le _, rfl, HN0⟩
      case round =>
        clear HN0
        obtain ⟨k, out, hk, rfl, HN⟩ := hrel
        by_cases hltk : k < bn
        · have HP0 : Hid (iterP g wo (bn - (k + 1)) (passR g wo (bn - 0) 0 out) = res) := Lib.hid (by
            have := HN.out.2.2.2
            rw [show bn - k = (bn - (k + 1)) + 1 by omega, iterP, ← Hbn.out] at this
            exact this)
          have HN1 := Lib.hid (And.intro HN.out.1 (And.intro HN.out.2.1 HN.out.2.2.1))
          clear HN
          go_upto_region 9 with fail
          go_loopw [9] (fun u9 wr => ∃ (x : Nat) (out : List Bool), x ≤ bn ∧ u9 = .int .i64 x ∧ Hid (iterP g wo (bn - (k + 1)) (passR g wo (bn - x) x out) = res) ∧ Hid (wr.heap[W.heap.size]? = some (.cells (boolsV out).toArray 4 (0, 0)) ∧ Below W.heap.size W wr ∧ out.length = bn)) (fun u9 _ => bn - (intOf u9).toNat)
          case atStart => exact ⟨0, out, Nat.zero_le _, rfl, HP0, HN1⟩
          case round =>
            clear HP0 HN1
            obtain ⟨x, out, hx, rfl, HP, HN⟩ := hrel
            by_cases hltx : x < bn
            · have hxg : x < g.length := by rw [← Hbn.out]; exact hltx
              obtain ⟨q, o, qA, qc, tA, tc, lA2, ln, lc2, rfl, hq0, d0, d1, d2, d3, d4W, rp, rt, hok⟩ := HG.out.at hxg
              have hto : tosG g x = g[x].to_ := tosG_at hxg
              obtain ⟨to_, hto_⟩ : ∃ l, l = g[x].to_ := ⟨_, rfl⟩
              obtain ⟨m, hm⟩ : ∃ m, m = to_.length := ⟨_, rfl⟩
              have hmb : m ≤ 1048576 := by rw [hm, hto_]; exact hok.2.2.1
              rw [← hto_] at hto d4W rt
              rw [← hm] at d4W rt
              have hmem : ∀ t ∈ to_, 0 ≤ t ∧ t < (bn : Int) := fun t ht => by rw [Hbn.out]; exact Hg.out x t (by rw [hto]; exact ht)
              have hstep : passR g wo (bn - x) x out = passR g wo (bn - (x + 1)) (x + 1) (stepX g wo out x) := by rw [show bn - x = (bn - (x + 1)) + 1 by omega, passR]
              have HP2 : Hid (iterP g wo (bn - (k + 1)) (passR g wo (bn - (x + 1)) (x + 1) (stepX g wo out x)) = res) := Lib.hid (by rw [← hstep]; exact HP.out)
              have Hm := Lib.hid hm
              have Hto := Lib.hid hto
              have Hrt := Lib.hid rt
              have Hmem := Lib.hid hmem
              have Hd4 := Lib.hid d4W
              have hqW : q < w.heap.size := by omega
              have hox : x < out.length := by rw [HN.out.2.2]; exact hltx
              obtain ⟨fin, hfin⟩ : ∃ fin, fin = stepX g wo out x := ⟨_, rfl⟩
              rw [← hfin] at HP2
              have Hfin := Lib.hid hfin
              clear hto hm rt hmem hto_ hstep HP hok rp d0 d1 d2 d3 d4W hq0 hfin hxg
              go_upto_region 12 with fail
              go_loopw [10] (fun u10 wr => ∃ (i : Nat) (out : List Bool), i ≤ m ∧ u10 = .int .i64 i ∧ x < out.length ∧ Hid ((if out.getD x false then (to_.drop i).foldl (setT wo) out else out) = fin) ∧ Hid (wr.heap[W.heap.size]? = some (.cells (boolsV out).toArray 4 (0, 0)) ∧ Below W.heap.size W wr ∧ out.length = bn)) (fun u10 _ => m - (intOf u10).toNat)
              case atStart => exact ⟨0, out, Nat.zero_le _, rfl, hox, Lib.hid (by rw [Hfin.out]; unfold stepX; rw [Hto.out]; rfl), HN⟩
              case round =>
                clear HN hox
                obtain ⟨i, out, hi, rfl, hox, HF, HN⟩ := hrel
                obtain ⟨hsr, hbr, hol⟩ := HN.out
                have h0r := (hbr.block w.heap.size (by have := HzW.out; omega)).trans H0W.out
                obtain ⟨x0, x1, x2, x3, x4, -⟩ := gr_five h0r
                have d4 := (hbr.cell (p := ⟨q, _, none⟩) (by have := HzW.out; show q < W.heap.size; omega)).trans ((HbW.out.cell (p := ⟨q, _, none⟩) (by show q < w.heap.size; exact hqW)).trans Hd4.out)
                have e0 : wr.cell? ⟨W.heap.size, x, none⟩ = some (.bool (out.getD x false)) := by
                  rw [Lib.cell_of_heap hsr x]
                  have := boolsV_at out x hox
                  simpa using this
                by_cases hlti : i < m
                · cases hqx : out.getD x false with
                  | false =>
                    rw [hqx] at e0
                    have hfe : out = fin := by have := HF.out; rw [hqx, if_neg (by simp)] at this; exact this
                    subst hfe
                    clear hsr hbr hol h0r hqx HF
                    go_wp2
                    go_roundw
                    case rel => exact ⟨x + 1, out, by omega, by go_num, HP2, HN⟩
                    case measure => simp [intOf]; omega
                  | true =>
                    rw [hqx] at e0
                    have hil : i < to_.length := by rw [← Hm.out]; exact hlti
                    have hf2 := HF.out
                    rw [hqx, if_pos rfl, List.drop_eq_getElem_cons hil, List.foldl_cons] at hf2
                    obtain ⟨b2, o2, rfl, hb2, hc2⟩ := (Hrt.out.keep (HbW.out.mono hn |>.trans (hbr.mono (by have := HzW.out; omega)))).at hil
                    obtain ⟨t0, t1⟩ := Hmem.out to_[i] (List.getElem_mem hil)
                    obtain ⟨t, ht⟩ : ∃ t : Nat, (t : Int) = to_[i] := ⟨to_[i].toNat, by omega⟩
                    rw [← ht] at hc2 t0 t1 hf2
                    have htn : t < bn := by omega
                    have hmono := setT_mono wo out (t : Int) x hqx
                    have hlen2 := setT_len wo out (t : Int)
                    have HF2 : Hid ((if (setT wo out (t : Int)).getD x false then (to_.drop (i + 1)).foldl (setT wo) (setT wo out (t : Int)) else setT wo out (t : Int)) = fin) := Lib.hid (by rw [hmono, if_pos rfl]; exact hf2)
                    cases hqt : ((t : Int) != wo) with
                    | false =>
                      have hst : setT wo out (t : Int) = out := by unfold setT; rw [if_pos (by simpa using hqt)]
                      rw [hst] at HF2
                      clear hsr hbr hol h0r hqx HF hf2 hmono hlen2 hst ht t0 t1 hb2 hil
                      go_wp2
                      go_roundw
                      case rel => exact ⟨i + 1, out, by omega, by go_num, hox, HF2, HN⟩
                      case measure => simp [intOf]; omega
                    | true =>
                      have hst : setT wo out (t : Int) = out.set t true := by unfold setT; rw [if_neg (by simpa using hqt), Int.toNat_natCast]
                      rw [hst] at HF2
                      have c0 : ∃ v, wr.cell? ⟨W.heap.size, t, none⟩ = some v := ⟨_, by rw [Lib.cell_of_heap hsr t]; simp [boolsV, hol, htn]; rfl⟩
                      obtain ⟨v0, c0⟩ := c0
                      have cf := Lib.frozen_of_heap hsr t
                      obtain ⟨Z, hZ⟩ : ∃ Z, Z = wr.setCell ⟨W.heap.size, t, none⟩ (.bool true) := ⟨_, rfl⟩
                      have hZs : Z.heap[W.heap.size]? = some (.cells (boolsV (out.set t true)).toArray 4 (0, 0)) := by
                        rw [hZ, gr_put hsr t]
                        simp only [List.setIfInBounds_toArray, boolsV_set]
                      have hZb : Below W.heap.size W Z := by rw [hZ]; exact hbr.setCell (p := ⟨W.heap.size, t, none⟩) (Nat.le_refl _) _
                      have HNZ := Lib.hid (And.intro hZs (And.intro hZb (show (out.set t true).length = bn by simpa using hol)))
                      have hox2 : x < (out.set t true).length := by simpa using hox
                      have HZ := Lib.hid hZ
                      clear hsr hbr hol h0r hqx HF hf2 hmono hlen2 hst ht t0 t1 hb2 hil hZ hZs hZb
                      go_upto_region 16 with fail
                      go_wp2
                      rw [← HZ.out]
                      go_wp2
                      go_roundw
                      case rel => exact ⟨i + 1, _, by omega, by go_num, hox2, HF2, HNZ⟩
                      case measure => simp [intOf]; omega
                · obtain rfl : i = m := by omega
                  have hfe : out = fin := by
                    have := HF.out
                    rw [Hm.out, List.drop_length] at this
                    simpa using this
                  subst hfe
                  clear hsr hbr hol h0r HF
                  go_wp2
                  go_roundw
                  case rel => exact ⟨x + 1, out, by omega, by go_num, HP2, HN⟩
                  case measure => simp [intOf]; omega
            · obtain rfl : x = bn := by omega
              have HN2 := Lib.hid (And.intro HN.out.1 (And.intro HN.out.2.1 (And.intro HN.out.2.2 (show iterP g wo (x - (k + 1)) out = res by have := HP.out; rw [Nat.sub_self] at this; exact this))))
              clear HP HN
              go_wp2
              go_roundw
              case rel => exact ⟨k + 1, out, by omega, by go_num, HN2⟩
              case measure => simp [intOf]; omega
        · obtain rfl : k = bn := by omega
          obtain ⟨hsr, hbr, hol, hir⟩ := HN.out
          rw [Nat.sub_self] at hir
          have hor : out = res := hir
          have HE := Lib.hid (And.intro hsr (And.intro hbr hol))
          have Hor := Lib.hid hor
          clear hsr hbr hol hir hor HN
          go_wp2
          go_ret
          refine ⟨_, rfl, ?_, HbW.out.trans (HE.out.2.1.mono (by have := HzW.out; omega))⟩
          rw [Hres.out, ← Hre.out, ← Hor.out, ← Hbn.out]
          exact full_own HE.out.1 (by simp [boolsV, HE.out.2.2]) (by have := HzW.out; omega) (by unfold maxLen; omega)
end Go.Proofs.Ytlejpoofgnenhaa
