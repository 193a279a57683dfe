/-
  The reference's From.
  From and Reach over plain data are the same ways, there and back.
  Reach's answer at the law's functions, by From's.
  How blocks are left, over plain data: what is left ahead of what.
-/
import Derived.Test.YtoplllebaagnnaaJd9
namespace Go.Proofs.Ytoplllebaagnnaa
set_option linter.unusedVariables false
set_option linter.unusedSimpArgs false
open Go.RowKit Go.Shelf

def setT (wo : Int) (out : List Bool) (t : Int) : List Bool := if t = wo then out else out.set t.toNat true
def stepX (g : List GB) (wo : Int) (out : List Bool) (x : Nat) : List Bool := if out.getD x false then (tosG g x).foldl (setT wo) out else out
/-- From block x on. -/
def passR (g : List GB) (wo : Int) : Nat → Nat → List Bool → List Bool
  | 0, _, out => out
  | k + 1, x, out => passR g wo k (x + 1) (stepX g wo out x)
def iterP (g : List GB) (wo : Int) : Nat → List Bool → List Bool
  | 0, out => out
  | k + 1, out => iterP g wo k (passR g wo g.length 0 out)
def fromP (g : List GB) (b wo : Int) : List Bool := if b = wo ∨ (g.length : Int) ≤ b then List.replicate g.length false else iterP g wo g.length ((List.replicate g.length false).set b.toNat true)
theorem setT_len (wo : Int) (out : List Bool) (t : Int) : (setT wo out t).length = out.length := by unfold setT; split <;> simp
theorem setT_mono (wo : Int) (out : List Bool) (t : Int) (c : Nat) (h : out.getD c false = true) : (setT wo out t).getD c false = true := by
  unfold setT
  split
  · exact h
  · by_cases e : t.toNat = c
    · by_cases hl : t.toNat < out.length
      · rw [e]; exact set_getD _ _ (by omega)
      · rw [List.set_eq_of_length_le (by omega)]; exact h
    · rw [set_getD_ne _ _ _ e]; exact h

set_option maxRecDepth 100000 in
set_option maxHeartbeats 16000000 in
theorem from_g (n0 : Nat) (f : Value) (g : List GB) (b wo : Int) (w : World) (hf : GF n0 w f g) (hn : n0 ≤ w.heap.size) (hg : tosOk g) (hb : 0 ≤ b) (hbi : InG b) (hwi : InG wo) :
    Calls Try.prog 30 #[f, .int .i64 b, .int .i64 wo] w fun e w' => ∃ v, e = .returned v ∧ w'.ownsRow w.heap.size 4 1 v g.length (boolsV (fromP g b wo)) ∧ Below w.heap.size w w' := by
  obtain ⟨s, pA, pn, pc, r, iA, in_, ic, bA, bn, bc, rfl, hG, hbn⟩ := hf
  obtain ⟨W, hW, hbW, hzW, h0W⟩ := gr_one w #[.string s, .slice pA pn pc, .int .i64 r, .slice iA in_ ic, .slice bA bn bc] 27
  obtain ⟨x0, x1, x2, x3, x4, -⟩ := gr_five h0W
  have hlen : bn ≤ 1048576 := by rw [hbn]; obtain ⟨_, _, _, h, _⟩ := hG; exact h
  obtain ⟨i0, hi0, hz0, hz1, hz2⟩ := info_parts infoBoolG
  have Hi := Lib.hid hi0
  have Hz0 := Lib.hid hz0
  have Hz1 := Lib.hid hz1
  have Hz2 := Lib.hid hz2
  have HG := Lib.hid hG
  have Hbn := Lib.hid hbn
  have HbW := Lib.hid hbW
  have HW := Lib.hid hW
  have HzW := Lib.hid hzW
  have H0W := Lib.hid h0W
  have Hg := Lib.hid hg
  have Hbi := Lib.hid hbi
  clear hi0 hz0 hz1 hz2 hbW hW hG hbn hzW h0W hg hbi
  go_enter Try.func30, Try.ntmps30
  go_upto_region 1 with fail
  rw [← HW.out]
  go_wp2_with (at_make; refine wpList_make_full _ rfl (.tmp 14) (.tmp 14) 33 rfl W.heap.size 4 i0 (.bool false) 1 Try.underlying33 Hi.out Hz0.out Hz1.out _ _ _ _ bn rfl rfl rfl rfl (by rw [Hz2.out]; omega) (by unfold maxLen; omega) (Nat.le_refl _) ?_)
  intro w2 ho2 hg2
  have hb2 : Below W.heap.size W w2 := (Below.refl _ _).grown hg2 (Nat.le_refl _) (fun k e => by cases e)
  rw [madeBool] at ho2
  have hs2 := own_full ho2
  have hsl : W.heap.size < w2.heap.size := gr_in hs2
  have Hb2 := Lib.hid hb2
  have Hs2 := Lib.hid hs2
  have H02 := Lib.hid ((hb2.block w.heap.size (by have := HzW.out; omega)).trans H0W.out)
  clear ho2 hg2 hb2 hs2 x0 x1 x2 x3 x4
  have hearly : ∀ res, res = List.replicate bn false → w2.ownsRow w.heap.size 4 1 (.slice (some ⟨W.heap.size, 0, none⟩) bn bn) bn (boolsV res) := fun res e => by
    rw [e]
    exact full_own Hs2.out (by simp [boolsV]) (by have := HzW.out; omega) (by unfold maxLen; omega)
  have Hearly := Lib.hid hearly
  clear hearly
  go_upto_region 2 with fail
  by_cases h1 : b = wo
  · have hres : fromP g b wo = List.replicate bn false := by unfold fromP; rw [if_pos (.inl h1), Hbn.out]
    subst h1
    have hq : (b == b) = true := by simp
    go_wp2
    go_ret
    refine ⟨_, rfl, ?_, HbW.out.trans (Hb2.out.mono (by have := HzW.out; omega))⟩
    rw [← Hbn.out]
    exact Hearly.out _ hres
  · have hq : (b == wo) = false := eqb_ne h1
    by_cases h2 : (bn : Int) ≤ b
    · have hres : fromP g b wo = List.replicate bn false := by unfold fromP; rw [if_pos (.inr (by rw [← Hbn.out]; exact h2)), Hbn.out]
      clear h1
      go_wp2
      go_ret
      refine ⟨_, rfl, ?_, HbW.out.trans (Hb2.out.mono (by have := HzW.out; omega))⟩
      rw [← Hbn.out]
      exact Hearly.out _ hres
    · have hres : fromP g b wo = iterP g wo bn ((List.replicate bn false).set b.toNat true) := by
        unfold fromP
        rw [if_neg (by rw [← Hbn.out]; intro h; rcases h with h | h; exact h1 h; exact h2 h), Hbn.out]
      obtain ⟨bb, hbb⟩ : ∃ bb : Nat, b = bb := ⟨b.toNat, by omega⟩
      subst hbb
      have hbb2 : bb < bn := by omega
      have Hres := Lib.hid hres
      rw [Int.toNat_natCast] at Hres
      clear hres h1 Hearly
      have c0 : w2.cell? ⟨W.heap.size, bb, none⟩ = some (.bool false) := by rw [Lib.cell_of_heap Hs2.out bb]; simp [boolsV, hbb2]
      have cf := Lib.frozen_of_heap Hs2.out bb
      obtain ⟨V, hV⟩ : ∃ V, V = w2.setCell ⟨W.heap.size, bb, none⟩ (.bool true) := ⟨_, rfl⟩
      have hVs : V.heap[W.heap.size]? = some (.cells (boolsV ((List.replicate bn false).set bb true)).toArray 4 (0, 0)) := by
        rw [hV, gr_put Hs2.out bb]
        simp only [List.setIfInBounds_toArray, boolsV_set]
      have hVb : Below W.heap.size W V := by rw [hV]; exact Hb2.out.setCell (p := ⟨W.heap.size, bb, none⟩) (Nat.le_refl _) _
      obtain ⟨res, hre⟩ : ∃ res, res = iterP g wo bn ((List.replicate bn false).set bb true) := ⟨_, rfl⟩
      have Hre := Lib.hid hre
      have HN0 : Hid (V.heap[W.heap.size]? = some (.cells (boolsV ((List.replicate bn false).set bb true)).toArray 4 (0, 0)) ∧ Below W.heap.size W V ∧ ((List.replicate bn false).set bb true).length = bn ∧ iterP g wo (bn - 0) ((List.replicate bn false).set bb true) = res) := Lib.hid ⟨hVs, hVb, by simp, by rw [hre]; rfl⟩
      have HV := Lib.hid hV
      clear hV hVs hVb hre h2
      go_upto_region 5 with fail
      rw [← HV.out]
      clear c0 cf
      go_upto_region 6 with fail
      go_loopw [8] (fun u8 wr => ∃ (k : Nat) (out : List Bool), k ≤ bn ∧ u8 = .int .i64 k ∧ Hid (wr.heap[W.heap.size]? = some (.cells (boolsV out).toArray 4 (0, 0)) ∧ Below W.heap.size W wr ∧ out.length = bn ∧ iterP g wo (bn - k) out = res)) (fun u8 _ => bn - (intOf u8).toNat)
      case atStart => exact ⟨0, _, Nat.zero_le _, rfl, HN0⟩
      case round =>
        clear HN0
        obtain ⟨k, out, hk, rfl, HN⟩ := hrel
        by_cases hltk : k < bn
        · have HP0 : Hid (iterP g wo (bn - (k + 1)) (passR g wo (bn - 0) 0 out) = res) := Lib.hid (by
            have := HN.out.2.2.2
            rw [show bn - k = (bn - (k + 1)) + 1 by omega, iterP, ← Hbn.out] at this
            exact this)
          have HN1 := Lib.hid (And.intro HN.out.1 (And.intro HN.out.2.1 HN.out.2.2.1))
          clear HN
          go_upto_region 9 with fail
          go_loopw [9] (fun u9 wr => ∃ (x : Nat) (out : List Bool), x ≤ bn ∧ u9 = .int .i64 x ∧ Hid (iterP g wo (bn - (k + 1)) (passR g wo (bn - x) x out) = res) ∧ Hid (wr.heap[W.heap.size]? = some (.cells (boolsV out).toArray 4 (0, 0)) ∧ Below W.heap.size W wr ∧ out.length = bn)) (fun u9 _ => bn - (intOf u9).toNat)
          case atStart => exact ⟨0, out, Nat.zero_le _, rfl, HP0, HN1⟩
          case round =>
            clear HP0 HN1
            obtain ⟨x, out, hx, rfl, HP, HN⟩ := hrel
            by_cases hltx : x < bn
            · have hxg : x < g.length := by rw [← Hbn.out]; exact hltx
              obtain ⟨q, o, qA, qc, tA, tc, lA2, ln, lc2, rfl, hq0, d0, d1, d2, d3, d4W, rp, rt, hok⟩ := HG.out.at hxg
              have hto : tosG g x = g[x].to_ := tosG_at hxg
              obtain ⟨to_, hto_⟩ : ∃ l, l = g[x].to_ := ⟨_, rfl⟩
              obtain ⟨m, hm⟩ : ∃ m, m = to_.length := ⟨_, rfl⟩
              have hmb : m ≤ 1048576 := by rw [hm, hto_]; exact hok.2.2.1
              rw [← hto_] at hto d4W rt
              rw [← hm] at d4W rt
              have hmem : ∀ t ∈ to_, 0 ≤ t ∧ t < (bn : Int) := fun t ht => by rw [Hbn.out]; exact Hg.out x t (by rw [hto]; exact ht)
              have hstep : passR g wo (bn - x) x out = passR g wo (bn - (x + 1)) (x + 1) (stepX g wo out x) := by rw [show bn - x = (bn - (x + 1)) + 1 by omega, passR]
              have HP2 : Hid (iterP g wo (bn - (k + 1)) (passR g wo (bn - (x + 1)) (x + 1) (stepX g wo out x)) = res) := Lib.hid (by rw [← hstep]; exact HP.out)
              have Hm := Lib.hid hm
              have Hto := Lib.hid hto
              have Hrt := Lib.hid rt
              have Hmem := Lib.hid hmem
              have Hd4 := Lib.hid d4W
              have hqW : q < w.heap.size := by omega
              have hox : x < out.length := by rw [HN.out.2.2]; exact hltx
              obtain ⟨fin, hfin⟩ : ∃ fin, fin = stepX g wo out x := ⟨_, rfl⟩
              rw [← hfin] at HP2
              have Hfin := Lib.hid hfin
              clear hto hm rt hmem hto_ hstep HP hok rp d0 d1 d2 d3 d4W hq0 hfin hxg
              go_upto_region 12 with fail
              go_loopw [10] (fun u10 wr => ∃ (i : Nat) (out : List Bool), i ≤ m ∧ u10 = .int .i64 i ∧ x < out.length ∧ Hid ((if out.getD x false then (to_.drop i).foldl (setT wo) out else out) = fin) ∧ Hid (wr.heap[W.heap.size]? = some (.cells (boolsV out).toArray 4 (0, 0)) ∧ Below W.heap.size W wr ∧ out.length = bn)) (fun u10 _ => m - (intOf u10).toNat)
              case atStart => exact ⟨0, out, Nat.zero_le _, rfl, hox, Lib.hid (by rw [Hfin.out]; unfold stepX; rw [Hto.out]; rfl), HN⟩
              case round =>
                clear HN hox
                obtain ⟨i, out, hi, rfl, hox, HF, HN⟩ := hrel
                obtain ⟨hsr, hbr, hol⟩ := HN.out
                have h0r := (hbr.block w.heap.size (by have := HzW.out; omega)).trans H0W.out
                obtain ⟨x0, x1, x2, x3, x4, -⟩ := gr_five h0r
                have d4 := (hbr.cell (p := ⟨q, _, none⟩) (by have := HzW.out; show q < W.heap.size; omega)).trans ((HbW.out.cell (p := ⟨q, _, none⟩) (by show q < w.heap.size; exact hqW)).trans Hd4.out)
                have e0 : wr.cell? ⟨W.heap.size, x, none⟩ = some (.bool (out.getD x false)) := by
                  rw [Lib.cell_of_heap hsr x]
                  have := boolsV_at out x hox
                  simpa using this
                by_cases hlti : i < m
                · cases hqx : out.getD x false with
                  | false =>
                    rw [hqx] at e0
                    have hfe : out = fin := by have := HF.out; rw [hqx, if_neg (by simp)] at this; exact this
                    subst hfe
                    clear hsr hbr hol h0r hqx HF
                    go_wp2
                    go_roundw
                    case rel => exact ⟨x + 1, out, by omega, by go_num, HP2, HN⟩
                    case measure => simp [intOf]; omega
                  | true =>
                    rw [hqx] at e0
                    have hil : i < to_.length := by rw [← Hm.out]; exact hlti
                    have hf2 := HF.out
                    rw [hqx, if_pos rfl, List.drop_eq_getElem_cons hil, List.foldl_cons] at hf2
                    obtain ⟨b2, o2, rfl, hb2, hc2⟩ := (Hrt.out.keep (HbW.out.mono hn |>.trans (hbr.mono (by have := HzW.out; omega)))).at hil
                    obtain ⟨t0, t1⟩ := Hmem.out to_[i] (List.getElem_mem hil)
                    obtain ⟨t, ht⟩ : ∃ t : Nat, (t : Int) = to_[i] := ⟨to_[i].toNat, by omega⟩
                    rw [← ht] at hc2 t0 t1 hf2
                    have htn : t < bn := by omega
                    have hmono := setT_mono wo out (t : Int) x hqx
                    have hlen2 := setT_len wo out (t : Int)
                    have HF2 : Hid ((if (setT wo out (t : Int)).getD x false then (to_.drop (i + 1)).foldl (setT wo) (setT wo out (t : Int)) else setT wo out (t : Int)) = fin) := Lib.hid (by rw [hmono, if_pos rfl]; exact hf2)
                    cases hqt : ((t : Int) != wo) with
                    | false =>
                      have hst : setT wo out (t : Int) = out := by unfold setT; rw [if_pos (by simpa using hqt)]
                      rw [hst] at HF2
                      clear hsr hbr hol h0r hqx HF hf2 hmono hlen2 hst ht t0 t1 hb2 hil
                      go_wp2
                      go_roundw
                      case rel => exact ⟨i + 1, out, by omega, by go_num, hox, HF2, HN⟩
                      case measure => simp [intOf]; omega
                    | true =>
                      have hst : setT wo out (t : Int) = out.set t true := by unfold setT; rw [if_neg (by simpa using hqt), Int.toNat_natCast]
                      rw [hst] at HF2
                      have c0 : ∃ v, wr.cell? ⟨W.heap.size, t, none⟩ = some v := ⟨_, by rw [Lib.cell_of_heap hsr t]; simp [boolsV, hol, htn]; rfl⟩
                      obtain ⟨v0, c0⟩ := c0
                      have cf := Lib.frozen_of_heap hsr t
                      obtain ⟨Z, hZ⟩ : ∃ Z, Z = wr.setCell ⟨W.heap.size, t, none⟩ (.bool true) := ⟨_, rfl⟩
                      have hZs : Z.heap[W.heap.size]? = some (.cells (boolsV (out.set t true)).toArray 4 (0, 0)) := by
                        rw [hZ, gr_put hsr t]
                        simp only [List.setIfInBounds_toArray, boolsV_set]
                      have hZb : Below W.heap.size W Z := by rw [hZ]; exact hbr.setCell (p := ⟨W.heap.size, t, none⟩) (Nat.le_refl _) _
                      have HNZ := Lib.hid (And.intro hZs (And.intro hZb (show (out.set t true).length = bn by simpa using hol)))
                      have hox2 : x < (out.set t true).length := by simpa using hox
                      have HZ := Lib.hid hZ
                      clear hsr hbr hol h0r hqx HF hf2 hmono hlen2 hst ht t0 t1 hb2 hil hZ hZs hZb
                      go_upto_region 16 with fail
                      go_wp2
                      rw [← HZ.out]
                      go_wp2
                      go_roundw
                      case rel => exact ⟨i + 1, _, by omega, by go_num, hox2, HF2, HNZ⟩
                      case measure => simp [intOf]; omega
                · obtain rfl : i = m := by omega
                  have hfe : out = fin := by
                    have := HF.out
                    rw [Hm.out, List.drop_length] at this
                    simpa using this
                  subst hfe
                  clear hsr hbr hol h0r HF
                  go_wp2
                  go_roundw
                  case rel => exact ⟨x + 1, out, by omega, by go_num, HP2, HN⟩
                  case measure => simp [intOf]; omega
            · obtain rfl : x = bn := by omega
              have HN2 := Lib.hid (And.intro HN.out.1 (And.intro HN.out.2.1 (And.intro HN.out.2.2 (show iterP g wo (x - (k + 1)) out = res by have := HP.out; rw [Nat.sub_self] at this; exact this))))
              clear HP HN
              go_wp2
              go_roundw
              case rel => exact ⟨k + 1, out, by omega, by go_num, HN2⟩
              case measure => simp [intOf]; omega
        · obtain rfl : k = bn := by omega
          obtain ⟨hsr, hbr, hol, hir⟩ := HN.out
          rw [Nat.sub_self] at hir
          have hor : out = res := hir
          have HE := Lib.hid (And.intro hsr (And.intro hbr hol))
          have Hor := Lib.hid hor
          clear hsr hbr hol hir hor HN
          go_wp2
          go_ret
          refine ⟨_, rfl, ?_, HbW.out.trans (HE.out.2.1.mono (by have := HzW.out; omega))⟩
          rw [Hres.out, ← Hre.out, ← Hor.out, ← Hbn.out]
          exact full_own HE.out.1 (by simp [boolsV, HE.out.2.2]) (by have := HzW.out; omega) (by unfold maxLen; omega)
end Go.Proofs.Ytoplllebaagnnaa
namespace Go.Proofs.Ytoplllebaagnnaa
set_option linter.unusedVariables false
set_option linter.unusedSimpArgs false
open Go.RowKit Go.Shelf

/-- To which one comes from b, without wo. -/
inductive FR (g : List GB) (wo : Int) (b : Nat) : Nat → Prop
  | here : FR g wo b b
  | step (x : Nat) (t : Int) : FR g wo b x → t ∈ tosG g x → t ≠ wo → FR g wo b t.toNat
theorem FR.head {g : List GB} {wo : Int} {x b c : Nat} (ht : (b : Int) ∈ tosG g x) (hw : (b : Int) ≠ wo) (h : FR g wo b c) : FR g wo x c := by
  induction h with
  | here =>
    have := FR.step x (b : Int) (FR.here (g := g) (wo := wo) (b := x)) ht hw
    simpa using this
  | step y t _ h1 h2 ih => exact FR.step y t ih h1 h2
theorem FR.trans {g : List GB} {wo : Int} {a b c : Nat} (h : FR g wo a b) (k : FR g wo b c) : FR g wo a c := by
  induction k with
  | here => exact h
  | step y t _ h1 h2 ih => exact FR.step y t ih h1 h2
/-- Marks: of the same length, and whatever was marked is. -/
def Leq (s s' : List Bool) : Prop := s'.length = s.length ∧ ∀ c, s.getD c false = true → s'.getD c false = true
theorem Leq.refl (s : List Bool) : Leq s s := ⟨rfl, fun _ h => h⟩
theorem Leq.trans {a b c : List Bool} (h : Leq a b) (k : Leq b c) : Leq a c := ⟨k.1.trans h.1, fun x hx => k.2 x (h.2 x hx)⟩
theorem setT_leq (wo : Int) (out : List Bool) (t : Int) : Leq out (setT wo out t) := ⟨setT_len wo out t, fun c h => setT_mono wo out t c h⟩
theorem fold_leq (wo : Int) : ∀ (l : List Int) (out : List Bool), Leq out (l.foldl (setT wo) out)
  | [], out => Leq.refl out
  | t :: l, out => (setT_leq wo out t).trans (fold_leq wo l _)
theorem fold_has (wo : Int) : ∀ (l : List Int) (out : List Bool), ∀ t ∈ l, t ≠ wo → 0 ≤ t → t < out.length → (l.foldl (setT wo) out).getD t.toNat false = true
  | [], _, t, ht, _, _, _ => by cases ht
  | x :: l, out, t, ht, hw, h0, h1 => by
    rw [List.foldl_cons]
    rcases List.mem_cons.1 ht with rfl | ht
    · refine (fold_leq wo l _).2 _ ?_
      unfold setT
      rw [if_neg hw]
      exact set_getD _ _ (by omega)
    · exact fold_has wo l _ t ht hw h0 (by rw [setT_len]; exact h1)
theorem stepX_leq (g : List GB) (wo : Int) (out : List Bool) (x : Nat) : Leq out (stepX g wo out x) := by
  unfold stepX
  split
  · exact fold_leq wo _ _
  · exact Leq.refl _
theorem passR_leq (g : List GB) (wo : Int) : ∀ (k x : Nat) (out : List Bool), Leq out (passR g wo k x out)
  | 0, _, out => Leq.refl out
  | k + 1, x, out => (stepX_leq g wo out x).trans (passR_leq g wo k (x + 1) _)
/-- A pass looks at all that was marked. -/
theorem passR_has (g : List GB) (wo : Int) (hg : tosOk g) : ∀ (k x : Nat) (out : List Bool), out.length = g.length → ∀ y, x ≤ y → y < x + k → out.getD y false = true → ∀ t ∈ tosG g y, t ≠ wo → (passR g wo k x out).getD t.toNat false = true
  | 0, x, out, _, y, h1, h2, _, _, _, _ => by omega
  | k + 1, x, out, hl, y, h1, h2, hy, t, ht, hw => by
    rw [passR]
    have hin := hg y t ht
    by_cases e : y = x
    · subst e
      refine (passR_leq g wo k (y + 1) _).2 _ ?_
      unfold stepX
      rw [hy, if_pos rfl]
      exact fold_has wo _ _ t ht hw hin.1 (by rw [hl]; exact hin.2)
    · exact passR_has g wo hg k (x + 1) _ (by rw [(stepX_leq g wo out x).1]; exact hl) y (by omega) (by omega) ((stepX_leq g wo out x).2 y hy) t ht hw
theorem leq_unseen : ∀ (s s' : List Bool), Leq s s' → unseen s' ≤ unseen s ∧ (unseen s' = unseen s → s' = s)
  | [], s', h => by
    have : s' = [] := List.length_eq_zero_iff.1 h.1
    subst this
    exact ⟨Nat.le_refl _, fun _ => rfl⟩
  | a :: s, [], h => by have := h.1; simp at this
  | a :: s, b :: s', h => by
    have hl : Leq s s' := ⟨by have := h.1; simpa using this, fun c hc => by have := h.2 (c + 1) (by simpa [List.getD] using hc); simpa [List.getD] using this⟩
    obtain ⟨h1, h2⟩ := leq_unseen s s' hl
    have h0 : a = true → b = true := fun e => by have := h.2 0 (by simp [List.getD, e]); simpa [List.getD] using this
    cases a <;> cases b <;> simp [unseen] at h0 h1 h2 ⊢
    · exact ⟨h1, h2⟩
    · have := h1; omega
    · exact ⟨h1, h2⟩
def Clo (g : List GB) (wo : Int) (out : List Bool) : Prop := ∀ y, y < g.length → out.getD y false = true → ∀ t ∈ tosG g y, t ≠ wo → out.getD t.toNat false = true
theorem iterP_leq (g : List GB) (wo : Int) : ∀ (k : Nat) (out : List Bool), Leq out (iterP g wo k out)
  | 0, out => Leq.refl out
  | k + 1, out => (passR_leq g wo _ _ out).trans (iterP_leq g wo k _)
theorem iterP_clo (g : List GB) (wo : Int) (hg : tosOk g) : ∀ (k : Nat) (out : List Bool), out.length = g.length → unseen out < k ∨ Clo g wo out → Clo g wo (iterP g wo k out)
  | 0, out, _, h => by
    rcases h with h | h
    · omega
    · exact h
  | k + 1, out, hl, h => by
    rw [iterP]
    have hle := passR_leq g wo g.length 0 out
    have hlen : (passR g wo g.length 0 out).length = g.length := by rw [hle.1]; exact hl
    refine iterP_clo g wo hg k _ hlen ?_
    obtain ⟨h1, h2⟩ := leq_unseen _ _ hle
    by_cases e : unseen (passR g wo g.length 0 out) = unseen out
    · right
      rw [h2 e]
      intro y hy hm t ht hw
      have := passR_has g wo hg g.length 0 out hl y (Nat.zero_le _) (by omega) hm t ht hw
      rw [h2 e] at this
      exact this
    · rcases h with h | h
      · left; omega
      · right
        intro y hy hm t ht hw
        -- closed already: a pass changes nothing
        exfalso
        refine e ?_
        have hstep : ∀ (l : List Int) (o : List Bool), (∀ t ∈ l, t ≠ wo → o.getD t.toNat false = true) → (∀ t ∈ l, 0 ≤ t ∧ t < o.length) → l.foldl (setT wo) o = o := by
          intro l
          induction l with
          | nil => intro o _ _; rfl
          | cons x l ih =>
            intro o ho hr
            have hx : setT wo o x = o := by
              unfold setT
              split
              · rfl
              · next hne =>
                have h3 := ho x (by simp) hne
                have h4 := hr x (by simp)
                apply List.ext_getElem?
                intro j
                rw [List.getElem?_set]
                by_cases hj : x.toNat = j
                · subst hj
                  have : x.toNat < o.length := by omega
                  rw [if_pos rfl, if_pos this, List.getElem?_eq_getElem this]
                  simp [List.getD, this] at h3
                  rw [h3]
                · rw [if_neg hj]
            rw [List.foldl_cons, hx]
            exact ih o (fun t ht => ho t (List.mem_cons_of_mem _ ht)) (fun t ht => hr t (List.mem_cons_of_mem _ ht))
        have hpass : ∀ (k x : Nat), passR g wo k x out = out := by
          intro k
          induction k with
          | zero => intro x; rfl
          | succ k ih =>
            intro x
            rw [passR]
            have : stepX g wo out x = out := by
              unfold stepX
              split
              · next hq =>
                by_cases hx : x < g.length
                · exact hstep _ _ (fun t ht hw => h x hx hq t ht hw) (fun t ht => by rw [hl]; exact hg x t ht)
                · have : tosG g x = [] := by unfold tosG; rw [List.getElem?_eq_none (by omega)]; rfl
                  rw [this]; rfl
              · rfl
            rw [this]
            exact ih (x + 1)
        rw [hpass]
theorem setT_sound {g : List GB} {wo : Int} {b x : Nat} (hx : FR g wo b x) : ∀ (l : List Int) (out : List Bool), (∀ t ∈ l, t ∈ tosG g x) → (∀ c, out.getD c false = true → FR g wo b c) → ∀ c, (l.foldl (setT wo) out).getD c false = true → FR g wo b c
  | [], _, _, h, c, hc => h c hc
  | t :: l, out, hl, h, c, hc => by
    rw [List.foldl_cons] at hc
    refine setT_sound hx l _ (fun y hy => hl y (List.mem_cons_of_mem _ hy)) (fun d hd => ?_) c hc
    unfold setT at hd
    split at hd
    · exact h d hd
    · next hne =>
      by_cases e : t.toNat = d
      · rw [← e]; exact FR.step x t hx (hl t (by simp)) hne
      · rw [set_getD_ne _ _ _ e] at hd; exact h d hd
theorem passR_sound {g : List GB} {wo : Int} {b : Nat} : ∀ (k x : Nat) (out : List Bool), (∀ c, out.getD c false = true → FR g wo b c) → ∀ c, (passR g wo k x out).getD c false = true → FR g wo b c
  | 0, _, _, h => h
  | k + 1, x, out, h => by
    rw [passR]
    refine passR_sound k (x + 1) _ (fun c hc => ?_)
    unfold stepX at hc
    split at hc
    · next hq => exact setT_sound (h x hq) _ _ (fun t ht => ht) h c hc
    · exact h c hc
theorem iterP_sound {g : List GB} {wo : Int} {b : Nat} : ∀ (k : Nat) (out : List Bool), (∀ c, out.getD c false = true → FR g wo b c) → ∀ c, (iterP g wo k out).getD c false = true → FR g wo b c
  | 0, _, h => h
  | k + 1, out, h => by rw [iterP]; exact iterP_sound k _ (passR_sound _ _ _ h)
theorem fromP_spec {g : List GB} (hg : tosOk g) {b : Nat} {wo : Int} (hb : b < g.length) (hw : (b : Int) ≠ wo) (c : Nat) : (fromP g (b : Int) wo).getD c false = true ↔ FR g wo b c := by
  unfold fromP
  rw [if_neg (by omega), Int.toNat_natCast]
  have hl : ((List.replicate g.length false).set b true).length = g.length := by simp
  have hbs : ((List.replicate g.length false).set b true).getD b false = true := set_getD _ _ (by simpa using hb)
  constructor
  · refine iterP_sound _ _ (fun c hc => ?_) c
    by_cases e : b = c
    · subst e; exact FR.here
    · rw [set_getD_ne _ _ _ e] at hc
      have : (List.replicate g.length false).getD c false = false := by simp [List.getD, List.getElem?_replicate]; split <;> rfl
      rw [this] at hc; cases hc
  · intro h
    have hun : unseen ((List.replicate g.length false).set b true) < g.length := by
      have h1 := unseen_set (List.replicate g.length false) b (by simpa using hb) (by simp [List.getD, hb])
      have h2 := unseen_le (List.replicate g.length false)
      simp at h2
      omega
    have hc := iterP_clo g wo hg g.length _ hl (.inl hun)
    have hle := iterP_leq g wo g.length ((List.replicate g.length false).set b true)
    induction h with
    | here => exact hle.2 b hbs
    | step x t hx ht hne ih =>
      have hxl : x < g.length := by
        rcases Nat.lt_or_ge x g.length with h | h
        · exact h
        · have : tosG g x = [] := by unfold tosG; rw [List.getElem?_eq_none h]; rfl
          rw [this] at ht; cases ht
      exact hc x hxl ih t ht hne
end Go.Proofs.Ytoplllebaagnnaa
namespace Go.Proofs.Ytoplllebaagnnaa
set_option linter.unusedVariables false
set_option linter.unusedSimpArgs false
open Go.RowKit Go.Shelf

theorem edgesG_mem : ∀ (ts : List (List Int)) (i a : Nat) (x : Int), (a, x) ∈ edgesG i ts ↔ i ≤ a ∧ ∃ t, ts[a - i]? = some t ∧ x ∈ t
  | [], i, a, x => by simp [edgesG]
  | t :: ts, i, a, x => by
    rw [edgesG, List.mem_append, edgesG_mem ts (i + 1) a x]
    constructor
    · rintro (h | ⟨h, u, hu, hx⟩)
      · obtain ⟨y, hy, e⟩ := List.mem_map.1 h
        injection e with e1 e2
        subst e1 e2
        exact ⟨Nat.le_refl _, t, by simp, hy⟩
      · refine ⟨by omega, u, ?_, hx⟩
        rw [show a - i = (a - (i + 1)) + 1 by omega, List.getElem?_cons_succ]
        exact hu
    · rintro ⟨h, u, hu, hx⟩
      by_cases e : a = i
      · subst e
        rw [Nat.sub_self, List.getElem?_cons_zero] at hu
        injection hu with hu
        subst hu
        exact .inl (List.mem_map.2 ⟨x, hx, rfl⟩)
      · refine .inr ⟨by omega, u, ?_, hx⟩
        rw [show a - i = (a - (i + 1)) + 1 by omega, List.getElem?_cons_succ] at hu
        exact hu
theorem predsG_mem (E : List (Nat × Int)) (j : Nat) (p : Int) : p ∈ predsG E j ↔ ∃ a : Nat, p = (a : Int) ∧ (a, (j : Int)) ∈ E := by
  unfold predsG
  rw [List.mem_map]
  constructor
  · rintro ⟨⟨a, x⟩, he, rfl⟩
    obtain ⟨h1, h2⟩ := List.mem_filter.1 he
    have : x = (j : Int) := by simpa using h2
    subst this
    exact ⟨a, rfl, h1⟩
  · rintro ⟨a, rfl, h⟩
    exact ⟨(a, (j : Int)), List.mem_filter.2 ⟨h, by simp⟩, rfl⟩
theorem graphP_len (l : List (Int × Int)) (whole : Bool) : (graphP l whole).length = min l.length 14 := by
  unfold graphP mkG
  rw [List.length_mapIdx, endsG_len]
theorem tosL_len (l : List (Int × Int)) : (tosL l).length = min l.length 14 := by
  unfold tosL
  rw [List.length_map, endsG_len]
theorem tosG_graphP (l : List (Int × Int)) (b : Nat) : tosG (graphP l true) b = ((tosL l)[b]?).getD [] := by
  unfold tosG graphP mkG tosL
  rw [List.getElem?_mapIdx, List.getElem?_map]
  cases (endsG l true)[b]? <;> rfl
theorem bkG_graphP (l : List (Int × Int)) (b : Nat) (hb : b < (graphP l true).length) : bkG (graphP l true) b = (predsG (edgesG 0 (tosL l)) b).filter (hasG (graphP l true).length) := by
  have hb2 : b < (endsG l true).length := by rw [endsG_len]; rw [graphP_len] at hb; exact hb
  unfold bkG
  congr 1
  conv => lhs; unfold graphP mkG
  rw [List.getElem?_mapIdx, List.getElem?_eq_getElem hb2]
  rfl
/-- Who comes to a block are those that go to it. -/
theorem bk_tos (l : List (Int × Int)) (b : Nat) (hb : b < (graphP l true).length) (x : Int) : x ∈ bkG (graphP l true) b ↔ ∃ a : Nat, x = (a : Int) ∧ (b : Int) ∈ tosG (graphP l true) a := by
  rw [bkG_graphP l b hb, List.mem_filter, predsG_mem]
  constructor
  · rintro ⟨⟨a, rfl, he⟩, h2⟩
    obtain ⟨-, t, ht, hx⟩ := (edgesG_mem _ _ _ _).1 he
    refine ⟨a, rfl, ?_⟩
    rw [tosG_graphP, show (tosL l)[a]? = some t from ht]
    exact hx
  · rintro ⟨a, rfl, hx⟩
    rw [tosG_graphP] at hx
    cases ht : (tosL l)[a]? with
    | none => rw [ht] at hx; cases hx
    | some t =>
      rw [ht] at hx
      refine ⟨⟨a, rfl, (edgesG_mem _ _ _ _).2 ⟨Nat.zero_le _, t, ht, hx⟩⟩, ?_⟩
      have := (List.getElem?_eq_some_iff.1 ht).1
      rw [tosL_len] at this
      unfold hasG
      rw [graphP_len]
      exact decide_eq_true ⟨by omega, by omega⟩
theorem tosOk_graphP {l : List (Int × Int)} (hin : ∀ x ∈ l, InG x.1 ∧ InG x.2) : tosOk (graphP l true) := by
  intro b t ht
  rw [tosG_graphP] at ht
  cases hq : (tosL l)[b]? with
  | none => rw [hq] at ht; cases ht
  | some u =>
    rw [hq] at ht
    have hm : u ∈ tosL l := List.mem_of_getElem? hq
    unfold tosL at hm
    obtain ⟨e, he, rfl⟩ := List.mem_map.1 hm
    rw [graphP_len]
    exact (endsG_ok hin e he).2.2 rfl t ht
theorem wholeG_graphP {l : List (Int × Int)} (hin : ∀ x ∈ l, InG x.1 ∧ InG x.2) (hl : 0 < (graphP l true).length) : wholeG (graphP l true) = true := by
  rw [wholeG_true, decide_eq_true hl]
  intro j d hj hd t ht
  have := tosOk_graphP hin j t (by unfold tosG; rw [hd]; exact ht)
  exact decide_eq_true this

theorem RB.shut {bk : Nat → List Int} {sh : List Bool} {to_ c : Nat} (h : RB bk sh to_ c) : sh.getD to_ false = false ∧ sh.getD c false = false := by
  induction h with
  | here h => exact ⟨h, h⟩
  | back b x _ _ h ih => exact ⟨ih.1, h⟩
theorem rep_getD (n c : Nat) : (List.replicate n false).getD c false = false := by
  simp [List.getD, List.getElem?_replicate]
  split <;> rfl
theorem shutG_at (n c : Nat) (wo : Int) (hc : c < n) : (shutG n wo).getD c false = decide ((c : Int) = wo) := by
  unfold shutG
  cases hq : hasG n wo with
  | true =>
    obtain ⟨p0, p1⟩ : 0 ≤ wo ∧ wo < n := of_decide_eq_true hq
    rw [if_pos rfl]
    by_cases e : wo.toNat = c
    · rw [e, set_getD _ _ (by simpa using hc)]
      exact (decide_eq_true (by omega)).symm
    · rw [set_getD_ne _ _ _ e, rep_getD]
      exact (decide_eq_false (by omega)).symm
  | false =>
    rw [if_neg (by simp), rep_getD]
    have : ¬ (0 ≤ wo ∧ wo < n) := of_decide_eq_false hq
    exact (decide_eq_false (by omega)).symm
theorem markP_has : ∀ (xs : List Nat) (l : List Bool) (c : Nat), c < l.length → ((markP l xs).getD c false = true ↔ (l.getD c false = true ∨ c ∈ xs))
  | [], l, c, _ => by simp [markP]
  | x :: xs, l, c, hc => by
    have h := markP_has xs (l.set x true) c (by simpa using hc)
    rw [show markP l (x :: xs) = markP (l.set x true) xs from rfl, h, List.mem_cons]
    by_cases e : x = c
    · subst e
      exact ⟨fun _ => .inr (.inl rfl), fun _ => .inl (set_getD _ _ hc)⟩
    · rw [set_getD_ne _ _ _ e]
      constructor
      · rintro (h | h)
        · exact .inl h
        · exact .inr (.inr h)
      · rintro (h | h | h)
        · exact .inl h
        · exact absurd h.symm e
        · exact .inr h
theorem FR.off {g : List GB} {wo : Int} {b c : Nat} (hg : tosOk g) (hb : (b : Int) ≠ wo) (h : FR g wo b c) : (c : Int) ≠ wo := by
  induction h with
  | here => exact hb
  | step x t _ ht hw _ => have := hg x t ht; omega
theorem FR.lt {g : List GB} {wo : Int} {b c : Nat} (hg : tosOk g) (hb : b < g.length) (h : FR g wo b c) : c < g.length := by
  induction h with
  | here => exact hb
  | step x t _ ht hw _ => have := hg x t ht; omega
/-- From which one comes to a block, and to which one comes from a block. -/
theorem rb_fr {l : List (Int × Int)} (hin : ∀ x ∈ l, InG x.1 ∧ InG x.2) {to_ b : Nat} {wo : Int} (ht : to_ < (graphP l true).length) (hb : b < (graphP l true).length) (htw : (to_ : Int) ≠ wo) (hbw : (b : Int) ≠ wo) :
    RB (bkG (graphP l true)) (shutG (graphP l true).length wo) to_ b ↔ FR (graphP l true) wo b to_ := by
  have hg := tosOk_graphP hin
  constructor
  · intro h
    have : ∀ c, RB (bkG (graphP l true)) (shutG (graphP l true).length wo) to_ c → c < (graphP l true).length ∧ (c : Int) ≠ wo ∧ FR (graphP l true) wo c to_ := by
      intro c hc
      induction hc with
      | here _ => exact ⟨ht, htw, FR.here⟩
      | back d x _ hx hs ih =>
        obtain ⟨hd, hdw, hf⟩ := ih
        obtain ⟨a, rfl, hm⟩ := (bk_tos l d hd x).1 hx
        have ha := bkG_in _ d hd _ hx
        rw [Int.toNat_natCast] at hs ⊢
        have ha2 : a < (graphP l true).length := by omega
        rw [shutG_at _ _ _ ha2] at hs
        exact ⟨ha2, of_decide_eq_false hs, FR.head hm hdw hf⟩
    exact (this b h).2.2
  · intro h
    have : ∀ c, FR (graphP l true) wo b c → RB (bkG (graphP l true)) (shutG (graphP l true).length wo) to_ c → RB (bkG (graphP l true)) (shutG (graphP l true).length wo) to_ b := by
      intro c hc
      induction hc with
      | here => exact id
      | step x t hx hm hw ih =>
        intro hr
        have hi := hg x t hm
        have hxl := hx.lt hg hb
        have hxo := hx.off hg hbw
        have hx2 : ((x : Nat) : Int) ∈ bkG (graphP l true) t.toNat := (bk_tos l t.toNat (by omega) _).2 ⟨x, rfl, by rw [show ((t.toNat : Nat) : Int) = t by omega]; exact hm⟩
        have := RB.back t.toNat (x : Int) hr hx2 (by rw [Int.toNat_natCast, shutG_at _ _ _ hxl]; exact decide_eq_false hxo)
        rw [Int.toNat_natCast] at this
        exact ih this
    exact this to_ h (RB.here (by rw [shutG_at _ _ _ ht]; exact decide_eq_false htw))
theorem reachP_len (g : List GB) (to_ wo : Int) : (reachP g to_ wo).length = g.length := by
  unfold reachP
  split
  · rw [markP_len]; simp
  · simp
/-- What the law asks of Reach. -/
theorem reach_spec {l : List (Int × Int)} (hin : ∀ x ∈ l, InG x.1 ∧ InG x.2) {to_ wo : Int} {b : Nat} (hb : b < (graphP l true).length) :
    (reachP (graphP l true) to_ wo).getD b false = (decide (0 ≤ to_ ∧ to_ < ((graphP l true).length : Int) ∧ to_ ≠ wo ∧ (b : Int) ≠ wo) && (fromP (graphP l true) (b : Int) wo).getD to_.toNat false) := by
  have hg := tosOk_graphP hin
  have hw := wholeG_graphP hin (by omega)
  unfold reachP
  rw [hw, Bool.true_and]
  cases hq : hasG (graphP l true).length to_ with
  | false =>
    have hn : ¬ (0 ≤ to_ ∧ to_ < ((graphP l true).length : Int)) := of_decide_eq_false hq
    rw [if_neg (by simp), rep_getD, decide_eq_false (by omega), Bool.false_and]
  | true =>
    obtain ⟨p0, p1⟩ : 0 ≤ to_ ∧ to_ < ((graphP l true).length : Int) := of_decide_eq_true hq
    have ht : to_.toNat < (graphP l true).length := by omega
    rw [if_pos rfl]
    have hsp := srcP_spec (bk := bkG (graphP l true)) (n := (graphP l true).length) (sh := shutG (graphP l true).length wo) (b := to_.toNat) (bkG_in _) (shutG_len _ _) ht
    rw [Bool.eq_iff_iff, markP_has _ _ _ (by simpa using hb), rep_getD, Bool.and_eq_true, decide_eq_true_iff, hsp.1]
    simp only [Bool.false_eq_true, false_or]
    constructor
    · intro h
      have h2 := h.shut
      rw [shutG_at _ _ _ ht, shutG_at _ _ _ hb] at h2
      have e1 : ((to_.toNat : Nat) : Int) ≠ wo := of_decide_eq_false h2.1
      have e2 : (b : Int) ≠ wo := of_decide_eq_false h2.2
      exact ⟨⟨p0, p1, by omega, e2⟩, (fromP_spec hg hb e2 _).2 ((rb_fr hin ht hb e1 e2).1 h)⟩
    · rintro ⟨⟨-, -, e1, e2⟩, h⟩
      exact (rb_fr hin ht hb (by omega) e2).2 ((fromP_spec hg hb e2 _).1 h)
theorem fromP_len (g : List GB) (b wo : Int) : (fromP g b wo).length = g.length := by
  unfold fromP
  split
  · simp
  · rw [(iterP_leq g wo _ _).1]; simp
end Go.Proofs.Ytoplllebaagnnaa
namespace Go.Proofs.Ytoplllebaagnnaa
set_option linter.unusedVariables false
set_option linter.unusedSimpArgs false
open Go.RowKit Go.Shelf

/-- One comes from a to b. -/
abbrev RR (g : List GB) (a b : Nat) : Prop := FR g (-1) a b
theorem rr_edge {g : List GB} (hg : tosOk g) {a : Nat} {t : Int} (ht : t ∈ tosG g a) : RR g a t.toNat := FR.step a t FR.here ht (by have := hg a t ht; omega)
/-- While blocks are left: what is left was entered, what it leads to too; what it leads to without a way back is left ahead of it. -/
structure DI (g : List GB) (s : List Bool) (o : List Nat) : Prop where
  len : s.length = g.length
  sub : ∀ c ∈ o, s.getD c false = true
  cl : ∀ u ∈ o, ∀ t ∈ tosG g u, s.getD t.toNat false = true
  q : ∀ l1 u l2, o = l1 ++ u :: l2 → ∀ t ∈ tosG g u, ¬ RR g t.toNat u → ∀ z, RR g t.toNat z → z ∈ l1
  nd : o.Nodup
/-- What one walk does. -/
structure DO (g : List GB) (b : Nat) (s : List Bool) (o : List Nat) (s' : List Bool) (o' : List Nat) : Prop where
  di : DI g s' o'
  mono : ∀ c, s.getD c false = true → s'.getD c false = true
  fin : ∀ c, s'.getD c false = true → c ∈ o' ∨ s.getD c false = true
  sup : ∀ c ∈ o, c ∈ o'
  new : ∀ c ∈ o', c ∈ o ∨ (s.getD c false = false ∧ RR g b c)
theorem DI.mark {g : List GB} {s : List Bool} {o : List Nat} {b : Nat} (h : DI g s o) (hb : b < g.length) : DI g (s.set b true) o :=
  have hs : b < s.length := by rw [h.len]; exact hb
  ⟨by simpa using h.len, fun c hc => (getD_set s b c hs).2 (.inl (h.sub c hc)), fun u hu t ht => (getD_set s b _ hs).2 (.inl (h.cl u hu t ht)), h.q, h.nd⟩
theorem go_di {g : List GB} (hg : tosOk g) {k : Nat} (ih : ∀ (b : Nat) (s : List Bool) (o : List Nat) (s' : List Bool) (o' : List Nat), walkP g k b s o = some (s', o') → DI g s o → (∀ c, s.getD c false = true → c ∈ o ∨ RR g c b) → b < g.length → s.getD b false = false → DO g b s o s' o' ∧ s'.getD b false = true) (b : Nat) :
    ∀ (ts : List Int) (s : List Bool) (o : List Nat) (s1 : List Bool) (o1 : List Nat), goP (walkP g k) ts s o = some (s1, o1) → DI g s o → (∀ t ∈ ts, t ∈ tosG g b) → (∀ c, s.getD c false = true → c ∈ o ∨ RR g c b) → DO g b s o s1 o1 ∧ ∀ t ∈ ts, s1.getD t.toNat false = true
  | [], s, o, s1, o1, h, hd, _, _ => by
    simp [goP] at h
    obtain ⟨rfl, rfl⟩ := h
    exact ⟨⟨hd, fun c hc => hc, fun c hc => .inr hc, fun c hc => hc, fun c hc => .inl hc⟩, fun t ht => by cases ht⟩
  | t :: ts, s, o, s1, o1, h, hd, ht, hgr => by
    unfold goP at h
    have ht0 := ht t (by simp)
    have hin := hg b t ht0
    have hts : ∀ x ∈ ts, x ∈ tosG g b := fun x hx => ht x (List.mem_cons_of_mem _ hx)
    cases hq : s.getD t.toNat false with
    | true =>
      rw [hq, if_pos rfl] at h
      obtain ⟨h1, h2⟩ := go_di hg ih b ts s o s1 o1 h hd hts hgr
      refine ⟨h1, fun x hx => ?_⟩
      rcases List.mem_cons.1 hx with rfl | hx
      · exact h1.mono _ hq
      · exact h2 x hx
    | false =>
      rw [hq, if_neg (by simp)] at h
      cases hw : walkP g k t.toNat s o with
      | none => rw [hw] at h; cases h
      | some r =>
        obtain ⟨s2, o2⟩ := r
        rw [hw] at h
        have he := rr_edge hg ht0
        obtain ⟨k1, k2⟩ := ih t.toNat s o s2 o2 hw hd (fun c hc => (hgr c hc).imp id (fun h => h.trans he)) (by omega) hq
        obtain ⟨h1, h2⟩ := go_di hg ih b ts s2 o2 s1 o1 h k1.di hts (fun c hc => by
          rcases k1.fin c hc with h | h
          · exact .inl h
          · exact (hgr c h).imp (k1.sup c) id)
        refine ⟨⟨h1.di, fun c hc => h1.mono c (k1.mono c hc), fun c hc => ?_, fun c hc => h1.sup c (k1.sup c hc), fun c hc => ?_⟩, fun x hx => ?_⟩
        · rcases h1.fin c hc with h | h
          · exact .inl h
          · exact (k1.fin c h).imp (h1.sup c) id
        · rcases h1.new c hc with h | ⟨h, hr⟩
          · rcases k1.new c h with h | ⟨h, hr⟩
            · exact .inl h
            · exact .inr ⟨h, he.trans hr⟩
          · refine .inr ⟨?_, hr⟩
            cases e : s.getD c false with
            | false => rfl
            | true => have := k1.mono c e; rw [h] at this; cases this
        · rcases List.mem_cons.1 hx with rfl | hx
          · exact h1.mono _ k2
          · exact h2 x hx
theorem walk_di {g : List GB} (hg : tosOk g) : ∀ (k b : Nat) (s : List Bool) (o : List Nat) (s' : List Bool) (o' : List Nat), walkP g k b s o = some (s', o') → DI g s o → (∀ c, s.getD c false = true → c ∈ o ∨ RR g c b) → b < g.length → s.getD b false = false → DO g b s o s' o' ∧ s'.getD b false = true := by
  intro k
  induction k with
  | zero => intro b s o s' o' h; simp [walkP] at h
  | succ k ih =>
    intro b s o s' o' h hd hgr hb hbs
    unfold walkP at h
    cases hw : goP (walkP g k) (tosG g b) (s.set b true) o with
    | none => rw [hw] at h; cases h
    | some r =>
      obtain ⟨s1, o1⟩ := r
      rw [hw] at h
      simp only [Option.some.injEq, Prod.mk.injEq] at h
      obtain ⟨rfl, rfl⟩ := h
      have hsl : b < s.length := by rw [hd.len]; exact hb
      have hset : ∀ c, (s.set b true).getD c false = true ↔ (s.getD c false = true ∨ c = b) := fun c => getD_set s b c hsl
      have hgr2 : ∀ c, (s.set b true).getD c false = true → c ∈ o ∨ RR g c b := fun c hc => by
        rcases (hset c).1 hc with h | rfl
        · exact hgr c h
        · exact .inr FR.here
      obtain ⟨h1, h2⟩ := go_di hg ih b (tosG g b) (s.set b true) o s1 o1 hw (hd.mark hb) (fun t ht => ht) hgr2
      have hbt : s1.getD b false = true := h1.mono b ((hset b).2 (.inr rfl))
      have hseen : ∀ c, s1.getD c false = true → c ∈ o1 ∨ RR g c b := fun c hc => by
        rcases h1.fin c hc with h | h
        · exact .inl h
        · exact (hgr2 c h).imp (h1.sup c) id
      have hbo : b ∉ o1 := fun e => by
        rcases h1.new b e with h | ⟨h, _⟩
        · have := hd.sub b h; rw [hbs] at this; cases this
        · have := (hset b).2 (.inr rfl); rw [h] at this; cases this
      have hbefore : ∀ t ∈ tosG g b, ¬ RR g t.toNat b → ∀ z, RR g t.toNat z → z ∈ o1 := by
        intro t ht hn z hz
        induction hz with
        | here => exact (hseen _ (h2 t ht)).resolve_right hn
        | step x y hx hy hw ihx =>
          rcases hseen _ (h1.di.cl x ihx y hy) with h | h
          · exact h
          · exact absurd ((FR.step x y hx hy hw).trans h) hn
      refine ⟨⟨⟨h1.di.len, fun c hc => ?_, fun u hu => ?_, ?_, ?_⟩, fun c hc => h1.mono c ((hset c).2 (.inl hc)), fun c hc => ?_, fun c hc => List.mem_append_left _ (h1.sup c hc), fun c hc => ?_⟩, hbt⟩
      · rcases List.mem_append.1 hc with h | h
        · exact h1.di.sub c h
        · simp at h; subst h; exact hbt
      · rcases List.mem_append.1 hu with h | h
        · exact h1.di.cl u h
        · simp at h; subst h; exact h2
      · intro l1 u l2 e
        rcases List.eq_nil_or_concat l2 with rfl | ⟨l3, x, rfl⟩
        · obtain ⟨e1, e2⟩ := List.append_inj' e rfl
          injection e2 with e2 _
          subst e1 e2
          exact hbefore
        · have e0 : o1 ++ [b] = (l1 ++ u :: l3) ++ [x] := by rw [e]; simp
          obtain ⟨e1, e2⟩ := List.append_inj' e0 rfl
          exact h1.di.q l1 u l3 e1
      · rw [List.nodup_append]
        refine ⟨h1.di.nd, by simp, fun a ha c hc => ?_⟩
        simp at hc
        subst hc
        exact fun e => hbo (e ▸ ha)
      · rcases h1.fin c hc with h | h
        · exact .inl (List.mem_append_left _ h)
        · rcases (hset c).1 h with h | rfl
          · exact .inr h
          · exact .inl (by simp)
      · rcases List.mem_append.1 hc with h | h
        · rcases h1.new c h with h | ⟨h, hr⟩
          · exact .inl h
          · refine .inr ⟨?_, hr⟩
            cases e : s.getD c false with
            | false => rfl
            | true => have := (hset c).2 (.inl e); rw [h] at this; cases this
        · simp at h; subst h; exact .inr ⟨hbs, FR.here⟩
/-- The order of what is reached: each block that leads on, and to which none leads back, stands ahead. -/
theorem order_q {g : List GB} (hw : wholeG g = true) : (∀ c, c ∈ orderP g ↔ RR g 0 c) ∧ ∀ pre r post, orderP g = pre ++ r :: post → ∀ x ∈ orderP g, ∀ t ∈ tosG g x, RR g t.toNat r → ¬ RR g t.toNat x → x ∈ pre := by
  obtain ⟨s', h1, -⟩ := postP_run hw
  obtain ⟨hp, -⟩ := wholeG_all hw
  have hg := tosOk_of hw
  have hno : ∀ c, (List.replicate g.length false).getD c false = false := rep_getD g.length
  obtain ⟨h2, h3⟩ := walk_di hg _ _ _ _ _ _ h1 ⟨by simp, fun c hc => by simp at hc, fun c hc => by simp at hc, fun l1 u l2 e => by simp at e, by simp⟩ (fun c hc => by rw [hno] at hc; cases hc) hp (hno 0)
  have hin : ∀ c, s'.getD c false = true → c ∈ postP g := fun c hc => by
    rcases h2.fin c hc with h | h
    · exact h
    · rw [hno] at h; cases h
  constructor
  · intro c
    unfold orderP
    rw [List.mem_reverse]
    constructor
    · intro h
      rcases h2.new c h with h | ⟨_, h⟩
      · cases h
      · exact h
    · intro h
      induction h with
      | here => exact hin 0 h3
      | step x t _ ht _ ih => exact hin _ (h2.di.cl x ih t ht)
  · intro pre r post e x hx t ht hr hn
    have eo : postP g = post.reverse ++ r :: pre.reverse := by
      have : (orderP g).reverse = postP g := by unfold orderP; rw [List.reverse_reverse]
      rw [← this, e]
      simp
    rw [e] at hx
    rcases List.mem_append.1 hx with h | h
    · exact h
    · rcases List.mem_cons.1 h with rfl | h
      · exact absurd hr hn
      · exfalso
        obtain ⟨a, c, ea⟩ := List.append_of_mem (List.mem_reverse.2 h)
        have e2 : postP g = a ++ x :: (c ++ r :: pre.reverse) := by rw [eo, ea]; simp
        have hra := h2.di.q a x _ e2 t ht hn r hr
        have hnd := h2.di.nd
        rw [e2] at hnd
        rw [List.nodup_append] at hnd
        exact hnd.2.2 r hra r (by simp) rfl
end Go.Proofs.Ytoplllebaagnnaa
