/-
  Programs that may be: stands, where it says yes.
  Programs that may be: Func, where it says yes.
  Programs that may be: all that Func asks of the base's two functions.
-/
import Derived.Test.YtglobeajmdieaaaJe3
import Derived.Test.YtglobeajmdieaaaJe46
import Derived.StillTailTactics
namespace Go.Proofs.Ytglobeajmdieaaa
set_option linter.unusedVariables false
set_option linter.unusedSimpArgs false
open Go.RowKit Go.Sort

def idOk (f : SF) (P Q : List Int) (T : TrP) (a : Int) : Bool :=
  decide (0 ≤ a ∧ a < f.ins.length) && (decide ((((f.ins[a.toNat]?).map SIn.args).getD []).length ≤ 1048576) && useRow f P Q T a (opOf f.ins a) 0 (((f.ins[a.toNat]?).map SIn.args).getD []))
def standOne (f : SF) (P Q : List Int) (T : TrP) (i : Nat) (k : SB) : Bool :=
  k.list.all (idOk f P Q T) && (!(hasArgP f.ret k.kind) || (decide (0 ≤ k.arg ∧ k.arg < f.ins.length) && overT T (P.getD k.arg.toNat 0) (i : Int)))
set_option maxRecDepth 100000 in
set_option maxHeartbeats 8000000 in
theorem stands_t (n0 sb : Nat) (V : SV) (fs : List SF) (f : SF) (wz : World) (ib ab : Nat) (P Q : List Int) (T : TrP) (w : World) (h : Lst n0 sb V fs f wz ib ab f.ins.length P Q w) (hok : ∀ d ∈ f.blocks, okB d) (hlen : ∀ k ∈ f.blocks, k.list.length ≤ 1048576) (hTE : ∀ lvs : List Value, lvs.length = f.blocks.length → TrEq (gOf f.blocks lvs) T) (hm : ∀ (i : Nat) (hi : i < f.blocks.length), standOne f P Q T i f.blocks[i] = true) :
    Calls Try.prog 24 #[.pointer (some ⟨sb, 0, none⟩)] w fun e w' => e = .returned (.bool true) ∧ Below w.heap.size w w' := by
  obtain ⟨bA, hbA⟩ : ∃ bA, V.bA = bA := ⟨_, rfl⟩
  obtain ⟨bn, hbn⟩ : ∃ bn, V.bn = bn := ⟨_, rfl⟩
  obtain ⟨bc, hbc⟩ : ∃ bc, V.bc = bc := ⟨_, rfl⟩
  have hbb : bn ≤ 1048576 := hbn ▸ h.s.bb
  have hbl : bn = f.blocks.length := hbn ▸ h.s.bl
  obtain ⟨lvs, hlv, hgf⟩ := h.s.gf hok
  have hN := new_g n0 (fnV V) (gOf f.blocks lvs) T w hgf h.s.hn (hTE lvs hlv)
  unfold fnV at hN
  rw [hbA, hbn, hbc] at hN
  have HV : Hid (∀ A, Below w.heap.size w A → A.cell? ⟨sb, 6, none⟩ = some (.slice bA bn bc) ∧ A.cell? ⟨sb, 7, none⟩ = some (.slice (some ⟨ib, 0, none⟩) f.ins.length f.ins.length) ∧ SBs n0 A (.slice bA bn bc) f.blocks ∧ n0 ≤ A.heap.size) := Lib.hid fun A hA => by
    rw [← hbA, ← hbn, ← hbc]
    exact ⟨Lib.cell_of_heap (h.keep hA).s.c 6, (h.keep hA).c7, (h.keep hA).s.br, (h.keep hA).s.hn⟩
  have HL : Hid (∀ A, Below w.heap.size w A → Lst n0 sb V fs f wz ib ab f.ins.length P Q A) := Lib.hid fun A hA => h.keep hA
  obtain ⟨x2, x3, x4, x5, x6⟩ := h.s.s7
  rw [hbA, hbn, hbc] at x6
  have hil : f.ins.length ≤ 1048576 := by rw [← h.s.il]; exact h.s.ib
  obtain ⟨inn, hinn⟩ : ∃ inn, inn = f.ins.length := ⟨_, rfl⟩
  rw [← hinn] at HV hil
  have Hin := Lib.hid hinn
  have Hbl := Lib.hid hbl
  have Hlen := Lib.hid hlen
  have Hm := Lib.hid hm
  clear h hok hlen hTE hm hbA hbn hbc hbl hlv hgf hinn
  go_enter Try.func24, Try.ntmps24
  go_upto_region 2 with (first | (go_at_call 41; refine hN.mono ?_; rintro e w5 ⟨tp, rfl, hT5, hb5⟩; have HT := Lib.hid hT5; have Hb5 := Lib.hid hb5; clear hT5 hb5 hN))
  have x6' := (HV.out w5 Hb5.out).1
  have HN0 : Hid (Below w5.heap.size w5 w5) := Lib.hid (Below.refl _ _)
  clear x2 x3 x4 x5 x6
  go_upto_block 0 with fail
  clear x6'
  go_wp2_with fail
  go_loopw [19] (fun u19 wr => ∃ i : Nat, i ≤ bn ∧ u19 = .int .i64 i ∧ Hid (Below w5.heap.size w5 wr)) (fun u19 _ => bn - (intOf u19).toNat)
  case atStart => exact ⟨0, Nat.zero_le _, rfl, HN0⟩
  case round =>
    clear HN0
    obtain ⟨i, hi, rfl, HN⟩ := hrel
    obtain ⟨C, hC⟩ : ∃ C, C = wr := ⟨_, rfl⟩
    rw [← hC] at HN ⊢
    clear hC
    have hCw : Below w.heap.size w C := Hb5.out.trans (HN.out.mono Hb5.out.size)
    by_cases hli : i < bn
    · have hil2 : i < f.blocks.length := by rw [← Hbl.out]; exact hli
      obtain ⟨-, -, hbr, hnC⟩ := HV.out C hCw
      obtain ⟨gb, o, lA, lc, pA', pc', tA, tc, rfl, hgb, k0, k1, k2, k3, k4, hlr, -, -⟩ := hbr.at hil2
      obtain ⟨d, hd⟩ : ∃ d, d = f.blocks[i] := ⟨_, rfl⟩
      have hlb := Hlen.out d (by rw [hd]; exact List.getElem_mem hil2)
      have hst := Hm.out i hil2
      rw [← hd] at k0 k1 k2 k3 k4 hlr hst
      unfold standOne at hst
      simp only [Bool.and_eq_true] at hst
      have Hst := Lib.hid hst
      obtain ⟨Z, hZ, hbZ, hzZ, h0Z⟩ := gr_one C #[.slice lA d.list.length lc, .slice pA' d.preds.length pc', .int .i64 d.kind, .int .i64 d.arg, .slice tA d.to_.length tc] 62
      have HX : Hid (∀ Y, Below Z.heap.size Z Y → Y.cell? ⟨C.heap.size, 2, none⟩ = some (.int .i64 d.kind) ∧ Y.cell? ⟨C.heap.size, 3, none⟩ = some (.int .i64 d.arg) ∧ Y.cell? ⟨C.heap.size, 4, none⟩ = some (.slice tA d.to_.length tc) ∧ Below w5.heap.size w5 Y ∧ Below w.heap.size w Y ∧ GNs n0 Y (.slice lA d.list.length lc) d.list) := Lib.hid fun Y hY => by
        have e := (hY.block C.heap.size (by omega)).trans h0Z
        have e5 : Below w5.heap.size w5 Y := HN.out.trans ((hbZ.trans (hY.mono hbZ.size)).mono HN.out.size)
        exact ⟨Lib.cell_of_heap e 2, Lib.cell_of_heap e 3, Lib.cell_of_heap e 4, e5, Hb5.out.trans (e5.mono Hb5.out.size), (hlr.keep (hbZ.mono hnC)).keep (hY.mono (by omega))⟩
      have y0 := Lib.cell_of_heap h0Z 0
      have HNj : Hid (Below Z.heap.size Z Z) := Lib.hid (Below.refl _ _)
      have HZ := Lib.hid hZ
      obtain ⟨ln, hln⟩ : ∃ ln, ln = d.list.length := ⟨_, rfl⟩
      rw [← hln] at y0 hlb HZ HX k0
      have Hln := Lib.hid hln
      clear hln hZ hbZ hzZ h0Z hlr hd hil2 HN hgb hnC hbr hst hCw
      go_upto_region 5 with fail
      rw [← HZ.out]
      clear k0 k1 k2 k3 k4
      go_upto_block 2 with fail
      clear y0
      go_wp2_with fail
      go_loopw [27] (fun u27 wr => ∃ j : Nat, j ≤ ln ∧ u27 = .int .i64 j ∧ Hid (Below Z.heap.size Z wr)) (fun u27 _ => ln - (intOf u27).toNat)
      case atStart => exact ⟨0, Nat.zero_le _, rfl, HNj⟩
      case round =>
        clear HNj
        obtain ⟨j, hj, rfl, HN⟩ := hrel
        obtain ⟨D, hD⟩ : ∃ D, D = wr := ⟨_, rfl⟩
        rw [← hD] at HN ⊢
        clear hD
        obtain ⟨z2, z3, z4, hD5, hDw, hlr⟩ := HX.out D HN.out
        by_cases hlj : j < ln
        · have hjl : j < d.list.length := by rw [← Hln.out]; exact hlj
          obtain ⟨tb, tq, rfl, c1⟩ := hlr.rd hlj
          have hge : d.list.getD j 0 = d.list[j] := by simp [List.getD, hjl]
          rw [hge] at c1
          have hid := List.all_eq_true.1 Hst.out.1 d.list[j] (List.getElem_mem hjl)
          unfold idOk at hid
          simp only [Bool.and_eq_true, decide_eq_true_eq] at hid
          obtain ⟨ha, hab, hu⟩ := hid
          obtain ⟨a, hte⟩ : ∃ a : Nat, d.list[j] = a := ⟨d.list[j].toNat, by omega⟩
          rw [hte] at ha hab hu c1
          simp only [Int.toNat_natCast] at hab hu
          have hU := uses_t n0 sb V fs f wz ib ab f.ins.length P Q tp _ T a D (HL.out D hDw) (HT.out.keep hD5) rfl (by omega) hab hu
          have HD := HN
          clear hjl hge ha hab hu hte hlr HN z2 z3 z4 hD5 hDw
          go_wp2_with (first | (go_at_call 42; refine hU.mono ?_; rintro e w7 ⟨rfl, hb7⟩; have HN2 : Hid (Below Z.heap.size Z w7) := Lib.hid (HD.out.trans (hb7.mono HD.out.size)); clear hb7 hU))
          go_roundw
          case rel => exact ⟨j + 1, by omega, by go_num, HN2⟩
          case measure => simp [intOf]; omega
        · obtain rfl : ln = j := by omega
          have L := HL.out D hDw
          have hH := so_call D fun A hA => hasArg_g sb V.fA V.fn V.fc V.mn V.s V.pA V.pn V.pc V.r V.iA V.in_ V.ic V.bA V.bn V.bc _ _ d.kind d.arg tA d.to_.length tc A (L.keep hA).s.c
          rw [L.s.rr] at hH
          have hs2 := Hst.out.2
          have q2 := cell_regrown z2
          have q3 := cell_regrown z3
          have q4 := cell_regrown z4
          have q7 := cell_regrown (HV.out D hDw).2.1
          have hTD := HT.out.keep hD5
          cases hq : hasArgP f.ret d.kind with
          | false =>
            rw [hq] at hH
            clear L hs2 q7 hTD hlr hDw hq z2 z3 z4
            go_upto_region 11 with fail
            refine wp_region_quiet_below (by kernel_rfl) (by kernel_rfl) ?_
            repeat (go_big_quiet_step (first | exact hH _))
            refine wpQuiet_nil ?_
            intro D2 hw'
            obtain ⟨⟨dq, osq⟩, hw''⟩ := hw'
            have HN2 : Hid (Below w5.heap.size w5 D2) := Lib.hid (by rw [hw'']; exact hD5.trans ((below_regrown D dq osq).mono hD5.size))
            clear hw'' hH q2 q3 q4 hD5
            go_wp2_with fail
            go_roundw
            case rel => exact ⟨i + 1, by omega, by go_num, HN2⟩
            case measure => simp [intOf]; omega
          | true =>
            rw [hq] at hH hs2
            simp only [Bool.not_true, Bool.false_or, Bool.and_eq_true, decide_eq_true_eq] at hs2
            obtain ⟨⟨ha0, ha1⟩, hov⟩ := hs2
            obtain ⟨a, haa⟩ : ∃ a : Nat, d.arg = a := ⟨d.arg.toNat, by omega⟩
            rw [haa] at ha1 hov hH q3
            simp only [Int.toNat_natCast] at hov
            have hai : a < inn := by rw [Hin.out]; omega
            have m1 := L.ip.cell (j := a) (by rw [L.lp]; omega)
            obtain ⟨pa, hpa⟩ : ∃ pa, pa = P.getD a 0 := ⟨_, rfl⟩
            rw [← hpa] at m1 hov
            have qm := cell_regrown m1
            have hOv := so_call D fun A hA => (over_g tp _ T pa (i : Int) A (hTD.keep hA)).mono fun e w' hh => (by
              obtain ⟨h1, q, h2⟩ := hh
              rw [hov] at h1
              exact ⟨h1, by rw [h2]; exact so_drewN _ q⟩ : e = .returned (.bool true) ∧ Below A.heap.size A w')
            clear L hTD hlr hDw hq z2 z3 z4 ha0 ha1 hov haa m1 hpa
            go_upto_region 11 with fail
            refine wp_region_quiet_below (by kernel_rfl) (by kernel_rfl) ?_
            repeat (go_big_quiet_step (first | exact hH _ | exact hOv _))
            refine wpQuiet_nil ?_
            intro D2 hw'
            obtain ⟨⟨dq, osq⟩, hw''⟩ := hw'
            have HN2 : Hid (Below w5.heap.size w5 D2) := Lib.hid (by rw [hw'']; exact hD5.trans ((below_regrown D dq osq).mono hD5.size))
            clear hw'' hH hOv q2 q3 q4 q7 qm hD5
            go_wp2_with fail
            go_roundw
            case rel => exact ⟨i + 1, by omega, by go_num, HN2⟩
            case measure => simp [intOf]; omega
    · obtain rfl : bn = i := by omega
      go_wp2_with fail
      go_ret
      exact ⟨rfl, hCw⟩
end Go.Proofs.Ytglobeajmdieaaa
namespace Go.Proofs.Ytglobeajmdieaaa
set_option linter.unusedVariables false
set_option linter.unusedSimpArgs false
open Go.RowKit Go.Sort

/-- All that Func asks of a function, over plain data. -/
structure FnOk (fs : List SF) (f : SF) (many P Q : List Int) (T : TrP) : Prop where
  nb : f.blocks.length ≤ 1048576
  ni : f.ins.length ≤ 1048576
  n1 : 1 ≤ f.blocks.length
  i1 : 1 ≤ f.ins.length
  ok : ∀ d ∈ f.blocks, okB d
  ll : ∀ d ∈ f.blocks, d.list.length ≤ 1048576
  sh : shapedP f.ret f.ins.length f.blocks = true
  mm : manyFrom f.blocks (List.replicate f.blocks.length 0) = some many
  pp : predsFrom f.blocks many 0 f.blocks (List.replicate f.blocks.length (-1)) = true
  li : listFrom 0 f.blocks (List.replicate f.ins.length (-1)) (List.replicate f.ins.length 0) = some (P, Q)
  hP : ∀ j, j < f.ins.length → P.getD j 0 ≠ -1
  op : ∀ x ∈ f.ins, x.op ≠ 0
  re : ∀ lvs : List Value, lvs.length = f.blocks.length → (orderP (gOf f.blocks lvs)).length = f.blocks.length
  pl : placedFrom f.ins 0 f.blocks = true
  t1 : ∀ x ∈ f.ins, insB fs f x = true
  t2 : ∀ k ∈ f.blocks, endB f k = true
  tr : ∀ lvs : List Value, lvs.length = f.blocks.length → TrEq (gOf f.blocks lvs) T
  st : ∀ (i : Nat) (hi : i < f.blocks.length), standOne f P Q T i f.blocks[i] = true

set_option maxRecDepth 100000 in
set_option maxHeartbeats 8000000 in
theorem func_t (n0 : Nat) (fA : Option Addr) (fn fc : Nat) (mn : Int) (fs : List SF) (k : Nat) (f : SF) (hf : fs[k]? = some f) (many P Q : List Int) (T : TrP) (w : World) (hn : n0 ≤ w.heap.size) (hF : SFs n0 w (.slice fA fn fc) fs) (hfl : fn = fs.length) (hfb : fn ≤ 1048576) (K : FnOk fs f many P Q T) :
    Calls Try.prog 8 #[.agg #[.slice fA fn fc, .int .i64 mn], .int .i64 (k : Int)] w fun e w' => e = .returned (.int .i64 0) ∧ Below w.heap.size w w' := by
  obtain ⟨hkl, hfk⟩ := List.getElem?_eq_some_iff.mp hf
  obtain ⟨W, hW, hbW, hzW, h0W⟩ := gr_one w #[.slice fA fn fc, .int .i64 mn] 26
  have hH := sound_has_g fA fn fc mn (k : Int) W
  have ehas : hasG fn (k : Int) = true := by unfold hasG; simp; omega
  rw [ehas] at hH
  have HW := Lib.hid hW
  obtain ⟨b, o, s, pA, pc, iA, ic, bA, bc, efA, hbn, hc0, hc1, hc2, hc3, hc4, hgp, hgi, hgb⟩ := hF.at hkl
  subst efA
  rw [hfk] at hc1 hc2 hc3 hc4 hgp hgi hgb
  have HK : Hid (∀ A, Below W.heap.size W A → Below w.heap.size w A ∧ A.cell? ⟨w.heap.size, 0, none⟩ = some (.slice (some ⟨b, o, none⟩) fn fc) ∧ A.cell? ⟨w.heap.size, 1, none⟩ = some (.int .i64 mn) ∧ A.cell? ⟨b, o + k * 5, none⟩ = some (.string s) ∧ A.cell? ⟨b, o + k * 5 + 1, none⟩ = some (.slice pA f.params.length pc) ∧ A.cell? ⟨b, o + k * 5 + 2, none⟩ = some (.int .i64 f.ret) ∧ A.cell? ⟨b, o + k * 5 + 3, none⟩ = some (.slice iA f.ins.length ic) ∧ A.cell? ⟨b, o + k * 5 + 4, none⟩ = some (.slice bA f.blocks.length bc)) := Lib.hid fun A hA => by
    have hb := hbW.trans (hA.mono hbW.size)
    have e := (hA.block w.heap.size (by omega)).trans h0W
    have Kc : ∀ {x : Addr} {v : Value}, w.cell? x = some v → A.cell? x = some v := fun {x v} hx => (hb.cell (gr_clt hx)).trans hx
    exact ⟨hb, Lib.cell_of_heap e 0, Lib.cell_of_heap e 1, Kc hc0, Kc hc1, Kc hc2, Kc hc3, Kc hc4⟩
  have HR : Hid (∀ A, Below w.heap.size w A → SFs n0 A (.slice (some ⟨b, o, none⟩) fn fc) fs ∧ GNs n0 A (.slice pA f.params.length pc) f.params ∧ SIs n0 A (.slice iA f.ins.length ic) f.ins ∧ SBs n0 A (.slice bA f.blocks.length bc) f.blocks) := Lib.hid fun A hA => ⟨hF.keep (hA.mono hn), hgp.keep (hA.mono hn), hgi.keep (hA.mono hn), hgb.keep (hA.mono hn)⟩
  have hkn : k < fn := by omega
  obtain ⟨-, u0, u1, -⟩ := HK.out W (Below.refl _ _)
  have Hfl := Lib.hid hfl
  clear hW hbW hzW h0W ehas hF hbn hc0 hc1 hc2 hc3 hc4 hgp hgi hgb hf hfk hkl hfl
  go_enter Try.func8, Try.ntmps8
  go_upto_region 1 with fail
  rw [← HW.out]
  go_upto_region 3 with (first | (go_at_call 17; refine hH.mono ?_; rintro e X ⟨rfl, hbX⟩; have HbX := Lib.hid hbX; clear hbX hH))
  clear u0 u1
  obtain ⟨hXw, v0, v1, c0, c1, c2, c3, c4⟩ := HK.out X.drew HbX.out.drew
  obtain ⟨B, hB⟩ : ∃ B, B = X.drew.alloc (.cells #[.slice (some ⟨b, o, none⟩) fn fc, .int .i64 mn, .string s, .slice pA f.params.length pc, .int .i64 f.ret, .slice iA f.ins.length ic, .slice bA f.blocks.length bc, .slice none 0 0, .slice none 0 0] 51) := ⟨_, rfl⟩
  have hXB : Below X.drew.heap.size X.drew B := by rw [hB]; exact (Below.refl _ _).alloc (Nat.le_refl _) _
  have h0B : B.heap[X.heap.size]? = some (.cells #[.slice (some ⟨b, o, none⟩) fn fc, .int .i64 mn, .string s, .slice pA f.params.length pc, .int .i64 f.ret, .slice iA f.ins.length ic, .slice bA f.blocks.length bc, .slice none 0 0, .slice none 0 0] 51 (0, 0)) := by rw [hB]; exact heap_alloc_new X.drew _
  have hBw : Below w.heap.size w B := hXw.trans (hXB.mono hXw.size)
  obtain ⟨r1, r2, r3, r4⟩ := HR.out B hBw
  have S : Sbj n0 X.heap.size ⟨some ⟨b, o, none⟩, fn, fc, mn, s, pA, f.params.length, pc, f.ret, iA, f.ins.length, ic, bA, f.blocks.length, bc⟩ fs f (.slice none 0 0) (.slice none 0 0) B :=
    ⟨h0B, Nat.le_trans hn hBw.size, r1, Hfl.out, r2, rfl, r3, rfl, r4, rfl, K.ni, K.nb, hfb⟩
  have hns : n0 ≤ X.heap.size := Nat.le_trans hn hXw.size
  have hSh := shaped_g n0 X.heap.size _ _ _ _ _ _ _ _ _ _ _ _ _ _ _ _ _ f.blocks B S.c S.hn S.br rfl K.nb (fun d hd => (K.ok d hd).2.2.1)
  have e0 : shapedP f.ret f.ins.length f.blocks = true := K.sh
  rw [e0] at hSh
  have HS := Lib.hid S
  have HXw := Lib.hid hXw
  have HXB := Lib.hid hXB
  have HKK := Lib.hid K
  have Hns := Lib.hid hns
  rw [hB] at hSh
  have HB := Lib.hid hB
  have q0 : ∃ sb, sb = X.heap.size := ⟨_, rfl⟩
  clear S hB hXB h0B hBw r1 r2 r3 r4 e0 hXw K hns q0
  go_still_tail 7, (by kernel_rfl)
  change wpList _ _ _ _ _ X.drew
  go_wp2_with (first
    | (go_at_call 18; refine hSh.mono ?_; rintro e w1 ⟨rfl, hb1⟩; rw [← HB.out] at hb1; have S1 := HS.out.keep hb1; have hPr := preds_t _ _ _ _ _ _ _ w1 S1 HKK.out.n1 (fun d hd => ⟨(HKK.out.ok d hd).2.2.1, (HKK.out.ok d hd).1⟩) many HKK.out.mm HKK.out.pp; have HS1 := Lib.hid S1; have Hb1 := Lib.hid hb1; clear hSh S1 hb1)
    | (go_at_call 19; refine hPr.mono ?_; rintro e w2 ⟨rfl, hb2⟩; have S2 := HS1.out.keep hb2; have hLi := listed_t _ _ _ _ _ _ _ w2 S2 Hns.out HKK.out.i1 HKK.out.ll P Q HKK.out.li HKK.out.hP HKK.out.op; have Hb2 := Lib.hid hb2; clear hPr S2 hb2)
    | (go_at_call 20; refine hLi.mono ?_; rintro e w3 ⟨rfl, ib, ab, L3⟩; have hRe := reached_t _ _ _ _ _ _ _ w3 L3.s HKK.out.ok HKK.out.re; have HL3 := Lib.hid L3; clear hLi L3)
    | (go_at_call 21; refine hRe.mono ?_; rintro e w4 ⟨rfl, hb4⟩; have L4 := HL3.out.keep hb4; have hPl := placed_t _ _ _ _ _ _ _ w4 L4.s HKK.out.ll HKK.out.pl; have HL4 := Lib.hid L4; clear hRe L4 hb4)
    | (go_at_call 22; refine hPl.mono ?_; rintro e w5 ⟨rfl, hb5⟩; have L5 := HL4.out.keep hb5; have hTy := typed_t _ _ _ _ _ _ _ w5 L5.s HKK.out.t1 HKK.out.t2; have HL5 := Lib.hid L5; clear hPl L5 hb5)
    | (go_at_call 23; refine hTy.mono ?_; rintro e w6 ⟨rfl, hb6⟩; have L6 := HL5.out.keep hb6; have hSt := stands_t _ _ _ _ _ _ _ _ P Q T w6 L6 HKK.out.ok HKK.out.ll HKK.out.tr HKK.out.st; have HL6 := Lib.hid L6; clear hTy L6 hb6)
    | (go_at_call 24; refine hSt.mono ?_; rintro e w7 ⟨rfl, hb7⟩; have HL7 := Lib.hid (HL6.out.keep hb7); clear hSt hb7))
  go_ret
  refine ⟨rfl, ?_⟩
  have hXw := HXw.out
  have h1 : Below w.heap.size w B := hXw.trans (HXB.out.mono hXw.size)
  have h2 := h1.trans (Hb1.out.mono h1.size)
  have h3 := h2.trans (Hb2.out.mono h2.size)
  exact h3.trans (HL7.out.b.mono hXw.size)
end Go.Proofs.Ytglobeajmdieaaa
namespace Go.Proofs.Ytglobeajmdieaaa
set_option linter.unusedVariables false
set_option linter.unusedSimpArgs false
open Go.RowKit Go.Sort

def treeM : TrP := ⟨[0, 1, 3, 2], [-1, 0, 1, 1], [[1], [3, 2], [], []], [0, 1, 2, 2], [0, 1, 3, 2], [4, 4, 4, 3], [1, 2, 3, 1], [4, 3, 3, 4], [0, 1, 3, 3, 4]⟩
def treeF : TrP := ⟨[0], [-1], [[]], [0], [0], [1], [], [], [0, 0]⟩
theorem lvs4 {l : List Value} (h : l.length = 4) : ∃ a b c d, l = [a, b, c, d] := by
  match l, h with
  | [a, b, c, d], _ => exact ⟨a, b, c, d, rfl⟩
theorem lvs1 {l : List Value} (h : l.length = 1) : ∃ a, l = [a] := by
  match l, h with
  | [a], _ => exact ⟨a, rfl⟩
theorem baseM_tr (a b c d : Value) : TrEq (gOf baseM.blocks [a, b, c, d]) treeM where
  ex := ⟨40, 40, 40, 4, ⟨[0, 1, 3, 2], [0, 1, 3, 2], [-1, 0, 1, 1]⟩, [[], [0, 3], [1], [1]], ⟨[-1, 0, 1, 1], [0, 0, 1, 1], [-1, 0, 1, 1], [0, 1, 2, 3], [[], [], [], []]⟩, [-1, 0, 1, 1], [4, 3, 1, 1], [0, 1, 3, 2],
    by decide, by decide, by decide, by kernel_rfl, rfl, rfl, by decide, by kernel_rfl, (fun t => by
      rcases t with _ | _ | _ | _ | t <;> simp [List.getD]), by kernel_rfl, by kernel_rfl, rfl, by kernel_rfl, by kernel_rfl, by kernel_rfl, by kernel_rfl, by kernel_rfl, by kernel_rfl, by kernel_rfl⟩
  ord := by kernel_rfl
  ordl := by decide
  ord1 := by decide
  upl := by kernel_rfl
  pos := by
    have : (gOf baseM.blocks [a, b, c, d]).length = 4 := by kernel_rfl
    omega
theorem baseF_tr (a : Value) : TrEq (gOf baseF.blocks [a]) treeF where
  ex := ⟨40, 40, 40, 1, ⟨[0], [0], [-1]⟩, [[]], ⟨[-1], [0], [-1], [0], [[]]⟩, [-1], [1], [0],
    by decide, by decide, by decide, by kernel_rfl, rfl, rfl, by decide, by kernel_rfl, (fun t => by
      rcases t with _ | t <;> simp [List.getD]), by kernel_rfl, by kernel_rfl, rfl, by kernel_rfl, by kernel_rfl, by kernel_rfl, by kernel_rfl, by kernel_rfl, by kernel_rfl, by kernel_rfl⟩
  ord := by kernel_rfl
  ordl := by decide
  ord1 := by decide
  upl := by kernel_rfl
  pos := by
    have : (gOf baseF.blocks [a]).length = 1 := by kernel_rfl
    omega
theorem baseM_ok : FnOk baseFs baseM [0, 2, 1, 1] [0, 0, 0, 0, 1, 1, 2, 2, 2, 2, 2, 2, 3, 3, 3] [0, 1, 2, 3, 0, 1, 1, 2, 3, 5, 4, 0, 0, 1, 2] treeM where
  nb := by decide
  ni := by decide
  n1 := by decide
  i1 := by decide
  ok := by unfold okB InG; decide
  ll := by decide
  sh := by kernel_rfl
  mm := by kernel_rfl
  pp := by kernel_rfl
  li := by kernel_rfl
  hP := by decide
  op := by decide
  re := fun lvs h => by
    obtain ⟨a, b, c, d, rfl⟩ := lvs4 h
    kernel_rfl
  pl := by kernel_rfl
  t1 := by decide
  t2 := by decide
  tr := fun lvs h => by
    obtain ⟨a, b, c, d, rfl⟩ := lvs4 h
    exact baseM_tr a b c d
  st := by decide
theorem baseF_ok : FnOk baseFs baseF [0] [0, 0, 0, 0] [0, 1, 2, 3] treeF where
  nb := by decide
  ni := by decide
  n1 := by decide
  i1 := by decide
  ok := by unfold okB InG; decide
  ll := by decide
  sh := by kernel_rfl
  mm := by kernel_rfl
  pp := by kernel_rfl
  li := by kernel_rfl
  hP := by decide
  op := by decide
  re := fun lvs h => by
    obtain ⟨a, rfl⟩ := lvs1 h
    kernel_rfl
  pl := by kernel_rfl
  t1 := by decide
  t2 := by decide
  tr := fun lvs h => by
    obtain ⟨a, rfl⟩ := lvs1 h
    exact baseF_tr a
  st := by decide
end Go.Proofs.Ytglobeajmdieaaa
