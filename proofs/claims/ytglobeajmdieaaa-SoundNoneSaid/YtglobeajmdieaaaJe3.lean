/-
  Programs that may be: shaped.
  Programs that may be: functions as they lie; declared, begins.
  Programs that may be: the base over plain data: all that Func asks of its two functions.
  Programs as they are written down: rows of instructions, blocks, functions, each row in a block.
-/
import Derived.Test.YtglobeajmdieaaaJe2
namespace Go.Proofs.Ytglobeajmdieaaa
set_option linter.unusedVariables false
set_option linter.unusedSimpArgs false
open Go.RowKit

def okTerm (bn : Nat) (r : Int) (ni : Nat) (d : SB) : Bool := goesP bn d.kind d.to_ && asksP r d.kind d.arg ni
def shapedP (r : Int) (ni : Nat) (bl : List SB) : Bool := bl.all (okTerm bl.length r ni) && decide (0 < bl.length)
theorem SubC.keep {w w' : World} {sb : Nat} {fA : Option Addr} {fn fc : Nat} {mn : Int} {s : ByteArray} {pA : Option Addr} {pn pc : Nat} {r : Int} {iA : Option Addr} {in_ ic : Nat} {bA : Option Addr} {bn bc : Nat} {vi va : Value} (h : SubC w sb fA fn fc mn s pA pn pc r iA in_ ic bA bn bc vi va) (hb : Below w.heap.size w w') : SubC w' sb fA fn fc mn s pA pn pc r iA in_ ic bA bn bc vi va := (hb.block sb (gr_in h)).trans h
set_option maxRecDepth 100000 in
set_option maxHeartbeats 4000000 in
theorem shaped_g (n0 sb : Nat) (fA : Option Addr) (fn fc : Nat) (mn : Int) (s : ByteArray) (pA : Option Addr) (pn pc : Nat) (r : Int) (iA : Option Addr) (in_ ic : Nat) (bA : Option Addr) (bn bc : Nat) (vi va : Value) (bl : List SB) (w : World) (h : SubC w sb fA fn fc mn s pA pn pc r iA in_ ic bA bn bc vi va) (hn : n0 ≤ w.heap.size) (hbl : SBs n0 w (.slice bA bn bc) bl) (hbn : bn = bl.length) (hbb : bn ≤ 1048576) (htb : ∀ d ∈ bl, d.to_.length ≤ 1048576) :
    Calls Try.prog 18 #[.pointer (some ⟨sb, 0, none⟩)] w fun e w' => e = .returned (.bool (shapedP r in_ bl)) ∧ Below w.heap.size w w' := by
  have HS : Hid (∀ V, Below w.heap.size w V → SubC V sb fA fn fc mn s pA pn pc r iA in_ ic bA bn bc vi va ∧ SBs n0 V (.slice bA bn bc) bl ∧ V.cell? ⟨sb, 6, none⟩ = some (.slice bA bn bc)) := Lib.hid fun V hV => ⟨h.keep hV, hbl.keep (hV.mono hn), Lib.cell_of_heap (h.keep hV) 6⟩
  obtain ⟨res, hres⟩ : ∃ res, res = shapedP r in_ bl := ⟨_, rfl⟩
  rw [← hres]
  unfold shapedP at hres
  rw [← hbn] at hres
  have Hres := Lib.hid hres
  have Hbn := Lib.hid hbn
  have Htb := Lib.hid htb
  have HN0 : Hid ((bl.take 0).all (okTerm bn r in_) = true ∧ Below w.heap.size w w) := Lib.hid ⟨by simp, Below.refl _ _⟩
  have x6 := (HS.out w (Below.refl _ _)).2.2
  clear h hbl hres hbn htb
  go_enter Try.func18, Try.ntmps18
  go_upto_block 0 with fail
  clear x6
  go_wp2_with fail
  go_loopw [11] (fun u11 wr => ∃ i : Nat, i ≤ bn ∧ u11 = .int .i64 i ∧ Hid ((bl.take i).all (okTerm bn r in_) = true ∧ Below w.heap.size w wr)) (fun u11 _ => bn - (intOf u11).toNat)
  case atStart => exact ⟨0, Nat.zero_le _, rfl, HN0⟩
  case round =>
    clear HN0
    obtain ⟨i, hi, rfl, HN⟩ := hrel
    obtain ⟨C, hC⟩ : ∃ C, C = wr := ⟨_, rfl⟩
    rw [← hC] at HN ⊢
    clear hC
    by_cases hli : i < bn
    · have hil : i < bl.length := by rw [← Hbn.out]; exact hli
      obtain ⟨gb, o, lA, lc, pA', pc', tA, tc, rfl, hgb, k0, k1, k2, k3, k4, -, -, ht⟩ := (HS.out C HN.out.2).2.1.at hil
      obtain ⟨d, hd⟩ : ∃ d, d = bl[i] := ⟨_, rfl⟩
      rw [← hd] at k0 k1 k2 k3 k4 ht
      obtain ⟨Z, hZ, hbZ, hzZ, h0Z⟩ := gr_one C #[.slice lA d.list.length lc, .slice pA' d.preds.length pc', .int .i64 d.kind, .int .i64 d.arg, .slice tA d.to_.length tc] 62
      have hZw : Below w.heap.size w Z := HN.out.2.trans (hbZ.mono HN.out.2.size)
      have hsZ := (HS.out Z hZw).1
      have htZ : GNs Z.heap.size Z (.slice tA d.to_.length tc) d.to_ := (ht.keep (hbZ.mono (by have := HN.out.2.size; omega))).mono (by have := hZw.size; omega)
      have hG := goes_g sb fA fn fc mn s pA pn pc r iA in_ ic _ bn bc vi va d.kind d.arg tA d.to_.length tc d.to_ Z hsZ htZ (Htb.out d (by rw [hd]; exact List.getElem_mem hil))
      have hA : ∀ V, Below Z.heap.size Z V → Calls Try.prog 32 #[.pointer (some ⟨sb, 0, none⟩), .agg #[.int .i64 d.kind, .int .i64 d.arg, .slice tA d.to_.length tc]] V fun e w' => e = .returned (.bool (asksP r d.kind d.arg in_)) ∧ Below V.heap.size V w' := fun V hV => asks_g sb fA fn fc mn s pA pn pc r iA in_ ic _ bn bc vi va d.kind d.arg tA d.to_.length tc V (hsZ.keep hV)
      have HA := Lib.hid hA
      have HX : Hid (∀ V, Below Z.heap.size Z V → V.cell? ⟨C.heap.size, 2, none⟩ = some (.int .i64 d.kind) ∧ V.cell? ⟨C.heap.size, 3, none⟩ = some (.int .i64 d.arg) ∧ V.cell? ⟨C.heap.size, 4, none⟩ = some (.slice tA d.to_.length tc)) := Lib.hid fun V hV => by
        have e1 := (hV.block C.heap.size (by omega)).trans h0Z
        exact ⟨Lib.cell_of_heap e1 2, Lib.cell_of_heap e1 3, Lib.cell_of_heap e1 4⟩
      have htk : (bl.take (i + 1)).all (okTerm bn r in_) = (goesP bn d.kind d.to_ && asksP r d.kind d.arg in_) := by
        rw [← List.take_append_getElem hil, List.all_append, HN.out.1, ← hd]
        simp [okTerm]
      have hfl : (goesP bn d.kind d.to_ && asksP r d.kind d.arg in_) = false → res = false := fun hf => by
        rw [Hres.out]
        cases hq : bl.all (okTerm bn r in_) with
        | false => rfl
        | true =>
          have := List.all_eq_true.1 hq bl[i] (List.getElem_mem hil)
          rw [← hd] at this
          unfold okTerm at this
          rw [hf] at this; cases this
      have Htk := Lib.hid htk
      have Hfl := Lib.hid hfl
      have HZ := Lib.hid hZ
      have HZw := Lib.hid hZw
      have hzc : C.heap.size < Z.heap.size := by omega
      obtain ⟨y2, y3, y4⟩ := HX.out Z (Below.refl _ _)
      clear hA htk hfl hZ hbZ hzZ h0Z hZw hsZ htZ ht hd hil HN hgb
      go_upto_region 4 with fail
      rw [← HZ.out]
      clear k0 k1 k2 k3 k4
      obtain ⟨q1, hq1⟩ : ∃ q, q = goesP bn d.kind d.to_ := ⟨_, rfl⟩
      obtain ⟨q2, hq2⟩ : ∃ q, q = asksP r d.kind d.arg in_ := ⟨_, rfl⟩
      rw [← hq1] at hG Htk Hfl
      rw [← hq2] at HA Htk Hfl
      clear hq1 hq2
      cases q1 with
      | false =>
        have hf := Hfl.out rfl
        subst hf
        go_wp2_with (go_at_call 31; refine hG.mono ?_; rintro e w5 ⟨rfl, hb5⟩; have Hb5 := Lib.hid (HZw.out.trans (hb5.mono HZw.out.size)); clear hb5 hG)
        go_ret
        exact ⟨rfl, Hb5.out⟩
      | true =>
        cases q2 with
        | false =>
          have hf := Hfl.out rfl
          subst hf
          go_wp2_with (first
            | (go_at_call 31; refine hG.mono ?_; rintro e w5 ⟨rfl, hb5⟩; have hA5 := HA.out w5 hb5; obtain ⟨z2, z3, z4⟩ := HX.out w5 hb5; have Hb5 := Lib.hid (HZw.out.trans (hb5.mono HZw.out.size)); clear hb5 hG)
            | (go_at_call 32; refine hA5.mono ?_; rintro e w6 ⟨rfl, hb6⟩; have Hb6 := Lib.hid (Hb5.out.trans (hb6.mono Hb5.out.size)); clear hb6 hA5))
          go_ret
          exact ⟨rfl, Hb6.out⟩
        | true =>
          go_wp2_with (first
            | (go_at_call 31; refine hG.mono ?_; rintro e w5 ⟨rfl, hb5⟩; have hA5 := HA.out w5 hb5; obtain ⟨z2, z3, z4⟩ := HX.out w5 hb5; have Hb5 := Lib.hid (HZw.out.trans (hb5.mono HZw.out.size)); clear hb5 hG)
            | (go_at_call 32; refine hA5.mono ?_; rintro e w6 ⟨rfl, hb6⟩; have HN6 : Hid ((bl.take (i + 1)).all (okTerm bn r in_) = true ∧ Below w.heap.size w w6) := Lib.hid ⟨by rw [Htk.out]; rfl, Hb5.out.trans (hb6.mono Hb5.out.size)⟩; clear hb6 hA5))
          go_roundw
          case rel => exact ⟨i + 1, by omega, by go_num, HN6⟩
          case measure => simp [intOf]; omega
    · obtain rfl : bn = i := by omega
      have x6 := (HS.out C HN.out.2).2.2
      have hf : res = decide (0 < bn) := by
        rw [Hres.out]
        have := HN.out.1
        rw [Hbn.out, List.take_length, ← Hbn.out] at this
        rw [this]
        simp
      subst hf
      go_wp2_with fail
      go_ret
      exact ⟨rfl, HN.out.2⟩
end Go.Proofs.Ytglobeajmdieaaa
namespace Go.Proofs.Ytglobeajmdieaaa
set_option linter.unusedVariables false
set_option linter.unusedSimpArgs false
open Go.RowKit

/-- Functions as they lie, below n0. -/
def SFs (n0 : Nat) (w : World) (v : Value) (l : List SF) : Prop := ∃ A c, v = .slice A l.length c ∧ (0 < l.length → ∃ b o, A = some ⟨b, o, none⟩ ∧ b < n0 ∧
  ∀ j d, l[j]? = some d → ∃ s pv iv bv, w.cell? ⟨b, o + j * 5, none⟩ = some (.string s) ∧ w.cell? ⟨b, o + j * 5 + 1, none⟩ = some pv ∧ w.cell? ⟨b, o + j * 5 + 2, none⟩ = some (.int .i64 d.ret) ∧ w.cell? ⟨b, o + j * 5 + 3, none⟩ = some iv ∧ w.cell? ⟨b, o + j * 5 + 4, none⟩ = some bv ∧ GNs n0 w pv d.params ∧ SIs n0 w iv d.ins ∧ SBs n0 w bv d.blocks)
theorem SFs.keep {n0 : Nat} {w w' : World} {v : Value} {l : List SF} (h : SFs n0 w v l) (hb : Below n0 w w') : SFs n0 w' v l := by
  obtain ⟨A, c, hv, hr⟩ := h
  refine ⟨A, c, hv, fun hp => ?_⟩
  obtain ⟨b, o, hA, hbn, hc⟩ := hr hp
  refine ⟨b, o, hA, hbn, fun j d hd => ?_⟩
  obtain ⟨s, pv, iv, bv, h0, h1, h2, h3, h4, h5, h6, h7⟩ := hc j d hd
  have k : ∀ q, w'.cell? ⟨b, q, none⟩ = w.cell? ⟨b, q, none⟩ := fun q => hb.cell (p := ⟨b, q, none⟩) hbn
  exact ⟨s, pv, iv, bv, (k _).trans h0, (k _).trans h1, (k _).trans h2, (k _).trans h3, (k _).trans h4, h5.keep hb, h6.keep hb, h7.keep hb⟩
theorem SFs.at {n0 : Nat} {w : World} {A : Option Addr} {m c : Nat} {l : List SF} (h : SFs n0 w (.slice A m c) l) {j : Nat} (hj : j < l.length) :
    ∃ b o s pA pc iA ic bA bc, A = some ⟨b, o, none⟩ ∧ b < n0 ∧ w.cell? ⟨b, o + j * 5, none⟩ = some (.string s) ∧ w.cell? ⟨b, o + j * 5 + 1, none⟩ = some (.slice pA l[j].params.length pc) ∧ w.cell? ⟨b, o + j * 5 + 2, none⟩ = some (.int .i64 l[j].ret) ∧ w.cell? ⟨b, o + j * 5 + 3, none⟩ = some (.slice iA l[j].ins.length ic) ∧ w.cell? ⟨b, o + j * 5 + 4, none⟩ = some (.slice bA l[j].blocks.length bc) ∧
      GNs n0 w (.slice pA l[j].params.length pc) l[j].params ∧ SIs n0 w (.slice iA l[j].ins.length ic) l[j].ins ∧ SBs n0 w (.slice bA l[j].blocks.length bc) l[j].blocks := by
  obtain ⟨A', c', hv, hr⟩ := h
  obtain ⟨b, o, hA, hbn, hc⟩ := hr (by omega)
  injection hv with e1
  subst e1
  obtain ⟨s, pv, iv, bv, h0, h1, h2, h3, h4, h5, h6, h7⟩ := hc j _ (List.getElem?_eq_getElem hj)
  obtain ⟨pA, pc, rfl, _⟩ := id h5
  obtain ⟨iA, ic, rfl, _⟩ := id h6
  obtain ⟨bA, bc, rfl, _⟩ := id h7
  exact ⟨b, o, s, pA, pc, iA, ic, bA, bc, hA, hbn, h0, h1, h2, h3, h4, h5, h6, h7⟩
def okParam (t : Int) : Bool := isTypeP t && (t != 0)
def declaredP (params : List Int) (ret : Int) : Bool := decide (params.length ≤ 16) && isTypeP ret && params.all okParam
set_option maxRecDepth 100000 in
set_option maxHeartbeats 4000000 in
theorem declared_g (s : ByteArray) (pA : Option Addr) (pn pc : Nat) (r : Int) (iA : Option Addr) (in_ ic : Nat) (bA : Option Addr) (bn bc : Nat) (params : List Int) (w : World) (hp : GNs w.heap.size w (.slice pA pn pc) params) (hpb : pn ≤ 1048576) :
    Calls Try.prog 16 #[.agg #[.string s, .slice pA pn pc, .int .i64 r, .slice iA in_ ic, .slice bA bn bc]] w fun e w' => e = .returned (.bool (declaredP params r)) ∧ Below w.heap.size w w' := by
  obtain ⟨W, hW, hbW, hzW, h0W⟩ := gr_one w #[.string s, .slice pA pn pc, .int .i64 r, .slice iA in_ ic, .slice bA bn bc] 46
  obtain ⟨x0, x1, x2, x3, x4, -⟩ := gr_five h0W
  have hpl := hp.len
  have hrd : ∀ j, j < pn → ∃ g o, pA = some ⟨g, o, none⟩ ∧ W.cell? ⟨g, o + j, none⟩ = some (.int .i64 (params.getD j 0)) := fun j hj => by
    obtain ⟨g, o, hA, _, hcj⟩ := (hp.keep hbW).at (j := j) (by omega)
    exact ⟨g, o, hA, by rw [hcj]; simp [List.getD, (by omega : j < params.length)]⟩
  obtain ⟨res, hres⟩ : ∃ res, res = declaredP params r := ⟨_, rfl⟩
  rw [← hres]
  unfold declaredP at hres
  rw [← hpl] at hres
  have Hpl := Lib.hid hpl
  have Hrd := Lib.hid hrd
  have HbW := Lib.hid hbW
  have HW := Lib.hid hW
  have hT := isType_g r W
  clear hbW hW hzW h0W hp hpl hrd
  by_cases h16 : pn ≤ 16
  · have d1 : decide ((pn : Int) > 16) = false := decide_eq_false (by omega)
    rw [decide_eq_true h16, Bool.true_and] at hres
    cases hq : isTypeP r with
    | false =>
      rw [hq] at hres hT
      have hf : res = false := by rw [hres]; rfl
      subst hf
      clear hres hq h16
      go_enter Try.func16, Try.ntmps16
      go_upto_region 1 with fail
      rw [← HW.out]
      go_wp2_with (go_at_call 30; refine hT.mono ?_; rintro e w1 ⟨rfl, hw1⟩; rw [hw1]; clear hw1 w1 hT)
      go_ret
      exact ⟨rfl, HbW.out⟩
    | true =>
      rw [hq, Bool.true_and] at hres
      rw [hq] at hT
      have Hres := Lib.hid hres
      clear hres hq h16
      go_enter Try.func16, Try.ntmps16
      go_upto_region 1 with fail
      rw [← HW.out]
      go_upto_block 0 with (go_at_call 30; refine hT.mono ?_; rintro e w1 ⟨rfl, hw1⟩; rw [hw1]; clear hw1 w1 hT)
      go_wp2_with fail
      go_loopw [18] (fun u18 wr => ∃ i : Nat, i ≤ pn ∧ u18 = .int .i64 i ∧ Hid ((params.take i).all okParam = true) ∧ wr = W) (fun u18 _ => pn - (intOf u18).toNat)
      case atStart => exact ⟨0, Nat.zero_le _, rfl, Lib.hid (by simp), by trivial⟩
      case round =>
        obtain ⟨i, hi, rfl, HA, rfl⟩ := hrel
        by_cases hli : i < pn
        · obtain ⟨g, o, rfl, k1⟩ := Hrd.out i hli
          obtain ⟨t, ht⟩ : ∃ t, t = params.getD i 0 := ⟨_, rfl⟩
          rw [← ht] at k1
          have hil : i < params.length := by rw [← Hpl.out]; exact hli
          have hte : params[i] = t := by rw [ht]; simp [List.getD, hil]
          have htk : (params.take (i + 1)).all okParam = okParam t := by
            rw [← List.take_append_getElem hil, List.all_append, HA.out, hte]
            simp
          have hmem : okParam t = false → res = false := fun hf => by
            rw [Hres.out]
            cases hq : params.all okParam with
            | false => rfl
            | true =>
              have := List.all_eq_true.1 hq params[i] (List.getElem_mem hil)
              rw [hte, hf] at this; cases this
          have Htk := Lib.hid htk
          have Hmem := Lib.hid hmem
          have hTt := isType_g t wr
          clear htk hmem hte hil ht HA
          cases hq : isTypeP t with
          | false =>
            rw [hq] at hTt
            have hf := Hmem.out (by unfold okParam; rw [hq]; rfl)
            subst hf
            clear hq
            go_wp2_with (go_at_call 30; refine hTt.mono ?_; rintro e w1 ⟨rfl, hw1⟩; rw [hw1]; clear hw1 w1 hTt)
            go_ret
            exact ⟨rfl, HbW.out⟩
          | true =>
            rw [hq] at hTt
            by_cases ht0 : t = 0
            · have d2 : (t == 0) = true := by simpa using ht0
              have hf := Hmem.out (by unfold okParam; rw [ht0]; simp)
              subst hf
              clear hq ht0
              go_wp2_with (go_at_call 30; refine hTt.mono ?_; rintro e w1 ⟨rfl, hw1⟩; rw [hw1]; clear hw1 w1 hTt)
              go_ret
              exact ⟨rfl, HbW.out⟩
            · have d2 : (t == 0) = false := by simpa using ht0
              have HA2 : Hid ((params.take (i + 1)).all okParam = true) := Lib.hid (by rw [Htk.out]; unfold okParam; rw [hq]; simpa using ht0)
              clear hq ht0
              go_wp2_with (go_at_call 30; refine hTt.mono ?_; rintro e w1 ⟨rfl, hw1⟩; rw [hw1]; clear hw1 w1 hTt)
              go_roundw
              case rel => exact ⟨i + 1, by omega, by go_num, HA2, by trivial⟩
              case measure => simp [intOf]; omega
        · obtain rfl : pn = i := by omega
          have hf : res = true := by rw [Hres.out]; have := HA.out; rw [Hpl.out, List.take_length] at this; exact this
          subst hf
          go_wp2_with fail
          go_ret
          exact ⟨rfl, HbW.out⟩
  · have d1 : decide ((pn : Int) > 16) = true := decide_eq_true (by omega)
    have hf : res = false := by rw [hres, decide_eq_false h16]; rfl
    subst hf
    clear hres h16 hT
    go_enter Try.func16, Try.ntmps16
    go_upto_region 1 with fail
    rw [← HW.out]
    go_wp2
    go_ret
    exact ⟨rfl, HbW.out⟩
end Go.Proofs.Ytglobeajmdieaaa
namespace Go.Proofs.Ytglobeajmdieaaa
set_option linter.unusedVariables false
set_option linter.unusedSimpArgs false
open Go.RowKit

def baseM : SF := ⟨[], 1, [⟨34, 1, [], 0, 0⟩, ⟨1, 1, [], 4, 0⟩, ⟨30, 3, [1], 0, 0⟩, ⟨1, 1, [], 0, 0⟩, ⟨3, 1, [3, 9], 0, 0⟩, ⟨19, 2, [4, 0], 0, 0⟩, ⟨26, 1, [2], 0, 0⟩, ⟨23, 2, [4, 6], 0, 0⟩, ⟨35, 0, [7], 1, 0⟩, ⟨4, 1, [4, 11], 0, 0⟩, ⟨32, 0, [2, 4, 0], 0, 0⟩, ⟨1, 1, [], 1, 0⟩, ⟨29, 1, [2, 3], 0, 0⟩, ⟨33, 0, [12], 0, 0⟩, ⟨36, 1, [12, 5], 0, 1⟩],
  [⟨[0, 1, 2, 3], [], 1, -1, [1]⟩, ⟨[4, 5], [0, 2], 2, 5, [2, 3]⟩, ⟨[11, 6, 7, 8, 10, 9], [1], 1, -1, [1]⟩, ⟨[12, 13, 14], [1], 3, 14, []⟩]⟩
def baseF : SF := ⟨[1, 2], 1, [⟨2, 1, [], 0, 0⟩, ⟨2, 2, [], 1, 0⟩, ⟨15, 1, [0], 0, 0⟩, ⟨25, 1, [1, 0, 2], 0, 0⟩], [⟨[0, 1, 2, 3], [], 3, 3, []⟩]⟩
def baseFs : List SF := [baseM, baseF]
end Go.Proofs.Ytglobeajmdieaaa
namespace Go.Proofs.Ytglobeajmdieaaa
set_option linter.unusedVariables false
set_option linter.unusedSimpArgs false
open Go.RowKit

/-- Blocks laid down one by one. -/
def allocs (w : World) : List Obj → World
  | [] => w
  | o :: os => allocs (w.alloc o) os
theorem allocs_size (os : List Obj) : ∀ w : World, (allocs w os).heap.size = w.heap.size + os.length := by
  induction os with
  | nil => intro w; rfl
  | cons o os ih => intro w; unfold allocs; rw [ih]; simp; omega
theorem allocs_below (os : List Obj) : ∀ (B : Nat) (w : World), B ≤ w.heap.size → Below B w (allocs w os) := by
  induction os with
  | nil => intro B w _; exact Below.refl _ _
  | cons o os ih =>
    intro B w h
    unfold allocs
    exact ((Below.refl B w).alloc h o).trans (ih B (w.alloc o) (by simp; omega))
theorem allocs_at (os : List Obj) : ∀ (w : World) (k : Nat) (x : Array Value) (T : TypeId), os[k]? = some (.cells x T) → (allocs w os).heap[w.heap.size + k]? = some (.cells x T (0, 0)) := by
  induction os with
  | nil => intro w k x T h; cases h
  | cons o os ih =>
    intro w k x T h
    unfold allocs
    cases k with
    | zero =>
      injection h with h
      subst h
      have hb := allocs_below os (w.alloc (.cells x T)).heap.size (w.alloc (.cells x T)) (Nat.le_refl _)
      exact (hb.block w.heap.size (by simp)).trans (heap_alloc_new w _)
    | succ k =>
      have := ih (w.alloc o) k x T h
      rw [show (w.alloc o).heap.size + k = w.heap.size + (k + 1) by simp; omega] at this
      exact this

theorem GNs.of {W : World} {b n0 : Nat} {T : TypeId} (l : List Int) (h : W.heap[b]? = some (.cells (intsV l).toArray T (0, 0))) (hb : b < n0) : GNs n0 W (.slice (some ⟨b, 0, none⟩) l.length l.length) l := by
  refine ⟨_, _, rfl, fun _ => ⟨b, 0, rfl, hb, fun j x hx => ?_⟩⟩
  rw [Nat.zero_add, Lib.cell_of_heap h j]
  simp [intsV, hx]
theorem GNs.nil (n0 : Nat) (W : World) : GNs n0 W (.slice none 0 0) [] := ⟨none, 0, rfl, fun h => by simp at h⟩

def insRow : List (SIn × Value) → List Value
  | [] => []
  | (d, av) :: r => .int .i64 d.op :: .int .i64 d.ty :: av :: .int .i64 d.n :: .int .i64 d.to_ :: insRow r
def insHas (n0 : Nat) (W : World) : List (SIn × Value) → Prop
  | [] => True
  | (d, av) :: r => GNs n0 W av d.args ∧ insHas n0 W r
theorem insRow_at : ∀ (l : List (SIn × Value)) (j : Nat) (d : SIn) (av : Value), l[j]? = some (d, av) →
    (insRow l)[j * 5]? = some (.int .i64 d.op) ∧ (insRow l)[j * 5 + 1]? = some (.int .i64 d.ty) ∧ (insRow l)[j * 5 + 2]? = some av ∧ (insRow l)[j * 5 + 3]? = some (.int .i64 d.n) ∧ (insRow l)[j * 5 + 4]? = some (.int .i64 d.to_)
  | [], j, d, av, h => by cases h
  | (d', av') :: r, 0, d, av, h => by
    injection h with h
    injection h with h1 h2
    subst h1; subst h2
    exact ⟨rfl, rfl, rfl, rfl, rfl⟩
  | p :: r, j + 1, d, av, h => by
    have := insRow_at r j d av h
    obtain ⟨d', av'⟩ := p
    rw [show (j + 1) * 5 = j * 5 + 5 by omega]
    exact this
theorem insHas_at {n0 : Nat} {W : World} : ∀ {l : List (SIn × Value)}, insHas n0 W l → ∀ {j : Nat} {d : SIn} {av : Value}, l[j]? = some (d, av) → GNs n0 W av d.args
  | [], _, j, d, av, h => by cases h
  | p :: r, hg, 0, d, av, h => by injection h with h; subst h; exact hg.1
  | p :: r, hg, j + 1, d, av, h => insHas_at (l := r) (by obtain ⟨d', av'⟩ := p; exact hg.2) h
theorem SIs.of {W : World} {b n0 : Nat} {T : TypeId} (l : List (SIn × Value)) (h : W.heap[b]? = some (.cells (insRow l).toArray T (0, 0))) (hb : b < n0) (hg : insHas n0 W l) : SIs n0 W (.slice (some ⟨b, 0, none⟩) l.length l.length) (l.map Prod.fst) := by
  refine ⟨some ⟨b, 0, none⟩, l.length, by rw [List.length_map], fun _ => ⟨b, 0, rfl, hb, fun j d hd => ?_⟩⟩
  rw [List.getElem?_map] at hd
  cases hl : l[j]? with
  | none => rw [hl] at hd; cases hd
  | some p =>
    obtain ⟨d', av⟩ := p
    rw [hl] at hd
    injection hd with hd
    subst hd
    obtain ⟨h0, h1, h2, h3, h4⟩ := insRow_at l j d' av hl
    have c : ∀ q, W.cell? ⟨b, 0 + q, none⟩ = (insRow l)[q]? := fun q => by rw [Nat.zero_add, Lib.cell_of_heap h q, List.getElem?_toArray]
    refine ⟨av, ?_, ?_, ?_, ?_, ?_, insHas_at hg hl⟩
    · rw [c, h0]
    · rw [show 0 + j * 5 + 1 = 0 + (j * 5 + 1) by omega, c, h1]
    · rw [show 0 + j * 5 + 2 = 0 + (j * 5 + 2) by omega, c, h2]
    · rw [show 0 + j * 5 + 3 = 0 + (j * 5 + 3) by omega, c, h3]
    · rw [show 0 + j * 5 + 4 = 0 + (j * 5 + 4) by omega, c, h4]

structure BV where
  l : Value
  p : Value
  t : Value
def blkRow : List (SB × BV) → List Value
  | [] => []
  | (d, v) :: r => v.l :: v.p :: .int .i64 d.kind :: .int .i64 d.arg :: v.t :: blkRow r
def blkHas (n0 : Nat) (W : World) : List (SB × BV) → Prop
  | [] => True
  | (d, v) :: r => (GNs n0 W v.l d.list ∧ GNs n0 W v.p d.preds ∧ GNs n0 W v.t d.to_) ∧ blkHas n0 W r
theorem blkRow_at : ∀ (l : List (SB × BV)) (j : Nat) (d : SB) (v : BV), l[j]? = some (d, v) →
    (blkRow l)[j * 5]? = some v.l ∧ (blkRow l)[j * 5 + 1]? = some v.p ∧ (blkRow l)[j * 5 + 2]? = some (.int .i64 d.kind) ∧ (blkRow l)[j * 5 + 3]? = some (.int .i64 d.arg) ∧ (blkRow l)[j * 5 + 4]? = some v.t
  | [], j, d, v, h => by cases h
  | (d', v') :: r, 0, d, v, h => by
    injection h with h
    injection h with h1 h2
    subst h1; subst h2
    exact ⟨rfl, rfl, rfl, rfl, rfl⟩
  | p :: r, j + 1, d, v, h => by
    have := blkRow_at r j d v h
    obtain ⟨d', v'⟩ := p
    rw [show (j + 1) * 5 = j * 5 + 5 by omega]
    exact this
theorem blkHas_at {n0 : Nat} {W : World} : ∀ {l : List (SB × BV)}, blkHas n0 W l → ∀ {j : Nat} {d : SB} {v : BV}, l[j]? = some (d, v) → GNs n0 W v.l d.list ∧ GNs n0 W v.p d.preds ∧ GNs n0 W v.t d.to_
  | [], _, j, d, av, h => by cases h
  | p :: r, hg, 0, d, v, h => by injection h with h; subst h; exact hg.1
  | p :: r, hg, j + 1, d, v, h => blkHas_at (l := r) (by obtain ⟨d', v'⟩ := p; exact hg.2) h
theorem SBs.of {W : World} {b n0 : Nat} {T : TypeId} (l : List (SB × BV)) (h : W.heap[b]? = some (.cells (blkRow l).toArray T (0, 0))) (hb : b < n0) (hg : blkHas n0 W l) : SBs n0 W (.slice (some ⟨b, 0, none⟩) l.length l.length) (l.map Prod.fst) := by
  refine ⟨some ⟨b, 0, none⟩, l.length, by rw [List.length_map], fun _ => ⟨b, 0, rfl, hb, fun j d hd => ?_⟩⟩
  rw [List.getElem?_map] at hd
  cases hl : l[j]? with
  | none => rw [hl] at hd; cases hd
  | some p =>
    obtain ⟨d', v⟩ := p
    rw [hl] at hd
    injection hd with hd
    subst hd
    obtain ⟨h0, h1, h2, h3, h4⟩ := blkRow_at l j d' v hl
    obtain ⟨g0, g1, g2⟩ := blkHas_at hg hl
    have c : ∀ q, W.cell? ⟨b, 0 + q, none⟩ = (blkRow l)[q]? := fun q => by rw [Nat.zero_add, Lib.cell_of_heap h q, List.getElem?_toArray]
    refine ⟨v.l, v.p, v.t, ?_, ?_, ?_, ?_, ?_, g0, g1, g2⟩
    · rw [c, h0]
    · rw [show 0 + j * 5 + 1 = 0 + (j * 5 + 1) by omega, c, h1]
    · rw [show 0 + j * 5 + 2 = 0 + (j * 5 + 2) by omega, c, h2]
    · rw [show 0 + j * 5 + 3 = 0 + (j * 5 + 3) by omega, c, h3]
    · rw [show 0 + j * 5 + 4 = 0 + (j * 5 + 4) by omega, c, h4]
theorem SBs.take {n0 : Nat} {w : World} {A : Option Addr} {n c : Nat} {l : List SB} (k : Nat) (h : SBs n0 w (.slice A n c) l) (hk : k ≤ l.length) : SBs n0 w (.slice A k c) (l.take k) := by
  obtain ⟨A', c', hv, hr⟩ := h
  injection hv with e1 e2 e3
  subst e1; subst e3
  refine ⟨_, _, by rw [List.length_take, Nat.min_eq_left hk], fun hp => ?_⟩
  rw [List.length_take, Nat.min_eq_left hk] at hp
  obtain ⟨b, o, hA, hbn, hc⟩ := hr (by omega)
  refine ⟨b, o, hA, hbn, fun j d hd => hc j d ?_⟩
  rw [List.getElem?_take] at hd
  split at hd
  · exact hd
  · cases hd

structure FV where
  s : ByteArray
  p : Value
  i : Value
  b : Value
def funRow : List (SF × FV) → List Value
  | [] => []
  | (d, v) :: r => .string v.s :: v.p :: .int .i64 d.ret :: v.i :: v.b :: funRow r
def funHas (n0 : Nat) (W : World) : List (SF × FV) → Prop
  | [] => True
  | (d, v) :: r => (GNs n0 W v.p d.params ∧ SIs n0 W v.i d.ins ∧ SBs n0 W v.b d.blocks) ∧ funHas n0 W r
theorem funRow_at : ∀ (l : List (SF × FV)) (j : Nat) (d : SF) (v : FV), l[j]? = some (d, v) →
    (funRow l)[j * 5]? = some (.string v.s) ∧ (funRow l)[j * 5 + 1]? = some v.p ∧ (funRow l)[j * 5 + 2]? = some (.int .i64 d.ret) ∧ (funRow l)[j * 5 + 3]? = some v.i ∧ (funRow l)[j * 5 + 4]? = some v.b
  | [], j, d, v, h => by cases h
  | (d', v') :: r, 0, d, v, h => by
    injection h with h
    injection h with h1 h2
    subst h1; subst h2
    exact ⟨rfl, rfl, rfl, rfl, rfl⟩
  | p :: r, j + 1, d, v, h => by
    have := funRow_at r j d v h
    obtain ⟨d', v'⟩ := p
    rw [show (j + 1) * 5 = j * 5 + 5 by omega]
    exact this
theorem funHas_at {n0 : Nat} {W : World} : ∀ {l : List (SF × FV)}, funHas n0 W l → ∀ {j : Nat} {d : SF} {v : FV}, l[j]? = some (d, v) → GNs n0 W v.p d.params ∧ SIs n0 W v.i d.ins ∧ SBs n0 W v.b d.blocks
  | [], _, j, d, av, h => by cases h
  | p :: r, hg, 0, d, v, h => by injection h with h; subst h; exact hg.1
  | p :: r, hg, j + 1, d, v, h => funHas_at (l := r) (by obtain ⟨d', v'⟩ := p; exact hg.2) h
theorem funHas_keep {n0 : Nat} {W W' : World} (hb : Below n0 W W') : ∀ {l : List (SF × FV)}, funHas n0 W l → funHas n0 W' l
  | [], _ => trivial
  | p :: r, h => by
    obtain ⟨d, v⟩ := p
    exact ⟨⟨h.1.1.keep hb, h.1.2.1.keep hb, h.1.2.2.keep hb⟩, funHas_keep hb h.2⟩
theorem SFs.of {W : World} {b n0 n1 : Nat} {T : TypeId} (l : List (SF × FV)) (h : W.heap[b]? = some (.cells (funRow l).toArray T (0, 0))) (hb : b < n1) (hn : n0 ≤ n1) (hg : funHas n0 W l) : SFs n1 W (.slice (some ⟨b, 0, none⟩) l.length l.length) (l.map Prod.fst) := by
  refine ⟨some ⟨b, 0, none⟩, l.length, by rw [List.length_map], fun _ => ⟨b, 0, rfl, hb, fun j d hd => ?_⟩⟩
  rw [List.getElem?_map] at hd
  cases hl : l[j]? with
  | none => rw [hl] at hd; cases hd
  | some p =>
    obtain ⟨d', v⟩ := p
    rw [hl] at hd
    injection hd with hd
    subst hd
    obtain ⟨h0, h1, h2, h3, h4⟩ := funRow_at l j d' v hl
    obtain ⟨g0, g1, g2⟩ := funHas_at hg hl
    have c : ∀ q, W.cell? ⟨b, 0 + q, none⟩ = (funRow l)[q]? := fun q => by rw [Nat.zero_add, Lib.cell_of_heap h q, List.getElem?_toArray]
    refine ⟨v.s, v.p, v.i, v.b, ?_, ?_, ?_, ?_, ?_, g0.mono hn, g1.mono hn, g2.mono hn⟩
    · rw [c, h0]
    · rw [show 0 + j * 5 + 1 = 0 + (j * 5 + 1) by omega, c, h1]
    · rw [show 0 + j * 5 + 2 = 0 + (j * 5 + 2) by omega, c, h2]
    · rw [show 0 + j * 5 + 3 = 0 + (j * 5 + 3) by omega, c, h3]
    · rw [show 0 + j * 5 + 4 = 0 + (j * 5 + 4) by omega, c, h4]
end Go.Proofs.Ytglobeajmdieaaa
