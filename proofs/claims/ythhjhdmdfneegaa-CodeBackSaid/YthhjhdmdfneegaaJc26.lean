/-
  Which programs may be, by the reference: blocks.
  Which programs may be, by the reference: whence blocks are come to.
  Which programs may be, by the reference: where instructions stand.
-/
import Derived.Test.YthhjhdmdfneegaaJc25
import Derived.StillTailTactics
namespace Go.Proofs.Ythhjhdmdfneegaa
set_option linter.unusedVariables false
set_option linter.unusedSimpArgs false
open Go.RowKit

set_option maxRecDepth 100000 in
set_option maxHeartbeats 16000000 in
theorem shape_c (n0 : Nat) (V : RV) (f : SF) (w : World) (h : FA n0 V f w) (hs : FS f) (hn : n0 ≤ w.heap.size) :
    Calls Try.prog 26 #[.agg V.cs] w (BP (0 < f.blocks.length ∧ ∀ k ∈ f.blocks, EndOk f k.kind k.arg k.to_) w) := by
  obtain ⟨W, hW, hbW, hzW, h0W⟩ := gr_one w V.cs 43
  have hbl := h.bl
  have hE := fun (kind arg : Int) (tA : Option Addr) (tn tc : Nat) (to_ : List Int) (X : World) (hX : Below w.heap.size w X) (ht : GNs n0 X (.slice tA tn tc) to_) (htn : tn ≤ 1000) => end_c n0 V f kind arg tA tn tc to_ X (h.keep (hX.mono hn)) ht (Nat.le_trans hn hX.size) htn
  have HS : Hid (∀ X, Below W.heap.size W X → SBs n0 X (.slice V.bA V.bn V.bc) f.blocks) := Lib.hid fun X hX => h.b.keep ((hbW.trans (hX.mono (by omega))).mono hn)
  obtain ⟨nm, pA, pn, pc, rt, iA, in_, ic, bA, bn, bc⟩ := V
  simp only at hbl HS
  unfold RV.cs at hE h0W hW ⊢
  simp only at hE h0W hW ⊢
  have HC : Hid (∀ X, Below W.heap.size W X → X.cell? ⟨w.heap.size, 0, none⟩ = some (.string nm) ∧ X.cell? ⟨w.heap.size, 1, none⟩ = some (.slice pA pn pc) ∧ X.cell? ⟨w.heap.size, 2, none⟩ = some (.int .i64 rt) ∧ X.cell? ⟨w.heap.size, 3, none⟩ = some (.slice iA in_ ic) ∧ X.cell? ⟨w.heap.size, 4, none⟩ = some (.slice bA bn bc)) := Lib.hid fun X hX => by
    obtain ⟨a, b, c, d, e, -⟩ := gr_five ((hX.block w.heap.size (by omega)).trans h0W)
    exact ⟨a, b, c, d, e⟩
  have HB0 : Hid (∀ X, Below W.heap.size W X → Below w.heap.size w X) := Lib.hid fun X hX => hbW.trans (hX.mono (by omega))
  have HW := Lib.hid hW
  have Hbl := Lib.hid hbl
  have Htos := Lib.hid hs.tos
  have hbb : bn ≤ 1000 := by rw [hbl]; exact hs.b
  have HE := Lib.hid hE
  clear hW hbW hzW h0W hbl h hE
  go_enter Try.func26, Try.ntmps26
  go_upto_region 1 with fail
  rw [← HW.out]
  go_wp2_with fail
  go_loopw [3] (fun u3 wr => ∃ i : Nat, i ≤ bn ∧ u3 = .int .i64 (i : Int) ∧ Hid (Below W.heap.size W wr) ∧ Hid (∀ k ∈ f.blocks.take i, EndOk f k.kind k.arg k.to_)) (fun u3 _ => bn - (intOf u3).toNat)
  case atStart => exact ⟨0, Nat.zero_le _, rfl, Lib.hid (Below.refl _ _), Lib.hid (by simp)⟩
  case round =>
    obtain ⟨i, hi, rfl, HB, HI⟩ := hrel
    obtain ⟨wo, hwo⟩ : ∃ x, x = wr := ⟨_, rfl⟩
    rw [← hwo] at HB ⊢
    clear hwo
    obtain ⟨c0, c1, c2, c3, c4⟩ := HC.out wo HB.out
    by_cases hlt : i < bn
    · have hil : i < f.blocks.length := by rw [← Hbl.out]; exact hlt
      obtain ⟨gb, go, lA, lc, qA, qc, tA, tc, rfl, -, x0, x1, x2, x3, x4, -, -, g3⟩ := (HS.out wo HB.out).at hil
      have hm := fun hp => take_more HI.out hil hp
      have htn := Htos.out _ (List.getElem_mem hil)
      obtain ⟨k, hk⟩ : ∃ k, k = f.blocks[i] := ⟨_, rfl⟩
      rw [← hk] at x0 x1 x2 x3 x4 g3 hm htn
      obtain ⟨kl, kp, kk, ka, kt⟩ := k
      simp only at x0 x1 x2 x3 x4 g3 hm htn
      obtain ⟨tn, htn'⟩ : ∃ n, n = kt.length := ⟨_, rfl⟩
      rw [← htn'] at x4 g3 htn
      have hd : Below wo.heap.size wo wo.drew := (Below.refl _ _).drew
      have hC := HE.out kk ka tA tn tc kt wo.drew ((HB0.out wo HB.out).drew) (g3.keep (by exact Below.drew (Below.refl _ _))) htn
      have Hm := Lib.hid hm
      clear hk htn' hil hm g3 htn hd
      go_upto_region 4 with fail
      go_still_tail 7, (by kernel_rfl)
      change wpList _ _ _ _ _ wo.drew
      go_wp2_with (go_at_call 52; refine hC.mono ?_; rintro e w3 ⟨r, rfl, h3, hp⟩; have HB3 : Hid (Below W.heap.size W w3) := Lib.hid (HB.out.drew.trans (h3.mono HB.out.size)); have HP := Lib.hid hp; clear hC h3 hp c0 c1 c2 c3 c4 x0 x1 x2 x3 x4; cases r)
      · go_ret
        exact BP.no (HB0.out _ HB3.out)
      · go_roundw
        case rel => exact ⟨i + 1, by omega, by go_num, HB3, Lib.hid (Hm.out (HP.out trivial))⟩
        case measure => simp [intOf]; omega
    · have hie : i = f.blocks.length := by rw [← Hbl.out]; omega
      have HA : Hid (0 < bn → 0 < f.blocks.length ∧ ∀ k ∈ f.blocks, EndOk f k.kind k.arg k.to_) := Lib.hid fun h => ⟨by rw [← Hbl.out]; exact h, by have := HI.out; rw [hie, List.take_length] at this; exact this⟩
      clear hie c0 c1 c2 c3
      go_wp2_with fail
      go_ret
      exact ⟨_, rfl, HB0.out _ HB.out, fun e => HA.out (by simpa using e)⟩
end Go.Proofs.Ythhjhdmdfneegaa
namespace Go.Proofs.Ythhjhdmdfneegaa
set_option linter.unusedVariables false
set_option linter.unusedSimpArgs false
open Go.RowKit

/-- How many are from 0 on, and below. -/
def cntB (l : List Int) (j : Nat) : Nat := l.countP fun x => decide (0 ≤ x ∧ x < (j : Int))
theorem cntB_more (l : List Int) (j : Nat) : cntB l (j + 1) = cntB l j + timesQ l (j : Int) := by
  unfold cntB timesQ
  induction l with
  | nil => rfl
  | cons x l ih =>
    rw [List.countP_cons, List.countP_cons, List.countP_cons, ih]
    by_cases e : x = (j : Int)
    · subst e
      have h1 : decide ((0 : Int) ≤ (j : Int) ∧ (j : Int) < ((j + 1 : Nat) : Int)) = true := by simp; omega
      have h2 : decide ((0 : Int) ≤ (j : Int) ∧ (j : Int) < (j : Int)) = false := by simp
      rw [h1, h2]
      simp
      omega
    · have h1 : decide (0 ≤ x ∧ x < ((j + 1 : Nat) : Int)) = decide (0 ≤ x ∧ x < (j : Int)) := by
        have : (0 ≤ x ∧ x < ((j + 1 : Nat) : Int)) ↔ (0 ≤ x ∧ x < (j : Int)) := by omega
        simp only [this]
      rw [h1]
      have h2 : (x == (j : Int)) = false := by simp [e]
      rw [h2]
      simp
      omega
theorem cntB_le (l : List Int) (j : Nat) : cntB l j ≤ l.length := List.countP_le_length
theorem cntB_all {l : List Int} {j : Nat} (h : cntB l j = l.length) : ∀ x ∈ l, 0 ≤ x ∧ x < (j : Int) := fun x hx => by
  have := List.countP_eq_length.mp h x hx
  simpa using this
def PredOk (n : Nat) (k : SB) : Prop := ∀ x ∈ k.preds, 0 ≤ x ∧ x < (n : Int)
set_option maxRecDepth 100000 in
set_option maxHeartbeats 16000000 in
theorem preds_c (n0 : Nat) (V : RV) (f : SF) (w : World) (h : FA n0 V f w) (hs : FS f) (hn : n0 ≤ w.heap.size) :
    Calls Try.prog 27 #[.agg V.cs] w (BP (∀ k ∈ f.blocks, PredOk f.blocks.length k) w) := by
  obtain ⟨W, hW, hbW, hzW, h0W⟩ := gr_one w V.cs 43
  have hbl := h.bl
  have hil := h.il
  have hFW := h.keep (hbW.mono hn)
  have HFA : Hid (∀ X, Below W.heap.size W X → FA n0 V f X) := Lib.hid fun X hX => h.keep ((hbW.trans (hX.mono (by omega))).mono hn)
  have hS := hFW.b
  have hI := hFW.i
  obtain ⟨nm, pA, pn, pc, rt, iA, in_, ic, bA, bn, bc⟩ := V
  simp only at hbl hil hS hI
  unfold RV.cs at h0W hW ⊢
  simp only at h0W hW ⊢
  have HC : Hid (∀ X, Below W.heap.size W X → X.cell? ⟨w.heap.size, 0, none⟩ = some (.string nm) ∧ X.cell? ⟨w.heap.size, 1, none⟩ = some (.slice pA pn pc) ∧ X.cell? ⟨w.heap.size, 2, none⟩ = some (.int .i64 rt) ∧ X.cell? ⟨w.heap.size, 3, none⟩ = some (.slice iA in_ ic) ∧ X.cell? ⟨w.heap.size, 4, none⟩ = some (.slice bA bn bc)) := Lib.hid fun X hX => by
    obtain ⟨a, b, c, d, e, -⟩ := gr_five ((hX.block w.heap.size (by omega)).trans h0W)
    exact ⟨a, b, c, d, e⟩
  have HB0 : Hid (∀ X, Below W.heap.size W X → Below w.heap.size w X) := Lib.hid fun X hX => hbW.trans (hX.mono (by omega))
  have HW := Lib.hid hW
  have Hbl := Lib.hid hbl
  have Hil := Lib.hid hil
  have HS := Lib.hid hS
  have HI := Lib.hid hI
  have hn1 : n0 ≤ W.heap.size := by omega
  have hbb : bn ≤ 1000 := by rw [hbl]; exact hs.b
  have hib : in_ ≤ 1000 := by rw [hil]; exact hs.i
  have Hs := Lib.hid hs
  obtain ⟨c0, c1, c2, c3, c4⟩ := HC.out W (Below.refl _ _)
  clear hW hbW h0W hbl hil h hS hI hs hFW
  have hT := fun (A : Option Addr) (m c : Nat) (l : List Int) (n : Int) (hg : GNs n0 W (.slice A m c) l) (hm : m ≤ 1000) => times_c n0 A m c l n W hg hn1 hm
  have HT := Lib.hid hT
  have HBW := Lib.hid (HB0.out W (Below.refl _ _))
  clear hT HFA
  go_enter Try.func27, Try.ntmps27
  go_upto_region 1 with fail
  rw [← HW.out]
  go_wp2_with fail
  go_loopw [3] (fun u3 wr => ∃ i : Nat, i ≤ bn ∧ u3 = .int .i64 (i : Int) ∧ wr = W ∧ Hid (∀ k ∈ f.blocks.take i, PredOk bn k)) (fun u3 _ => bn - (intOf u3).toNat)
  case atStart => exact ⟨0, Nat.zero_le _, rfl, rfl, Lib.hid (by simp)⟩
  case round =>
    obtain ⟨i, hi, rfl, hw, HO⟩ := hrel
    rw [hw]
    clear hw
    by_cases hlt : i < bn
    · have hil : i < f.blocks.length := by rw [← Hbl.out]; exact hlt
      obtain ⟨gb, go, lA, lc, qA, qc, tA, tc, e1, -, -, x1, -, -, -, -, g2, -⟩ := HS.out.at hil
      have hm := fun hp => take_more HO.out hil hp
      have hql := Hs.out.preds _ (List.getElem_mem hil)
      obtain ⟨k, hk⟩ : ∃ k, k = f.blocks[i] := ⟨_, rfl⟩
      rw [← hk] at x1 g2 hm hql
      have hmm : (∀ x ∈ k.preds, 0 ≤ x ∧ x < (bn : Int)) → ∀ k ∈ f.blocks.take (i + 1), PredOk bn k := hm
      obtain ⟨kl, kp, kk, ka, kt⟩ := k
      simp only at x1 g2 hmm hql
      obtain ⟨qn, hqn⟩ : ∃ n, n = kp.length := ⟨_, rfl⟩
      rw [← hqn] at x1 g2
      have hqn1 : qn ≤ 1000 := by omega
      have Hm := Lib.hid hmm
      have Hqn := Lib.hid hqn
      have HG2 := Lib.hid g2
      subst e1
      clear hk hil hm hqn g2 hql hmm
      go_wp2_with fail
      go_loopw [4, 5] (fun u4 u5 wr => ∃ j : Nat, j ≤ bn ∧ u5 = .int .i64 (j : Int) ∧ u4 = .int .i64 (cntB kp j : Int) ∧ wr = W) (fun _ u5 _ => bn - (intOf u5).toNat)
      case atStart => exact ⟨0, Nat.zero_le _, rfl, by
        have : cntB kp 0 = 0 := by
          unfold cntB
          rw [List.countP_eq_zero]
          intro x hx
          simp
        rw [this]; rfl, rfl⟩
      case round =>
        obtain ⟨j, hj, rfl, rfl, hw⟩ := hrel
        rw [hw]
        clear hw
        by_cases hjt : j < bn
        · have hjl : j < f.blocks.length := by rw [← Hbl.out]; exact hjt
          obtain ⟨gb2, go2, lA2, lc2, qA2, qc2, tA2, tc2, e2, -, -, -, -, -, y4, -, -, g3⟩ := HS.out.at hjl
          injection e2 with e2
          injection e2 with e2 e3
          subst e2 e3
          have htl := Hs.out.tos _ (List.getElem_mem hjl)
          obtain ⟨kt2, hkt2⟩ : ∃ k, k = f.blocks[j].to_ := ⟨_, rfl⟩
          rw [← hkt2] at y4 g3 htl
          obtain ⟨tn, htn⟩ : ∃ n, n = kt2.length := ⟨_, rfl⟩
          rw [← htn] at y4 g3 htl
          have h1 := HT.out tA2 tn tc2 kt2 (i : Int) g3 htl
          have h2 := HT.out qA qn qc kp (j : Int) HG2.out hqn1
          have l1 := timesQ_le kt2 (i : Int)
          have l2 := cntB_le kp j
          have l3 := cntB_more kp j
          have l4 := Hqn.out
          obtain ⟨t1, ht1⟩ : ∃ t, t = timesQ kt2 (i : Int) := ⟨_, rfl⟩
          obtain ⟨t2, ht2⟩ : ∃ t, t = timesQ kp (j : Int) := ⟨_, rfl⟩
          obtain ⟨q, hq⟩ : ∃ q, q = cntB kp j := ⟨_, rfl⟩
          rw [← ht1] at h1 l1
          rw [← ht2] at h2 l3
          rw [← hq] at l2 l3 ⊢
          have hw1 : wrap64 ((q : Int) + (t1 : Int)) = (q : Int) + (t1 : Int) := IntWalk.wrap64_in _ (by omega)
          have L3 := Lib.hid l3
          clear ht1 ht2 hq hkt2 htn hjl g3 l1 l2 l3 l4 htl
          by_cases e : t2 = t1
          · subst e
            go_wp2_with (first | (go_at_call 53; refine h1.mono ?_; rintro e w3 ⟨rfl, rfl⟩; clear h1) | (go_at_call 53; refine h2.mono ?_; rintro e w3 ⟨rfl, rfl⟩; clear h2))
            go_roundw
            case rel => exact ⟨j + 1, by omega, by go_num, by rw [L3.out]; go_num, trivial⟩
            case measure => simp [intOf]; omega
          · have e' : ¬ (t2 : Int) = (t1 : Int) := by omega
            go_wp2_with (first | (go_at_call 53; refine h1.mono ?_; rintro e w3 ⟨rfl, rfl⟩; clear h1) | (go_at_call 53; refine h2.mono ?_; rintro e w3 ⟨rfl, rfl⟩; clear h2))
            go_ret
            exact BP.no HBW.out
        · have hje : j = bn := by omega
          subst hje
          obtain ⟨q, hq⟩ : ∃ q, q = cntB kp j := ⟨_, rfl⟩
          rw [← hq]
          have Hq := Lib.hid hq
          clear hq
          by_cases e : q = qn
          · subst e
            have HF : Hid (∀ x ∈ kp, 0 ≤ x ∧ x < (j : Int)) := Lib.hid (cntB_all (by rw [← Hq.out, Hqn.out]))
            go_wp2_with fail
            go_roundw
            case rel => exact ⟨i + 1, by omega, by go_num, trivial, Lib.hid (Hm.out HF.out)⟩
            case measure => simp [intOf]; omega
          · have e' : ¬ (q : Int) = (qn : Int) := by omega
            go_wp2_with fail
            go_ret
            exact BP.no HBW.out
    · have hie : i = f.blocks.length := by rw [← Hbl.out]; omega
      have HA : Hid (∀ k ∈ f.blocks, PredOk f.blocks.length k) := Lib.hid (by have := HO.out; rw [hie, List.take_length, Hbl.out] at this; exact this)
      clear hie
      go_wp2_with fail
      go_ret
      exact BP.yes _ HBW.out HA.out
end Go.Proofs.Ythhjhdmdfneegaa
namespace Go.Proofs.Ythhjhdmdfneegaa
set_option linter.unusedVariables false
set_option linter.unusedSimpArgs false
open Go.RowKit Go.Shelf

theorem makeQ (n : Nat) (hn : n ≤ 1048576) (W : World) : (Instr.makeSlice 39 (.int .i64 (n : Int)) (.int .i64 (n : Int))).run Try.prog W = .ok (.slice (some ⟨W.heap.size, 0, none⟩) n n) (W.alloc (.cells (intsV (List.replicate n 0)).toArray 3)) := by
  obtain ⟨i0, hi0, hz0, hz1, hz2⟩ := info_parts infoIntQ
  have h := run_make (w := W) (P := Try.prog) 39 3 i0 (.int .i64 0) Try.underlying39 hi0 hz0 .i64 .i64 (n : Int) (n : Int) (by omega) (by omega) (by rw [hz2]; omega) (by omega)
  have e : intsV (List.replicate n 0) = (madeCells #[Value.int .i64 0] n).toList := by rw [madeInt]; simp [intsV]
  rw [h, Int.toNat_natCast, hz1, Nat.mul_one, e, Array.toArray_toList]
  rfl
/-- A row of counts in its block. -/
structure LM (in_ c mb : Nat) (X : World) (ms : List Int) : Prop where
  h : X.heap[mb]? = some (.cells (intsV ms).toArray 3 (0, 0))
  l : ms.length = in_
  b : ∀ v ∈ ms, 0 ≤ v ∧ v ≤ (c : Int)
theorem LM.at {in_ c mb : Nat} {X : World} {ms : List Int} (h : LM in_ c mb X ms) {j : Nat} (hj : j < in_) : ∃ v, ms[j]? = some v ∧ 0 ≤ v ∧ v ≤ (c : Int) ∧ X.cell? ⟨mb, j, none⟩ = some (.int .i64 v) ∧ X.frozen? ⟨mb, j, none⟩ = false := by
  have hjl : j < ms.length := by rw [h.l]; exact hj
  refine ⟨ms[j], List.getElem?_eq_getElem hjl, (h.b _ (List.getElem_mem hjl)).1, (h.b _ (List.getElem_mem hjl)).2, ?_, Lib.frozen_of_heap h.h j⟩
  rw [Lib.cell_of_heap h.h j]
  simp [intsV, List.getElem?_eq_getElem hjl]
theorem LM.put {in_ c mb : Nat} {X : World} {ms : List Int} (h : LM in_ c mb X ms) (j : Nat) (x : Int) (hx : 0 ≤ x ∧ x ≤ ((c + 1 : Nat) : Int)) : LM in_ (c + 1) mb (X.setCell ⟨mb, j, none⟩ (.int .i64 x)) (ms.set j x) := by
  refine ⟨?_, by rw [List.length_set, h.l], fun v hv => ?_⟩
  · have := gr_put h.h j (.int .i64 x)
    rw [this]
    simp [intsV, List.map_set]
  · rcases List.mem_or_eq_of_mem_set hv with h1 | h1
    · have := h.b v h1; omega
    · rw [h1]; exact hx
/-- Seen, and counted. -/
def Cnt (ms : List Int) (in_ : Nat) (x : Int) : Prop := 0 ≤ x ∧ x < (in_ : Int) ∧ 1 ≤ ms.getD x.toNat 0
theorem Cnt.put {ms : List Int} {in_ j : Nat} {v x : Int} (h : Cnt ms in_ x) (hl : ms.length = in_) (hv : ms[j]? = some v) (h0 : 0 ≤ v) : Cnt (ms.set j (v + 1)) in_ x := by
  obtain ⟨h1, h2, h3⟩ := h
  refine ⟨h1, h2, ?_⟩
  by_cases e : j = x.toNat
  · subst e
    have : x.toNat < ms.length := by omega
    simp [List.getD, this]
    omega
  · simpa [List.getD, List.getElem?_set, e] using h3
theorem Cnt.new {ms : List Int} {in_ j : Nat} {v : Int} (hl : ms.length = in_) (hj : j < in_) (h0 : 0 ≤ v) : Cnt (ms.set j (v + 1)) in_ (j : Int) := by
  refine ⟨by omega, by omega, ?_⟩
  have : j < ms.length := by omega
  simp [List.getD, this]
  omega
def ListOk (f : SF) (k : SB) : Prop := ∀ x ∈ k.list, 0 ≤ x ∧ x < (f.ins.length : Int) ∧ (f.ins.getD x.toNat ⟨0, 0, [], 0, 0⟩).op ≠ 0
set_option maxRecDepth 100000 in
set_option maxHeartbeats 16000000 in
theorem lists_c (n0 : Nat) (V : RV) (f : SF) (w : World) (h : FA n0 V f w) (hs : FS f) (hn : n0 ≤ w.heap.size) :
    Calls Try.prog 28 #[.agg V.cs] w (BP (∀ k ∈ f.blocks, ListOk f k) w) := by
  obtain ⟨W, hW, hbW, hzW, h0W⟩ := gr_one w V.cs 43
  have hbl := h.bl
  have hil := h.il
  have hFW := h.keep (hbW.mono hn)
  have HFA : Hid (∀ X, Below W.heap.size W X → FA n0 V f X) := Lib.hid fun X hX => h.keep ((hbW.trans (hX.mono (by omega))).mono hn)
  have hS := hFW.b
  have hI := hFW.i
  obtain ⟨nm, pA, pn, pc, rt, iA, in_, ic, bA, bn, bc⟩ := V
  simp only at hbl hil hS hI
  unfold RV.cs at h0W hW ⊢
  simp only at h0W hW ⊢
  have HC : Hid (∀ X, Below W.heap.size W X → X.cell? ⟨w.heap.size, 0, none⟩ = some (.string nm) ∧ X.cell? ⟨w.heap.size, 1, none⟩ = some (.slice pA pn pc) ∧ X.cell? ⟨w.heap.size, 2, none⟩ = some (.int .i64 rt) ∧ X.cell? ⟨w.heap.size, 3, none⟩ = some (.slice iA in_ ic) ∧ X.cell? ⟨w.heap.size, 4, none⟩ = some (.slice bA bn bc)) := Lib.hid fun X hX => by
    obtain ⟨a, b, c, d, e, -⟩ := gr_five ((hX.block w.heap.size (by omega)).trans h0W)
    exact ⟨a, b, c, d, e⟩
  have HB0 : Hid (∀ X, Below W.heap.size W X → Below w.heap.size w X) := Lib.hid fun X hX => hbW.trans (hX.mono (by omega))
  have HW := Lib.hid hW
  have Hbl := Lib.hid hbl
  have Hil := Lib.hid hil
  have HS := Lib.hid hS
  have HI := Lib.hid hI
  have hn1 : n0 ≤ W.heap.size := by omega
  have hbb : bn ≤ 1000 := by rw [hbl]; exact hs.b
  have hib : in_ ≤ 1000 := by rw [hil]; exact hs.i
  have Hs := Lib.hid hs
  obtain ⟨c0, c1, c2, c3, c4⟩ := HC.out W (Below.refl _ _)
  clear hW hbW h0W hbl hil h hS hI hs hFW
  have hmk := fun X => makeQ in_ (by omega) X
  obtain ⟨Y, hY, hbY, hzY, h0Y⟩ := gr_one W (intsV (List.replicate in_ 0)).toArray 3
  have HY := Lib.hid hY
  obtain ⟨mb, hmb⟩ : ∃ m, m = w.heap.size + 1 := ⟨_, rfl⟩
  have hmW : mb = W.heap.size := by omega
  have HmW := Lib.hid hmW
  have HL0 : Hid (LM in_ 0 mb Y (List.replicate in_ 0)) := Lib.hid ⟨by rw [hmW]; exact h0Y, by simp, fun v hv => by rw [List.eq_of_mem_replicate hv]; omega⟩
  have HbY := Lib.hid hbY
  have HSX : Hid (∀ X, Below W.heap.size W X → SBs n0 X (.slice bA bn bc) f.blocks) := Lib.hid fun X hX => (HFA.out X hX).b
  have HIX : Hid (∀ X, Below W.heap.size W X → SIs n0 X (.slice iA in_ ic) f.ins) := Lib.hid fun X hX => (HFA.out X hX).i
  have Hmb := Lib.hid hmb
  clear hY hbY hzY h0Y HS HI HFA c0 c1 c2 c4
  go_enter Try.func28, Try.ntmps28
  go_upto_region 1 with fail
  rw [← HW.out]
  go_upto_region 2 with fail
  rw [← HY.out, ← Hmb.out]
  clear hmk hmb c3 hmW
  go_wp2_with fail
  go_loopw [4] (fun u4 wr => ∃ (i : Nat) (ms : List Int), i ≤ bn ∧ u4 = .int .i64 (i : Int) ∧ Hid (Below W.heap.size W wr) ∧ Hid (LM in_ (i * 1000) mb wr ms) ∧ Hid (∀ k ∈ f.blocks.take i, ∀ x ∈ k.list, Cnt ms in_ x)) (fun u4 _ => bn - (intOf u4).toNat)
  case atStart => exact ⟨0, _, Nat.zero_le _, rfl, HbY, HL0, Lib.hid (by simp)⟩
  case round =>
    obtain ⟨i, ms, hi, rfl, HB, HL, HO⟩ := hrel
    obtain ⟨wo, hwo⟩ : ∃ x, x = wr := ⟨_, rfl⟩
    rw [← hwo] at HB HL ⊢
    clear hwo
    obtain ⟨c0, c1, c2, c3, c4⟩ := HC.out wo HB.out
    clear c0 c1 c2
    by_cases hlt : i < bn
    · have hil : i < f.blocks.length := by rw [← Hbl.out]; exact hlt
      have hkl := Hs.out.lists _ (List.getElem_mem hil)
      have hcell := fun X hX => (HSX.out X hX).at hil
      have hm := fun (ms : List Int) (ho : ∀ k ∈ f.blocks.take i, ∀ x ∈ k.list, Cnt ms in_ x) hp => take_more (P := fun k : SB => ∀ x ∈ k.list, Cnt ms in_ x) ho hil hp
      obtain ⟨k, hk⟩ : ∃ k, k = f.blocks[i] := ⟨_, rfl⟩
      rw [← hk] at hcell hm hkl
      obtain ⟨kl, kp, kk, ka, kt⟩ := k
      simp only at hcell hm hkl
      obtain ⟨ln, hln⟩ : ∃ n, n = kl.length := ⟨_, rfl⟩
      rw [← hln] at hcell hkl
      have Hcell := Lib.hid hcell
      have Hm := Lib.hid hm
      have Hln := Lib.hid hln
      clear hk hil hm hcell hln c3
      go_wp2_with fail
      go_loopw [5] (fun u5 wr => ∃ (j : Nat) (ms : List Int), j ≤ ln ∧ u5 = .int .i64 (j : Int) ∧ Hid (Below W.heap.size W wr) ∧ Hid (LM in_ (i * 1000 + j) mb wr ms) ∧ Hid (∀ k ∈ f.blocks.take i, ∀ x ∈ k.list, Cnt ms in_ x) ∧ Hid (∀ x ∈ kl.take j, Cnt ms in_ x)) (fun u5 _ => ln - (intOf u5).toNat)
      case atStart => exact ⟨0, ms, Nat.zero_le _, rfl, HB, HL, HO, Lib.hid (by simp)⟩
      case round =>
        clear HB HL HO c4
        obtain ⟨j, ms, hj, rfl, HB, HL, HO, HO2⟩ := hrel
        obtain ⟨wi, hwi⟩ : ∃ x, x = wr := ⟨_, rfl⟩
        rw [← hwi] at HB HL ⊢
        clear hwi
        obtain ⟨c0, c1, c2, c3, c4⟩ := HC.out wi HB.out
        obtain ⟨gb, go, lA, lc, qA, qc, tA, tc, e1, -, x0, -, -, -, -, g1, -, -⟩ := Hcell.out wi HB.out
        subst e1
        clear c0 c1 c2 c3
        by_cases hjt : j < ln
        · have hjl : j < kl.length := by rw [← Hln.out]; exact hjt
          obtain ⟨lb, lo, rfl, -, y0⟩ := g1.at hjl
          have hmj := fun (ms : List Int) (ho : ∀ x ∈ kl.take j, Cnt ms in_ x) hp => take_more (P := fun x : Int => Cnt ms in_ x) ho hjl hp
          obtain ⟨x, hx⟩ : ∃ x, x = kl[j] := ⟨_, rfl⟩
          rw [← hx] at y0 hmj
          have Hmj := Lib.hid hmj
          clear hx hjl g1 hmj
          by_cases h1 : x < 0
          · go_wp2_with fail
            go_ret
            exact BP.no (HB0.out _ HB.out)
          · by_cases h2 : x < (in_ : Int)
            · obtain ⟨q, rfl⟩ : ∃ q : Nat, x = (q : Int) := ⟨x.toNat, by omega⟩
              have hq : q < in_ := by omega
              obtain ⟨v, hv, v0, v1, z0, z1⟩ := HL.out.at hq
              have hwv : wrap64 (v + 1) = v + 1 := IntWalk.wrap64_in _ (by omega)
              have HL2 := Lib.hid (HL.out.put q (v + 1) (by omega))
              have HB2 : Hid (Below W.heap.size W (wi.setCell ⟨mb, q, none⟩ (.int .i64 (v + 1)))) := Lib.hid (HB.out.setCell (p := ⟨mb, q, none⟩) (by show W.heap.size ≤ mb; rw [HmW.out]; exact Nat.le_refl _) _)
              have HO3 : Hid (∀ k ∈ f.blocks.take i, ∀ x ∈ k.list, Cnt (ms.set q (v + 1)) in_ x) := Lib.hid fun k hk x hx => (HO.out k hk x hx).put HL.out.l hv v0
              have HO4 : Hid (∀ x ∈ kl.take (j + 1), Cnt (ms.set q (v + 1)) in_ x) := Lib.hid (Hmj.out _ (fun x hx => (HO2.out x hx).put HL.out.l hv v0) (Cnt.new HL.out.l hq v0))
              clear hv
              go_wp2_with fail
              go_roundw
              case rel => exact ⟨j + 1, _, by omega, by go_num, HB2, HL2, HO3, HO4⟩
              case measure => simp [intOf]; omega
            · have h2' : (in_ : Int) ≤ x := by omega
              go_wp2_with fail
              go_ret
              exact BP.no (HB0.out _ HB.out)
        · have hje : j = kl.length := by rw [← Hln.out]; omega
          have HN : Hid (∀ k ∈ f.blocks.take (i + 1), ∀ x ∈ k.list, Cnt ms in_ x) := Lib.hid (Hm.out ms HO.out (by have := HO2.out; rw [hje, List.take_length] at this; exact this))
          have HL3 : Hid (LM in_ ((i + 1) * 1000) mb wi ms) := Lib.hid ⟨HL.out.h, HL.out.l, fun v hv => by have := HL.out.b v hv; omega⟩
          clear hje g1
          go_wp2_with fail
          go_roundw
          case rel => exact ⟨i + 1, ms, by omega, by go_num, HB, HL3, HN⟩
          case measure => simp [intOf]; omega
    · have hie : i = f.blocks.length := by rw [← Hbl.out]; omega
      have HA : Hid (∀ k ∈ f.blocks, ∀ x ∈ k.list, Cnt ms in_ x) := Lib.hid (by have := HO.out; rw [hie, List.take_length] at this; exact this)
      have hkeep := fun j (hj : j < in_) => HL.out.at hj
      have HK := Lib.hid hkeep
      have HLl := Lib.hid HL.out.l
      have HBB := Lib.hid (HB0.out _ HB.out)
      have HIw := Lib.hid (HIX.out wo HB.out)
      clear hie hkeep HO HL
      go_wp2_with fail
      go_loopw [7] (fun u7 wr => ∃ j : Nat, j ≤ in_ ∧ u7 = .int .i64 (j : Int) ∧ wr = wo ∧ Hid (∀ q < j, (f.ins.getD q ⟨0, 0, [], 0, 0⟩).op = 0 → ms.getD q 0 = 0)) (fun u7 _ => in_ - (intOf u7).toNat)
      case atStart => exact ⟨0, Nat.zero_le _, rfl, rfl, Lib.hid (by simp)⟩
      case round =>
        obtain ⟨j, hj, rfl, hw, HJ⟩ := hrel
        rw [hw]
        clear hw
        by_cases hjt : j < in_
        · have hjl : j < f.ins.length := by rw [← Hil.out]; exact hjt
          obtain ⟨gb, go, aA, ac, rfl, -, q0, -, -, -, -, -⟩ := HIw.out.at hjl
          obtain ⟨v, hv, v0, v1, z0, z1⟩ := HK.out j hjt
          have hJ : ∀ b : Bool, (f.ins[j].op = 0 → v = 0) → ∀ q < j + 1, (f.ins.getD q ⟨0, 0, [], 0, 0⟩).op = 0 → ms.getD q 0 = 0 := fun _ hb q hq ho => by
            by_cases e : q = j
            · subst e
              simp only [List.getD, List.getElem?_eq_getElem hjl, Option.getD_some] at ho
              simp only [List.getD, hv, Option.getD_some]
              exact hb ho
            · exact HJ.out q (by omega) ho
          obtain ⟨op, hop⟩ : ∃ o, o = f.ins[j].op := ⟨_, rfl⟩
          rw [← hop] at q0 hJ
          have HJ2 := Lib.hid hJ
          clear hop hjl hJ hv v1 z1
          by_cases h1 : op = 0
          · by_cases h2 : v = 0
            · have HJ3 := Lib.hid (HJ2.out true (fun _ => h2))
              subst h1 h2
              go_wp2_with fail
              go_roundw
              case rel => exact ⟨j + 1, by omega, by go_num, trivial, HJ3⟩
              case measure => simp [intOf]; omega
            · subst h1
              go_wp2_with fail
              go_ret
              exact BP.no HBB.out
          · have d1 : (op == 0) = false := by simp [h1]
            by_cases h2 : v = 1
            · have HJ3 := Lib.hid (HJ2.out true (fun e => absurd e h1))
              subst h2
              go_wp2_with fail
              go_roundw
              case rel => exact ⟨j + 1, by omega, by go_num, trivial, HJ3⟩
              case measure => simp [intOf]; omega
            · have d2 : (v == 1) = false := by simp [h2]
              have d3 : (v != 1) = true := by simp [h2]
              have d4 : (op != 0) = true := by simp [h1]
              go_wp2_with fail
              go_ret
              exact BP.no HBB.out
        · have hje : j = in_ := by omega
          have HF : Hid (∀ k ∈ f.blocks, ListOk f k) := Lib.hid fun k hk x hx => by
            obtain ⟨a1, a2, a3⟩ := HA.out k hk x hx
            refine ⟨a1, by rw [← Hil.out]; exact a2, fun e => ?_⟩
            have := HJ.out x.toNat (by omega) e
            omega
          clear hje
          go_wp2_with fail
          go_ret
          exact BP.yes _ HBB.out HF.out
end Go.Proofs.Ythhjhdmdfneegaa
