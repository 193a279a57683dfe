/-
  Whether two rows are the same; whether a function can be gone through.
-/
import Derived.Test.YtlejpoofgnenhaaGrA
namespace Go.Proofs.Ytlejpoofgnenhaa
open Go.RowKit
set_option linter.unusedVariables false
set_option linter.unusedSimpArgs false

theorem below_dr {B : Nat} {a w : World} (h : Below B a w) (n : Nat) : Below B a (w.drewN n) := ⟨h.os, h.tape, h.output, h.size, h.block⟩
theorem int_ne {x y : Int} (h : (x == y) = false) : x ≠ y := fun e => by rw [e] at h; simp at h

set_option maxRecDepth 100000 in
set_option maxHeartbeats 4000000 in
theorem ints_g (n0 : Nat) (v u : Value) (k l : List Int) (w : World) (hv : GNs n0 w v k) (hu : GNs n0 w u l) (hk : k.length ≤ 1048576) (hl : l.length ≤ 1048576) (hn : n0 ≤ w.heap.size) :
    Calls Try.prog 21 #[v, u] w fun e w' => e = .returned (.bool (decide (k = l))) ∧ Below w.heap.size w w' := by
  have hv' := hv
  have hu' := hu
  obtain ⟨KA, kc, rfl, -⟩ := hv'
  obtain ⟨LA, lc, rfl, -⟩ := hu'
  have Hv := Lib.hid hv
  have Hu := Lib.hid hu
  clear hv hu
  by_cases hlen : k.length = l.length
  · obtain ⟨m, hm⟩ : ∃ m, m = l.length := ⟨_, rfl⟩
    rw [hlen] at Hv hk ⊢
    rw [← hm] at hl hk Hv Hu ⊢
    have Hm := Lib.hid hm
    have Hlen := Lib.hid hlen
    clear hm hlen
    go_enter Try.func21, Try.ntmps21
    go_upto_region 4 with fail
    go_loopw [5] (fun u5 wr => ∃ (i : Nat), i ≤ m ∧ u5 = .int .i64 i ∧ Hid (Below w.heap.size w wr) ∧ Hid (k.take i = l.take i)) (fun u5 _ => m - (intOf u5).toNat)
    case atStart => exact ⟨0, Nat.zero_le _, rfl, Lib.hid (Below.refl _ _), Lib.hid (by simp)⟩
    case round =>
      obtain ⟨i, hi, rfl, HB, HT⟩ := hrel
      by_cases hlt : i < m
      · have hil : i < l.length := by rw [← Hm.out]; exact hlt
        have hik : i < k.length := by rw [Hlen.out]; exact hil
        obtain ⟨b1, o1, rfl, hb1, hc1⟩ := (Hv.out.keep (HB.out.mono hn)).at hik
        obtain ⟨b2, o2, rfl, hb2, hc2⟩ := (Hu.out.keep (HB.out.mono hn)).at hil
        have hs1 : k.take (i + 1) = k.take i ++ [k[i]] := List.take_succ_eq_append_getElem hik
        have hs2 : l.take (i + 1) = l.take i ++ [l[i]] := List.take_succ_eq_append_getElem hil
        have hne : k[i] ≠ l[i] → k ≠ l := fun h e => h (by simp [e])
        obtain ⟨x, hx⟩ : ∃ x, x = k[i] := ⟨_, rfl⟩
        obtain ⟨y, hy⟩ : ∃ y, y = l[i] := ⟨_, rfl⟩
        rw [← hx] at hc1 hs1 hne
        rw [← hy] at hc2 hs2 hne
        have Hs1 := Lib.hid hs1
        have Hs2 := Lib.hid hs2
        have Hne := Lib.hid hne
        clear hx hy hs1 hs2 hne hb1 hb2
        cases hq : (x == y) with
        | false =>
          go_upto_region 6 with fail
          go_quiet (fail)
          go_wp2
          go_ret
          exact ⟨by rw [decide_eq_false (Hne.out (int_ne hq))]; rfl, below_dr HB.out _⟩
        | true =>
          obtain rfl : x = y := by simpa using hq
          go_upto_region 6 with fail
          go_quiet (fail)
          go_wp2
          go_roundw
          case rel => exact ⟨i + 1, by omega, by go_num, Lib.hid (below_dr HB.out _), Lib.hid (by rw [Hs1.out, Hs2.out, HT.out])⟩
          case measure => simp [intOf]; omega
      · obtain rfl : i = m := by omega
        go_wp2
        go_ret
        refine ⟨?_, HB.out⟩
        have := HT.out
        rw [List.take_of_length_le (by rw [Hlen.out, ← Hm.out]; exact Nat.le_refl _), List.take_of_length_le (by rw [← Hm.out]; exact Nat.le_refl _)] at this
        rw [decide_eq_true this]; rfl
  · have hne : k ≠ l := fun e => hlen (by rw [e])
    go_enter Try.func21, Try.ntmps21
    go_wp2
    go_ret
    exact ⟨by rw [decide_eq_false hne]; rfl, Below.refl _ _⟩

def allTo (g : List GB) (i : Nat) : Prop := ∀ j d, j < i → g[j]? = some d → ∀ t ∈ d.to_, hasG g.length t = true
theorem wholeG_true {g : List GB} (h : allTo g g.length) : wholeG g = decide (0 < g.length) := by
  unfold wholeG
  have : (g.all fun k => k.to_.all fun t => hasG g.length t) = true := by
    rw [List.all_eq_true]
    intro d hd
    rw [List.all_eq_true]
    intro t ht
    obtain ⟨j, hj, rfl⟩ := List.getElem_of_mem hd
    exact h j _ hj (List.getElem?_eq_getElem hj) t ht
  rw [this, Bool.true_and]
theorem wholeG_false {g : List GB} {j : Nat} {d : GB} {t : Int} (hd : g[j]? = some d) (ht : t ∈ d.to_) (h : hasG g.length t = false) : wholeG g = false := by
  unfold wholeG
  have : (g.all fun k => k.to_.all fun t => hasG g.length t) = false := by
    rw [List.all_eq_false]
    refine ⟨d, List.mem_of_getElem? hd, ?_⟩
    intro e
    rw [List.all_eq_true] at e
    have := e t ht
    rw [h] at this
    cases this
  rw [this, Bool.false_and]
theorem wholeG_all {g : List GB} (h : wholeG g = true) : 0 < g.length ∧ ∀ (j : Nat) (d : GB), g[j]? = some d → ∀ t ∈ d.to_, 0 ≤ t ∧ t < g.length := by
  unfold wholeG at h
  rw [Bool.and_eq_true, List.all_eq_true] at h
  refine ⟨of_decide_eq_true h.2, fun j d hd t ht => ?_⟩
  have h1 := h.1 d (List.mem_of_getElem? hd)
  rw [List.all_eq_true] at h1
  exact of_decide_eq_true (h1 t ht)

set_option maxRecDepth 100000 in
set_option maxHeartbeats 8000000 in
theorem whole_g (n0 : Nat) (f : Value) (g : List GB) (w : World) (hf : GF n0 w f g) (hn : n0 ≤ w.heap.size) :
    Calls Try.prog 56 #[f] w fun e w' => e = .returned (.bool (wholeG g)) ∧ Below w.heap.size w w' := by
  obtain ⟨s, pA, pn, pc, r, iA, in_, ic, bA, bn, bc, rfl, hG, hbn⟩ := hf
  obtain ⟨W, hW, hbW, hzW, h0W⟩ := gr_one w #[.string s, .slice pA pn pc, .int .i64 r, .slice iA in_ ic, .slice bA bn bc] 27
  obtain ⟨x0, x1, x2, x3, x4, -⟩ := gr_five h0W
  have hlen : bn ≤ 1048576 := by rw [hbn]; obtain ⟨_, _, _, h, _⟩ := hG; exact h
  have HG := Lib.hid hG
  have Hbn := Lib.hid hbn
  have HbW := Lib.hid hbW
  have HW := Lib.hid hW
  have HzW := Lib.hid hzW
  have H0W := Lib.hid h0W
  clear hbW hW hG hbn hzW h0W
  go_enter Try.func56, Try.ntmps56
  go_upto_region 1 with fail
  rw [← HW.out]
  go_upto_region 2 with fail
  clear x0 x1 x2 x3 x4
  go_loopw [10] (fun u10 wr => ∃ (i : Nat), i ≤ bn ∧ u10 = .int .i64 i ∧ Hid (Below W.heap.size W wr) ∧ Hid (allTo g i)) (fun u10 _ => bn - (intOf u10).toNat)
  case atStart => exact ⟨0, Nat.zero_le _, rfl, Lib.hid (Below.refl _ _), Lib.hid (fun j d hj => by omega)⟩
  case round =>
    obtain ⟨i, hi, rfl, HB, HT⟩ := hrel
    have hBw : Below w.heap.size w wr := HbW.out.trans (HB.out.mono (by rw [HzW.out]; omega))
    have HBw := Lib.hid hBw
    have h0r := (HB.out.block _ (by rw [HzW.out]; omega)).trans H0W.out
    obtain ⟨x0, x1, x2, x3, x4, -⟩ := gr_five h0r
    by_cases hlt : i < bn
    · have hil : i < g.length := by rw [← Hbn.out]; exact hlt
      obtain ⟨b, o, qA, qc, tA, tc, lA, ln, lc, rfl, hb0, c0, c1, c2, c3, c4, rp, rt, hok⟩ := (HG.out.keep (hBw.mono hn)).at hil
      obtain ⟨m, hm⟩ : ∃ m, m = g[i].to_.length := ⟨_, rfl⟩
      have hml : m ≤ 1048576 := by rw [hm]; exact hok.2.2.1
      obtain ⟨d, hd⟩ : ∃ d, d = g[i] := ⟨_, rfl⟩
      have hgd : g[i]? = some d := by rw [hd]; exact List.getElem?_eq_getElem hil
      rw [← hm] at c4 rt
      rw [← hd] at c1 c2 c3 rt hok hm
      obtain ⟨Y, hY, hbY, hzY, h0Y⟩ := gr_one wr #[.slice lA ln lc, .slice qA d.preds.length qc, .int .i64 d.kind, .int .i64 d.arg, .slice tA m tc] 50
      have Hgd := Lib.hid hgd
      have Hrt := Lib.hid (rt.keep (hbY.mono (Nat.le_trans hn hBw.size)))
      have Hok := Lib.hid hok
      have Hm := Lib.hid hm
      have HY := Lib.hid hY
      have h0rY := (hbY.block _ (gr_in h0r)).trans h0r
      have HBY := Lib.hid (HB.out.trans (hbY.mono (HB.out.size)))
      clear rp hd hgd rt hok hm hY hBw
      obtain ⟨y0, y1, y2, y3, y4, -⟩ := gr_five h0Y
      go_upto_region 3 with fail
      go_upto_region 4 with fail
      rw [← HY.out]
      clear c0 c1 c2 c3 c4 x0 x1 x2 x3 x4 y0 y1 y2 y3
      go_upto_region 5 with fail
      clear y4
      go_loopw [18] (fun u18 wr2 => ∃ (j : Nat), j ≤ m ∧ u18 = .int .i64 j ∧ Hid (Below Y.heap.size Y wr2) ∧ Hid (∀ k t, k < j → d.to_[k]? = some t → hasG g.length t = true)) (fun u18 _ => m - (intOf u18).toNat)
      case atStart => exact ⟨0, Nat.zero_le _, rfl, Lib.hid (Below.refl _ _), Lib.hid (fun k t hk => by omega)⟩
      case round =>
        obtain ⟨j, hj, rfl, HB2, HT2⟩ := hrel
        have h0q := (HB2.out.block _ (gr_in h0rY)).trans h0rY
        obtain ⟨x0, x1, x2, x3, x4, -⟩ := gr_five h0q
        by_cases hlt2 : j < m
        · have hjl : j < d.to_.length := by rw [← Hm.out]; exact hlt2
          have hbig : n0 ≤ Y.heap.size := by have := HBw.out.size; omega
          obtain ⟨b2, o2, rfl, hb2, hc⟩ := (Hrt.out.keep (HB2.out.mono hbig)).at hjl
          have ht : d.to_[j]? = some d.to_[j] := List.getElem?_eq_getElem hjl
          have htm := List.getElem_mem hjl
          have hti := Hok.out.2.2.2 _ htm
          obtain ⟨t, htt⟩ : ∃ t, t = d.to_[j] := ⟨_, rfl⟩
          rw [← htt] at hc ht htm hti
          have Ht := Lib.hid ht
          have Htm := Lib.hid htm
          have hH := has_g s pA iA (some ⟨b, o, none⟩) pn pc in_ ic bn bc r t wr hlen hti
          clear htt ht htm hti hb2
          rw [Hbn.out] at hH
          cases hq : hasG g.length t with
          | true =>
            rw [hq] at hH
            rw [← Hbn.out] at hH
            go_wp2_with (go_at_call 73; refine hH.mono ?_; rintro e w3 ⟨rfl, h3⟩; have H3 := Lib.hid h3; clear h3 hH)
            go_roundw
            case rel => exact ⟨j + 1, by omega, by go_num, Lib.hid (HB2.out.trans (H3.out.mono HB2.out.size)), Lib.hid (fun k t' hk hk' => by
              by_cases hkj : k = j
              · subst hkj
                rw [Ht.out] at hk'
                injection hk' with hk'
                rw [← hk']
                exact hq
              · exact HT2.out k t' (by omega) hk')⟩
            case measure => simp [intOf]; omega
          | false =>
            rw [hq] at hH
            rw [← Hbn.out] at hH
            go_wp2_with (go_at_call 73; refine hH.mono ?_; rintro e w3 ⟨rfl, h3⟩; have H3 := Lib.hid h3; clear h3 hH)
            go_ret
            exact ⟨by rw [wholeG_false Hgd.out Htm.out hq]; rfl, HbW.out.trans ((HBY.out.trans ((HB2.out.trans (H3.out.mono HB2.out.size)).mono HBY.out.size)).mono (by rw [HzW.out]; omega))⟩
        · obtain rfl : j = m := by omega
          go_wp2
          go_roundw
          case rel => exact ⟨i + 1, by omega, by go_num, Lib.hid (HBY.out.trans (HB2.out.mono HBY.out.size)), Lib.hid (fun k d' hk hk' => by
            by_cases hki : k = i
            · subst hki
              rw [Hgd.out] at hk'
              injection hk' with hk'
              subst hk'
              intro t ht
              obtain ⟨q, hq, rfl⟩ := List.getElem_of_mem ht
              exact HT2.out q _ (by rw [Hm.out]; exact hq) (List.getElem?_eq_getElem hq)
            · exact HT.out k d' (by omega) hk')⟩
          case measure => simp [intOf]; omega
    · obtain rfl : i = bn := by omega
      go_wp2
      go_ret
      refine ⟨?_, HBw.out⟩
      rw [wholeG_true (by rw [← Hbn.out]; exact HT.out), ← Hbn.out]
      by_cases h0 : 0 < i
      · simp [h0]
      · simp [h0]
end Go.Proofs.Ytlejpoofgnenhaa
