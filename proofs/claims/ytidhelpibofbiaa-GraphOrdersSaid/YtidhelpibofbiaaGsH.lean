/-
  The reference's Valid.
-/
import Derived.Test.YtidhelpibofbiaaGsE
namespace Go.Proofs.Ytidhelpibofbiaa
open Go.RowKit
set_option linter.unusedVariables false
set_option linter.unusedSimpArgs false

set_option maxRecDepth 100000 in
set_option maxHeartbeats 8000000 in
theorem valid_g (n0 : Nat) (f : Value) (g : List GB) (w : World) (hf : GF n0 w f g) (hn : n0 ≤ w.heap.size) :
    Calls Try.prog 20 #[f] w fun e w' => e = .returned (.bool (wholeG g)) ∧ Below w.heap.size w w' := by
  obtain ⟨s, pA, pn, pc, r, iA, in_, ic, bA, bn, bc, rfl, hG, hbn⟩ := hf
  obtain ⟨W, hW, hbW, hzW, h0W⟩ := gr_one w #[.string s, .slice pA pn pc, .int .i64 r, .slice iA in_ ic, .slice bA bn bc] 27
  obtain ⟨x0, x1, x2, x3, x4, -⟩ := gr_five h0W
  have hlen : bn ≤ 1048576 := by rw [hbn]; obtain ⟨_, _, _, h, _⟩ := hG; exact h
  have HG := Lib.hid (hG.keep (hbW.mono hn))
  have Hbn := Lib.hid hbn
  have HbW := Lib.hid hbW
  have HW := Lib.hid hW
  clear hbW hW hG hbn hzW h0W x0 x1 x2 x3
  go_enter Try.func20, Try.ntmps20
  go_upto_region 1 with fail
  rw [← HW.out]
  go_upto_region 2 with fail
  go_loop [3] (fun u3 => ∃ i : Nat, i ≤ bn ∧ u3 = .int .i64 i ∧ Hid (allTo g i)) (fun u3 => bn - (intOf u3).toNat)
  case atStart => exact ⟨0, Nat.zero_le _, rfl, Lib.hid (fun j d hj => by omega)⟩
  case round =>
    obtain ⟨i, hi, rfl, HT⟩ := hrel
    by_cases hlt : i < bn
    · have hil : i < g.length := by rw [← Hbn.out]; exact hlt
      obtain ⟨b, o, qA, qc, tA, tc, lA, ln, lc, rfl, hb0, c0, c1, c2, c3, c4, rp, rt, hok⟩ := HG.out.at hil
      obtain ⟨m, hm⟩ : ∃ m, m = g[i].to_.length := ⟨_, rfl⟩
      have hml : m ≤ 1048576 := by rw [hm]; exact hok.2.2.1
      obtain ⟨d, hd⟩ : ∃ d, d = g[i] := ⟨_, rfl⟩
      have hgd : g[i]? = some d := by rw [hd]; exact List.getElem?_eq_getElem hil
      rw [← hm] at c4 rt
      rw [← hd] at rt hok hm
      have Hgd := Lib.hid hgd
      have Hrt := Lib.hid rt
      have Hok := Lib.hid hok
      have Hm := Lib.hid hm
      clear rp hd hgd rt hok hm c0 c1 c2 c3 hb0 hil
      go_upto_region 5 with fail
      go_loop [4] (fun u4 => ∃ j : Nat, j ≤ m ∧ u4 = .int .i64 j ∧ Hid (∀ k t, k < j → d.to_[k]? = some t → hasG g.length t = true)) (fun u4 => m - (intOf u4).toNat)
      case atStart => exact ⟨0, Nat.zero_le _, rfl, Lib.hid (fun k t hk => by omega)⟩
      case round =>
        obtain ⟨j, hj, rfl, HT2⟩ := hrel
        by_cases hlt2 : j < m
        · have hjl : j < d.to_.length := by rw [← Hm.out]; exact hlt2
          obtain ⟨b2, o2, rfl, hb2, hc⟩ := Hrt.out.at hjl
          have ht : d.to_[j]? = some d.to_[j] := List.getElem?_eq_getElem hjl
          have htm := List.getElem_mem hjl
          have hti := Hok.out.2.2.2 _ htm
          obtain ⟨t, htt⟩ : ∃ t, t = d.to_[j] := ⟨_, rfl⟩
          rw [← htt] at hc ht htm hti
          obtain ⟨i0, i1⟩ := hti
          have Ht := Lib.hid ht
          have Htm := Lib.hid htm
          clear htt ht htm hb2 hjl
          by_cases t0 : 0 ≤ t
          · by_cases t1 : t < (bn : Int)
            · have hq : hasG g.length t = true := by rw [← Hbn.out]; exact decide_eq_true ⟨t0, t1⟩
              have HT3 : Hid (∀ k t, k < j + 1 → d.to_[k]? = some t → hasG g.length t = true) := Lib.hid (fun k t' hk hk' => by
                by_cases hkj : k = j
                · subst hkj
                  rw [Ht.out] at hk'
                  injection hk' with hk'
                  rw [← hk']
                  exact hq
                · exact HT2.out k t' (by omega) hk')
              clear hq
              go_wp2
              go_round
              case rel => exact ⟨j + 1, by omega, by go_num, HT3⟩
              case measure => simp [intOf]; omega
            · have hq : hasG g.length t = false := by rw [← Hbn.out]; exact decide_eq_false (by omega)
              have Hq := Lib.hid (wholeG_false Hgd.out Htm.out hq)
              clear hq
              go_wp2
              go_ret
              exact ⟨by rw [Hq.out]; rfl, HbW.out⟩
          · have hq : hasG g.length t = false := decide_eq_false (by omega)
            have Hq := Lib.hid (wholeG_false Hgd.out Htm.out hq)
            clear hq
            go_wp2
            go_ret
            exact ⟨by rw [Hq.out]; rfl, HbW.out⟩
        · obtain rfl : j = m := by omega
          have HT3 : Hid (allTo g (i + 1)) := Lib.hid (fun k d' hk hk' => by
            by_cases hki : k = i
            · subst hki
              rw [Hgd.out] at hk'
              injection hk' with hk'
              subst hk'
              intro t ht
              obtain ⟨q, hq, rfl⟩ := List.getElem_of_mem ht
              exact HT2.out q _ (by rw [Hm.out]; exact hq) (List.getElem?_eq_getElem hq)
            · exact HT.out k d' (by omega) hk')
          go_wp2
          go_round
          case rel => exact ⟨i + 1, by omega, by go_num, HT3⟩
          case measure => simp [intOf]; omega
    · obtain rfl : i = bn := by omega
      go_wp2
      go_ret
      refine ⟨?_, HbW.out⟩
      rw [wholeG_true (by rw [← Hbn.out]; exact HT.out), ← Hbn.out]
      by_cases h0 : 0 < i
      · simp [h0]
      · simp [h0]
end Go.Proofs.Ytidhelpibofbiaa
