/-
  The reference's Order.
-/
import Derived.Test.YtoplllebaagnnaaJd35
namespace Go.Proofs.Ytoplllebaagnnaa
set_option linter.unusedVariables false
set_option linter.unusedSimpArgs false
open Go.RowKit

set_option maxRecDepth 100000 in
set_option maxHeartbeats 16000000 in
theorem rorder_g (n0 : Nat) (f : Value) (g : List GB) (w : World) (hf : GF n0 w f g) (hn : n0 ≤ w.heap.size) :
    Calls Try.prog 16 #[f] w fun e w' => ∃ v, e = .returned v ∧ w'.ownsRow w.heap.size 3 1 v (orderP g).length (natsV (orderP g)) ∧ Below w.heap.size w w' := by
  obtain ⟨s, pA, pn, pc, r, iA, in_, ic, bA, bn, bc, rfl, hG, hbn⟩ := hf
  obtain ⟨W, hW, hbW, hzW, h0W⟩ := gr_one w #[.string s, .slice pA pn pc, .int .i64 r, .slice iA in_ ic, .slice bA bn bc] 27
  obtain ⟨x0, x1, x2, x3, x4, -⟩ := gr_five h0W
  have hlen : bn ≤ 1048576 := by rw [hbn]; obtain ⟨_, _, _, h, _⟩ := hG; exact h
  have hH := rpost_g n0 _ g W ⟨s, pA, pn, pc, r, iA, in_, ic, bA, bn, bc, rfl, hG.keep (hbW.mono hn), hbn⟩ (by omega)
  have hpl := postP_len g
  rw [← hbn] at hpl
  obtain ⟨P, hP⟩ : ∃ P, P = postP g := ⟨_, rfl⟩
  have ho : orderP g = P.reverse := by rw [hP]; rfl
  rw [← hP] at hH hpl
  rw [ho]
  obtain ⟨m, hm⟩ : ∃ m, m = P.length := ⟨_, rfl⟩
  rw [← hm] at hH hpl
  obtain ⟨j1, hj1, jz0, jz1, jz2⟩ := info_parts infoIntG
  have Ji := Lib.hid hj1
  have Jz0 := Lib.hid jz0
  have Jz1 := Lib.hid jz1
  have Jz2 := Lib.hid jz2
  have HbW := Lib.hid hbW
  have HW := Lib.hid hW
  have HzW := Lib.hid hzW
  have Hm := Lib.hid hm
  have hmb : m ≤ 1048576 := by omega
  clear hbW hW hG hbn hzW h0W ho hP hm hpl hlen hj1 jz0 jz1 jz2
  go_enter Try.func16, Try.ntmps16
  go_upto_region 1 with fail
  rw [← HW.out]
  go_wp2_with (go_at_call 31; refine hH.mono ?_; rintro e w1 ⟨v, rfl, ho1, hb1⟩; obtain ⟨A1, c1, rfl⟩ := gr_slice ho1; have Ho1 := Lib.hid ho1; have Hb1 := Lib.hid hb1; obtain ⟨Y, hY, hbY, hzY, h0Y⟩ := gr_one w1 #[] 3; have hoY : Y.ownsRow w1.heap.size 3 1 (.slice (some ⟨w1.heap.size, 0, none⟩) 0 0) 0 [] := (by rw [hY]; exact World.ownsRow_lit w1 #[] 0 (Nat.le_refl _) (by decide) rfl); have HY := Lib.hid hY; have HbY := Lib.hid hbY; have HoY := Lib.hid hoY; clear hH ho1 hb1 hY hbY hzY h0Y hoY)
  go_upto_region 3 with fail
  rw [← HY.out]
  go_loopw [5, 4] (fun u5 u4 wr => ∃ k : Nat, k ≤ m ∧ u5 = .int .i64 ((k : Int) - 1) ∧ Hid (wr.ownsRow w1.heap.size 3 1 u4 (m - k) (natsV (P.drop k).reverse)) ∧ Hid (Below w1.heap.size w1 wr)) (fun u5 _ _ => (intOf u5 + 1).toNat)
  case atStart => exact ⟨m, Nat.le_refl _, rfl, Lib.hid (by rw [Hm.out, List.drop_length, Nat.sub_self]; exact HoY.out), HbY⟩
  case round =>
    obtain ⟨k, hk, rfl, HO, HB⟩ := hrel
    obtain ⟨A4, c4, rfl⟩ := gr_slice HO.out
    cases k with
    | zero =>
      have hres : (P.drop 0).reverse = P.reverse := rfl
      go_wp2
      go_ret
      refine ⟨_, rfl, ?_, HbW.out.trans ((Hb1.out.trans (HB.out.mono Hb1.out.size)).mono (by have := HzW.out; omega))⟩
      have := gr_mono HO.out (base' := w.heap.size) (by have := Hb1.out.size; have := HzW.out; omega)
      rw [hres] at this
      rw [List.length_reverse, ← Hm.out]
      exact this
    | succ i =>
      have hu : ((i + 1 : Nat) : Int) - 1 = (i : Int) := by omega
      rw [hu]
      have hiP : i < P.length := by rw [← Hm.out]; omega
      obtain ⟨g1, hg1, -, -, -⟩ := gr_some (gr_up Ho1.out HB.out) (by omega)
      subst hg1
      have hc := (gr_up Ho1.out HB.out).cellAt i (by omega)
      obtain ⟨x, hx⟩ : ∃ x, x = P[i] := ⟨_, rfl⟩
      have hc2 : wr.cell? ⟨g1, i, none⟩ = some (.int .i64 (x : Int)) := by
        rw [hc, hx]
        simp [natsV, hiP]
      have hrev : (P.drop i).reverse = (P.drop (i + 1)).reverse ++ [x] := by
        rw [List.drop_eq_getElem_cons hiP, hx]
        simp
      obtain ⟨A2, hA2, hbA, hzA, h0A⟩ := gr_one wr #[.int .i64 (x : Int)] 3
      obtain ⟨q, hq⟩ : ∃ q, q = m - (i + 1) := ⟨_, rfl⟩
      have HOW := Lib.hid (gr_up HO.out hbA)
      rw [← hq] at HOW ⊢
      have HNW := Lib.hid (World.news_of_block h0A)
      have HOn : Hid (∀ u ∈ ([.int .i64 (x : Int)] : List Value), u.oneCell' = true) := Lib.hid (by intro u hu; simp at hu; subst hu; rfl)
      have hsz2 : w1.heap.size ≤ A2.heap.size := by have := hbA.size; have := HB.out.size; omega
      have hqb : q ≤ 1048576 := by omega
      have hqe : q + 1 = m - i := by omega
      have HbA := Lib.hid (HB.out.trans (hbA.mono HB.out.size))
      have Hrev := Lib.hid hrev
      have Hqe := Lib.hid hqe
      have Hlt := Lib.hid (show ∀ k, (Value.slice A4 q c4).ownBlock = some k → w1.heap.size ≤ k from fun k e => by rw [hq] at e; exact (HO.out.lt k e).1)
      rw [hA2] at HOW HNW hsz2
      have HA2 := Lib.hid hA2
      clear hA2 hbA hzA h0A hrev hx hc hq hu hqe hiP
      go_wp2_with (at_builtin; refine wpList_append_lies _ rfl (.tmp 16) (.tmp 21) 23 rfl w1.heap.size 3 j1 (.int .i64 0) 1 8 Try.underlying23 Ji.out Jz0.out Jz1.out Jz2.out rfl (by decide) (.slice A4 q c4) q (natsV (P.drop (i + 1)).reverse) rfl HOW.out ⟨wr.heap.size, 0, none⟩ 1 1 [.int .i64 (x : Int)] rfl rfl HNW.out HOn.out (by decide) (by unfold maxLen; omega) (by omega) hsz2 _ rfl ?_)
      intro gp cp w5 hown5 hgrow hat hlt5
      rw [← HA2.out] at hgrow
      have HO5 : Hid (w5.ownsRow w1.heap.size 3 1 (.slice (some ⟨gp, 0, none⟩) (q + 1) cp) (m - i) (natsV (P.drop i).reverse)) := Lib.hid (by
        rw [Hrev.out, ← Hqe.out]
        simpa [natsV] using hown5)
      have HB5 := Lib.hid (HbA.out.grown hgrow HbA.out.size (fun k e => Hlt.out k e))
      clear hown5 hgrow hat hlt5 HOW HNW hsz2
      go_wp2
      go_roundw
      case rel => exact ⟨i, by omega, rfl, HO5, HB5⟩
      case measure => simp [intOf] <;> omega
end Go.Proofs.Ytoplllebaagnnaa
