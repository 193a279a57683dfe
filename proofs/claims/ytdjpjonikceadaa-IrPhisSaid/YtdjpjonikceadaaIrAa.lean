/-
  Another number is used in the place of one.
-/
import Derived.Test.YtdjpjonikceadaaIrZ
namespace Go.Proofs.Ytdjpjonikceadaa
open Go.RowKit
set_option linter.unusedVariables false
set_option linter.unusedSimpArgs false

set_option maxRecDepth 100000 in
set_option maxHeartbeats 16000000 in
theorem replace_any (E base N g c gi ci qb qc : Nat) (old by_ : Int) (args : List Int) (bs : List Value) (F : Nat → Rw) (w : World) (hE : EdC w E (.slice (some ⟨gi, 0, none⟩) 1 ci) (.slice (some ⟨g, 0, none⟩) N c)) (hF : Fam w base E F)
    (h0 : F 0 = ⟨46, 5, .slice (some ⟨g, 0, none⟩) N c, N, bs⟩) (h1 : F 1 = ⟨38, 5, .slice (some ⟨gi, 0, none⟩) 1 ci, 1, [.int .i64 3, .int .i64 0, .slice (some ⟨qb, 0, none⟩) args.length qc, .int .i64 0, .int .i64 0]⟩) (h2 : F 2 = rowI (.slice (some ⟨qb, 0, none⟩) args.length qc) args)
    (hK : ∀ b, b < N → ∃ (kd ar : Int) (TA : Option Addr) (tn tc : Nat), bs[b * 5 + 2]? = some (.int .i64 kd) ∧ bs[b * 5 + 3]? = some (.int .i64 ar) ∧ bs[b * 5 + 4]? = some (.slice TA tn tc) ∧ (kd == 2) = false ∧ (kd == 3) = false) (hN : N ≤ 1000) (hb : base ≤ w.heap.size) (hm : args.length ≤ 1000) :
    Calls Try.prog 18 #[.pointer (some ⟨E, 0, none⟩), .int .i64 old, .int .i64 by_] w fun e w' => e = .returned (.tuple #[]) ∧ Bd E base w w' ∧ EdC w' E (.slice (some ⟨gi, 0, none⟩) 1 ci) (.slice (some ⟨g, 0, none⟩) N c) ∧ Fam w' base E (upR F 2 (rowI (.slice (some ⟨qb, 0, none⟩) args.length qc) (swapL args old by_ args.length))) := by
  obtain ⟨W, hW, hbW, hzW, hX⟩ := r_one_al w #[.int .i64 3, .int .i64 0, .slice (some ⟨qb, 0, none⟩) args.length qc, .int .i64 0, .int .i64 0] 38
  have hFW := hF.keep hbW
  have hEW : EdC W E (.slice (some ⟨gi, 0, none⟩) 1 ci) (.slice (some ⟨g, 0, none⟩) N c) := (hbW.block E hF.el).trans hE
  have hQ : W.ownsRow base 3 1 (.slice (some ⟨qb, 0, none⟩) args.length qc) args.length (ints args) := hFW.at h2
  have hS := swap_any base qb qc args old by_ W hm hQ
  have hI : w.ownsRow base 38 5 (.slice (some ⟨gi, 0, none⟩) 1 ci) 1 [.int .i64 3, .int .i64 0, .slice (some ⟨qb, 0, none⟩) args.length qc, .int .i64 0, .int .i64 0] := hF.at h1
  have e3 := Lib.cell_of_heap hE 3
  have i0 : w.cell? ⟨gi, 0, none⟩ = some (.int .i64 3) := hI.cellAt 0 (by decide)
  have i1 : w.cell? ⟨gi, 1, none⟩ = some (.int .i64 0) := hI.cellAt 1 (by decide)
  have i2 : w.cell? ⟨gi, 2, none⟩ = some (.slice (some ⟨qb, 0, none⟩) args.length qc) := hI.cellAt 2 (by decide)
  have i3 : w.cell? ⟨gi, 3, none⟩ = some (.int .i64 0) := hI.cellAt 3 (by decide)
  have i4 : w.cell? ⟨gi, 4, none⟩ = some (.int .i64 0) := hI.cellAt 4 (by decide)
  have x2 := Lib.cell_of_heap hX 2
  have hqb := hFW.at h2
  have HW := Lib.hid hW
  have HbW := Lib.hid hbW
  have HzW := Lib.hid hzW
  have HX := Lib.hid hX
  have HEW := Lib.hid hEW
  have HFW := Lib.hid hFW
  have H0 := Lib.hid h0
  have H2 := Lib.hid h2
  have HK := Lib.hid hK
  have Hb := Lib.hid hb
  clear hW hbW hzW hX hEW hFW hQ h0 h1 h2 hK hI hE hF hqb hb hm
  go_enter Try.func18, Try.ntmps18
  go_upto_region 2 with fail
  refine wp_loop_rounds 2 ?_
  rw [rounds_succ]
  go_upto_region 4 with fail
  rw [← HW.out]
  go_wp2_with (go_at_call 29; refine hS.mono ?_; rintro e V ⟨rfl, hg, ho⟩; have Hg := Lib.hid hg; have Ho := Lib.hid ho; clear hg ho hS)
  rw [rounds_succ]
  clear i0 i1 i2 i3 i4 e3 x2
  have hgr : W.grownBy V (F 2).v.ownBlock := by rw [H2.out]; exact Hg.out
  have hFV := HFW.out.grown 2 hgr (rowI (.slice (some ⟨qb, 0, none⟩) args.length qc) (swapL args old by_ args.length)) (by
    have e := swapL_len args old by_ args.length (Nat.le_refl _)
    unfold rowI
    simp only
    rw [e]
    exact Ho.out) (fun g' e => .inl (by rw [H2.out]; exact e))
  have hEV : EdC V E (.slice (some ⟨gi, 0, none⟩) 1 ci) (.slice (some ⟨g, 0, none⟩) N c) := (hgr.block E HFW.out.el (fun e => HFW.out.av 2 e.symm)).trans HEW.out
  have hqb : base ≤ qb := ((HFW.out.at H2.out).lt qb rfl).1
  have hdV : Bd E base w V := (Bd.of_below HbW.out Hb.out).trans (Bd.of_grown Hg.out (fun g' e => by injection e with e; omega) (Nat.le_trans Hb.out HbW.out.size))
  have hbV : base ≤ V.heap.size := Nat.le_trans Hb.out hdV.size
  have hk0 : upR F 2 (rowI (.slice (some ⟨qb, 0, none⟩) args.length qc) (swapL args old by_ args.length)) 0 = ⟨46, 5, .slice (some ⟨g, 0, none⟩) N c, N, bs⟩ := by rw [upR_off _ _ _ _ (by decide)]; exact H0.out
  have e4 := Lib.cell_of_heap hEV 4
  have HFV := Lib.hid hFV
  have HEV := Lib.hid hEV
  have HdV := Lib.hid hdV
  have HbV := Lib.hid hbV
  have Hk0 := Lib.hid hk0
  clear hgr hFV hEV hqb hdV hbV hk0
  go_upto_region 7 with fail
  go_loopw [34] (fun u34 wr => ∃ i : Nat, i ≤ N ∧ u34 = .int .i64 i ∧ Hid (Below V.heap.size V wr)) (fun u34 _ => N - (intOf u34).toNat)
  case atStart => exact ⟨0, Nat.zero_le _, rfl, Lib.hid (Below.refl _ _)⟩
  case round =>
    obtain ⟨i, hi, rfl, HB⟩ := hrel
    by_cases hlt : i < N
    · obtain ⟨kd, ar, TA, tn, tc, b2, b3, b4, hk2, hk3⟩ := HK.out i hlt
      have hBo := (HFV.out.keep HB.out).at Hk0.out
      have q2 : wr.cell? ⟨g, i * 5 + 2, none⟩ = some (.int .i64 kd) := (hBo.cellAt (i * 5 + 2) (by show i * 5 + 2 < N * 5; omega)).trans b2
      have q3 : wr.cell? ⟨g, i * 5 + 3, none⟩ = some (.int .i64 ar) := (hBo.cellAt (i * 5 + 3) (by show i * 5 + 3 < N * 5; omega)).trans b3
      have q4 : wr.cell? ⟨g, i * 5 + 4, none⟩ = some (.slice TA tn tc) := (hBo.cellAt (i * 5 + 4) (by show i * 5 + 4 < N * 5; omega)).trans b4
      have e4r := (HB.out.cell (p := ⟨E, 4, none⟩) HFV.out.el).trans e4
      have hH := hasArg_no kd ar (.slice TA tn tc) wr hk2 hk3
      have l1 : (i : Int) < N := by omega
      clear hBo b2 b3 b4 hk2 hk3
      go_wp2_with (go_at_call 30; refine hH.mono ?_; rintro e w5 ⟨rfl, hb5⟩; have HB5 := Lib.hid (HB.out.trans (hb5.mono HB.out.size)); clear hb5 hH)
      go_roundw
      case rel => exact ⟨i + 1, by omega, by go_num, HB5⟩
      case measure => simp [intOf]; omega
    · obtain rfl : i = N := by omega
      go_wp2
      go_end0
      exact ⟨rfl, HdV.out.trans (Bd.of_below HB.out HbV.out), (HB.out.block E HFV.out.el).trans HEV.out, HFV.out.keep HB.out⟩
end Go.Proofs.Ytdjpjonikceadaa
