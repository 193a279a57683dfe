/-
  Programs as bytes: the reference's bytes of programs.
-/
import Derived.Test.YthjlpbglnnebkaaCeJ
namespace Go.Proofs.Ythjlpbglnnebkaa
open Go.RowKit Go.Sort
set_option linter.unusedVariables false
set_option linter.unusedSimpArgs false

set_option maxRecDepth 100000 in
set_option maxHeartbeats 32000000 in
theorem rencode_w (n0 : Nat) (mn : Int) (fs : List (List UInt8 × SF)) (fA : Option Addr) (fc : Nat) (w : World) (hf : CFs n0 w (.slice fA fs.length fc) fs) (hn0 : n0 ≤ w.heap.size) (hl : fs.length ≤ 1048576 ∧ ∀ d ∈ fs, FunL d.2) (hin : ∀ d ∈ fs, ∀ x ∈ d.2.ins, InG x.n) (hlen : (cdProg mn fs).length ≤ 1098000000000) :
    Calls Try.prog 23 #[.agg #[.slice fA fs.length fc, .int .i64 mn]] w fun e w' => e = .returned (.string ⟨(cdProg mn fs).toArray⟩) ∧ Below w.heap.size w w' := by
  obtain ⟨W, hW, hbW, hzW, h0W⟩ := gr_one w #[.slice fA fs.length fc, .int .i64 mn] 36
  obtain ⟨P0, hP0⟩ : ∃ P0, P0 = cdN (u64Q mn) ++ cdN fs.length := ⟨_, rfl⟩
  obtain ⟨R, hR⟩ : ∃ R, R = cdProg mn fs := ⟨_, rfl⟩
  have hall : P0 ++ cdFns fs = R := by rw [hR, hP0]; unfold cdProg; simp only [List.append_assoc]
  rw [← hR] at hlen ⊢
  have Hpre : Hid (∀ i, (P0 ++ cdFns (fs.take i)).length ≤ 1098000000000) := Lib.hid fun i => by
    have h1 := flat_pre_len (fun d : List UInt8 × SF => cdFn d.1 d.2) fs i
    rw [← hall] at hlen
    unfold cdFns at *
    simp only [List.length_append] at *
    omega
  have Hone : Hid (∀ d ∈ fs, (cdFn d.1 d.2).length ≤ 1098000000000) := Lib.hid fun d hd => by
    have h1 : (cdFn d.1 d.2).length ≤ (cdFns fs).length := by
      obtain ⟨a, b, rfl⟩ := List.append_of_mem hd
      unfold cdFns
      simp only [List.flatMap_append, List.flatMap_cons, List.length_append]
      omega
    rw [← hall, List.length_append] at hlen
    omega
  have b1 := cdN_len (u64Q mn)
  have b2 := cdN_len fs.length
  obtain ⟨fl, hfl⟩ : ∃ n, n = fs.length := ⟨_, rfl⟩
  have hlb : fl ≤ 1048576 := by rw [hfl]; exact hl.1
  have hA := so_call2 W fun X hX => rnum_c (u64Q mn) (u64Q_lt _) X
  have hB := so_call2 W fun X hX => rnum_c fl (by omega) X
  have wA : IntKind.u64.wrap mn = (u64Q mn : Int) := u64Q_wrap _
  have wB : IntKind.u64.wrap (fl : Int) = (fl : Int) := by rw [IntKind.wrap_u64]; omega
  obtain ⟨s1, hs1⟩ : ∃ s : ByteArray, s = ⟨(cdN (u64Q mn)).toArray⟩ := ⟨_, rfl⟩
  obtain ⟨s2, hs2⟩ : ∃ s : ByteArray, s = ⟨(cdN fl).toArray⟩ := ⟨_, rfl⟩
  have m1 : ¬ 9223372036854775807 < s1.size + s2.size := by
    rw [← hfl] at b2
    rw [hs1, hs2, baS, baS]
    omega
  have HP : Hid (s1 ++ s2 = ⟨P0.toArray⟩) := Lib.hid (by rw [hs1, hs2, ba_two, hP0, hfl])
  rw [← hs1] at hA
  rw [← hs2] at hB
  obtain ⟨um, hum⟩ : ∃ n : Nat, n = u64Q mn := ⟨_, rfl⟩
  rw [← hum] at hA wA
  have Hf : Hid (∀ X, Below W.heap.size W X → CFs n0 X (.slice fA fl fc) fs) := Lib.hid fun X hX => by rw [hfl]; exact hf.keep ((hbW.trans (hX.mono (by omega))).mono hn0)
  rw [← hfl] at hW h0W ⊢
  have HC : Hid (∀ X, Below W.heap.size W X → X.cell? ⟨w.heap.size, 0, none⟩ = some (.slice fA fl fc) ∧ X.cell? ⟨w.heap.size, 1, none⟩ = some (.int .i64 mn)) := Lib.hid fun X hX => by
    have h0 := (hX.block w.heap.size (by omega)).trans h0W
    exact ⟨Lib.cell_of_heap h0 0, Lib.cell_of_heap h0 1⟩
  have HB0 : Hid (∀ X, Below W.heap.size W X → Below w.heap.size w X) := Lib.hid fun X hX => hbW.trans (hX.mono (by omega))
  have Hn0 : Hid (n0 ≤ W.heap.size) := Lib.hid (by omega)
  have HW := Lib.hid hW
  have Hfl := Lib.hid hfl
  have Hl := Lib.hid hl
  have Hin := Lib.hid hin
  have Hall := Lib.hid hall
  obtain ⟨x0, x1⟩ := HC.out W (Below.refl _ _)
  have k0 := cell_regrown x0
  have k1 := cell_regrown x1
  clear hW hbW hzW h0W hP0 hR hall hlen b1 b2 hfl hl hin hf hn0 hs1 hs2 hum
  go_enter Try.func23, Try.ntmps23
  go_upto_region 1 with fail
  rw [← HW.out]
  refine wp_region_quiet_below (by kernel_rfl) (by kernel_rfl) ?_
  repeat (go_big_quiet_step (first | with_reducible exact hA _ _ | with_reducible exact hB _ _))
  refine wpQuiet_nil ?_
  intro w2 hw'
  obtain ⟨⟨dq, osq⟩, hw''⟩ := hw'
  have HE := Lib.hid (below_regrown W dq osq)
  rw [← hw''] at HE
  rw [HP.out]
  clear hw'' k0 k1 x0 x1 hA hB m1
  go_wp2_with fail
  go_loopw [3, 4] (fun u3 u4 wr => ∃ i : Nat, i ≤ fl ∧ u4 = .int .i64 (i : Int) ∧ u3 = .string ⟨(P0 ++ cdFns (fs.take i)).toArray⟩ ∧ Hid (Below W.heap.size W wr)) (fun _ u4 _ => fl - (intOf u4).toNat)
  case atStart => exact ⟨0, Nat.zero_le _, rfl, by simp [cdFns], HE⟩
  case round =>
    clear HE
    obtain ⟨i, hi, rfl, rfl, HB⟩ := hrel
    obtain ⟨wo, hwo⟩ : ∃ x, x = wr := ⟨_, rfl⟩
    rw [← hwo] at HB ⊢
    clear hwo
    obtain ⟨x0, x1⟩ := HC.out wo HB.out
    by_cases hlt : i < fl
    · have hil : i < fs.length := by rw [← Hfl.out]; exact hlt
      have gi := Hf.out wo HB.out
      obtain ⟨gb, go, pA, pc, iA, ic, bA, bc, rfl, -, q0, q1, q2, q3, q4, g1, g2, g3⟩ := gi.at hil
      have hm1 := Hl.out.2 fs[i] (List.getElem_mem hil)
      have hm2 := Hin.out fs[i] (List.getElem_mem hil)
      have hm3 := Hone.out fs[i] (List.getElem_mem hil)
      have hS := cdFns_more fs i hil
      obtain ⟨d, hd⟩ : ∃ d, d = fs[i] := ⟨_, rfl⟩
      rw [← hd] at q0 q1 q2 q3 q4 g1 g2 g3 hm1 hm2 hm3 hS
      have hF := rfn_w n0 d.1 d.2 pA iA bA pc ic bc wo g1 g2 g3 (Nat.le_trans Hn0.out HB.out.size) hm1 hm2 hm3
      obtain ⟨p, hp⟩ : ∃ p, p = P0 ++ cdFns (fs.take i) := ⟨_, rfl⟩
      have hpl := Hpre.out i
      rw [← hp] at hpl ⊢
      obtain ⟨m, hm⟩ : ∃ m, m = cdFn d.1 d.2 := ⟨_, rfl⟩
      rw [← hm] at hF hm3 hS
      have HS : Hid (p ++ m = P0 ++ cdFns (fs.take (i + 1))) := Lib.hid (by rw [hS, hp, List.append_assoc])
      obtain ⟨pl, hpld⟩ : ∃ n : Nat, n = d.2.params.length := ⟨_, rfl⟩
      obtain ⟨il, hild⟩ : ∃ n : Nat, n = d.2.ins.length := ⟨_, rfl⟩
      obtain ⟨bl, hbld⟩ : ∃ n : Nat, n = d.2.blocks.length := ⟨_, rfl⟩
      obtain ⟨rt, hrt⟩ : ∃ n, n = d.2.ret := ⟨_, rfl⟩
      obtain ⟨nm, hnm⟩ : ∃ n, n = d.1 := ⟨_, rfl⟩
      rw [← hpld] at q1 hF
      rw [← hild] at q3 hF
      rw [← hbld] at q4 hF
      rw [← hrt] at q2 hF
      rw [← hnm] at q0 hF
      clear hil gi g1 g2 g3 hm1 hm2 hS hd hp hm hpld hild hbld hrt hnm
      go_wp2_with (go_at_call 38; refine hF.mono ?_; rintro e w5 ⟨rfl, h5⟩; have B5 := Lib.hid (HB.out.trans (h5.mono HB.out.size)); clear h5 hF x0 x1 q0 q1 q2 q3 q4)
      go_roundw
      case rel => exact ⟨i + 1, by omega, by go_num, by rw [ba_two, HS.out], B5⟩
      case measure => simp [intOf]; omega
    · have hie : i = fs.length := by rw [← Hfl.out]; omega
      have HR : Hid (P0 ++ cdFns (fs.take i) = R) := Lib.hid (by rw [hie, List.take_length]; exact Hall.out)
      rw [HR.out]
      clear hie
      go_wp2_with fail
      go_ret
      exact ⟨rfl, HB0.out _ HB.out⟩
end Go.Proofs.Ythjlpbglnnebkaa
