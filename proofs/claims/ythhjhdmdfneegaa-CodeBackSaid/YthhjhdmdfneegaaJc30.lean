/-
  Programs as bytes: the reference's bytes of rows and functions.
  Programs as bytes: the reference's bytes of functions.
  Programs as bytes: the reference's bytes of programs.
-/
import Derived.Test.YthhjhdmdfneegaaJc29
import Derived.Lib.QuietBelow
import Derived.BigQuiet
import Derived.Deep.DeepCutAuto
namespace Go.Proofs.Ythhjhdmdfneegaa
set_option linter.unusedVariables false
set_option linter.unusedSimpArgs false
open Go.RowKit Go.Sort

theorem so_call {P : Program} {f : FuncId} {args : Array Value} {v : Value} (W : World) (h : ∀ A, Below W.heap.size W A → Calls P f args A fun e w' => e = .returned v ∧ Below A.heap.size A w') :
    ∀ p : Regrown, Calls P f args (grow (redrawn W p.d) p.os) fun e w' => e = .returned v ∧ ∃ q : Regrown, w' = grow (redrawn W q.d) q.os := fun p => Calls.regrown_of (h _ (below_regrown W p.d p.os))
theorem so_call2 {P : Program} {f : FuncId} {args : Array Value} {v : Value} (W : World) (h : ∀ A, Below W.heap.size W A → Calls P f args A fun e w' => e = .returned v ∧ Below A.heap.size A w') :
    ∀ d os, Calls P f args (grow (redrawn W d) os) fun e w' => e = .returned v ∧ ∃ q : Regrown, w' = grow (redrawn W q.d) q.os := fun d os => so_call W h ⟨d, os⟩
theorem baS (l : List UInt8) : (⟨l.toArray⟩ : ByteArray).size = l.length := by simp [ByteArray.size]
set_option maxRecDepth 100000 in
set_option maxHeartbeats 4000000 in
theorem rrow_w (n0 : Nat) (A : Option Addr) (n c : Nat) (l : List Int) (w : World) (h : GNs n0 w (.slice A n c) l) (hn0 : n0 ≤ w.heap.size) (hll : l.length ≤ 1048576) : Calls Try.prog 45 #[.slice A n c] w fun e w' => e = .returned (.string ⟨(cdRow l).toArray⟩) ∧ Below w.heap.size w w' := by
  have hnl := h.len
  have hN := rnum_c n (by omega)
  have H := Lib.hid h
  have Hnl := Lib.hid hnl
  have hnb : n ≤ 1048576 := by omega
  have hwn : IntKind.u64.wrap (n : Int) = (n : Int) := by rw [IntKind.wrap_u64]; omega
  have Hlen : Hid (∀ i, (cdN n ++ cdOnes (l.take i)).length ≤ 20000000) := Lib.hid (fun i => by
    have := cdN_len n
    have := cdOnes_take_len l i
    rw [List.length_append]
    omega)
  clear h hnl hll
  go_enter Try.func45, Try.ntmps45
  go_upto_region 2 with (go_at_call 22; refine (hN _).mono ?_; rintro e w1 ⟨rfl, h1⟩; have B1 := Lib.hid h1; clear h1 hN)
  go_wp2_with fail
  go_loopw [3, 4] (fun u3 u4 wr => ∃ i : Nat, i ≤ n ∧ u4 = .int .i64 (i : Int) ∧ u3 = .string ⟨(cdN n ++ cdOnes (l.take i)).toArray⟩ ∧ Hid (Below w.heap.size w wr)) (fun _ u4 _ => n - (intOf u4).toNat)
  case atStart => exact ⟨0, Nat.zero_le _, rfl, by simp [cdOnes], B1⟩
  case round =>
    clear B1
    obtain ⟨i, hi, rfl, rfl, HB⟩ := hrel
    by_cases hlt : i < n
    · have hil : i < l.length := by rw [← Hnl.out]; exact hlt
      obtain ⟨gb, go, rfl, -, kx⟩ := (H.out.keep (HB.out.mono hn0)).at hil
      have hS := cdOnes_more l i hil
      obtain ⟨x, hx⟩ : ∃ x, x = l[i] := ⟨_, rfl⟩
      rw [← hx] at kx hS
      have hM := rnum_c (u64Q (x + 1)) (u64Q_lt _)
      have hu : IntKind.u64.wrap (wrap64 (x + 1)) = (u64Q (x + 1) : Int) := by
        rw [u64Q_wrap]
        have : u64Q (wrap64 (x + 1)) = u64Q (x + 1) := by unfold u64Q wrap64; omega
        rw [this]
      have hml := cdN_len (u64Q (x + 1))
      obtain ⟨m, hm⟩ : ∃ m, m = cdN (u64Q (x + 1)) := ⟨_, rfl⟩
      obtain ⟨k, hk⟩ : ∃ k, k = u64Q (x + 1) := ⟨_, rfl⟩
      obtain ⟨p, hp⟩ : ∃ p, p = cdN n ++ cdOnes (l.take i) := ⟨_, rfl⟩
      have hpl := Hlen.out i
      rw [← hm] at hM hml hS
      rw [← hk] at hM hu
      rw [← hp] at hpl ⊢
      have HS : Hid (p ++ m = cdN n ++ cdOnes (l.take (i + 1))) := Lib.hid (by rw [hS, hp, List.append_assoc])
      clear hx hm hk hp hS hil
      go_wp2_with (go_at_call 22; refine (hM _).mono ?_; rintro e w2 ⟨rfl, h2⟩; have B2 := Lib.hid (HB.out.trans (h2.mono HB.out.size)); clear h2 hM)
      go_roundw
      case rel => exact ⟨i + 1, by omega, by go_num, by rw [ba_two, HS.out], B2⟩
      case measure => simp [intOf]; omega
    · have hie : i = l.length := by rw [← Hnl.out]; omega
      have HR : Hid (cdN n ++ cdOnes (l.take i) = cdRow l) := Lib.hid (by rw [hie, List.take_length, Hnl.out]; rfl)
      rw [HR.out]
      clear hie
      go_wp2_with fail
      go_ret
      exact ⟨rfl, HB.out⟩
end Go.Proofs.Ythhjhdmdfneegaa
namespace Go.Proofs.Ythhjhdmdfneegaa
set_option linter.unusedVariables false
set_option linter.unusedSimpArgs false
open Go.RowKit Go.Sort

set_option maxRecDepth 100000 in
set_option maxHeartbeats 32000000 in
theorem rfn_w (n0 : Nat) (nm : List UInt8) (f : SF) (pA iA bA : Option Addr) (pc ic bc : Nat) (w : World) (hp : GNs n0 w (.slice pA f.params.length pc) f.params) (hi : SIs n0 w (.slice iA f.ins.length ic) f.ins) (hb : SBs n0 w (.slice bA f.blocks.length bc) f.blocks) (hn0 : n0 ≤ w.heap.size) (hf : FunL f) (hin : ∀ x ∈ f.ins, InG x.n) (hlen : (cdFn nm f).length ≤ 1098000000000) :
    Calls Try.prog 23 #[.agg #[.string ⟨nm.toArray⟩, .slice pA f.params.length pc, .int .i64 f.ret, .slice iA f.ins.length ic, .slice bA f.blocks.length bc]] w fun e w' => e = .returned (.string ⟨(cdFn nm f).toArray⟩) ∧ Below w.heap.size w w' := by
  obtain ⟨W, hW, hbW, hzW, h0W⟩ := gr_one w #[.string ⟨nm.toArray⟩, .slice pA f.params.length pc, .int .i64 f.ret, .slice iA f.ins.length ic, .slice bA f.blocks.length bc] 43
  have HC : Hid (∀ X, Below W.heap.size W X → X.cell? ⟨w.heap.size, 0, none⟩ = some (.string ⟨nm.toArray⟩) ∧ X.cell? ⟨w.heap.size, 1, none⟩ = some (.slice pA f.params.length pc) ∧ X.cell? ⟨w.heap.size, 2, none⟩ = some (.int .i64 f.ret) ∧ X.cell? ⟨w.heap.size, 3, none⟩ = some (.slice iA f.ins.length ic) ∧ X.cell? ⟨w.heap.size, 4, none⟩ = some (.slice bA f.blocks.length bc)) := Lib.hid fun X hX => by
    obtain ⟨x0, x1, x2, x3, x4, -⟩ := gr_five ((hX.block w.heap.size (by omega)).trans h0W)
    exact ⟨x0, x1, x2, x3, x4⟩
  have HB0 : Hid (∀ X, Below W.heap.size W X → Below w.heap.size w X) := Lib.hid fun X hX => hbW.trans (hX.mono (by omega))
  have Hgi : Hid (∀ X, Below W.heap.size W X → SIs n0 X (.slice iA f.ins.length ic) f.ins) := Lib.hid fun X hX => hi.keep ((hbW.trans (hX.mono (by omega))).mono hn0)
  have Hgb : Hid (∀ X, Below W.heap.size W X → SBs n0 X (.slice bA f.blocks.length bc) f.blocks) := Lib.hid fun X hX => hb.keep ((hbW.trans (hX.mono (by omega))).mono hn0)
  have Hn0 : Hid (n0 ≤ W.heap.size) := Lib.hid (by omega)
  -- the bytes, in parts
  obtain ⟨P0, hP0⟩ : ∃ P0, P0 = cdN nm.length ++ nm ++ cdRow f.params ++ cdN (u64Q f.ret) ++ cdN f.ins.length := ⟨_, rfl⟩
  have hall : cdFn nm f = P0 ++ cdInss f.ins ++ cdN f.blocks.length ++ cdBlks f.blocks := by rw [hP0]; unfold cdFn; simp only [List.append_assoc]
  obtain ⟨R, hR⟩ : ∃ R, R = cdFn nm f := ⟨_, rfl⟩
  rw [← hR] at hall hlen ⊢
  have hpre : ∀ i k, (P0 ++ cdInss (f.ins.take i)).length ≤ 1098000000000 ∧ (P0 ++ cdInss f.ins ++ cdN f.blocks.length ++ cdBlks (f.blocks.take k)).length ≤ 1098000000000 := fun i k => by
    have h1 := flat_pre_len cdIns f.ins i
    have h2 := flat_pre_len cdBlk f.blocks k
    rw [hall] at hlen
    unfold cdInss cdBlks at *
    simp only [List.length_append] at *
    omega
  have Hall := Lib.hid hall
  have Hpre := Lib.hid hpre
  have hP0l : P0.length ≤ 1098000000000 := by have := (hpre 0 0).1; simp only [List.length_append] at this; omega
  have hc0 := W
  obtain ⟨x0, x1, x2, x3, x4⟩ := HC.out W (Below.refl _ _)
  have k0 := cell_regrown x0
  have k1 := cell_regrown x1
  have k2 := cell_regrown x2
  have k3 := cell_regrown x3
  have k4 := cell_regrown x4
  have hnl : nm.length ≤ 1098000000000 := by
    rw [hP0] at hP0l
    simp only [List.length_append] at hP0l
    omega
  obtain ⟨il, hil⟩ : ∃ n, n = f.ins.length := ⟨_, rfl⟩
  obtain ⟨bl, hbl⟩ : ∃ n, n = f.blocks.length := ⟨_, rfl⟩
  have hilb : il ≤ 1048576 := by rw [hil]; exact hf.1.2.1
  have hblb : bl ≤ 1048576 := by rw [hbl]; exact hf.1.2.2
  have hA := so_call2 W fun X hX => rnum_c nm.length (by omega) X
  have hB := so_call2 W fun X hX => rrow_w n0 pA f.params.length pc f.params X (hp.keep ((hbW.trans (hX.mono (by omega))).mono hn0)) (by have := hX.size; omega) hf.1.1
  have hC := so_call2 W fun X hX => rnum_c (u64Q f.ret) (u64Q_lt _) X
  have hD := so_call2 W fun X hX => rnum_c il (by omega) X
  have wA : IntKind.u64.wrap (nm.length : Int) = (nm.length : Int) := by rw [IntKind.wrap_u64]; omega
  have wC : IntKind.u64.wrap f.ret = (u64Q f.ret : Int) := u64Q_wrap _
  have wD : IntKind.u64.wrap (il : Int) = (il : Int) := by rw [IntKind.wrap_u64]; omega
  have wE : IntKind.u64.wrap (bl : Int) = (bl : Int) := by rw [IntKind.wrap_u64]; omega
  have l1 := cdN_len nm.length
  have l2 := cdRow_len f.params
  have l3 := cdN_len (u64Q f.ret)
  have l4 := cdN_len f.ins.length
  rw [← hil] at hP0 x3 k3 l4 HC Hgi
  rw [← hbl] at x4 k4 HC Hgb
  have HW : Hid (W = w.alloc (.cells #[.string ⟨nm.toArray⟩, .slice pA f.params.length pc, .int .i64 f.ret, .slice iA il ic, .slice bA bl bc] 43)) := Lib.hid (by rw [hW, hil, hbl])
  have Hil := Lib.hid hil
  have Hbl := Lib.hid hbl
  have hpl := hf.1.1
  obtain ⟨pl, hpld⟩ : ∃ n, n = f.params.length := ⟨_, rfl⟩
  rw [← hpld] at k1 x1 hB l2 hpl HW HC
  obtain ⟨rt, hrt⟩ : ∃ r, r = f.ret := ⟨_, rfl⟩
  rw [← hrt] at k2 x2 wC HW HC
  obtain ⟨s1, hs1⟩ : ∃ s : ByteArray, s = ⟨(cdN nm.length).toArray⟩ := ⟨_, rfl⟩
  obtain ⟨s2, hs2⟩ : ∃ s : ByteArray, s = ⟨nm.toArray⟩ := ⟨_, rfl⟩
  obtain ⟨s3, hs3⟩ : ∃ s : ByteArray, s = ⟨(cdRow f.params).toArray⟩ := ⟨_, rfl⟩
  obtain ⟨s4, hs4⟩ : ∃ s : ByteArray, s = ⟨(cdN (u64Q f.ret)).toArray⟩ := ⟨_, rfl⟩
  obtain ⟨s5, hs5⟩ : ∃ s : ByteArray, s = ⟨(cdN il).toArray⟩ := ⟨_, rfl⟩
  have z1 : s1.size = (cdN nm.length).length := by rw [hs1, baS]
  have z2 : s2.size = nm.length := by rw [hs2, baS]
  have z3 : s3.size = (cdRow f.params).length := by rw [hs3, baS]
  have z4 : s4.size = (cdN (u64Q f.ret)).length := by rw [hs4, baS]
  have z5 : s5.size = (cdN il).length := by rw [hs5, baS]
  have m1 : ¬ 9223372036854775807 < s1.size + s2.size := by omega
  have m2 : ¬ 9223372036854775807 < s1.size + s2.size + s3.size := by omega
  have m3 : ¬ 9223372036854775807 < s1.size + s2.size + s3.size + s4.size := by omega
  have m4 : ¬ 9223372036854775807 < s1.size + s2.size + s3.size + s4.size + s5.size := by omega
  have HP0 : Hid (s1 ++ s2 ++ s3 ++ s4 ++ s5 = ⟨P0.toArray⟩) := Lib.hid (by rw [hs1, hs2, hs3, hs4, hs5, hP0, ba_two, ba_two, ba_two, ba_two])
  rw [← hs1] at hA
  rw [← hs2] at k0 x0 HC HW
  rw [← hs3] at hB
  rw [← hs4] at hC
  rw [← hs5] at hD
  obtain ⟨nl, hnld⟩ : ∃ n : Nat, n = nm.length := ⟨_, rfl⟩
  obtain ⟨ur, hur⟩ : ∃ n : Nat, n = u64Q f.ret := ⟨_, rfl⟩
  rw [← hnld] at hA wA
  rw [hrt, ← hur] at wC
  rw [← hrt] at wC
  rw [← hur] at hC
  have Hz2 := Lib.hid (show s2.size = nl by rw [z2, hnld])
  have hz2 : (s2.size : Int) = (nl : Int) := by rw [z2, hnld]
  have Hf := Lib.hid hf
  have Hin := Lib.hid hin
  have Hhs2 := Lib.hid hs2
  rw [show (⟨nm.toArray⟩ : ByteArray) = s2 from hs2.symm]
  rw [show f.params.length = pl from hpld.symm, show f.ret = rt from hrt.symm, show f.ins.length = il from hil.symm, show f.blocks.length = bl from hbl.symm]
  clear hW hbW hzW h0W hp hi hb hn0 hf hin hlen hP0 hall hR hpre hP0l hc0 hnl hil hbl l1 l2 l3 l4 hs1 hs2 hs3 hs4 hs5 z1 z2 z3 z4 z5 hpld hrt hnld hur hpl
  go_enter Try.func23, Try.ntmps23
  go_upto_region 1 with fail
  rw [← HW.out]
  refine wp_region_quiet_below (by kernel_rfl) (by kernel_rfl) ?_
  repeat (go_big_quiet_step (first | with_reducible exact hB _ _ | with_reducible exact hA _ _ | with_reducible exact hC _ _ | with_reducible exact hD _ _))
  refine wpQuiet_nil ?_
  intro w2 hw'
  obtain ⟨⟨dq, osq⟩, hw''⟩ := hw'
  have HE := Lib.hid (below_regrown W dq osq)
  rw [← hw''] at HE
  rw [HP0.out]
  clear hw'' k0 k1 k2 k3 k4 x0 x1 x2 x3 x4 hA hB hC hD m1 m2 m3 m4
  go_upto_block 0 with fail
  go_cut [3] (fun u3 wx => u3 = .string ⟨(P0 ++ cdInss f.ins).toArray⟩ ∧ Hid (Below W.heap.size W wx))
  case first =>
    go_wp2_with fail
    go_loopw [3, 4] (fun u3 u4 wr => ∃ i : Nat, i ≤ il ∧ u4 = .int .i64 (i : Int) ∧ u3 = .string ⟨(P0 ++ cdInss (f.ins.take i)).toArray⟩ ∧ Hid (Below W.heap.size W wr)) (fun _ u4 _ => il - (intOf u4).toNat)
    case atStart => exact ⟨0, Nat.zero_le _, rfl, by simp [cdInss], HE⟩
    case round =>
      clear HE
      obtain ⟨i, hi, rfl, rfl, HB⟩ := hrel
      obtain ⟨wo, hwo⟩ : ∃ x, x = wr := ⟨_, rfl⟩
      rw [← hwo] at HB ⊢
      clear hwo
      obtain ⟨x0, x1, x2, x3, x4⟩ := HC.out wo HB.out
      by_cases hlt : i < il
      · have hil : i < f.ins.length := by rw [← Hil.out]; exact hlt
        have gi := Hgi.out wo HB.out
        obtain ⟨gb, go, aA, ac, rfl, -, q0, q1, q2, q3, q4, gx⟩ := gi.at hil
        have hmem := Hf.out.2.1 f.ins[i] (List.getElem_mem hil)
        have hxn := Hin.out f.ins[i] (List.getElem_mem hil)
        have hS := cdInss_more f.ins i hil
        obtain ⟨d, hd⟩ : ∃ d, d = f.ins[i] := ⟨_, rfl⟩
        rw [← hd] at q0 q1 q2 q3 q4 gx hmem hxn hS
        obtain ⟨V, hV, hbV, hzV, h0V⟩ := gr_one wo #[.int .i64 d.op, .int .i64 d.ty, .slice aA d.args.length ac, .int .i64 d.n, .int .i64 d.to_] 46
        obtain ⟨y0, y1, y2, y3, y4, -⟩ := gr_five h0V
        have hno : n0 ≤ wo.heap.size := Nat.le_trans Hn0.out HB.out.size
        have hA := so_call2 V fun X hX => rnum_c (u64Q d.op) (u64Q_lt _) X
        have hB := so_call2 V fun X hX => rnum_c (u64Q d.ty) (u64Q_lt _) X
        have hC := so_call2 V fun X hX => rrow_w n0 aA d.args.length ac d.args X (gx.keep ((hbV.trans (hX.mono (by omega))).mono hno)) (by have := hX.size; omega) hmem
        have hD := so_call2 V fun X hX => (rsign_c d.n hxn X).mono fun e w' ⟨h1, h2⟩ => ⟨h1, by rw [h2]; exact Below.refl _ _⟩
        have hE := so_call2 V fun X hX => rnum_c (signQ d.n) (signQ_lt _ hxn) X
        have hG := so_call2 V fun X hX => rnum_c (u64Q d.to_) (u64Q_lt _) X
        have wA : IntKind.u64.wrap d.op = (u64Q d.op : Int) := u64Q_wrap _
        have wB : IntKind.u64.wrap d.ty = (u64Q d.ty : Int) := u64Q_wrap _
        have wG : IntKind.u64.wrap d.to_ = (u64Q d.to_ : Int) := u64Q_wrap _
        have b1 := cdN_len (u64Q d.op)
        have b2 := cdN_len (u64Q d.ty)
        have b3 := cdRow_len d.args
        have b4 := cdN_len (signQ d.n)
        have b5 := cdN_len (u64Q d.to_)
        obtain ⟨p, hp⟩ : ∃ p, p = P0 ++ cdInss (f.ins.take i) := ⟨_, rfl⟩
        have hpl := (Hpre.out i 0).1
        rw [← hp] at hpl ⊢
        obtain ⟨s0, hs0⟩ : ∃ s : ByteArray, s = ⟨p.toArray⟩ := ⟨_, rfl⟩
        obtain ⟨s1, hs1⟩ : ∃ s : ByteArray, s = ⟨(cdN (u64Q d.op)).toArray⟩ := ⟨_, rfl⟩
        obtain ⟨s2, hs2⟩ : ∃ s : ByteArray, s = ⟨(cdN (u64Q d.ty)).toArray⟩ := ⟨_, rfl⟩
        obtain ⟨s3, hs3⟩ : ∃ s : ByteArray, s = ⟨(cdRow d.args).toArray⟩ := ⟨_, rfl⟩
        obtain ⟨s4, hs4⟩ : ∃ s : ByteArray, s = ⟨(cdN (signQ d.n)).toArray⟩ := ⟨_, rfl⟩
        obtain ⟨s5, hs5⟩ : ∃ s : ByteArray, s = ⟨(cdN (u64Q d.to_)).toArray⟩ := ⟨_, rfl⟩
        have z0 : s0.size = p.length := by rw [hs0, baS]
        have z1 : s1.size = (cdN (u64Q d.op)).length := by rw [hs1, baS]
        have z2 : s2.size = (cdN (u64Q d.ty)).length := by rw [hs2, baS]
        have z3 : s3.size = (cdRow d.args).length := by rw [hs3, baS]
        have z4 : s4.size = (cdN (signQ d.n)).length := by rw [hs4, baS]
        have z5 : s5.size = (cdN (u64Q d.to_)).length := by rw [hs5, baS]
        have m1 : ¬ 9223372036854775807 < s1.size + s2.size := by omega
        have m2 : ¬ 9223372036854775807 < s1.size + s2.size + s3.size := by omega
        have m3 : ¬ 9223372036854775807 < s1.size + s2.size + s3.size + s4.size := by omega
        have m4 : ¬ 9223372036854775807 < s1.size + s2.size + s3.size + s4.size + s5.size := by omega
        have m5 : ¬ 9223372036854775807 < s0.size + (s1.size + s2.size + s3.size + s4.size + s5.size) := by omega
        have HS : Hid (s0 ++ (s1 ++ s2 ++ s3 ++ s4 ++ s5) = ⟨(P0 ++ cdInss (f.ins.take (i + 1))).toArray⟩) := Lib.hid (by
          rw [hs0, hs1, hs2, hs3, hs4, hs5, ba_two, ba_two, ba_two, ba_two, ba_two, hS, hp]
          unfold cdIns
          simp only [List.append_assoc])
        rw [← hs1] at hA
        rw [← hs2] at hB
        rw [← hs3] at hC
        rw [← hs4] at hE
        rw [← hs5] at hG
        rw [← hs0]
        obtain ⟨c1, hc1⟩ : ∃ n : Nat, n = u64Q d.op := ⟨_, rfl⟩
        obtain ⟨c2, hc2⟩ : ∃ n : Nat, n = u64Q d.ty := ⟨_, rfl⟩
        obtain ⟨c4, hc4⟩ : ∃ n : Nat, n = signQ d.n := ⟨_, rfl⟩
        obtain ⟨c5, hc5⟩ : ∃ n : Nat, n = u64Q d.to_ := ⟨_, rfl⟩
        rw [← hc1] at hA wA
        rw [← hc2] at hB wB
        rw [← hc4] at hD hE
        rw [← hc5] at hG wG
        obtain ⟨al, hal⟩ : ∃ n : Nat, n = d.args.length := ⟨_, rfl⟩
        rw [← hal] at q2 y2 hC hV
        obtain ⟨v1, hv1⟩ : ∃ v, v = d.op := ⟨_, rfl⟩
        obtain ⟨v2, hv2⟩ : ∃ v, v = d.ty := ⟨_, rfl⟩
        obtain ⟨v3, hv3⟩ : ∃ v, v = d.n := ⟨_, rfl⟩
        obtain ⟨v4, hv4⟩ : ∃ v, v = d.to_ := ⟨_, rfl⟩
        rw [← hv1] at q0 y0 wA hV
        rw [← hv2] at q1 y1 wB hV
        rw [← hv3] at q3 y3 hD hV
        rw [← hv4] at q4 y4 wG hV
        have HV := Lib.hid hV
        have HbV := Lib.hid (HB.out.trans (hbV.mono HB.out.size))
        have Hss := Lib.hid HB.out.size
        clear hil gi gx hmem hxn hS hd hV hbV hzV h0V hno b1 b2 b3 b4 b5 hp hpl hs0 hs1 hs2 hs3 hs4 hs5 z0 z1 z2 z3 z4 z5 hc1 hc2 hc4 hc5 hal hv1 hv2 hv3 hv4
        go_upto_region 6 with fail
        rw [← HV.out]
        clear q0 q1 q2 q3 q4 x0 x1 x2 x3 x4
        have k0 := cell_regrown y0
        have k1 := cell_regrown y1
        have k2 := cell_regrown y2
        have k3 := cell_regrown y3
        have k4 := cell_regrown y4
        refine wp_region_quiet_below (by kernel_rfl) (by kernel_rfl) ?_
        repeat (go_big_quiet_step (first | with_reducible exact hC _ _ | with_reducible exact hD _ _ | with_reducible exact hA _ _ | with_reducible exact hB _ _ | with_reducible exact hE _ _ | with_reducible exact hG _ _))
        refine wpQuiet_nil ?_
        intro w4 hw'
        obtain ⟨⟨dq2, osq2⟩, hw''⟩ := hw'
        have HE := Lib.hid (HbV.out.trans ((below_regrown V dq2 osq2).mono HbV.out.size))
        rw [← hw''] at HE
        rw [HS.out]
        clear hw'' k0 k1 k2 k3 k4 y0 y1 y2 y3 y4 hA hB hC hD hE hG m1 m2 m3 m4 m5
        go_wp2
        go_roundw
        case rel => exact ⟨i + 1, by omega, by go_num, rfl, HE⟩
        case measure => simp [intOf]; omega
      · have hie : i = f.ins.length := by rw [← Hil.out]; omega
        have HR : Hid (P0 ++ cdInss (f.ins.take i) = P0 ++ cdInss f.ins) := Lib.hid (by rw [hie, List.take_length])
        rw [HR.out]
        clear hie
        go_wp2_with fail
        go_meet
        exact ⟨rfl, HB⟩
  case rest =>
    obtain ⟨rfl, HE2⟩ := hcut
    obtain ⟨x0, x1, x2, x3, x4⟩ := HC.out wc HE2.out
    have hN := rnum_c bl (by omega)
    have b1 := cdN_len bl
    have hpl := (Hpre.out f.ins.length 0).1
    rw [List.take_length] at hpl
    obtain ⟨p, hp⟩ : ∃ p, p = P0 ++ cdInss f.ins := ⟨_, rfl⟩
    obtain ⟨m, hm⟩ : ∃ m, m = cdN bl := ⟨_, rfl⟩
    rw [← hp] at hpl ⊢
    rw [← hm] at hN b1
    have HP : Hid (p ++ m = P0 ++ cdInss f.ins ++ cdN f.blocks.length) := Lib.hid (by rw [hp, hm, Hbl.out])
    clear hp hm
    go_upto_region 8 with (go_at_call 22; refine (hN _).mono ?_; rintro e w5 ⟨rfl, h5⟩; have B5 := Lib.hid (HE2.out.trans (h5.mono HE2.out.size)); clear h5 hN x0 x1 x2 x3 x4)
    rw [ba_two, HP.out]
    obtain ⟨P1, hP1⟩ : ∃ P1, P1 = P0 ++ cdInss f.ins ++ cdN f.blocks.length := ⟨_, rfl⟩
    rw [← hP1]
    have HP1 : Hid (∀ k, (P1 ++ cdBlks (f.blocks.take k)).length ≤ 1098000000000) := Lib.hid fun k => by rw [hP1]; exact (Hpre.out 0 k).2
    have HR : Hid (P1 ++ cdBlks f.blocks = R) := Lib.hid (by rw [hP1, Hall.out])
    clear hP1 HP hpl b1 HE2
    go_wp2_with fail
    go_loopw [3, 6] (fun u3 u6 wr => ∃ i : Nat, i ≤ bl ∧ u6 = .int .i64 (i : Int) ∧ u3 = .string ⟨(P1 ++ cdBlks (f.blocks.take i)).toArray⟩ ∧ Hid (Below W.heap.size W wr)) (fun _ u6 _ => bl - (intOf u6).toNat)
    case atStart => exact ⟨0, Nat.zero_le _, rfl, by simp [cdBlks], B5⟩
    case round =>
      clear B5
      obtain ⟨i, hi, rfl, rfl, HB⟩ := hrel
      obtain ⟨wo, hwo⟩ : ∃ x, x = wr := ⟨_, rfl⟩
      rw [← hwo] at HB ⊢
      clear hwo
      obtain ⟨x0, x1, x2, x3, x4⟩ := HC.out wo HB.out
      by_cases hlt : i < bl
      · have hil : i < f.blocks.length := by rw [← Hbl.out]; exact hlt
        have gi := Hgb.out wo HB.out
        obtain ⟨gb, go, aL, al, aP, ap, aT, at_, rfl, -, q0, q1, q2, q3, q4, gx1, gx2, gx3⟩ := gi.at hil
        have hmem := Hf.out.2.2 f.blocks[i] (List.getElem_mem hil)
        have hS := cdBlks_more f.blocks i hil
        obtain ⟨d, hd⟩ : ∃ d, d = f.blocks[i] := ⟨_, rfl⟩
        rw [← hd] at q0 q1 q2 q3 q4 gx1 gx2 gx3 hmem hS
        obtain ⟨V, hV, hbV, hzV, h0V⟩ := gr_one wo #[.slice aL d.list.length al, .slice aP d.preds.length ap, .int .i64 d.kind, .int .i64 d.arg, .slice aT d.to_.length at_] 51
        obtain ⟨y0, y1, y2, y3, y4, -⟩ := gr_five h0V
        have hno : n0 ≤ wo.heap.size := Nat.le_trans Hn0.out HB.out.size
        have hA := so_call2 V fun X hX => rrow_w n0 aL d.list.length al d.list X (gx1.keep ((hbV.trans (hX.mono (by omega))).mono hno)) (by have := hX.size; omega) hmem.1
        have hB := so_call2 V fun X hX => rrow_w n0 aP d.preds.length ap d.preds X (gx2.keep ((hbV.trans (hX.mono (by omega))).mono hno)) (by have := hX.size; omega) hmem.2.1
        have hC := so_call2 V fun X hX => rnum_c (u64Q d.kind) (u64Q_lt _) X
        have hD := so_call2 V fun X hX => rnum_c (u64Q (d.arg + 1)) (u64Q_lt _) X
        have hE := so_call2 V fun X hX => rrow_w n0 aT d.to_.length at_ d.to_ X (gx3.keep ((hbV.trans (hX.mono (by omega))).mono hno)) (by have := hX.size; omega) hmem.2.2
        have wC : IntKind.u64.wrap d.kind = (u64Q d.kind : Int) := u64Q_wrap _
        have wD : IntKind.u64.wrap (wrap64 (d.arg + 1)) = (u64Q (d.arg + 1) : Int) := by
          rw [u64Q_wrap]
          have : u64Q (wrap64 (d.arg + 1)) = u64Q (d.arg + 1) := by unfold u64Q wrap64; omega
          rw [this]
        have b1 := cdRow_len d.list
        have b2 := cdRow_len d.preds
        have b3 := cdN_len (u64Q d.kind)
        have b4 := cdN_len (u64Q (d.arg + 1))
        have b5 := cdRow_len d.to_
        have bm := hmem
        obtain ⟨p, hp⟩ : ∃ p, p = P1 ++ cdBlks (f.blocks.take i) := ⟨_, rfl⟩
        have hpl := HP1.out i
        rw [← hp] at hpl ⊢
        obtain ⟨s0, hs0⟩ : ∃ s : ByteArray, s = ⟨p.toArray⟩ := ⟨_, rfl⟩
        obtain ⟨s1, hs1⟩ : ∃ s : ByteArray, s = ⟨(cdRow d.list).toArray⟩ := ⟨_, rfl⟩
        obtain ⟨s2, hs2⟩ : ∃ s : ByteArray, s = ⟨(cdRow d.preds).toArray⟩ := ⟨_, rfl⟩
        obtain ⟨s3, hs3⟩ : ∃ s : ByteArray, s = ⟨(cdN (u64Q d.kind)).toArray⟩ := ⟨_, rfl⟩
        obtain ⟨s4, hs4⟩ : ∃ s : ByteArray, s = ⟨(cdN (u64Q (d.arg + 1))).toArray⟩ := ⟨_, rfl⟩
        obtain ⟨s5, hs5⟩ : ∃ s : ByteArray, s = ⟨(cdRow d.to_).toArray⟩ := ⟨_, rfl⟩
        have z0 : s0.size = p.length := by rw [hs0, baS]
        have z1 : s1.size = (cdRow d.list).length := by rw [hs1, baS]
        have z2 : s2.size = (cdRow d.preds).length := by rw [hs2, baS]
        have z3 : s3.size = (cdN (u64Q d.kind)).length := by rw [hs3, baS]
        have z4 : s4.size = (cdN (u64Q (d.arg + 1))).length := by rw [hs4, baS]
        have z5 : s5.size = (cdRow d.to_).length := by rw [hs5, baS]
        have m1 : ¬ 9223372036854775807 < s1.size + s2.size := by omega
        have m2 : ¬ 9223372036854775807 < s1.size + s2.size + s3.size := by omega
        have m3 : ¬ 9223372036854775807 < s1.size + s2.size + s3.size + s4.size := by omega
        have m4 : ¬ 9223372036854775807 < s1.size + s2.size + s3.size + s4.size + s5.size := by omega
        have m5 : ¬ 9223372036854775807 < s0.size + (s1.size + s2.size + s3.size + s4.size + s5.size) := by omega
        have HS : Hid (s0 ++ (s1 ++ s2 ++ s3 ++ s4 ++ s5) = ⟨(P1 ++ cdBlks (f.blocks.take (i + 1))).toArray⟩) := Lib.hid (by
          rw [hs0, hs1, hs2, hs3, hs4, hs5, ba_two, ba_two, ba_two, ba_two, ba_two, hS, hp]
          unfold cdBlk
          simp only [List.append_assoc])
        rw [← hs1] at hA
        rw [← hs2] at hB
        rw [← hs3] at hC
        rw [← hs4] at hD
        rw [← hs5] at hE
        rw [← hs0]
        obtain ⟨c3, hc3⟩ : ∃ n : Nat, n = u64Q d.kind := ⟨_, rfl⟩
        obtain ⟨c4, hc4⟩ : ∃ n : Nat, n = u64Q (d.arg + 1) := ⟨_, rfl⟩
        rw [← hc3] at hC wC
        rw [← hc4] at hD wD
        obtain ⟨e1, he1⟩ : ∃ n : Nat, n = d.list.length := ⟨_, rfl⟩
        obtain ⟨e2, he2⟩ : ∃ n : Nat, n = d.preds.length := ⟨_, rfl⟩
        obtain ⟨e3, he3⟩ : ∃ n : Nat, n = d.to_.length := ⟨_, rfl⟩
        rw [← he1] at q0 y0 hA hV
        rw [← he2] at q1 y1 hB hV
        rw [← he3] at q4 y4 hE hV
        obtain ⟨v2, hv2⟩ : ∃ v, v = d.kind := ⟨_, rfl⟩
        obtain ⟨v3, hv3⟩ : ∃ v, v = d.arg := ⟨_, rfl⟩
        rw [← hv2] at q2 y2 wC hV
        rw [← hv3] at q3 y3 wD hV
        have HV := Lib.hid hV
        have HbV := Lib.hid (HB.out.trans (hbV.mono HB.out.size))
        clear hil gi gx1 gx2 gx3 hmem hS hd hV hbV hzV h0V hno b1 b2 b3 b4 b5 bm hp hpl hs0 hs1 hs2 hs3 hs4 hs5 z0 z1 z2 z3 z4 z5 hc3 hc4 he1 he2 he3 hv2 hv3
        go_upto_region 12 with fail
        rw [← HV.out]
        clear q0 q1 q2 q3 q4 x0 x1 x2 x3 x4
        have k0 := cell_regrown y0
        have k1 := cell_regrown y1
        have k2 := cell_regrown y2
        have k3 := cell_regrown y3
        have k4 := cell_regrown y4
        refine wp_region_quiet_below (by kernel_rfl) (by kernel_rfl) ?_
        repeat (go_big_quiet_step (first | with_reducible exact hA _ _ | with_reducible exact hB _ _ | with_reducible exact hE _ _ | with_reducible exact hC _ _ | with_reducible exact hD _ _))
        refine wpQuiet_nil ?_
        intro w4 hw'
        obtain ⟨⟨dq2, osq2⟩, hw''⟩ := hw'
        have HE := Lib.hid (HbV.out.trans ((below_regrown V dq2 osq2).mono HbV.out.size))
        rw [← hw''] at HE
        rw [HS.out]
        clear hw'' k0 k1 k2 k3 k4 y0 y1 y2 y3 y4 hA hB hC hD hE m1 m2 m3 m4 m5
        go_wp2
        go_roundw
        case rel => exact ⟨i + 1, by omega, by go_num, rfl, HE⟩
        case measure => simp [intOf]; omega
      · have hie : i = f.blocks.length := by rw [← Hbl.out]; omega
        have HR2 : Hid (P1 ++ cdBlks (f.blocks.take i) = R) := Lib.hid (by rw [hie, List.take_length]; exact HR.out)
        rw [HR2.out]
        clear hie
        go_wp2_with fail
        go_ret
        exact ⟨rfl, HB0.out _ HB.out⟩
end Go.Proofs.Ythhjhdmdfneegaa
namespace Go.Proofs.Ythhjhdmdfneegaa
set_option linter.unusedVariables false
set_option linter.unusedSimpArgs false
open Go.RowKit Go.Sort

set_option maxRecDepth 100000 in
set_option maxHeartbeats 32000000 in
theorem rencode_w (n0 : Nat) (mn : Int) (fs : List (List UInt8 × SF)) (fA : Option Addr) (fc : Nat) (w : World) (hf : CFs n0 w (.slice fA fs.length fc) fs) (hn0 : n0 ≤ w.heap.size) (hl : fs.length ≤ 1048576 ∧ ∀ d ∈ fs, FunL d.2) (hin : ∀ d ∈ fs, ∀ x ∈ d.2.ins, InG x.n) (hlen : (cdProg mn fs).length ≤ 1098000000000) :
    Calls Try.prog 9 #[.agg #[.slice fA fs.length fc, .int .i64 mn]] w fun e w' => e = .returned (.string ⟨(cdProg mn fs).toArray⟩) ∧ Below w.heap.size w w' := by
  obtain ⟨W, hW, hbW, hzW, h0W⟩ := gr_one w #[.slice fA fs.length fc, .int .i64 mn] 25
  obtain ⟨P0, hP0⟩ : ∃ P0, P0 = cdN (u64Q mn) ++ cdN fs.length := ⟨_, rfl⟩
  obtain ⟨R, hR⟩ : ∃ R, R = cdProg mn fs := ⟨_, rfl⟩
  have hall : P0 ++ cdFns fs = R := by rw [hR, hP0]; unfold cdProg; simp only [List.append_assoc]
  rw [← hR] at hlen ⊢
  have Hpre : Hid (∀ i, (P0 ++ cdFns (fs.take i)).length ≤ 1098000000000) := Lib.hid fun i => by
    have h1 := flat_pre_len (fun d : List UInt8 × SF => cdFn d.1 d.2) fs i
    rw [← hall] at hlen
    unfold cdFns at *
    simp only [List.length_append] at *
    omega
  have Hone : Hid (∀ d ∈ fs, (cdFn d.1 d.2).length ≤ 1098000000000) := Lib.hid fun d hd => by
    have h1 : (cdFn d.1 d.2).length ≤ (cdFns fs).length := by
      obtain ⟨a, b, rfl⟩ := List.append_of_mem hd
      unfold cdFns
      simp only [List.flatMap_append, List.flatMap_cons, List.length_append]
      omega
    rw [← hall, List.length_append] at hlen
    omega
  have b1 := cdN_len (u64Q mn)
  have b2 := cdN_len fs.length
  obtain ⟨fl, hfl⟩ : ∃ n, n = fs.length := ⟨_, rfl⟩
  have hlb : fl ≤ 1048576 := by rw [hfl]; exact hl.1
  have hA := so_call2 W fun X hX => rnum_c (u64Q mn) (u64Q_lt _) X
  have hB := so_call2 W fun X hX => rnum_c fl (by omega) X
  have wA : IntKind.u64.wrap mn = (u64Q mn : Int) := u64Q_wrap _
  have wB : IntKind.u64.wrap (fl : Int) = (fl : Int) := by rw [IntKind.wrap_u64]; omega
  obtain ⟨s1, hs1⟩ : ∃ s : ByteArray, s = ⟨(cdN (u64Q mn)).toArray⟩ := ⟨_, rfl⟩
  obtain ⟨s2, hs2⟩ : ∃ s : ByteArray, s = ⟨(cdN fl).toArray⟩ := ⟨_, rfl⟩
  have m1 : ¬ 9223372036854775807 < s1.size + s2.size := by
    rw [← hfl] at b2
    rw [hs1, hs2, baS, baS]
    omega
  have HP : Hid (s1 ++ s2 = ⟨P0.toArray⟩) := Lib.hid (by rw [hs1, hs2, ba_two, hP0, hfl])
  rw [← hs1] at hA
  rw [← hs2] at hB
  obtain ⟨um, hum⟩ : ∃ n : Nat, n = u64Q mn := ⟨_, rfl⟩
  rw [← hum] at hA wA
  have Hf : Hid (∀ X, Below W.heap.size W X → CFs n0 X (.slice fA fl fc) fs) := Lib.hid fun X hX => by rw [hfl]; exact hf.keep ((hbW.trans (hX.mono (by omega))).mono hn0)
  rw [← hfl] at hW h0W ⊢
  have HC : Hid (∀ X, Below W.heap.size W X → X.cell? ⟨w.heap.size, 0, none⟩ = some (.slice fA fl fc) ∧ X.cell? ⟨w.heap.size, 1, none⟩ = some (.int .i64 mn)) := Lib.hid fun X hX => by
    have h0 := (hX.block w.heap.size (by omega)).trans h0W
    exact ⟨Lib.cell_of_heap h0 0, Lib.cell_of_heap h0 1⟩
  have HB0 : Hid (∀ X, Below W.heap.size W X → Below w.heap.size w X) := Lib.hid fun X hX => hbW.trans (hX.mono (by omega))
  have Hn0 : Hid (n0 ≤ W.heap.size) := Lib.hid (by omega)
  have HW := Lib.hid hW
  have Hfl := Lib.hid hfl
  have Hl := Lib.hid hl
  have Hin := Lib.hid hin
  have Hall := Lib.hid hall
  obtain ⟨x0, x1⟩ := HC.out W (Below.refl _ _)
  have k0 := cell_regrown x0
  have k1 := cell_regrown x1
  clear hW hbW hzW h0W hP0 hR hall hlen b1 b2 hfl hl hin hf hn0 hs1 hs2 hum
  go_enter Try.func9, Try.ntmps9
  go_upto_region 1 with fail
  rw [← HW.out]
  refine wp_region_quiet_below (by kernel_rfl) (by kernel_rfl) ?_
  repeat (go_big_quiet_step (first | with_reducible exact hA _ _ | with_reducible exact hB _ _))
  refine wpQuiet_nil ?_
  intro w2 hw'
  obtain ⟨⟨dq, osq⟩, hw''⟩ := hw'
  have HE := Lib.hid (below_regrown W dq osq)
  rw [← hw''] at HE
  rw [HP.out]
  clear hw'' k0 k1 x0 x1 hA hB m1
  go_wp2_with fail
  go_loopw [3, 4] (fun u3 u4 wr => ∃ i : Nat, i ≤ fl ∧ u4 = .int .i64 (i : Int) ∧ u3 = .string ⟨(P0 ++ cdFns (fs.take i)).toArray⟩ ∧ Hid (Below W.heap.size W wr)) (fun _ u4 _ => fl - (intOf u4).toNat)
  case atStart => exact ⟨0, Nat.zero_le _, rfl, by simp [cdFns], HE⟩
  case round =>
    clear HE
    obtain ⟨i, hi, rfl, rfl, HB⟩ := hrel
    obtain ⟨wo, hwo⟩ : ∃ x, x = wr := ⟨_, rfl⟩
    rw [← hwo] at HB ⊢
    clear hwo
    obtain ⟨x0, x1⟩ := HC.out wo HB.out
    by_cases hlt : i < fl
    · have hil : i < fs.length := by rw [← Hfl.out]; exact hlt
      have gi := Hf.out wo HB.out
      obtain ⟨gb, go, pA, pc, iA, ic, bA, bc, rfl, -, q0, q1, q2, q3, q4, g1, g2, g3⟩ := gi.at hil
      have hm1 := Hl.out.2 fs[i] (List.getElem_mem hil)
      have hm2 := Hin.out fs[i] (List.getElem_mem hil)
      have hm3 := Hone.out fs[i] (List.getElem_mem hil)
      have hS := cdFns_more fs i hil
      obtain ⟨d, hd⟩ : ∃ d, d = fs[i] := ⟨_, rfl⟩
      rw [← hd] at q0 q1 q2 q3 q4 g1 g2 g3 hm1 hm2 hm3 hS
      have hF := rfn_w n0 d.1 d.2 pA iA bA pc ic bc wo g1 g2 g3 (Nat.le_trans Hn0.out HB.out.size) hm1 hm2 hm3
      obtain ⟨p, hp⟩ : ∃ p, p = P0 ++ cdFns (fs.take i) := ⟨_, rfl⟩
      have hpl := Hpre.out i
      rw [← hp] at hpl ⊢
      obtain ⟨m, hm⟩ : ∃ m, m = cdFn d.1 d.2 := ⟨_, rfl⟩
      rw [← hm] at hF hm3 hS
      have HS : Hid (p ++ m = P0 ++ cdFns (fs.take (i + 1))) := Lib.hid (by rw [hS, hp, List.append_assoc])
      obtain ⟨pl, hpld⟩ : ∃ n : Nat, n = d.2.params.length := ⟨_, rfl⟩
      obtain ⟨il, hild⟩ : ∃ n : Nat, n = d.2.ins.length := ⟨_, rfl⟩
      obtain ⟨bl, hbld⟩ : ∃ n : Nat, n = d.2.blocks.length := ⟨_, rfl⟩
      obtain ⟨rt, hrt⟩ : ∃ n, n = d.2.ret := ⟨_, rfl⟩
      obtain ⟨nm, hnm⟩ : ∃ n, n = d.1 := ⟨_, rfl⟩
      rw [← hpld] at q1 hF
      rw [← hild] at q3 hF
      rw [← hbld] at q4 hF
      rw [← hrt] at q2 hF
      rw [← hnm] at q0 hF
      clear hil gi g1 g2 g3 hm1 hm2 hS hd hp hm hpld hild hbld hrt hnm
      go_wp2_with (go_at_call 23; refine hF.mono ?_; rintro e w5 ⟨rfl, h5⟩; have B5 := Lib.hid (HB.out.trans (h5.mono HB.out.size)); clear h5 hF x0 x1 q0 q1 q2 q3 q4)
      go_roundw
      case rel => exact ⟨i + 1, by omega, by go_num, by rw [ba_two, HS.out], B5⟩
      case measure => simp [intOf]; omega
    · have hie : i = fs.length := by rw [← Hfl.out]; omega
      have HR : Hid (P0 ++ cdFns (fs.take i) = R) := Lib.hid (by rw [hie, List.take_length]; exact Hall.out)
      rw [HR.out]
      clear hie
      go_wp2_with fail
      go_ret
      exact ⟨rfl, HB0.out _ HB.out⟩
end Go.Proofs.Ythhjhdmdfneegaa
