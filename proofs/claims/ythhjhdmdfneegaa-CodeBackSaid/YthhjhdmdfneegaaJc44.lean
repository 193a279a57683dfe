/-
  Which programs may be, by the reference: an instruction's types: its other tests.
  Which programs may be, by the reference: an instruction's types: calls.
-/
import Derived.Test.YthhjhdmdfneegaaJc32
import Derived.Test.YthhjhdmdfneegaaJc38
import Derived.Test.YthhjhdmdfneegaaJc42
namespace Go.Proofs.Ythhjhdmdfneegaa
set_option linter.unusedVariables false
set_option linter.unusedSimpArgs false
open Go.RowKit Go.Shelf

set_option maxRecDepth 100000 in
set_option maxHeartbeats 16000000 in
theorem iw0 {s : Nat → Value} {w0 w : World} {pb fb xb : Nat} {fA : Option Addr} {fn fc : Nat} {mn : Int} {V : RV} {f : SF} {x : SIn} {aA : Option Addr} {an ac : Nat} {k : Int} (h : Wi s w0 w pb fb xb fA fn fc mn V f x aA an ac k) (hop : x.op ≠ 36) (Q : Exit → Act → World → Prop) (hQ : InQ w0 f x Q) : (inW0).wp Try.prog Q (fi s) w := by
  obtain ⟨op, ty, args, nn, to_⟩ := x
  have HQ := Lib.hid hQ
  have HB := Lib.hid h.b
  have HZ := Lib.hid (h.to0 hop)
  obtain ⟨nm, pA, pn, pc, rt, iA, in_, ic, bA, bn, bc⟩ := V
  obtain ⟨f0, f1, f2, f3, f4, -⟩ := gr_five (show w.heap[fb]? = some (.cells #[.string nm, .slice pA pn pc, .int .i64 rt, .slice iA in_ ic, .slice bA bn bc] 43 (0, 0)) from h.cf)
  obtain ⟨x0, x1, x2, x3, x4, -⟩ := gr_five h.cx
  have HO := Lib.hid h.of_
  have h3 : s 3 = .pointer (some ⟨pb, 0, none⟩) := h.s3
  have h4 : s 4 = .pointer (some ⟨fb, 0, none⟩) := h.s4
  have h5 : s 5 = .pointer (some ⟨xb, 0, none⟩) := h.s5
  have h7 : s 7 = .int .i64 ty := h.s7
  have h8 : s 8 = .int .i64 k := h.s8
  have Han : Hid (an = args.length) := Lib.hid h.an_
  have han1 := h.an1
  by_cases a0 : an = 0
  · subst a0
    have hnil : args = [] := List.eq_nil_of_length_eq_zero Han.out.symm
    subst hnil
    rw [fi_lit]
    conv => arg 2; whnf
    rw [h3, h4, h5, h7, h8]
    clear h hQ
    clear hop
    by_cases t1 : ty = 1
    · subst t1
      go_wp2
      exact HQ.out _ _ true rfl rfl rfl HB.out (fun _ => insOk_of (by omega) (by omega) HZ.out (by simp))
    · have d1 : (ty == 1) = false := by simp [t1]
      by_cases t2 : ty = 2
      · subst t2
        by_cases n0 : nn = 0
        · subst n0
          go_wp2
          exact HQ.out _ _ true rfl rfl rfl HB.out (fun _ => insOk_of (by omega) (by omega) HZ.out (by simp))
        · have d2 : (nn == 0) = false := by simp [n0]
          by_cases n1 : nn = 1
          · subst n1
            go_wp2
            exact HQ.out _ _ true rfl rfl rfl HB.out (fun _ => insOk_of (by omega) (by omega) HZ.out (by simp))
          · have d3 : (nn == 1) = false := by simp [n1]
            go_wp2
            exact HQ.out _ _ _ rfl rfl rfl HB.out (fun e => by simp at e)
      · have d2 : (ty == 2) = false := by simp [t2]
        go_wp2
        exact HQ.out _ _ false rfl rfl rfl HB.out (fun e => by cases e)
  · have d0 : ((an : Int) == 0) = false := beq_false_of_ne (by omega)
    rw [fi_lit]
    conv => arg 2; whnf
    rw [h3, h4, h5, h7, h8]
    clear h hQ
    clear hop
    go_wp2
    exact HQ.out _ _ false rfl rfl rfl HB.out (fun e => by cases e)
set_option maxRecDepth 100000 in
set_option maxHeartbeats 16000000 in
theorem iw15 {s : Nat → Value} {w0 w : World} {pb fb xb : Nat} {fA : Option Addr} {fn fc : Nat} {mn : Int} {V : RV} {f : SF} {x : SIn} {aA : Option Addr} {an ac : Nat} {k : Int} (h : Wi s w0 w pb fb xb fA fn fc mn V f x aA an ac k) (hop : x.op ≠ 36) (Q : Exit → Act → World → Prop) (hQ : InQ w0 f x Q) : (inW15).wp Try.prog Q (fi s) w := by
  obtain ⟨op, ty, args, nn, to_⟩ := x
  have HQ := Lib.hid hQ
  have HB := Lib.hid h.b
  have HZ := Lib.hid (h.to0 hop)
  obtain ⟨nm, pA, pn, pc, rt, iA, in_, ic, bA, bn, bc⟩ := V
  obtain ⟨f0, f1, f2, f3, f4, -⟩ := gr_five (show w.heap[fb]? = some (.cells #[.string nm, .slice pA pn pc, .int .i64 rt, .slice iA in_ ic, .slice bA bn bc] 43 (0, 0)) from h.cf)
  obtain ⟨x0, x1, x2, x3, x4, -⟩ := gr_five h.cx
  have HO := Lib.hid h.of_
  have h3 : s 3 = .pointer (some ⟨pb, 0, none⟩) := h.s3
  have h4 : s 4 = .pointer (some ⟨fb, 0, none⟩) := h.s4
  have h5 : s 5 = .pointer (some ⟨xb, 0, none⟩) := h.s5
  have h7 : s 7 = .int .i64 ty := h.s7
  have h8 : s 8 = .int .i64 k := h.s8
  have Han : Hid (an = args.length) := Lib.hid h.an_
  have han1 := h.an1
  rw [fi_lit]
  conv => arg 2; whnf
  rw [h3, h4, h5, h7, h8]
  clear h hQ
  clear hop
  by_cases t1 : ty = 1
  · subst t1
    by_cases a0 : an = 0
    · subst a0
      have hnil : args = [] := List.eq_nil_of_length_eq_zero Han.out.symm
      subst hnil
      go_wp2
      exact HQ.out _ _ _ rfl rfl rfl HB.out (fun _ => insOk_of (by omega) (by omega) HZ.out (by simp))
    · have d0 : ((an : Int) == 0) = false := beq_false_of_ne (by omega)
      go_wp2
      exact HQ.out _ _ _ rfl rfl rfl HB.out (fun e => by first | (cases e; done) | (simp at e; omega))
  · have d1 : (ty == 1) = false := by simp [t1]
    go_wp2
    exact HQ.out _ _ false rfl rfl rfl HB.out (fun e => by cases e)
set_option maxRecDepth 100000 in
set_option maxHeartbeats 16000000 in
theorem iw1 {s : Nat → Value} {w0 w : World} {pb fb xb : Nat} {fA : Option Addr} {fn fc : Nat} {mn : Int} {V : RV} {f : SF} {x : SIn} {aA : Option Addr} {an ac : Nat} {k : Int} (h : Wi s w0 w pb fb xb fA fn fc mn V f x aA an ac k) (hop : x.op ≠ 36) {n0 : Nat} (hp : GNs n0 w (.slice V.pA V.pn V.pc) f.params) (hpp : ∀ y ∈ f.params, 1 ≤ y ∧ y ≤ 4) (Q : Exit → Act → World → Prop) (hQ : InQ w0 f x Q) : (inW1).wp Try.prog Q (fi s) w := by
  obtain ⟨op, ty, args, nn, to_⟩ := x
  have HQ := Lib.hid hQ
  have HB := Lib.hid h.b
  have HZ := Lib.hid (h.to0 hop)
  obtain ⟨nm, pA, pn, pc, rt, iA, in_, ic, bA, bn, bc⟩ := V
  obtain ⟨f0, f1, f2, f3, f4, -⟩ := gr_five (show w.heap[fb]? = some (.cells #[.string nm, .slice pA pn pc, .int .i64 rt, .slice iA in_ ic, .slice bA bn bc] 43 (0, 0)) from h.cf)
  obtain ⟨x0, x1, x2, x3, x4, -⟩ := gr_five h.cx
  have HO := Lib.hid h.of_
  have h3 : s 3 = .pointer (some ⟨pb, 0, none⟩) := h.s3
  have h4 : s 4 = .pointer (some ⟨fb, 0, none⟩) := h.s4
  have h5 : s 5 = .pointer (some ⟨xb, 0, none⟩) := h.s5
  have h7 : s 7 = .int .i64 ty := h.s7
  have h8 : s 8 = .int .i64 k := h.s8
  have Han : Hid (an = args.length) := Lib.hid h.an_
  have han1 := h.an1
  have HP : Hid (GNs n0 w (.slice pA pn pc) f.params) := Lib.hid hp
  have HPP := Lib.hid hpp
  clear hp hpp
  by_cases a0 : an = 0
  · subst a0
    have hnil : args = [] := List.eq_nil_of_length_eq_zero Han.out.symm
    subst hnil
    rw [fi_lit]
    conv => arg 2; whnf
    rw [h3, h4, h5, h7, h8]
    clear h hQ
    clear hop
    by_cases m0 : 0 ≤ nn
    · by_cases m1 : nn < (pn : Int)
      · obtain ⟨q, rfl⟩ : ∃ q : Nat, nn = (q : Int) := ⟨nn.toNat, by omega⟩
        have hq : q < pn := by omega
        have hql : q < f.params.length := by rw [← HP.out.len]; exact hq
        obtain ⟨lb, lo, rfl, -, y0⟩ := HP.out.at hql
        have hy := HPP.out _ (List.getElem_mem hql)
        obtain ⟨y, hyy⟩ : ∃ y, y = f.params[q] := ⟨_, rfl⟩
        rw [← hyy] at y0 hy
        clear hyy hql
        by_cases t1 : ty = y
        · subst t1
          go_wp2
          exact HQ.out _ _ _ rfl rfl rfl HB.out (fun _ => insOk_of (by omega) (by omega) HZ.out (by simp))
        · have d1 : (ty == y) = false := by simp [t1]
          go_wp2
          exact HQ.out _ _ _ rfl rfl rfl HB.out (fun e => by first | (cases e; done) | (simp at e; omega))
      · go_wp2
        exact HQ.out _ _ false rfl rfl rfl HB.out (fun e => by cases e)
    · go_wp2
      exact HQ.out _ _ false rfl rfl rfl HB.out (fun e => by cases e)
  · have d0 : ((an : Int) == 0) = false := beq_false_of_ne (by omega)
    rw [fi_lit]
    conv => arg 2; whnf
    rw [h3, h4, h5, h7, h8]
    clear h hQ
    clear hop
    go_wp2
    exact HQ.out _ _ false rfl rfl rfl HB.out (fun e => by cases e)
set_option maxRecDepth 100000 in
set_option maxHeartbeats 16000000 in
theorem iw2 {s : Nat → Value} {w0 w : World} {pb fb xb : Nat} {fA : Option Addr} {fn fc : Nat} {mn : Int} {V : RV} {f : SF} {x : SIn} {aA : Option Addr} {an ac : Nat} {k : Int} (h : Wi s w0 w pb fb xb fA fn fc mn V f x aA an ac k) (hop : x.op ≠ 36) (hT : ∀ (X : World) (id : Int), Below w.heap.size w X → Calls Try.prog 56 #[.agg V.cs, .int .i64 id] X fun e w' => e = .returned (.int .i64 (typQ f id)) ∧ Below X.heap.size X w') (ha : GNs w.heap.size w (.slice aA an ac) x.args) (Q : Exit → Act → World → Prop) (hQ : InQ w0 f x Q) : (inW2).wp Try.prog Q (fi s) w := by
  obtain ⟨op, ty, args, nn, to_⟩ := x
  have HQ := Lib.hid hQ
  have HB := Lib.hid h.b
  have HZ := Lib.hid (h.to0 hop)
  obtain ⟨nm, pA, pn, pc, rt, iA, in_, ic, bA, bn, bc⟩ := V
  obtain ⟨f0, f1, f2, f3, f4, -⟩ := gr_five (show w.heap[fb]? = some (.cells #[.string nm, .slice pA pn pc, .int .i64 rt, .slice iA in_ ic, .slice bA bn bc] 43 (0, 0)) from h.cf)
  obtain ⟨x0, x1, x2, x3, x4, -⟩ := gr_five h.cx
  have HO := Lib.hid h.of_
  have h3 : s 3 = .pointer (some ⟨pb, 0, none⟩) := h.s3
  have h4 : s 4 = .pointer (some ⟨fb, 0, none⟩) := h.s4
  have h5 : s 5 = .pointer (some ⟨xb, 0, none⟩) := h.s5
  have h7 : s 7 = .int .i64 ty := h.s7
  have h8 : s 8 = .int .i64 k := h.s8
  have Han : Hid (an = args.length) := Lib.hid h.an_
  have han1 := h.an1
  have HT : Hid (∀ (X : World) (id : Int), Below w.heap.size w X → Calls Try.prog 56 #[.agg #[.string nm, .slice pA pn pc, .int .i64 rt, .slice iA in_ ic, .slice bA bn bc], .int .i64 id] X fun e w' => e = .returned (.int .i64 (typQ f id)) ∧ Below X.heap.size X w') := Lib.hid hT
  have HA : Hid (GNs w.heap.size w (.slice aA an ac) args) := Lib.hid ha
  have HC : Hid (∀ X, Below w.heap.size w X → X.cell? ⟨fb, 0, none⟩ = some (.string nm) ∧ X.cell? ⟨fb, 1, none⟩ = some (.slice pA pn pc) ∧ X.cell? ⟨fb, 2, none⟩ = some (.int .i64 rt) ∧ X.cell? ⟨fb, 3, none⟩ = some (.slice iA in_ ic) ∧ X.cell? ⟨fb, 4, none⟩ = some (.slice bA bn bc) ∧ X.cell? ⟨xb, 2, none⟩ = some (.slice aA an ac)) := Lib.hid fun X hX => ⟨cell_kept hX f0, cell_kept hX f1, cell_kept hX f2, cell_kept hX f3, cell_kept hX f4, cell_kept hX x2⟩
  clear hT ha f0 f1 f2 f3 f4 x0 x1 x3 x4
  rw [fi_lit]
  conv => arg 2; whnf
  rw [h3, h4, h5, h7, h8]
  clear h hQ
  clear hop
  go_wp2_with fail
  clear x2
  go_loopw [9] (fun u9 wr => ∃ i : Nat, i ≤ an ∧ u9 = .int .i64 (i : Int) ∧ Hid (Below w.heap.size w wr) ∧ Hid (∀ a ∈ args.take i, typQ f a = ty)) (fun u9 _ => an - (intOf u9).toNat)
  case atStart => exact ⟨0, Nat.zero_le _, rfl, Lib.hid (Below.refl _ _), Lib.hid (by simp)⟩
  case round =>
    obtain ⟨i, hi, rfl, HBi, HJ⟩ := hrel
    obtain ⟨wo, hwo⟩ : ∃ x, x = wr := ⟨_, rfl⟩
    rw [← hwo] at HBi ⊢
    clear hwo
    obtain ⟨c0, c1, c2, c3, c4, c5⟩ := HC.out wo HBi.out
    by_cases hlt : i < an
    · have hil : i < args.length := by rw [← Han.out]; exact hlt
      obtain ⟨gb, go, rfl, -, y0⟩ := (HA.out.keep HBi.out).at hil
      have hm := fun hp => take_more (P := fun a : Int => typQ f a = ty) HJ.out hil hp
      obtain ⟨a, haa⟩ : ∃ a, a = args[i] := ⟨_, rfl⟩
      rw [← haa] at y0 hm
      have hTX := fun (Z : World) (hZ : Below wo.heap.size wo Z) => HT.out Z a (HBi.out.trans (hZ.mono HBi.out.size))
      obtain ⟨t, ht⟩ : ∃ t, t = typQ f a := ⟨_, rfl⟩
      rw [← ht] at hTX hm
      have hA := so_call2 wo hTX
      have Hm := Lib.hid hm
      have k0 := cell_regrown c0
      have k1 := cell_regrown c1
      have k2 := cell_regrown c2
      have k3 := cell_regrown c3
      have k4 := cell_regrown c4
      have k5 := cell_regrown c5
      have k6 := cell_regrown y0
      clear ht hTX hm haa hil
      by_cases e : t = ty
      · have HN := Lib.hid (Hm.out e)
        subst e
        go_upto_region 15 with fail
        refine wp_region_quiet_below (by kernel_rfl) (by kernel_rfl) ?_
        repeat (go_big_quiet_step (first | with_reducible exact hA _ _))
        refine wpQuiet_nil ?_
        intro w2 hw'
        obtain ⟨⟨dq, osq⟩, hw''⟩ := hw'
        have HB3 := Lib.hid (HBi.out.trans ((below_regrown wo dq osq).mono HBi.out.size))
        rw [← hw''] at HB3
        clear hw'' k0 k1 k2 k3 k4 k5 k6 hA
        go_wp2_with fail
        go_roundw
        case rel => exact ⟨i + 1, by omega, by go_num, HB3, HN⟩
        case measure => simp [intOf]; omega
      · have d1 : (t == ty) = false := by simp [e]
        have d2 : (t != ty) = true := by simp [e]
        go_upto_region 15 with fail
        refine wp_region_quiet_below (by kernel_rfl) (by kernel_rfl) ?_
        repeat (go_big_quiet_step (first | with_reducible exact hA _ _))
        refine wpQuiet_nil ?_
        intro w2 hw'
        obtain ⟨⟨dq, osq⟩, hw''⟩ := hw'
        have HB3 := Lib.hid (HBi.out.trans ((below_regrown wo dq osq).mono HBi.out.size))
        rw [← hw''] at HB3
        clear hw'' k0 k1 k2 k3 k4 k5 k6 hA
        go_wp2_with fail
        exact HQ.out _ _ false rfl rfl rfl (HB.out.trans (HB3.out.mono HB.out.size)) (fun e => by cases e)
    · have hie : i = args.length := by rw [← Han.out]; omega
      have HF : Hid (∀ a ∈ args, typQ f a = ty) := Lib.hid (by have := HJ.out; rw [hie, List.take_length] at this; exact this)
      have HBB := Lib.hid (HB.out.trans (HBi.out.mono HB.out.size))
      clear hie c0 c1 c2 c3 c4
      by_cases r1 : 1 ≤ ty
      · by_cases r2 : ty ≤ 4
        · go_wp2
          exact HQ.out _ _ _ rfl rfl rfl HBB.out (fun _ => insOk_of (by omega) (by omega) HZ.out (fun a ha => typQ_in (by rw [HF.out a ha]; omega)))
        · go_wp2
          exact HQ.out _ _ _ rfl rfl rfl HBB.out (fun e => by first | (cases e; done) | (simp at e; omega))
      · go_wp2
        exact HQ.out _ _ _ rfl rfl rfl HBB.out (fun e => by first | (cases e; done) | (simp at e; omega))
end Go.Proofs.Ythhjhdmdfneegaa
namespace Go.Proofs.Ythhjhdmdfneegaa
set_option linter.unusedVariables false
set_option linter.unusedSimpArgs false
open Go.RowKit Go.Shelf

/-- What is asked of all functions of a program. -/
def FnsOk (fs : List (List UInt8 × SF)) : Prop := ∀ d ∈ fs, (0 ≤ d.2.ret ∧ d.2.ret ≤ 4) ∧ d.2.params.length ≤ 1000 ∧ ∀ y ∈ d.2.params, 1 ≤ y ∧ y ≤ 4
theorem insOk_call {f : SF} {op ty nn to_ : Int} {args : List Int} (h0 : 0 ≤ ty ∧ ty ≤ 4) (hz : 0 ≤ to_ ∧ to_ ≤ 256) (ha : ∀ a ∈ args, 0 ≤ a ∧ a < (f.ins.length : Int)) : InsOk f ⟨op, ty, args, nn, to_⟩ := ⟨h0, hz, ha⟩
set_option maxRecDepth 100000 in
set_option maxHeartbeats 16000000 in
theorem iw17 {s : Nat → Value} {w0 w : World} {pb fb xb : Nat} {fA : Option Addr} {fn fc : Nat} {mn : Int} {V : RV} {f : SF} {x : SIn} {aA : Option Addr} {an ac : Nat} {k : Int} (h : Wi s w0 w pb fb xb fA fn fc mn V f x aA an ac k)  {n0 : Nat} {fs : List (List UInt8 × SF)} (hF : CFs n0 w (.slice fA fn fc) fs) (hfs : FnsOk fs) (hn0 : n0 ≤ w.heap.size) (hfn : fn ≤ 256) (Q : Exit → Act → World → Prop) (hQ : InQ w0 f x Q) : (inW17).wp Try.prog Q (fi s) w := by
  obtain ⟨op, ty, args, nn, to_⟩ := x
  have HQ := Lib.hid hQ
  have HB := Lib.hid h.b
  skip
  obtain ⟨nm, pA, pn, pc, rt, iA, in_, ic, bA, bn, bc⟩ := V
  obtain ⟨f0, f1, f2, f3, f4, -⟩ := gr_five (show w.heap[fb]? = some (.cells #[.string nm, .slice pA pn pc, .int .i64 rt, .slice iA in_ ic, .slice bA bn bc] 43 (0, 0)) from h.cf)
  obtain ⟨x0, x1, x2, x3, x4, -⟩ := gr_five h.cx
  have HO := Lib.hid h.of_
  have h3 : s 3 = .pointer (some ⟨pb, 0, none⟩) := h.s3
  have h4 : s 4 = .pointer (some ⟨fb, 0, none⟩) := h.s4
  have h5 : s 5 = .pointer (some ⟨xb, 0, none⟩) := h.s5
  have h7 : s 7 = .int .i64 ty := h.s7
  have h8 : s 8 = .int .i64 k := h.s8
  have Han : Hid (an = args.length) := Lib.hid h.an_
  have han1 := h.an1
  have HF : Hid (CFs n0 w (.slice fA fn fc) fs) := Lib.hid hF
  have HFs := Lib.hid hfs
  have Hn := Lib.hid hn0
  have p0 : w.cell? ⟨pb, 0, none⟩ = some (.slice fA fn fc) := Lib.cell_of_heap h.cp 0
  clear hF hfs hn0
  rw [fi_lit]
  conv => arg 2; whnf
  rw [h3, h4, h5, h7, h8]
  clear h hQ
  by_cases m0 : 0 ≤ to_
  · by_cases m1 : to_ < (fn : Int)
    · obtain ⟨q, rfl⟩ : ∃ q : Nat, to_ = (q : Int) := ⟨to_.toNat, by omega⟩
      have hq : q < fn := by omega
      have hql : q < fs.length := by rw [← HF.out.len]; exact hq
      obtain ⟨lb, lo, pA2, pc2, iA2, ic2, bA2, bc2, rfl, -, -, y1, y2, -, -, g1, -, -⟩ := HF.out.at hql
      obtain ⟨e1, e2, e3⟩ := HFs.out _ (List.getElem_mem hql)
      obtain ⟨pl, hpl⟩ : ∃ l, l = fs[q].2.params := ⟨_, rfl⟩
      obtain ⟨rr, hrr⟩ : ∃ l, l = fs[q].2.ret := ⟨_, rfl⟩
      rw [← hpl] at y1 e2 e3 g1
      rw [← hrr] at y2 e1
      obtain ⟨pm, hpm⟩ : ∃ n, n = pl.length := ⟨_, rfl⟩
      rw [← hpm] at y1 e2 g1
      have hO : Calls Try.prog 68 #[.agg #[.string nm, .slice pA pn pc, .int .i64 rt, .slice iA in_ ic, .slice bA bn bc], .agg #[.int .i64 op, .int .i64 ty, .slice aA an ac, .int .i64 nn, .int .i64 (q : Int)], .slice pA2 pm pc2] w.drew (BP (OfOk f args pl) w.drew) := HO.out pl pA2 pm pc2 w.drew (Below.refl _ _).drew ((g1.keep (Below.refl _ _).drew).mono Hn.out) e2
      have HE3 := Lib.hid e3
      clear hpl hrr hpm hql g1 e2 e3
      by_cases t1 : ty = rr
      · subst t1
        refine wp_seq ?_
        refine wp_region_still_tail 32 (by kernel_rfl) (by kernel_rfl) ?_
        simp only [List.take_succ_cons, List.take_zero, List.drop_succ_cons, List.drop_zero]
        refine wpStill_of_quiet _ _ ?_
        repeat (go_big_quiet_step (fail))
        refine wpQuiet_nil ?_
        change wpList _ _ _ _ _ w.drew
        go_wp2_with (go_at_call 68; refine hO.mono ?_; rintro e w3 ⟨r, rfl, h3, hp⟩; have HB3 := Lib.hid (HB.out.trans ((((Below.refl w.heap.size w).drew).trans h3).mono HB.out.size)); have HP := Lib.hid hp; clear hO h3 hp)
        exact HQ.out _ _ r rfl rfl rfl HB3.out (fun e => insOk_call e1 ⟨by omega, by omega⟩ ((HP.out e).args (fun y hy => by have := HE3.out y hy; omega)))
      · have d1 : (ty == rr) = false := by simp [t1]
        clear hO
        refine wp_seq ?_
        refine wp_region_still_tail 34 (by kernel_rfl) (by kernel_rfl) ?_
        simp only [List.take_succ_cons, List.take_zero, List.drop_succ_cons, List.drop_zero]
        refine wpStill_of_quiet _ _ ?_
        repeat (go_big_quiet_step (fail))
        refine wpQuiet_nil ?_
        change wpList _ _ _ _ _ w.drew
        go_wp2
        exact HQ.out _ _ false rfl rfl rfl (HB.out.trans ((Below.refl _ _).drew.mono HB.out.size)) (fun e => by cases e)
    · refine wp_seq ?_
      refine wp_region_still_tail 34 (by kernel_rfl) (by kernel_rfl) ?_
      simp only [List.take_succ_cons, List.take_zero, List.drop_succ_cons, List.drop_zero]
      refine wpStill_of_quiet _ _ ?_
      repeat (go_big_quiet_step (fail))
      refine wpQuiet_nil ?_
      change wpList _ _ _ _ _ w.drew
      go_wp2
      exact HQ.out _ _ false rfl rfl rfl (HB.out.trans ((Below.refl _ _).drew.mono HB.out.size)) (fun e => by cases e)
  · refine wp_seq ?_
    refine wp_region_still_tail 34 (by kernel_rfl) (by kernel_rfl) ?_
    simp only [List.take_succ_cons, List.take_zero, List.drop_succ_cons, List.drop_zero]
    refine wpStill_of_quiet _ _ ?_
    repeat (go_big_quiet_step (fail))
    refine wpQuiet_nil ?_
    change wpList _ _ _ _ _ w.drew
    go_wp2
    exact HQ.out _ _ false rfl rfl rfl (HB.out.trans ((Below.refl _ _).drew.mono HB.out.size)) (fun e => by cases e)
end Go.Proofs.Ythhjhdmdfneegaa
