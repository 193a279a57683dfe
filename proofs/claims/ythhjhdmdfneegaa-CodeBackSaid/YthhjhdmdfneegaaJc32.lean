/-
  Which programs may be, by the reference: where OpPhi stand.
-/
import Derived.Test.YthhjhdmdfneegaaJc31
import Derived.BigRegion
namespace Go.Proofs.Ythhjhdmdfneegaa
set_option linter.unusedVariables false
set_option linter.unusedSimpArgs false
open Go.RowKit Go.Shelf

theorem cell_kept {w w' : World} {a : Addr} {v : Value} (hb : Below w.heap.size w w') (h : w.cell? a = some v) : w'.cell? a = some v := (hb.cell (World.block_lt_of_cell? w a h)).trans h
def d0I : SIn := ⟨0, 0, [], 0, 0⟩
/-- What phis asks of an instruction in a block's list. -/
def PhiOk (f : SF) (k : SB) : Prop := ∀ x ∈ k.list, 1 ≤ (f.ins.getD x.toNat d0I).op ∧ (f.ins.getD x.toNat d0I).op ≤ 36 ∧ ((f.ins.getD x.toNat d0I).op = 3 → (f.ins.getD x.toNat d0I).args.length = k.preds.length)
set_option maxRecDepth 100000 in
set_option maxHeartbeats 32000000 in
theorem phis_c (n0 : Nat) (V : RV) (f : SF) (w : World) (h : FA n0 V f w) (hs : FS f) (hn : n0 ≤ w.heap.size) (hli : ∀ k ∈ f.blocks, ∀ x ∈ k.list, 0 ≤ x ∧ x < (f.ins.length : Int)) :
    Calls Try.prog 30 #[.agg V.cs] w (BP (∀ k ∈ f.blocks, PhiOk f k) w) := by
  obtain ⟨W, hW, hbW, hzW, h0W⟩ := gr_one w V.cs 43
  have hbl := h.bl
  have hil := h.il
  have hFW := h.keep (hbW.mono hn)
  have HFA : Hid (∀ X, Below W.heap.size W X → FA n0 V f X) := Lib.hid fun X hX => h.keep ((hbW.trans (hX.mono (by omega))).mono hn)
  have hS := hFW.b
  have hI := hFW.i
  obtain ⟨nm, pA, pn, pc, rt, iA, in_, ic, bA, bn, bc⟩ := V
  simp only at hbl hil hS hI
  unfold RV.cs at h0W hW ⊢
  simp only at h0W hW ⊢
  have HC : Hid (∀ X, Below W.heap.size W X → X.cell? ⟨w.heap.size, 0, none⟩ = some (.string nm) ∧ X.cell? ⟨w.heap.size, 1, none⟩ = some (.slice pA pn pc) ∧ X.cell? ⟨w.heap.size, 2, none⟩ = some (.int .i64 rt) ∧ X.cell? ⟨w.heap.size, 3, none⟩ = some (.slice iA in_ ic) ∧ X.cell? ⟨w.heap.size, 4, none⟩ = some (.slice bA bn bc)) := Lib.hid fun X hX => by
    obtain ⟨a, b, c, d, e, -⟩ := gr_five ((hX.block w.heap.size (by omega)).trans h0W)
    exact ⟨a, b, c, d, e⟩
  have HB0 : Hid (∀ X, Below W.heap.size W X → Below w.heap.size w X) := Lib.hid fun X hX => hbW.trans (hX.mono (by omega))
  have HW := Lib.hid hW
  have Hbl := Lib.hid hbl
  have Hil := Lib.hid hil
  have HS := Lib.hid hS
  have HI := Lib.hid hI
  have hn1 : n0 ≤ W.heap.size := by omega
  have hbb : bn ≤ 1000 := by rw [hbl]; exact hs.b
  have hib : in_ ≤ 1000 := by rw [hil]; exact hs.i
  have Hs := Lib.hid hs
  obtain ⟨c0, c1, c2, c3, c4⟩ := HC.out W (Below.refl _ _)
  clear hW hbW h0W hbl hil h hS hI hs hFW
  have HSX : Hid (∀ X, Below W.heap.size W X → SBs n0 X (.slice bA bn bc) f.blocks) := Lib.hid fun X hX => (HFA.out X hX).b
  have HIX : Hid (∀ X, Below W.heap.size W X → SIs n0 X (.slice iA in_ ic) f.ins) := Lib.hid fun X hX => (HFA.out X hX).i
  have Hli := Lib.hid hli
  clear HS HI HFA c0 c1 c2 c3 c4 hli
  go_enter Try.func30, Try.ntmps30
  go_upto_region 1 with fail
  rw [← HW.out]
  go_wp2_with fail
  go_loopw [3] (fun u3 wr => ∃ i : Nat, i ≤ bn ∧ u3 = .int .i64 (i : Int) ∧ Hid (Below W.heap.size W wr) ∧ Hid (∀ k ∈ f.blocks.take i, PhiOk f k)) (fun u3 _ => bn - (intOf u3).toNat)
  case atStart => exact ⟨0, Nat.zero_le _, rfl, Lib.hid (Below.refl _ _), Lib.hid (by simp)⟩
  case round =>
    obtain ⟨i, hi, rfl, HB, HO⟩ := hrel
    obtain ⟨wo, hwo⟩ : ∃ x, x = wr := ⟨_, rfl⟩
    rw [← hwo] at HB ⊢
    clear hwo
    obtain ⟨c0, c1, c2, c3, c4⟩ := HC.out wo HB.out
    clear c0 c1 c2 c3
    by_cases hlt : i < bn
    · have hil : i < f.blocks.length := by rw [← Hbl.out]; exact hlt
      have hkl := Hs.out.lists _ (List.getElem_mem hil)
      have hkp := Hs.out.preds _ (List.getElem_mem hil)
      have hki := Hli.out _ (List.getElem_mem hil)
      obtain ⟨gb, go, lA, lc, qA, qc, tA, tc, rfl, -, x0, x1, x2, x3, x4, g1, g2, g3⟩ := (HSX.out wo HB.out).at hil
      have hm := fun hp => take_more HO.out hil hp
      obtain ⟨k, hk⟩ : ∃ k, k = f.blocks[i] := ⟨_, rfl⟩
      rw [← hk] at x0 x1 x2 x3 x4 g1 hm hkl hkp hki
      have hmm : (∀ x ∈ k.list, 1 ≤ (f.ins.getD x.toNat d0I).op ∧ (f.ins.getD x.toNat d0I).op ≤ 36 ∧ ((f.ins.getD x.toNat d0I).op = 3 → (f.ins.getD x.toNat d0I).args.length = k.preds.length)) → ∀ k ∈ f.blocks.take (i + 1), PhiOk f k := hm
      obtain ⟨kl, kp, kk, ka, kt⟩ := k
      simp only at x0 x1 x2 x3 x4 g1 hmm hkl hkp hki
      obtain ⟨ln, hln⟩ : ∃ n, n = kl.length := ⟨_, rfl⟩
      obtain ⟨qn, hqn⟩ : ∃ n, n = kp.length := ⟨_, rfl⟩
      obtain ⟨tn, htn⟩ : ∃ n, n = kt.length := ⟨_, rfl⟩
      rw [← hln] at x0 g1 hkl
      rw [← hqn] at x1 hkp hmm
      rw [← htn] at x4
      obtain ⟨X, hX, hbX, hzX, h0X⟩ := gr_one wo #[.slice lA ln lc, .slice qA qn qc, .int .i64 kk, .int .i64 ka, .slice tA tn tc] 51
      have HBX : Hid (Below W.heap.size W X) := Lib.hid (HB.out.trans (hbX.mono HB.out.size))
      obtain ⟨xb, hxb⟩ : ∃ b, b = wo.heap.size := ⟨_, rfl⟩
      have hxl : xb < X.heap.size := by omega
      have HXC : Hid (∀ Z, Below X.heap.size X Z → Z.cell? ⟨xb, 0, none⟩ = some (.slice lA ln lc) ∧ Z.cell? ⟨xb, 1, none⟩ = some (.slice qA qn qc)) := Lib.hid fun Z hZ => by
        have h1 : Z.heap[xb]? = some (.cells #[.slice lA ln lc, .slice qA qn qc, .int .i64 kk, .int .i64 ka, .slice tA tn tc] 51 (0, 0)) := (hZ.block xb hxl).trans (by rw [hxb]; exact h0X)
        exact ⟨Lib.cell_of_heap h1 0, Lib.cell_of_heap h1 1⟩
      have HLX : Hid (∀ Z, Below X.heap.size X Z → GNs n0 Z (.slice lA ln lc) kl) := Lib.hid fun Z hZ => g1.keep ((hbX.trans (hZ.mono hbX.size)).mono (Nat.le_trans hn1 HB.out.size))
      have HXW : Hid (∀ Z, Below X.heap.size X Z → Below W.heap.size W Z) := Lib.hid fun Z hZ => HBX.out.trans (hZ.mono HBX.out.size)
      have HX := Lib.hid hX
      have Hxb := Lib.hid hxb
      have Hm := Lib.hid hmm
      have Hln := Lib.hid hln
      have Hqn := Lib.hid hqn
      have Hki := Lib.hid hki
      clear hk hil hm hmm hln hqn htn hki g1 g2 g3 hX hbX h0X hzX hxb hxl
      go_upto_region 5 with fail
      rw [← HX.out, ← Hxb.out]
      clear x0 x1 x2 x3 x4 c4
      go_wp2_with fail
      go_loopw [5] (fun u5 wr => ∃ j : Nat, j ≤ ln ∧ u5 = .int .i64 (j : Int) ∧ Hid (Below X.heap.size X wr) ∧ Hid (∀ x ∈ kl.take j, 1 ≤ (f.ins.getD x.toNat d0I).op ∧ (f.ins.getD x.toNat d0I).op ≤ 36 ∧ ((f.ins.getD x.toNat d0I).op = 3 → (f.ins.getD x.toNat d0I).args.length = qn))) (fun u5 _ => ln - (intOf u5).toNat)
      case atStart => exact ⟨0, Nat.zero_le _, rfl, Lib.hid (Below.refl _ _), Lib.hid (by simp)⟩
      case round =>
        obtain ⟨j, hj, rfl, HBi, HJ⟩ := hrel
        obtain ⟨wi, hwi⟩ : ∃ x, x = wr := ⟨_, rfl⟩
        rw [← hwi] at HBi ⊢
        clear hwi
        obtain ⟨l0, l1⟩ := HXC.out wi HBi.out
        by_cases hjt : j < ln
        · have hjl : j < kl.length := by rw [← Hln.out]; exact hjt
          obtain ⟨lb, lo, rfl, -, y0⟩ := (HLX.out wi HBi.out).at hjl
          obtain ⟨q0, q1⟩ := Hki.out _ (List.getElem_mem hjl)
          have hmj := fun hp => take_more (P := fun x : Int => 1 ≤ (f.ins.getD x.toNat d0I).op ∧ (f.ins.getD x.toNat d0I).op ≤ 36 ∧ ((f.ins.getD x.toNat d0I).op = 3 → (f.ins.getD x.toNat d0I).args.length = qn)) HJ.out hjl hp
          obtain ⟨x, hx⟩ : ∃ x, x = kl[j] := ⟨_, rfl⟩
          rw [← hx] at y0 hmj q0 q1
          obtain ⟨q, rfl⟩ : ∃ q : Nat, x = (q : Int) := ⟨x.toNat, by omega⟩
          have hql : q < f.ins.length := by omega
          have hqi : q < in_ := by rw [Hil.out]; exact hql
          have hgd : f.ins.getD (q : Int).toNat d0I = f.ins[q] := by simp [List.getD, List.getElem?_eq_getElem hql]
          simp only [hgd] at hmj
          obtain ⟨gb, go, aA, ac, rfl, -, p0, p1, p2, p3, p4, -⟩ := (HIX.out wi (HXW.out wi HBi.out)).at hql
          obtain ⟨y, hy⟩ : ∃ y, y = f.ins[q] := ⟨_, rfl⟩
          rw [← hy] at p0 p1 p2 p3 p4 hmj
          obtain ⟨op, ty, args, nn, to_⟩ := y
          simp only at p0 p1 p2 p3 p4 hmj
          obtain ⟨an, han⟩ : ∃ n, n = args.length := ⟨_, rfl⟩
          rw [← han] at p2 hmj
          obtain ⟨-, -, -, c3, -⟩ := HC.out wi (HXW.out wi HBi.out)
          obtain ⟨Y, hY, hbY, hzY, h0Y⟩ := gr_one wi #[.int .i64 op, .int .i64 ty, .slice aA an ac, .int .i64 nn, .int .i64 to_] 46
          have hbYd : Below X.heap.size X (Y.drew) := (HBi.out.trans (hbY.mono HBi.out.size)).drew
          have HYd := Lib.hid hbYd
          have hbz : Below wi.heap.size wi (wi.alloc (.cells #[.int .i64 0, .int .i64 0, .slice none 0 0, .int .i64 0, .int .i64 0] 46)) := (Below.refl _ _).alloc (Nat.le_refl _) _
          have zc3 : (wi.alloc (.cells #[.int .i64 0, .int .i64 0, .slice none 0 0, .int .i64 0, .int .i64 0] 46)).cell? ⟨w.heap.size, 3, none⟩ = some (.slice (some ⟨gb, go, none⟩) in_ ic) := cell_kept hbz c3
          have zl0 : (wi.alloc (.cells #[.int .i64 0, .int .i64 0, .slice none 0 0, .int .i64 0, .int .i64 0] 46)).cell? ⟨xb, 0, none⟩ = some (.slice (some ⟨lb, lo, none⟩) ln lc) := cell_kept hbz l0
          have zy0 : (wi.alloc (.cells #[.int .i64 0, .int .i64 0, .slice none 0 0, .int .i64 0, .int .i64 0] 46)).cell? ⟨lb, lo + j, none⟩ = some (.int .i64 (q : Int)) := cell_kept hbz y0
          have zp0 : (wi.alloc (.cells #[.int .i64 0, .int .i64 0, .slice none 0 0, .int .i64 0, .int .i64 0] 46)).cell? ⟨gb, go + q * 5, none⟩ = some (.int .i64 op) := cell_kept hbz p0
          have zp1 : (wi.alloc (.cells #[.int .i64 0, .int .i64 0, .slice none 0 0, .int .i64 0, .int .i64 0] 46)).cell? ⟨gb, go + q * 5 + 1, none⟩ = some (.int .i64 ty) := cell_kept hbz p1
          have zp2 : (wi.alloc (.cells #[.int .i64 0, .int .i64 0, .slice none 0 0, .int .i64 0, .int .i64 0] 46)).cell? ⟨gb, go + q * 5 + 2, none⟩ = some (.slice aA an ac) := cell_kept hbz p2
          have zp3 : (wi.alloc (.cells #[.int .i64 0, .int .i64 0, .slice none 0 0, .int .i64 0, .int .i64 0] 46)).cell? ⟨gb, go + q * 5 + 3, none⟩ = some (.int .i64 nn) := cell_kept hbz p3
          have zp4 : (wi.alloc (.cells #[.int .i64 0, .int .i64 0, .slice none 0 0, .int .i64 0, .int .i64 0] 46)).cell? ⟨gb, go + q * 5 + 4, none⟩ = some (.int .i64 to_) := cell_kept hbz p4
          have s0 : wi.drew.cell? ⟨w.heap.size, 3, none⟩ = some (.slice (some ⟨gb, go, none⟩) in_ ic) ∧ wi.drew.cell? ⟨xb, 0, none⟩ = some (.slice (some ⟨lb, lo, none⟩) ln lc) ∧ wi.drew.cell? ⟨lb, lo + j, none⟩ = some (.int .i64 (q : Int)) ∧ wi.drew.cell? ⟨gb, go + q * 5, none⟩ = some (.int .i64 op) ∧ wi.drew.cell? ⟨gb, go + q * 5 + 1, none⟩ = some (.int .i64 ty) ∧ wi.drew.cell? ⟨gb, go + q * 5 + 2, none⟩ = some (.slice aA an ac) ∧ wi.drew.cell? ⟨gb, go + q * 5 + 3, none⟩ = some (.int .i64 nn) ∧ wi.drew.cell? ⟨gb, go + q * 5 + 4, none⟩ = some (.int .i64 to_) := ⟨c3, l0, y0, p0, p1, p2, p3, p4⟩
          have Hmj := Lib.hid hmj
          clear hx hy hgd hmj q0 q1 hql hjl han
          have HY := Lib.hid hY
          obtain ⟨yb, hyb⟩ : ∃ b, b = wi.heap.size := ⟨_, rfl⟩
          have hyl : yb < Y.heap.size := by omega
          have HYC : Hid (∀ Z, Below Y.heap.size Y Z → Z.cell? ⟨yb, 0, none⟩ = some (.int .i64 op) ∧ Z.cell? ⟨yb, 2, none⟩ = some (.slice aA an ac)) := Lib.hid fun Z hZ => by
            have h1 : Z.heap[yb]? = some (.cells #[.int .i64 op, .int .i64 ty, .slice aA an ac, .int .i64 nn, .int .i64 to_] 46 (0, 0)) := (hZ.block yb hyl).trans (by rw [hyb]; exact h0Y)
            exact ⟨Lib.cell_of_heap h1 0, Lib.cell_of_heap h1 2⟩
          have HYX : Hid (∀ Z, Below Y.heap.size Y Z → Below X.heap.size X Z) := Lib.hid fun Z hZ => (HBi.out.trans (hbY.mono HBi.out.size)).trans (hZ.mono (Nat.le_trans HBi.out.size hbY.size))
          have Hyb := Lib.hid hyb
          clear s0 hbz hY hyb hyl hbY h0Y hzY hbYd
          go_upto_region 8 with fail
          go_region
          rw [← HY.out, ← Hyb.out]
          obtain ⟨V, hV⟩ : ∃ V, V = Y.drew := ⟨_, rfl⟩
          have hYV : Below Y.heap.size Y V := by rw [hV]; exact (Below.refl _ _).drew
          have HYV := Lib.hid hYV
          rw [← hV]
          obtain ⟨v0, v2⟩ := HYC.out V hYV
          have HXV := Lib.hid (HYX.out V hYV)
          have HVd : Hid (∀ k, Below X.heap.size X (V.drewN k)) := Lib.hid fun k => below_dr HXV.out k
          have HNO : Hid (∀ k, Below w.heap.size w (V.drewN k)) := Lib.hid fun k => HB0.out _ (HXW.out _ (HVd.out k))
          obtain ⟨l0', l1'⟩ := HXC.out V HXV.out
          clear hV hYV c3 l0 l1 y0 p0 p1 p2 p3 p4 zc3 zl0 zy0 zp0 zp1 zp2 zp3 zp4
          by_cases o1 : op < 1
          · go_wp2_with fail
            go_ret
            exact BP.no (HNO.out 0)
          · by_cases o2 : 36 < op
            · go_wp2_with fail
              go_ret
              exact BP.no (HNO.out 0)
            · by_cases o4 : op = 3
              · subst o4
                by_cases a1 : an = qn
                · subst a1
                  have HJ3 := Lib.hid (Hmj.out ⟨by omega, by omega, fun _ => rfl⟩)
                  by_cases a2 : an = 0
                  · subst a2
                    go_upto_region 12 with fail
                    go_quiet (fail)
                    go_wp2_with fail
                    go_ret
                    exact BP.no (HNO.out _)
                  · have a2' : ¬ (an : Int) = 0 := by omega
                    have a3 : ((an : Int) == 0) = false := by simp [a2]
                    cases j with
                    | zero =>
                      go_upto_region 12 with fail
                      go_quiet (fail)
                      go_wp2_with fail
                      go_roundw
                      case rel => exact ⟨0 + 1, by omega, by go_num, Lib.hid (HVd.out _), HJ3⟩
                      case measure => simp [intOf]; omega
                    | succ j =>
                      have hjl : j < kl.length := by rw [← Hln.out]; omega
                      have e1 : ((j + 1 : Nat) : Int) - 1 = (j : Int) := by omega
                      obtain ⟨lb2, lo2, e2, -, y1⟩ := (HLX.out V HXV.out).at hjl
                      injection e2 with e2
                      injection e2 with e2 e3
                      subst e2 e3
                      obtain ⟨q0, q1⟩ := Hki.out _ (List.getElem_mem hjl)
                      obtain ⟨x, hx⟩ : ∃ x, x = kl[j] := ⟨_, rfl⟩
                      rw [← hx] at y1 q0 q1
                      obtain ⟨p, rfl⟩ : ∃ p : Nat, x = (p : Int) := ⟨x.toNat, by omega⟩
                      have hpl : p < f.ins.length := by omega
                      have hpi : p < in_ := by rw [Hil.out]; exact hpl
                      obtain ⟨gb2, go2, aA2, ac2, e4, -, r0, -, -, -, -, -⟩ := (HIX.out V (HXW.out V HXV.out)).at hpl
                      injection e4 with e4
                      injection e4 with e4 e5
                      subst e4 e5
                      obtain ⟨op2, hop2⟩ : ∃ y, y = f.ins[p].op := ⟨_, rfl⟩
                      rw [← hop2] at r0
                      obtain ⟨-, -, -, c3, -⟩ := HC.out V (HXW.out V HXV.out)
                      have hjj : j < ln := by omega
                      have hw1 : wrap64 ((j : Int) + 1 - 1) = (j : Int) := by rw [show (j : Int) + 1 - 1 = (j : Int) by omega]; exact IntWalk.wrap64_in _ (by omega)
                      have hpos : (0 : Int) < (j : Int) + 1 := by omega
                      clear hx hop2 hjl hpl q0 q1 e1
                      by_cases o5 : op2 = 3
                      · subst o5
                        go_upto_region 12 with fail
                        go_quiet (fail)
                        go_wp2_with fail
                        go_roundw
                        case rel => exact ⟨j + 1 + 1, by omega, by go_num, Lib.hid (HVd.out _), HJ3⟩
                        case measure => simp [intOf]; omega
                      · have d5 : (op2 == 3) = false := by simp [o5]
                        go_upto_region 12 with fail
                        go_quiet (fail)
                        go_wp2_with fail
                        go_ret
                        exact BP.no (HNO.out _)
                · have a2 : ((an : Int) == (qn : Int)) = false := beq_false_of_ne (by omega)
                  have a3 : ((an : Int) != (qn : Int)) = true := by rw [bne, a2]; rfl
                  have a4 : (an == qn) = false := beq_false_of_ne a1
                  clear Hmj HJ Hki Hm
                  go_upto_region 12 with fail
                  go_quiet (fail)
                  go_wp2_with fail
                  go_ret
                  exact BP.no (HNO.out _)
              · have d4 : (op == 3) = false := by simp [o4]
                have HJ3 := Lib.hid (Hmj.out ⟨by omega, by omega, fun e => absurd e o4⟩)
                by_cases o3 : op = 2
                · subst o3
                  by_cases i0 : i = 0
                  · subst i0
                    go_wp2_with fail
                    go_roundw
                    case rel => exact ⟨j + 1, by omega, by go_num, HXV, HJ3⟩
                    case measure => simp [intOf]; omega
                  · have i0' : ¬ (i : Int) = 0 := by omega
                    have i1 : ((i : Int) == 0) = false := by simp [i0]
                    go_wp2_with fail
                    go_ret
                    exact BP.no (HNO.out 0)
                · have d3 : (op == 2) = false := by simp [o3]
                  go_wp2_with fail
                  go_roundw
                  case rel => exact ⟨j + 1, by omega, by go_num, HXV, HJ3⟩
                  case measure => simp [intOf]; omega
        · have hje : j = kl.length := by rw [← Hln.out]; omega
          have HN : Hid (∀ k ∈ f.blocks.take (i + 1), PhiOk f k) := Lib.hid (Hm.out (by have := HJ.out; rw [hje, List.take_length] at this; exact this))
          have HBo := Lib.hid (HXW.out _ HBi.out)
          clear hje
          go_wp2_with fail
          go_roundw
          case rel => exact ⟨i + 1, by omega, by go_num, HBo, HN⟩
          case measure => simp [intOf]; omega
    · have hie : i = f.blocks.length := by rw [← Hbl.out]; omega
      have HA : Hid (∀ k ∈ f.blocks, PhiOk f k) := Lib.hid (by have := HO.out; rw [hie, List.take_length] at this; exact this)
      clear hie
      go_wp2_with fail
      go_ret
      exact BP.yes _ (HB0.out _ HB.out) HA.out
end Go.Proofs.Ythhjhdmdfneegaa
