/-
  Which programs may be, by the reference: all types.
-/
import Derived.Test.YthhjhdmdfneegaaJc31
import Derived.Test.YthhjhdmdfneegaaJc38
namespace Go.Proofs.Ythhjhdmdfneegaa
set_option linter.unusedVariables false
set_option linter.unusedSimpArgs false
open Go.RowKit Go.Shelf

def InsOk (f : SF) (x : SIn) : Prop := (0 ≤ x.ty ∧ x.ty ≤ 4) ∧ (0 ≤ x.to_ ∧ x.to_ ≤ 256) ∧ ∀ a ∈ x.args, 0 ≤ a ∧ a < (f.ins.length : Int)
/-- ins keeps its word. -/
def InsC (n0 : Nat) (fA : Option Addr) (fn fc : Nat) (mn : Int) (V : RV) (f : SF) (w : World) : Prop := ∀ (X : World) (x : SIn) (aA : Option Addr) (an ac : Nat), Below w.heap.size w X → x ∈ f.ins → GNs n0 X (.slice aA an ac) x.args → Calls Try.prog 55 #[.agg #[.slice fA fn fc, .int .i64 mn], .agg V.cs, .agg #[.int .i64 x.op, .int .i64 x.ty, .slice aA an ac, .int .i64 x.n, .int .i64 x.to_]] X (BP (InsOk f x) X)
set_option maxRecDepth 100000 in
set_option maxHeartbeats 32000000 in
theorem types_c (n0 : Nat) (fA : Option Addr) (fn fc : Nat) (mn : Int) (V : RV) (f : SF) (w : World) (h : FA n0 V f w) (hs : FS f) (hn : n0 ≤ w.heap.size) (hins : InsC n0 fA fn fc mn V f w) :
    Calls Try.prog 31 #[.agg #[.slice fA fn fc, .int .i64 mn], .agg V.cs] w (BP (∀ x ∈ f.ins, x.op ≠ 0 → InsOk f x) w) := by
  obtain ⟨W1, hW1, hbW1, hzW1, h0W1⟩ := gr_one w #[.slice fA fn fc, .int .i64 mn] 25
  obtain ⟨W, hW, hbW, hzW, h0W⟩ := gr_one W1 V.cs 43
  rw [hzW1] at h0W
  have hil := h.il
  have hbl := h.bl
  have hr := h.r
  have hbw : Below w.heap.size w W := hbW1.trans (hbW.mono (by omega))
  have hn1 : n0 ≤ W.heap.size := by omega
  have hT := fun (X : World) (hX : Below w.heap.size w X) (id : Int) => typ_c n0 V f id X (h.keep (hX.mono hn)) (Nat.le_trans hn hX.size)
  have HIX : Hid (∀ X, Below W.heap.size W X → SIs n0 X (.slice V.iA V.in_ V.ic) f.ins) := Lib.hid fun X hX => h.i.keep ((hbw.trans (hX.mono hbw.size)).mono hn)
  have HSX : Hid (∀ X, Below W.heap.size W X → SBs n0 X (.slice V.bA V.bn V.bc) f.blocks) := Lib.hid fun X hX => h.b.keep ((hbw.trans (hX.mono hbw.size)).mono hn)
  unfold InsC at hins
  obtain ⟨nm, pA, pn, pc, rt, iA, in_, ic, bA, bn, bc⟩ := V
  unfold RV.cs at hT hins h0W hW ⊢
  simp only at hT hins h0W hW hil hbl HIX HSX hr ⊢
  have h0W1 : W.heap[w.heap.size]? = some (.cells #[.slice fA fn fc, .int .i64 mn] 25 (0, 0)) := (hbW.block w.heap.size (by omega)).trans h0W1
  have HC : Hid (∀ X, Below W.heap.size W X → (X.cell? ⟨w.heap.size + 1, 0, none⟩ = some (.string nm) ∧ X.cell? ⟨w.heap.size + 1, 1, none⟩ = some (.slice pA pn pc) ∧ X.cell? ⟨w.heap.size + 1, 2, none⟩ = some (.int .i64 rt) ∧ X.cell? ⟨w.heap.size + 1, 3, none⟩ = some (.slice iA in_ ic) ∧ X.cell? ⟨w.heap.size + 1, 4, none⟩ = some (.slice bA bn bc)) ∧ X.cell? ⟨w.heap.size, 0, none⟩ = some (.slice fA fn fc) ∧ X.cell? ⟨w.heap.size, 1, none⟩ = some (.int .i64 mn)) := Lib.hid fun X hX => by
    obtain ⟨a, b, c, d, e, -⟩ := gr_five ((hX.block (w.heap.size + 1) (by omega)).trans h0W)
    have h1 := (hX.block w.heap.size (by omega)).trans h0W1
    exact ⟨⟨a, b, c, d, e⟩, Lib.cell_of_heap h1 0, Lib.cell_of_heap h1 1⟩
  have HB0 : Hid (∀ X, Below W.heap.size W X → Below w.heap.size w X) := Lib.hid fun X hX => hbw.trans (hX.mono hbw.size)
  have HW1 := Lib.hid hW1
  have HW := Lib.hid hW
  have Hil := Lib.hid hil
  have Hbl := Lib.hid hbl
  have HT := Lib.hid hT
  have HIns := Lib.hid hins
  have hib : in_ ≤ 1000 := by rw [hil]; exact hs.i
  have hbb : bn ≤ 1000 := by rw [hbl]; exact hs.b
  clear hW1 hbW1 hzW1 h0W1 hW hbW hzW h0W hil hbl hbw h hins hT hs hr
  go_enter Try.func31, Try.ntmps31
  go_upto_region 1 with fail
  rw [← HW1.out, ← HW.out]
  go_wp2_with fail
  go_loopw [5] (fun u5 wr => ∃ i : Nat, i ≤ in_ ∧ u5 = .int .i64 (i : Int) ∧ Hid (Below W.heap.size W wr) ∧ Hid (∀ x ∈ f.ins.take i, x.op ≠ 0 → InsOk f x)) (fun u5 _ => in_ - (intOf u5).toNat)
  case atStart => exact ⟨0, Nat.zero_le _, rfl, Lib.hid (Below.refl _ _), Lib.hid (by simp)⟩
  case round =>
    obtain ⟨i, hi, rfl, HB, HO⟩ := hrel
    obtain ⟨wo, hwo⟩ : ∃ x, x = wr := ⟨_, rfl⟩
    rw [← hwo] at HB ⊢
    clear hwo
    obtain ⟨⟨c0, c1, c2, c3, c4⟩, p0, p1⟩ := HC.out wo HB.out
    by_cases hlt : i < in_
    · have hil : i < f.ins.length := by rw [← Hil.out]; exact hlt
      obtain ⟨gb, go, aA, ac, rfl, -, q0, q1, q2, q3, q4, ga⟩ := (HIX.out wo HB.out).at hil
      have hm := fun hp => take_more (P := fun x : SIn => x.op ≠ 0 → InsOk f x) HO.out hil hp
      have hmem : f.ins[i] ∈ f.ins := List.getElem_mem hil
      obtain ⟨y, hy⟩ : ∃ y, y = f.ins[i] := ⟨_, rfl⟩
      rw [← hy] at q0 q1 q2 q3 q4 ga hm hmem
      have hcall := HIns.out wo.drew y aA y.args.length ac (HB0.out _ HB.out.drew) hmem (ga.keep (Below.refl _ _).drew)
      have hd := HB.out.drew
      obtain ⟨op, ty, args, nn, to_⟩ := y
      simp only at q0 q1 q2 q3 q4 hm hcall
      obtain ⟨an, han⟩ : ∃ n, n = args.length := ⟨_, rfl⟩
      rw [← han] at q2 hcall
      have Hm := Lib.hid hm
      have HBd := Lib.hid hd
      clear hy hil hmem ga hm han hd
      by_cases h0 : op = 0
      · subst h0
        have HN := Lib.hid (Hm.out (fun e => absurd rfl e))
        clear hcall
        go_upto_region 4 with fail
        go_quiet (fail)
        go_wp2_with fail
        go_roundw
        case rel => exact ⟨i + 1, by omega, by go_num, Lib.hid (below_dr HB.out _), HN⟩
        case measure => simp [intOf]; omega
      · have d0 : (op == 0) = false := by simp [h0]
        have d1 : (op != 0) = true := by simp [h0]
        go_upto_region 4 with fail
        refine wp_region_still_tail 15 (by kernel_rfl) (by kernel_rfl) ?_
        simp only [List.take_succ_cons, List.take_zero, List.drop_succ_cons, List.drop_zero]
        refine wpStill_of_quiet _ _ ?_
        repeat (go_big_quiet_step (fail))
        refine wpQuiet_nil ?_
        change wpList _ _ _ _ _ wo.drew
        go_wp2_with (go_at_call 55; refine hcall.mono ?_; rintro e w3 ⟨r, rfl, h3, hp⟩; have HB3 : Hid (Below W.heap.size W w3) := Lib.hid (HBd.out.trans (h3.mono HBd.out.size)); have HP := Lib.hid hp; clear hcall h3 hp c0 c1 c2 c3 c4 p0 p1 q0 q1 q2 q3 q4; cases r)
        · go_ret
          exact BP.no (HB0.out _ HB3.out)
        · go_roundw
          case rel => exact ⟨i + 1, by omega, by go_num, HB3, Lib.hid (Hm.out fun _ => HP.out trivial)⟩
          case measure => simp [intOf]; omega
    · have hie : i = f.ins.length := by rw [← Hil.out]; omega
      have HA : Hid (∀ x ∈ f.ins, x.op ≠ 0 → InsOk f x) := Lib.hid (by have := HO.out; rw [hie, List.take_length] at this; exact this)
      clear hie HO
      go_wp2_with fail
      clear c0 c1 c2 c3 c4 p0 p1
      go_loopw [6] (fun u6 wr => ∃ j : Nat, j ≤ bn ∧ u6 = .int .i64 (j : Int) ∧ Hid (Below W.heap.size W wr)) (fun u6 _ => bn - (intOf u6).toNat)
      case atStart => exact ⟨0, Nat.zero_le _, rfl, HB⟩
      case round =>
        clear HB
        obtain ⟨j, hj, rfl, HB⟩ := hrel
        obtain ⟨wi, hwi⟩ : ∃ x, x = wr := ⟨_, rfl⟩
        rw [← hwi] at HB ⊢
        clear hwi
        obtain ⟨⟨c0, c1, c2, c3, c4⟩, -, -⟩ := HC.out wi HB.out
        by_cases hjt : j < bn
        · have hjl : j < f.blocks.length := by rw [← Hbl.out]; exact hjt
          obtain ⟨gb, go, lA, lc, qA, qc, tA, tc, rfl, -, -, -, x2, x3, x4, -, -, -⟩ := (HSX.out wi HB.out).at hjl
          obtain ⟨kk, hkk⟩ : ∃ k, k = f.blocks[j].kind := ⟨_, rfl⟩
          obtain ⟨ka, hka⟩ : ∃ k, k = f.blocks[j].arg := ⟨_, rfl⟩
          obtain ⟨tn, htn⟩ : ∃ k, k = f.blocks[j].to_.length := ⟨_, rfl⟩
          rw [← hkk] at x2
          rw [← hka] at x3
          rw [← htn] at x4
          obtain ⟨X, hX, hbX, hzX, h0X⟩ := gr_one wi #[.int .i64 kk, .int .i64 ka, .slice tA tn tc] 49
          have hBX : Below W.heap.size W X := HB.out.trans (hbX.mono HB.out.size)
          have HBX := Lib.hid hBX
          have hTX : ∀ Z, Below X.heap.size X Z → Calls Try.prog 56 #[.agg #[.string nm, .slice pA pn pc, .int .i64 rt, .slice iA in_ ic, .slice (some ⟨gb, go, none⟩) bn bc], .int .i64 ka] Z fun e w' => e = .returned (.int .i64 (typQ f ka)) ∧ Below Z.heap.size Z w' := fun Z hZ => HT.out Z (HB0.out _ (hBX.trans (hZ.mono hBX.size))) ka
          obtain ⟨t, ht⟩ : ∃ t, t = typQ f ka := ⟨_, rfl⟩
          rw [← ht] at hTX
          have hA := so_call2 X hTX
          obtain ⟨⟨c0', c1', c2', c3', c4'⟩, -, -⟩ := HC.out X hBX
          obtain ⟨xb, hxb⟩ : ∃ b, b = wi.heap.size := ⟨_, rfl⟩
          rw [← hxb] at h0X
          have k0 := cell_regrown c0'
          have k1 := cell_regrown c1'
          have k2 := cell_regrown c2'
          have k3 := cell_regrown c3'
          have k4 := cell_regrown c4'
          have k5 := cell_regrown (show X.cell? ⟨xb, 0, none⟩ = some (.int .i64 kk) from Lib.cell_of_heap h0X 0)
          have k6 := cell_regrown (show X.cell? ⟨xb, 1, none⟩ = some (.int .i64 ka) from Lib.cell_of_heap h0X 1)
          have HX := Lib.hid hX
          have Hxb := Lib.hid hxb
          clear hX hbX hzX h0X hBX hTX ht hkk hka htn hjl hxb c0' c1' c2' c3' c4'
          go_upto_region 10 with fail
          rw [← HX.out, ← Hxb.out]
          clear c0 c1 c2 c3 c4 x2 x3 x4
          by_cases k2x : kk = 2
          · subst k2x
            by_cases t2 : t = 2
            · refine wp_region_quiet_below (by kernel_rfl) (by kernel_rfl) ?_
              repeat (go_big_quiet_step (first | with_reducible exact hA _ _))
              refine wpQuiet_nil ?_
              intro w2 hw'
              obtain ⟨⟨dq, osq⟩, hw''⟩ := hw'
              have HB3 := Lib.hid (HBX.out.trans ((below_regrown X dq osq).mono HBX.out.size))
              rw [← hw''] at HB3
              clear hw'' k0 k1 k2 k3 k4 k5 k6 hA
              go_wp2_with fail
              go_roundw
              case rel => exact ⟨j + 1, by omega, by go_num, HB3⟩
              case measure => simp [intOf]; omega
            · have d2 : (t == 2) = false := by simp [t2]
              have d2b : (t != 2) = true := by simp [t2]
              refine wp_region_quiet_below (by kernel_rfl) (by kernel_rfl) ?_
              repeat (go_big_quiet_step (first | with_reducible exact hA _ _))
              refine wpQuiet_nil ?_
              intro w2 hw'
              obtain ⟨⟨dq, osq⟩, hw''⟩ := hw'
              have HB3 := Lib.hid (HBX.out.trans ((below_regrown X dq osq).mono HBX.out.size))
              rw [← hw''] at HB3
              clear hw'' k0 k1 k2 k3 k4 k5 k6 hA
              go_wp2_with fail
              go_ret
              exact BP.no (HB0.out _ HB3.out)
          · have d2 : (kk == 2) = false := by simp [k2x]
            by_cases k3x : kk = 3
            · subst k3x
              by_cases a0 : 0 ≤ ka
              · by_cases t3 : t = rt
                · subst t3
                  refine wp_region_quiet_below (by kernel_rfl) (by kernel_rfl) ?_
                  repeat (go_big_quiet_step (first | with_reducible exact hA _ _))
                  refine wpQuiet_nil ?_
                  intro w2 hw'
                  obtain ⟨⟨dq, osq⟩, hw''⟩ := hw'
                  have HB3 := Lib.hid (HBX.out.trans ((below_regrown X dq osq).mono HBX.out.size))
                  rw [← hw''] at HB3
                  clear hw'' k0 k1 k2 k3 k4 k5 k6 hA
                  go_wp2_with fail
                  go_roundw
                  case rel => exact ⟨j + 1, by omega, by go_num, HB3⟩
                  case measure => simp [intOf]; omega
                · have d3 : (t == rt) = false := by simp [t3]
                  have d3b : (t != rt) = true := by simp [t3]
                  refine wp_region_quiet_below (by kernel_rfl) (by kernel_rfl) ?_
                  repeat (go_big_quiet_step (first | with_reducible exact hA _ _))
                  refine wpQuiet_nil ?_
                  intro w2 hw'
                  obtain ⟨⟨dq, osq⟩, hw''⟩ := hw'
                  have HB3 := Lib.hid (HBX.out.trans ((below_regrown X dq osq).mono HBX.out.size))
                  rw [← hw''] at HB3
                  clear hw'' k0 k1 k2 k3 k4 k5 k6 hA
                  go_wp2_with fail
                  go_ret
                  exact BP.no (HB0.out _ HB3.out)
              · refine wp_region_quiet_below (by kernel_rfl) (by kernel_rfl) ?_
                repeat (go_big_quiet_step (first | with_reducible exact hA _ _))
                refine wpQuiet_nil ?_
                intro w2 hw'
                obtain ⟨⟨dq, osq⟩, hw''⟩ := hw'
                have HB3 := Lib.hid (HBX.out.trans ((below_regrown X dq osq).mono HBX.out.size))
                rw [← hw''] at HB3
                clear hw'' k0 k1 k2 k3 k4 k5 k6 hA
                go_wp2_with fail
                go_roundw
                case rel => exact ⟨j + 1, by omega, by go_num, HB3⟩
                case measure => simp [intOf]; omega
            · have d3 : (kk == 3) = false := by simp [k3x]
              refine wp_region_quiet_below (by kernel_rfl) (by kernel_rfl) ?_
              repeat (go_big_quiet_step (first | with_reducible exact hA _ _))
              refine wpQuiet_nil ?_
              intro w2 hw'
              obtain ⟨⟨dq, osq⟩, hw''⟩ := hw'
              have HB3 := Lib.hid (HBX.out.trans ((below_regrown X dq osq).mono HBX.out.size))
              rw [← hw''] at HB3
              clear hw'' k0 k1 k2 k3 k4 k5 k6 hA
              go_wp2_with fail
              go_roundw
              case rel => exact ⟨j + 1, by omega, by go_num, HB3⟩
              case measure => simp [intOf]; omega
        · go_wp2_with fail
          go_ret
          exact BP.yes _ (HB0.out _ HB.out) HA.out
end Go.Proofs.Ythhjhdmdfneegaa
