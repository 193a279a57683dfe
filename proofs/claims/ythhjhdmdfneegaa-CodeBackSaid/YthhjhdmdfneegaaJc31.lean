/-
  Which programs may be, by the reference: arguments' types.
-/
import Derived.Test.YthhjhdmdfneegaaJc26
import Derived.Test.YthhjhdmdfneegaaJc30
import Derived.StillTailTactics
namespace Go.Proofs.Ythhjhdmdfneegaa
set_option linter.unusedVariables false
set_option linter.unusedSimpArgs false
open Go.RowKit Go.Shelf

/-- The arguments are there, of these types. -/
def OfOk (f : SF) (args l : List Int) : Prop := args.length = l.length ∧ ∀ j, j < l.length → typQ f (args.getD j 0) = l.getD j 0
set_option maxRecDepth 100000 in
set_option maxHeartbeats 16000000 in
theorem of_c (n0 : Nat) (V : RV) (f : SF) (op ty nn to_ : Int) (aA : Option Addr) (an ac : Nat) (args : List Int) (lA : Option Addr) (ln lc : Nat) (l : List Int) (w : World) (h : FA n0 V f w) (ha : GNs n0 w (.slice aA an ac) args) (hl : GNs w.heap.size w (.slice lA ln lc) l) (hn : n0 ≤ w.heap.size) (han : an ≤ 1000) (hln : ln ≤ 1000) :
    Calls Try.prog 68 #[.agg V.cs, .agg #[.int .i64 op, .int .i64 ty, .slice aA an ac, .int .i64 nn, .int .i64 to_], .slice lA ln lc] w (BP (OfOk f args l) w) := by
  obtain ⟨W1, hW1, hbW1, hzW1, h0W1⟩ := gr_one w V.cs 43
  obtain ⟨W, hW, hbW, hzW, h0W⟩ := gr_one W1 #[.int .i64 op, .int .i64 ty, .slice aA an ac, .int .i64 nn, .int .i64 to_] 46
  rw [hzW1] at h0W
  have hal := ha.len
  have hll := hl.len
  have hbw : Below w.heap.size w W := hbW1.trans (hbW.mono (by omega))
  have hT := fun (X : World) (hX : Below w.heap.size w X) (id : Int) => typ_c n0 V f id X (h.keep (hX.mono hn)) (Nat.le_trans hn hX.size)
  obtain ⟨nm, pA, pn, pc, rt, iA, in_, ic, bA, bn, bc⟩ := V
  unfold RV.cs at hT h0W1 hW1 ⊢
  simp only at hT h0W1 hW1 ⊢
  have h0W1 : W.heap[w.heap.size]? = some (.cells #[.string nm, .slice pA pn pc, .int .i64 rt, .slice iA in_ ic, .slice bA bn bc] 43 (0, 0)) := (hbW.block w.heap.size (by omega)).trans h0W1
  have HC : Hid (∀ X, Below W.heap.size W X → (X.cell? ⟨w.heap.size, 0, none⟩ = some (.string nm) ∧ X.cell? ⟨w.heap.size, 1, none⟩ = some (.slice pA pn pc) ∧ X.cell? ⟨w.heap.size, 2, none⟩ = some (.int .i64 rt) ∧ X.cell? ⟨w.heap.size, 3, none⟩ = some (.slice iA in_ ic) ∧ X.cell? ⟨w.heap.size, 4, none⟩ = some (.slice bA bn bc)) ∧ X.cell? ⟨w.heap.size + 1, 2, none⟩ = some (.slice aA an ac)) := Lib.hid fun X hX => by
    obtain ⟨a, b, c, d, e, -⟩ := gr_five ((hX.block w.heap.size (by omega)).trans h0W1)
    exact ⟨⟨a, b, c, d, e⟩, Lib.cell_of_heap ((hX.block (w.heap.size + 1) (by omega)).trans h0W) 2⟩
  have HA : Hid (∀ X, Below W.heap.size W X → GNs n0 X (.slice aA an ac) args) := Lib.hid fun X hX => ha.keep ((hbw.trans (hX.mono hbw.size)).mono hn)
  have HL : Hid (∀ X, Below W.heap.size W X → GNs w.heap.size X (.slice lA ln lc) l) := Lib.hid fun X hX => hl.keep (hbw.trans (hX.mono hbw.size))
  have HB0 : Hid (∀ X, Below W.heap.size W X → Below w.heap.size w X) := Lib.hid fun X hX => hbw.trans (hX.mono hbw.size)
  have HT : Hid (∀ (X : World) (id : Int), Below W.heap.size W X → _) := Lib.hid fun X id hX => hT X (HB0.out X hX) id
  have HW1 := Lib.hid hW1
  have HW := Lib.hid hW
  have Hal := Lib.hid hal
  have Hll := Lib.hid hll
  obtain ⟨⟨c0, c1, c2, c3, c4⟩, d2⟩ := HC.out W (Below.refl _ _)
  clear hW1 hbW1 hzW1 h0W1 hW hbW hzW h0W hal hll hbw h ha hl hT
  go_enter Try.func68, Try.ntmps68
  go_upto_region 1 with fail
  rw [← HW1.out, ← HW.out]
  by_cases he : an = ln
  · subst he
    go_wp2_with fail
    clear c0 c1 c2 c3 c4 d2
    go_loopw [7] (fun u7 wr => ∃ i : Nat, i ≤ an ∧ u7 = .int .i64 (i : Int) ∧ Hid (Below W.heap.size W wr) ∧ Hid (∀ j, j < i → typQ f (args.getD j 0) = l.getD j 0)) (fun u7 _ => an - (intOf u7).toNat)
    case atStart => exact ⟨0, Nat.zero_le _, rfl, Lib.hid (Below.refl _ _), Lib.hid (fun j hj => by omega)⟩
    case round =>
      obtain ⟨i, hi, rfl, HB, HO⟩ := hrel
      obtain ⟨wo, hwo⟩ : ∃ x, x = wr := ⟨_, rfl⟩
      rw [← hwo] at HB ⊢
      clear hwo
      by_cases hlt : i < an
      · have hd : Below W.heap.size W wo.drew := HB.out.drew
        obtain ⟨⟨c0, c1, c2, c3, c4⟩, d2⟩ := HC.out wo HB.out
        obtain ⟨gb, go, rfl, -, x0⟩ := (HA.out wo HB.out).at (show i < args.length by rw [← Hal.out]; exact hlt)
        obtain ⟨gb2, go2, rfl, -, y0⟩ := (HL.out wo HB.out).at (show i < l.length by rw [← Hll.out]; exact hlt)
        have ea : args.getD i 0 = args[i]'(by rw [← Hal.out]; exact hlt) := by simp [List.getD, List.getElem?_eq_getElem (show i < args.length by rw [← Hal.out]; exact hlt)]
        have el : l.getD i 0 = l[i]'(by rw [← Hll.out]; exact hlt) := by simp [List.getD, List.getElem?_eq_getElem (show i < l.length by rw [← Hll.out]; exact hlt)]
        rw [← ea] at x0
        rw [← el] at y0
        have hm : typQ f (args.getD i 0) = l.getD i 0 → ∀ j, j < i + 1 → typQ f (args.getD j 0) = l.getD j 0 := fun h j hj => by
          by_cases e : j = i
          · subst e; exact h
          · exact HO.out j (by omega)
        have HT2 : Hid (∀ X, Below wo.heap.size wo X → Calls Try.prog 56 #[.agg #[.string nm, .slice pA pn pc, .int .i64 rt, .slice iA in_ ic, .slice bA bn bc], .int .i64 (args.getD i 0)] X fun e w' => e = .returned (.int .i64 (typQ f (args.getD i 0))) ∧ Below X.heap.size X w') := Lib.hid fun X hX => HT.out X (args.getD i 0) (HB.out.trans (hX.mono HB.out.size))
        obtain ⟨a, ha⟩ : ∃ a, a = args.getD i 0 := ⟨_, rfl⟩
        obtain ⟨b, hb⟩ : ∃ b, b = l.getD i 0 := ⟨_, rfl⟩
        obtain ⟨t, ht⟩ : ∃ t, t = typQ f a := ⟨_, rfl⟩
        rw [← ha] at x0 hm HT2
        rw [← hb] at y0 hm
        rw [← ht] at hm HT2
        have Hm := Lib.hid hm
        have HY : Hid (∀ X, Below wo.heap.size wo X → X.cell? ⟨gb2, go2 + i, none⟩ = some (.int .i64 b)) := Lib.hid fun X hX => (hX.cell (p := ⟨gb2, go2 + i, none⟩) (World.block_lt_of_cell? wo _ y0)).trans y0
        clear ha hb ht ea el hm hd HY
        have hA := so_call2 wo fun X hX => HT2.out X hX
        have k0 := cell_regrown c0
        have k1 := cell_regrown c1
        have k2 := cell_regrown c2
        have k3 := cell_regrown c3
        have k4 := cell_regrown c4
        have k5 := cell_regrown d2
        have k6 := cell_regrown x0
        have k7 := cell_regrown y0
        clear HT2
        by_cases e : t = b
        · go_upto_region 6 with fail
          refine wp_region_quiet_below (by kernel_rfl) (by kernel_rfl) ?_
          repeat (go_big_quiet_step (first | with_reducible exact hA _ _))
          refine wpQuiet_nil ?_
          intro w2 hw'
          obtain ⟨⟨dq, osq⟩, hw''⟩ := hw'
          have HB3 := Lib.hid (HB.out.trans ((below_regrown wo dq osq).mono HB.out.size))
          rw [← hw''] at HB3
          clear hw'' k0 k1 k2 k3 k4 k5 k6 k7 hA
          go_wp2_with fail
          go_roundw
          case rel => exact ⟨i + 1, by omega, by go_num, HB3, Lib.hid (Hm.out (by first | exact e | assumption))⟩
          case measure => simp [intOf]; omega
        · go_upto_region 6 with fail
          refine wp_region_quiet_below (by kernel_rfl) (by kernel_rfl) ?_
          repeat (go_big_quiet_step (first | with_reducible exact hA _ _))
          refine wpQuiet_nil ?_
          intro w2 hw'
          obtain ⟨⟨dq, osq⟩, hw''⟩ := hw'
          have HB3 := Lib.hid (HB.out.trans ((below_regrown wo dq osq).mono HB.out.size))
          rw [← hw''] at HB3
          clear hw'' k0 k1 k2 k3 k4 k5 k6 k7 hA
          go_wp2_with fail
          go_ret
          exact BP.no (HB0.out _ HB3.out)
      · have hie : i = an := by omega
        subst hie
        have HF : Hid (OfOk f args l) := Lib.hid ⟨by rw [← Hal.out, Hll.out], fun j hj => HO.out j (by rw [Hll.out]; exact hj)⟩
        go_wp2_with fail
        go_ret
        exact BP.yes _ (HB0.out _ HB.out) HF.out
  · have he' : ¬ (an : Int) = (ln : Int) := by omega
    go_wp2_with fail
    go_ret
    exact BP.no (HB0.out _ (Below.refl _ _))
end Go.Proofs.Ythhjhdmdfneegaa
