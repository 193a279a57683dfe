/-
  Which programs may be, by the reference: ends.
-/
import Derived.Test.YthhjhdmdfneegaaJc24
namespace Go.Proofs.Ythhjhdmdfneegaa
set_option linter.unusedVariables false
set_option linter.unusedSimpArgs false
open Go.RowKit

theorem take_more {α : Type} {P : α → Prop} {l : List α} {i : Nat} (h : ∀ x ∈ l.take i, P x) (hi : i < l.length) (hx : P l[i]) : ∀ x ∈ l.take (i + 1), P x := by
  intro x hm
  rw [List.take_succ_eq_append_getElem hi] at hm
  rcases List.mem_append.mp hm with h1 | h1
  · exact h x h1
  · rw [List.mem_singleton] at h1
    rw [h1]; exact hx
def EndOk (f : SF) (kind arg : Int) (to_ : List Int) : Prop := (∀ x ∈ to_, 1 ≤ x ∧ x < f.blocks.length) ∧ 1 ≤ kind ∧ kind ≤ 3 ∧ to_.length ≤ 2 ∧ (arg = -1 ∨ (0 ≤ arg ∧ arg < f.ins.length))
set_option maxRecDepth 100000 in
set_option maxHeartbeats 16000000 in
theorem end_c (n0 : Nat) (V : RV) (f : SF) (kind arg : Int) (tA : Option Addr) (tn tc : Nat) (to_ : List Int) (w : World) (h : FA n0 V f w) (ht : GNs n0 w (.slice tA tn tc) to_) (hn : n0 ≤ w.heap.size) (htn : tn ≤ 1000) :
    Calls Try.prog 52 #[.agg V.cs, .agg #[.int .i64 kind, .int .i64 arg, .slice tA tn tc]] w (BP (EndOk f kind arg to_) w) := by
  obtain ⟨W1, hW1, hbW1, hzW1, h0W1⟩ := gr_one w V.cs 43
  obtain ⟨W, hW, hbW, hzW, h0W⟩ := gr_one W1 #[.int .i64 kind, .int .i64 arg, .slice tA tn tc] 49
  rw [hzW1] at h0W
  have hil := h.il
  have hbl := h.bl
  have htl := ht.len
  have hbw : Below w.heap.size w W := hbW1.trans (hbW.mono (by omega))
  obtain ⟨nm, pA, pn, pc, rt, iA, in_, ic, bA, bn, bc⟩ := V
  simp only at hil hbl
  have h0W1 : W.heap[w.heap.size]? = some (.cells #[.string nm, .slice pA pn pc, .int .i64 rt, .slice iA in_ ic, .slice bA bn bc] 43 (0, 0)) := (hbW.block w.heap.size (by omega)).trans h0W1
  have HC : Hid (∀ X, Below W.heap.size W X → X.cell? ⟨w.heap.size, 2, none⟩ = some (.int .i64 rt) ∧ X.cell? ⟨w.heap.size, 3, none⟩ = some (.slice iA in_ ic) ∧ X.cell? ⟨w.heap.size, 4, none⟩ = some (.slice bA bn bc) ∧ X.cell? ⟨w.heap.size + 1, 0, none⟩ = some (.int .i64 kind) ∧ X.cell? ⟨w.heap.size + 1, 1, none⟩ = some (.int .i64 arg) ∧ X.cell? ⟨w.heap.size + 1, 2, none⟩ = some (.slice tA tn tc)) := Lib.hid fun X hX => by
    have h0 := (hX.block w.heap.size (by omega)).trans h0W1
    have h1 := (hX.block (w.heap.size + 1) (by omega)).trans h0W
    exact ⟨Lib.cell_of_heap h0 2, Lib.cell_of_heap h0 3, Lib.cell_of_heap h0 4, Lib.cell_of_heap h1 0, Lib.cell_of_heap h1 1, Lib.cell_of_heap h1 2⟩
  have HT : Hid (∀ X, Below W.heap.size W X → GNs n0 X (.slice tA tn tc) to_) := Lib.hid fun X hX => ht.keep ((hbw.trans (hX.mono hbw.size)).mono hn)
  have HB0 : Hid (∀ X, Below W.heap.size W X → Below w.heap.size w X) := Lib.hid fun X hX => hbw.trans (hX.mono hbw.size)
  have HW1 := Lib.hid (show W1 = w.alloc (.cells #[.string nm, .slice pA pn pc, .int .i64 rt, .slice iA in_ ic, .slice bA bn bc] 43) from hW1)
  have HW := Lib.hid hW
  have Htl := Lib.hid htl
  have Hil := Lib.hid hil
  have Hbl := Lib.hid hbl
  show Calls _ _ #[.agg #[.string nm, .slice pA pn pc, .int .i64 rt, .slice iA in_ ic, .slice bA bn bc], .agg #[.int .i64 kind, .int .i64 arg, .slice tA tn tc]] _ _
  clear hW1 hbW1 hzW1 h0W1 hW hbW hzW h0W hil hbl htl hbw h ht
  go_enter Try.func52, Try.ntmps52
  go_upto_region 1 with fail
  rw [← HW1.out, ← HW.out]
  go_wp2_with fail
  go_loopw [5] (fun u5 wr => ∃ i : Nat, i ≤ tn ∧ u5 = .int .i64 (i : Int) ∧ Hid (Below W.heap.size W wr) ∧ Hid (∀ x ∈ to_.take i, 1 ≤ x ∧ x < (bn : Int))) (fun u5 _ => tn - (intOf u5).toNat)
  case atStart => exact ⟨0, Nat.zero_le _, rfl, Lib.hid (Below.refl _ _), Lib.hid (by simp)⟩
  case round =>
    obtain ⟨i, hi, rfl, HB, HI⟩ := hrel
    obtain ⟨wo, hwo⟩ : ∃ x, x = wr := ⟨_, rfl⟩
    rw [← hwo] at HB ⊢
    clear hwo
    obtain ⟨c2, c3, c4, t0, t1, t2⟩ := HC.out wo HB.out
    by_cases hlt : i < tn
    · have hil : i < to_.length := by rw [← Htl.out]; exact hlt
      obtain ⟨gb, go, rfl, -, hx⟩ := (HT.out wo HB.out).at hil
      have hm := fun hp => take_more HI.out hil hp
      obtain ⟨x, hxx⟩ : ∃ x, x = to_[i] := ⟨_, rfl⟩
      rw [← hxx] at hx hm
      have Hm := Lib.hid hm
      clear hxx hil hm
      clear c2 c3 t0 t1
      by_cases h1 : x < 1
      · go_upto_region 4 with fail
        go_quiet (fail)
        go_wp2_with fail
        go_ret
        exact BP.no (HB0.out _ (below_dr HB.out _))
      · by_cases h2 : x < (bn : Int)
        · have h2' : ¬ ((bn : Int) ≤ x) := by omega
          go_upto_region 4 with fail
          go_quiet (fail)
          go_wp2_with fail
          go_roundw
          case rel => exact ⟨i + 1, by omega, by go_num, Lib.hid (below_dr HB.out _), Lib.hid (Hm.out ⟨by omega, h2⟩)⟩
          case measure => simp [intOf]; omega
        · have h2' : (bn : Int) ≤ x := by omega
          go_upto_region 4 with fail
          go_quiet (fail)
          go_wp2_with fail
          go_ret
          exact BP.no (HB0.out _ (below_dr HB.out _))
    · have hie : i = to_.length := by rw [← Htl.out]; omega
      have HA : Hid (∀ x ∈ to_, 1 ≤ x ∧ x < (bn : Int)) := Lib.hid (by have := HI.out; rw [hie, List.take_length] at this; exact this)
      have HE : Hid (1 ≤ kind → kind ≤ 3 → tn ≤ 2 → (arg = -1 ∨ (0 ≤ arg ∧ arg < (in_ : Int))) → EndOk f kind arg to_) := Lib.hid fun a b c d => by
        refine ⟨fun x hx => ?_, a, b, by rw [← Htl.out]; exact c, ?_⟩
        · rw [← Hbl.out]; exact HA.out x hx
        · rw [← Hil.out]; exact d
      have hHB := HB0.out _ HB.out
      have HH := Lib.hid hHB
      have HHd : Hid (∀ k, Below w.heap.size w (wo.drewN k)) := Lib.hid fun k => HB0.out _ (below_dr HB.out _)
      have HG : Hid (∀ j, j < tn → ∃ b o x, tA = some ⟨b, o, none⟩ ∧ wo.cell? ⟨b, o + j, none⟩ = some (.int .i64 x)) := Lib.hid fun j hj => by
        obtain ⟨gb, go, e, -, hx⟩ := (HT.out wo HB.out).at (show j < to_.length by rw [← Htl.out]; exact hj)
        exact ⟨gb, go, _, e, hx⟩
      clear hie hHB HI HA HT HC
      go_upto_region 6 with fail
      go_cut [6] (fun u6 wx => ∃ b : Bool, u6 = .bool b ∧ wx = wo ∧ Hid (b = true → 0 ≤ arg ∧ arg < (in_ : Int)))
      case first =>
        by_cases ha : 0 ≤ arg
        · go_wp2_with fail
          go_meet
          refine ⟨_, rfl, rfl, Lib.hid fun e => ⟨ha, ?_⟩⟩
          simpa using e
        · go_wp2_with fail
          go_meet
          exact ⟨_, rfl, rfl, Lib.hid fun e => by simp at e⟩
      case rest =>
        obtain ⟨b, rfl, rfl, Hb⟩ := hcut
        by_cases hk1 : kind = 1
        · subst hk1
          by_cases k1 : (tn : Int) = 1
          · go_wp2
            go_ret
            exact ⟨_, rfl, HH.out, fun e => HE.out (by omega) (by omega) (by omega) (.inl (by simpa using e))⟩
          · go_wp2
            go_ret
            exact BP.no HH.out
        · by_cases hk2 : kind = 2
          · subst hk2
            by_cases k1 : (tn : Int) = 2
            · obtain ⟨gb, go, x0, rfl, y0⟩ := HG.out 0 (by omega)
              obtain ⟨gb2, go2, x1, e2, y1⟩ := HG.out 1 (by omega)
              injection e2 with e2
              injection e2 with e2 e3
              subst e2 e3
              have y0 : wc.cell? ⟨gb, go, none⟩ = some (.int .i64 x0) := y0
              have l0 : 0 < tn := by omega
              have l1 : 1 < tn := by omega
              by_cases hxx : x0 = x1
              · go_upto_region 11 with fail
                go_quiet (fail)
                go_wp2
                go_ret
                exact BP.no (HHd.out _)
              · go_upto_region 11 with fail
                go_quiet (fail)
                go_wp2
                go_ret
                exact ⟨_, rfl, HHd.out _, fun e => HE.out (by omega) (by omega) (by omega) (.inr (Hb.out (Bool.and_eq_true_iff.mp e).2))⟩
            · go_upto_region 11 with fail
              go_quiet (fail)
              go_wp2
              go_ret
              exact BP.no (HHd.out _)
          · by_cases hk3 : kind = 3
            · subst hk3
              by_cases k1 : (tn : Int) = 0
              · by_cases k2 : rt = 0
                · by_cases k3 : arg = -1
                  · go_wp2
                    go_ret
                    exact BP.yes _ HH.out (HE.out (by omega) (by omega) (by omega) (.inl k3))
                  · go_wp2
                    go_ret
                    exact ⟨_, rfl, HH.out, fun e => absurd (by simpa using e) k3⟩
                · go_wp2
                  go_ret
                  exact ⟨_, rfl, HH.out, fun e => HE.out (by omega) (by omega) (by omega) (.inr (Hb.out (Bool.and_eq_true_iff.mp e).2))⟩
              · go_wp2
                go_ret
                exact BP.no HH.out
            · go_wp2
              go_ret
              exact BP.no HH.out
end Go.Proofs.Ythhjhdmdfneegaa
