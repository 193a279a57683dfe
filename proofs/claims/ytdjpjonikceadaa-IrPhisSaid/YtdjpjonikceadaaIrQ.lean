/-
  A block ends so that it goes to another one.
-/
import Derived.Test.YtdjpjonikceadaaIrP
namespace Go.Proofs.Ytdjpjonikceadaa
open Go.RowKit
set_option linter.unusedVariables false
set_option linter.unusedSimpArgs false

theorem set_away {bs : List Value} {k j : Nat} {u : Value} (h : j ≠ k) : (bs.set k u)[j]? = bs[j]? := by
  rw [List.getElem?_set_ne (by omega)]

theorem own_some {w : World} {base : Nat} {T : TypeId} {z g n c : Nat} {xs : List Value} (h : w.ownsRow base T z (.slice (some ⟨g, 0, none⟩) n c) n xs) (j : Nat) (hj : j < n * z) : ∃ u, w.cell? ⟨g, j, none⟩ = some u := by
  have hl : xs.length = n * z := h.1
  exact ⟨xs[j]'(by omega), (h.cellAt j hj).trans (List.getElem?_eq_getElem (by omega))⟩

theorem upR_two (F : Nat → Rw) (k : Nat) (r s : Rw) : upR (upR F k r) k s = upR F k s := by
  funext j
  by_cases h : j = k
  · subst h; rw [upR_at, upR_at]
  · rw [upR_off _ _ _ _ h, upR_off _ _ _ _ h, upR_off _ _ _ _ h]

set_option maxRecDepth 100000 in
set_option maxHeartbeats 8000000 in
/-- A block that ends with nothing ends so that it goes to another one. -/
theorem end_jump (kp kt : Nat) (hkp : kp ≠ 0) (hkt : kt ≠ 0) (hpt : kp ≠ kt) (E base N i n g c m t : Nat) (IV PV : Value) (bs ps : List Value) (F : Nat → Rw) (w : World) (hE : EdC w E IV (.slice (some ⟨g, 0, none⟩) N c)) (hF : Fam w base E F) (h0 : F 0 = ⟨46, 5, .slice (some ⟨g, 0, none⟩) N c, N, bs⟩) (h4 : F kp = ⟨3, 1, PV, m, ps⟩)
    (hi : i < N) (hn : n < N) (hK : bs[i * 5 + 2]? = some (.int .i64 0)) (hP : bs[n * 5 + 1]? = some PV) (hb : base ≤ w.heap.size) (hm : m ≤ 1000) (ht : w.heap[t]? = some (.cells #[.int .i64 n] 3 (0, 0))) (htg : t ≠ g) :
    Calls Try.prog 10 #[.pointer (some ⟨E, 0, none⟩), .int .i64 i, .agg #[.int .i64 1, .int .i64 (-1), .slice (some ⟨t, 0, none⟩) 1 1]] w fun e w' => e = .returned (.tuple #[]) ∧ Bd E base w w' ∧ EdC w' E IV (.slice (some ⟨g, 0, none⟩) N c) ∧ ∃ q d q2 d2, Fam w' base E (upR (upR (upR (upR F kt ⟨3, 1, .slice (some ⟨q, 0, none⟩) 1 d, 1, [.int .i64 n]⟩) 0 ⟨46, 5, .slice (some ⟨g, 0, none⟩) N c, N, ((bs.set (i * 5 + 2) (.int .i64 1)).set (i * 5 + 3) (.int .i64 (-1))).set (i * 5 + 4) (.slice (some ⟨q, 0, none⟩) 1 d)⟩) kp ⟨3, 1, .slice (some ⟨q2, 0, none⟩) (m + 1) d2, m + 1, ps ++ [.int .i64 i]⟩) 0 ⟨46, 5, .slice (some ⟨g, 0, none⟩) N c, N, (((bs.set (i * 5 + 2) (.int .i64 1)).set (i * 5 + 3) (.int .i64 (-1))).set (i * 5 + 4) (.slice (some ⟨q, 0, none⟩) 1 d)).set (n * 5 + 1) (.slice (some ⟨q2, 0, none⟩) (m + 1) d2)⟩) := by
  obtain ⟨W, hW, hbW, hzW, hT⟩ := r_one_al w #[.int .i64 1, .int .i64 (-1), .slice (some ⟨t, 0, none⟩) 1 1] 34
  have htl := heap_in ht
  have hEl : E < w.heap.size := hF.el
  have hEW : EdC W E IV (.slice (some ⟨g, 0, none⟩) N c) := (hbW.block E hEl).trans hE
  have hFW := hF.keep hbW
  have htW := (hbW.block t htl).trans ht
  have hbaW : base ≤ W.heap.size := by omega
  have hB := block_ptr E i N g c IV W hEW hi
  have hBo : W.ownsRow base 46 5 (.slice (some ⟨g, 0, none⟩) N c) N bs := hFW.at h0
  have hlen : bs.length = N * 5 := hBo.1
  have hgb := hBo.lt g rfl
  have hgw := (hF.at h0).lt g rfl
  have p2 : W.cell? ⟨g, i * 5 + 2, none⟩ = some (.int .i64 0) := (hBo.cellAt (i * 5 + 2) (by omega)).trans hK
  have hC := cloneTerm_one base 1 (-1) t 1 n W hbaW htW
  have tc0 := Lib.cell_of_heap hT 0
  have tc1 := Lib.cell_of_heap hT 1
  have tc2 := Lib.cell_of_heap hT 2
  have HW := Lib.hid hW
  have HbW := Lib.hid hbW
  have HzW := Lib.hid hzW
  have HT := Lib.hid hT
  have HtW := Lib.hid htW
  have HEW := Lib.hid hEW
  have HFW := Lib.hid hFW
  have H0 := Lib.hid h0
  have H4 := Lib.hid h4
  have HBo := Lib.hid hBo
  have Hlen := Lib.hid hlen
  have Hgb := Lib.hid hgb
  have Hgw := Lib.hid hgw
  have HP := Lib.hid hP
  have Htl := Lib.hid htl
  have HbaW := Lib.hid hbaW
  clear hE hF h0 h4 hW hbW hzW hT hEW hFW htW hBo hlen hgb hgw ht hP htl hbaW hK
  go_enter Try.func10, Try.ntmps10
  go_upto_region 1 with fail
  rw [← HW.out]
  go_upto_region 3 with (go_at_call 22; refine hB.mono ?_; rintro e w1 ⟨rfl, rfl⟩)
  go_upto_region 4 with (go_at_call 23; refine hC.mono ?_; rintro e w2 ⟨q, d, rfl, hb2, ho2, hg2⟩; have hBo2 := own_up HBo.out hb2; obtain ⟨u2, k2⟩ := own_some hBo2 (i * 5 + 2) (by omega); obtain ⟨u3, k3⟩ := own_some hBo2 (i * 5 + 3) (by omega); obtain ⟨u4, k4⟩ := own_some hBo2 (i * 5 + 4) (by omega); have kf := hBo2.frozenAt; have Hb2 := Lib.hid hb2; have Ho2 := Lib.hid ho2; have Hg2 := Lib.hid hg2; have HBo2 := Lib.hid hBo2; clear hb2 ho2 hg2 hBo2 hC hB)
  rw [show i * 5 + 2 + 1 = i * 5 + 3 from rfl, show i * 5 + 2 + 2 = i * 5 + 4 from rfl]
  obtain ⟨w3, hw3⟩ : ∃ w3, w3 = ((w2.setCell ⟨g, i * 5 + 2, none⟩ (.int .i64 1)).setCell ⟨g, i * 5 + 3, none⟩ (.int .i64 (-1))).setCell ⟨g, i * 5 + 4, none⟩ (.slice (some ⟨q, 0, none⟩) 1 d) := ⟨_, rfl⟩
  rw [← hw3]
  have hgr2 : w1.grownBy w2 (F kt).v.ownBlock := ⟨Hb2.out.os, Hb2.out.tape, Hb2.out.output, Hb2.out.size, fun k hk _ => Hb2.out.block k hk⟩
  have hF1 := HFW.out.grown kt hgr2 ⟨3, 1, .slice (some ⟨q, 0, none⟩) 1 d, 1, [.int .i64 n]⟩ Ho2.out (fun g' e => by
    simp only [Value.ownBlock, Option.some.injEq] at e
    subst e
    exact .inr Hg2.out)
  have hk0 : upR F kt ⟨3, 1, .slice (some ⟨q, 0, none⟩) 1 d, 1, [.int .i64 n]⟩ 0 = ⟨46, 5, .slice (some ⟨g, 0, none⟩) N c, N, bs⟩ := by rw [upR_off _ _ _ _ (fun e => hkt e.symm)]; exact H0.out
  obtain ⟨hF2, g2⟩ := hF1.put hk0 (i * 5 + 2) (.int .i64 1)
  obtain ⟨hF3, g3⟩ := hF2.put (upR_at _ _ _) (i * 5 + 3) (.int .i64 (-1))
  obtain ⟨hF4, g4⟩ := hF3.put (upR_at _ _ _) (i * 5 + 4) (.slice (some ⟨q, 0, none⟩) 1 d)
  rw [← hw3] at hF4 g4
  rw [upR_two, upR_two] at hF4
  have hgg : w2.grownBy w3 (some g) := ⟨g4.os.trans (g3.os.trans g2.os), g4.tape.trans (g3.tape.trans g2.tape), g4.output.trans (g3.output.trans g2.output), Nat.le_trans g2.size (Nat.le_trans g3.size g4.size), fun k hk hn => (g4.block k (by have := g2.size; have := g3.size; omega) hn).trans ((g3.block k (by have := g2.size; omega) hn).trans (g2.block k hk hn))⟩
  have hs2 := Hb2.out.size
  have hgl := Hgb.out
  have hzW := HzW.out
  have hE3 : EdC w3 E IV (.slice (some ⟨g, 0, none⟩) N c) := (hgg.block E (Nat.lt_of_lt_of_le HFW.out.el hs2) (fun e => by have := HFW.out.av 0; rw [H0.out] at this; exact this (by rw [e]; rfl))).trans ((Hb2.out.block E HFW.out.el).trans HEW.out)
  have hT3 : w3.heap[w.heap.size]? = _ := (hgg.block w.heap.size (by omega) (fun e => by injection e with e; have := Hgw.out; omega)).trans ((Hb2.out.block w.heap.size (by omega)).trans HT.out)
  have ht3 : w3.heap[t]? = _ := (hgg.block t (by have := Htl.out; omega) (fun e => htg (by injection e))).trans ((Hb2.out.block t (by have := Htl.out; omega)).trans HtW.out)
  have y2 := Lib.cell_of_heap hT3 2
  have y0 := Lib.cell_of_heap ht3 0
  have hd3 : Bd E base w w3 := ((Bd.of_below HbW.out hb).trans (Bd.of_below Hb2.out HbaW.out)).trans (Bd.of_grown hgg (fun g' e => by injection e with e; omega) (by have := HbaW.out; omega))
  have hk4 : upR (upR F kt ⟨3, 1, .slice (some ⟨q, 0, none⟩) 1 d, 1, [.int .i64 n]⟩) 0 ⟨46, 5, .slice (some ⟨g, 0, none⟩) N c, N, ((bs.set (i * 5 + 2) (.int .i64 1)).set (i * 5 + 3) (.int .i64 (-1))).set (i * 5 + 4) (.slice (some ⟨q, 0, none⟩) 1 d)⟩ kp = ⟨3, 1, PV, m, ps⟩ := by rw [upR_off _ _ _ _ hkp, upR_off _ _ _ _ hpt]; exact H4.out
  have hG := gain_any kp hkp E base N n g c m i IV PV _ ps _ w3 hE3 hF4 (upR_at _ _ _) hk4 hn (by rw [set_away (by omega), set_away (by omega), set_away (by omega)]; exact HP.out) (by have := HbaW.out; have := hgg.size; omega) hm
  have hN := fun A c x w => contains_nil A c x w
  have Hd3 := Lib.hid hd3
  clear hw3 hgr2 hF1 hk0 hF2 g2 hF3 g3 hF4 g4 hgg hs2 hgl hzW hE3 hT3 ht3 hd3 hk4 p2 tc0 tc1 tc2 k2 k3 k4 kf
  go_upto_region 5 with fail
  refine wp_loop_rounds 2 ?_
  rw [rounds_succ]
  go_wp2_with first
    | (go_at_call 24; refine (hN _ _ _ _).mono ?_; rintro e w4 ⟨rfl, rfl⟩)
    | (go_at_call 25; refine hG.mono ?_; rintro e w5 ⟨rfl, hd5, hE5, q2, d2, hF5⟩; have HD5 := Lib.hid (Hd3.out.trans hd5); have HE5 := Lib.hid hE5; have HF5 := Lib.hid hF5; clear hd5 hE5 hF5 hG)
  rw [rounds_succ]
  go_wp2
  go_end0
  exact ⟨rfl, HD5.out, HE5.out, q, d, q2, d2, HF5.out⟩
end Go.Proofs.Ytdjpjonikceadaa
