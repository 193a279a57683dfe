/-
  The runner: main is found.
  The runner: a program of main alone is begun.
  The runner's steps: a number, a print, a quotient by 0, and one that the fuel is short of.
-/
import Derived.Test.YtlgpbllkhbgppaaGreatDoorJn45
import Derived.Test.YtlgpbllkhbgppaaGreatDoorJn46
import Derived.StillTailTactics
namespace Go.Proofs.YtlgpbllkhbgppaaGreatDoor
set_option linter.unusedVariables false
set_option linter.unusedSimpArgs false
open Go.RowKit

set_option maxRecDepth 100000 in
set_option maxHeartbeats 4000000 in
theorem begin1_c (a : Int) (PA BA : Value) (r v : Int) (w : World) : Calls Tryz.prog 18 #[.agg #[.string ⟨#[109, 97, 105, 110]⟩, .int .i64 a, PA, .int .i64 r, BA, .int .i64 v]] w fun e w' => e = .returned (.bool true) ∧ Below w.heap.size w w' := by
  obtain ⟨W, hW, hbW, hzW, h0W⟩ := ch_one_al w #[.string ⟨#[109, 97, 105, 110]⟩, .int .i64 a, PA, .int .i64 r, BA, .int .i64 v] 64
  have x0 : W.cell? ⟨w.heap.size, 0, none⟩ = some (.string ⟨#[109, 97, 105, 110]⟩) := Lib.cell_of_heap h0W 0
  have HW := Lib.hid hW
  have HbW := Lib.hid hbW
  clear hW hbW hzW h0W
  go_enter Tryz.func18, Tryz.ntmps18
  go_upto_region 1 with fail
  rw [← HW.out]
  go_wp2
  go_ret
  exact ⟨by first | rfl | simp, HbW.out⟩
set_option maxRecDepth 100000 in
set_option maxHeartbeats 4000000 in
theorem index_main (fb fo c : Nat) (a : Int) (PA BA : Option Addr) (pn pc bn bc : Nat) (r v : Int) (w : World) (c0 : w.cell? ⟨fb, fo, none⟩ = some (.string ⟨#[109, 97, 105, 110]⟩)) (c1 : w.cell? ⟨fb, fo + 1, none⟩ = some (.int .i64 a)) (c2 : w.cell? ⟨fb, fo + 2, none⟩ = some (.slice PA pn pc)) (c3 : w.cell? ⟨fb, fo + 3, none⟩ = some (.int .i64 r)) (c4 : w.cell? ⟨fb, fo + 4, none⟩ = some (.slice BA bn bc)) (c5 : w.cell? ⟨fb, fo + 5, none⟩ = some (.int .i64 v)) :
    Calls Tryz.prog 17 #[.slice (some ⟨fb, fo, none⟩) 1 c, .func (.func 18) #[] #[]] w fun e w' => e = .returned (.int .i64 0) ∧ Below w.heap.size w w' := by
  have hB := begin1_c a (.slice PA pn pc) (.slice BA bn bc) r v w
  go_enter Tryz.func17, Tryz.ntmps17
  go_wp2
  refine wp_loop_rounds 1 ?_
  rw [rounds_succ]
  go_wp2_with (go_at_call 18; refine hB.mono ?_; rintro e w1 ⟨rfl, h1⟩; have H1 := Lib.hid h1; clear hB h1)
  go_ret
  exact ⟨rfl, H1.out⟩
end Go.Proofs.YtlgpbllkhbgppaaGreatDoor
namespace Go.Proofs.YtlgpbllkhbgppaaGreatDoor
set_option linter.unusedVariables false
set_option linter.unusedSimpArgs false
open Go.RowKit

set_option maxRecDepth 100000 in
set_option maxHeartbeats 16000000 in
theorem begin_main (l : List St) (hl : ∀ x ∈ l, inS x) (hlen : l.length ≤ 1099511627776) (hn : wSNs l ≤ 800000) (p fb fo c : Nat) (left a r v : Int) (PA BA : Option Addr) (pc bc : Nat) (S : Nat → Prop) (w : World) (hp : w.heap[p]? = some (.cells #[.slice none 0 0, .int .i64 left, .slice none 0 0, .int .i64 0, .int .i64 0, .int .i64 0, .int .i64 0, .int .i64 0, .int .i64 0, .slice none 0 0, .slice none 0 0, .int .i64 0, .slice none 0 0, .slice none 0 0, .int .i64 0] 43 (0, 0))) (c0 : w.cell? ⟨fb, fo, none⟩ = some (.string mainB)) (c1 : w.cell? ⟨fb, fo + 1, none⟩ = some (.int .i64 a)) (c2 : w.cell? ⟨fb, fo + 2, none⟩ = some (.slice PA 0 pc)) (c3 : w.cell? ⟨fb, fo + 3, none⟩ = some (.int .i64 r)) (c4 : w.cell? ⟨fb, fo + 4, none⟩ = some (.slice BA l.length bc)) (c5 : w.cell? ⟨fb, fo + 5, none⟩ = some (.int .i64 v)) (hR : RdSs w S BA 0 l) (hS : ∀ x, S x → x < w.heap.size) :
    Calls Tryz.prog 10 #[.pointer (some ⟨p, 0, none⟩), .agg #[.slice (some ⟨fb, fo, none⟩) 1 c]] w fun e w' => e = .returned (.tuple #[]) ∧ ∃ sp C gp cp g c', w'.heap[p]? = some (.cells #[.slice none 0 0, .int .i64 left, .slice none 0 0, .int .i64 0, .int .i64 0, .int .i64 0, .int .i64 0, .int .i64 0, .int .i64 1, .slice (some ⟨sp, 0, none⟩) (wSNs l + 2) C, .slice (some ⟨gp, 0, none⟩) 1 cp, .int .i64 0, .slice (some ⟨g, 0, none⟩) 1 c', .slice none 0 0, .int .i64 0] 43 (0, 0)) ∧ (∀ j u, (wSs l ++ [.int .i64 1, .int .i64 0, .int .i64 0, .int .i64 0] ++ [.int .i64 10, .int .i64 0, .int .i64 0, .int .i64 0])[j]? = some u → w'.cell? ⟨sp, j, none⟩ = some u) ∧ sp ≠ p ∧ sp < w'.heap.size ∧ But p w w' := by
  have hpl := heap_lt hp
  have hfl := World.block_lt_of_cell? w _ c0
  obtain ⟨W, hW, hbW, hzW, h0W⟩ := ch_one_al w #[.slice (some ⟨fb, fo, none⟩) 1 c] 24
  have k : ∀ j, W.cell? ⟨fb, j, none⟩ = w.cell? ⟨fb, j, none⟩ := fun j => hbW.cell (p := ⟨fb, j, none⟩) hfl
  have hI := index_main fb fo c a PA BA 0 pc l.length bc r v W ((k _).trans c0) ((k _).trans c1) ((k _).trans c2) ((k _).trans c3) ((k _).trans c4) ((k _).trans c5)
  have hWc : W.cell? ⟨w.heap.size, 0, none⟩ = some (.slice (some ⟨fb, fo, none⟩) 1 c) := Lib.cell_of_heap h0W 0
  have HW := Lib.hid hW
  have HbW := Lib.hid hbW
  have HzW := Lib.hid hzW
  have H0W := Lib.hid h0W
  clear hW hbW hzW h0W k
  go_enter Tryz.func10, Tryz.ntmps10
  go_upto_region 1 with fail
  rw [← HW.out]
  go_upto_region 4 with (go_at_call 17; refine hI.mono ?_; rintro e w2 ⟨rfl, h2⟩; have H2 := Lib.hid h2; clear h2 hI)
  obtain ⟨w3, hw3, hb3, hz3, h03⟩ := ch_one_al w2 #[.slice none 0 0, .slice none 0 0, .int .i64 0, (.map none), .int .i64 0, .slice none 0 0] 72
  go_upto_region 5 with fail
  rw [← hw3]
  have hww2 : Below w.heap.size w w2 := HbW.out.trans (H2.out.mono HbW.out.size)
  have z2 := H2.out.size
  have zW := HzW.out
  have up : ∀ b j, b < w.heap.size → w3.cell? ⟨b, j, none⟩ = w.cell? ⟨b, j, none⟩ := fun b j hb => (hb3.cell (p := ⟨b, j, none⟩) (by show b < _; omega)).trans (hww2.cell (p := ⟨b, j, none⟩) hb)
  have d0 := (up fb fo hfl).trans c0
  have d1 := (up fb (fo + 1) hfl).trans c1
  have d2 := (up fb (fo + 2) hfl).trans c2
  have d3 := (up fb (fo + 3) hfl).trans c3
  have d4 := (up fb (fo + 4) hfl).trans c4
  have d5 := (up fb (fo + 5) hfl).trans c5
  have dt : w3.cell? ⟨w.heap.size, 0, none⟩ = some (.slice (some ⟨fb, fo, none⟩) 1 c) := (hb3.cell (p := ⟨w.heap.size, 0, none⟩) (by show w.heap.size < _; omega)).trans ((H2.out.cell (p := ⟨w.heap.size, 0, none⟩) (by show w.heap.size < _; omega)).trans hWc)
  obtain ⟨w4, hw4, hb4, hz4, h04⟩ := ch_one_al w3 #[.string mainB, .int .i64 a, .slice PA 0 pc, .int .i64 r, .slice BA l.length bc, .int .i64 v] 64
  have hb34 : Below w2.heap.size w2 w4 := hb3.trans (hb4.mono (by omega))
  have hww4 : Below w.heap.size w w4 := hww2.trans (hb34.mono (by omega))
  have h4b : w4.heap[w2.heap.size]? = _ := (hb4.block w2.heap.size (by omega)).trans h03
  have hWri : Wri w4 w2.heap.size (w2.heap.size + 1) 0 [] 0 (.slice none 0 0) (.map none) 0 (.slice none 0 0) := ⟨none, 0, h4b, World.ownsRow_nil _ _ _ _⟩
  have hV : w4.cell? ⟨w2.heap.size, 0, none⟩ = some (.slice none 0 0) := Lib.cell_of_heap h4b 0
  have e0 : w4.cell? ⟨w3.heap.size, 0, none⟩ = some (.string mainB) := Lib.cell_of_heap h04 0
  have e1 := Lib.cell_of_heap h04 1
  have e2 := Lib.cell_of_heap h04 2
  have e3 := Lib.cell_of_heap h04 3
  have e4 := Lib.cell_of_heap h04 4
  have e5 := Lib.cell_of_heap h04 5
  have hFn := w_fn l hl hlen w2.heap.size (w2.heap.size + 1) 0 (.map none) (.slice none 0 0) S mainB a r v PA BA pc bc w4 (by omega) (by omega) hn hWri hV (fun x hx => by have := hS x hx; omega) (RdSs.keep (w' := w4) (fun q hq => hww4.cell (hS _ hq)) _ _ _ hR)
  have hno : ∀ x, ¬ isOwn w4 w2.heap.size x := fun x ⟨n', C', e⟩ => by rw [hV] at e; simp at e
  have Hno := Lib.hid hno
  have Hww4 := Lib.hid hww4
  have Hp := Lib.hid hp
  have Hz4 := Lib.hid hz4
  have Hz3 := Lib.hid hz3
  have hbp : (w2.heap.size : Nat) ≠ p := by omega
  have Hbp := Lib.hid hbp
  have Hsz := Lib.hid (show w.heap.size < w2.heap.size by omega)
  clear hno hww4 hp hz3 hz4 hw3 hb3 h03 hww2 z2 zW up c0 c1 c2 c3 c4 c5 hb4 h04 hb34 h4b hWri hV hR hS hl hlen hWc HW HbW HzW H0W H2
  go_wp2
  refine wp_loop_rounds 2 ?_
  rw [rounds_succ]
  go_upto_region 8 with fail
  rw [← hw4]
  clear hw4 d0 d1 d2 d3 d4 d5 dt
  go_upto_region 9 with (go_at_call 19; refine hFn.mono ?_; rintro e w5 ⟨rfl, h5, gp, cp, SL', h6, h7, V, C, h8, h9⟩; have HH := Lib.hid (And.intro h5 (And.intro h6 (And.intro h7 (And.intro h8 h9)))); clear h5 h6 h7 h8 h9 hFn)
  go_wp2
  rw [rounds_succ]
  go_upto_region 10 with fail
  obtain ⟨h5, h6, h7, h8, h9⟩ := HH.out
  obtain ⟨sp, rfl⟩ : ∃ sp, V = some ⟨sp, 0, none⟩ := by
    obtain ⟨g, cp9, e, -⟩ := h9.form (by omega)
    injection e with e1 _ _
    exact ⟨g, e1⟩
  have hp5 : w5.heap[p]? = some (.cells #[.slice none 0 0, .int .i64 left, .slice none 0 0, .int .i64 0, .int .i64 0, .int .i64 0, .int .i64 0, .int .i64 0, .int .i64 0, .slice none 0 0, .slice none 0 0, .int .i64 0, .slice none 0 0, .slice none 0 0, .int .i64 0] 43 (0, 0)) := (h5.far p (by have := Hww4.out.size; omega) (fun e => Hbp.out e.symm) (Hno.out p)).trans ((Hww4.out.block p hpl).trans Hp.out)
  have hgp : gp ≠ p := fun e => by
    have := Lib.cell_of_heap hp5 0
    rw [e] at h7
    rw [this] at h7
    simp at h7
  have hsp := h9.lt sp rfl
  have hspp : sp ≠ p := by have := Hsz.out; omega
  have q0 : w5.cell? ⟨w2.heap.size, 0, none⟩ = some (.slice (some ⟨sp, 0, none⟩) (wSNs l + 2) C) := Lib.cell_of_heap h8 0
  have q1 : w5.cell? ⟨w2.heap.size, 1, none⟩ = some (.slice (some ⟨gp, 0, none⟩) 1 cp) := Lib.cell_of_heap h8 1
  have p9 : w5.cell? ⟨p, 9, none⟩ = some (.slice none 0 0) := Lib.cell_of_heap hp5 9
  have p10 : w5.cell? ⟨p, 10, none⟩ = some (.slice none 0 0) := Lib.cell_of_heap hp5 10
  have pf := fun j => Lib.frozen_of_heap hp5 j
  have hb5 : But p w w5 := ⟨h5.bb.os.trans Hww4.out.os, h5.bb.tape.trans Hww4.out.tape, h5.bb.output.trans Hww4.out.output, Nat.le_trans Hww4.out.size h5.bb.size, fun x h1 h2 => (h5.far x (by have := Hww4.out.size; omega) (by have := Hsz.out; omega) (Hno.out x)).trans (Hww4.out.block x h1)⟩
  have hF : ∀ D2, D2 = ((w5.setCell ⟨p, 9, none⟩ (.slice (some ⟨sp, 0, none⟩) (wSNs l + 2) C)).setCell ⟨p, 10, none⟩ (.slice (some ⟨gp, 0, none⟩) 1 cp)) → ∀ w7 g c', w7.heap[p]? = some (.cells #[.slice none 0 0, .int .i64 left, .slice none 0 0, .int .i64 0, .int .i64 0, .int .i64 0, .int .i64 0, .int .i64 0, .int .i64 1, .slice (some ⟨sp, 0, none⟩) (wSNs l + 2) C, .slice (some ⟨gp, 0, none⟩) 1 cp, .int .i64 0, .slice (some ⟨g, 0, none⟩) 1 c', .slice none 0 0, .int .i64 0] 43 (0, 0)) → RK p none D2 w7 → ∃ sp C gp cp g c', w7.heap[p]? = some (.cells #[.slice none 0 0, .int .i64 left, .slice none 0 0, .int .i64 0, .int .i64 0, .int .i64 0, .int .i64 0, .int .i64 0, .int .i64 1, .slice (some ⟨sp, 0, none⟩) (wSNs l + 2) C, .slice (some ⟨gp, 0, none⟩) 1 cp, .int .i64 0, .slice (some ⟨g, 0, none⟩) 1 c', .slice none 0 0, .int .i64 0] 43 (0, 0)) ∧ (∀ j u, (wSs l ++ [.int .i64 1, .int .i64 0, .int .i64 0, .int .i64 0] ++ [.int .i64 10, .int .i64 0, .int .i64 0, .int .i64 0])[j]? = some u → w7.cell? ⟨sp, j, none⟩ = some u) ∧ sp ≠ p ∧ sp < w7.heap.size ∧ But p w w7 := fun D2 hD2 w7 g c' k1 k2 => by
    have e2 : But p w5 D2 := by rw [hD2]; exact ((But.refl p w5).setCell (p := ⟨p, 9, none⟩) (Or.inl rfl) _).setCell (p := ⟨p, 10, none⟩) (Or.inl rfl) _
    have e3 : But p D2 w7 := ⟨k2.os, k2.tape, k2.output, k2.size, fun x h1 h2 => k2.block x h1 h2 (fun e => by cases e)⟩
    have e4 := e2.trans e3
    refine ⟨sp, C, gp, cp, g, c', k1, fun j u hj => ?_, hspp, Nat.lt_of_lt_of_le hsp.2 e4.size, hb5.trans e4⟩
    have hc := h9.cells (g := sp) rfl j u hj
    refine (e4.cell (p := ⟨sp, j, none⟩) hsp.2 hspp).trans ?_
    rw [gr_add, Nat.zero_add] at hc
    exact hc
  have hEn : ∀ D2, D2 = ((w5.setCell ⟨p, 9, none⟩ (.slice (some ⟨sp, 0, none⟩) (wSNs l + 2) C)).setCell ⟨p, 10, none⟩ (.slice (some ⟨gp, 0, none⟩) 1 cp)) → Calls Tryz.prog 20 #[.pointer (some ⟨p, 0, none⟩), .int .i64 0, .int .i64 0] D2 fun e w' => e = .returned (.tuple #[]) ∧ ∃ g c', w'.heap[p]? = some (.cells #[.slice none 0 0, .int .i64 left, .slice none 0 0, .int .i64 0, .int .i64 0, .int .i64 0, .int .i64 0, .int .i64 0, .int .i64 1, .slice (some ⟨sp, 0, none⟩) (wSNs l + 2) C, .slice (some ⟨gp, 0, none⟩) 1 cp, .int .i64 0, .slice (some ⟨g, 0, none⟩) 1 c', .slice none 0 0, .int .i64 0] 43 (0, 0)) ∧ RK p none D2 w' := fun D2 hD2 => by
    have e1 : D2.heap[p]? = some (.cells #[.slice none 0 0, .int .i64 left, .slice none 0 0, .int .i64 0, .int .i64 0, .int .i64 0, .int .i64 0, .int .i64 0, .int .i64 0, .slice (some ⟨sp, 0, none⟩) (wSNs l + 2) C, .slice (some ⟨gp, 0, none⟩) 1 cp, .int .i64 0, .slice none 0 0, .slice none 0 0, .int .i64 0] 43 (0, 0)) := by rw [hD2]; exact heap_set (heap_set hp5 9 _) 10 _
    have e2 : D2.cell? ⟨gp, 0, none⟩ = some (.int .i64 0) := by rw [hD2]; exact (set_far hgp).trans ((set_far hgp).trans h7)
    exact enter_c p D2.heap.size gp cp left _ D2 e1 e2 hgp (heap_lt e1) (Nat.le_refl _)
  have HEn := Lib.hid hEn
  have HF := Lib.hid hF
  clear h5 h6 h7 h8 h9 hp5 hb5 hF hEn HH Hno Hww4 Hp Hz4 Hz3 hsp
  obtain ⟨D2, hD2⟩ : ∃ Z, Z = (w5.setCell ⟨p, 9, none⟩ (.slice (some ⟨sp, 0, none⟩) (wSNs l + 2) C)).setCell ⟨p, 10, none⟩ (.slice (some ⟨gp, 0, none⟩) 1 cp) := ⟨_, rfl⟩
  have hen := HEn.out D2 hD2
  have HD2 := Lib.hid hD2
  have hbp := Hbp.out
  clear hD2
  go_upto_region 11 with fail
  rw [← HD2.out]
  clear p9 p10 pf
  go_wp2_with (go_at_call 20; refine hen.mono ?_; rintro e w7 ⟨rfl, g, c', h1, h2⟩; have HE := Lib.hid (And.intro h1 h2); clear h1 h2)
  go_end0
  exact ⟨rfl, HF.out D2 HD2.out w7 _ _ HE.out.1 HE.out.2⟩

end Go.Proofs.YtlgpbllkhbgppaaGreatDoor
namespace Go.Proofs.YtlgpbllkhbgppaaGreatDoor
set_option linter.unusedVariables false
set_option linter.unusedSimpArgs false
open Go.RowKit

theorem infoL64 : (Tryz.prog.info? 2).map (fun i => (i.zero, i.size, i.bytes)) = some (some (.int .i64 0), 1, 8) := by kernel_rfl
theorem RK.of_but {p : Nat} {row : Option Nat} {w w' : World} (h : But p w w') : RK p row w w' := ⟨h.os, h.tape, h.output, h.size, fun k h1 h2 _ => h.block k h1 h2⟩
theorem RK.after {p : Nat} {row : Option Nat} {a w w' : World} (h : But p a w) (k : RK p row w w') : RK p row a w' :=
  ⟨k.os.trans h.os, k.tape.trans h.tape, k.output.trans h.output, Nat.le_trans h.size k.size, fun x h1 h2 h3 => (k.block x (Nat.lt_of_lt_of_le h1 h.size) h2 h3).trans (h.block x h1 h2)⟩
theorem RK.cell {p : Nat} {row : Option Nat} {w w' : World} (h : RK p row w w') {a : Addr} (h1 : a.block < w.heap.size) (h2 : a.block ≠ p) (h3 : row ≠ some a.block) : w'.cell? a = w.cell? a := World.cell?_of_block (h.block _ h1 h2 h3)
set_option maxRecDepth 100000 in
set_option maxHeartbeats 8000000 in
/-- The fuel does not suffice for the step. -/
theorem step_short (p sp N C i : Nat) (left f e1 e2 e3 e4 e5 e6 bs : Int) (inn SS CA : Value) (w : World) (EV ST : Value) (d : Int) (hp : w.heap[p]? = some (.cells #[inn, .int .i64 left, EV, .int .i64 e1, .int .i64 e2, .int .i64 e3, .int .i64 e4, .int .i64 e5, .int .i64 e6, .slice (some ⟨sp, 0, none⟩) N C, SS, .int .i64 (i : Int), CA, ST, .int .i64 bs] 43 (0, 0))) (hi : i < N) (hN : N ≤ 1000000) (hsp : sp ≠ p) (hsl : sp < w.heap.size) (x0 : w.cell? ⟨sp, i * 4, none⟩ = some (.int .i64 d)) (x1 : w.cell? ⟨sp, i * 4 + 1, none⟩ = some (.int .i64 f)) (hfl : left < f) :
    Calls Tryz.prog 11 #[.pointer (some ⟨p, 0, none⟩)] w fun e w' => e = endE 0 0 ∧ w'.heap[p]? = some (.cells #[inn, .int .i64 0, EV, .int .i64 e1, .int .i64 e2, .int .i64 e3, .int .i64 e4, .int .i64 e5, .int .i64 e6, .slice (some ⟨sp, 0, none⟩) N C, SS, .int .i64 ((i : Int) + 1), CA, ST, .int .i64 bs] 43 (0, 0)) ∧ But p w w' := by
  have hpl := heap_lt hp
  obtain ⟨w1, hw1⟩ : ∃ w1, w1 = (w.setCell ⟨p, 11, none⟩ (.int .i64 ((i : Int) + 1))).drew := ⟨_, rfl⟩
  have hp1 : w1.heap[p]? = some (.cells #[inn, .int .i64 left, EV, .int .i64 e1, .int .i64 e2, .int .i64 e3, .int .i64 e4, .int .i64 e5, .int .i64 e6, .slice (some ⟨sp, 0, none⟩) N C, SS, .int .i64 ((i : Int) + 1), CA, ST, .int .i64 bs] 43 (0, 0)) := by rw [hw1]; exact heap_set hp 11 _
  have hb1 : But p w w1 := by rw [hw1]; exact ((But.refl p w).setCell (p := ⟨p, 11, none⟩) (Or.inl rfl) _).drew
  have c9 : w.drew.cell? ⟨p, 9, none⟩ = some (.slice (some ⟨sp, 0, none⟩) N C) := Lib.cell_of_heap hp 9
  have c11 : w.drew.cell? ⟨p, 11, none⟩ = some (.int .i64 i) := Lib.cell_of_heap hp 11
  have f11 := Lib.frozen_of_heap (w := w.drew) hp 11
  have hi0 : (0 : Int) ≤ i := by omega
  have hi1 : (i : Int) < N := by omega
  have y1 : w1.cell? ⟨sp, i * 4 + 1, none⟩ = some (.int .i64 f) := (hb1.cell (p := ⟨sp, i * 4 + 1, none⟩) hsl hsp).trans x1
  have hT := take_short p left f w1 (Lib.cell_of_heap hp1 1) (Lib.frozen_of_heap hp1 1) hfl
  have hE : (w1.setCell ⟨p, 1, none⟩ (.int .i64 0)).heap[p]? = some (.cells #[inn, .int .i64 0, EV, .int .i64 e1, .int .i64 e2, .int .i64 e3, .int .i64 e4, .int .i64 e5, .int .i64 e6, .slice (some ⟨sp, 0, none⟩) N C, SS, .int .i64 ((i : Int) + 1), CA, ST, .int .i64 bs] 43 (0, 0)) := heap_set hp1 1 _
  have hbE : But p w (w1.setCell ⟨p, 1, none⟩ (.int .i64 0)) := hb1.setCell (p := ⟨p, 1, none⟩) (Or.inl rfl) _
  have Hw1 := Lib.hid hw1
  have HE := Lib.hid (And.intro hE hbE)
  clear hw1 hE hbE hb1 hp hp1 x0 x1
  go_enter Tryz.func11, Tryz.ntmps11
  go_upto_region 0 with fail
  go_still_tail 9, (by kernel_rfl)
  change wpList _ _ _ _ _ w.drew
  go_upto_region 2 with fail
  rw [← Hw1.out]
  go_wp2_with (go_at_call 21; refine hT.mono ?_; rintro e w3 ⟨rfl, rfl⟩; unfold endE)
  exact ⟨rfl, rfl, HE.out⟩
set_option maxRecDepth 100000 in
set_option maxHeartbeats 8000000 in
/-- A number is laid on the stack. -/
theorem step_number (p base sp N C i n c : Nat) (left f v e1 e2 e3 e4 e5 e6 bs : Int) (A : Option Addr) (xs : List Value) (inn EV SS CA : Value) (w : World) (hp : w.heap[p]? = some (.cells #[inn, .int .i64 left, EV, .int .i64 e1, .int .i64 e2, .int .i64 e3, .int .i64 e4, .int .i64 e5, .int .i64 e6, .slice (some ⟨sp, 0, none⟩) N C, SS, .int .i64 (i : Int), CA, .slice A n c, .int .i64 bs] 43 (0, 0))) (hi : i < N) (hN : N ≤ 1000000) (hsp : sp ≠ p) (hsl : sp < w.heap.size) (x0 : w.cell? ⟨sp, i * 4, none⟩ = some (.int .i64 1)) (x1 : w.cell? ⟨sp, i * 4 + 1, none⟩ = some (.int .i64 f)) (x2 : w.cell? ⟨sp, i * 4 + 2, none⟩ = some (.int .i64 v)) (hf : 0 ≤ f) (hfl : f ≤ left) (hl : left ≤ 1000000) (ho : w.ownsRow base 82 2 (.slice A n c) n xs) (hpb : p < base) (hb : base ≤ w.heap.size) (hn : n ≤ 1000) :
    Calls Tryz.prog 11 #[.pointer (some ⟨p, 0, none⟩)] w fun e w' => e = .returned (.tuple #[]) ∧ ∃ g c', w'.heap[p]? = some (.cells #[inn, .int .i64 (left - f), EV, .int .i64 e1, .int .i64 e2, .int .i64 e3, .int .i64 e4, .int .i64 e5, .int .i64 e6, .slice (some ⟨sp, 0, none⟩) N C, SS, .int .i64 ((i : Int) + 1), CA, .slice (some ⟨g, 0, none⟩) (n + 1) c', .int .i64 bs] 43 (0, 0)) ∧ w'.ownsRow base 82 2 (.slice (some ⟨g, 0, none⟩) (n + 1) c') (n + 1) (xs ++ [.int .i64 v, .pointer none]) ∧ RK p (Value.slice A n c).ownBlock w w' := by
  have hpl := heap_lt hp
  obtain ⟨w1, hw1⟩ : ∃ w1, w1 = (w.setCell ⟨p, 11, none⟩ (.int .i64 ((i : Int) + 1))).drew := ⟨_, rfl⟩
  have hp1 : w1.heap[p]? = some (.cells #[inn, .int .i64 left, EV, .int .i64 e1, .int .i64 e2, .int .i64 e3, .int .i64 e4, .int .i64 e5, .int .i64 e6, .slice (some ⟨sp, 0, none⟩) N C, SS, .int .i64 ((i : Int) + 1), CA, .slice A n c, .int .i64 bs] 43 (0, 0)) := by rw [hw1]; exact heap_set hp 11 _
  have hb1 : But p w w1 := by rw [hw1]; exact ((But.refl p w).setCell (p := ⟨p, 11, none⟩) (Or.inl rfl) _).drew
  have c9 : w.drew.cell? ⟨p, 9, none⟩ = some (.slice (some ⟨sp, 0, none⟩) N C) := Lib.cell_of_heap hp 9
  have c11 : w.drew.cell? ⟨p, 11, none⟩ = some (.int .i64 i) := Lib.cell_of_heap hp 11
  have f11 := Lib.frozen_of_heap (w := w.drew) hp 11
  have hi0 : (0 : Int) ≤ i := by omega
  have hi1 : (i : Int) < N := by omega
  have y1 : w1.cell? ⟨sp, i * 4 + 1, none⟩ = some (.int .i64 f) := (hb1.cell (p := ⟨sp, i * 4 + 1, none⟩) hsl hsp).trans x1
  have hT := take_ok p left f w1 (Lib.cell_of_heap hp1 1) (Lib.frozen_of_heap hp1 1) hfl hf (by omega)
  obtain ⟨w2, hw2⟩ : ∃ w2, w2 = w1.setCell ⟨p, 1, none⟩ (.int .i64 (left - f)) := ⟨_, rfl⟩
  rw [← hw2] at hT
  have hp2 : w2.heap[p]? = some (.cells #[inn, .int .i64 (left - f), EV, .int .i64 e1, .int .i64 e2, .int .i64 e3, .int .i64 e4, .int .i64 e5, .int .i64 e6, .slice (some ⟨sp, 0, none⟩) N C, SS, .int .i64 ((i : Int) + 1), CA, .slice A n c, .int .i64 bs] 43 (0, 0)) := by rw [hw2]; exact heap_set hp1 1 _
  have hb2 : But p w w2 := by rw [hw2]; exact hb1.setCell (p := ⟨p, 1, none⟩) (Or.inl rfl) _
  have z2 : w2.heap.size = w.heap.size := by rw [hw2, set_size, hw1]; exact set_size _ _ _ _
  have far : ∀ j, w2.cell? ⟨sp, j, none⟩ = w.cell? ⟨sp, j, none⟩ := fun j => hb2.cell (p := ⟨sp, j, none⟩) hsl hsp
  have y0 := (far _).trans x0
  have y2 := (far _).trans x2
  have hP := push_c p base n c A xs v none _ w2 hp2 rfl (own_but ho hb2 hpb) hpb (by omega) hn
  have Hw1 := Lib.hid hw1
  have HB2 := Lib.hid hb2
  clear hw1 hw2 hb1 hb2 hp hp1 hp2 x0 x1 x2 far ho
  go_enter Tryz.func11, Tryz.ntmps11
  go_upto_region 0 with fail
  go_still_tail 9, (by kernel_rfl)
  change wpList _ _ _ _ _ w.drew
  go_upto_region 2 with fail
  rw [← Hw1.out]
  go_wp2_with (first | (go_at_call 21; refine hT.mono ?_; rintro e w3 ⟨rfl, rfl⟩) | (go_at_call 22; refine hP.mono ?_; rintro e w3 ⟨rfl, g, c', h1, h2, h3⟩; have HE := Lib.hid (And.intro h1 (And.intro h2 h3)); clear h1 h2 h3))
  go_end0
  exact ⟨rfl, g, c', HE.out.1, HE.out.2.1, RK.after HB2.out HE.out.2.2⟩
set_option maxRecDepth 100000 in
set_option maxHeartbeats 8000000 in
theorem reckon_print (p sb n c sp k : Nat) (v left e1 e2 e3 e4 e5 e6 bs nx : Int) (inn SPv SS CA : Value) (w : World) (hp : w.heap[p]? = some (.cells #[inn, .int .i64 left, .slice none 0 0, .int .i64 e1, .int .i64 e2, .int .i64 e3, .int .i64 e4, .int .i64 e5, .int .i64 e6, SPv, SS, .int .i64 nx, CA, .slice (some ⟨sb, 0, none⟩) (n + 1) c, .int .i64 bs] 43 (0, 0))) (hd : w.cell? ⟨sp, k, none⟩ = some (.int .i64 19)) (hc : n + 1 ≤ c) (hn : n ≤ 1000000) (hsb : sb < w.heap.size) (h0 : w.cell? ⟨sb, n * 2, none⟩ = some (.int .i64 v)) (h1 : w.cell? ⟨sb, n * 2 + 1, none⟩ = some (.pointer none)) :
    Calls Tryz.prog 27 #[.pointer (some ⟨p, 0, none⟩), .pointer (some ⟨sp, k, none⟩)] w fun e w' => e = .returned (.tuple #[]) ∧ ∃ g c', w'.heap[p]? = some (.cells #[inn, .int .i64 left, .slice (some ⟨g, 0, none⟩) 1 c', .int .i64 e1, .int .i64 e2, .int .i64 e3, .int .i64 e4, .int .i64 e5, .int .i64 e6, SPv, SS, .int .i64 nx, CA, .slice (some ⟨sb, 0, none⟩) n c, .int .i64 bs] 43 (0, 0)) ∧ w.heap.size ≤ g ∧ w'.cell? ⟨g, 0, none⟩ = some (.int .i64 v) ∧ But p w w' := by
  have hpl := heap_lt hp
  have hG := pop_c p sb n c v _ 43 w.drew hp rfl hc hn hsb h0 h1
  have hfl : ∀ (x y : Value) (w : World), (Instr.field 82 (.agg #[x, y]) 0).run Tryz.prog w = .ok x w := fun x y w => field_val x y w
  obtain ⟨i0, hi, hz0, hz1, hz2⟩ := info_parts infoL64
  have Hi := Lib.hid hi
  have Hz0 := Lib.hid hz0
  have Hz1 := Lib.hid hz1
  have Hz2 := Lib.hid hz2
  have HO : Hid (∀ u ∈ ([.int .i64 v] : List Value), u.oneCell' = true) := Lib.hid (by
    intro u hu
    simp only [List.mem_cons, List.not_mem_nil, or_false] at hu
    rcases hu with rfl
    rfl)
  have Hp := Lib.hid hp
  clear hi hz0 hz1 hz2 hp h0 h1
  go_enter Tryz.func27, Tryz.ntmps27
  go_upto_region 20 with fail
  refine wp_region_noPanic ?_
  refine wp_region_held_drew (S := fun u : World => True) (by kernel_rfl) trivial (fun hHeld => ?_)
  refine wpAnyH_take (i := 0) (v := ?_) rfl (by kernel_rfl) (by kernel_rfl) (by kernel_rfl) (fun _ _ _ h => h) (Or.inl ⟨by kernel_rfl, ?_⟩) (by assumption) ?_
  rotate_left
  · (intro w hSw; (try dsimp only at hSw); first | (go_simp; done) | (go_simp; with_reducible rfl))
  try simp only [Act.put, List.setIfInBounds_toArray, List.set_cons_zero, List.set_cons_succ]
  refine wpAnyH_take (i := 1) (v := ?_) rfl (by kernel_rfl) (by kernel_rfl) (by kernel_rfl) (fun _ _ _ h => h) (Or.inl ⟨by kernel_rfl, ?_⟩) (by assumption) ?_
  rotate_left
  · (intro w hSw; (try dsimp only at hSw); first | (go_simp; done) | (go_simp; with_reducible rfl))
  try simp only [Act.put, List.setIfInBounds_toArray, List.set_cons_zero, List.set_cons_succ]
  refine wpAnyH_take (i := 2) (v := ?_) rfl (by kernel_rfl) (by kernel_rfl) (by kernel_rfl) (fun _ _ _ h => h) (Or.inl ⟨by kernel_rfl, ?_⟩) (by assumption) ?_
  rotate_left
  · (intro w hSw; (try dsimp only at hSw); first | (go_simp; done) | (go_simp; with_reducible rfl))
  try simp only [Act.put, List.setIfInBounds_toArray, List.set_cons_zero, List.set_cons_succ]
  refine wpAnyH_take (i := 3) (v := ?_) rfl (by kernel_rfl) (by kernel_rfl) (by kernel_rfl) (fun _ _ _ h => h) (Or.inl ⟨by kernel_rfl, ?_⟩) (by assumption) ?_
  rotate_left
  · (intro w hSw; (try dsimp only at hSw); first | (go_simp; done) | (go_simp; with_reducible rfl))
  try simp only [Act.put, List.setIfInBounds_toArray, List.set_cons_zero, List.set_cons_succ]
  refine wpAnyH_take (i := 4) (v := ?_) rfl (by kernel_rfl) (by kernel_rfl) (by kernel_rfl) (fun _ _ _ h => h) (Or.inl ⟨by kernel_rfl, ?_⟩) (by assumption) ?_
  rotate_left
  · (intro w hSw; (try dsimp only at hSw); first | (go_simp; done) | (go_simp; with_reducible rfl))
  try simp only [Act.put, List.setIfInBounds_toArray, List.set_cons_zero, List.set_cons_succ]
  refine wpAnyH_take (i := 6) (v := ?_) rfl (by kernel_rfl) (by kernel_rfl) (by kernel_rfl) (fun _ _ _ h => h) (Or.inl ⟨by kernel_rfl, ?_⟩) (by assumption) ?_
  rotate_left
  · (intro w hSw; (try dsimp only at hSw); first | (go_simp; done) | (go_simp; with_reducible rfl))
  try simp only [Act.put, List.setIfInBounds_toArray, List.set_cons_zero, List.set_cons_succ]
  refine wpAnyH_ready (rs := [5, 7]) (by kernel_rfl) (by simp) ?_
  refine AllReadyH.cons rfl (fun K hK => ?_) (AllReadyH.cons rfl (fun K hK => ?_) (AllReadyH.nil))
  · have s2 : w.drew.cell? ⟨p, 2, none⟩ = some (.slice none 0 0) := Lib.cell_of_heap Hp.out 2
    go_simp
    refine hK.out _ _ ?_ (fun hHeld => ?_)
    · ((try dsimp only); try trivial)
    clear hK K
    try simp only [Act.put, List.setIfInBounds_toArray, List.set_cons_zero, List.set_cons_succ]
    refine wpAnyH_ready (rs := [7]) (by kernel_rfl) (by simp) ?_
    refine AllReadyH.cons rfl (fun K hK => ?_) (AllReadyH.nil)
    have hs1 : True := trivial
    go_simp
    refine hG.mono ?_
    rintro e w1 ⟨rfl, hb1, hh1⟩
    have Hb1 := Lib.hid hb1
    have Hh1 := Lib.hid (show w1.heap[p]? = some (.cells #[inn, .int .i64 left, .slice none 0 0, .int .i64 e1, .int .i64 e2, .int .i64 e3, .int .i64 e4, .int .i64 e5, .int .i64 e6, SPv, SS, .int .i64 nx, CA, .slice (some ⟨sb, 0, none⟩) n c, .int .i64 bs] 43 (0, 0)) from hh1)
    clear hG hb1 hh1
    try dsimp only
    refine hK.out _ _ ?_ (fun hHeld => ?_)
    · ((try dsimp only); try trivial)
    clear hK K
    try simp only [Act.put, List.setIfInBounds_toArray, List.set_cons_zero, List.set_cons_succ]
    refine wpAnyH_take (i := 8) (v := ?_) rfl (by kernel_rfl) (by kernel_rfl) (by kernel_rfl) (fun _ _ _ h => h) (Or.inl ⟨by kernel_rfl, ?_⟩) (by assumption) ?_
    rotate_left
    · (intro w hSw; (try dsimp only at hSw); first | (go_simp; done) | (go_simp; with_reducible rfl))
    try simp only [Act.put, List.setIfInBounds_toArray, List.set_cons_zero, List.set_cons_succ]
    refine wpAnyH_ready (rs := [9]) (by kernel_rfl) (by simp) ?_
    refine AllReadyH.cons rfl (fun K hK => ?_) (AllReadyH.nil)
    go_simp
    have HbZ := Lib.hid (Hb1.out.alloc (.cells #[.int .i64 v] 2))
    have HZ := Lib.hid ((Below.block ((Below.refl w1.heap.size w1).alloc (Nat.le_refl _) (.cells #[.int .i64 v] 2)) p (heap_lt Hh1.out)).trans Hh1.out)
    refine hK.out _ _ ?_ (fun hHeld => ?_)
    · ((try dsimp only); try trivial)
    clear hK K
    try simp only [Act.put, List.setIfInBounds_toArray, List.set_cons_zero, List.set_cons_succ]
    refine wpAnyH_ready (rs := [10]) (by kernel_rfl) (by simp) ?_
    refine AllReadyH.cons rfl (fun K hK => ?_) (AllReadyH.nil)
    have HNW := Lib.hid (World.news_of_block (w := (w1.alloc (.cells #[.int .i64 v] 2))) (heap_alloc_new w1 (.cells #[.int .i64 v] 2)))
    refine step_append_lies _ rfl (.tmp 103) (.tmp 107) 27 rfl w.heap.size 2 i0 (.int .i64 0) 1 8 Tryz.underlying27 Hi.out Hz0.out Hz1.out Hz2.out rfl (by decide) (.slice none 0 0) 0 [] (by simp [Act.eval, Act.put]) (World.ownsRow_nil _ _ _ _) ⟨w1.heap.size, 0, none⟩ 1 1 [.int .i64 v] (by simp [Act.eval, Act.put]) rfl HNW.out HO.out (by decide) (by unfold maxLen; omega) (by omega) (Nat.le_trans (Hb1.out.alloc (.cells #[.int .i64 v] 2)).size (Nat.le_refl _)) _ rfl ?_
    intro g cap w5 hown5 hgrow hat hlt5
    have h5 : w5.heap[p]? = some (.cells #[inn, .int .i64 left, .slice none 0 0, .int .i64 e1, .int .i64 e2, .int .i64 e3, .int .i64 e4, .int .i64 e5, .int .i64 e6, SPv, SS, .int .i64 nx, CA, .slice (some ⟨sb, 0, none⟩) n c, .int .i64 bs] 43 (0, 0)) := (hgrow.block p (heap_lt HZ.out) (fun e => by cases e)).trans HZ.out
    have y2 : w5.cell? ⟨p, 2, none⟩ = some (.slice none 0 0) := Lib.cell_of_heap h5 2
    have yf5 := Lib.frozen_of_heap h5 2
    have H5 := Lib.hid h5
    have Hown := Lib.hid hown5
    have Hgr := Lib.hid hgrow
    clear h5 hown5 hgrow hat hlt5 HNW
    refine hK.out _ _ ?_ (fun hHeld => ?_)
    · ((try dsimp only); try trivial)
    clear hK K
    try simp only [Act.put, List.setIfInBounds_toArray, List.set_cons_zero, List.set_cons_succ]
    refine wpAnyH_take (i := 11) (v := ?_) rfl (by kernel_rfl) (by kernel_rfl) (by kernel_rfl) (fun _ _ _ h => h) (Or.inl ⟨by kernel_rfl, ?_⟩) (by assumption) ?_
    rotate_left
    · (intro w hSw; (try dsimp only at hSw); first | (go_simp; done) | (go_simp; with_reducible rfl))
    try simp only [Act.put, List.setIfInBounds_toArray, List.set_cons_zero, List.set_cons_succ]
    refine wpAnyH_take (i := 12) (v := ?_) rfl (by kernel_rfl) (by kernel_rfl) (by kernel_rfl) (fun _ _ _ h => h) (Or.inl ⟨by kernel_rfl, ?_⟩) (by assumption) ?_
    rotate_left
    · (intro w hSw; (try dsimp only at hSw); first | (go_simp; done) | (go_simp; with_reducible rfl))
    try simp only [Act.put, List.setIfInBounds_toArray, List.set_cons_zero, List.set_cons_succ]
    refine wpAnyH_take (i := 13) (v := ?_) rfl (by kernel_rfl) (by kernel_rfl) (by kernel_rfl) (fun _ _ _ h => h) (Or.inl ⟨by kernel_rfl, ?_⟩) (by assumption) ?_
    rotate_left
    · (intro w hSw; (try dsimp only at hSw); first | (go_simp; done) | (go_simp; with_reducible rfl))
    try simp only [Act.put, List.setIfInBounds_toArray, List.set_cons_zero, List.set_cons_succ]
    refine wpAnyH_ready (rs := [14]) (by kernel_rfl) (by simp) ?_
    refine AllReadyH.cons rfl (fun K hK => ?_) (AllReadyH.nil)
    go_simp
    refine hK.out _ _ ?_ (fun hHeld => ?_)
    · ((try dsimp only); try trivial)
    clear hK K
    try simp only [Act.put, List.setIfInBounds_toArray, List.set_cons_zero, List.set_cons_succ]
    refine wpAnyH_done (by kernel_rfl) ?_ _
    refine NoPanic.normal ?_
    go_wp2
    go_end0
    have hg := Hown.out.lt g rfl
    have hgp : g ≠ p := by omega
    have hc5 := Hown.out.cellAt 0 (by omega)
    refine ⟨rfl, g, cap, heap_set H5.out 2 _, hg.1, (set_far hgp).trans (hc5.trans rfl), ?_⟩
    exact ((((But.refl p w).drew.trans HbZ.out).trans ⟨Hgr.out.os, Hgr.out.tape, Hgr.out.output, Hgr.out.size, fun k h1 h2 => Hgr.out.block k h1 (fun e => by cases e)⟩).setCell (p := ⟨p, 2, none⟩) (Or.inl rfl) _)
  · have hs1 : True := trivial
    go_simp
    refine hG.mono ?_
    rintro e w1 ⟨rfl, hb1, hh1⟩
    have Hb1 := Lib.hid hb1
    have Hh1 := Lib.hid (show w1.heap[p]? = some (.cells #[inn, .int .i64 left, .slice none 0 0, .int .i64 e1, .int .i64 e2, .int .i64 e3, .int .i64 e4, .int .i64 e5, .int .i64 e6, SPv, SS, .int .i64 nx, CA, .slice (some ⟨sb, 0, none⟩) n c, .int .i64 bs] 43 (0, 0)) from hh1)
    clear hG hb1 hh1
    try dsimp only
    refine hK.out _ _ ?_ (fun hHeld => ?_)
    · ((try dsimp only); try trivial)
    clear hK K
    try simp only [Act.put, List.setIfInBounds_toArray, List.set_cons_zero, List.set_cons_succ]
    refine wpAnyH_take (i := 8) (v := ?_) rfl (by kernel_rfl) (by kernel_rfl) (by kernel_rfl) (fun _ _ _ h => h) (Or.inl ⟨by kernel_rfl, ?_⟩) (by assumption) ?_
    rotate_left
    · (intro w hSw; (try dsimp only at hSw); first | (go_simp; done) | (go_simp; with_reducible rfl))
    try simp only [Act.put, List.setIfInBounds_toArray, List.set_cons_zero, List.set_cons_succ]
    refine wpAnyH_ready (rs := [5, 9]) (by kernel_rfl) (by simp) ?_
    refine AllReadyH.cons rfl (fun K hK => ?_) (AllReadyH.cons rfl (fun K hK => ?_) (AllReadyH.nil))
    · have s2 : w1.cell? ⟨p, 2, none⟩ = some (.slice none 0 0) := Lib.cell_of_heap Hh1.out 2
      go_simp
      refine hK.out _ _ ?_ (fun hHeld => ?_)
      · ((try dsimp only); try trivial)
      clear hK K
      try simp only [Act.put, List.setIfInBounds_toArray, List.set_cons_zero, List.set_cons_succ]
      refine wpAnyH_ready (rs := [9]) (by kernel_rfl) (by simp) ?_
      refine AllReadyH.cons rfl (fun K hK => ?_) (AllReadyH.nil)
      go_simp
      have HbZ := Lib.hid (Hb1.out.alloc (.cells #[.int .i64 v] 2))
      have HZ := Lib.hid ((Below.block ((Below.refl w1.heap.size w1).alloc (Nat.le_refl _) (.cells #[.int .i64 v] 2)) p (heap_lt Hh1.out)).trans Hh1.out)
      refine hK.out _ _ ?_ (fun hHeld => ?_)
      · ((try dsimp only); try trivial)
      clear hK K
      try simp only [Act.put, List.setIfInBounds_toArray, List.set_cons_zero, List.set_cons_succ]
      refine wpAnyH_ready (rs := [10]) (by kernel_rfl) (by simp) ?_
      refine AllReadyH.cons rfl (fun K hK => ?_) (AllReadyH.nil)
      have HNW := Lib.hid (World.news_of_block (w := (w1.alloc (.cells #[.int .i64 v] 2))) (heap_alloc_new w1 (.cells #[.int .i64 v] 2)))
      refine step_append_lies _ rfl (.tmp 103) (.tmp 107) 27 rfl w.heap.size 2 i0 (.int .i64 0) 1 8 Tryz.underlying27 Hi.out Hz0.out Hz1.out Hz2.out rfl (by decide) (.slice none 0 0) 0 [] (by simp [Act.eval, Act.put]) (World.ownsRow_nil _ _ _ _) ⟨w1.heap.size, 0, none⟩ 1 1 [.int .i64 v] (by simp [Act.eval, Act.put]) rfl HNW.out HO.out (by decide) (by unfold maxLen; omega) (by omega) (Nat.le_trans (Hb1.out.alloc (.cells #[.int .i64 v] 2)).size (Nat.le_refl _)) _ rfl ?_
      intro g cap w5 hown5 hgrow hat hlt5
      have h5 : w5.heap[p]? = some (.cells #[inn, .int .i64 left, .slice none 0 0, .int .i64 e1, .int .i64 e2, .int .i64 e3, .int .i64 e4, .int .i64 e5, .int .i64 e6, SPv, SS, .int .i64 nx, CA, .slice (some ⟨sb, 0, none⟩) n c, .int .i64 bs] 43 (0, 0)) := (hgrow.block p (heap_lt HZ.out) (fun e => by cases e)).trans HZ.out
      have y2 : w5.cell? ⟨p, 2, none⟩ = some (.slice none 0 0) := Lib.cell_of_heap h5 2
      have yf5 := Lib.frozen_of_heap h5 2
      have H5 := Lib.hid h5
      have Hown := Lib.hid hown5
      have Hgr := Lib.hid hgrow
      clear h5 hown5 hgrow hat hlt5 HNW
      refine hK.out _ _ ?_ (fun hHeld => ?_)
      · ((try dsimp only); try trivial)
      clear hK K
      try simp only [Act.put, List.setIfInBounds_toArray, List.set_cons_zero, List.set_cons_succ]
      refine wpAnyH_take (i := 11) (v := ?_) rfl (by kernel_rfl) (by kernel_rfl) (by kernel_rfl) (fun _ _ _ h => h) (Or.inl ⟨by kernel_rfl, ?_⟩) (by assumption) ?_
      rotate_left
      · (intro w hSw; (try dsimp only at hSw); first | (go_simp; done) | (go_simp; with_reducible rfl))
      try simp only [Act.put, List.setIfInBounds_toArray, List.set_cons_zero, List.set_cons_succ]
      refine wpAnyH_take (i := 12) (v := ?_) rfl (by kernel_rfl) (by kernel_rfl) (by kernel_rfl) (fun _ _ _ h => h) (Or.inl ⟨by kernel_rfl, ?_⟩) (by assumption) ?_
      rotate_left
      · (intro w hSw; (try dsimp only at hSw); first | (go_simp; done) | (go_simp; with_reducible rfl))
      try simp only [Act.put, List.setIfInBounds_toArray, List.set_cons_zero, List.set_cons_succ]
      refine wpAnyH_take (i := 13) (v := ?_) rfl (by kernel_rfl) (by kernel_rfl) (by kernel_rfl) (fun _ _ _ h => h) (Or.inl ⟨by kernel_rfl, ?_⟩) (by assumption) ?_
      rotate_left
      · (intro w hSw; (try dsimp only at hSw); first | (go_simp; done) | (go_simp; with_reducible rfl))
      try simp only [Act.put, List.setIfInBounds_toArray, List.set_cons_zero, List.set_cons_succ]
      refine wpAnyH_ready (rs := [14]) (by kernel_rfl) (by simp) ?_
      refine AllReadyH.cons rfl (fun K hK => ?_) (AllReadyH.nil)
      go_simp
      refine hK.out _ _ ?_ (fun hHeld => ?_)
      · ((try dsimp only); try trivial)
      clear hK K
      try simp only [Act.put, List.setIfInBounds_toArray, List.set_cons_zero, List.set_cons_succ]
      refine wpAnyH_done (by kernel_rfl) ?_ _
      refine NoPanic.normal ?_
      go_wp2
      go_end0
      have hg := Hown.out.lt g rfl
      have hgp : g ≠ p := by omega
      have hc5 := Hown.out.cellAt 0 (by omega)
      refine ⟨rfl, g, cap, heap_set H5.out 2 _, hg.1, (set_far hgp).trans (hc5.trans rfl), ?_⟩
      exact ((((But.refl p w).drew.trans HbZ.out).trans ⟨Hgr.out.os, Hgr.out.tape, Hgr.out.output, Hgr.out.size, fun k h1 h2 => Hgr.out.block k h1 (fun e => by cases e)⟩).setCell (p := ⟨p, 2, none⟩) (Or.inl rfl) _)
    · go_simp
      have HbZ := Lib.hid (Hb1.out.alloc (.cells #[.int .i64 v] 2))
      have HZ := Lib.hid ((Below.block ((Below.refl w1.heap.size w1).alloc (Nat.le_refl _) (.cells #[.int .i64 v] 2)) p (heap_lt Hh1.out)).trans Hh1.out)
      refine hK.out _ _ ?_ (fun hHeld => ?_)
      · ((try dsimp only); try trivial)
      clear hK K
      try simp only [Act.put, List.setIfInBounds_toArray, List.set_cons_zero, List.set_cons_succ]
      refine wpAnyH_ready (rs := [5]) (by kernel_rfl) (by simp) ?_
      refine AllReadyH.cons rfl (fun K hK => ?_) (AllReadyH.nil)
      have s2 : (w1.alloc (.cells #[.int .i64 v] 2)).cell? ⟨p, 2, none⟩ = some (.slice none 0 0) := Lib.cell_of_heap HZ.out 2
      go_simp
      refine hK.out _ _ ?_ (fun hHeld => ?_)
      · ((try dsimp only); try trivial)
      clear hK K
      try simp only [Act.put, List.setIfInBounds_toArray, List.set_cons_zero, List.set_cons_succ]
      refine wpAnyH_ready (rs := [10]) (by kernel_rfl) (by simp) ?_
      refine AllReadyH.cons rfl (fun K hK => ?_) (AllReadyH.nil)
      have HNW := Lib.hid (World.news_of_block (w := (w1.alloc (.cells #[.int .i64 v] 2))) (heap_alloc_new w1 (.cells #[.int .i64 v] 2)))
      refine step_append_lies _ rfl (.tmp 103) (.tmp 107) 27 rfl w.heap.size 2 i0 (.int .i64 0) 1 8 Tryz.underlying27 Hi.out Hz0.out Hz1.out Hz2.out rfl (by decide) (.slice none 0 0) 0 [] (by simp [Act.eval, Act.put]) (World.ownsRow_nil _ _ _ _) ⟨w1.heap.size, 0, none⟩ 1 1 [.int .i64 v] (by simp [Act.eval, Act.put]) rfl HNW.out HO.out (by decide) (by unfold maxLen; omega) (by omega) (Nat.le_trans (Hb1.out.alloc (.cells #[.int .i64 v] 2)).size (Nat.le_refl _)) _ rfl ?_
      intro g cap w5 hown5 hgrow hat hlt5
      have h5 : w5.heap[p]? = some (.cells #[inn, .int .i64 left, .slice none 0 0, .int .i64 e1, .int .i64 e2, .int .i64 e3, .int .i64 e4, .int .i64 e5, .int .i64 e6, SPv, SS, .int .i64 nx, CA, .slice (some ⟨sb, 0, none⟩) n c, .int .i64 bs] 43 (0, 0)) := (hgrow.block p (heap_lt HZ.out) (fun e => by cases e)).trans HZ.out
      have y2 : w5.cell? ⟨p, 2, none⟩ = some (.slice none 0 0) := Lib.cell_of_heap h5 2
      have yf5 := Lib.frozen_of_heap h5 2
      have H5 := Lib.hid h5
      have Hown := Lib.hid hown5
      have Hgr := Lib.hid hgrow
      clear h5 hown5 hgrow hat hlt5 HNW
      refine hK.out _ _ ?_ (fun hHeld => ?_)
      · ((try dsimp only); try trivial)
      clear hK K
      try simp only [Act.put, List.setIfInBounds_toArray, List.set_cons_zero, List.set_cons_succ]
      refine wpAnyH_take (i := 11) (v := ?_) rfl (by kernel_rfl) (by kernel_rfl) (by kernel_rfl) (fun _ _ _ h => h) (Or.inl ⟨by kernel_rfl, ?_⟩) (by assumption) ?_
      rotate_left
      · (intro w hSw; (try dsimp only at hSw); first | (go_simp; done) | (go_simp; with_reducible rfl))
      try simp only [Act.put, List.setIfInBounds_toArray, List.set_cons_zero, List.set_cons_succ]
      refine wpAnyH_take (i := 12) (v := ?_) rfl (by kernel_rfl) (by kernel_rfl) (by kernel_rfl) (fun _ _ _ h => h) (Or.inl ⟨by kernel_rfl, ?_⟩) (by assumption) ?_
      rotate_left
      · (intro w hSw; (try dsimp only at hSw); first | (go_simp; done) | (go_simp; with_reducible rfl))
      try simp only [Act.put, List.setIfInBounds_toArray, List.set_cons_zero, List.set_cons_succ]
      refine wpAnyH_take (i := 13) (v := ?_) rfl (by kernel_rfl) (by kernel_rfl) (by kernel_rfl) (fun _ _ _ h => h) (Or.inl ⟨by kernel_rfl, ?_⟩) (by assumption) ?_
      rotate_left
      · (intro w hSw; (try dsimp only at hSw); first | (go_simp; done) | (go_simp; with_reducible rfl))
      try simp only [Act.put, List.setIfInBounds_toArray, List.set_cons_zero, List.set_cons_succ]
      refine wpAnyH_ready (rs := [14]) (by kernel_rfl) (by simp) ?_
      refine AllReadyH.cons rfl (fun K hK => ?_) (AllReadyH.nil)
      go_simp
      refine hK.out _ _ ?_ (fun hHeld => ?_)
      · ((try dsimp only); try trivial)
      clear hK K
      try simp only [Act.put, List.setIfInBounds_toArray, List.set_cons_zero, List.set_cons_succ]
      refine wpAnyH_done (by kernel_rfl) ?_ _
      refine NoPanic.normal ?_
      go_wp2
      go_end0
      have hg := Hown.out.lt g rfl
      have hgp : g ≠ p := by omega
      have hc5 := Hown.out.cellAt 0 (by omega)
      refine ⟨rfl, g, cap, heap_set H5.out 2 _, hg.1, (set_far hgp).trans (hc5.trans rfl), ?_⟩
      exact ((((But.refl p w).drew.trans HbZ.out).trans ⟨Hgr.out.os, Hgr.out.tape, Hgr.out.output, Hgr.out.size, fun k h1 h2 => Hgr.out.block k h1 (fun e => by cases e)⟩).setCell (p := ⟨p, 2, none⟩) (Or.inl rfl) _)
set_option maxRecDepth 100000 in
set_option maxHeartbeats 8000000 in
theorem reckon_two (p sb n c sp k : Nat) (a : Int) (cs : Array Value) (T : TypeId) (w : World) (hp : w.heap[p]? = some (.cells cs T (0, 0))) (hcs : cs[13]? = some (.slice (some ⟨sb, 0, none⟩) (n + 2) c)) (hc : n + 2 ≤ c) (hn : n ≤ 100000) (hsb : sb < w.heap.size) (hsp : sb ≠ p) (h0 : w.cell? ⟨sb, (n + 1) * 2, none⟩ = some (.int .i64 0)) (h1 : w.cell? ⟨sb, (n + 1) * 2 + 1, none⟩ = some (.pointer none)) (h2 : w.cell? ⟨sb, n * 2, none⟩ = some (.int .i64 a)) (h3 : w.cell? ⟨sb, n * 2 + 1, none⟩ = some (.pointer none)) (hd : w.cell? ⟨sp, k, none⟩ = some (.int .i64 12)) (hd2 : w.cell? ⟨sp, k + 2, none⟩ = some (.int .i64 7)) :
    Calls Tryz.prog 27 #[.pointer (some ⟨p, 0, none⟩), .pointer (some ⟨sp, k, none⟩)] w fun e w' => e = endE 2 2 ∧ But p w w' ∧ w'.heap[p]? = some (.cells ((cs.setIfInBounds 13 (.slice (some ⟨sb, 0, none⟩) (n + 1) c)).setIfInBounds 13 (.slice (some ⟨sb, 0, none⟩) n c)) T (0, 0)) := by
  have hG := two_zero p sb n c a cs T w hp hcs hc hn hsb hsp h0 h1 h2 h3
  clear hp hcs h0 h1 h2 h3
  go_enter Tryz.func27, Tryz.ntmps27
  go_wp2_with (go_at_call 46; refine hG.mono ?_; rintro e w1 ⟨rfl, h1, h2⟩; have HE := Lib.hid (And.intro h1 h2); clear h1 h2; unfold endE)
  exact ⟨rfl, rfl, HE.out⟩
set_option maxRecDepth 100000 in
set_option maxHeartbeats 8000000 in
/-- What lies on the stack is printed, as the first. -/
theorem step_print (p sb sp N C i n c : Nat) (left f v e1 e2 e3 e4 e5 e6 bs : Int) (inn SS CA : Value) (w : World) (hp : w.heap[p]? = some (.cells #[inn, .int .i64 left, .slice none 0 0, .int .i64 e1, .int .i64 e2, .int .i64 e3, .int .i64 e4, .int .i64 e5, .int .i64 e6, .slice (some ⟨sp, 0, none⟩) N C, SS, .int .i64 (i : Int), CA, .slice (some ⟨sb, 0, none⟩) (n + 1) c, .int .i64 bs] 43 (0, 0))) (hi : i < N) (hN : N ≤ 1000000) (hsp : sp ≠ p) (hsl : sp < w.heap.size) (x0 : w.cell? ⟨sp, i * 4, none⟩ = some (.int .i64 19)) (x1 : w.cell? ⟨sp, i * 4 + 1, none⟩ = some (.int .i64 f)) (hf : 0 ≤ f) (hfl : f ≤ left) (hl : left ≤ 1000000) (hc : n + 1 ≤ c) (hn : n ≤ 1000000) (hsb : sb < w.heap.size) (hsbp : sb ≠ p) (h0 : w.cell? ⟨sb, n * 2, none⟩ = some (.int .i64 v)) (h1 : w.cell? ⟨sb, n * 2 + 1, none⟩ = some (.pointer none)) :
    Calls Tryz.prog 11 #[.pointer (some ⟨p, 0, none⟩)] w fun e w' => e = .returned (.tuple #[]) ∧ ∃ g c', w'.heap[p]? = some (.cells #[inn, .int .i64 (left - f), .slice (some ⟨g, 0, none⟩) 1 c', .int .i64 e1, .int .i64 e2, .int .i64 e3, .int .i64 e4, .int .i64 e5, .int .i64 e6, .slice (some ⟨sp, 0, none⟩) N C, SS, .int .i64 ((i : Int) + 1), CA, .slice (some ⟨sb, 0, none⟩) n c, .int .i64 bs] 43 (0, 0)) ∧ w.heap.size ≤ g ∧ w'.cell? ⟨g, 0, none⟩ = some (.int .i64 v) ∧ But p w w' := by
  have hpl := heap_lt hp
  obtain ⟨w1, hw1⟩ : ∃ w1, w1 = (w.setCell ⟨p, 11, none⟩ (.int .i64 ((i : Int) + 1))).drew := ⟨_, rfl⟩
  have hp1 : w1.heap[p]? = some (.cells #[inn, .int .i64 left, .slice none 0 0, .int .i64 e1, .int .i64 e2, .int .i64 e3, .int .i64 e4, .int .i64 e5, .int .i64 e6, .slice (some ⟨sp, 0, none⟩) N C, SS, .int .i64 ((i : Int) + 1), CA, .slice (some ⟨sb, 0, none⟩) (n + 1) c, .int .i64 bs] 43 (0, 0)) := by rw [hw1]; exact heap_set hp 11 _
  have hb1 : But p w w1 := by rw [hw1]; exact ((But.refl p w).setCell (p := ⟨p, 11, none⟩) (Or.inl rfl) _).drew
  have c9 : w.drew.cell? ⟨p, 9, none⟩ = some (.slice (some ⟨sp, 0, none⟩) N C) := Lib.cell_of_heap hp 9
  have c11 : w.drew.cell? ⟨p, 11, none⟩ = some (.int .i64 i) := Lib.cell_of_heap hp 11
  have f11 := Lib.frozen_of_heap (w := w.drew) hp 11
  have hi0 : (0 : Int) ≤ i := by omega
  have hi1 : (i : Int) < N := by omega
  have y1 : w1.cell? ⟨sp, i * 4 + 1, none⟩ = some (.int .i64 f) := (hb1.cell (p := ⟨sp, i * 4 + 1, none⟩) hsl hsp).trans x1
  have hT := take_ok p left f w1 (Lib.cell_of_heap hp1 1) (Lib.frozen_of_heap hp1 1) hfl hf (by omega)
  obtain ⟨w2, hw2⟩ : ∃ w2, w2 = w1.setCell ⟨p, 1, none⟩ (.int .i64 (left - f)) := ⟨_, rfl⟩
  rw [← hw2] at hT
  have hp2 : w2.heap[p]? = some (.cells #[inn, .int .i64 (left - f), .slice none 0 0, .int .i64 e1, .int .i64 e2, .int .i64 e3, .int .i64 e4, .int .i64 e5, .int .i64 e6, .slice (some ⟨sp, 0, none⟩) N C, SS, .int .i64 ((i : Int) + 1), CA, .slice (some ⟨sb, 0, none⟩) (n + 1) c, .int .i64 bs] 43 (0, 0)) := by rw [hw2]; exact heap_set hp1 1 _
  have hb2 : But p w w2 := by rw [hw2]; exact hb1.setCell (p := ⟨p, 1, none⟩) (Or.inl rfl) _
  have z2 : w2.heap.size = w.heap.size := by rw [hw2, set_size, hw1]; exact set_size _ _ _ _
  have far : ∀ j, w2.cell? ⟨sp, j, none⟩ = w.cell? ⟨sp, j, none⟩ := fun j => hb2.cell (p := ⟨sp, j, none⟩) hsl hsp
  have y0 := (far _).trans x0
  have hP := reckon_print p sb n c sp (i * 4) v _ e1 e2 e3 e4 e5 e6 bs _ inn _ SS CA w2 hp2 y0 hc hn (by omega) ((hb2.cell (p := ⟨sb, n * 2, none⟩) hsb hsbp).trans h0) ((hb2.cell (p := ⟨sb, n * 2 + 1, none⟩) hsb hsbp).trans h1)
  have Hw1 := Lib.hid hw1
  have HB2 := Lib.hid hb2
  have Hz2 := Lib.hid z2
  clear hw1 hw2 hb1 hb2 hp hp1 hp2 x0 x1 far h0 h1 z2
  go_enter Tryz.func11, Tryz.ntmps11
  go_upto_region 0 with fail
  go_still_tail 9, (by kernel_rfl)
  change wpList _ _ _ _ _ w.drew
  go_upto_region 2 with fail
  rw [← Hw1.out]
  go_wp2_with (first | (go_at_call 21; refine hT.mono ?_; rintro e w3 ⟨rfl, rfl⟩) | (go_at_call 27; refine hP.mono ?_; rintro e w3 ⟨rfl, g, c', h1, h2, h3, h4⟩; have HE := Lib.hid (And.intro h1 (And.intro h2 (And.intro h3 h4))); clear h1 h2 h3 h4))
  go_end0
  exact ⟨rfl, g, c', HE.out.1, by have := HE.out.2.1; have := Hz2.out; omega, HE.out.2.2.1, HB2.out.trans HE.out.2.2.2⟩
set_option maxRecDepth 100000 in
set_option maxHeartbeats 8000000 in
/-- A quotient by 0. -/
theorem step_two (p sb sp N C i n c : Nat) (left f a e1 e2 e3 e4 e5 e6 bs : Int) (inn EV SS CA : Value) (w : World) (hp : w.heap[p]? = some (.cells #[inn, .int .i64 left, EV, .int .i64 e1, .int .i64 e2, .int .i64 e3, .int .i64 e4, .int .i64 e5, .int .i64 e6, .slice (some ⟨sp, 0, none⟩) N C, SS, .int .i64 (i : Int), CA, .slice (some ⟨sb, 0, none⟩) (n + 2) c, .int .i64 bs] 43 (0, 0))) (hi : i < N) (hN : N ≤ 1000000) (hsp : sp ≠ p) (hsl : sp < w.heap.size) (x0 : w.cell? ⟨sp, i * 4, none⟩ = some (.int .i64 12)) (x1 : w.cell? ⟨sp, i * 4 + 1, none⟩ = some (.int .i64 f)) (x2 : w.cell? ⟨sp, i * 4 + 2, none⟩ = some (.int .i64 7)) (hf : 0 ≤ f) (hfl : f ≤ left) (hl : left ≤ 1000000) (hc : n + 2 ≤ c) (hn : n ≤ 100000) (hsb : sb < w.heap.size) (hsbp : sb ≠ p) (h0 : w.cell? ⟨sb, (n + 1) * 2, none⟩ = some (.int .i64 0)) (h1 : w.cell? ⟨sb, (n + 1) * 2 + 1, none⟩ = some (.pointer none)) (h2 : w.cell? ⟨sb, n * 2, none⟩ = some (.int .i64 a)) (h3 : w.cell? ⟨sb, n * 2 + 1, none⟩ = some (.pointer none)) :
    Calls Tryz.prog 11 #[.pointer (some ⟨p, 0, none⟩)] w fun e w' => e = endE 2 2 ∧ w'.heap[p]? = some (.cells #[inn, .int .i64 (left - f), EV, .int .i64 e1, .int .i64 e2, .int .i64 e3, .int .i64 e4, .int .i64 e5, .int .i64 e6, .slice (some ⟨sp, 0, none⟩) N C, SS, .int .i64 ((i : Int) + 1), CA, .slice (some ⟨sb, 0, none⟩) n c, .int .i64 bs] 43 (0, 0)) ∧ But p w w' := by
  have hpl := heap_lt hp
  obtain ⟨w1, hw1⟩ : ∃ w1, w1 = (w.setCell ⟨p, 11, none⟩ (.int .i64 ((i : Int) + 1))).drew := ⟨_, rfl⟩
  have hp1 : w1.heap[p]? = some (.cells #[inn, .int .i64 left, EV, .int .i64 e1, .int .i64 e2, .int .i64 e3, .int .i64 e4, .int .i64 e5, .int .i64 e6, .slice (some ⟨sp, 0, none⟩) N C, SS, .int .i64 ((i : Int) + 1), CA, .slice (some ⟨sb, 0, none⟩) (n + 2) c, .int .i64 bs] 43 (0, 0)) := by rw [hw1]; exact heap_set hp 11 _
  have hb1 : But p w w1 := by rw [hw1]; exact ((But.refl p w).setCell (p := ⟨p, 11, none⟩) (Or.inl rfl) _).drew
  have c9 : w.drew.cell? ⟨p, 9, none⟩ = some (.slice (some ⟨sp, 0, none⟩) N C) := Lib.cell_of_heap hp 9
  have c11 : w.drew.cell? ⟨p, 11, none⟩ = some (.int .i64 i) := Lib.cell_of_heap hp 11
  have f11 := Lib.frozen_of_heap (w := w.drew) hp 11
  have hi0 : (0 : Int) ≤ i := by omega
  have hi1 : (i : Int) < N := by omega
  have y1 : w1.cell? ⟨sp, i * 4 + 1, none⟩ = some (.int .i64 f) := (hb1.cell (p := ⟨sp, i * 4 + 1, none⟩) hsl hsp).trans x1
  have hT := take_ok p left f w1 (Lib.cell_of_heap hp1 1) (Lib.frozen_of_heap hp1 1) hfl hf (by omega)
  obtain ⟨w2, hw2⟩ : ∃ w2, w2 = w1.setCell ⟨p, 1, none⟩ (.int .i64 (left - f)) := ⟨_, rfl⟩
  rw [← hw2] at hT
  have hp2 : w2.heap[p]? = some (.cells #[inn, .int .i64 (left - f), EV, .int .i64 e1, .int .i64 e2, .int .i64 e3, .int .i64 e4, .int .i64 e5, .int .i64 e6, .slice (some ⟨sp, 0, none⟩) N C, SS, .int .i64 ((i : Int) + 1), CA, .slice (some ⟨sb, 0, none⟩) (n + 2) c, .int .i64 bs] 43 (0, 0)) := by rw [hw2]; exact heap_set hp1 1 _
  have hb2 : But p w w2 := by rw [hw2]; exact hb1.setCell (p := ⟨p, 1, none⟩) (Or.inl rfl) _
  have z2 : w2.heap.size = w.heap.size := by rw [hw2, set_size, hw1]; exact set_size _ _ _ _
  have far : ∀ j, w2.cell? ⟨sp, j, none⟩ = w.cell? ⟨sp, j, none⟩ := fun j => hb2.cell (p := ⟨sp, j, none⟩) hsl hsp
  have y0 := (far _).trans x0
  have hP := reckon_two p sb n c sp (i * 4) a _ _ w2 hp2 rfl hc hn (by omega) hsbp ((hb2.cell (p := ⟨sb, (n + 1) * 2, none⟩) hsb hsbp).trans h0) ((hb2.cell (p := ⟨sb, (n + 1) * 2 + 1, none⟩) hsb hsbp).trans h1) ((hb2.cell (p := ⟨sb, n * 2, none⟩) hsb hsbp).trans h2) ((hb2.cell (p := ⟨sb, n * 2 + 1, none⟩) hsb hsbp).trans h3) y0 ((far _).trans x2)
  have Hw1 := Lib.hid hw1
  have HB2 := Lib.hid hb2
  clear hw1 hw2 hb1 hb2 hp hp1 hp2 x0 x1 x2 far h0 h1 h2 h3
  go_enter Tryz.func11, Tryz.ntmps11
  go_upto_region 0 with fail
  go_still_tail 9, (by kernel_rfl)
  change wpList _ _ _ _ _ w.drew
  go_upto_region 2 with fail
  rw [← Hw1.out]
  go_wp2_with (first | (go_at_call 21; refine hT.mono ?_; rintro e w3 ⟨rfl, rfl⟩) | (go_at_call 27; refine hP.mono ?_; rintro e w3 ⟨rfl, h1, h2⟩; have HE := Lib.hid (And.intro h1 h2); clear h1 h2; unfold endE))
  exact ⟨rfl, rfl, HE.out.2, HB2.out.trans HE.out.1⟩
end Go.Proofs.YtlgpbllkhbgppaaGreatDoor
