/-
  The runner: how a run that ended is taken up.
  The runner, of no program.
  The writer of steps: one more step.
-/
import Derived.Test.YtlgpbllkhbgppaaGreatDoorJn40
import Derived.Recover
import Derived.Lib.MinMax
import Derived.WalkLawsBesides
import Derived.Deep.Cut
namespace Go.Proofs.YtlgpbllkhbgppaaGreatDoor
set_option linter.unusedVariables false
set_option linter.unusedSimpArgs false
open Go.RowKit

set_option maxRecDepth 100000 in
set_option maxHeartbeats 8000000 in
/-- The run ended so, as it is taken up: what was seen, and how it ended, with so much fuel used. -/
theorem taken_up (po pr pf : Nat) (how val left fuel mx : Int) (A : Option Addr) (n c : Nat) (e1 e2 e3 e4 e5 e6 : Int) (older : List PanicEntry) (w : World)
    (hmx : max fuel 0 = mx)
    (ho : w.heap[po]? = some (.cells #[.slice none 0 0, .int .i64 0, .int .i64 0, .int .i64 0, .int .i64 0, .int .i64 0, .int .i64 0] 29 (0, 0)))
    (hl : w.cell? ⟨pr, 1, none⟩ = some (.int .i64 left)) (hf : w.cell? ⟨pf, 0, none⟩ = some (.int .i64 fuel)) (hprl : pr < w.heap.size) (hpfl : pf < w.heap.size)
    (h2 : w.cell? ⟨pr, 2, none⟩ = some (.slice A n c)) (h3 : w.cell? ⟨pr, 3, none⟩ = some (.int .i64 e1)) (h4 : w.cell? ⟨pr, 4, none⟩ = some (.int .i64 e2)) (h5 : w.cell? ⟨pr, 5, none⟩ = some (.int .i64 e3)) (h6 : w.cell? ⟨pr, 6, none⟩ = some (.int .i64 e4)) (h7 : w.cell? ⟨pr, 7, none⟩ = some (.int .i64 e5)) (h8 : w.cell? ⟨pr, 8, none⟩ = some (.int .i64 e6)) (hpr : pr ≠ po) (hpf : pf ≠ po) :
    CallsD Tryz.prog 9 #[.pointer (some ⟨po, 0, none⟩), .pointer (some ⟨pr, 0, none⟩), .pointer (some ⟨pf, 0, none⟩)] (.panicking ({ v := .iface 45 (.agg #[.int .i64 how, .int .i64 val]), recovered := false } :: older)) w fun e u' w' =>
      e = .returned (.tuple #[]) ∧ u' = .panicking ({ v := .iface 45 (.agg #[.int .i64 how, .int .i64 val]), recovered := true } :: older) ∧ But po w w' ∧ w'.heap[po]? = some (.cells #[.slice A n c, .int .i64 how, .int .i64 val, .int .i64 (IntKind.i64.wrap (mx - left)), .int .i64 e4, .int .i64 e5, .int .i64 e6] 29 (0, 0)) := by
  have hpo := heap_lt ho
  obtain ⟨W, hW, hbW, hzW, h0W⟩ := ch_one_al w #[.int .i64 how, .int .i64 val] 45
  have hoW := (hbW.block po hpo).trans ho
  have k : ∀ j, W.cell? ⟨pr, j, none⟩ = w.cell? ⟨pr, j, none⟩ := fun j => hbW.cell (p := ⟨pr, j, none⟩) hprl
  have x1 := (k 1).trans hl
  have x2 := (k 2).trans h2
  have x3 := (k 3).trans h3
  have x4 := (k 4).trans h4
  have x5 := (k 5).trans h5
  have x6 := (k 6).trans h6
  have x7 := (k 7).trans h7
  have x8 := (k 8).trans h8
  have xf : W.cell? ⟨pf, 0, none⟩ = some (.int .i64 fuel) := (hbW.cell (p := ⟨pf, 0, none⟩) hpfl).trans hf
  obtain ⟨o0, o1, o2, o3, o4, o5, o6, of⟩ := cells7 hoW
  have t0 : W.cell? ⟨w.heap.size, 0, none⟩ = some (.int .i64 how) := Lib.cell_of_heap h0W 0
  have t1 : W.cell? ⟨w.heap.size, 1, none⟩ = some (.int .i64 val) := Lib.cell_of_heap h0W 1
  have HW := Lib.hid hW
  have HbW := Lib.hid hbW
  have HoW := Lib.hid hoW
  have HzW := Lib.hid hzW
  clear hW hbW hoW hzW h0W k ho hl hf h2 h3 h4 h5 h6 h7 h8
  refine callsD_of_wpS Tryz.func9 rfl fun c₀ cs hu => ?_
  apply wpS_seq
  apply wpS_region
  have hta : ∀ w, (Instr.typeAssert (.iface 45 (.agg #[.int .i64 how, .int .i64 val])) 20 45 true).run Tryz.prog w = .ok (.tuple #[.agg #[.int .i64 how, .int .i64 val], .bool true]) w := fun w => by
    simp [Instr.typeAssert, run_underlying Tryz.underlying45, Result.andThen]
  generalize hQ : Exit.thenS _ _ = QQ
  have hnt : Tryz.f9.ntmps = 27 := by kernel_rfl
  simp [wpOpsS, go_sem, recoverD, hu, hnt, hta]
  have hrep : (Array.replicate 24 undef : Array Value) = #[undef, undef, undef, undef, undef, undef, undef, undef, undef, undef, undef, undef, undef, undef, undef, undef, undef, undef, undef, undef, undef, undef, undef, undef] := rfl
  rw [hrep]
  simp only [List.setIfInBounds_toArray, List.set_cons_zero, List.set_cons_succ, List.append_toArray, List.cons_append, List.nil_append]
  subst hQ
  show Code.wpS _ _ _ _ _ _
  refine wpS_of_wp ?_
  clear hta hnt hrep
  rw [← HW.out]
  go_upto_region 4 with fail
  obtain ⟨w2, hw2⟩ : ∃ w2, w2 = ((((((W.setCell ⟨po, 0, none⟩ (.slice A n c)).setCell ⟨po, 1, none⟩ (.int .i64 e1)).setCell ⟨po, 2, none⟩ (.int .i64 e2)).setCell ⟨po, 3, none⟩ (.int .i64 e3)).setCell ⟨po, 4, none⟩ (.int .i64 e4)).setCell ⟨po, 5, none⟩ (.int .i64 e5)).setCell ⟨po, 6, none⟩ (.int .i64 e6) := ⟨_, rfl⟩
  have hb2 : But po W w2 := by rw [hw2]; exact (((((((But.refl po W).setCell (Or.inl rfl) _).setCell (Or.inl rfl) _).setCell (Or.inl rfl) _).setCell (Or.inl rfl) _).setCell (Or.inl rfl) _).setCell (Or.inl rfl) _).setCell (Or.inl rfl) _
  have ho2 : w2.heap[po]? = some (.cells #[.slice A n c, .int .i64 e1, .int .i64 e2, .int .i64 e3, .int .i64 e4, .int .i64 e5, .int .i64 e6] 29 (0, 0)) := by rw [hw2]; exact heap_set (heap_set (heap_set (heap_set (heap_set (heap_set (heap_set HoW.out 0 _) 1 _) 2 _) 3 _) 4 _) 5 _) 6 _
  rw [← hw2]
  clear hw2 o0 o1 o2 o3 o4 o5 o6 of x2 x3 x4 x5 x6 x7 x8
  have hzW := HzW.out
  have k2 : ∀ q : Addr, q.block < W.heap.size → q.block ≠ po → w2.drew.cell? q = W.cell? q := fun q h1 h2 => hb2.cell h1 h2
  have gd : w2.drew.cell? ⟨w.heap.size, 0, none⟩ = some (.int .i64 how) ∧ w2.drew.cell? ⟨w.heap.size, 1, none⟩ = some (.int .i64 val) ∧ w2.drew.cell? ⟨pf, 0, none⟩ = some (.int .i64 fuel) ∧ w2.drew.cell? ⟨pr, 1, none⟩ = some (.int .i64 left) := ⟨(k2 _ (by show w.heap.size < _; omega) (by show w.heap.size ≠ po; omega)).trans t0, (k2 _ (by show w.heap.size < _; omega) (by show w.heap.size ≠ po; omega)).trans t1, (k2 _ (by show pf < _; omega) (by show pf ≠ po; omega)).trans xf, (k2 _ (by show pr < _; omega) (by show pr ≠ po; omega)).trans x1⟩
  obtain ⟨o0, o1, o2, o3, o4, o5, o6, of⟩ := cells7 ho2
  have p1 : w2.drew.cell? ⟨po, 1, none⟩ = some (.int .i64 e1) := o1
  have p2 : w2.drew.cell? ⟨po, 2, none⟩ = some (.int .i64 e2) := o2
  have p3 : w2.drew.cell? ⟨po, 3, none⟩ = some (.int .i64 e3) := o3
  have pf' : ∀ j, w2.drew.frozen? ⟨po, j, none⟩ = false := of
  have nw : w.heap.size ≠ po := by omega
  have hend : But po w (((w2.drew.setCell ⟨po, 1, none⟩ (.int .i64 how)).setCell ⟨po, 2, none⟩ (.int .i64 val)).setCell ⟨po, 3, none⟩ (.int .i64 (IntKind.i64.wrap (mx - left)))) ∧ (((w2.drew.setCell ⟨po, 1, none⟩ (.int .i64 how)).setCell ⟨po, 2, none⟩ (.int .i64 val)).setCell ⟨po, 3, none⟩ (.int .i64 (IntKind.i64.wrap (mx - left)))).heap[po]? = some (.cells #[.slice A n c, .int .i64 how, .int .i64 val, .int .i64 (IntKind.i64.wrap (mx - left)), .int .i64 e4, .int .i64 e5, .int .i64 e6] 29 (0, 0)) := ⟨((((But.of_below (g := po) HbW.out).trans hb2).drew.setCell (Or.inl rfl) _).setCell (Or.inl rfl) _).setCell (Or.inl rfl) _, heap_set (heap_set (heap_set ho2 1 _) 2 _) 3 _⟩
  have Hend := Lib.hid hend
  clear hend ho2 hb2 k2 o0 o4 o5 o6 p1 p2 p3 pf' t0 t1 xf x1 HoW HbW
  refine wp_region_held_drew (S := fun w' => w'.cell? ⟨w.heap.size, 0, none⟩ = some (.int .i64 how) ∧ w'.cell? ⟨w.heap.size, 1, none⟩ = some (.int .i64 val) ∧ w'.cell? ⟨pf, 0, none⟩ = some (.int .i64 fuel) ∧ w'.cell? ⟨pr, 1, none⟩ = some (.int .i64 left)) (by kernel_rfl) gd (fun hHeld => ?_)
  refine wpAnyH_take (i := 0) (v := ?_) rfl (by kernel_rfl) (by kernel_rfl) (by kernel_rfl) (fun _ _ _ h => h) (Or.inl ⟨by rfl, ?_⟩) (by assumption) ?_
  rotate_left
  · (intro w hSw; (try dsimp only at hSw); first | (go_simp; done) | (go_simp; with_reducible rfl))
  try simp only [Act.put, List.setIfInBounds_toArray, List.set_cons_zero, List.set_cons_succ]
  refine wpAnyH_take (i := 1) (v := ?_) rfl (by kernel_rfl) (by kernel_rfl) (by kernel_rfl) (fun _ _ _ h => h) (Or.inl ⟨by rfl, ?_⟩) (by assumption) ?_
  rotate_left
  · (intro w hSw; (try dsimp only at hSw); first | (go_simp; done) | (go_simp; with_reducible rfl))
  try simp only [Act.put, List.setIfInBounds_toArray, List.set_cons_zero, List.set_cons_succ]
  refine wpAnyH_take (i := 2) (v := ?_) rfl (by kernel_rfl) (by kernel_rfl) (by kernel_rfl) (fun _ _ _ h => h) (Or.inl ⟨by rfl, ?_⟩) (by assumption) ?_
  rotate_left
  · (intro w hSw; (try dsimp only at hSw); first | (go_simp; done) | (go_simp; with_reducible rfl))
  try simp only [Act.put, List.setIfInBounds_toArray, List.set_cons_zero, List.set_cons_succ]
  refine wpAnyH_take (i := 3) (v := ?_) rfl (by kernel_rfl) (by kernel_rfl) (by kernel_rfl) (fun _ _ _ h => h) (Or.inl ⟨by rfl, ?_⟩) (by assumption) ?_
  rotate_left
  · (intro w hSw; (try dsimp only at hSw); first | (go_simp; done) | (go_simp; with_reducible rfl))
  try simp only [Act.put, List.setIfInBounds_toArray, List.set_cons_zero, List.set_cons_succ]
  refine wpAnyH_take (i := 4) (v := ?_) rfl (by kernel_rfl) (by kernel_rfl) (by kernel_rfl) (fun _ _ _ h => h) (Or.inl ⟨by rfl, ?_⟩) (by assumption) ?_
  rotate_left
  · (intro w hSw; (try dsimp only at hSw); first | (go_simp; done) | (go_simp; with_reducible rfl))
  try simp only [Act.put, List.setIfInBounds_toArray, List.set_cons_zero, List.set_cons_succ]
  refine wpAnyH_take (i := 5) (v := ?_) rfl (by kernel_rfl) (by kernel_rfl) (by kernel_rfl) (fun _ _ _ h => h) (Or.inl ⟨by rfl, ?_⟩) (by assumption) ?_
  rotate_left
  · (intro w hSw; (try dsimp only at hSw); first | (go_simp; done) | (go_simp; with_reducible rfl))
  try simp only [Act.put, List.setIfInBounds_toArray, List.set_cons_zero, List.set_cons_succ]
  refine wpAnyH_take (i := 6) (v := ?_) rfl (by kernel_rfl) (by kernel_rfl) (by kernel_rfl) (fun _ _ _ h => h) (Or.inl ⟨by rfl, ?_⟩) (by assumption) ?_
  rotate_left
  · (intro w hSw; (try dsimp only at hSw); first | (go_simp; done) | (go_simp; with_reducible rfl))
  try simp only [Act.put, List.setIfInBounds_toArray, List.set_cons_zero, List.set_cons_succ]
  refine wpAnyH_take (i := 7) (v := ?_) rfl (by kernel_rfl) (by kernel_rfl) (by kernel_rfl) (fun _ _ _ h => h) (Or.inl ⟨by rfl, ?_⟩) (by assumption) ?_
  rotate_left
  · (intro w hSw; (try dsimp only at hSw); first | (go_simp; done) | (go_simp; with_reducible rfl))
  try simp only [Act.put, List.setIfInBounds_toArray, List.set_cons_zero, List.set_cons_succ]
  refine wpAnyH_take (i := 8) (v := ?_) rfl (by kernel_rfl) (by kernel_rfl) (by kernel_rfl) (fun _ _ _ h => h) (Or.inl ⟨by rfl, ?_⟩) (by assumption) ?_
  rotate_left
  · (intro w hSw; (try dsimp only at hSw); first | (go_simp; done) | (go_simp; with_reducible rfl))
  try simp only [Act.put, List.setIfInBounds_toArray, List.set_cons_zero, List.set_cons_succ]
  refine wpAnyH_take (i := 9) (v := ?_) rfl (by kernel_rfl) (by kernel_rfl) (by kernel_rfl) (fun _ _ _ h => h) (Or.inl ⟨by rfl, ?_⟩) (by assumption) ?_
  rotate_left
  · (intro w hSw; (try dsimp only at hSw); first | (go_simp; done) | (go_simp; with_reducible rfl))
  try simp only [Act.put, List.setIfInBounds_toArray, List.set_cons_zero, List.set_cons_succ]
  refine wpAnyH_ready (rs := [10]) (by kernel_rfl) (by simp) ?_
  refine AllReadyH.cons rfl (fun K hK => ?_) (AllReadyH.nil)
  go_simp
  refine hK.out _ _ ?_ (fun hHeld => ?_)
  · ((try dsimp only); first | with_reducible exact gd | (exact ⟨(set_far (by first | exact nw | exact hpf | exact hpr)).trans (gd.1), (set_far (by first | exact nw | exact hpf | exact hpr)).trans (gd.2.1), (set_far (by first | exact nw | exact hpf | exact hpr)).trans (gd.2.2.1), (set_far (by first | exact nw | exact hpf | exact hpr)).trans (gd.2.2.2)⟩) | (exact ⟨(set_far (by first | exact nw | exact hpf | exact hpr)).trans ((set_far (by first | exact nw | exact hpf | exact hpr)).trans (gd.1)), (set_far (by first | exact nw | exact hpf | exact hpr)).trans ((set_far (by first | exact nw | exact hpf | exact hpr)).trans (gd.2.1)), (set_far (by first | exact nw | exact hpf | exact hpr)).trans ((set_far (by first | exact nw | exact hpf | exact hpr)).trans (gd.2.2.1)), (set_far (by first | exact nw | exact hpf | exact hpr)).trans ((set_far (by first | exact nw | exact hpf | exact hpr)).trans (gd.2.2.2))⟩) | (exact ⟨(set_far (by first | exact nw | exact hpf | exact hpr)).trans ((set_far (by first | exact nw | exact hpf | exact hpr)).trans ((set_far (by first | exact nw | exact hpf | exact hpr)).trans (gd.1))), (set_far (by first | exact nw | exact hpf | exact hpr)).trans ((set_far (by first | exact nw | exact hpf | exact hpr)).trans ((set_far (by first | exact nw | exact hpf | exact hpr)).trans (gd.2.1))), (set_far (by first | exact nw | exact hpf | exact hpr)).trans ((set_far (by first | exact nw | exact hpf | exact hpr)).trans ((set_far (by first | exact nw | exact hpf | exact hpr)).trans (gd.2.2.1))), (set_far (by first | exact nw | exact hpf | exact hpr)).trans ((set_far (by first | exact nw | exact hpf | exact hpr)).trans ((set_far (by first | exact nw | exact hpf | exact hpr)).trans (gd.2.2.2)))⟩))
  clear hK K
  try simp only [Act.put, List.setIfInBounds_toArray, List.set_cons_zero, List.set_cons_succ]
  refine wpAnyH_take (i := 11) (v := ?_) rfl (by kernel_rfl) (by kernel_rfl) (by kernel_rfl) (fun _ _ _ h => h) (Or.inl ⟨by rfl, ?_⟩) (by assumption) ?_
  rotate_left
  · (intro w hSw; (try dsimp only at hSw); first | (go_simp; done) | (go_simp; with_reducible rfl))
  try simp only [Act.put, List.setIfInBounds_toArray, List.set_cons_zero, List.set_cons_succ]
  refine wpAnyH_ready (rs := [12]) (by kernel_rfl) (by simp) ?_
  refine AllReadyH.cons rfl (fun K hK => ?_) (AllReadyH.nil)
  go_simp
  refine hK.out _ _ ?_ (fun hHeld => ?_)
  · ((try dsimp only); first | with_reducible exact gd | (exact ⟨(set_far (by first | exact nw | exact hpf | exact hpr)).trans (gd.1), (set_far (by first | exact nw | exact hpf | exact hpr)).trans (gd.2.1), (set_far (by first | exact nw | exact hpf | exact hpr)).trans (gd.2.2.1), (set_far (by first | exact nw | exact hpf | exact hpr)).trans (gd.2.2.2)⟩) | (exact ⟨(set_far (by first | exact nw | exact hpf | exact hpr)).trans ((set_far (by first | exact nw | exact hpf | exact hpr)).trans (gd.1)), (set_far (by first | exact nw | exact hpf | exact hpr)).trans ((set_far (by first | exact nw | exact hpf | exact hpr)).trans (gd.2.1)), (set_far (by first | exact nw | exact hpf | exact hpr)).trans ((set_far (by first | exact nw | exact hpf | exact hpr)).trans (gd.2.2.1)), (set_far (by first | exact nw | exact hpf | exact hpr)).trans ((set_far (by first | exact nw | exact hpf | exact hpr)).trans (gd.2.2.2))⟩) | (exact ⟨(set_far (by first | exact nw | exact hpf | exact hpr)).trans ((set_far (by first | exact nw | exact hpf | exact hpr)).trans ((set_far (by first | exact nw | exact hpf | exact hpr)).trans (gd.1))), (set_far (by first | exact nw | exact hpf | exact hpr)).trans ((set_far (by first | exact nw | exact hpf | exact hpr)).trans ((set_far (by first | exact nw | exact hpf | exact hpr)).trans (gd.2.1))), (set_far (by first | exact nw | exact hpf | exact hpr)).trans ((set_far (by first | exact nw | exact hpf | exact hpr)).trans ((set_far (by first | exact nw | exact hpf | exact hpr)).trans (gd.2.2.1))), (set_far (by first | exact nw | exact hpf | exact hpr)).trans ((set_far (by first | exact nw | exact hpf | exact hpr)).trans ((set_far (by first | exact nw | exact hpf | exact hpr)).trans (gd.2.2.2)))⟩))
  clear hK K
  try simp only [Act.put, List.setIfInBounds_toArray, List.set_cons_zero, List.set_cons_succ]
  refine wpAnyH_take (i := 13) (v := ?_) rfl (by kernel_rfl) (by kernel_rfl) (by kernel_rfl) (fun _ _ _ h => h) (Or.inl ⟨by rfl, ?_⟩) (by assumption) ?_
  rotate_left
  · (intro w hSw; (try dsimp only at hSw); first | (go_simp; done) | (go_simp; with_reducible rfl))
  try simp only [Act.put, List.setIfInBounds_toArray, List.set_cons_zero, List.set_cons_succ]
  refine wpAnyH_ready (rs := [14]) (by kernel_rfl) (by simp) ?_
  refine AllReadyH.cons rfl (fun K hK => ?_) (AllReadyH.nil)
  go_simp
  refine hK.out _ _ ?_ (fun hHeld => ?_)
  · ((try dsimp only); first | with_reducible exact gd | (exact ⟨(set_far (by first | exact nw | exact hpf | exact hpr)).trans (gd.1), (set_far (by first | exact nw | exact hpf | exact hpr)).trans (gd.2.1), (set_far (by first | exact nw | exact hpf | exact hpr)).trans (gd.2.2.1), (set_far (by first | exact nw | exact hpf | exact hpr)).trans (gd.2.2.2)⟩) | (exact ⟨(set_far (by first | exact nw | exact hpf | exact hpr)).trans ((set_far (by first | exact nw | exact hpf | exact hpr)).trans (gd.1)), (set_far (by first | exact nw | exact hpf | exact hpr)).trans ((set_far (by first | exact nw | exact hpf | exact hpr)).trans (gd.2.1)), (set_far (by first | exact nw | exact hpf | exact hpr)).trans ((set_far (by first | exact nw | exact hpf | exact hpr)).trans (gd.2.2.1)), (set_far (by first | exact nw | exact hpf | exact hpr)).trans ((set_far (by first | exact nw | exact hpf | exact hpr)).trans (gd.2.2.2))⟩) | (exact ⟨(set_far (by first | exact nw | exact hpf | exact hpr)).trans ((set_far (by first | exact nw | exact hpf | exact hpr)).trans ((set_far (by first | exact nw | exact hpf | exact hpr)).trans (gd.1))), (set_far (by first | exact nw | exact hpf | exact hpr)).trans ((set_far (by first | exact nw | exact hpf | exact hpr)).trans ((set_far (by first | exact nw | exact hpf | exact hpr)).trans (gd.2.1))), (set_far (by first | exact nw | exact hpf | exact hpr)).trans ((set_far (by first | exact nw | exact hpf | exact hpr)).trans ((set_far (by first | exact nw | exact hpf | exact hpr)).trans (gd.2.2.1))), (set_far (by first | exact nw | exact hpf | exact hpr)).trans ((set_far (by first | exact nw | exact hpf | exact hpr)).trans ((set_far (by first | exact nw | exact hpf | exact hpr)).trans (gd.2.2.2)))⟩))
  clear hK K
  try simp only [Act.put, List.setIfInBounds_toArray, List.set_cons_zero, List.set_cons_succ]
  refine wpAnyH_done (by kernel_rfl) ?_ _
  go_simp
  go_wp2
  exact ⟨rfl, _, rfl, _, results_none rfl _ _ _, rfl, rfl, Hend.out⟩
end Go.Proofs.YtlgpbllkhbgppaaGreatDoor
namespace Go.Proofs.YtlgpbllkhbgppaaGreatDoor
set_option linter.unusedVariables false
set_option linter.unusedSimpArgs false
open Go.RowKit

set_option maxRecDepth 100000 in
set_option maxHeartbeats 4000000 in
theorem indexFunc_none (F : Value) (w : World) : Calls Tryz.prog 17 #[.slice none 0 0, F] w fun e w' => e = .returned (.int .i64 (-1)) ∧ w' = w := by
  go_enter Tryz.func17, Tryz.ntmps17
  go_wp2
  refine wp_loop_rounds 1 ?_
  rw [rounds_succ]
  go_wp2
  go_ret
  exact ⟨rfl, rfl⟩
/-- A run that ends so. -/
def endE (how val : Int) : Ending := .panicked [{ v := .iface 45 (.agg #[.int .i64 how, .int .i64 val]), recovered := false }]
set_option maxRecDepth 100000 in
set_option maxHeartbeats 4000000 in
theorem begin_none (p : Nat) (w : World) : Calls Tryz.prog 10 #[.pointer (some ⟨p, 0, none⟩), .agg #[.slice none 0 0]] w fun e w' => e = endE 4 0 ∧ Below w.heap.size w w' := by
  have hI := fun F w => indexFunc_none F w
  go_enter Tryz.func10, Tryz.ntmps10
  go_wp2_with (go_at_call 17; refine (hI _ _).mono ?_; rintro e w1 ⟨rfl, rfl⟩)
  exact ⟨rfl, rfl, (Below.refl _ _).alloc (Nat.le_refl _) _⟩
/-- What a run makes for itself: its program, its fuel, what will be seen, the runner. -/
theorem four_al (w : World) (x0 x1 x2 x3 : Array Value) (T0 T1 T2 T3 : TypeId) : ∃ W, W = (((w.alloc (.cells x0 T0)).alloc (.cells x1 T1)).alloc (.cells x2 T2)).alloc (.cells x3 T3) ∧ Below w.heap.size w W ∧ W.heap.size = w.heap.size + 4 ∧ W.heap[w.heap.size]? = some (.cells x0 T0 (0, 0)) ∧ W.heap[w.heap.size + 1]? = some (.cells x1 T1 (0, 0)) ∧ W.heap[w.heap.size + 2]? = some (.cells x2 T2 (0, 0)) ∧ W.heap[w.heap.size + 3]? = some (.cells x3 T3 (0, 0)) := by
  obtain ⟨w2, e2, b2, z2, h0, h1⟩ := two_al w x0 x1 T0 T1
  obtain ⟨w4, e4, b4, z4, h2, h3⟩ := two_al w2 x2 x3 T2 T3
  rw [z2] at h2 h3
  exact ⟨w4, by rw [e4, e2], b2.trans (b4.mono (by omega)), by omega, (b4.block _ (by omega)).trans h0, (b4.block _ (by omega)).trans h1, h2, h3⟩
set_option maxRecDepth 100000 in
set_option maxHeartbeats 4000000 in
/-- A run of a program whose beginning ends it, with all its fuel left. -/
theorem run_none (fuel mx : Int) (hmx : max fuel 0 = mx) (w : World) : Calls Tryz.prog 5 #[.agg #[.slice none 0 0], .slice none 0 0, .int .i64 fuel] w fun e w' => e = .returned (.agg #[.slice none 0 0, .int .i64 4, .int .i64 0, .int .i64 (IntKind.i64.wrap (mx - mx)), .int .i64 0, .int .i64 0, .int .i64 0]) ∧ Below w.heap.size w w' := by
  have hmf : ∀ (fn : Fn) (first cap : Array Value) (w : World), (Instr.makeFunc fn first cap).run Tryz.prog w = .ok (.func fn first cap) w := fun _ _ _ _ => rfl
  obtain ⟨W, hW, hbW, hzW, h0, h1, h2, h3⟩ := four_al w #[.slice none 0 0] #[.int .i64 fuel] #[.slice none 0 0, .int .i64 0, .int .i64 0, .int .i64 0, .int .i64 0, .int .i64 0, .int .i64 0] #[.slice none 0 0, .int .i64 mx, .slice none 0 0, .int .i64 0, .int .i64 0, .int .i64 0, .int .i64 0, .int .i64 0, .int .i64 0, .slice none 0 0, .slice none 0 0, .int .i64 0, .slice none 0 0, .slice none 0 0, .int .i64 0] 24 2 29 43
  have hB := begin_none (w.heap.size + 3) W
  have c0 := Lib.cell_of_heap h0 0
  have HW := Lib.hid hW
  clear hW
  go_enter_defers Tryz.func5, Tryz.ntmps5
  go_upto_region 3 with fail
  rw [← HW.out]
  go_wp2_with (go_at_call 10; refine hB.mono ?_)
  clear hB
  rintro e w1 ⟨rfl, hb1⟩
  unfold endE
  have q : ∀ k, k < W.heap.size → w1.heap[k]? = W.heap[k]? := fun k hk => hb1.block k hk
  have g1 := (q _ (by omega)).trans h1
  have g2 := (q _ (by omega)).trans h2
  have g3 := (q _ (by omega)).trans h3
  have hww1 : Below w.heap.size w w1 := hbW.trans (hb1.mono hbW.size)
  have z1 := hb1.size
  refine leaves_cons (f := 9) (args := #[.pointer (some ⟨w.heap.size + 2, 0, none⟩), .pointer (some ⟨w.heap.size + 3, 0, none⟩), .pointer (some ⟨w.heap.size + 1, 0, none⟩)]) (by simp) (by simp [go_sem]) ?_
  refine (taken_up (w.heap.size + 2) (w.heap.size + 3) (w.heap.size + 1) 4 0 mx fuel mx none 0 0 0 0 0 0 0 0 [] w1 hmx g2 (Lib.cell_of_heap g3 1) (Lib.cell_of_heap g1 0) (by omega) (by omega) (Lib.cell_of_heap g3 2) (Lib.cell_of_heap g3 3) (Lib.cell_of_heap g3 4) (Lib.cell_of_heap g3 5) (Lib.cell_of_heap g3 6) (Lib.cell_of_heap g3 7) (Lib.cell_of_heap g3 8) (by omega) (by omega)).mono ?_
  rintro r u' w2 ⟨rfl, rfl, hb2, ho2⟩
  have hbe : Below w.heap.size w w2 := hb2.below hww1 (by omega) (by omega)
  have ho3 : w2.heap[w.heap.size + 1 + 1]? = _ := ho2
  obtain ⟨s0, s1, s2, s3, s4, s5, s6, -⟩ := cells7 ho3
  clear ho2 ho3 hb2 hww1 g1 g2 g3 q hb1
  simp [Leaves, settle, results, Tryz.results5, go_sem, s0, s1, s2, s3, s4, s5, s6, hbe]
end Go.Proofs.YtlgpbllkhbgppaaGreatDoor
namespace Go.Proofs.YtlgpbllkhbgppaaGreatDoor
set_option linter.unusedVariables false
set_option linter.unusedSimpArgs false
open Go.RowKit

theorem infoStep : (Tryz.prog.info? 77).map (fun i => (i.zero, i.size, i.bytes)) = some (some (.agg #[.int .i64 0, .int .i64 0, .int .i64 0, .int .i64 0]), 4, 32) := by kernel_rfl
/-- The writer's block: so many steps, and the fuel that the next one takes. -/
def Wri (w : World) (b base n : Nat) (xs : List Value) (fu : Int) (ST SL : Value) (hi : Int) (LO : Value) : Prop := ∃ V C, w.heap[b]? = some (.cells #[.slice V n C, ST, .int .i64 fu, SL, .int .i64 hi, LO] 72 (0, 0)) ∧ w.ownsRow base 77 4 (.slice V n C) n xs
/-- The row of steps lies in this block. -/
def isOwn (w : World) (b k : Nat) : Prop := ∃ n C, w.cell? ⟨b, 0, none⟩ = some (.slice (some ⟨k, 0, none⟩) n C)
/-- Only the writer and its row of steps are written. -/
structure WW (b base : Nat) (w w' : World) : Prop where
  bb : BB b base w w'
  far : ∀ k, k < w.heap.size → k ≠ b → ¬ isOwn w b k → w'.heap[k]? = w.heap[k]?
  own : ∀ k, k < w.heap.size → isOwn w' b k → isOwn w b k
theorem WW.refl (b base : Nat) (w : World) : WW b base w w := ⟨BB.refl _ _ _, fun _ _ _ _ => rfl, fun _ _ h => h⟩
theorem WW.trans {b base : Nat} {w w1 w2 : World} (h : WW b base w w1) (k : WW b base w1 w2) : WW b base w w2 :=
  ⟨h.bb.trans k.bb, fun x h1 h2 h3 => (k.far x (Nat.lt_of_lt_of_le h1 h.bb.size) h2 (fun q => h3 (h.own x h1 q))).trans (h.far x h1 h2 h3), fun x h1 q => h.own x h1 (k.own x (Nat.lt_of_lt_of_le h1 h.bb.size) q)⟩
theorem WW.of_below {b base : Nat} {w w' : World} (h : Below w.heap.size w w') (hb : b < w.heap.size) (hbs : base ≤ w.heap.size) : WW b base w w' :=
  ⟨BB.of_below (h.mono hbs), fun x h1 _ _ => h.block x h1, fun x _ q => by
    obtain ⟨n, C, q⟩ := q
    exact ⟨n, C, (h.cell (p := ⟨b, 0, none⟩) hb).symm.trans q⟩⟩
theorem isOwn_lt {w : World} {b base n k : Nat} {xs : List Value} {fu hi : Int} {ST SL LO : Value} (h : Wri w b base n xs fu ST SL hi LO) (q : isOwn w b k) : k < w.heap.size := by
  obtain ⟨V, C, hB, hown⟩ := h
  obtain ⟨n', C', q⟩ := q
  have e := (Lib.cell_of_heap hB 0).symm.trans q
  have e2 : Value.slice V n C = Value.slice (some ⟨k, 0, none⟩) n' C' := Option.some.inj e
  injection e2 with e3 _ _
  subst e3
  exact (hown.lt k rfl).2
set_option maxRecDepth 100000 in
set_option maxHeartbeats 8000000 in
theorem w_add (b base n : Nat) (xs : List Value) (fu hi d f0 sn sa : Int) (ST SL LO : Value) (w : World) (hb : b < base) (hbs : base ≤ w.heap.size) (hn : n ≤ 1000000) (h : Wri w b base n xs fu ST SL hi LO) :
    Calls Tryz.prog 42 #[.pointer (some ⟨b, 0, none⟩), .agg #[.int .i64 d, .int .i64 f0, .int .i64 sn, .int .i64 sa]] w fun e w' => e = .returned (.int .i64 n) ∧ WW b base w w' ∧ Wri w' b base (n + 1) (xs ++ [.int .i64 d, .int .i64 fu, .int .i64 sn, .int .i64 sa]) 0 ST SL hi LO := by
  obtain ⟨V, C, hB, hown⟩ := h
  have hbl := heap_lt hB
  obtain ⟨W, hW, hbW, hzW, h0W⟩ := ch_one_al w #[.int .i64 d, .int .i64 f0, .int .i64 sn, .int .i64 sa] 77
  have hBW := (hbW.block b hbl).trans hB
  have hownW := own_blw hown hbW
  have c2 := Lib.cell_of_heap hBW 2
  have cf := Lib.frozen_of_heap hBW 2
  have y1 := Lib.cell_of_heap h0W 1
  have yf := Lib.frozen_of_heap h0W 1
  obtain ⟨w1, hw1⟩ : ∃ w1, w1 = (W.setCell ⟨w.heap.size, 1, none⟩ (.int .i64 fu)).setCell ⟨b, 2, none⟩ (.int .i64 0) := ⟨_, rfl⟩
  have hB1 : w1.heap[b]? = some (.cells #[.slice V n C, ST, .int .i64 0, SL, .int .i64 hi, LO] 72 (0, 0)) := by
    rw [hw1]
    exact heap_set ((Below.heap_setCell _ _ _ _ (by show b ≠ w.heap.size; omega)).trans hBW) 2 _
  have h01 : w1.heap[w.heap.size]? = some (.cells #[.int .i64 d, .int .i64 fu, .int .i64 sn, .int .i64 sa] 77 (0, 0)) := by
    rw [hw1]
    exact (Below.heap_setCell _ _ _ _ (by show w.heap.size ≠ b; omega)).trans (heap_set h0W 1 _)
  have hz1 : w1.heap.size = w.heap.size + 1 := by rw [hw1, set_size, set_size]; exact hzW
  have hbut1 : But b w w1 := by rw [hw1]; exact ((But.of_below (g := b) hbW).setCell (p := ⟨w.heap.size, 1, none⟩) (Or.inr (Nat.le_refl _)) _).setCell (p := ⟨b, 2, none⟩) (Or.inl rfl) _
  have hown1 := own_but hown hbut1 hb
  have gd : w1.drew.cell? ⟨w.heap.size, 0, none⟩ = some (.int .i64 d) ∧ w1.drew.cell? ⟨w.heap.size, 1, none⟩ = some (.int .i64 fu) ∧ w1.drew.cell? ⟨w.heap.size, 2, none⟩ = some (.int .i64 sn) ∧ w1.drew.cell? ⟨w.heap.size, 3, none⟩ = some (.int .i64 sa) := ⟨Lib.cell_of_heap h01 0, Lib.cell_of_heap h01 1, Lib.cell_of_heap h01 2, Lib.cell_of_heap h01 3⟩
  have o1 : w1.drew.cell? ⟨b, 0, none⟩ = some (.slice V n C) := Lib.cell_of_heap hB1 0
  obtain ⟨D, hD⟩ : ∃ D, D = w1.drew := ⟨_, rfl⟩
  have hDz : D.heap.size = w.heap.size + 1 := by rw [hD]; exact hz1
  have hBD : D.heap[b]? = some (.cells #[.slice V n C, ST, .int .i64 0, SL, .int .i64 hi, LO] 72 (0, 0)) := by rw [hD]; exact hB1
  have hbutD : But b w D := by rw [hD]; exact hbut1.drew
  have hownD : D.ownsRow base 77 4 (.slice V n C) n xs := own_but hown hbutD hb
  obtain ⟨A, hA, hbA, hzA, h0A⟩ := ch_one_al D #[.int .i64 d, .int .i64 fu, .int .i64 sn, .int .i64 sa] 77
  have HOW := Lib.hid (own_blw hownD hbA)
  have HNW := Lib.hid (World.news_of_block h0A)
  have HO : Hid (∀ u ∈ ([.int .i64 d, .int .i64 fu, .int .i64 sn, .int .i64 sa] : List Value), u.oneCell' = true) := Lib.hid (by
    intro u hu
    simp only [List.mem_cons, List.not_mem_nil, or_false] at hu
    rcases hu with rfl | rfl | rfl | rfl <;> rfl)
  have hsz : base ≤ A.heap.size := by omega
  have gA : A.cell? ⟨w.heap.size, 0, none⟩ = some (.int .i64 d) ∧ A.cell? ⟨w.heap.size, 1, none⟩ = some (.int .i64 fu) ∧ A.cell? ⟨w.heap.size, 2, none⟩ = some (.int .i64 sn) ∧ A.cell? ⟨w.heap.size, 3, none⟩ = some (.int .i64 sa) := by
    have k : ∀ j, A.cell? ⟨w.heap.size, j, none⟩ = D.cell? ⟨w.heap.size, j, none⟩ := fun j => hbA.cell (p := ⟨w.heap.size, j, none⟩) (by show w.heap.size < _; omega)
    rw [← hD] at gd
    exact ⟨(k _).trans gd.1, (k _).trans gd.2.1, (k _).trans gd.2.2.1, (k _).trans gd.2.2.2⟩
  have oA : A.cell? ⟨b, 0, none⟩ = some (.slice V n C) := (hbA.cell (p := ⟨b, 0, none⟩) (by show b < _; omega)).trans (Lib.cell_of_heap hBD 0)
  have hall : ∀ w3 gp cp, w3.ownsRow base 77 4 (.slice (some ⟨gp, 0, none⟩) (n + 1) cp) (n + 1) (xs ++ [.int .i64 d, .int .i64 fu, .int .i64 sn, .int .i64 sa]) → A.grownBy w3 (Value.slice V n C).ownBlock → ((Value.slice V n C).ownBlock = some gp ∨ gp = A.heap.size) → (w3.cell? ⟨w.heap.size, 0, none⟩ = some (.int .i64 d) ∧ w3.cell? ⟨w.heap.size, 1, none⟩ = some (.int .i64 fu) ∧ w3.cell? ⟨w.heap.size, 2, none⟩ = some (.int .i64 sn) ∧ w3.cell? ⟨w.heap.size, 3, none⟩ = some (.int .i64 sa)) ∧ (w3.cell? ⟨b, 0, none⟩ = some (.slice V n C) ∧ w3.frozen? ⟨b, 0, none⟩ = false) ∧ WW b base w (w3.setCell ⟨b, 0, none⟩ (.slice (some ⟨gp, 0, none⟩) (n + 1) cp)) ∧ Wri (w3.setCell ⟨b, 0, none⟩ (.slice (some ⟨gp, 0, none⟩) (n + 1) cp)) b base (n + 1) (xs ++ [.int .i64 d, .int .i64 fu, .int .i64 sn, .int .i64 sa]) 0 ST SL hi LO := fun w3 gp cp q1 q2 q3 => by
    have hlt := fun x hx => hown.lt x hx
    have hnb : some b ≠ (Value.slice V n C).ownBlock := fun e => by have := (hlt b e.symm).1; omega
    have hns : some w.heap.size ≠ (Value.slice V n C).ownBlock := fun e => by have := (hlt _ e.symm).2; omega
    have kb : w3.heap[b]? = D.heap[b]? := (q2.block b (by omega) hnb).trans (hbA.block b (by omega))
    have ks : ∀ j, w3.cell? ⟨w.heap.size, j, none⟩ = A.cell? ⟨w.heap.size, j, none⟩ := fun j => q2.cell_far ⟨w.heap.size, j, none⟩ (by show w.heap.size < _; omega) hns
    have hB3 := kb.trans hBD
    refine ⟨⟨(ks _).trans gA.1, (ks _).trans gA.2.1, (ks _).trans gA.2.2.1, (ks _).trans gA.2.2.2⟩, ⟨Lib.cell_of_heap hB3 0, Lib.frozen_of_heap hB3 0⟩, ?_, ⟨some ⟨gp, 0, none⟩, cp, heap_set hB3 0 _, own_but q1 ((But.refl b w3).setCell (p := ⟨b, 0, none⟩) (Or.inl rfl) _) hb⟩⟩
    have hWc : w.cell? ⟨b, 0, none⟩ = some (.slice V n C) := Lib.cell_of_heap hB 0
    have hsame : (w3.setCell ⟨b, 0, none⟩ (.slice (some ⟨gp, 0, none⟩) (n + 1) cp)).cell? ⟨b, 0, none⟩ = some (.slice (some ⟨gp, 0, none⟩) (n + 1) cp) := World.cell?_setCell_same _ _ _ (Lib.cell_of_heap hB3 0)
    have hVk : ∀ k, (Value.slice V n C).ownBlock = some k → V = some ⟨k, 0, none⟩ := fun k e => by
      rcases hown.2 with ⟨hv, h0⟩ | ⟨b', c', cur, hv, _⟩
      · rw [hv] at e; simp [Value.ownBlock] at e
      · injection hv with e1 _ _
        rw [e1] at e ⊢
        simp [Value.ownBlock] at e
        rw [e]
    have b1 : BB b base w D := BB.of_but hbutD hbs
    have b2 : BB b base D w3 := BB.of_below (((hbA.mono (by omega)) : Below base D A).grown q2 hsz (fun x hx => (hlt x hx).1))
    refine ⟨(b1.trans b2).trans (BB.of_but ((But.refl b w3).setCell (p := ⟨b, 0, none⟩) (Or.inl rfl) _) (by have := q2.size; omega)), fun k h1 h2 h3 => ?_, fun k h1 h2 => ?_⟩
    · have hno : some k ≠ (Value.slice V n C).ownBlock := fun e => h3 ⟨n, C, by rw [hWc, hVk k e.symm]⟩
      exact (Below.heap_setCell _ _ _ _ (by exact h2)).trans ((q2.block k (by omega) hno).trans ((hbA.block k (by omega)).trans (hbutD.block k h1 h2)))
    · obtain ⟨n', C', e⟩ := h2
      have e2 : Value.slice (some ⟨gp, 0, none⟩) (n + 1) cp = Value.slice (some ⟨k, 0, none⟩) n' C' := Option.some.inj (hsame.symm.trans e)
      injection e2 with e3 _ _
      injection e3 with e3
      injection e3 with e3
      subst e3
      rcases q3 with q3 | q3
      · exact ⟨n, C, by rw [hWc, hVk gp q3]⟩
      · omega
  obtain ⟨i0, hi0, hi1, hi2, hi3⟩ := info_parts infoStep
  have Hslot : Hid (∀ gp cp (w3 : World), w3.cell? ⟨b, 0, none⟩ = some (.slice V n C) → (w3.setCell ⟨b, 0, none⟩ (.slice (some ⟨gp, 0, none⟩) (n + 1) cp)).cell? ⟨b, 0, none⟩ = some (.slice (some ⟨gp, 0, none⟩) (n + 1) cp)) := Lib.hid (fun gp cp w3 q => World.cell?_setCell_same _ _ _ q)
  have Hall := Lib.hid hall
  have Hi := Lib.hid hi0
  have HiA := Lib.hid hi1
  have HiB := Lib.hid hi2
  have HiC := Lib.hid hi3
  have HW := Lib.hid hW
  have Hw1 := Lib.hid hw1
  have HDz := Lib.hid hDz
  rw [hA] at HOW HNW hsz gA oA Hall
  rw [hD, show w1.drew.alloc (.cells #[.int .i64 d, .int .i64 fu, .int .i64 sn, .int .i64 sa] 77) = (w1.alloc (.cells #[.int .i64 d, .int .i64 fu, .int .i64 sn, .int .i64 sa] 77)).drew from rfl] at HOW hsz gA oA Hall
  rw [hD, show w1.drew.alloc (.cells #[.int .i64 d, .int .i64 fu, .int .i64 sn, .int .i64 sa] 77) = (w1.alloc (.cells #[.int .i64 d, .int .i64 fu, .int .i64 sn, .int .i64 sa] 77)).drew from rfl] at HNW
  clear hall hW hw1 hD hA hDz hBD hbutD hownD hbA hzA h0A hi0 hi1 hi2 hi3 hB1 h01 hz1 hbut1 hown1 hB hown hbW hzW h0W hBW hownW
  go_enter Tryz.func42, Tryz.ntmps42
  go_upto_region 1 with fail
  rw [← HW.out]
  go_upto_region 2 with fail
  rw [← Hw1.out]
  clear c2 cf y1 yf
  refine wp_region_noPanic ?_
  refine wp_region_held_drew (S := fun w' => w'.cell? ⟨w.heap.size, 0, none⟩ = some (.int .i64 d) ∧ w'.cell? ⟨w.heap.size, 1, none⟩ = some (.int .i64 fu) ∧ w'.cell? ⟨w.heap.size, 2, none⟩ = some (.int .i64 sn) ∧ w'.cell? ⟨w.heap.size, 3, none⟩ = some (.int .i64 sa)) (by kernel_rfl) gd (fun hHeld => ?_)
  refine wpAnyH_take (i := 0) (v := ?_) rfl (by kernel_rfl) (by kernel_rfl) (by kernel_rfl) (fun _ _ _ h => h) (Or.inl ⟨by rfl, ?_⟩) (by assumption) ?_
  rotate_left
  · (intro w hSw; (try dsimp only at hSw); first | (go_simp; done) | (go_simp; with_reducible rfl))
  try simp only [Act.put, List.setIfInBounds_toArray, List.set_cons_zero, List.set_cons_succ]
  refine wpAnyH_take (i := 1) (v := ?_) rfl (by kernel_rfl) (by kernel_rfl) (by kernel_rfl) (fun _ _ _ h => h) (Or.inl ⟨by rfl, ?_⟩) (by assumption) ?_
  rotate_left
  · (intro w hSw; (try dsimp only at hSw); first | (go_simp; done) | (go_simp; with_reducible rfl))
  try simp only [Act.put, List.setIfInBounds_toArray, List.set_cons_zero, List.set_cons_succ]
  refine wpAnyH_take (i := 2) (v := ?_) rfl (by kernel_rfl) (by kernel_rfl) (by kernel_rfl) (fun _ _ _ h => h) (Or.inl ⟨by rfl, ?_⟩) (by assumption) ?_
  rotate_left
  · (intro w hSw; (try dsimp only at hSw); first | (go_simp; done) | (go_simp; with_reducible rfl))
  try simp only [Act.put, List.setIfInBounds_toArray, List.set_cons_zero, List.set_cons_succ]
  refine wpAnyH_take (i := 3) (v := ?_) rfl (by kernel_rfl) (by kernel_rfl) (by kernel_rfl) (fun _ _ _ h => h) (Or.inl ⟨by rfl, ?_⟩) (by assumption) ?_
  rotate_left
  · (intro w hSw; (try dsimp only at hSw); first | (go_simp; done) | (go_simp; with_reducible rfl))
  try simp only [Act.put, List.setIfInBounds_toArray, List.set_cons_zero, List.set_cons_succ]
  refine wpAnyH_take (i := 5) (v := ?_) rfl (by kernel_rfl) (by kernel_rfl) (by kernel_rfl) (fun _ _ _ h => h) (Or.inl ⟨by rfl, ?_⟩) (by assumption) ?_
  rotate_left
  · (intro w hSw; (try dsimp only at hSw); first | (go_simp; done) | (go_simp; with_reducible rfl))
  try simp only [Act.put, List.setIfInBounds_toArray, List.set_cons_zero, List.set_cons_succ]
  refine wpAnyH_ready (rs := [4, 6]) (by kernel_rfl) (by simp) ?_
  refine AllReadyH.cons rfl (fun K hK => ?_) (AllReadyH.cons rfl (fun K hK => ?_) (AllReadyH.nil))
  · go_simp
    refine hK.out _ _ ?_ (fun hHeld => ?_)
    · ((try dsimp only); first | with_reducible exact gd | with_reducible exact gA | with_reducible exact g3 | exact ⟨(set_far (by show w.heap.size ≠ b; omega)).trans g3.1, (set_far (by show w.heap.size ≠ b; omega)).trans g3.2.1, (set_far (by show w.heap.size ≠ b; omega)).trans g3.2.2.1, (set_far (by show w.heap.size ≠ b; omega)).trans g3.2.2.2⟩)
    clear hK K
    try simp only [Act.put, List.setIfInBounds_toArray, List.set_cons_zero, List.set_cons_succ]
    refine wpAnyH_ready (rs := [6]) (by kernel_rfl) (by simp) ?_
    refine AllReadyH.cons rfl (fun K hK => ?_) (AllReadyH.nil)
    go_simp
    refine hK.out _ _ ?_ (fun hHeld => ?_)
    · ((try dsimp only); first | with_reducible exact gd | with_reducible exact gA | with_reducible exact g3 | exact ⟨(set_far (by show w.heap.size ≠ b; omega)).trans g3.1, (set_far (by show w.heap.size ≠ b; omega)).trans g3.2.1, (set_far (by show w.heap.size ≠ b; omega)).trans g3.2.2.1, (set_far (by show w.heap.size ≠ b; omega)).trans g3.2.2.2⟩)
    clear hK K
    try simp only [Act.put, List.setIfInBounds_toArray, List.set_cons_zero, List.set_cons_succ]
    refine wpAnyH_ready (rs := [7]) (by kernel_rfl) (by simp) ?_
    refine AllReadyH.cons rfl (fun K hK => ?_) (AllReadyH.nil)
    refine step_append_lies _ rfl (.tmp 17) (.tmp 19) 38 rfl base 77 i0 (.agg #[.int .i64 0, .int .i64 0, .int .i64 0, .int .i64 0]) 4 32 Tryz.underlying38 Hi.out HiA.out HiB.out HiC.out rfl (by decide) (.slice V n C) n xs (by simp [Act.eval, Act.put]) HOW.out ⟨w1.heap.size, 0, none⟩ 1 1 [.int .i64 d, .int .i64 fu, .int .i64 sn, .int .i64 sa] (by simp [Act.eval, Act.put]) rfl HNW.out HO.out (by decide) (by unfold maxLen; omega) (by omega) hsz _ rfl ?_
    intro gp cp2 w3 hown2 hgrow hat hlt
    obtain ⟨g3, ⟨o3, of3⟩, hBB, hWri⟩ := Hall.out w3 gp cp2 hown2 hgrow hat
    have HBB := Lib.hid hBB
    have HWri := Lib.hid hWri
    clear hown2 hgrow hat hlt hBB hWri
    refine hK.out _ _ ?_ (fun hHeld => ?_)
    · ((try dsimp only); first | with_reducible exact gd | with_reducible exact gA | with_reducible exact g3 | exact ⟨(set_far (by show w.heap.size ≠ b; omega)).trans g3.1, (set_far (by show w.heap.size ≠ b; omega)).trans g3.2.1, (set_far (by show w.heap.size ≠ b; omega)).trans g3.2.2.1, (set_far (by show w.heap.size ≠ b; omega)).trans g3.2.2.2⟩)
    clear hK K
    try simp only [Act.put, List.setIfInBounds_toArray, List.set_cons_zero, List.set_cons_succ]
    refine wpAnyH_take (i := 8) (v := ?_) rfl (by kernel_rfl) (by kernel_rfl) (by kernel_rfl) (fun _ _ _ h => h) (Or.inl ⟨by rfl, ?_⟩) (by assumption) ?_
    rotate_left
    · (intro w hSw; (try dsimp only at hSw); first | (go_simp; done) | (go_simp; with_reducible rfl))
    try simp only [Act.put, List.setIfInBounds_toArray, List.set_cons_zero, List.set_cons_succ]
    refine wpAnyH_take (i := 9) (v := ?_) rfl (by kernel_rfl) (by kernel_rfl) (by kernel_rfl) (fun _ _ _ h => h) (Or.inl ⟨by rfl, ?_⟩) (by assumption) ?_
    rotate_left
    · (intro w hSw; (try dsimp only at hSw); first | (go_simp; done) | (go_simp; with_reducible rfl))
    try simp only [Act.put, List.setIfInBounds_toArray, List.set_cons_zero, List.set_cons_succ]
    refine wpAnyH_ready (rs := [10]) (by kernel_rfl) (by simp) ?_
    refine AllReadyH.cons rfl (fun K hK => ?_) (AllReadyH.nil)
    go_simp
    refine hK.out _ _ ?_ (fun hHeld => ?_)
    · ((try dsimp only); first | with_reducible exact gd | with_reducible exact gA | with_reducible exact g3 | exact ⟨(set_far (by show w.heap.size ≠ b; omega)).trans g3.1, (set_far (by show w.heap.size ≠ b; omega)).trans g3.2.1, (set_far (by show w.heap.size ≠ b; omega)).trans g3.2.2.1, (set_far (by show w.heap.size ≠ b; omega)).trans g3.2.2.2⟩)
    clear hK K
    try simp only [Act.put, List.setIfInBounds_toArray, List.set_cons_zero, List.set_cons_succ]
    refine wpAnyH_done (by kernel_rfl) ?_ _
    refine NoPanic.normal ?_
    obtain ⟨w4, hw4⟩ : ∃ w4, w4 = w3.setCell ⟨b, 0, none⟩ (.slice (some ⟨gp, 0, none⟩) (n + 1) cp2) := ⟨_, rfl⟩
    have s0 : w4.cell? ⟨b, 0, none⟩ = some (.slice (some ⟨gp, 0, none⟩) (n + 1) cp2) := by
      rw [hw4]
      obtain ⟨V9, C9, hB9, ho9⟩ := HWri.out
      exact (Hslot.out gp cp2 w3 o3)
    rw [← hw4] at HBB HWri
    rw [← hw4]
    clear hw4 gd gA g3 o1 oA o3 of3
    have e1 : ((n : Int) + 1 - 1) = n := by omega
    go_wp2
    go_ret
    exact ⟨rfl, HBB.out, HWri.out⟩
  · go_simp
    refine hK.out _ _ ?_ (fun hHeld => ?_)
    · ((try dsimp only); first | with_reducible exact gd | with_reducible exact gA | with_reducible exact g3 | exact ⟨(set_far (by show w.heap.size ≠ b; omega)).trans g3.1, (set_far (by show w.heap.size ≠ b; omega)).trans g3.2.1, (set_far (by show w.heap.size ≠ b; omega)).trans g3.2.2.1, (set_far (by show w.heap.size ≠ b; omega)).trans g3.2.2.2⟩)
    clear hK K
    try simp only [Act.put, List.setIfInBounds_toArray, List.set_cons_zero, List.set_cons_succ]
    refine wpAnyH_ready (rs := [4]) (by kernel_rfl) (by simp) ?_
    refine AllReadyH.cons rfl (fun K hK => ?_) (AllReadyH.nil)
    go_simp
    refine hK.out _ _ ?_ (fun hHeld => ?_)
    · ((try dsimp only); first | with_reducible exact gd | with_reducible exact gA | with_reducible exact g3 | exact ⟨(set_far (by show w.heap.size ≠ b; omega)).trans g3.1, (set_far (by show w.heap.size ≠ b; omega)).trans g3.2.1, (set_far (by show w.heap.size ≠ b; omega)).trans g3.2.2.1, (set_far (by show w.heap.size ≠ b; omega)).trans g3.2.2.2⟩)
    clear hK K
    try simp only [Act.put, List.setIfInBounds_toArray, List.set_cons_zero, List.set_cons_succ]
    refine wpAnyH_ready (rs := [7]) (by kernel_rfl) (by simp) ?_
    refine AllReadyH.cons rfl (fun K hK => ?_) (AllReadyH.nil)
    refine step_append_lies _ rfl (.tmp 17) (.tmp 19) 38 rfl base 77 i0 (.agg #[.int .i64 0, .int .i64 0, .int .i64 0, .int .i64 0]) 4 32 Tryz.underlying38 Hi.out HiA.out HiB.out HiC.out rfl (by decide) (.slice V n C) n xs (by simp [Act.eval, Act.put]) HOW.out ⟨w1.heap.size, 0, none⟩ 1 1 [.int .i64 d, .int .i64 fu, .int .i64 sn, .int .i64 sa] (by simp [Act.eval, Act.put]) rfl HNW.out HO.out (by decide) (by unfold maxLen; omega) (by omega) hsz _ rfl ?_
    intro gp cp2 w3 hown2 hgrow hat hlt
    obtain ⟨g3, ⟨o3, of3⟩, hBB, hWri⟩ := Hall.out w3 gp cp2 hown2 hgrow hat
    have HBB := Lib.hid hBB
    have HWri := Lib.hid hWri
    clear hown2 hgrow hat hlt hBB hWri
    refine hK.out _ _ ?_ (fun hHeld => ?_)
    · ((try dsimp only); first | with_reducible exact gd | with_reducible exact gA | with_reducible exact g3 | exact ⟨(set_far (by show w.heap.size ≠ b; omega)).trans g3.1, (set_far (by show w.heap.size ≠ b; omega)).trans g3.2.1, (set_far (by show w.heap.size ≠ b; omega)).trans g3.2.2.1, (set_far (by show w.heap.size ≠ b; omega)).trans g3.2.2.2⟩)
    clear hK K
    try simp only [Act.put, List.setIfInBounds_toArray, List.set_cons_zero, List.set_cons_succ]
    refine wpAnyH_take (i := 8) (v := ?_) rfl (by kernel_rfl) (by kernel_rfl) (by kernel_rfl) (fun _ _ _ h => h) (Or.inl ⟨by rfl, ?_⟩) (by assumption) ?_
    rotate_left
    · (intro w hSw; (try dsimp only at hSw); first | (go_simp; done) | (go_simp; with_reducible rfl))
    try simp only [Act.put, List.setIfInBounds_toArray, List.set_cons_zero, List.set_cons_succ]
    refine wpAnyH_take (i := 9) (v := ?_) rfl (by kernel_rfl) (by kernel_rfl) (by kernel_rfl) (fun _ _ _ h => h) (Or.inl ⟨by rfl, ?_⟩) (by assumption) ?_
    rotate_left
    · (intro w hSw; (try dsimp only at hSw); first | (go_simp; done) | (go_simp; with_reducible rfl))
    try simp only [Act.put, List.setIfInBounds_toArray, List.set_cons_zero, List.set_cons_succ]
    refine wpAnyH_ready (rs := [10]) (by kernel_rfl) (by simp) ?_
    refine AllReadyH.cons rfl (fun K hK => ?_) (AllReadyH.nil)
    go_simp
    refine hK.out _ _ ?_ (fun hHeld => ?_)
    · ((try dsimp only); first | with_reducible exact gd | with_reducible exact gA | with_reducible exact g3 | exact ⟨(set_far (by show w.heap.size ≠ b; omega)).trans g3.1, (set_far (by show w.heap.size ≠ b; omega)).trans g3.2.1, (set_far (by show w.heap.size ≠ b; omega)).trans g3.2.2.1, (set_far (by show w.heap.size ≠ b; omega)).trans g3.2.2.2⟩)
    clear hK K
    try simp only [Act.put, List.setIfInBounds_toArray, List.set_cons_zero, List.set_cons_succ]
    refine wpAnyH_done (by kernel_rfl) ?_ _
    refine NoPanic.normal ?_
    obtain ⟨w4, hw4⟩ : ∃ w4, w4 = w3.setCell ⟨b, 0, none⟩ (.slice (some ⟨gp, 0, none⟩) (n + 1) cp2) := ⟨_, rfl⟩
    have s0 : w4.cell? ⟨b, 0, none⟩ = some (.slice (some ⟨gp, 0, none⟩) (n + 1) cp2) := by
      rw [hw4]
      obtain ⟨V9, C9, hB9, ho9⟩ := HWri.out
      exact (Hslot.out gp cp2 w3 o3)
    rw [← hw4] at HBB HWri
    rw [← hw4]
    clear hw4 gd gA g3 o1 oA o3 of3
    have e1 : ((n : Int) + 1 - 1) = n := by omega
    go_wp2
    go_ret
    exact ⟨rfl, HBB.out, HWri.out⟩
end Go.Proofs.YtlgpbllkhbgppaaGreatDoor
