/-
  A block without instructions is laid down.
-/
import Derived.Test.YtglobeajmdieaaaDoorIrD
namespace Go.Proofs.YtglobeajmdieaaaDoor
open Go.RowKit
set_option linter.unusedVariables false
set_option linter.unusedSimpArgs false

theorem infoBlock : (Tryd.prog.info? 35).map (fun i => (i.zero, i.size, i.bytes)) = some (some (.agg #[.slice none 0 0, .slice none 0 0, .int .i64 0, .int .i64 0, .slice none 0 0]), 5, 88) := by kernel_rfl
/-- Five cells of a block stored one by one. -/
def put5 (w : World) (b : Nat) (v0 v1 v2 v3 v4 : Value) : World := ((((w.setCell ⟨b, 0, none⟩ v0).setCell ⟨b, 1, none⟩ v1).setCell ⟨b, 2, none⟩ v2).setCell ⟨b, 3, none⟩ v3).setCell ⟨b, 4, none⟩ v4
theorem put5_at {w : World} {b : Nat} {z0 z1 z2 z3 z4 : Value} {T : TypeId} (h : w.heap[b]? = some (.cells #[z0, z1, z2, z3, z4] T (0, 0))) (v0 v1 v2 v3 v4 : Value) : (put5 w b v0 v1 v2 v3 v4).heap[b]? = some (.cells #[v0, v1, v2, v3, v4] T (0, 0)) := by
  have h0 := heap_put h 0 v0
  simp only [List.setIfInBounds_toArray, List.set_cons_zero, List.set_cons_succ] at h0
  have h1 := heap_put h0 1 v1
  simp only [List.setIfInBounds_toArray, List.set_cons_zero, List.set_cons_succ] at h1
  have h2 := heap_put h1 2 v2
  simp only [List.setIfInBounds_toArray, List.set_cons_zero, List.set_cons_succ] at h2
  have h3 := heap_put h2 3 v3
  simp only [List.setIfInBounds_toArray, List.set_cons_zero, List.set_cons_succ] at h3
  exact heap_put h3 4 v4
theorem put5_bu {w : World} {b : Nat} (v0 v1 v2 v3 v4 : Value) : Bu b w (put5 w b v0 v1 v2 v3 v4) := (((((Bu.refl b w).setCell (Or.inl rfl) _).setCell (Or.inl rfl) _).setCell (Or.inl rfl) _).setCell (Or.inl rfl) _).setCell (Or.inl rfl) _
theorem cells5 {w : World} {b : Nat} {v0 v1 v2 v3 v4 : Value} {T : TypeId} (h : w.heap[b]? = some (.cells #[v0, v1, v2, v3, v4] T (0, 0))) : w.cell? ⟨b, 0, none⟩ = some v0 ∧ w.cell? ⟨b, 1, none⟩ = some v1 ∧ w.cell? ⟨b, 2, none⟩ = some v2 ∧ w.cell? ⟨b, 3, none⟩ = some v3 ∧ w.cell? ⟨b, 4, none⟩ = some v4 ∧ ∀ j, w.frozen? ⟨b, j, none⟩ = false :=
  ⟨Lib.cell_of_heap h 0, Lib.cell_of_heap h 1, Lib.cell_of_heap h 2, Lib.cell_of_heap h 3, Lib.cell_of_heap h 4, fun j => Lib.frozen_of_heap h j⟩
/-- What stands while a block is laid down. -/
structure BkS (w : World) (p : Nat) (C8 : Array Value) (w' : World) : Prop where
  hc : w'.heap[w.heap.size]? = some (.cells #[.pointer (some ⟨p, 0, none⟩)] 56 (0, 0))
  ho : w'.heap[w.heap.size + 1]? = some (.cells #[.slice none 0 0, .slice none 0 0, .int .i64 3, .int .i64 (-1), .slice none 0 0] 35 (0, 0))
  hp : w'.heap[p]? = some (.cells C8 49 (0, 0))
  hb : Below w.heap.size w w'
  hz : w.heap.size + 2 ≤ w'.heap.size
  hl : p < w.heap.size
theorem BkS.up {w w' w2 : World} {p : Nat} {C8 : Array Value} (h : BkS w p C8 w') (hb : Below w'.heap.size w' w2) : BkS w p C8 w2 :=
  ⟨(hb.block _ (heap_in h.hc)).trans h.hc, (hb.block _ (heap_in h.ho)).trans h.ho, (hb.block _ (heap_in h.hp)).trans h.hp, h.hb.trans (hb.mono h.hb.size), Nat.le_trans h.hz hb.size, h.hl⟩
theorem BkS.bu {w w' w2 : World} {p q : Nat} {C8 : Array Value} (h : BkS w p C8 w') (hb : Bu q w' w2) (hq : w.heap.size + 2 ≤ q) : BkS w p C8 w2 :=
  ⟨(hb.block _ (heap_in h.hc) (by omega)).trans h.hc, (hb.block _ (heap_in h.ho) (by omega)).trans h.ho, (hb.block _ (heap_in h.hp) (by have := h.hl; omega)).trans h.hp, hb.below h.hb (by omega) h.hb.size, Nat.le_trans h.hz hb.size, h.hl⟩
theorem BkS.drew {w w' : World} {p : Nat} {C8 : Array Value} (h : BkS w p C8 w') : BkS w p C8 w'.drew := ⟨h.hc, h.ho, h.hp, h.hb.drew, h.hz, h.hl⟩
def BkG (w : World) (p : Nat) (VB : Value) (w' : World) : Prop := w'.cell? ⟨w.heap.size, 0, none⟩ = some (.pointer (some ⟨p, 0, none⟩)) ∧ w'.cell? ⟨p, 1, none⟩ = some VB ∧ w'.cell? ⟨w.heap.size + 1, 1, none⟩ = some (.slice none 0 0) ∧ w'.cell? ⟨w.heap.size + 1, 2, none⟩ = some (.int .i64 3) ∧ w'.cell? ⟨w.heap.size + 1, 3, none⟩ = some (.int .i64 (-1)) ∧ w'.cell? ⟨w.heap.size + 1, 4, none⟩ = some (.slice none 0 0)
theorem BkS.gd {w w' : World} {p : Nat} {x0 x1 x2 x3 x4 x5 x6 x7 : Value} (h : BkS w p #[x0, x1, x2, x3, x4, x5, x6, x7] w') : BkG w p x1 w' :=
  ⟨Lib.cell_of_heap h.hc 0, Lib.cell_of_heap h.hp 1, Lib.cell_of_heap h.ho 1, Lib.cell_of_heap h.ho 2, Lib.cell_of_heap h.ho 3, Lib.cell_of_heap h.ho 4⟩

set_option maxRecDepth 100000 in
set_option maxHeartbeats 8000000 in
/-- A block that has nothing and goes nowhere; the first one that is laid down. -/
theorem block_none (p : Nat) (x0 x3 x4 x5 x6 : Value) (VB VI : Option Addr) (nB cB nI cI : Nat) (w : World)
    (hp : w.heap[p]? = some (.cells #[x0, .slice VB nB cB, .slice VI nI cI, x3, x4, x5, x6, .slice none 0 0] 49 (0, 0))) :
    Calls Tryd.prog 20 #[.pointer (some ⟨p, 0, none⟩), .agg #[.slice none 0 0, .slice none 0 0, .int .i64 3, .int .i64 (-1), .slice none 0 0]] w fun e w' => e = .returned (.tuple #[]) ∧ Bu p w w' ∧ ∃ g c, w'.heap[p]? = some (.cells #[x0, .slice VB nB cB, .slice VI nI cI, x3, x4, x5, x6, .slice (some ⟨g, 0, none⟩) 1 c] 49 (0, 0)) := by
  have hpl := heap_in hp
  have hmf : ∀ (fn : Fn) (first cap : Array Value) (w : World), (Instr.makeFunc fn first cap).run Tryd.prog w = .ok (.func fn first cap) w := fun _ _ _ _ => rfl
  obtain ⟨W, hW, hbW, hzW, hC, hO⟩ := r_two_al w #[.pointer (some ⟨p, 0, none⟩)] #[.slice none 0 0, .slice none 0 0, .int .i64 3, .int .i64 (-1), .slice none 0 0] 56 35
  have hS : BkS w p #[x0, .slice VB nB cB, .slice VI nI cI, x3, x4, x5, x6, .slice none 0 0] W.drew := ⟨hC, hO, (hbW.block p hpl).trans hp, hbW.drew, by show w.heap.size + 2 ≤ W.heap.size; omega, hpl⟩
  have gd := hS.gd
  unfold BkG at gd
  have HW := Lib.hid hW
  have HS := Lib.hid hS
  have HzW := Lib.hid hzW
  clear hW hbW hC hO hp hpl hS hzW
  go_enter Tryd.func20, Tryd.ntmps20
  go_upto_region 2 with fail
  rw [← HW.out]
  refine wp_region_noPanic ?_
  refine wp_region_held_drew (S := fun w' => w'.cell? ⟨w.heap.size, 0, none⟩ = some (.pointer (some ⟨p, 0, none⟩)) ∧ w'.cell? ⟨p, 1, none⟩ = some (.slice VB nB cB) ∧ w'.cell? ⟨w.heap.size + 1, 1, none⟩ = some (.slice none 0 0) ∧ w'.cell? ⟨w.heap.size + 1, 2, none⟩ = some (.int .i64 3) ∧ w'.cell? ⟨w.heap.size + 1, 3, none⟩ = some (.int .i64 (-1)) ∧ w'.cell? ⟨w.heap.size + 1, 4, none⟩ = some (.slice none 0 0)) (by kernel_rfl) gd (fun hHeld => ?_)
  refine wpAnyH_take (i := 0) (v := ?_) rfl (by kernel_rfl) (by kernel_rfl) (by kernel_rfl) (fun _ _ _ h => h) (Or.inl ⟨by rfl, ?_⟩) (by assumption) ?_
  rotate_left
  · (intro w hSw; (try dsimp only at hSw); first | (go_simp; done) | (go_simp; with_reducible rfl))
  try simp only [Act.put, List.setIfInBounds_toArray, List.set_cons_zero, List.set_cons_succ]
  refine wpAnyH_take (i := 1) (v := ?_) rfl (by kernel_rfl) (by kernel_rfl) (by kernel_rfl) (fun _ _ _ h => h) (Or.inl ⟨by rfl, ?_⟩) (by assumption) ?_
  rotate_left
  · (intro w hSw; (try dsimp only at hSw); first | (go_simp; done) | (go_simp; with_reducible rfl))
  try simp only [Act.put, List.setIfInBounds_toArray, List.set_cons_zero, List.set_cons_succ]
  refine wpAnyH_take (i := 2) (v := ?_) rfl (by kernel_rfl) (by kernel_rfl) (by kernel_rfl) (fun _ _ _ h => h) (Or.inl ⟨by rfl, ?_⟩) (by assumption) ?_
  rotate_left
  · (intro w hSw; (try dsimp only at hSw); first | (go_simp; done) | (go_simp; with_reducible rfl))
  try simp only [Act.put, List.setIfInBounds_toArray, List.set_cons_zero, List.set_cons_succ]
  refine wpAnyH_take (i := 3) (v := ?_) rfl (by kernel_rfl) (by kernel_rfl) (by kernel_rfl) (fun _ _ _ h => h) (Or.inl ⟨by rfl, ?_⟩) (by assumption) ?_
  rotate_left
  · (intro w hSw; (try dsimp only at hSw); first | (go_simp; done) | (go_simp; with_reducible rfl))
  try simp only [Act.put, List.setIfInBounds_toArray, List.set_cons_zero, List.set_cons_succ]
  refine wpAnyH_take (i := 4) (v := ?_) rfl (by kernel_rfl) (by kernel_rfl) (by kernel_rfl) (fun _ _ _ h => h) (Or.inl ⟨by rfl, ?_⟩) (by assumption) ?_
  rotate_left
  · (intro w hSw; (try dsimp only at hSw); first | (go_simp; done) | (go_simp; with_reducible rfl))
  try simp only [Act.put, List.setIfInBounds_toArray, List.set_cons_zero, List.set_cons_succ]
  refine wpAnyH_take (i := 5) (v := ?_) rfl (by kernel_rfl) (by kernel_rfl) (by kernel_rfl) (fun _ _ _ h => h) (Or.inl ⟨by rfl, ?_⟩) (by assumption) ?_
  rotate_left
  · (intro w hSw; (try dsimp only at hSw); first | (go_simp; done) | (go_simp; with_reducible rfl))
  try simp only [Act.put, List.setIfInBounds_toArray, List.set_cons_zero, List.set_cons_succ]
  refine wpAnyH_take (i := 6) (v := ?_) rfl (by kernel_rfl) (by kernel_rfl) (by kernel_rfl) (fun _ _ _ h => h) (Or.inl ⟨by rfl, ?_⟩) (by assumption) ?_
  rotate_left
  · (intro w hSw; (try dsimp only at hSw); first | (go_simp; done) | (go_simp; with_reducible rfl))
  try simp only [Act.put, List.setIfInBounds_toArray, List.set_cons_zero, List.set_cons_succ]
  refine wpAnyH_take (i := 9) (v := ?_) rfl (by kernel_rfl) (by kernel_rfl) (by kernel_rfl) (fun _ _ _ h => h) (Or.inl ⟨by rfl, ?_⟩) (by assumption) ?_
  rotate_left
  · (intro w hSw; (try dsimp only at hSw); first | (go_simp; done) | (go_simp; with_reducible rfl))
  try simp only [Act.put, List.setIfInBounds_toArray, List.set_cons_zero, List.set_cons_succ]
  refine wpAnyH_take (i := 10) (v := ?_) rfl (by kernel_rfl) (by kernel_rfl) (by kernel_rfl) (fun _ _ _ h => h) (Or.inl ⟨by rfl, ?_⟩) (by assumption) ?_
  rotate_left
  · (intro w hSw; (try dsimp only at hSw); first | (go_simp; done) | (go_simp; with_reducible rfl))
  try simp only [Act.put, List.setIfInBounds_toArray, List.set_cons_zero, List.set_cons_succ]
  refine wpAnyH_take (i := 11) (v := ?_) rfl (by kernel_rfl) (by kernel_rfl) (by kernel_rfl) (fun _ _ _ h => h) (Or.inl ⟨by rfl, ?_⟩) (by assumption) ?_
  rotate_left
  · (intro w hSw; (try dsimp only at hSw); first | (go_simp; done) | (go_simp; with_reducible rfl))
  try simp only [Act.put, List.setIfInBounds_toArray, List.set_cons_zero, List.set_cons_succ]
  refine wpAnyH_ready (rs := [7, 14]) (by kernel_rfl) (by simp) ?_
  refine AllReadyH.cons rfl (fun K hK => ?_) (AllReadyH.cons rfl (fun K hK => ?_) (AllReadyH.nil))
  · go_simp
    refine (without_nil none 0 _ _).mono ?_
    rintro e w9 ⟨rfl, rfl⟩
    refine hK.out _ _ ?_ (fun hHeld => ?_)
    · ((try dsimp only); first | with_reducible exact gd | with_reducible exact g1 | with_reducible exact g2 | with_reducible exact g3 | with_reducible exact g4 | with_reducible exact g5 | with_reducible exact g6)
    clear hK K
    try simp only [Act.put, List.setIfInBounds_toArray, List.set_cons_zero, List.set_cons_succ]
    refine wpAnyH_ready (rs := [8, 14]) (by kernel_rfl) (by simp) ?_
    refine AllReadyH.cons rfl (fun K hK => ?_) (AllReadyH.cons rfl (fun K hK => ?_) (AllReadyH.nil))
    · go_simp
      refine (renamedAll_nil VB nB cB none 0 _).mono ?_
      rintro e w1 ⟨B, rfl, hb⟩
      have hS1 := HS.out.up hb
      have g4 : w1.cell? ⟨w.heap.size, 0, none⟩ = some (.pointer (some ⟨p, 0, none⟩)) ∧ w1.cell? ⟨p, 1, none⟩ = some (.slice VB nB cB) ∧ w1.cell? ⟨w.heap.size + 1, 1, none⟩ = some (.slice none 0 0) ∧ w1.cell? ⟨w.heap.size + 1, 2, none⟩ = some (.int .i64 3) ∧ w1.cell? ⟨w.heap.size + 1, 3, none⟩ = some (.int .i64 (-1)) ∧ w1.cell? ⟨w.heap.size + 1, 4, none⟩ = some (.slice none 0 0) := hS1.gd
      have HS := Lib.hid hS1
      
      clear hS1 hb
      refine hK.out _ _ ?_ (fun hHeld => ?_)
      · ((try dsimp only); first | with_reducible exact gd | with_reducible exact g1 | with_reducible exact g2 | with_reducible exact g3 | with_reducible exact g4 | with_reducible exact g5 | with_reducible exact g6)
      clear hK K
      try simp only [Act.put, List.setIfInBounds_toArray, List.set_cons_zero, List.set_cons_succ]
      refine wpAnyH_ready (rs := [12, 14]) (by kernel_rfl) (by simp) ?_
      refine AllReadyH.cons rfl (fun K hK => ?_) (AllReadyH.cons rfl (fun K hK => ?_) (AllReadyH.nil))
      · go_simp
        refine (end_none p x0 x3 x4 x5 x6 (.slice none 0 0) VB VI nB cB nI cI _ HS.out.hp).mono ?_
        rintro e w2 ⟨B2, rfl, hb⟩
        have hS2 := HS.out.up hb
        have g5 : w2.cell? ⟨w.heap.size, 0, none⟩ = some (.pointer (some ⟨p, 0, none⟩)) ∧ w2.cell? ⟨p, 1, none⟩ = some (.slice VB nB cB) ∧ w2.cell? ⟨w.heap.size + 1, 1, none⟩ = some (.slice none 0 0) ∧ w2.cell? ⟨w.heap.size + 1, 2, none⟩ = some (.int .i64 3) ∧ w2.cell? ⟨w.heap.size + 1, 3, none⟩ = some (.int .i64 (-1)) ∧ w2.cell? ⟨w.heap.size + 1, 4, none⟩ = some (.slice none 0 0) := hS2.gd
        have HS := Lib.hid hS2
        
        clear hS2 hb
        refine hK.out _ _ ?_ (fun hHeld => ?_)
        · ((try dsimp only); first | with_reducible exact gd | with_reducible exact g1 | with_reducible exact g2 | with_reducible exact g3 | with_reducible exact g4 | with_reducible exact g5 | with_reducible exact g6)
        clear hK K
        try simp only [Act.put, List.setIfInBounds_toArray, List.set_cons_zero, List.set_cons_succ]
        refine wpAnyH_take (i := 13) (v := ?_) rfl (by kernel_rfl) (by kernel_rfl) (by kernel_rfl) (fun _ _ _ h => h) (Or.inl ⟨by rfl, ?_⟩) (by assumption) ?_
        rotate_left
        · (intro w hSw; (try dsimp only at hSw); first | (go_simp; done) | (go_simp; with_reducible rfl))
        try simp only [Act.put, List.setIfInBounds_toArray, List.set_cons_zero, List.set_cons_succ]
        refine wpAnyH_ready (rs := [14]) (by kernel_rfl) (by simp) ?_
        refine AllReadyH.cons rfl (fun K hK => ?_) (AllReadyH.nil)
        go_simp
        obtain ⟨w3, hw3, hb3, hz3, h03⟩ := r_one_al w2 #[.slice none 0 0, .slice none 0 0, .int .i64 0, .int .i64 0, .slice none 0 0] 35
        rw [← hw3]
        have hS3 := HS.out.up hb3
        have g3 : w3.cell? ⟨w.heap.size, 0, none⟩ = some (.pointer (some ⟨p, 0, none⟩)) ∧ w3.cell? ⟨p, 1, none⟩ = some (.slice VB nB cB) ∧ w3.cell? ⟨w.heap.size + 1, 1, none⟩ = some (.slice none 0 0) ∧ w3.cell? ⟨w.heap.size + 1, 2, none⟩ = some (.int .i64 3) ∧ w3.cell? ⟨w.heap.size + 1, 3, none⟩ = some (.int .i64 (-1)) ∧ w3.cell? ⟨w.heap.size + 1, 4, none⟩ = some (.slice none 0 0) := hS3.gd
        have hz9 : w.heap.size + 2 ≤ w2.heap.size := HS.out.hz
        have HS := Lib.hid hS3
        obtain ⟨z, hz⟩ : ∃ z, z = w2.heap.size := ⟨_, rfl⟩
        rw [← hz] at h03 hz9 ⊢
        have HZ := Lib.hid h03
        clear hS3 hb3 hz3 h03 hw3 hz
        refine hK.out _ _ ?_ (fun hHeld => ?_)
        · ((try dsimp only); first | with_reducible exact gd | with_reducible exact g1 | with_reducible exact g2 | with_reducible exact g3 | with_reducible exact g4 | with_reducible exact g5 | with_reducible exact g6)
        clear hK K
        try simp only [Act.put, List.setIfInBounds_toArray, List.set_cons_zero, List.set_cons_succ]
        refine wpAnyH_ready (rs := [15]) (by kernel_rfl) (by simp) ?_
        refine AllReadyH.cons rfl (fun K hK => ?_) (AllReadyH.nil)
        obtain ⟨z0, z1, z2, z3, z4, zf⟩ := cells5 HZ.out
        obtain ⟨w5, hw5⟩ : ∃ w5, w5 = put5 w3 z (.slice none 0 0) (.slice B 0 0) (.int .i64 3) (.int .i64 (-1)) (.slice B2 0 0) := ⟨_, rfl⟩
        have hZ5 : w5.heap[z]? = some (.cells #[.slice none 0 0, .slice B 0 0, .int .i64 3, .int .i64 (-1), .slice B2 0 0] 35 (0, 0)) := by rw [hw5]; exact put5_at HZ.out _ _ _ _ _
        have hS5 : BkS w p #[x0, .slice VB nB cB, .slice VI nI cI, x3, x4, x5, x6, .slice none 0 0] w5 := by rw [hw5]; exact HS.out.bu (put5_bu _ _ _ _ _) hz9
        have g6 : w5.cell? ⟨w.heap.size, 0, none⟩ = some (.pointer (some ⟨p, 0, none⟩)) ∧ w5.cell? ⟨p, 1, none⟩ = some (.slice VB nB cB) ∧ w5.cell? ⟨w.heap.size + 1, 1, none⟩ = some (.slice none 0 0) ∧ w5.cell? ⟨w.heap.size + 1, 2, none⟩ = some (.int .i64 3) ∧ w5.cell? ⟨w.heap.size + 1, 3, none⟩ = some (.int .i64 (-1)) ∧ w5.cell? ⟨w.heap.size + 1, 4, none⟩ = some (.slice none 0 0) := hS5.gd
        unfold put5 at hw5
        have HZ := Lib.hid hZ5
        have HS := Lib.hid hS5
        clear hZ5 hS5
        go_simp
        rw [← hw5]
        clear hw5 z0 z1 z2 z3 z4 zf
        refine hK.out _ _ ?_ (fun hHeld => ?_)
        · ((try dsimp only); first | with_reducible exact gd | with_reducible exact g1 | with_reducible exact g2 | with_reducible exact g3 | with_reducible exact g4 | with_reducible exact g5 | with_reducible exact g6)
        clear hK K
        try simp only [Act.put, List.setIfInBounds_toArray, List.set_cons_zero, List.set_cons_succ]
        refine wpAnyH_done (by kernel_rfl) ?_ _
        refine NoPanic.normal ?_
        clear gd
        (try clear g1)
        (try clear g2)
        (try clear g3)
        (try clear g4)
        (try clear g5)
        (try clear g6)
        have l0 := Lib.cell_of_heap HS.out.ho 0
        go_wp2
        refine wp_loop_rounds 1 ?_
        rw [rounds_succ]
        go_upto_region 14 with fail
        obtain ⟨A, hA, hbA, hzA, h0A⟩ := r_one_al w5 #[.slice none 0 0, .slice B 0 0, .int .i64 3, .int .i64 (-1), .slice B2 0 0] 35
        have ge : w5.drew.cell? ⟨w.heap.size, 0, none⟩ = some (.pointer (some ⟨p, 0, none⟩)) ∧ w5.drew.cell? ⟨z, 0, none⟩ = some (.slice none 0 0) ∧ w5.drew.cell? ⟨z, 1, none⟩ = some (.slice B 0 0) ∧ w5.drew.cell? ⟨z, 2, none⟩ = some (.int .i64 3) ∧ w5.drew.cell? ⟨z, 3, none⟩ = some (.int .i64 (-1)) ∧ w5.drew.cell? ⟨z, 4, none⟩ = some (.slice B2 0 0) := ⟨Lib.cell_of_heap HS.out.hc 0, (cells5 HZ.out).1, (cells5 HZ.out).2.1, (cells5 HZ.out).2.2.1, (cells5 HZ.out).2.2.2.1, (cells5 HZ.out).2.2.2.2.1⟩
        have o5 : w5.drew.cell? ⟨p, 7, none⟩ = some (.slice none 0 0) := Lib.cell_of_heap HS.out.hp 7
        have kA : ∀ q : Addr, q.block < w5.heap.size → A.drew.cell? q = w5.drew.cell? q := fun q hq => hbA.cell hq
        have lp : p < w5.heap.size := heap_in HS.out.hp
        have lc : w.heap.size < w5.heap.size := heap_in HS.out.hc
        have lz : z < w5.heap.size := heap_in HZ.out
        have gA : A.drew.cell? ⟨w.heap.size, 0, none⟩ = some (.pointer (some ⟨p, 0, none⟩)) ∧ A.drew.cell? ⟨z, 0, none⟩ = some (.slice none 0 0) ∧ A.drew.cell? ⟨z, 1, none⟩ = some (.slice B 0 0) ∧ A.drew.cell? ⟨z, 2, none⟩ = some (.int .i64 3) ∧ A.drew.cell? ⟨z, 3, none⟩ = some (.int .i64 (-1)) ∧ A.drew.cell? ⟨z, 4, none⟩ = some (.slice B2 0 0) := ⟨(kA _ lc).trans ge.1, (kA _ lz).trans ge.2.1, (kA _ lz).trans ge.2.2.1, (kA _ lz).trans ge.2.2.2.1, (kA _ lz).trans ge.2.2.2.2.1, (kA _ lz).trans ge.2.2.2.2.2⟩
        have oA : A.drew.cell? ⟨p, 7, none⟩ = some (.slice none 0 0) := (kA _ lp).trans o5
        have HNW := Lib.hid (World.news_of_block (w := A.drew) h0A)
        have HOW := Lib.hid (World.ownsRow_nil A.drew w.heap.size 35 5)
        have HO : Hid (∀ u ∈ ([.slice none 0 0, .slice B 0 0, .int .i64 3, .int .i64 (-1), .slice B2 0 0] : List Value), u.oneCell' = true) := Lib.hid (by
          intro u hu
          simp only [List.mem_cons, List.not_mem_nil, or_false] at hu
          rcases hu with rfl | rfl | rfl | rfl | rfl <;> rfl)
        have hsz : w.heap.size ≤ A.drew.heap.size := by show w.heap.size ≤ A.heap.size; omega
        obtain ⟨i0, hi0, hi1, hi2, hi3⟩ := info_parts infoBlock
        have hall : ∀ w6 gp cp, A.drew.grownBy w6 (Value.slice none 0 0).ownBlock → (w6.cell? ⟨w.heap.size, 0, none⟩ = some (.pointer (some ⟨p, 0, none⟩)) ∧ w6.cell? ⟨z, 0, none⟩ = some (.slice none 0 0) ∧ w6.cell? ⟨z, 1, none⟩ = some (.slice B 0 0) ∧ w6.cell? ⟨z, 2, none⟩ = some (.int .i64 3) ∧ w6.cell? ⟨z, 3, none⟩ = some (.int .i64 (-1)) ∧ w6.cell? ⟨z, 4, none⟩ = some (.slice B2 0 0)) ∧ (w6.cell? ⟨p, 7, none⟩ = some (.slice none 0 0) ∧ w6.frozen? ⟨p, 7, none⟩ = false) ∧ (Bu p w (w6.setCell ⟨p, 7, none⟩ (.slice (some ⟨gp, 0, none⟩) 1 cp)) ∧ ∃ g c, (w6.setCell ⟨p, 7, none⟩ (.slice (some ⟨gp, 0, none⟩) 1 cp)).heap[p]? = some (.cells #[x0, .slice VB nB cB, .slice VI nI cI, x3, x4, x5, x6, .slice (some ⟨g, 0, none⟩) 1 c] 49 (0, 0))) := fun w6 gp cp hg => by
          have k6 : ∀ k, k < A.heap.size → w6.heap[k]? = A.heap[k]? := fun k hk => hg.block k hk (by simp [Value.ownBlock])
          have c6 : ∀ q : Addr, q.block < A.heap.size → w6.cell? q = A.drew.cell? q := fun q hq => World.cell?_of_block (k6 _ hq)
          have hp6 := (k6 p (by omega)).trans ((hbA.block p lp).trans HS.out.hp)
          have hb6 : Below w.heap.size w w6 := HS.out.hb.trans ⟨hg.os.trans hbA.os, hg.tape.trans hbA.tape, hg.output.trans hbA.output, Nat.le_trans hbA.size hg.size, fun k hk => (k6 k (by omega)).trans (hbA.block k (by omega))⟩
          exact ⟨⟨(c6 _ (by show w.heap.size < _; omega)).trans gA.1, (c6 _ (by show z < _; omega)).trans gA.2.1, (c6 _ (by show z < _; omega)).trans gA.2.2.1, (c6 _ (by show z < _; omega)).trans gA.2.2.2.1, (c6 _ (by show z < _; omega)).trans gA.2.2.2.2.1, (c6 _ (by show z < _; omega)).trans gA.2.2.2.2.2⟩, ⟨Lib.cell_of_heap hp6 7, Lib.frozen_of_heap hp6 7⟩, Bu.setCell (g := p) (p := ⟨p, 7, none⟩) (Bu.of_below hb6) (Or.inl rfl) _, gp, cp, heap_put hp6 7 _⟩
        have Hall := Lib.hid hall
        have Hi := Lib.hid hi0
        have HiA := Lib.hid hi1
        have HiB := Lib.hid hi2
        have HiC := Lib.hid hi3
        have nz : w.heap.size ≠ p := by have := HS.out.hl; omega
        have nz2 : z ≠ p := by have := HS.out.hl; omega
        have HA := Lib.hid hA
        clear hall hi0 hi1 hi2 hi3 hbA hzA h0A kA lc lp lz HS HZ l0 hA
        refine wp_region_noPanic ?_
        refine wp_region_held_drew (S := fun w' => w'.cell? ⟨w.heap.size, 0, none⟩ = some (.pointer (some ⟨p, 0, none⟩)) ∧ w'.cell? ⟨z, 0, none⟩ = some (.slice none 0 0) ∧ w'.cell? ⟨z, 1, none⟩ = some (.slice B 0 0) ∧ w'.cell? ⟨z, 2, none⟩ = some (.int .i64 3) ∧ w'.cell? ⟨z, 3, none⟩ = some (.int .i64 (-1)) ∧ w'.cell? ⟨z, 4, none⟩ = some (.slice B2 0 0)) (by kernel_rfl) ge (fun hHeld => ?_)
        refine wpAnyH_take (i := 0) (v := ?_) rfl (by kernel_rfl) (by kernel_rfl) (by kernel_rfl) (fun _ _ _ h => h) (Or.inl ⟨by rfl, ?_⟩) (by assumption) ?_
        rotate_left
        · (intro w hSw; (try dsimp only at hSw); first | (go_simp; done) | (go_simp; with_reducible rfl))
        try simp only [Act.put, List.setIfInBounds_toArray, List.set_cons_zero, List.set_cons_succ]
        refine wpAnyH_take (i := 1) (v := ?_) rfl (by kernel_rfl) (by kernel_rfl) (by kernel_rfl) (fun _ _ _ h => h) (Or.inl ⟨by rfl, ?_⟩) (by assumption) ?_
        rotate_left
        · (intro w hSw; (try dsimp only at hSw); first | (go_simp; done) | (go_simp; with_reducible rfl))
        try simp only [Act.put, List.setIfInBounds_toArray, List.set_cons_zero, List.set_cons_succ]
        refine wpAnyH_take (i := 2) (v := ?_) rfl (by kernel_rfl) (by kernel_rfl) (by kernel_rfl) (fun _ _ _ h => h) (Or.inl ⟨by rfl, ?_⟩) (by assumption) ?_
        rotate_left
        · (intro w hSw; (try dsimp only at hSw); first | (go_simp; done) | (go_simp; with_reducible rfl))
        try simp only [Act.put, List.setIfInBounds_toArray, List.set_cons_zero, List.set_cons_succ]
        refine wpAnyH_take (i := 3) (v := ?_) rfl (by kernel_rfl) (by kernel_rfl) (by kernel_rfl) (fun _ _ _ h => h) (Or.inl ⟨by rfl, ?_⟩) (by assumption) ?_
        rotate_left
        · (intro w hSw; (try dsimp only at hSw); first | (go_simp; done) | (go_simp; with_reducible rfl))
        try simp only [Act.put, List.setIfInBounds_toArray, List.set_cons_zero, List.set_cons_succ]
        refine wpAnyH_take (i := 4) (v := ?_) rfl (by kernel_rfl) (by kernel_rfl) (by kernel_rfl) (fun _ _ _ h => h) (Or.inl ⟨by rfl, ?_⟩) (by assumption) ?_
        rotate_left
        · (intro w hSw; (try dsimp only at hSw); first | (go_simp; done) | (go_simp; with_reducible rfl))
        try simp only [Act.put, List.setIfInBounds_toArray, List.set_cons_zero, List.set_cons_succ]
        refine wpAnyH_take (i := 6) (v := ?_) rfl (by kernel_rfl) (by kernel_rfl) (by kernel_rfl) (fun _ _ _ h => h) (Or.inl ⟨by rfl, ?_⟩) (by assumption) ?_
        rotate_left
        · (intro w hSw; (try dsimp only at hSw); first | (go_simp; done) | (go_simp; with_reducible rfl))
        try simp only [Act.put, List.setIfInBounds_toArray, List.set_cons_zero, List.set_cons_succ]
        refine wpAnyH_ready (rs := [5, 7]) (by kernel_rfl) (by simp) ?_
        refine AllReadyH.cons rfl (fun K hK => ?_) (AllReadyH.cons rfl (fun K hK => ?_) (AllReadyH.nil))
        · go_simp
          refine hK.out _ _ ?_ (fun hHeld => ?_)
          · ((try dsimp only); first | with_reducible exact ge | with_reducible exact gA | with_reducible exact g7 | exact ⟨(set_off nz).trans g7.1, (set_off nz2).trans g7.2.1, (set_off nz2).trans g7.2.2.1, (set_off nz2).trans g7.2.2.2.1, (set_off nz2).trans g7.2.2.2.2.1, (set_off nz2).trans g7.2.2.2.2.2⟩)
          clear hK K
          try simp only [Act.put, List.setIfInBounds_toArray, List.set_cons_zero, List.set_cons_succ]
          refine wpAnyH_ready (rs := [7]) (by kernel_rfl) (by simp) ?_
          refine AllReadyH.cons rfl (fun K hK => ?_) (AllReadyH.nil)
          go_simp
          (try rw [← HA.out])
          refine hK.out _ _ ?_ (fun hHeld => ?_)
          · ((try dsimp only); first | with_reducible exact ge | with_reducible exact gA | with_reducible exact g7 | exact ⟨(set_off nz).trans g7.1, (set_off nz2).trans g7.2.1, (set_off nz2).trans g7.2.2.1, (set_off nz2).trans g7.2.2.2.1, (set_off nz2).trans g7.2.2.2.2.1, (set_off nz2).trans g7.2.2.2.2.2⟩)
          clear hK K
          try simp only [Act.put, List.setIfInBounds_toArray, List.set_cons_zero, List.set_cons_succ]
          refine wpAnyH_ready (rs := [8]) (by kernel_rfl) (by simp) ?_
          refine AllReadyH.cons rfl (fun K hK => ?_) (AllReadyH.nil)
          refine step_append_lies _ rfl (.tmp 93) (.tmp 95) 24 rfl w.heap.size 35 i0 (.agg #[.slice none 0 0, .slice none 0 0, .int .i64 0, .int .i64 0, .slice none 0 0]) 5 88 Tryd.underlying24 Hi.out HiA.out HiB.out HiC.out rfl (by decide) (.slice none 0 0) 0 [] (by simp [Act.eval, Act.put]) HOW.out ⟨w5.heap.size, 0, none⟩ 1 1 [.slice none 0 0, .slice B 0 0, .int .i64 3, .int .i64 (-1), .slice B2 0 0] (by simp [Act.eval, Act.put]) rfl HNW.out HO.out (by decide) (by decide) (by decide) hsz _ rfl ?_
          intro gp cp2 w6 hown2 hgrow hat hlt
          obtain ⟨g7, ⟨o3, of3⟩, hBu, hE⟩ := Hall.out w6 gp cp2 hgrow
          have HBu := Lib.hid hBu
          have HE := Lib.hid hE
          clear hown2 hgrow hat hlt hBu hE Hall
          refine hK.out _ _ ?_ (fun hHeld => ?_)
          · ((try dsimp only); first | with_reducible exact ge | with_reducible exact gA | with_reducible exact g7 | exact ⟨(set_off nz).trans g7.1, (set_off nz2).trans g7.2.1, (set_off nz2).trans g7.2.2.1, (set_off nz2).trans g7.2.2.2.1, (set_off nz2).trans g7.2.2.2.2.1, (set_off nz2).trans g7.2.2.2.2.2⟩)
          clear hK K
          try simp only [Act.put, List.setIfInBounds_toArray, List.set_cons_zero, List.set_cons_succ]
          refine wpAnyH_take (i := 9) (v := ?_) rfl (by kernel_rfl) (by kernel_rfl) (by kernel_rfl) (fun _ _ _ h => h) (Or.inl ⟨by rfl, ?_⟩) (by assumption) ?_
          rotate_left
          · (intro w hSw; (try dsimp only at hSw); first | (go_simp; done) | (go_simp; with_reducible rfl))
          try simp only [Act.put, List.setIfInBounds_toArray, List.set_cons_zero, List.set_cons_succ]
          refine wpAnyH_take (i := 10) (v := ?_) rfl (by kernel_rfl) (by kernel_rfl) (by kernel_rfl) (fun _ _ _ h => h) (Or.inl ⟨by rfl, ?_⟩) (by assumption) ?_
          rotate_left
          · (intro w hSw; (try dsimp only at hSw); first | (go_simp; done) | (go_simp; with_reducible rfl))
          try simp only [Act.put, List.setIfInBounds_toArray, List.set_cons_zero, List.set_cons_succ]
          refine wpAnyH_take (i := 11) (v := ?_) rfl (by kernel_rfl) (by kernel_rfl) (by kernel_rfl) (fun _ _ _ h => h) (Or.inl ⟨by rfl, ?_⟩) (by assumption) ?_
          rotate_left
          · (intro w hSw; (try dsimp only at hSw); first | (go_simp; done) | (go_simp; with_reducible rfl))
          try simp only [Act.put, List.setIfInBounds_toArray, List.set_cons_zero, List.set_cons_succ]
          refine wpAnyH_ready (rs := [12]) (by kernel_rfl) (by simp) ?_
          refine AllReadyH.cons rfl (fun K hK => ?_) (AllReadyH.nil)
          go_simp
          refine hK.out _ _ ?_ (fun hHeld => ?_)
          · ((try dsimp only); first | with_reducible exact ge | with_reducible exact gA | with_reducible exact g7 | exact ⟨(set_off nz).trans g7.1, (set_off nz2).trans g7.2.1, (set_off nz2).trans g7.2.2.1, (set_off nz2).trans g7.2.2.2.1, (set_off nz2).trans g7.2.2.2.2.1, (set_off nz2).trans g7.2.2.2.2.2⟩)
          clear hK K
          try simp only [Act.put, List.setIfInBounds_toArray, List.set_cons_zero, List.set_cons_succ]
          refine wpAnyH_done (by kernel_rfl) ?_ _
          refine NoPanic.normal ?_
          clear ge gA g7 o5 oA o3 of3
          go_wp2
          go_end0
          exact ⟨rfl, HBu.out, HE.out⟩
        · go_simp
          (try rw [← HA.out])
          refine hK.out _ _ ?_ (fun hHeld => ?_)
          · ((try dsimp only); first | with_reducible exact ge | with_reducible exact gA | with_reducible exact g7 | exact ⟨(set_off nz).trans g7.1, (set_off nz2).trans g7.2.1, (set_off nz2).trans g7.2.2.1, (set_off nz2).trans g7.2.2.2.1, (set_off nz2).trans g7.2.2.2.2.1, (set_off nz2).trans g7.2.2.2.2.2⟩)
          clear hK K
          try simp only [Act.put, List.setIfInBounds_toArray, List.set_cons_zero, List.set_cons_succ]
          refine wpAnyH_ready (rs := [5]) (by kernel_rfl) (by simp) ?_
          refine AllReadyH.cons rfl (fun K hK => ?_) (AllReadyH.nil)
          go_simp
          refine hK.out _ _ ?_ (fun hHeld => ?_)
          · ((try dsimp only); first | with_reducible exact ge | with_reducible exact gA | with_reducible exact g7 | exact ⟨(set_off nz).trans g7.1, (set_off nz2).trans g7.2.1, (set_off nz2).trans g7.2.2.1, (set_off nz2).trans g7.2.2.2.1, (set_off nz2).trans g7.2.2.2.2.1, (set_off nz2).trans g7.2.2.2.2.2⟩)
          clear hK K
          try simp only [Act.put, List.setIfInBounds_toArray, List.set_cons_zero, List.set_cons_succ]
          refine wpAnyH_ready (rs := [8]) (by kernel_rfl) (by simp) ?_
          refine AllReadyH.cons rfl (fun K hK => ?_) (AllReadyH.nil)
          refine step_append_lies _ rfl (.tmp 93) (.tmp 95) 24 rfl w.heap.size 35 i0 (.agg #[.slice none 0 0, .slice none 0 0, .int .i64 0, .int .i64 0, .slice none 0 0]) 5 88 Tryd.underlying24 Hi.out HiA.out HiB.out HiC.out rfl (by decide) (.slice none 0 0) 0 [] (by simp [Act.eval, Act.put]) HOW.out ⟨w5.heap.size, 0, none⟩ 1 1 [.slice none 0 0, .slice B 0 0, .int .i64 3, .int .i64 (-1), .slice B2 0 0] (by simp [Act.eval, Act.put]) rfl HNW.out HO.out (by decide) (by decide) (by decide) hsz _ rfl ?_
          intro gp cp2 w6 hown2 hgrow hat hlt
          obtain ⟨g7, ⟨o3, of3⟩, hBu, hE⟩ := Hall.out w6 gp cp2 hgrow
          have HBu := Lib.hid hBu
          have HE := Lib.hid hE
          clear hown2 hgrow hat hlt hBu hE Hall
          refine hK.out _ _ ?_ (fun hHeld => ?_)
          · ((try dsimp only); first | with_reducible exact ge | with_reducible exact gA | with_reducible exact g7 | exact ⟨(set_off nz).trans g7.1, (set_off nz2).trans g7.2.1, (set_off nz2).trans g7.2.2.1, (set_off nz2).trans g7.2.2.2.1, (set_off nz2).trans g7.2.2.2.2.1, (set_off nz2).trans g7.2.2.2.2.2⟩)
          clear hK K
          try simp only [Act.put, List.setIfInBounds_toArray, List.set_cons_zero, List.set_cons_succ]
          refine wpAnyH_take (i := 9) (v := ?_) rfl (by kernel_rfl) (by kernel_rfl) (by kernel_rfl) (fun _ _ _ h => h) (Or.inl ⟨by rfl, ?_⟩) (by assumption) ?_
          rotate_left
          · (intro w hSw; (try dsimp only at hSw); first | (go_simp; done) | (go_simp; with_reducible rfl))
          try simp only [Act.put, List.setIfInBounds_toArray, List.set_cons_zero, List.set_cons_succ]
          refine wpAnyH_take (i := 10) (v := ?_) rfl (by kernel_rfl) (by kernel_rfl) (by kernel_rfl) (fun _ _ _ h => h) (Or.inl ⟨by rfl, ?_⟩) (by assumption) ?_
          rotate_left
          · (intro w hSw; (try dsimp only at hSw); first | (go_simp; done) | (go_simp; with_reducible rfl))
          try simp only [Act.put, List.setIfInBounds_toArray, List.set_cons_zero, List.set_cons_succ]
          refine wpAnyH_take (i := 11) (v := ?_) rfl (by kernel_rfl) (by kernel_rfl) (by kernel_rfl) (fun _ _ _ h => h) (Or.inl ⟨by rfl, ?_⟩) (by assumption) ?_
          rotate_left
          · (intro w hSw; (try dsimp only at hSw); first | (go_simp; done) | (go_simp; with_reducible rfl))
          try simp only [Act.put, List.setIfInBounds_toArray, List.set_cons_zero, List.set_cons_succ]
          refine wpAnyH_ready (rs := [12]) (by kernel_rfl) (by simp) ?_
          refine AllReadyH.cons rfl (fun K hK => ?_) (AllReadyH.nil)
          go_simp
          refine hK.out _ _ ?_ (fun hHeld => ?_)
          · ((try dsimp only); first | with_reducible exact ge | with_reducible exact gA | with_reducible exact g7 | exact ⟨(set_off nz).trans g7.1, (set_off nz2).trans g7.2.1, (set_off nz2).trans g7.2.2.1, (set_off nz2).trans g7.2.2.2.1, (set_off nz2).trans g7.2.2.2.2.1, (set_off nz2).trans g7.2.2.2.2.2⟩)
          clear hK K
          try simp only [Act.put, List.setIfInBounds_toArray, List.set_cons_zero, List.set_cons_succ]
          refine wpAnyH_done (by kernel_rfl) ?_ _
          refine NoPanic.normal ?_
          clear ge gA g7 o5 oA o3 of3
          go_wp2
          go_end0
          exact ⟨rfl, HBu.out, HE.out⟩
      · go_simp
        obtain ⟨w3, hw3, hb3, hz3, h03⟩ := r_one_al w1 #[.slice none 0 0, .slice none 0 0, .int .i64 0, .int .i64 0, .slice none 0 0] 35
        rw [← hw3]
        have hS3 := HS.out.up hb3
        have g3 : w3.cell? ⟨w.heap.size, 0, none⟩ = some (.pointer (some ⟨p, 0, none⟩)) ∧ w3.cell? ⟨p, 1, none⟩ = some (.slice VB nB cB) ∧ w3.cell? ⟨w.heap.size + 1, 1, none⟩ = some (.slice none 0 0) ∧ w3.cell? ⟨w.heap.size + 1, 2, none⟩ = some (.int .i64 3) ∧ w3.cell? ⟨w.heap.size + 1, 3, none⟩ = some (.int .i64 (-1)) ∧ w3.cell? ⟨w.heap.size + 1, 4, none⟩ = some (.slice none 0 0) := hS3.gd
        have hz9 : w.heap.size + 2 ≤ w1.heap.size := HS.out.hz
        have HS := Lib.hid hS3
        obtain ⟨z, hz⟩ : ∃ z, z = w1.heap.size := ⟨_, rfl⟩
        rw [← hz] at h03 hz9 ⊢
        have HZ := Lib.hid h03
        clear hS3 hb3 hz3 h03 hw3 hz
        refine hK.out _ _ ?_ (fun hHeld => ?_)
        · ((try dsimp only); first | with_reducible exact gd | with_reducible exact g1 | with_reducible exact g2 | with_reducible exact g3 | with_reducible exact g4 | with_reducible exact g5 | with_reducible exact g6)
        clear hK K
        try simp only [Act.put, List.setIfInBounds_toArray, List.set_cons_zero, List.set_cons_succ]
        refine wpAnyH_ready (rs := [12]) (by kernel_rfl) (by simp) ?_
        refine AllReadyH.cons rfl (fun K hK => ?_) (AllReadyH.nil)
        go_simp
        refine (end_none p x0 x3 x4 x5 x6 (.slice none 0 0) VB VI nB cB nI cI _ HS.out.hp).mono ?_
        rintro e w2 ⟨B2, rfl, hb⟩
        have hS2 := HS.out.up hb
        have g5 : w2.cell? ⟨w.heap.size, 0, none⟩ = some (.pointer (some ⟨p, 0, none⟩)) ∧ w2.cell? ⟨p, 1, none⟩ = some (.slice VB nB cB) ∧ w2.cell? ⟨w.heap.size + 1, 1, none⟩ = some (.slice none 0 0) ∧ w2.cell? ⟨w.heap.size + 1, 2, none⟩ = some (.int .i64 3) ∧ w2.cell? ⟨w.heap.size + 1, 3, none⟩ = some (.int .i64 (-1)) ∧ w2.cell? ⟨w.heap.size + 1, 4, none⟩ = some (.slice none 0 0) := hS2.gd
        have HS := Lib.hid hS2
        have hZ2 := (hb.block z (heap_in HZ.out)).trans HZ.out
        have HZ := Lib.hid hZ2
        clear hZ2
        clear hS2 hb
        refine hK.out _ _ ?_ (fun hHeld => ?_)
        · ((try dsimp only); first | with_reducible exact gd | with_reducible exact g1 | with_reducible exact g2 | with_reducible exact g3 | with_reducible exact g4 | with_reducible exact g5 | with_reducible exact g6)
        clear hK K
        try simp only [Act.put, List.setIfInBounds_toArray, List.set_cons_zero, List.set_cons_succ]
        refine wpAnyH_take (i := 13) (v := ?_) rfl (by kernel_rfl) (by kernel_rfl) (by kernel_rfl) (fun _ _ _ h => h) (Or.inl ⟨by rfl, ?_⟩) (by assumption) ?_
        rotate_left
        · (intro w hSw; (try dsimp only at hSw); first | (go_simp; done) | (go_simp; with_reducible rfl))
        try simp only [Act.put, List.setIfInBounds_toArray, List.set_cons_zero, List.set_cons_succ]
        refine wpAnyH_ready (rs := [15]) (by kernel_rfl) (by simp) ?_
        refine AllReadyH.cons rfl (fun K hK => ?_) (AllReadyH.nil)
        obtain ⟨z0, z1, z2, z3, z4, zf⟩ := cells5 HZ.out
        obtain ⟨w5, hw5⟩ : ∃ w5, w5 = put5 w2 z (.slice none 0 0) (.slice B 0 0) (.int .i64 3) (.int .i64 (-1)) (.slice B2 0 0) := ⟨_, rfl⟩
        have hZ5 : w5.heap[z]? = some (.cells #[.slice none 0 0, .slice B 0 0, .int .i64 3, .int .i64 (-1), .slice B2 0 0] 35 (0, 0)) := by rw [hw5]; exact put5_at HZ.out _ _ _ _ _
        have hS5 : BkS w p #[x0, .slice VB nB cB, .slice VI nI cI, x3, x4, x5, x6, .slice none 0 0] w5 := by rw [hw5]; exact HS.out.bu (put5_bu _ _ _ _ _) hz9
        have g6 : w5.cell? ⟨w.heap.size, 0, none⟩ = some (.pointer (some ⟨p, 0, none⟩)) ∧ w5.cell? ⟨p, 1, none⟩ = some (.slice VB nB cB) ∧ w5.cell? ⟨w.heap.size + 1, 1, none⟩ = some (.slice none 0 0) ∧ w5.cell? ⟨w.heap.size + 1, 2, none⟩ = some (.int .i64 3) ∧ w5.cell? ⟨w.heap.size + 1, 3, none⟩ = some (.int .i64 (-1)) ∧ w5.cell? ⟨w.heap.size + 1, 4, none⟩ = some (.slice none 0 0) := hS5.gd
        unfold put5 at hw5
        have HZ := Lib.hid hZ5
        have HS := Lib.hid hS5
        clear hZ5 hS5
        go_simp
        rw [← hw5]
        clear hw5 z0 z1 z2 z3 z4 zf
        refine hK.out _ _ ?_ (fun hHeld => ?_)
        · ((try dsimp only); first | with_reducible exact gd | with_reducible exact g1 | with_reducible exact g2 | with_reducible exact g3 | with_reducible exact g4 | with_reducible exact g5 | with_reducible exact g6)
        clear hK K
        try simp only [Act.put, List.setIfInBounds_toArray, List.set_cons_zero, List.set_cons_succ]
        refine wpAnyH_done (by kernel_rfl) ?_ _
        refine NoPanic.normal ?_
        clear gd
        (try clear g1)
        (try clear g2)
        (try clear g3)
        (try clear g4)
        (try clear g5)
        (try clear g6)
        have l0 := Lib.cell_of_heap HS.out.ho 0
        go_wp2
        refine wp_loop_rounds 1 ?_
        rw [rounds_succ]
        go_upto_region 14 with fail
        obtain ⟨A, hA, hbA, hzA, h0A⟩ := r_one_al w5 #[.slice none 0 0, .slice B 0 0, .int .i64 3, .int .i64 (-1), .slice B2 0 0] 35
        have ge : w5.drew.cell? ⟨w.heap.size, 0, none⟩ = some (.pointer (some ⟨p, 0, none⟩)) ∧ w5.drew.cell? ⟨z, 0, none⟩ = some (.slice none 0 0) ∧ w5.drew.cell? ⟨z, 1, none⟩ = some (.slice B 0 0) ∧ w5.drew.cell? ⟨z, 2, none⟩ = some (.int .i64 3) ∧ w5.drew.cell? ⟨z, 3, none⟩ = some (.int .i64 (-1)) ∧ w5.drew.cell? ⟨z, 4, none⟩ = some (.slice B2 0 0) := ⟨Lib.cell_of_heap HS.out.hc 0, (cells5 HZ.out).1, (cells5 HZ.out).2.1, (cells5 HZ.out).2.2.1, (cells5 HZ.out).2.2.2.1, (cells5 HZ.out).2.2.2.2.1⟩
        have o5 : w5.drew.cell? ⟨p, 7, none⟩ = some (.slice none 0 0) := Lib.cell_of_heap HS.out.hp 7
        have kA : ∀ q : Addr, q.block < w5.heap.size → A.drew.cell? q = w5.drew.cell? q := fun q hq => hbA.cell hq
        have lp : p < w5.heap.size := heap_in HS.out.hp
        have lc : w.heap.size < w5.heap.size := heap_in HS.out.hc
        have lz : z < w5.heap.size := heap_in HZ.out
        have gA : A.drew.cell? ⟨w.heap.size, 0, none⟩ = some (.pointer (some ⟨p, 0, none⟩)) ∧ A.drew.cell? ⟨z, 0, none⟩ = some (.slice none 0 0) ∧ A.drew.cell? ⟨z, 1, none⟩ = some (.slice B 0 0) ∧ A.drew.cell? ⟨z, 2, none⟩ = some (.int .i64 3) ∧ A.drew.cell? ⟨z, 3, none⟩ = some (.int .i64 (-1)) ∧ A.drew.cell? ⟨z, 4, none⟩ = some (.slice B2 0 0) := ⟨(kA _ lc).trans ge.1, (kA _ lz).trans ge.2.1, (kA _ lz).trans ge.2.2.1, (kA _ lz).trans ge.2.2.2.1, (kA _ lz).trans ge.2.2.2.2.1, (kA _ lz).trans ge.2.2.2.2.2⟩
        have oA : A.drew.cell? ⟨p, 7, none⟩ = some (.slice none 0 0) := (kA _ lp).trans o5
        have HNW := Lib.hid (World.news_of_block (w := A.drew) h0A)
        have HOW := Lib.hid (World.ownsRow_nil A.drew w.heap.size 35 5)
        have HO : Hid (∀ u ∈ ([.slice none 0 0, .slice B 0 0, .int .i64 3, .int .i64 (-1), .slice B2 0 0] : List Value), u.oneCell' = true) := Lib.hid (by
          intro u hu
          simp only [List.mem_cons, List.not_mem_nil, or_false] at hu
          rcases hu with rfl | rfl | rfl | rfl | rfl <;> rfl)
        have hsz : w.heap.size ≤ A.drew.heap.size := by show w.heap.size ≤ A.heap.size; omega
        obtain ⟨i0, hi0, hi1, hi2, hi3⟩ := info_parts infoBlock
        have hall : ∀ w6 gp cp, A.drew.grownBy w6 (Value.slice none 0 0).ownBlock → (w6.cell? ⟨w.heap.size, 0, none⟩ = some (.pointer (some ⟨p, 0, none⟩)) ∧ w6.cell? ⟨z, 0, none⟩ = some (.slice none 0 0) ∧ w6.cell? ⟨z, 1, none⟩ = some (.slice B 0 0) ∧ w6.cell? ⟨z, 2, none⟩ = some (.int .i64 3) ∧ w6.cell? ⟨z, 3, none⟩ = some (.int .i64 (-1)) ∧ w6.cell? ⟨z, 4, none⟩ = some (.slice B2 0 0)) ∧ (w6.cell? ⟨p, 7, none⟩ = some (.slice none 0 0) ∧ w6.frozen? ⟨p, 7, none⟩ = false) ∧ (Bu p w (w6.setCell ⟨p, 7, none⟩ (.slice (some ⟨gp, 0, none⟩) 1 cp)) ∧ ∃ g c, (w6.setCell ⟨p, 7, none⟩ (.slice (some ⟨gp, 0, none⟩) 1 cp)).heap[p]? = some (.cells #[x0, .slice VB nB cB, .slice VI nI cI, x3, x4, x5, x6, .slice (some ⟨g, 0, none⟩) 1 c] 49 (0, 0))) := fun w6 gp cp hg => by
          have k6 : ∀ k, k < A.heap.size → w6.heap[k]? = A.heap[k]? := fun k hk => hg.block k hk (by simp [Value.ownBlock])
          have c6 : ∀ q : Addr, q.block < A.heap.size → w6.cell? q = A.drew.cell? q := fun q hq => World.cell?_of_block (k6 _ hq)
          have hp6 := (k6 p (by omega)).trans ((hbA.block p lp).trans HS.out.hp)
          have hb6 : Below w.heap.size w w6 := HS.out.hb.trans ⟨hg.os.trans hbA.os, hg.tape.trans hbA.tape, hg.output.trans hbA.output, Nat.le_trans hbA.size hg.size, fun k hk => (k6 k (by omega)).trans (hbA.block k (by omega))⟩
          exact ⟨⟨(c6 _ (by show w.heap.size < _; omega)).trans gA.1, (c6 _ (by show z < _; omega)).trans gA.2.1, (c6 _ (by show z < _; omega)).trans gA.2.2.1, (c6 _ (by show z < _; omega)).trans gA.2.2.2.1, (c6 _ (by show z < _; omega)).trans gA.2.2.2.2.1, (c6 _ (by show z < _; omega)).trans gA.2.2.2.2.2⟩, ⟨Lib.cell_of_heap hp6 7, Lib.frozen_of_heap hp6 7⟩, Bu.setCell (g := p) (p := ⟨p, 7, none⟩) (Bu.of_below hb6) (Or.inl rfl) _, gp, cp, heap_put hp6 7 _⟩
        have Hall := Lib.hid hall
        have Hi := Lib.hid hi0
        have HiA := Lib.hid hi1
        have HiB := Lib.hid hi2
        have HiC := Lib.hid hi3
        have nz : w.heap.size ≠ p := by have := HS.out.hl; omega
        have nz2 : z ≠ p := by have := HS.out.hl; omega
        have HA := Lib.hid hA
        clear hall hi0 hi1 hi2 hi3 hbA hzA h0A kA lc lp lz HS HZ l0 hA
        refine wp_region_noPanic ?_
        refine wp_region_held_drew (S := fun w' => w'.cell? ⟨w.heap.size, 0, none⟩ = some (.pointer (some ⟨p, 0, none⟩)) ∧ w'.cell? ⟨z, 0, none⟩ = some (.slice none 0 0) ∧ w'.cell? ⟨z, 1, none⟩ = some (.slice B 0 0) ∧ w'.cell? ⟨z, 2, none⟩ = some (.int .i64 3) ∧ w'.cell? ⟨z, 3, none⟩ = some (.int .i64 (-1)) ∧ w'.cell? ⟨z, 4, none⟩ = some (.slice B2 0 0)) (by kernel_rfl) ge (fun hHeld => ?_)
        refine wpAnyH_take (i := 0) (v := ?_) rfl (by kernel_rfl) (by kernel_rfl) (by kernel_rfl) (fun _ _ _ h => h) (Or.inl ⟨by rfl, ?_⟩) (by assumption) ?_
        rotate_left
        · (intro w hSw; (try dsimp only at hSw); first | (go_simp; done) | (go_simp; with_reducible rfl))
        try simp only [Act.put, List.setIfInBounds_toArray, List.set_cons_zero, List.set_cons_succ]
        refine wpAnyH_take (i := 1) (v := ?_) rfl (by kernel_rfl) (by kernel_rfl) (by kernel_rfl) (fun _ _ _ h => h) (Or.inl ⟨by rfl, ?_⟩) (by assumption) ?_
        rotate_left
        · (intro w hSw; (try dsimp only at hSw); first | (go_simp; done) | (go_simp; with_reducible rfl))
        try simp only [Act.put, List.setIfInBounds_toArray, List.set_cons_zero, List.set_cons_succ]
        refine wpAnyH_take (i := 2) (v := ?_) rfl (by kernel_rfl) (by kernel_rfl) (by kernel_rfl) (fun _ _ _ h => h) (Or.inl ⟨by rfl, ?_⟩) (by assumption) ?_
        rotate_left
        · (intro w hSw; (try dsimp only at hSw); first | (go_simp; done) | (go_simp; with_reducible rfl))
        try simp only [Act.put, List.setIfInBounds_toArray, List.set_cons_zero, List.set_cons_succ]
        refine wpAnyH_take (i := 3) (v := ?_) rfl (by kernel_rfl) (by kernel_rfl) (by kernel_rfl) (fun _ _ _ h => h) (Or.inl ⟨by rfl, ?_⟩) (by assumption) ?_
        rotate_left
        · (intro w hSw; (try dsimp only at hSw); first | (go_simp; done) | (go_simp; with_reducible rfl))
        try simp only [Act.put, List.setIfInBounds_toArray, List.set_cons_zero, List.set_cons_succ]
        refine wpAnyH_take (i := 4) (v := ?_) rfl (by kernel_rfl) (by kernel_rfl) (by kernel_rfl) (fun _ _ _ h => h) (Or.inl ⟨by rfl, ?_⟩) (by assumption) ?_
        rotate_left
        · (intro w hSw; (try dsimp only at hSw); first | (go_simp; done) | (go_simp; with_reducible rfl))
        try simp only [Act.put, List.setIfInBounds_toArray, List.set_cons_zero, List.set_cons_succ]
        refine wpAnyH_take (i := 6) (v := ?_) rfl (by kernel_rfl) (by kernel_rfl) (by kernel_rfl) (fun _ _ _ h => h) (Or.inl ⟨by rfl, ?_⟩) (by assumption) ?_
        rotate_left
        · (intro w hSw; (try dsimp only at hSw); first | (go_simp; done) | (go_simp; with_reducible rfl))
        try simp only [Act.put, List.setIfInBounds_toArray, List.set_cons_zero, List.set_cons_succ]
        refine wpAnyH_ready (rs := [5, 7]) (by kernel_rfl) (by simp) ?_
        refine AllReadyH.cons rfl (fun K hK => ?_) (AllReadyH.cons rfl (fun K hK => ?_) (AllReadyH.nil))
        · go_simp
          refine hK.out _ _ ?_ (fun hHeld => ?_)
          · ((try dsimp only); first | with_reducible exact ge | with_reducible exact gA | with_reducible exact g7 | exact ⟨(set_off nz).trans g7.1, (set_off nz2).trans g7.2.1, (set_off nz2).trans g7.2.2.1, (set_off nz2).trans g7.2.2.2.1, (set_off nz2).trans g7.2.2.2.2.1, (set_off nz2).trans g7.2.2.2.2.2⟩)
          clear hK K
          try simp only [Act.put, List.setIfInBounds_toArray, List.set_cons_zero, List.set_cons_succ]
          refine wpAnyH_ready (rs := [7]) (by kernel_rfl) (by simp) ?_
          refine AllReadyH.cons rfl (fun K hK => ?_) (AllReadyH.nil)
          go_simp
          (try rw [← HA.out])
          refine hK.out _ _ ?_ (fun hHeld => ?_)
          · ((try dsimp only); first | with_reducible exact ge | with_reducible exact gA | with_reducible exact g7 | exact ⟨(set_off nz).trans g7.1, (set_off nz2).trans g7.2.1, (set_off nz2).trans g7.2.2.1, (set_off nz2).trans g7.2.2.2.1, (set_off nz2).trans g7.2.2.2.2.1, (set_off nz2).trans g7.2.2.2.2.2⟩)
          clear hK K
          try simp only [Act.put, List.setIfInBounds_toArray, List.set_cons_zero, List.set_cons_succ]
          refine wpAnyH_ready (rs := [8]) (by kernel_rfl) (by simp) ?_
          refine AllReadyH.cons rfl (fun K hK => ?_) (AllReadyH.nil)
          refine step_append_lies _ rfl (.tmp 93) (.tmp 95) 24 rfl w.heap.size 35 i0 (.agg #[.slice none 0 0, .slice none 0 0, .int .i64 0, .int .i64 0, .slice none 0 0]) 5 88 Tryd.underlying24 Hi.out HiA.out HiB.out HiC.out rfl (by decide) (.slice none 0 0) 0 [] (by simp [Act.eval, Act.put]) HOW.out ⟨w5.heap.size, 0, none⟩ 1 1 [.slice none 0 0, .slice B 0 0, .int .i64 3, .int .i64 (-1), .slice B2 0 0] (by simp [Act.eval, Act.put]) rfl HNW.out HO.out (by decide) (by decide) (by decide) hsz _ rfl ?_
          intro gp cp2 w6 hown2 hgrow hat hlt
          obtain ⟨g7, ⟨o3, of3⟩, hBu, hE⟩ := Hall.out w6 gp cp2 hgrow
          have HBu := Lib.hid hBu
          have HE := Lib.hid hE
          clear hown2 hgrow hat hlt hBu hE Hall
          refine hK.out _ _ ?_ (fun hHeld => ?_)
          · ((try dsimp only); first | with_reducible exact ge | with_reducible exact gA | with_reducible exact g7 | exact ⟨(set_off nz).trans g7.1, (set_off nz2).trans g7.2.1, (set_off nz2).trans g7.2.2.1, (set_off nz2).trans g7.2.2.2.1, (set_off nz2).trans g7.2.2.2.2.1, (set_off nz2).trans g7.2.2.2.2.2⟩)
          clear hK K
          try simp only [Act.put, List.setIfInBounds_toArray, List.set_cons_zero, List.set_cons_succ]
          refine wpAnyH_take (i := 9) (v := ?_) rfl (by kernel_rfl) (by kernel_rfl) (by kernel_rfl) (fun _ _ _ h => h) (Or.inl ⟨by rfl, ?_⟩) (by assumption) ?_
          rotate_left
          · (intro w hSw; (try dsimp only at hSw); first | (go_simp; done) | (go_simp; with_reducible rfl))
          try simp only [Act.put, List.setIfInBounds_toArray, List.set_cons_zero, List.set_cons_succ]
          refine wpAnyH_take (i := 10) (v := ?_) rfl (by kernel_rfl) (by kernel_rfl) (by kernel_rfl) (fun _ _ _ h => h) (Or.inl ⟨by rfl, ?_⟩) (by assumption) ?_
          rotate_left
          · (intro w hSw; (try dsimp only at hSw); first | (go_simp; done) | (go_simp; with_reducible rfl))
          try simp only [Act.put, List.setIfInBounds_toArray, List.set_cons_zero, List.set_cons_succ]
          refine wpAnyH_take (i := 11) (v := ?_) rfl (by kernel_rfl) (by kernel_rfl) (by kernel_rfl) (fun _ _ _ h => h) (Or.inl ⟨by rfl, ?_⟩) (by assumption) ?_
          rotate_left
          · (intro w hSw; (try dsimp only at hSw); first | (go_simp; done) | (go_simp; with_reducible rfl))
          try simp only [Act.put, List.setIfInBounds_toArray, List.set_cons_zero, List.set_cons_succ]
          refine wpAnyH_ready (rs := [12]) (by kernel_rfl) (by simp) ?_
          refine AllReadyH.cons rfl (fun K hK => ?_) (AllReadyH.nil)
          go_simp
          refine hK.out _ _ ?_ (fun hHeld => ?_)
          · ((try dsimp only); first | with_reducible exact ge | with_reducible exact gA | with_reducible exact g7 | exact ⟨(set_off nz).trans g7.1, (set_off nz2).trans g7.2.1, (set_off nz2).trans g7.2.2.1, (set_off nz2).trans g7.2.2.2.1, (set_off nz2).trans g7.2.2.2.2.1, (set_off nz2).trans g7.2.2.2.2.2⟩)
          clear hK K
          try simp only [Act.put, List.setIfInBounds_toArray, List.set_cons_zero, List.set_cons_succ]
          refine wpAnyH_done (by kernel_rfl) ?_ _
          refine NoPanic.normal ?_
          clear ge gA g7 o5 oA o3 of3
          go_wp2
          go_end0
          exact ⟨rfl, HBu.out, HE.out⟩
        · go_simp
          (try rw [← HA.out])
          refine hK.out _ _ ?_ (fun hHeld => ?_)
          · ((try dsimp only); first | with_reducible exact ge | with_reducible exact gA | with_reducible exact g7 | exact ⟨(set_off nz).trans g7.1, (set_off nz2).trans g7.2.1, (set_off nz2).trans g7.2.2.1, (set_off nz2).trans g7.2.2.2.1, (set_off nz2).trans g7.2.2.2.2.1, (set_off nz2).trans g7.2.2.2.2.2⟩)
          clear hK K
          try simp only [Act.put, List.setIfInBounds_toArray, List.set_cons_zero, List.set_cons_succ]
          refine wpAnyH_ready (rs := [5]) (by kernel_rfl) (by simp) ?_
          refine AllReadyH.cons rfl (fun K hK => ?_) (AllReadyH.nil)
          go_simp
          refine hK.out _ _ ?_ (fun hHeld => ?_)
          · ((try dsimp only); first | with_reducible exact ge | with_reducible exact gA | with_reducible exact g7 | exact ⟨(set_off nz).trans g7.1, (set_off nz2).trans g7.2.1, (set_off nz2).trans g7.2.2.1, (set_off nz2).trans g7.2.2.2.1, (set_off nz2).trans g7.2.2.2.2.1, (set_off nz2).trans g7.2.2.2.2.2⟩)
          clear hK K
          try simp only [Act.put, List.setIfInBounds_toArray, List.set_cons_zero, List.set_cons_succ]
          refine wpAnyH_ready (rs := [8]) (by kernel_rfl) (by simp) ?_
          refine AllReadyH.cons rfl (fun K hK => ?_) (AllReadyH.nil)
          refine step_append_lies _ rfl (.tmp 93) (.tmp 95) 24 rfl w.heap.size 35 i0 (.agg #[.slice none 0 0, .slice none 0 0, .int .i64 0, .int .i64 0, .slice none 0 0]) 5 88 Tryd.underlying24 Hi.out HiA.out HiB.out HiC.out rfl (by decide) (.slice none 0 0) 0 [] (by simp [Act.eval, Act.put]) HOW.out ⟨w5.heap.size, 0, none⟩ 1 1 [.slice none 0 0, .slice B 0 0, .int .i64 3, .int .i64 (-1), .slice B2 0 0] (by simp [Act.eval, Act.put]) rfl HNW.out HO.out (by decide) (by decide) (by decide) hsz _ rfl ?_
          intro gp cp2 w6 hown2 hgrow hat hlt
          obtain ⟨g7, ⟨o3, of3⟩, hBu, hE⟩ := Hall.out w6 gp cp2 hgrow
          have HBu := Lib.hid hBu
          have HE := Lib.hid hE
          clear hown2 hgrow hat hlt hBu hE Hall
          refine hK.out _ _ ?_ (fun hHeld => ?_)
          · ((try dsimp only); first | with_reducible exact ge | with_reducible exact gA | with_reducible exact g7 | exact ⟨(set_off nz).trans g7.1, (set_off nz2).trans g7.2.1, (set_off nz2).trans g7.2.2.1, (set_off nz2).trans g7.2.2.2.1, (set_off nz2).trans g7.2.2.2.2.1, (set_off nz2).trans g7.2.2.2.2.2⟩)
          clear hK K
          try simp only [Act.put, List.setIfInBounds_toArray, List.set_cons_zero, List.set_cons_succ]
          refine wpAnyH_take (i := 9) (v := ?_) rfl (by kernel_rfl) (by kernel_rfl) (by kernel_rfl) (fun _ _ _ h => h) (Or.inl ⟨by rfl, ?_⟩) (by assumption) ?_
          rotate_left
          · (intro w hSw; (try dsimp only at hSw); first | (go_simp; done) | (go_simp; with_reducible rfl))
          try simp only [Act.put, List.setIfInBounds_toArray, List.set_cons_zero, List.set_cons_succ]
          refine wpAnyH_take (i := 10) (v := ?_) rfl (by kernel_rfl) (by kernel_rfl) (by kernel_rfl) (fun _ _ _ h => h) (Or.inl ⟨by rfl, ?_⟩) (by assumption) ?_
          rotate_left
          · (intro w hSw; (try dsimp only at hSw); first | (go_simp; done) | (go_simp; with_reducible rfl))
          try simp only [Act.put, List.setIfInBounds_toArray, List.set_cons_zero, List.set_cons_succ]
          refine wpAnyH_take (i := 11) (v := ?_) rfl (by kernel_rfl) (by kernel_rfl) (by kernel_rfl) (fun _ _ _ h => h) (Or.inl ⟨by rfl, ?_⟩) (by assumption) ?_
          rotate_left
          · (intro w hSw; (try dsimp only at hSw); first | (go_simp; done) | (go_simp; with_reducible rfl))
          try simp only [Act.put, List.setIfInBounds_toArray, List.set_cons_zero, List.set_cons_succ]
          refine wpAnyH_ready (rs := [12]) (by kernel_rfl) (by simp) ?_
          refine AllReadyH.cons rfl (fun K hK => ?_) (AllReadyH.nil)
          go_simp
          refine hK.out _ _ ?_ (fun hHeld => ?_)
          · ((try dsimp only); first | with_reducible exact ge | with_reducible exact gA | with_reducible exact g7 | exact ⟨(set_off nz).trans g7.1, (set_off nz2).trans g7.2.1, (set_off nz2).trans g7.2.2.1, (set_off nz2).trans g7.2.2.2.1, (set_off nz2).trans g7.2.2.2.2.1, (set_off nz2).trans g7.2.2.2.2.2⟩)
          clear hK K
          try simp only [Act.put, List.setIfInBounds_toArray, List.set_cons_zero, List.set_cons_succ]
          refine wpAnyH_done (by kernel_rfl) ?_ _
          refine NoPanic.normal ?_
          clear ge gA g7 o5 oA o3 of3
          go_wp2
          go_end0
          exact ⟨rfl, HBu.out, HE.out⟩
    · go_simp
      obtain ⟨w4, hw4, hb4, hz4, h04⟩ := r_one_al W #[.slice none 0 0, .slice none 0 0, .int .i64 0, .int .i64 0, .slice none 0 0] 35
      rw [← hw4]
      obtain ⟨w3, hw3⟩ : ∃ w3, w3 = w4.drew := ⟨_, rfl⟩
      have hb3 : Below W.drew.heap.size W.drew w3 := by rw [hw3]; exact ⟨hb4.os, hb4.tape, hb4.output, hb4.size, hb4.block⟩
      have h03 : w3.heap[W.heap.size]? = some (.cells #[.slice none 0 0, .slice none 0 0, .int .i64 0, .int .i64 0, .slice none 0 0] 35 (0, 0)) := by rw [hw3]; exact h04
      rw [← hw3]
      have hS3 := HS.out.up hb3
      have g3 : w3.cell? ⟨w.heap.size, 0, none⟩ = some (.pointer (some ⟨p, 0, none⟩)) ∧ w3.cell? ⟨p, 1, none⟩ = some (.slice VB nB cB) ∧ w3.cell? ⟨w.heap.size + 1, 1, none⟩ = some (.slice none 0 0) ∧ w3.cell? ⟨w.heap.size + 1, 2, none⟩ = some (.int .i64 3) ∧ w3.cell? ⟨w.heap.size + 1, 3, none⟩ = some (.int .i64 (-1)) ∧ w3.cell? ⟨w.heap.size + 1, 4, none⟩ = some (.slice none 0 0) := hS3.gd
      have hz9 : w.heap.size + 2 ≤ W.heap.size := HS.out.hz
      have HS := Lib.hid hS3
      obtain ⟨z, hz⟩ : ∃ z, z = W.heap.size := ⟨_, rfl⟩
      rw [← hz] at h03 hz9 ⊢
      have HZ := Lib.hid h03
      clear hS3 hb3 hb4 h04 hz4 h03 hw3 hw4 hz
      refine hK.out _ _ ?_ (fun hHeld => ?_)
      · ((try dsimp only); first | with_reducible exact gd | with_reducible exact g1 | with_reducible exact g2 | with_reducible exact g3 | with_reducible exact g4 | with_reducible exact g5 | with_reducible exact g6)
      clear hK K
      try simp only [Act.put, List.setIfInBounds_toArray, List.set_cons_zero, List.set_cons_succ]
      refine wpAnyH_ready (rs := [8]) (by kernel_rfl) (by simp) ?_
      refine AllReadyH.cons rfl (fun K hK => ?_) (AllReadyH.nil)
      go_simp
      refine (renamedAll_nil VB nB cB none 0 _).mono ?_
      rintro e w1 ⟨B, rfl, hb⟩
      have hS1 := HS.out.up hb
      have g4 : w1.cell? ⟨w.heap.size, 0, none⟩ = some (.pointer (some ⟨p, 0, none⟩)) ∧ w1.cell? ⟨p, 1, none⟩ = some (.slice VB nB cB) ∧ w1.cell? ⟨w.heap.size + 1, 1, none⟩ = some (.slice none 0 0) ∧ w1.cell? ⟨w.heap.size + 1, 2, none⟩ = some (.int .i64 3) ∧ w1.cell? ⟨w.heap.size + 1, 3, none⟩ = some (.int .i64 (-1)) ∧ w1.cell? ⟨w.heap.size + 1, 4, none⟩ = some (.slice none 0 0) := hS1.gd
      have HS := Lib.hid hS1
      have hZ1 := (hb.block z (heap_in HZ.out)).trans HZ.out
      have HZ := Lib.hid hZ1
      clear hZ1
      clear hS1 hb
      refine hK.out _ _ ?_ (fun hHeld => ?_)
      · ((try dsimp only); first | with_reducible exact gd | with_reducible exact g1 | with_reducible exact g2 | with_reducible exact g3 | with_reducible exact g4 | with_reducible exact g5 | with_reducible exact g6)
      clear hK K
      try simp only [Act.put, List.setIfInBounds_toArray, List.set_cons_zero, List.set_cons_succ]
      refine wpAnyH_ready (rs := [12]) (by kernel_rfl) (by simp) ?_
      refine AllReadyH.cons rfl (fun K hK => ?_) (AllReadyH.nil)
      go_simp
      refine (end_none p x0 x3 x4 x5 x6 (.slice none 0 0) VB VI nB cB nI cI _ HS.out.hp).mono ?_
      rintro e w2 ⟨B2, rfl, hb⟩
      have hS2 := HS.out.up hb
      have g5 : w2.cell? ⟨w.heap.size, 0, none⟩ = some (.pointer (some ⟨p, 0, none⟩)) ∧ w2.cell? ⟨p, 1, none⟩ = some (.slice VB nB cB) ∧ w2.cell? ⟨w.heap.size + 1, 1, none⟩ = some (.slice none 0 0) ∧ w2.cell? ⟨w.heap.size + 1, 2, none⟩ = some (.int .i64 3) ∧ w2.cell? ⟨w.heap.size + 1, 3, none⟩ = some (.int .i64 (-1)) ∧ w2.cell? ⟨w.heap.size + 1, 4, none⟩ = some (.slice none 0 0) := hS2.gd
      have HS := Lib.hid hS2
      have hZ2 := (hb.block z (heap_in HZ.out)).trans HZ.out
      have HZ := Lib.hid hZ2
      clear hZ2
      clear hS2 hb
      refine hK.out _ _ ?_ (fun hHeld => ?_)
      · ((try dsimp only); first | with_reducible exact gd | with_reducible exact g1 | with_reducible exact g2 | with_reducible exact g3 | with_reducible exact g4 | with_reducible exact g5 | with_reducible exact g6)
      clear hK K
      try simp only [Act.put, List.setIfInBounds_toArray, List.set_cons_zero, List.set_cons_succ]
      refine wpAnyH_take (i := 13) (v := ?_) rfl (by kernel_rfl) (by kernel_rfl) (by kernel_rfl) (fun _ _ _ h => h) (Or.inl ⟨by rfl, ?_⟩) (by assumption) ?_
      rotate_left
      · (intro w hSw; (try dsimp only at hSw); first | (go_simp; done) | (go_simp; with_reducible rfl))
      try simp only [Act.put, List.setIfInBounds_toArray, List.set_cons_zero, List.set_cons_succ]
      refine wpAnyH_ready (rs := [15]) (by kernel_rfl) (by simp) ?_
      refine AllReadyH.cons rfl (fun K hK => ?_) (AllReadyH.nil)
      obtain ⟨z0, z1, z2, z3, z4, zf⟩ := cells5 HZ.out
      obtain ⟨w5, hw5⟩ : ∃ w5, w5 = put5 w2 z (.slice none 0 0) (.slice B 0 0) (.int .i64 3) (.int .i64 (-1)) (.slice B2 0 0) := ⟨_, rfl⟩
      have hZ5 : w5.heap[z]? = some (.cells #[.slice none 0 0, .slice B 0 0, .int .i64 3, .int .i64 (-1), .slice B2 0 0] 35 (0, 0)) := by rw [hw5]; exact put5_at HZ.out _ _ _ _ _
      have hS5 : BkS w p #[x0, .slice VB nB cB, .slice VI nI cI, x3, x4, x5, x6, .slice none 0 0] w5 := by rw [hw5]; exact HS.out.bu (put5_bu _ _ _ _ _) hz9
      have g6 : w5.cell? ⟨w.heap.size, 0, none⟩ = some (.pointer (some ⟨p, 0, none⟩)) ∧ w5.cell? ⟨p, 1, none⟩ = some (.slice VB nB cB) ∧ w5.cell? ⟨w.heap.size + 1, 1, none⟩ = some (.slice none 0 0) ∧ w5.cell? ⟨w.heap.size + 1, 2, none⟩ = some (.int .i64 3) ∧ w5.cell? ⟨w.heap.size + 1, 3, none⟩ = some (.int .i64 (-1)) ∧ w5.cell? ⟨w.heap.size + 1, 4, none⟩ = some (.slice none 0 0) := hS5.gd
      unfold put5 at hw5
      have HZ := Lib.hid hZ5
      have HS := Lib.hid hS5
      clear hZ5 hS5
      go_simp
      rw [← hw5]
      clear hw5 z0 z1 z2 z3 z4 zf
      refine hK.out _ _ ?_ (fun hHeld => ?_)
      · ((try dsimp only); first | with_reducible exact gd | with_reducible exact g1 | with_reducible exact g2 | with_reducible exact g3 | with_reducible exact g4 | with_reducible exact g5 | with_reducible exact g6)
      clear hK K
      try simp only [Act.put, List.setIfInBounds_toArray, List.set_cons_zero, List.set_cons_succ]
      refine wpAnyH_done (by kernel_rfl) ?_ _
      refine NoPanic.normal ?_
      clear gd
      (try clear g1)
      (try clear g2)
      (try clear g3)
      (try clear g4)
      (try clear g5)
      (try clear g6)
      have l0 := Lib.cell_of_heap HS.out.ho 0
      go_wp2
      refine wp_loop_rounds 1 ?_
      rw [rounds_succ]
      go_upto_region 14 with fail
      obtain ⟨A, hA, hbA, hzA, h0A⟩ := r_one_al w5 #[.slice none 0 0, .slice B 0 0, .int .i64 3, .int .i64 (-1), .slice B2 0 0] 35
      have ge : w5.drew.cell? ⟨w.heap.size, 0, none⟩ = some (.pointer (some ⟨p, 0, none⟩)) ∧ w5.drew.cell? ⟨z, 0, none⟩ = some (.slice none 0 0) ∧ w5.drew.cell? ⟨z, 1, none⟩ = some (.slice B 0 0) ∧ w5.drew.cell? ⟨z, 2, none⟩ = some (.int .i64 3) ∧ w5.drew.cell? ⟨z, 3, none⟩ = some (.int .i64 (-1)) ∧ w5.drew.cell? ⟨z, 4, none⟩ = some (.slice B2 0 0) := ⟨Lib.cell_of_heap HS.out.hc 0, (cells5 HZ.out).1, (cells5 HZ.out).2.1, (cells5 HZ.out).2.2.1, (cells5 HZ.out).2.2.2.1, (cells5 HZ.out).2.2.2.2.1⟩
      have o5 : w5.drew.cell? ⟨p, 7, none⟩ = some (.slice none 0 0) := Lib.cell_of_heap HS.out.hp 7
      have kA : ∀ q : Addr, q.block < w5.heap.size → A.drew.cell? q = w5.drew.cell? q := fun q hq => hbA.cell hq
      have lp : p < w5.heap.size := heap_in HS.out.hp
      have lc : w.heap.size < w5.heap.size := heap_in HS.out.hc
      have lz : z < w5.heap.size := heap_in HZ.out
      have gA : A.drew.cell? ⟨w.heap.size, 0, none⟩ = some (.pointer (some ⟨p, 0, none⟩)) ∧ A.drew.cell? ⟨z, 0, none⟩ = some (.slice none 0 0) ∧ A.drew.cell? ⟨z, 1, none⟩ = some (.slice B 0 0) ∧ A.drew.cell? ⟨z, 2, none⟩ = some (.int .i64 3) ∧ A.drew.cell? ⟨z, 3, none⟩ = some (.int .i64 (-1)) ∧ A.drew.cell? ⟨z, 4, none⟩ = some (.slice B2 0 0) := ⟨(kA _ lc).trans ge.1, (kA _ lz).trans ge.2.1, (kA _ lz).trans ge.2.2.1, (kA _ lz).trans ge.2.2.2.1, (kA _ lz).trans ge.2.2.2.2.1, (kA _ lz).trans ge.2.2.2.2.2⟩
      have oA : A.drew.cell? ⟨p, 7, none⟩ = some (.slice none 0 0) := (kA _ lp).trans o5
      have HNW := Lib.hid (World.news_of_block (w := A.drew) h0A)
      have HOW := Lib.hid (World.ownsRow_nil A.drew w.heap.size 35 5)
      have HO : Hid (∀ u ∈ ([.slice none 0 0, .slice B 0 0, .int .i64 3, .int .i64 (-1), .slice B2 0 0] : List Value), u.oneCell' = true) := Lib.hid (by
        intro u hu
        simp only [List.mem_cons, List.not_mem_nil, or_false] at hu
        rcases hu with rfl | rfl | rfl | rfl | rfl <;> rfl)
      have hsz : w.heap.size ≤ A.drew.heap.size := by show w.heap.size ≤ A.heap.size; omega
      obtain ⟨i0, hi0, hi1, hi2, hi3⟩ := info_parts infoBlock
      have hall : ∀ w6 gp cp, A.drew.grownBy w6 (Value.slice none 0 0).ownBlock → (w6.cell? ⟨w.heap.size, 0, none⟩ = some (.pointer (some ⟨p, 0, none⟩)) ∧ w6.cell? ⟨z, 0, none⟩ = some (.slice none 0 0) ∧ w6.cell? ⟨z, 1, none⟩ = some (.slice B 0 0) ∧ w6.cell? ⟨z, 2, none⟩ = some (.int .i64 3) ∧ w6.cell? ⟨z, 3, none⟩ = some (.int .i64 (-1)) ∧ w6.cell? ⟨z, 4, none⟩ = some (.slice B2 0 0)) ∧ (w6.cell? ⟨p, 7, none⟩ = some (.slice none 0 0) ∧ w6.frozen? ⟨p, 7, none⟩ = false) ∧ (Bu p w (w6.setCell ⟨p, 7, none⟩ (.slice (some ⟨gp, 0, none⟩) 1 cp)) ∧ ∃ g c, (w6.setCell ⟨p, 7, none⟩ (.slice (some ⟨gp, 0, none⟩) 1 cp)).heap[p]? = some (.cells #[x0, .slice VB nB cB, .slice VI nI cI, x3, x4, x5, x6, .slice (some ⟨g, 0, none⟩) 1 c] 49 (0, 0))) := fun w6 gp cp hg => by
        have k6 : ∀ k, k < A.heap.size → w6.heap[k]? = A.heap[k]? := fun k hk => hg.block k hk (by simp [Value.ownBlock])
        have c6 : ∀ q : Addr, q.block < A.heap.size → w6.cell? q = A.drew.cell? q := fun q hq => World.cell?_of_block (k6 _ hq)
        have hp6 := (k6 p (by omega)).trans ((hbA.block p lp).trans HS.out.hp)
        have hb6 : Below w.heap.size w w6 := HS.out.hb.trans ⟨hg.os.trans hbA.os, hg.tape.trans hbA.tape, hg.output.trans hbA.output, Nat.le_trans hbA.size hg.size, fun k hk => (k6 k (by omega)).trans (hbA.block k (by omega))⟩
        exact ⟨⟨(c6 _ (by show w.heap.size < _; omega)).trans gA.1, (c6 _ (by show z < _; omega)).trans gA.2.1, (c6 _ (by show z < _; omega)).trans gA.2.2.1, (c6 _ (by show z < _; omega)).trans gA.2.2.2.1, (c6 _ (by show z < _; omega)).trans gA.2.2.2.2.1, (c6 _ (by show z < _; omega)).trans gA.2.2.2.2.2⟩, ⟨Lib.cell_of_heap hp6 7, Lib.frozen_of_heap hp6 7⟩, Bu.setCell (g := p) (p := ⟨p, 7, none⟩) (Bu.of_below hb6) (Or.inl rfl) _, gp, cp, heap_put hp6 7 _⟩
      have Hall := Lib.hid hall
      have Hi := Lib.hid hi0
      have HiA := Lib.hid hi1
      have HiB := Lib.hid hi2
      have HiC := Lib.hid hi3
      have nz : w.heap.size ≠ p := by have := HS.out.hl; omega
      have nz2 : z ≠ p := by have := HS.out.hl; omega
      have HA := Lib.hid hA
      clear hall hi0 hi1 hi2 hi3 hbA hzA h0A kA lc lp lz HS HZ l0 hA
      refine wp_region_noPanic ?_
      refine wp_region_held_drew (S := fun w' => w'.cell? ⟨w.heap.size, 0, none⟩ = some (.pointer (some ⟨p, 0, none⟩)) ∧ w'.cell? ⟨z, 0, none⟩ = some (.slice none 0 0) ∧ w'.cell? ⟨z, 1, none⟩ = some (.slice B 0 0) ∧ w'.cell? ⟨z, 2, none⟩ = some (.int .i64 3) ∧ w'.cell? ⟨z, 3, none⟩ = some (.int .i64 (-1)) ∧ w'.cell? ⟨z, 4, none⟩ = some (.slice B2 0 0)) (by kernel_rfl) ge (fun hHeld => ?_)
      refine wpAnyH_take (i := 0) (v := ?_) rfl (by kernel_rfl) (by kernel_rfl) (by kernel_rfl) (fun _ _ _ h => h) (Or.inl ⟨by rfl, ?_⟩) (by assumption) ?_
      rotate_left
      · (intro w hSw; (try dsimp only at hSw); first | (go_simp; done) | (go_simp; with_reducible rfl))
      try simp only [Act.put, List.setIfInBounds_toArray, List.set_cons_zero, List.set_cons_succ]
      refine wpAnyH_take (i := 1) (v := ?_) rfl (by kernel_rfl) (by kernel_rfl) (by kernel_rfl) (fun _ _ _ h => h) (Or.inl ⟨by rfl, ?_⟩) (by assumption) ?_
      rotate_left
      · (intro w hSw; (try dsimp only at hSw); first | (go_simp; done) | (go_simp; with_reducible rfl))
      try simp only [Act.put, List.setIfInBounds_toArray, List.set_cons_zero, List.set_cons_succ]
      refine wpAnyH_take (i := 2) (v := ?_) rfl (by kernel_rfl) (by kernel_rfl) (by kernel_rfl) (fun _ _ _ h => h) (Or.inl ⟨by rfl, ?_⟩) (by assumption) ?_
      rotate_left
      · (intro w hSw; (try dsimp only at hSw); first | (go_simp; done) | (go_simp; with_reducible rfl))
      try simp only [Act.put, List.setIfInBounds_toArray, List.set_cons_zero, List.set_cons_succ]
      refine wpAnyH_take (i := 3) (v := ?_) rfl (by kernel_rfl) (by kernel_rfl) (by kernel_rfl) (fun _ _ _ h => h) (Or.inl ⟨by rfl, ?_⟩) (by assumption) ?_
      rotate_left
      · (intro w hSw; (try dsimp only at hSw); first | (go_simp; done) | (go_simp; with_reducible rfl))
      try simp only [Act.put, List.setIfInBounds_toArray, List.set_cons_zero, List.set_cons_succ]
      refine wpAnyH_take (i := 4) (v := ?_) rfl (by kernel_rfl) (by kernel_rfl) (by kernel_rfl) (fun _ _ _ h => h) (Or.inl ⟨by rfl, ?_⟩) (by assumption) ?_
      rotate_left
      · (intro w hSw; (try dsimp only at hSw); first | (go_simp; done) | (go_simp; with_reducible rfl))
      try simp only [Act.put, List.setIfInBounds_toArray, List.set_cons_zero, List.set_cons_succ]
      refine wpAnyH_take (i := 6) (v := ?_) rfl (by kernel_rfl) (by kernel_rfl) (by kernel_rfl) (fun _ _ _ h => h) (Or.inl ⟨by rfl, ?_⟩) (by assumption) ?_
      rotate_left
      · (intro w hSw; (try dsimp only at hSw); first | (go_simp; done) | (go_simp; with_reducible rfl))
      try simp only [Act.put, List.setIfInBounds_toArray, List.set_cons_zero, List.set_cons_succ]
      refine wpAnyH_ready (rs := [5, 7]) (by kernel_rfl) (by simp) ?_
      refine AllReadyH.cons rfl (fun K hK => ?_) (AllReadyH.cons rfl (fun K hK => ?_) (AllReadyH.nil))
      · go_simp
        refine hK.out _ _ ?_ (fun hHeld => ?_)
        · ((try dsimp only); first | with_reducible exact ge | with_reducible exact gA | with_reducible exact g7 | exact ⟨(set_off nz).trans g7.1, (set_off nz2).trans g7.2.1, (set_off nz2).trans g7.2.2.1, (set_off nz2).trans g7.2.2.2.1, (set_off nz2).trans g7.2.2.2.2.1, (set_off nz2).trans g7.2.2.2.2.2⟩)
        clear hK K
        try simp only [Act.put, List.setIfInBounds_toArray, List.set_cons_zero, List.set_cons_succ]
        refine wpAnyH_ready (rs := [7]) (by kernel_rfl) (by simp) ?_
        refine AllReadyH.cons rfl (fun K hK => ?_) (AllReadyH.nil)
        go_simp
        (try rw [← HA.out])
        refine hK.out _ _ ?_ (fun hHeld => ?_)
        · ((try dsimp only); first | with_reducible exact ge | with_reducible exact gA | with_reducible exact g7 | exact ⟨(set_off nz).trans g7.1, (set_off nz2).trans g7.2.1, (set_off nz2).trans g7.2.2.1, (set_off nz2).trans g7.2.2.2.1, (set_off nz2).trans g7.2.2.2.2.1, (set_off nz2).trans g7.2.2.2.2.2⟩)
        clear hK K
        try simp only [Act.put, List.setIfInBounds_toArray, List.set_cons_zero, List.set_cons_succ]
        refine wpAnyH_ready (rs := [8]) (by kernel_rfl) (by simp) ?_
        refine AllReadyH.cons rfl (fun K hK => ?_) (AllReadyH.nil)
        refine step_append_lies _ rfl (.tmp 93) (.tmp 95) 24 rfl w.heap.size 35 i0 (.agg #[.slice none 0 0, .slice none 0 0, .int .i64 0, .int .i64 0, .slice none 0 0]) 5 88 Tryd.underlying24 Hi.out HiA.out HiB.out HiC.out rfl (by decide) (.slice none 0 0) 0 [] (by simp [Act.eval, Act.put]) HOW.out ⟨w5.heap.size, 0, none⟩ 1 1 [.slice none 0 0, .slice B 0 0, .int .i64 3, .int .i64 (-1), .slice B2 0 0] (by simp [Act.eval, Act.put]) rfl HNW.out HO.out (by decide) (by decide) (by decide) hsz _ rfl ?_
        intro gp cp2 w6 hown2 hgrow hat hlt
        obtain ⟨g7, ⟨o3, of3⟩, hBu, hE⟩ := Hall.out w6 gp cp2 hgrow
        have HBu := Lib.hid hBu
        have HE := Lib.hid hE
        clear hown2 hgrow hat hlt hBu hE Hall
        refine hK.out _ _ ?_ (fun hHeld => ?_)
        · ((try dsimp only); first | with_reducible exact ge | with_reducible exact gA | with_reducible exact g7 | exact ⟨(set_off nz).trans g7.1, (set_off nz2).trans g7.2.1, (set_off nz2).trans g7.2.2.1, (set_off nz2).trans g7.2.2.2.1, (set_off nz2).trans g7.2.2.2.2.1, (set_off nz2).trans g7.2.2.2.2.2⟩)
        clear hK K
        try simp only [Act.put, List.setIfInBounds_toArray, List.set_cons_zero, List.set_cons_succ]
        refine wpAnyH_take (i := 9) (v := ?_) rfl (by kernel_rfl) (by kernel_rfl) (by kernel_rfl) (fun _ _ _ h => h) (Or.inl ⟨by rfl, ?_⟩) (by assumption) ?_
        rotate_left
        · (intro w hSw; (try dsimp only at hSw); first | (go_simp; done) | (go_simp; with_reducible rfl))
        try simp only [Act.put, List.setIfInBounds_toArray, List.set_cons_zero, List.set_cons_succ]
        refine wpAnyH_take (i := 10) (v := ?_) rfl (by kernel_rfl) (by kernel_rfl) (by kernel_rfl) (fun _ _ _ h => h) (Or.inl ⟨by rfl, ?_⟩) (by assumption) ?_
        rotate_left
        · (intro w hSw; (try dsimp only at hSw); first | (go_simp; done) | (go_simp; with_reducible rfl))
        try simp only [Act.put, List.setIfInBounds_toArray, List.set_cons_zero, List.set_cons_succ]
        refine wpAnyH_take (i := 11) (v := ?_) rfl (by kernel_rfl) (by kernel_rfl) (by kernel_rfl) (fun _ _ _ h => h) (Or.inl ⟨by rfl, ?_⟩) (by assumption) ?_
        rotate_left
        · (intro w hSw; (try dsimp only at hSw); first | (go_simp; done) | (go_simp; with_reducible rfl))
        try simp only [Act.put, List.setIfInBounds_toArray, List.set_cons_zero, List.set_cons_succ]
        refine wpAnyH_ready (rs := [12]) (by kernel_rfl) (by simp) ?_
        refine AllReadyH.cons rfl (fun K hK => ?_) (AllReadyH.nil)
        go_simp
        refine hK.out _ _ ?_ (fun hHeld => ?_)
        · ((try dsimp only); first | with_reducible exact ge | with_reducible exact gA | with_reducible exact g7 | exact ⟨(set_off nz).trans g7.1, (set_off nz2).trans g7.2.1, (set_off nz2).trans g7.2.2.1, (set_off nz2).trans g7.2.2.2.1, (set_off nz2).trans g7.2.2.2.2.1, (set_off nz2).trans g7.2.2.2.2.2⟩)
        clear hK K
        try simp only [Act.put, List.setIfInBounds_toArray, List.set_cons_zero, List.set_cons_succ]
        refine wpAnyH_done (by kernel_rfl) ?_ _
        refine NoPanic.normal ?_
        clear ge gA g7 o5 oA o3 of3
        go_wp2
        go_end0
        exact ⟨rfl, HBu.out, HE.out⟩
      · go_simp
        (try rw [← HA.out])
        refine hK.out _ _ ?_ (fun hHeld => ?_)
        · ((try dsimp only); first | with_reducible exact ge | with_reducible exact gA | with_reducible exact g7 | exact ⟨(set_off nz).trans g7.1, (set_off nz2).trans g7.2.1, (set_off nz2).trans g7.2.2.1, (set_off nz2).trans g7.2.2.2.1, (set_off nz2).trans g7.2.2.2.2.1, (set_off nz2).trans g7.2.2.2.2.2⟩)
        clear hK K
        try simp only [Act.put, List.setIfInBounds_toArray, List.set_cons_zero, List.set_cons_succ]
        refine wpAnyH_ready (rs := [5]) (by kernel_rfl) (by simp) ?_
        refine AllReadyH.cons rfl (fun K hK => ?_) (AllReadyH.nil)
        go_simp
        refine hK.out _ _ ?_ (fun hHeld => ?_)
        · ((try dsimp only); first | with_reducible exact ge | with_reducible exact gA | with_reducible exact g7 | exact ⟨(set_off nz).trans g7.1, (set_off nz2).trans g7.2.1, (set_off nz2).trans g7.2.2.1, (set_off nz2).trans g7.2.2.2.1, (set_off nz2).trans g7.2.2.2.2.1, (set_off nz2).trans g7.2.2.2.2.2⟩)
        clear hK K
        try simp only [Act.put, List.setIfInBounds_toArray, List.set_cons_zero, List.set_cons_succ]
        refine wpAnyH_ready (rs := [8]) (by kernel_rfl) (by simp) ?_
        refine AllReadyH.cons rfl (fun K hK => ?_) (AllReadyH.nil)
        refine step_append_lies _ rfl (.tmp 93) (.tmp 95) 24 rfl w.heap.size 35 i0 (.agg #[.slice none 0 0, .slice none 0 0, .int .i64 0, .int .i64 0, .slice none 0 0]) 5 88 Tryd.underlying24 Hi.out HiA.out HiB.out HiC.out rfl (by decide) (.slice none 0 0) 0 [] (by simp [Act.eval, Act.put]) HOW.out ⟨w5.heap.size, 0, none⟩ 1 1 [.slice none 0 0, .slice B 0 0, .int .i64 3, .int .i64 (-1), .slice B2 0 0] (by simp [Act.eval, Act.put]) rfl HNW.out HO.out (by decide) (by decide) (by decide) hsz _ rfl ?_
        intro gp cp2 w6 hown2 hgrow hat hlt
        obtain ⟨g7, ⟨o3, of3⟩, hBu, hE⟩ := Hall.out w6 gp cp2 hgrow
        have HBu := Lib.hid hBu
        have HE := Lib.hid hE
        clear hown2 hgrow hat hlt hBu hE Hall
        refine hK.out _ _ ?_ (fun hHeld => ?_)
        · ((try dsimp only); first | with_reducible exact ge | with_reducible exact gA | with_reducible exact g7 | exact ⟨(set_off nz).trans g7.1, (set_off nz2).trans g7.2.1, (set_off nz2).trans g7.2.2.1, (set_off nz2).trans g7.2.2.2.1, (set_off nz2).trans g7.2.2.2.2.1, (set_off nz2).trans g7.2.2.2.2.2⟩)
        clear hK K
        try simp only [Act.put, List.setIfInBounds_toArray, List.set_cons_zero, List.set_cons_succ]
        refine wpAnyH_take (i := 9) (v := ?_) rfl (by kernel_rfl) (by kernel_rfl) (by kernel_rfl) (fun _ _ _ h => h) (Or.inl ⟨by rfl, ?_⟩) (by assumption) ?_
        rotate_left
        · (intro w hSw; (try dsimp only at hSw); first | (go_simp; done) | (go_simp; with_reducible rfl))
        try simp only [Act.put, List.setIfInBounds_toArray, List.set_cons_zero, List.set_cons_succ]
        refine wpAnyH_take (i := 10) (v := ?_) rfl (by kernel_rfl) (by kernel_rfl) (by kernel_rfl) (fun _ _ _ h => h) (Or.inl ⟨by rfl, ?_⟩) (by assumption) ?_
        rotate_left
        · (intro w hSw; (try dsimp only at hSw); first | (go_simp; done) | (go_simp; with_reducible rfl))
        try simp only [Act.put, List.setIfInBounds_toArray, List.set_cons_zero, List.set_cons_succ]
        refine wpAnyH_take (i := 11) (v := ?_) rfl (by kernel_rfl) (by kernel_rfl) (by kernel_rfl) (fun _ _ _ h => h) (Or.inl ⟨by rfl, ?_⟩) (by assumption) ?_
        rotate_left
        · (intro w hSw; (try dsimp only at hSw); first | (go_simp; done) | (go_simp; with_reducible rfl))
        try simp only [Act.put, List.setIfInBounds_toArray, List.set_cons_zero, List.set_cons_succ]
        refine wpAnyH_ready (rs := [12]) (by kernel_rfl) (by simp) ?_
        refine AllReadyH.cons rfl (fun K hK => ?_) (AllReadyH.nil)
        go_simp
        refine hK.out _ _ ?_ (fun hHeld => ?_)
        · ((try dsimp only); first | with_reducible exact ge | with_reducible exact gA | with_reducible exact g7 | exact ⟨(set_off nz).trans g7.1, (set_off nz2).trans g7.2.1, (set_off nz2).trans g7.2.2.1, (set_off nz2).trans g7.2.2.2.1, (set_off nz2).trans g7.2.2.2.2.1, (set_off nz2).trans g7.2.2.2.2.2⟩)
        clear hK K
        try simp only [Act.put, List.setIfInBounds_toArray, List.set_cons_zero, List.set_cons_succ]
        refine wpAnyH_done (by kernel_rfl) ?_ _
        refine NoPanic.normal ?_
        clear ge gA g7 o5 oA o3 of3
        go_wp2
        go_end0
        exact ⟨rfl, HBu.out, HE.out⟩
  · go_simp
    obtain ⟨w4, hw4, hb4, hz4, h04⟩ := r_one_al W #[.slice none 0 0, .slice none 0 0, .int .i64 0, .int .i64 0, .slice none 0 0] 35
    rw [← hw4]
    obtain ⟨w3, hw3⟩ : ∃ w3, w3 = w4.drew := ⟨_, rfl⟩
    have hb3 : Below W.drew.heap.size W.drew w3 := by rw [hw3]; exact ⟨hb4.os, hb4.tape, hb4.output, hb4.size, hb4.block⟩
    have h03 : w3.heap[W.heap.size]? = some (.cells #[.slice none 0 0, .slice none 0 0, .int .i64 0, .int .i64 0, .slice none 0 0] 35 (0, 0)) := by rw [hw3]; exact h04
    rw [← hw3]
    have hS3 := HS.out.up hb3
    have g3 : w3.cell? ⟨w.heap.size, 0, none⟩ = some (.pointer (some ⟨p, 0, none⟩)) ∧ w3.cell? ⟨p, 1, none⟩ = some (.slice VB nB cB) ∧ w3.cell? ⟨w.heap.size + 1, 1, none⟩ = some (.slice none 0 0) ∧ w3.cell? ⟨w.heap.size + 1, 2, none⟩ = some (.int .i64 3) ∧ w3.cell? ⟨w.heap.size + 1, 3, none⟩ = some (.int .i64 (-1)) ∧ w3.cell? ⟨w.heap.size + 1, 4, none⟩ = some (.slice none 0 0) := hS3.gd
    have hz9 : w.heap.size + 2 ≤ W.heap.size := HS.out.hz
    have HS := Lib.hid hS3
    obtain ⟨z, hz⟩ : ∃ z, z = W.heap.size := ⟨_, rfl⟩
    rw [← hz] at h03 hz9 ⊢
    have HZ := Lib.hid h03
    clear hS3 hb3 hb4 h04 hz4 h03 hw3 hw4 hz
    refine hK.out _ _ ?_ (fun hHeld => ?_)
    · ((try dsimp only); first | with_reducible exact gd | with_reducible exact g1 | with_reducible exact g2 | with_reducible exact g3 | with_reducible exact g4 | with_reducible exact g5 | with_reducible exact g6)
    clear hK K
    try simp only [Act.put, List.setIfInBounds_toArray, List.set_cons_zero, List.set_cons_succ]
    refine wpAnyH_ready (rs := [7]) (by kernel_rfl) (by simp) ?_
    refine AllReadyH.cons rfl (fun K hK => ?_) (AllReadyH.nil)
    go_simp
    refine (without_nil none 0 _ _).mono ?_
    rintro e w9 ⟨rfl, rfl⟩
    refine hK.out _ _ ?_ (fun hHeld => ?_)
    · ((try dsimp only); first | with_reducible exact gd | with_reducible exact g1 | with_reducible exact g2 | with_reducible exact g3 | with_reducible exact g4 | with_reducible exact g5 | with_reducible exact g6)
    clear hK K
    try simp only [Act.put, List.setIfInBounds_toArray, List.set_cons_zero, List.set_cons_succ]
    refine wpAnyH_ready (rs := [8]) (by kernel_rfl) (by simp) ?_
    refine AllReadyH.cons rfl (fun K hK => ?_) (AllReadyH.nil)
    go_simp
    refine (renamedAll_nil VB nB cB none 0 _).mono ?_
    rintro e w1 ⟨B, rfl, hb⟩
    have hS1 := HS.out.up hb
    have g4 : w1.cell? ⟨w.heap.size, 0, none⟩ = some (.pointer (some ⟨p, 0, none⟩)) ∧ w1.cell? ⟨p, 1, none⟩ = some (.slice VB nB cB) ∧ w1.cell? ⟨w.heap.size + 1, 1, none⟩ = some (.slice none 0 0) ∧ w1.cell? ⟨w.heap.size + 1, 2, none⟩ = some (.int .i64 3) ∧ w1.cell? ⟨w.heap.size + 1, 3, none⟩ = some (.int .i64 (-1)) ∧ w1.cell? ⟨w.heap.size + 1, 4, none⟩ = some (.slice none 0 0) := hS1.gd
    have HS := Lib.hid hS1
    have hZ1 := (hb.block z (heap_in HZ.out)).trans HZ.out
    have HZ := Lib.hid hZ1
    clear hZ1
    clear hS1 hb
    refine hK.out _ _ ?_ (fun hHeld => ?_)
    · ((try dsimp only); first | with_reducible exact gd | with_reducible exact g1 | with_reducible exact g2 | with_reducible exact g3 | with_reducible exact g4 | with_reducible exact g5 | with_reducible exact g6)
    clear hK K
    try simp only [Act.put, List.setIfInBounds_toArray, List.set_cons_zero, List.set_cons_succ]
    refine wpAnyH_ready (rs := [12]) (by kernel_rfl) (by simp) ?_
    refine AllReadyH.cons rfl (fun K hK => ?_) (AllReadyH.nil)
    go_simp
    refine (end_none p x0 x3 x4 x5 x6 (.slice none 0 0) VB VI nB cB nI cI _ HS.out.hp).mono ?_
    rintro e w2 ⟨B2, rfl, hb⟩
    have hS2 := HS.out.up hb
    have g5 : w2.cell? ⟨w.heap.size, 0, none⟩ = some (.pointer (some ⟨p, 0, none⟩)) ∧ w2.cell? ⟨p, 1, none⟩ = some (.slice VB nB cB) ∧ w2.cell? ⟨w.heap.size + 1, 1, none⟩ = some (.slice none 0 0) ∧ w2.cell? ⟨w.heap.size + 1, 2, none⟩ = some (.int .i64 3) ∧ w2.cell? ⟨w.heap.size + 1, 3, none⟩ = some (.int .i64 (-1)) ∧ w2.cell? ⟨w.heap.size + 1, 4, none⟩ = some (.slice none 0 0) := hS2.gd
    have HS := Lib.hid hS2
    have hZ2 := (hb.block z (heap_in HZ.out)).trans HZ.out
    have HZ := Lib.hid hZ2
    clear hZ2
    clear hS2 hb
    refine hK.out _ _ ?_ (fun hHeld => ?_)
    · ((try dsimp only); first | with_reducible exact gd | with_reducible exact g1 | with_reducible exact g2 | with_reducible exact g3 | with_reducible exact g4 | with_reducible exact g5 | with_reducible exact g6)
    clear hK K
    try simp only [Act.put, List.setIfInBounds_toArray, List.set_cons_zero, List.set_cons_succ]
    refine wpAnyH_take (i := 13) (v := ?_) rfl (by kernel_rfl) (by kernel_rfl) (by kernel_rfl) (fun _ _ _ h => h) (Or.inl ⟨by rfl, ?_⟩) (by assumption) ?_
    rotate_left
    · (intro w hSw; (try dsimp only at hSw); first | (go_simp; done) | (go_simp; with_reducible rfl))
    try simp only [Act.put, List.setIfInBounds_toArray, List.set_cons_zero, List.set_cons_succ]
    refine wpAnyH_ready (rs := [15]) (by kernel_rfl) (by simp) ?_
    refine AllReadyH.cons rfl (fun K hK => ?_) (AllReadyH.nil)
    obtain ⟨z0, z1, z2, z3, z4, zf⟩ := cells5 HZ.out
    obtain ⟨w5, hw5⟩ : ∃ w5, w5 = put5 w2 z (.slice none 0 0) (.slice B 0 0) (.int .i64 3) (.int .i64 (-1)) (.slice B2 0 0) := ⟨_, rfl⟩
    have hZ5 : w5.heap[z]? = some (.cells #[.slice none 0 0, .slice B 0 0, .int .i64 3, .int .i64 (-1), .slice B2 0 0] 35 (0, 0)) := by rw [hw5]; exact put5_at HZ.out _ _ _ _ _
    have hS5 : BkS w p #[x0, .slice VB nB cB, .slice VI nI cI, x3, x4, x5, x6, .slice none 0 0] w5 := by rw [hw5]; exact HS.out.bu (put5_bu _ _ _ _ _) hz9
    have g6 : w5.cell? ⟨w.heap.size, 0, none⟩ = some (.pointer (some ⟨p, 0, none⟩)) ∧ w5.cell? ⟨p, 1, none⟩ = some (.slice VB nB cB) ∧ w5.cell? ⟨w.heap.size + 1, 1, none⟩ = some (.slice none 0 0) ∧ w5.cell? ⟨w.heap.size + 1, 2, none⟩ = some (.int .i64 3) ∧ w5.cell? ⟨w.heap.size + 1, 3, none⟩ = some (.int .i64 (-1)) ∧ w5.cell? ⟨w.heap.size + 1, 4, none⟩ = some (.slice none 0 0) := hS5.gd
    unfold put5 at hw5
    have HZ := Lib.hid hZ5
    have HS := Lib.hid hS5
    clear hZ5 hS5
    go_simp
    rw [← hw5]
    clear hw5 z0 z1 z2 z3 z4 zf
    refine hK.out _ _ ?_ (fun hHeld => ?_)
    · ((try dsimp only); first | with_reducible exact gd | with_reducible exact g1 | with_reducible exact g2 | with_reducible exact g3 | with_reducible exact g4 | with_reducible exact g5 | with_reducible exact g6)
    clear hK K
    try simp only [Act.put, List.setIfInBounds_toArray, List.set_cons_zero, List.set_cons_succ]
    refine wpAnyH_done (by kernel_rfl) ?_ _
    refine NoPanic.normal ?_
    clear gd
    (try clear g1)
    (try clear g2)
    (try clear g3)
    (try clear g4)
    (try clear g5)
    (try clear g6)
    have l0 := Lib.cell_of_heap HS.out.ho 0
    go_wp2
    refine wp_loop_rounds 1 ?_
    rw [rounds_succ]
    go_upto_region 14 with fail
    obtain ⟨A, hA, hbA, hzA, h0A⟩ := r_one_al w5 #[.slice none 0 0, .slice B 0 0, .int .i64 3, .int .i64 (-1), .slice B2 0 0] 35
    have ge : w5.drew.cell? ⟨w.heap.size, 0, none⟩ = some (.pointer (some ⟨p, 0, none⟩)) ∧ w5.drew.cell? ⟨z, 0, none⟩ = some (.slice none 0 0) ∧ w5.drew.cell? ⟨z, 1, none⟩ = some (.slice B 0 0) ∧ w5.drew.cell? ⟨z, 2, none⟩ = some (.int .i64 3) ∧ w5.drew.cell? ⟨z, 3, none⟩ = some (.int .i64 (-1)) ∧ w5.drew.cell? ⟨z, 4, none⟩ = some (.slice B2 0 0) := ⟨Lib.cell_of_heap HS.out.hc 0, (cells5 HZ.out).1, (cells5 HZ.out).2.1, (cells5 HZ.out).2.2.1, (cells5 HZ.out).2.2.2.1, (cells5 HZ.out).2.2.2.2.1⟩
    have o5 : w5.drew.cell? ⟨p, 7, none⟩ = some (.slice none 0 0) := Lib.cell_of_heap HS.out.hp 7
    have kA : ∀ q : Addr, q.block < w5.heap.size → A.drew.cell? q = w5.drew.cell? q := fun q hq => hbA.cell hq
    have lp : p < w5.heap.size := heap_in HS.out.hp
    have lc : w.heap.size < w5.heap.size := heap_in HS.out.hc
    have lz : z < w5.heap.size := heap_in HZ.out
    have gA : A.drew.cell? ⟨w.heap.size, 0, none⟩ = some (.pointer (some ⟨p, 0, none⟩)) ∧ A.drew.cell? ⟨z, 0, none⟩ = some (.slice none 0 0) ∧ A.drew.cell? ⟨z, 1, none⟩ = some (.slice B 0 0) ∧ A.drew.cell? ⟨z, 2, none⟩ = some (.int .i64 3) ∧ A.drew.cell? ⟨z, 3, none⟩ = some (.int .i64 (-1)) ∧ A.drew.cell? ⟨z, 4, none⟩ = some (.slice B2 0 0) := ⟨(kA _ lc).trans ge.1, (kA _ lz).trans ge.2.1, (kA _ lz).trans ge.2.2.1, (kA _ lz).trans ge.2.2.2.1, (kA _ lz).trans ge.2.2.2.2.1, (kA _ lz).trans ge.2.2.2.2.2⟩
    have oA : A.drew.cell? ⟨p, 7, none⟩ = some (.slice none 0 0) := (kA _ lp).trans o5
    have HNW := Lib.hid (World.news_of_block (w := A.drew) h0A)
    have HOW := Lib.hid (World.ownsRow_nil A.drew w.heap.size 35 5)
    have HO : Hid (∀ u ∈ ([.slice none 0 0, .slice B 0 0, .int .i64 3, .int .i64 (-1), .slice B2 0 0] : List Value), u.oneCell' = true) := Lib.hid (by
      intro u hu
      simp only [List.mem_cons, List.not_mem_nil, or_false] at hu
      rcases hu with rfl | rfl | rfl | rfl | rfl <;> rfl)
    have hsz : w.heap.size ≤ A.drew.heap.size := by show w.heap.size ≤ A.heap.size; omega
    obtain ⟨i0, hi0, hi1, hi2, hi3⟩ := info_parts infoBlock
    have hall : ∀ w6 gp cp, A.drew.grownBy w6 (Value.slice none 0 0).ownBlock → (w6.cell? ⟨w.heap.size, 0, none⟩ = some (.pointer (some ⟨p, 0, none⟩)) ∧ w6.cell? ⟨z, 0, none⟩ = some (.slice none 0 0) ∧ w6.cell? ⟨z, 1, none⟩ = some (.slice B 0 0) ∧ w6.cell? ⟨z, 2, none⟩ = some (.int .i64 3) ∧ w6.cell? ⟨z, 3, none⟩ = some (.int .i64 (-1)) ∧ w6.cell? ⟨z, 4, none⟩ = some (.slice B2 0 0)) ∧ (w6.cell? ⟨p, 7, none⟩ = some (.slice none 0 0) ∧ w6.frozen? ⟨p, 7, none⟩ = false) ∧ (Bu p w (w6.setCell ⟨p, 7, none⟩ (.slice (some ⟨gp, 0, none⟩) 1 cp)) ∧ ∃ g c, (w6.setCell ⟨p, 7, none⟩ (.slice (some ⟨gp, 0, none⟩) 1 cp)).heap[p]? = some (.cells #[x0, .slice VB nB cB, .slice VI nI cI, x3, x4, x5, x6, .slice (some ⟨g, 0, none⟩) 1 c] 49 (0, 0))) := fun w6 gp cp hg => by
      have k6 : ∀ k, k < A.heap.size → w6.heap[k]? = A.heap[k]? := fun k hk => hg.block k hk (by simp [Value.ownBlock])
      have c6 : ∀ q : Addr, q.block < A.heap.size → w6.cell? q = A.drew.cell? q := fun q hq => World.cell?_of_block (k6 _ hq)
      have hp6 := (k6 p (by omega)).trans ((hbA.block p lp).trans HS.out.hp)
      have hb6 : Below w.heap.size w w6 := HS.out.hb.trans ⟨hg.os.trans hbA.os, hg.tape.trans hbA.tape, hg.output.trans hbA.output, Nat.le_trans hbA.size hg.size, fun k hk => (k6 k (by omega)).trans (hbA.block k (by omega))⟩
      exact ⟨⟨(c6 _ (by show w.heap.size < _; omega)).trans gA.1, (c6 _ (by show z < _; omega)).trans gA.2.1, (c6 _ (by show z < _; omega)).trans gA.2.2.1, (c6 _ (by show z < _; omega)).trans gA.2.2.2.1, (c6 _ (by show z < _; omega)).trans gA.2.2.2.2.1, (c6 _ (by show z < _; omega)).trans gA.2.2.2.2.2⟩, ⟨Lib.cell_of_heap hp6 7, Lib.frozen_of_heap hp6 7⟩, Bu.setCell (g := p) (p := ⟨p, 7, none⟩) (Bu.of_below hb6) (Or.inl rfl) _, gp, cp, heap_put hp6 7 _⟩
    have Hall := Lib.hid hall
    have Hi := Lib.hid hi0
    have HiA := Lib.hid hi1
    have HiB := Lib.hid hi2
    have HiC := Lib.hid hi3
    have nz : w.heap.size ≠ p := by have := HS.out.hl; omega
    have nz2 : z ≠ p := by have := HS.out.hl; omega
    have HA := Lib.hid hA
    clear hall hi0 hi1 hi2 hi3 hbA hzA h0A kA lc lp lz HS HZ l0 hA
    refine wp_region_noPanic ?_
    refine wp_region_held_drew (S := fun w' => w'.cell? ⟨w.heap.size, 0, none⟩ = some (.pointer (some ⟨p, 0, none⟩)) ∧ w'.cell? ⟨z, 0, none⟩ = some (.slice none 0 0) ∧ w'.cell? ⟨z, 1, none⟩ = some (.slice B 0 0) ∧ w'.cell? ⟨z, 2, none⟩ = some (.int .i64 3) ∧ w'.cell? ⟨z, 3, none⟩ = some (.int .i64 (-1)) ∧ w'.cell? ⟨z, 4, none⟩ = some (.slice B2 0 0)) (by kernel_rfl) ge (fun hHeld => ?_)
    refine wpAnyH_take (i := 0) (v := ?_) rfl (by kernel_rfl) (by kernel_rfl) (by kernel_rfl) (fun _ _ _ h => h) (Or.inl ⟨by rfl, ?_⟩) (by assumption) ?_
    rotate_left
    · (intro w hSw; (try dsimp only at hSw); first | (go_simp; done) | (go_simp; with_reducible rfl))
    try simp only [Act.put, List.setIfInBounds_toArray, List.set_cons_zero, List.set_cons_succ]
    refine wpAnyH_take (i := 1) (v := ?_) rfl (by kernel_rfl) (by kernel_rfl) (by kernel_rfl) (fun _ _ _ h => h) (Or.inl ⟨by rfl, ?_⟩) (by assumption) ?_
    rotate_left
    · (intro w hSw; (try dsimp only at hSw); first | (go_simp; done) | (go_simp; with_reducible rfl))
    try simp only [Act.put, List.setIfInBounds_toArray, List.set_cons_zero, List.set_cons_succ]
    refine wpAnyH_take (i := 2) (v := ?_) rfl (by kernel_rfl) (by kernel_rfl) (by kernel_rfl) (fun _ _ _ h => h) (Or.inl ⟨by rfl, ?_⟩) (by assumption) ?_
    rotate_left
    · (intro w hSw; (try dsimp only at hSw); first | (go_simp; done) | (go_simp; with_reducible rfl))
    try simp only [Act.put, List.setIfInBounds_toArray, List.set_cons_zero, List.set_cons_succ]
    refine wpAnyH_take (i := 3) (v := ?_) rfl (by kernel_rfl) (by kernel_rfl) (by kernel_rfl) (fun _ _ _ h => h) (Or.inl ⟨by rfl, ?_⟩) (by assumption) ?_
    rotate_left
    · (intro w hSw; (try dsimp only at hSw); first | (go_simp; done) | (go_simp; with_reducible rfl))
    try simp only [Act.put, List.setIfInBounds_toArray, List.set_cons_zero, List.set_cons_succ]
    refine wpAnyH_take (i := 4) (v := ?_) rfl (by kernel_rfl) (by kernel_rfl) (by kernel_rfl) (fun _ _ _ h => h) (Or.inl ⟨by rfl, ?_⟩) (by assumption) ?_
    rotate_left
    · (intro w hSw; (try dsimp only at hSw); first | (go_simp; done) | (go_simp; with_reducible rfl))
    try simp only [Act.put, List.setIfInBounds_toArray, List.set_cons_zero, List.set_cons_succ]
    refine wpAnyH_take (i := 6) (v := ?_) rfl (by kernel_rfl) (by kernel_rfl) (by kernel_rfl) (fun _ _ _ h => h) (Or.inl ⟨by rfl, ?_⟩) (by assumption) ?_
    rotate_left
    · (intro w hSw; (try dsimp only at hSw); first | (go_simp; done) | (go_simp; with_reducible rfl))
    try simp only [Act.put, List.setIfInBounds_toArray, List.set_cons_zero, List.set_cons_succ]
    refine wpAnyH_ready (rs := [5, 7]) (by kernel_rfl) (by simp) ?_
    refine AllReadyH.cons rfl (fun K hK => ?_) (AllReadyH.cons rfl (fun K hK => ?_) (AllReadyH.nil))
    · go_simp
      refine hK.out _ _ ?_ (fun hHeld => ?_)
      · ((try dsimp only); first | with_reducible exact ge | with_reducible exact gA | with_reducible exact g7 | exact ⟨(set_off nz).trans g7.1, (set_off nz2).trans g7.2.1, (set_off nz2).trans g7.2.2.1, (set_off nz2).trans g7.2.2.2.1, (set_off nz2).trans g7.2.2.2.2.1, (set_off nz2).trans g7.2.2.2.2.2⟩)
      clear hK K
      try simp only [Act.put, List.setIfInBounds_toArray, List.set_cons_zero, List.set_cons_succ]
      refine wpAnyH_ready (rs := [7]) (by kernel_rfl) (by simp) ?_
      refine AllReadyH.cons rfl (fun K hK => ?_) (AllReadyH.nil)
      go_simp
      (try rw [← HA.out])
      refine hK.out _ _ ?_ (fun hHeld => ?_)
      · ((try dsimp only); first | with_reducible exact ge | with_reducible exact gA | with_reducible exact g7 | exact ⟨(set_off nz).trans g7.1, (set_off nz2).trans g7.2.1, (set_off nz2).trans g7.2.2.1, (set_off nz2).trans g7.2.2.2.1, (set_off nz2).trans g7.2.2.2.2.1, (set_off nz2).trans g7.2.2.2.2.2⟩)
      clear hK K
      try simp only [Act.put, List.setIfInBounds_toArray, List.set_cons_zero, List.set_cons_succ]
      refine wpAnyH_ready (rs := [8]) (by kernel_rfl) (by simp) ?_
      refine AllReadyH.cons rfl (fun K hK => ?_) (AllReadyH.nil)
      refine step_append_lies _ rfl (.tmp 93) (.tmp 95) 24 rfl w.heap.size 35 i0 (.agg #[.slice none 0 0, .slice none 0 0, .int .i64 0, .int .i64 0, .slice none 0 0]) 5 88 Tryd.underlying24 Hi.out HiA.out HiB.out HiC.out rfl (by decide) (.slice none 0 0) 0 [] (by simp [Act.eval, Act.put]) HOW.out ⟨w5.heap.size, 0, none⟩ 1 1 [.slice none 0 0, .slice B 0 0, .int .i64 3, .int .i64 (-1), .slice B2 0 0] (by simp [Act.eval, Act.put]) rfl HNW.out HO.out (by decide) (by decide) (by decide) hsz _ rfl ?_
      intro gp cp2 w6 hown2 hgrow hat hlt
      obtain ⟨g7, ⟨o3, of3⟩, hBu, hE⟩ := Hall.out w6 gp cp2 hgrow
      have HBu := Lib.hid hBu
      have HE := Lib.hid hE
      clear hown2 hgrow hat hlt hBu hE Hall
      refine hK.out _ _ ?_ (fun hHeld => ?_)
      · ((try dsimp only); first | with_reducible exact ge | with_reducible exact gA | with_reducible exact g7 | exact ⟨(set_off nz).trans g7.1, (set_off nz2).trans g7.2.1, (set_off nz2).trans g7.2.2.1, (set_off nz2).trans g7.2.2.2.1, (set_off nz2).trans g7.2.2.2.2.1, (set_off nz2).trans g7.2.2.2.2.2⟩)
      clear hK K
      try simp only [Act.put, List.setIfInBounds_toArray, List.set_cons_zero, List.set_cons_succ]
      refine wpAnyH_take (i := 9) (v := ?_) rfl (by kernel_rfl) (by kernel_rfl) (by kernel_rfl) (fun _ _ _ h => h) (Or.inl ⟨by rfl, ?_⟩) (by assumption) ?_
      rotate_left
      · (intro w hSw; (try dsimp only at hSw); first | (go_simp; done) | (go_simp; with_reducible rfl))
      try simp only [Act.put, List.setIfInBounds_toArray, List.set_cons_zero, List.set_cons_succ]
      refine wpAnyH_take (i := 10) (v := ?_) rfl (by kernel_rfl) (by kernel_rfl) (by kernel_rfl) (fun _ _ _ h => h) (Or.inl ⟨by rfl, ?_⟩) (by assumption) ?_
      rotate_left
      · (intro w hSw; (try dsimp only at hSw); first | (go_simp; done) | (go_simp; with_reducible rfl))
      try simp only [Act.put, List.setIfInBounds_toArray, List.set_cons_zero, List.set_cons_succ]
      refine wpAnyH_take (i := 11) (v := ?_) rfl (by kernel_rfl) (by kernel_rfl) (by kernel_rfl) (fun _ _ _ h => h) (Or.inl ⟨by rfl, ?_⟩) (by assumption) ?_
      rotate_left
      · (intro w hSw; (try dsimp only at hSw); first | (go_simp; done) | (go_simp; with_reducible rfl))
      try simp only [Act.put, List.setIfInBounds_toArray, List.set_cons_zero, List.set_cons_succ]
      refine wpAnyH_ready (rs := [12]) (by kernel_rfl) (by simp) ?_
      refine AllReadyH.cons rfl (fun K hK => ?_) (AllReadyH.nil)
      go_simp
      refine hK.out _ _ ?_ (fun hHeld => ?_)
      · ((try dsimp only); first | with_reducible exact ge | with_reducible exact gA | with_reducible exact g7 | exact ⟨(set_off nz).trans g7.1, (set_off nz2).trans g7.2.1, (set_off nz2).trans g7.2.2.1, (set_off nz2).trans g7.2.2.2.1, (set_off nz2).trans g7.2.2.2.2.1, (set_off nz2).trans g7.2.2.2.2.2⟩)
      clear hK K
      try simp only [Act.put, List.setIfInBounds_toArray, List.set_cons_zero, List.set_cons_succ]
      refine wpAnyH_done (by kernel_rfl) ?_ _
      refine NoPanic.normal ?_
      clear ge gA g7 o5 oA o3 of3
      go_wp2
      go_end0
      exact ⟨rfl, HBu.out, HE.out⟩
    · go_simp
      (try rw [← HA.out])
      refine hK.out _ _ ?_ (fun hHeld => ?_)
      · ((try dsimp only); first | with_reducible exact ge | with_reducible exact gA | with_reducible exact g7 | exact ⟨(set_off nz).trans g7.1, (set_off nz2).trans g7.2.1, (set_off nz2).trans g7.2.2.1, (set_off nz2).trans g7.2.2.2.1, (set_off nz2).trans g7.2.2.2.2.1, (set_off nz2).trans g7.2.2.2.2.2⟩)
      clear hK K
      try simp only [Act.put, List.setIfInBounds_toArray, List.set_cons_zero, List.set_cons_succ]
      refine wpAnyH_ready (rs := [5]) (by kernel_rfl) (by simp) ?_
      refine AllReadyH.cons rfl (fun K hK => ?_) (AllReadyH.nil)
      go_simp
      refine hK.out _ _ ?_ (fun hHeld => ?_)
      · ((try dsimp only); first | with_reducible exact ge | with_reducible exact gA | with_reducible exact g7 | exact ⟨(set_off nz).trans g7.1, (set_off nz2).trans g7.2.1, (set_off nz2).trans g7.2.2.1, (set_off nz2).trans g7.2.2.2.1, (set_off nz2).trans g7.2.2.2.2.1, (set_off nz2).trans g7.2.2.2.2.2⟩)
      clear hK K
      try simp only [Act.put, List.setIfInBounds_toArray, List.set_cons_zero, List.set_cons_succ]
      refine wpAnyH_ready (rs := [8]) (by kernel_rfl) (by simp) ?_
      refine AllReadyH.cons rfl (fun K hK => ?_) (AllReadyH.nil)
      refine step_append_lies _ rfl (.tmp 93) (.tmp 95) 24 rfl w.heap.size 35 i0 (.agg #[.slice none 0 0, .slice none 0 0, .int .i64 0, .int .i64 0, .slice none 0 0]) 5 88 Tryd.underlying24 Hi.out HiA.out HiB.out HiC.out rfl (by decide) (.slice none 0 0) 0 [] (by simp [Act.eval, Act.put]) HOW.out ⟨w5.heap.size, 0, none⟩ 1 1 [.slice none 0 0, .slice B 0 0, .int .i64 3, .int .i64 (-1), .slice B2 0 0] (by simp [Act.eval, Act.put]) rfl HNW.out HO.out (by decide) (by decide) (by decide) hsz _ rfl ?_
      intro gp cp2 w6 hown2 hgrow hat hlt
      obtain ⟨g7, ⟨o3, of3⟩, hBu, hE⟩ := Hall.out w6 gp cp2 hgrow
      have HBu := Lib.hid hBu
      have HE := Lib.hid hE
      clear hown2 hgrow hat hlt hBu hE Hall
      refine hK.out _ _ ?_ (fun hHeld => ?_)
      · ((try dsimp only); first | with_reducible exact ge | with_reducible exact gA | with_reducible exact g7 | exact ⟨(set_off nz).trans g7.1, (set_off nz2).trans g7.2.1, (set_off nz2).trans g7.2.2.1, (set_off nz2).trans g7.2.2.2.1, (set_off nz2).trans g7.2.2.2.2.1, (set_off nz2).trans g7.2.2.2.2.2⟩)
      clear hK K
      try simp only [Act.put, List.setIfInBounds_toArray, List.set_cons_zero, List.set_cons_succ]
      refine wpAnyH_take (i := 9) (v := ?_) rfl (by kernel_rfl) (by kernel_rfl) (by kernel_rfl) (fun _ _ _ h => h) (Or.inl ⟨by rfl, ?_⟩) (by assumption) ?_
      rotate_left
      · (intro w hSw; (try dsimp only at hSw); first | (go_simp; done) | (go_simp; with_reducible rfl))
      try simp only [Act.put, List.setIfInBounds_toArray, List.set_cons_zero, List.set_cons_succ]
      refine wpAnyH_take (i := 10) (v := ?_) rfl (by kernel_rfl) (by kernel_rfl) (by kernel_rfl) (fun _ _ _ h => h) (Or.inl ⟨by rfl, ?_⟩) (by assumption) ?_
      rotate_left
      · (intro w hSw; (try dsimp only at hSw); first | (go_simp; done) | (go_simp; with_reducible rfl))
      try simp only [Act.put, List.setIfInBounds_toArray, List.set_cons_zero, List.set_cons_succ]
      refine wpAnyH_take (i := 11) (v := ?_) rfl (by kernel_rfl) (by kernel_rfl) (by kernel_rfl) (fun _ _ _ h => h) (Or.inl ⟨by rfl, ?_⟩) (by assumption) ?_
      rotate_left
      · (intro w hSw; (try dsimp only at hSw); first | (go_simp; done) | (go_simp; with_reducible rfl))
      try simp only [Act.put, List.setIfInBounds_toArray, List.set_cons_zero, List.set_cons_succ]
      refine wpAnyH_ready (rs := [12]) (by kernel_rfl) (by simp) ?_
      refine AllReadyH.cons rfl (fun K hK => ?_) (AllReadyH.nil)
      go_simp
      refine hK.out _ _ ?_ (fun hHeld => ?_)
      · ((try dsimp only); first | with_reducible exact ge | with_reducible exact gA | with_reducible exact g7 | exact ⟨(set_off nz).trans g7.1, (set_off nz2).trans g7.2.1, (set_off nz2).trans g7.2.2.1, (set_off nz2).trans g7.2.2.2.1, (set_off nz2).trans g7.2.2.2.2.1, (set_off nz2).trans g7.2.2.2.2.2⟩)
      clear hK K
      try simp only [Act.put, List.setIfInBounds_toArray, List.set_cons_zero, List.set_cons_succ]
      refine wpAnyH_done (by kernel_rfl) ?_ _
      refine NoPanic.normal ?_
      clear ge gA g7 o5 oA o3 of3
      go_wp2
      go_end0
      exact ⟨rfl, HBu.out, HE.out⟩
end Go.Proofs.YtglobeajmdieaaaDoor
