/-
  The checker's map of functions' names.
  The checker: main, and the names of functions.
-/
import Derived.Test.YtlgpbllkhbgppaaGreatDoorJn28
import Derived.Maps.OwnSet
import Derived.BigQuiet
namespace Go.Proofs.YtlgpbllkhbgppaaGreatDoor
set_option linter.unusedVariables false
set_option linter.unusedSimpArgs false
open Go.RowKit Go.WideMaps Go.Maps

def mainB : ByteArray := ⟨#[109, 97, 105, 110]⟩
theorem zero3 (w : World) : (zeroValue 3).run Tryz.prog w = .ok (.int .i64 0) w := by kernel_rfl
theorem keyed9 : Keyed Tryz.prog 9 := string_keyed Tryz.underlying9
theorem key_main : keyOf Tryz.prog 9 (.string mainB) = some (.string mainB.data.toList) := keyOf_string_mk Tryz.underlying9 (by decide)
theorem isKey_main : MapKept.IsKey .string (.string mainB) := by simp [MapKept.IsKey]
theorem ck_main (e : Bool) (w : World) : (Instr.checkKey e 10000 9 (.string mainB)).run Tryz.prog w = .ok () w := MapKept.run_checkKey Tryz.underlying9 isKey_main e 9999
theorem find_none (w : World) : (Instr.findKey 9 (.string mainB) []).run Tryz.prog w = .ok none w := MapKept.run_findKey Tryz.underlying9 rfl
theorem find_main (w : World) : (Instr.findKey 9 (.string mainB) [⟨.string mainB, .int .i64 0, 0⟩]).run Tryz.prog w = .ok (some (0, .int .i64 0)) w := MapKept.run_findKey Tryz.underlying9 (by kernel_rfl)
/-- No name so far. -/
theorem look_none (w : World) (m : Nat) (hm : w.heap[m]? = some (.map #[] 0)) : (Instr.lookup 54 (.map (some m)) (.string mainB) true).run Tryz.prog w = .ok (.tuple #[.int .i64 0, .bool false]) w := by
  simp [Instr.lookup, run_underlying Tryz.underlying54, MapKept.run_getObj_map hm, zero3, ck_main, find_none, find_main, Result.andThen]
theorem put_main (w : World) (m : Nat) (hm : w.heap[m]? = some (.map #[] 0)) : (Instr.mapUpdate 54 (.map (some m)) (.string mainB) (.int .i64 0)).run Tryz.prog w = .ok () { w with heap := w.heap.setIfInBounds m (.map #[⟨.string mainB, .int .i64 0, 0⟩] 1) } := by
  simp [Instr.mapUpdate, run_underlying Tryz.underlying54, MapKept.run_getObj_map hm, MapKept.run_setObj_map _ hm, ck_main, find_none, Result.andThen]
/-- The map has the name. -/
def putW (w : World) (m : Nat) : World := { w with heap := w.heap.setIfInBounds m (.map #[⟨.string mainB, .int .i64 0, 0⟩] 1) }
theorem put_mainW (w : World) (m : Nat) (hm : w.heap[m]? = some (.map #[] 0)) : (Instr.mapUpdate 54 (.map (some m)) (.string mainB) (.int .i64 0)).run Tryz.prog w = .ok () (putW w m) := put_main w m hm
theorem putW_at (w : World) (m : Nat) (hm : m < w.heap.size) : (putW w m).heap[m]? = some (.map #[⟨.string mainB, .int .i64 0, 0⟩] 1) := by simp [putW, hm]
theorem putW_far (w : World) (m x : Nat) (hx : x ≠ m) : (putW w m).heap[x]? = w.heap[x]? := by simp [putW, Array.getElem?_setIfInBounds, Ne.symm hx]
theorem putW_but (w : World) (m : Nat) : But m w (putW w m) := ⟨rfl, rfl, rfl, by simp [putW], fun k _ hk => putW_far w m k hk⟩
theorem look_main (w : World) (m : Nat) (hm : w.heap[m]? = some (.map #[⟨.string mainB, .int .i64 0, 0⟩] 1)) : (Instr.lookup 54 (.map (some m)) (.string mainB) true).run Tryz.prog w = .ok (.tuple #[.int .i64 0, .bool true]) w := by
  simp [Instr.lookup, run_underlying Tryz.underlying54, MapKept.run_getObj_map hm, zero3, ck_main, find_none, find_main, Result.andThen]
end Go.Proofs.YtlgpbllkhbgppaaGreatDoor
namespace Go.Proofs.YtlgpbllkhbgppaaGreatDoor
set_option linter.unusedVariables false
set_option linter.unusedSimpArgs false
open Go.RowKit

/-- One function, main, as it lies. -/
def Main1 (w : World) (r o : Nat) (at_ v0 : Int) (PA BA : Option Addr) (pc n bc : Nat) : Prop := w.cell? ⟨r, o, none⟩ = some (.string mainB) ∧ w.cell? ⟨r, o + 1, none⟩ = some (.int .i64 at_) ∧ w.cell? ⟨r, o + 2, none⟩ = some (.slice PA 0 pc) ∧ w.cell? ⟨r, o + 3, none⟩ = some (.int .i64 1) ∧ w.cell? ⟨r, o + 4, none⟩ = some (.slice BA n bc) ∧ w.cell? ⟨r, o + 5, none⟩ = some (.int .i64 v0)
theorem Main1.up {w w' : World} {r o : Nat} {at_ v0 : Int} {PA BA : Option Addr} {pc n bc : Nat} (h : Main1 w r o at_ v0 PA BA pc n bc) (hb : w'.heap[r]? = w.heap[r]?) : Main1 w' r o at_ v0 PA BA pc n bc := by
  have e : ∀ j, w'.cell? ⟨r, j, none⟩ = w.cell? ⟨r, j, none⟩ := fun j => World.cell?_of_block (a := ⟨r, j, none⟩) hb
  obtain ⟨h0, h1, h2, h3, h4, h5⟩ := h
  exact ⟨(e _).trans h0, (e _).trans h1, (e _).trans h2, (e _).trans h3, (e _).trans h4, (e _).trans h5⟩
set_option maxRecDepth 100000 in
set_option maxHeartbeats 4000000 in
theorem main_c (g mw r o fc : Nat) (R V I B : Value) (N L at_ v0 : Int) (PA BA : Option Addr) (pc n bc : Nat) (w : World) (h : CkB w g (.slice (some ⟨r, o, none⟩) 1 fc) mw R V I B N L) (hr : r < w.heap.size) (hf : Main1 w r o at_ v0 PA BA pc n bc) (hm : w.heap[mw]? = some (.map #[⟨.string mainB, .int .i64 0, 0⟩] 1)) :
    Calls Tryz.prog 16 #[.pointer (some ⟨g, 0, none⟩)] w fun e w' => e = .returned (.tuple #[]) ∧ Below w.heap.size w w' := by
  have hlk := look_main w mw hm
  unfold mainB at hlk
  have c1 := Lib.cell_of_heap h 1
  have c0 := Lib.cell_of_heap h 0
  obtain ⟨x0, x1, x2, x3, x4, x5⟩ := hf
  unfold mainB at x0
  clear h hm
  go_enter Tryz.func16, Tryz.ntmps16
  go_wp2
  go_end0
  exact ⟨rfl, (Below.refl _ _).alloc (Nat.le_refl _) _⟩
set_option maxRecDepth 100000 in
set_option maxHeartbeats 4000000 in
theorem nameFns_c (g mw r o fc : Nat) (R V I B : Value) (N L at_ v0 : Int) (PA BA : Option Addr) (pc n bc : Nat) (w : World) (h : CkB w g (.slice (some ⟨r, o, none⟩) 1 fc) mw R V I B N L) (hr : r < w.heap.size) (hf : Main1 w r o at_ v0 PA BA pc n bc) (hm : w.heap[mw]? = some (.map #[] 0)) (hgm : g ≠ mw) :
    Calls Tryz.prog 14 #[.pointer (some ⟨g, 0, none⟩)] w fun e w' => e = .returned (.tuple #[]) ∧ But mw w w' ∧ w'.heap[mw]? = some (.map #[⟨.string mainB, .int .i64 0, 0⟩] 1) := by
  have hml := heap_lt hm
  have hgl := heap_lt h
  have c0 := Lib.cell_of_heap h 0
  obtain ⟨x0, x1, x2, x3, x4, x5⟩ := hf
  obtain ⟨W, hW, hbW, hzW, hbF⟩ := ch_one_al w #[.string mainB, .int .i64 at_, .slice PA 0 pc, .int .i64 1, .slice BA n bc, .int .i64 v0] 64
  have hmW := (hbW.block mw hml).trans hm
  have c1W := Lib.cell_of_heap ((hbW.block g hgl).trans h) 1
  have f0 := Lib.cell_of_heap hbF 0
  have hlk := look_none W mw hmW
  have hpt := put_main W.drew.drew mw hmW
  have HbW := Lib.hid hbW
  have HmW := Lib.hid hmW
  clear h hm hbW hbF hmW
  go_enter Tryz.func14, Tryz.ntmps14
  go_upto_region 1 with fail
  refine wp_loop_rounds 2 ?_
  rw [rounds_succ]
  go_upto_region 3 with fail
  rw [← hW]
  have hmD : W.drew.heap[mw]? = some (.map #[] 0) := HmW.out
  have gd : W.drew.cell? ⟨g, 1, none⟩ = some (.map (some mw)) ∧ W.drew.cell? ⟨w.heap.size, 0, none⟩ = some (.string mainB) ∧ W.drew.heap[mw]? = some (.map #[] 0) := ⟨c1W, f0, hmD⟩
  clear hW
  refine wp_region_noPanic ?_
  refine wp_region_held_drew (S := fun w' => w'.cell? ⟨g, 1, none⟩ = some (.map (some mw)) ∧ w'.cell? ⟨w.heap.size, 0, none⟩ = some (.string mainB) ∧ w'.heap[mw]? = some (.map #[] 0)) (by kernel_rfl) gd (fun hHeld => ?_)
  refine wpAnyH_take (i := 0) (v := ?_) rfl (by kernel_rfl) (by kernel_rfl) (by kernel_rfl) (fun _ _ _ h => h) (Or.inl ⟨by rfl, ?_⟩) (by assumption) ?_
  rotate_left
  · (intro w hSw; (try dsimp only at hSw); obtain ⟨q1, q2, q3⟩ := hSw; have q4 := look_none w mw q3; first | (go_simp; done) | (go_simp; with_reducible rfl))
  try simp only [Act.put, List.setIfInBounds_toArray, List.set_cons_zero, List.set_cons_succ]
  refine wpAnyH_take (i := 1) (v := ?_) rfl (by kernel_rfl) (by kernel_rfl) (by kernel_rfl) (fun _ _ _ h => h) (Or.inl ⟨by rfl, ?_⟩) (by assumption) ?_
  rotate_left
  · (intro w hSw; (try dsimp only at hSw); obtain ⟨q1, q2, q3⟩ := hSw; have q4 := look_none w mw q3; first | (go_simp; done) | (go_simp; with_reducible rfl))
  try simp only [Act.put, List.setIfInBounds_toArray, List.set_cons_zero, List.set_cons_succ]
  refine wpAnyH_take (i := 2) (v := ?_) rfl (by kernel_rfl) (by kernel_rfl) (by kernel_rfl) (fun _ _ _ h => h) (Or.inl ⟨by rfl, ?_⟩) (by assumption) ?_
  rotate_left
  · (intro w hSw; (try dsimp only at hSw); obtain ⟨q1, q2, q3⟩ := hSw; have q4 := look_none w mw q3; first | (go_simp; done) | (go_simp; with_reducible rfl))
  try simp only [Act.put, List.setIfInBounds_toArray, List.set_cons_zero, List.set_cons_succ]
  refine wpAnyH_take (i := 3) (v := ?_) rfl (by kernel_rfl) (by kernel_rfl) (by kernel_rfl) (fun _ _ _ h => h) (Or.inl ⟨by rfl, ?_⟩) (by assumption) ?_
  rotate_left
  · (intro w hSw; (try dsimp only at hSw); obtain ⟨q1, q2, q3⟩ := hSw; have q4 := look_none w mw q3; first | (go_simp; done) | (go_simp; with_reducible rfl))
  try simp only [Act.put, List.setIfInBounds_toArray, List.set_cons_zero, List.set_cons_succ]
  refine wpAnyH_take (i := 4) (v := ?_) rfl (by kernel_rfl) (by kernel_rfl) (by kernel_rfl) (fun _ _ _ h => h) (Or.inl ⟨by rfl, ?_⟩) (by assumption) ?_
  rotate_left
  · (intro w hSw; (try dsimp only at hSw); obtain ⟨q1, q2, q3⟩ := hSw; have q4 := look_none w mw q3; first | (go_simp; done) | (go_simp; with_reducible rfl))
  try simp only [Act.put, List.setIfInBounds_toArray, List.set_cons_zero, List.set_cons_succ]
  refine wpAnyH_take (i := 5) (v := ?_) rfl (by kernel_rfl) (by kernel_rfl) (by kernel_rfl) (fun _ _ _ h => h) (Or.inl ⟨by rfl, ?_⟩) (by assumption) ?_
  rotate_left
  · (intro w hSw; (try dsimp only at hSw); obtain ⟨q1, q2, q3⟩ := hSw; have q4 := look_none w mw q3; first | (go_simp; done) | (go_simp; with_reducible rfl))
  try simp only [Act.put, List.setIfInBounds_toArray, List.set_cons_zero, List.set_cons_succ]
  refine wpAnyH_take (i := 6) (v := ?_) rfl (by kernel_rfl) (by kernel_rfl) (by kernel_rfl) (fun _ _ _ h => h) (Or.inl ⟨by rfl, ?_⟩) (by assumption) ?_
  rotate_left
  · (intro w hSw; (try dsimp only at hSw); obtain ⟨q1, q2, q3⟩ := hSw; have q4 := look_none w mw q3; first | (go_simp; done) | (go_simp; with_reducible rfl))
  try simp only [Act.put, List.setIfInBounds_toArray, List.set_cons_zero, List.set_cons_succ]
  refine wpAnyH_take (i := 7) (v := ?_) rfl (by kernel_rfl) (by kernel_rfl) (by kernel_rfl) (fun _ _ _ h => h) (Or.inl ⟨by rfl, ?_⟩) (by assumption) ?_
  rotate_left
  · (intro w hSw; (try dsimp only at hSw); obtain ⟨q1, q2, q3⟩ := hSw; have q4 := look_none w mw q3; first | (go_simp; done) | (go_simp; with_reducible rfl))
  try simp only [Act.put, List.setIfInBounds_toArray, List.set_cons_zero, List.set_cons_succ]
  refine wpAnyH_take (i := 8) (v := ?_) rfl (by kernel_rfl) (by kernel_rfl) (by kernel_rfl) (fun _ _ _ h => h) (Or.inl ⟨by rfl, ?_⟩) (by assumption) ?_
  rotate_left
  · (intro w hSw; (try dsimp only at hSw); obtain ⟨q1, q2, q3⟩ := hSw; have q4 := look_none w mw q3; first | (go_simp; done) | (go_simp; with_reducible rfl))
  try simp only [Act.put, List.setIfInBounds_toArray, List.set_cons_zero, List.set_cons_succ]
  refine wpAnyH_take (i := 9) (v := ?_) rfl (by kernel_rfl) (by kernel_rfl) (by kernel_rfl) (fun _ _ _ h => h) (Or.inl ⟨by rfl, ?_⟩) (by assumption) ?_
  rotate_left
  · (intro w hSw; (try dsimp only at hSw); obtain ⟨q1, q2, q3⟩ := hSw; have q4 := look_none w mw q3; first | (go_simp; done) | (go_simp; with_reducible rfl))
  try simp only [Act.put, List.setIfInBounds_toArray, List.set_cons_zero, List.set_cons_succ]
  refine wpAnyH_take (i := 10) (v := ?_) rfl (by kernel_rfl) (by kernel_rfl) (by kernel_rfl) (fun _ _ _ h => h) (Or.inl ⟨by rfl, ?_⟩) (by assumption) ?_
  rotate_left
  · (intro w hSw; (try dsimp only at hSw); obtain ⟨q1, q2, q3⟩ := hSw; have q4 := look_none w mw q3; first | (go_simp; done) | (go_simp; with_reducible rfl))
  try simp only [Act.put, List.setIfInBounds_toArray, List.set_cons_zero, List.set_cons_succ]
  refine wpAnyH_take (i := 11) (v := ?_) rfl (by kernel_rfl) (by kernel_rfl) (by kernel_rfl) (fun _ _ _ h => h) (Or.inl ⟨by rfl, ?_⟩) (by assumption) ?_
  rotate_left
  · (intro w hSw; (try dsimp only at hSw); obtain ⟨q1, q2, q3⟩ := hSw; have q4 := look_none w mw q3; first | (go_simp; done) | (go_simp; with_reducible rfl))
  try simp only [Act.put, List.setIfInBounds_toArray, List.set_cons_zero, List.set_cons_succ]
  refine wpAnyH_done (by kernel_rfl) ?_ _
  refine NoPanic.normal ?_
  go_upto_region 6 with fail
  obtain ⟨D, hD⟩ : ∃ D, D = W.drew := ⟨_, rfl⟩
  have hbD : Below w.heap.size w D := by rw [hD]; exact HbW.out.drew
  have hmD2 : D.drew.heap[mw]? = some (.map #[] 0) := by rw [hD]; exact HmW.out
  have ge : D.drew.cell? ⟨g, 1, none⟩ = some (.map (some mw)) ∧ D.drew.cell? ⟨w.heap.size, 0, none⟩ = some (.string mainB) := by rw [hD]; exact ⟨c1W, f0⟩
  have hDz : D.heap.size = w.heap.size + 1 := by rw [hD]; exact hzW
  have hpu := put_mainW D.drew mw hmD2
  have hsz : D.drew.heap.size = w.heap.size + 1 := hDz
  have g2 : (putW D.drew mw).cell? ⟨g, 1, none⟩ = some (.map (some mw)) ∧ (putW D.drew mw).cell? ⟨w.heap.size, 0, none⟩ = some (.string mainB) := ⟨(World.cell?_of_block (a := ⟨g, 1, none⟩) (putW_far _ _ _ hgm)).trans ge.1, (World.cell?_of_block (a := ⟨w.heap.size, 0, none⟩) (putW_far _ _ _ (by show w.heap.size ≠ mw; omega))).trans ge.2⟩
  have hend : But mw w (putW D.drew mw) ∧ (putW D.drew mw).heap[mw]? = some (.map #[⟨.string mainB, .int .i64 0, 0⟩] 1) := ⟨(But.of_below hbD.drew).trans (putW_but _ _), putW_at _ _ (by omega)⟩
  have Hend := Lib.hid hend
  rw [← hD]
  clear hD hbD hmD2 hDz hsz hend gd hmD hlk hpt
  refine wp_region_noPanic ?_
  refine wp_region_held_drew (S := fun w' => w'.cell? ⟨g, 1, none⟩ = some (.map (some mw)) ∧ w'.cell? ⟨w.heap.size, 0, none⟩ = some (.string mainB)) (by kernel_rfl) ge (fun hHeld => ?_)
  refine wpAnyH_take (i := 0) (v := ?_) rfl (by kernel_rfl) (by kernel_rfl) (by kernel_rfl) (fun _ _ _ h => h) (Or.inl ⟨by rfl, ?_⟩) (by assumption) ?_
  rotate_left
  · (intro w hSw; (try dsimp only at hSw); first | (go_simp; done) | (go_simp; with_reducible rfl))
  try simp only [Act.put, List.setIfInBounds_toArray, List.set_cons_zero, List.set_cons_succ]
  refine wpAnyH_take (i := 1) (v := ?_) rfl (by kernel_rfl) (by kernel_rfl) (by kernel_rfl) (fun _ _ _ h => h) (Or.inl ⟨by rfl, ?_⟩) (by assumption) ?_
  rotate_left
  · (intro w hSw; (try dsimp only at hSw); first | (go_simp; done) | (go_simp; with_reducible rfl))
  try simp only [Act.put, List.setIfInBounds_toArray, List.set_cons_zero, List.set_cons_succ]
  refine wpAnyH_take (i := 2) (v := ?_) rfl (by kernel_rfl) (by kernel_rfl) (by kernel_rfl) (fun _ _ _ h => h) (Or.inl ⟨by rfl, ?_⟩) (by assumption) ?_
  rotate_left
  · (intro w hSw; (try dsimp only at hSw); first | (go_simp; done) | (go_simp; with_reducible rfl))
  try simp only [Act.put, List.setIfInBounds_toArray, List.set_cons_zero, List.set_cons_succ]
  refine wpAnyH_take (i := 3) (v := ?_) rfl (by kernel_rfl) (by kernel_rfl) (by kernel_rfl) (fun _ _ _ h => h) (Or.inl ⟨by rfl, ?_⟩) (by assumption) ?_
  rotate_left
  · (intro w hSw; (try dsimp only at hSw); first | (go_simp; done) | (go_simp; with_reducible rfl))
  try simp only [Act.put, List.setIfInBounds_toArray, List.set_cons_zero, List.set_cons_succ]
  refine wpAnyH_take (i := 4) (v := ?_) rfl (by kernel_rfl) (by kernel_rfl) (by kernel_rfl) (fun _ _ _ h => h) (Or.inl ⟨by rfl, ?_⟩) (by assumption) ?_
  rotate_left
  · (intro w hSw; (try dsimp only at hSw); first | (go_simp; done) | (go_simp; with_reducible rfl))
  try simp only [Act.put, List.setIfInBounds_toArray, List.set_cons_zero, List.set_cons_succ]
  refine wpAnyH_take (i := 5) (v := ?_) rfl (by kernel_rfl) (by kernel_rfl) (by kernel_rfl) (fun _ _ _ h => h) (Or.inl ⟨by rfl, ?_⟩) (by assumption) ?_
  rotate_left
  · (intro w hSw; (try dsimp only at hSw); first | (go_simp; done) | (go_simp; with_reducible rfl))
  try simp only [Act.put, List.setIfInBounds_toArray, List.set_cons_zero, List.set_cons_succ]
  refine wpAnyH_take (i := 6) (v := ?_) rfl (by kernel_rfl) (by kernel_rfl) (by kernel_rfl) (fun _ _ _ h => h) (Or.inl ⟨by rfl, ?_⟩) (by assumption) ?_
  rotate_left
  · (intro w hSw; (try dsimp only at hSw); first | (go_simp; done) | (go_simp; with_reducible rfl))
  try simp only [Act.put, List.setIfInBounds_toArray, List.set_cons_zero, List.set_cons_succ]
  refine wpAnyH_ready (rs := [7]) (by kernel_rfl) (by simp) ?_
  refine AllReadyH.cons rfl (fun K hK => ?_) (AllReadyH.nil)
  go_simp
  refine hK.out _ _ ?_ (fun hHeld => ?_)
  · ((try dsimp only); first | with_reducible exact gd | with_reducible exact ge | with_reducible exact g2)
  clear hK K
  try simp only [Act.put, List.setIfInBounds_toArray, List.set_cons_zero, List.set_cons_succ]
  refine wpAnyH_done (by kernel_rfl) ?_ _
  refine NoPanic.normal ?_
  go_wp2
  rw [rounds_succ]
  go_wp2
  go_end0
  exact ⟨rfl, Hend.out⟩
end Go.Proofs.YtlgpbllkhbgppaaGreatDoor
