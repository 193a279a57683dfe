/-
  Programs as bytes: the reader.
-/
import Derived.Test.YthjlpbglnnebkaaCdH
import Derived.Test.YthjlpbglnnebkaaGrI
namespace Go.Proofs.Ythjlpbglnnebkaa
open Go.RowKit
set_option linter.unusedVariables false
set_option linter.unusedSimpArgs false

/-- The reader as it lies: what is left; nothing, behind something bad. -/
def RdAt (E : Nat) (s : Option (List UInt8)) (w : World) : Prop := w.heap[E]? = some (.cells #[.string ⟨(s.getD []).toArray⟩, .bool s.isNone] 50 (0, 0))
def numS (most : Nat) : Option (List UInt8) → Nat × Option (List UInt8)
  | none => (0, none)
  | some l => if (numQ l).2 = 0 ∨ most < (numQ l).1 then (0, none) else ((numQ l).1, some (l.drop (numQ l).2))
theorem RdAt.keep {E : Nat} {s : Option (List UInt8)} {w w' : World} (h : RdAt E s w) (hb : Below w.heap.size w w') : RdAt E s w' := (hb.block E (gr_in h)).trans h
set_option maxRecDepth 100000 in
theorem ok_nil (w : World) : Calls Try.prog 14 #[.pointer none] w fun e w' => e = .returned (.bool false) ∧ w' = w := by
  go_enter Try.func14, Try.ntmps14
  go_wp2
  go_ret
  exact ⟨rfl, rfl⟩
set_option maxRecDepth 100000 in
theorem ok_r (E : Nat) (s : Option (List UInt8)) (w : World) (h : RdAt E s w) : Calls Try.prog 14 #[.pointer (some ⟨E, 0, none⟩)] w fun e w' => e = .returned (.bool s.isSome) ∧ w' = w := by
  have x1 := Lib.cell_of_heap h 1
  cases s with
  | none =>
    have x1 : w.cell? ⟨E, 1, none⟩ = some (.bool true) := x1
    clear h
    go_enter Try.func14, Try.ntmps14
    go_wp2
    go_ret
    exact ⟨rfl, rfl⟩
  | some l =>
    have x1 : w.cell? ⟨E, 1, none⟩ = some (.bool false) := x1
    clear h
    go_enter Try.func14, Try.ntmps14
    go_wp2
    go_ret
    exact ⟨rfl, rfl⟩
set_option maxRecDepth 100000 in
theorem left_nil (w : World) : Calls Try.prog 15 #[.pointer none] w fun e w' => e = .returned (.int .i64 0) ∧ w' = w := by
  go_enter Try.func15, Try.ntmps15
  go_wp2
  go_ret
  exact ⟨rfl, rfl⟩
set_option maxRecDepth 100000 in
theorem left_r (E : Nat) (s : Option (List UInt8)) (w : World) (h : RdAt E s w) : Calls Try.prog 15 #[.pointer (some ⟨E, 0, none⟩)] w fun e w' => e = .returned (.int .i64 ((s.getD []).length : Int)) ∧ w' = w := by
  have x0 : w.cell? ⟨E, 0, none⟩ = some (.string ⟨(s.getD []).toArray⟩) := Lib.cell_of_heap h 0
  obtain ⟨l, hl⟩ : ∃ l, l = s.getD [] := ⟨_, rfl⟩
  rw [← hl] at x0 ⊢
  clear h hl
  go_enter Try.func15, Try.ntmps15
  go_wp2
  go_ret
  exact ⟨rfl, rfl⟩
set_option maxRecDepth 100000 in
theorem fail_r (E : Nat) (s : Option (List UInt8)) (w : World) (h : RdAt E s w) : Calls Try.prog 30 #[.pointer (some ⟨E, 0, none⟩)] w fun e w' => e = .returned (.tuple #[]) ∧ RdAt E none w' ∧ GBu E w w' := by
  have x0 := Lib.cell_of_heap h 0
  have x1 := Lib.cell_of_heap h 1
  have xf := Lib.frozen_of_heap h
  obtain ⟨Z, hZ⟩ : ∃ Z, Z = (w.setCell ⟨E, 0, none⟩ (.string ⟨#[]⟩)).setCell ⟨E, 1, none⟩ (.bool true) := ⟨_, rfl⟩
  have hq : RdAt E none Z := by
    rw [hZ]
    exact gr_put (gr_put h 0 _) 1 _
  have hg : GBu E w Z := by
    rw [hZ]
    exact GBu.setCell (p := ⟨E, 1, none⟩) (GBu.setCell (p := ⟨E, 0, none⟩) (GBu.refl E w) (.inl rfl) _) (.inl rfl) _
  have HZ := Lib.hid hZ
  have Hq := Lib.hid hq
  have Hg := Lib.hid hg
  clear h hZ hq hg
  go_enter Try.func30, Try.ntmps30
  go_wp2_with fail
  rw [← HZ.out]
  try simp only [Exit.inBlock, Exit.then]
  first
    | refine bodyPost_ret (results_none rfl _ _ _) rfl ?_
    | refine bodyPost_end (results_none rfl _ _ _) rfl ?_
  exact ⟨rfl, Hq.out, Hg.out⟩
end Go.Proofs.Ythjlpbglnnebkaa
