/-
  The law's same, of words that are the same.
-/
import Derived.Test.YtmoeokfjfnegmaaDoorC2
namespace Go.Proofs.YtmoeokfjfnegmaaDoor
open Go.RowKit

/-- The words lie in a block, one behind the other. -/
def TksAt (w : World) (g : Nat) (ts : List Tk) : Prop := ∀ (i : Nat) (t : Tk), ts[i]? = some t → w.cell? ⟨g, i * 4, none⟩ = some (.int .i64 t.kind) ∧ w.cell? ⟨g, i * 4 + 1, none⟩ = some (.int .i64 t.at_) ∧ w.cell? ⟨g, i * 4 + 2, none⟩ = some (.int .i64 t.num) ∧ w.cell? ⟨g, i * 4 + 3, none⟩ = some (.string ⟨t.bytes.toArray⟩)
theorem flat_len (ts : List Tk) : (ts.flatMap tkC).length = ts.length * 4 := by
  induction ts with
  | nil => rfl
  | cons a r ih => rw [List.flatMap_cons, List.length_append, ih, List.length_cons]; simp [tkC]; omega
theorem flat_at (ts : List Tk) (i : Nat) (t : Tk) (h : ts[i]? = some t) (j : Nat) (hj : j < 4) : (ts.flatMap tkC)[i * 4 + j]? = (tkC t)[j]? := by
  induction ts generalizing i with
  | nil => simp at h
  | cons a r ih =>
    rw [List.flatMap_cons]
    rcases i with _ | i
    · simp at h
      subst h
      rw [List.getElem?_append_left (by simp [tkC]; omega)]
      congr 1
      omega
    · have h' : r[i]? = some t := by simpa using h
      rw [List.getElem?_append_right (by simp [tkC]; omega)]
      have e : (i + 1) * 4 + j - (tkC a).length = i * 4 + j := by simp [tkC]; omega
      rw [e]
      exact ih i h'
theorem tks_own {w : World} {b g cap n : Nat} {ts : List Tk} (h : w.ownsRow b 32 4 (.slice (some ⟨g, 0, none⟩) n cap) n (ts.flatMap tkC)) : TksAt w g ts := by
  have hn : ts.length * 4 = n * 4 := by rw [← flat_len]; exact h.1
  intro i t ht
  have hi : i < ts.length := (List.getElem?_eq_some_iff.mp ht).1
  have f := fun j hj => flat_at ts i t ht j hj
  refine ⟨?_, ?_, ?_, ?_⟩
  · have := h.cellAt (i * 4 + 0) (by omega); rw [f 0 (by omega)] at this; exact this
  · have := h.cellAt (i * 4 + 1) (by omega); rw [f 1 (by omega)] at this; exact this
  · have := h.cellAt (i * 4 + 2) (by omega); rw [f 2 (by omega)] at this; exact this
  · have := h.cellAt (i * 4 + 3) (by omega); rw [f 3 (by omega)] at this; exact this
theorem TksAt.below {w w' : World} {g : Nat} {ts : List Tk} (h : TksAt w g ts) (hb : Below w.heap.size w w') (hg : g < w.heap.size) : TksAt w' g ts := by
  intro i t ht
  obtain ⟨a, b, c, d⟩ := h i t ht
  exact ⟨(hb.cell (p := ⟨g, i * 4, none⟩) hg).trans a, (hb.cell (p := ⟨g, i * 4 + 1, none⟩) hg).trans b, (hb.cell (p := ⟨g, i * 4 + 2, none⟩) hg).trans c, (hb.cell (p := ⟨g, i * 4 + 3, none⟩) hg).trans d⟩

set_option maxHeartbeats 400000 in
theorem same_nil (w : World) : Calls Tryd.prog 12 #[.slice none 0 0, .slice none 0 0] w fun e w' => e = .returned (.bool true) ∧ Below w.heap.size w w' := by
  go_enter Tryd.func12, Tryd.ntmps12
  go_wp2
  go_loop [5] (fun a => a = .int .i64 0) (fun a => 0)
  case atStart => rfl
  case round =>
    subst hrel
    go_wp2
    go_ret
    exact ⟨rfl, Below.refl _ _⟩

set_option maxHeartbeats 2000000 in
theorem same_any (w : World) (g1 g2 c1 c2 n : Nat) (ts : List Tk) (hn : n = ts.length) (hl : n ≤ 1048577) (h1 : TksAt w g1 ts) (h2 : TksAt w g2 ts) :
    Calls Tryd.prog 12 #[.slice (some ⟨g1, 0, none⟩) n c1, .slice (some ⟨g2, 0, none⟩) n c2] w fun e w' => e = .returned (.bool true) ∧ Below w.heap.size w w' := by
  have H1 := Lib.hid h1
  have H2 := Lib.hid h2
  have HN := Lib.hid hn
  clear h1 h2 hn
  go_enter Tryd.func12, Tryd.ntmps12
  go_wp2
  go_loopw [5] (fun a wr => ∃ i : Nat, i ≤ n ∧ a = .int .i64 i ∧ ∃ m, wr = w.drewN m) (fun a _ => n - (intOf a).toNat)
  case atStart => exact ⟨0, by omega, rfl, 0, rfl⟩
  case round =>
    obtain ⟨i, hi, rfl, m, rfl⟩ := hrel
    by_cases hlt : i < n
    · obtain ⟨⟨kd, a, nm, bs⟩, ht⟩ : ∃ t, ts[i]? = some t := ⟨_, List.getElem?_eq_getElem (show i < ts.length by have := HN.out; omega)⟩
      obtain ⟨a0, a1, a2, a3⟩ := H1.out i _ ht
      obtain ⟨b0, b1, b2, b3⟩ := H2.out i _ ht
      replace ht := Lib.hid ht
      go_wp2
      go_quiet (fail)
      go_wp2
      go_roundw
      case rel => exact ⟨i + 1, by omega, by go_num, _, rfl⟩
      case measure => simp [intOf]; omega
    · go_wp2
      go_ret
      exact ⟨rfl, drewN_below _ _⟩
end Go.Proofs.YtmoeokfjfnegmaaDoor
