/-
  The law's argument: a list of small ones, as it lies; cut lists.
-/
import Derived.Test.YtpnpjlggikdinaaProg
import Derived.Test.YtpnpjlggikdinaaTrM2
import Derived.WalkKit
namespace Go.Proofs.Ytpnpjlggikdinaa
open Go.RowKit

/-- A list of small ones, as it lies below N. -/
def RdL (w : World) (N : Nat) (A : Option Addr) (l : List EE) : Prop := 0 < l.length → ∃ g o, A = some ⟨g, o, none⟩ ∧ g < N ∧ ∀ i x, l[i]? = some x → w.cell? ⟨g, o + i * 5, none⟩ = some (.int .i64 x.kind) ∧ w.cell? ⟨g, o + i * 5 + 1, none⟩ = some (.int .i64 x.op) ∧ w.cell? ⟨g, o + i * 5 + 2, none⟩ = some (.int .i64 x.n) ∧ w.cell? ⟨g, o + i * 5 + 3, none⟩ = some (.string x.s) ∧ w.cell? ⟨g, o + i * 5 + 4, none⟩ = some (.int .i64 x.many)
theorem RdL.keep {w w' : World} {N : Nat} {A : Option Addr} {l : List EE} (h : RdL w N A l) (hb : Below N w w') : RdL w' N A l := fun hl => by
  obtain ⟨g, o, hA, hg, hx⟩ := h hl
  refine ⟨g, o, hA, hg, fun i x hi => ?_⟩
  obtain ⟨a, b, c, d, e⟩ := hx i x hi
  exact ⟨(hb.cell hg).trans a, (hb.cell hg).trans b, (hb.cell hg).trans c, (hb.cell hg).trans d, (hb.cell hg).trans e⟩
/-- The slice from k on: where it lies, and what it reads as. -/
theorem RdL.cut {w : World} {N : Nat} {A : Option Addr} {l : List EE} {cap : Nat} (h : RdL w N A l) (hc : l.length ≤ cap) (k : Nat) (hk : k ≤ l.length) :
    ∃ A1, sliced A k l.length cap 5 = .slice A1 (l.drop k).length (cap - k) ∧ RdL w N A1 (l.drop k) ∧ (l.drop k).length ≤ cap - k := by
  rw [List.length_drop]
  by_cases hl : l.length = 0
  · have hl' : l = [] := List.length_eq_zero_iff.mp hl
    subst hl'
    obtain rfl : k = 0 := by simpa using hk
    refine ⟨_, rfl, fun h => absurd h (by simp), by simp⟩
  · obtain ⟨g, o, rfl, hg, hx⟩ := h (by omega)
    refine ⟨_, rfl, fun hl2 => ?_, by omega⟩
    rw [List.length_drop] at hl2
    refine ⟨g, o + k * 5, ?_, hg, fun i x hi => ?_⟩
    · rw [if_neg (by omega)]
      unfold Addr.add
      by_cases h0 : k = 0
      · subst h0; simp
      · simp; omega
    · rw [List.getElem?_drop] at hi
      obtain ⟨a, b, c, d, e⟩ := hx _ x hi
      have e0 : o + k * 5 + i * 5 = o + (k + i) * 5 := by omega
      rw [e0]
      exact ⟨a, b, c, d, e⟩

/-- The same, as the walk takes it: 'l[k:]'. -/
theorem RdL.cut_run {w : World} {N : Nat} {A : Option Addr} {l : List EE} {cap : Nat} (h : RdL w N A l) (hc : l.length ≤ cap) (k : Nat) (hk : k ≤ l.length) :
    ∃ A1, (∀ W, (Instr.slice 22 (.slice A l.length cap) (some (.int .i64 (k : Int))) none none).run Try.prog W = .ok (.slice A1 (l.drop k).length (cap - k)) W) ∧ RdL w N A1 (l.drop k) ∧ (l.drop k).length ≤ cap - k := by
  obtain ⟨A1, h1, h2, h3⟩ := h.cut hc k hk
  refine ⟨A1, fun W => ?_, h2, h3⟩
  rw [run_slice_l W 22 A l.length cap (by simp [Program.elem, Try.underlying22]) .i64 (k : Int) (by omega) (by omega)]
  go_simp
  simpa [sliced] using h1
end Go.Proofs.Ytpnpjlggikdinaa
