/-
  A row of numbers that comes in.
  A row of pairs that comes in.
-/
import Derived.Test.YtoplllebaagnnaaJd1
import Derived.Test.YtoplllebaagnnaaJd4
import Derived.ProofKit
import Derived.OpenShut
import Derived.ChangeSame
import Derived.ChangeSlices
namespace Go.Proofs.Ytoplllebaagnnaa
set_option linter.unusedVariables false
set_option linter.unusedSimpArgs false
open Go.RowKit Go.ChangeShapes Go.WideShapes Go.ChangeAt

theorem gr_add_at (g o k : Nat) : (⟨g, o, none⟩ : Addr).add k = ⟨g, o + k, none⟩ := by
  unfold Addr.add
  by_cases h : k = 0 <;> simp [h]
theorem open_gns {H : Type} {enc : TypeId × Value → H} {w : World} {fuel : Nat} {cs : List Value} {x : DataW H × List MemPlace} (h : DataW.trod enc Try.prog w 0 (fun _ => true) true fuel 23 cs = some x) :
    ∃ (A : Option Addr) (len cap : Nat) (l : List Int), cs = [.slice A len cap] ∧ len ≤ cap ∧ cap ≤ maxLen ∧ (∀ y ∈ l, InG y) ∧ GNs w.heap.size w (.slice A len cap) l := by
  rcases open_ints Try.underlying23 Try.underlying3 (by kernel_rfl) h with ⟨h0, _⟩ | ⟨a, len, cap, zs, hcs, hb, hl, hm, hzl, hx, hc, hw⟩
  · exact ⟨none, 0, 0, [], h0, by omega, by unfold maxLen; omega, (fun y hy => by cases hy), ⟨none, 0, rfl, fun h => by simp at h⟩⟩
  · simp only [if_true] at hzl
    have hll : (zs.take len).length = len := by rw [List.length_take]; omega
    refine ⟨some a, len, cap, zs.take len, hcs, hl, hm, fun y hy => ?_, ⟨some a, cap, by rw [hll], fun hp => ?_⟩⟩
    · have := hw y (List.mem_of_mem_take hy)
      unfold Lit.wf at this
      rw [Bool.and_eq_true] at this
      exact ⟨of_decide_eq_true this.1, of_decide_eq_true this.2⟩
    · rw [hll] at hp
      have c0 := hc 0 (by omega)
      have hs : a.spot = none := World.cell?_spot (a := a) (by simpa [Addr.add] using c0)
      obtain ⟨g, o, sp⟩ := a
      simp only at hs
      subst hs
      refine ⟨g, o, rfl, ?_, fun j y hy => ?_⟩
      · rcases Nat.lt_or_ge g w.heap.size with h' | h'
        · exact h'
        · rw [gr_add_at] at c0
          simp only [World.cell?] at c0
          rw [Array.getElem?_eq_none h'] at c0
          simp at c0
      · rw [List.getElem?_take] at hy
        split at hy
        · have h1 := (List.getElem?_eq_some_iff.1 hy).1
          have := hc j h1
          rw [gr_add_at] at this
          rw [this]
          simp [List.getD, hy]
        · cases hy
end Go.Proofs.Ytoplllebaagnnaa
namespace Go.Proofs.Ytoplllebaagnnaa
set_option linter.unusedVariables false
set_option linter.unusedSimpArgs false
open Go.RowKit Go.ChangeShapes Go.WideShapes Go.ChangeAt

theorem inG_of_wf {x : Int} (h : (Lit.int .i64 x).wf = true) : InG x := by
  unfold Lit.wf at h
  rw [Bool.and_eq_true] at h
  exact ⟨of_decide_eq_true h.1, of_decide_eq_true h.2⟩
theorem open_gpr {H : Type} {enc : TypeId × Value → H} {w : World} {fuel : Nat} {cs : List Value} {x : DataW H × List MemPlace} (h : DataW.trod enc Try.prog w 0 (fun _ => true) true fuel 22 cs = some x) :
    ∃ (A : Option Addr) (len cap : Nat) (l : List (Int × Int)), cs = [.slice A len cap] ∧ len ≤ cap ∧ cap ≤ maxLen ∧ (∀ y ∈ l, InG y.1 ∧ InG y.2) ∧ GPr w.heap.size w (.slice A len cap) l := by
  rcases DataW.trod_slice Try.underlying22 h with ⟨h0, _⟩ | ⟨a, len, cap, elems, rest, n, _, hcs, _, hb, hl, hm, hlen, hel, _, _⟩
  · exact ⟨none, 0, 0, [], h0, by omega, by unfold maxLen; omega, (fun y hy => by cases hy), ⟨none, 0, rfl, fun h => by simp at h⟩⟩
  · have hc2 : Try.prog.cellsOf 54 = 2 := by kernel_rfl
    have hc1 : Try.prog.cellsOf 3 = 1 := by kernel_rfl
    have each : ∀ i, i < len → ∃ p : Int × Int, (InG p.1 ∧ InG p.2) ∧ w.cell? (a.add (i * 2)) = some (.int .i64 p.1) ∧ w.cell? ((a.add (i * 2)).add 1) = some (.int .i64 p.2) := by
      intro i hi
      have h1 := hel i hi
      rw [List.getElem?_eq_getElem (by omega), Option.bind_eq_some_iff] at h1
      obtain ⟨cs', hcs', hy⟩ := h1
      rw [hc2] at hcs'
      obtain ⟨xs, m, -, -, hcl, hxl, hx⟩ := DataW.trod_array Try.underlying54 hy
      obtain ⟨-, h2, h3⟩ := World.cells?_some hcs'
      rw [hc1] at hx
      have x0 := hx 0 (by omega)
      have x1 := hx 1 (by omega)
      rw [List.getElem?_eq_getElem (by omega)] at x0 x1
      obtain ⟨p, hp, -, wp⟩ := DataW.trod_int Try.underlying3 x0
      obtain ⟨q, hq, -, wq⟩ := DataW.trod_int Try.underlying3 x1
      rw [hc2] at hcl
      match cs', hcl, hp, hq, h3 with
      | [u, v], _, hp, hq, h3 =>
        simp at hp hq
        subst hp hq
        refine ⟨(p, q), ⟨inG_of_wf wp, inG_of_wf wq⟩, ?_, ?_⟩
        · have := h3 0 (by omega)
          simpa [Addr.add] using this
        · have := h3 1 (by omega)
          simpa using this
    obtain ⟨f, hf⟩ : ∃ f : Nat → Int × Int, ∀ i, i < len → (InG (f i).1 ∧ InG (f i).2) ∧ w.cell? (a.add (i * 2)) = some (.int .i64 (f i).1) ∧ w.cell? ((a.add (i * 2)).add 1) = some (.int .i64 (f i).2) :=
      ⟨fun i => if h : i < len then (each i h).choose else (0, 0), fun i h => by simp only [dif_pos h]; exact (each i h).choose_spec⟩
    have hll : ((List.range len).map f).length = len := by simp
    refine ⟨some a, len, cap, (List.range len).map f, hcs, hl, hm, fun y hy => ?_, ⟨some a, cap, by rw [hll], fun hp => ?_⟩⟩
    · obtain ⟨i, hi, rfl⟩ := List.mem_map.1 hy
      exact (hf i (List.mem_range.1 hi)).1
    · rw [hll] at hp
      have c0 := (hf 0 hp).2.1
      have hs : a.spot = none := World.cell?_spot (a := a) (by simpa [Addr.add] using c0)
      obtain ⟨g, o, sp⟩ := a
      simp only at hs
      subst hs
      refine ⟨g, o, rfl, ?_, fun j y hy => ?_⟩
      · rcases Nat.lt_or_ge g w.heap.size with h' | h'
        · exact h'
        · rw [gr_add_at] at c0
          simp only [World.cell?] at c0
          rw [Array.getElem?_eq_none h'] at c0
          simp at c0
      · have hj : j < len := by
          have := (List.getElem?_eq_some_iff.1 hy).1
          omega
        have hy2 : f j = y := by simpa [hj] using hy
        subst hy2
        have h1 := (hf j hj).2
        rw [gr_add_at, gr_add_at] at h1
        exact h1
end Go.Proofs.Ytoplllebaagnnaa
