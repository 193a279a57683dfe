/-
  Changes that come in.
-/
import Derived.Test.YthhjhdmdfneegaaJc17
import Derived.Test.YthhjhdmdfneegaaRows
import Derived.OpenShut
import Derived.ChangeSame
import Derived.ProofKit
import Derived.ChangeSlices
namespace Go.Proofs.Ythhjhdmdfneegaa
set_option linter.unusedVariables false
set_option linter.unusedSimpArgs false
open Go.RowKit Go.ChangeShapes Go.WideShapes Go.ChangeAt

theorem ch_wf {x : Int} (h : (Lit.int .i64 x).wf = true) : InG x := by
  unfold Lit.wf at h
  rw [Bool.and_eq_true] at h
  exact ⟨of_decide_eq_true h.1, of_decide_eq_true h.2⟩
theorem ch_int {H : Type} {enc : TypeId × Value → H} {w : World} {fuel : Nat} {cs : List Value} {x : DataW H × List MemPlace} (h : DataW.trod enc Try.prog w 0 (fun _ => true) true fuel 3 cs = some x) : ∃ n, cs = [.int .i64 n] ∧ InG n := by
  obtain ⟨n, h1, _, h2⟩ := DataW.trod_int Try.underlying3 h
  exact ⟨n, h1, ch_wf h2⟩
theorem ch_i64 {H : Type} {enc : TypeId × Value → H} {w : World} {fuel : Nat} {cs : List Value} {x : DataW H × List MemPlace} (h : DataW.trod enc Try.prog w 0 (fun _ => true) true fuel 2 cs = some x) : ∃ n, cs = [.int .i64 n] ∧ InG n := by
  obtain ⟨n, h1, _, h2⟩ := DataW.trod_int Try.underlying2 h
  exact ⟨n, h1, ch_wf h2⟩
theorem ch_cel_i : Try.prog.cellsOf 3 = 1 := by kernel_rfl
theorem ch_cel_l : Try.prog.cellsOf 2 = 1 := by kernel_rfl
theorem ch_cel_c : Try.prog.cellsOf 37 = 5 := by kernel_rfl
theorem ch_list5 {α : Type} {l : List α} (h : l.length = 5) : ∃ a b c d e, l = [a, b, c, d, e] := by
  match l, h with
  | [a, b, c, d, e], _ => exact ⟨a, b, c, d, e, rfl⟩
theorem ch_add_at (g o k : Nat) : (⟨g, o, none⟩ : Addr).add k = ⟨g, o + k, none⟩ := by
  unfold Addr.add
  by_cases h : k = 0 <;> simp [h]
theorem ch_one {H : Type} {enc : TypeId × Value → H} {w : World} {fuel : Nat} {cs : List Value} {x : DataW H × List MemPlace} (h : DataW.trod enc Try.prog w 0 (fun _ => true) true fuel 37 cs = some x) :
    ∃ d : ChD, d.ok ∧ cs = [.int .i64 d.fn, .int .i64 d.wh, .int .i64 d.at_, .int .i64 d.to_, .int .i64 d.n] := by
  obtain ⟨xs, m, -, hx, hcl, hxl, hf⟩ := DataW.trod_struct Try.underlying37 h
  rw [ch_cel_c] at hcl
  obtain ⟨c0, c1, c2, c3, c4, rfl⟩ := ch_list5 hcl
  obtain ⟨y0, y1, y2, y3, y4, rfl⟩ := ch_list5 hxl
  have h0 : DataW.trod enc Try.prog w 0 (fun _ => true) true m 3 [c0] = some y0 := by
    have e := hf 0 _ rfl
    simpa [ch_cel_i] using e
  have h1 : DataW.trod enc Try.prog w 0 (fun _ => true) true m 3 [c1] = some y1 := by
    have e := hf 1 _ rfl
    simpa [ch_cel_i] using e
  have h2 : DataW.trod enc Try.prog w 0 (fun _ => true) true m 3 [c2] = some y2 := by
    have e := hf 2 _ rfl
    simpa [ch_cel_i] using e
  have h3 : DataW.trod enc Try.prog w 0 (fun _ => true) true m 3 [c3] = some y3 := by
    have e := hf 3 _ rfl
    simpa [ch_cel_i] using e
  have h4 : DataW.trod enc Try.prog w 0 (fun _ => true) true m 2 [c4] = some y4 := by
    have e := hf 4 _ rfl
    simpa [ch_cel_l] using e
  obtain ⟨n0, e0, w0⟩ := ch_int (cs := [c0]) (x := y0) h0
  obtain ⟨n1, e1, w1⟩ := ch_int (cs := [c1]) (x := y1) h1
  obtain ⟨n2, e2, w2⟩ := ch_int (cs := [c2]) (x := y2) h2
  obtain ⟨n3, e3, w3⟩ := ch_int (cs := [c3]) (x := y3) h3
  obtain ⟨n4, e4, w4⟩ := ch_i64 (cs := [c4]) (x := y4) h4
  injection e0 with e0; injection e1 with e1; injection e2 with e2; injection e3 with e3; injection e4 with e4
  subst e0 e1 e2 e3 e4
  exact ⟨⟨n0, n1, n2, n3, n4⟩, ⟨w0, w1, w2, w3, w4⟩, rfl⟩
theorem open_gch {H : Type} {enc : TypeId × Value → H} {w : World} {fuel : Nat} {cs : List Value} {x : DataW H × List MemPlace} (h : DataW.trod enc Try.prog w 0 (fun _ => true) true fuel 22 cs = some x) :
    ∃ (A : Option Addr) (len cap : Nat) (l : List ChD), cs = [.slice A len cap] ∧ len ≤ cap ∧ cap ≤ maxLen ∧ (∀ d ∈ l, d.ok) ∧ CHs w.heap.size w (.slice A len cap) l := by
  rcases DataW.trod_slice Try.underlying22 h with ⟨h0, _⟩ | ⟨a, len, cap, elems, rest, n, _, hcs, _, hb, hl, hm, hlen, hel, _, _⟩
  · exact ⟨none, 0, 0, [], h0, by omega, by unfold maxLen; omega, (fun y hy => by cases hy), ⟨none, 0, rfl, fun h => by simp at h⟩⟩
  · have each : ∀ i, i < len → ∃ d : ChD, d.ok ∧ w.cell? (a.add (i * 5)) = some (.int .i64 d.fn) ∧ w.cell? ((a.add (i * 5)).add 1) = some (.int .i64 d.wh) ∧ w.cell? ((a.add (i * 5)).add 2) = some (.int .i64 d.at_) ∧ w.cell? ((a.add (i * 5)).add 3) = some (.int .i64 d.to_) ∧ w.cell? ((a.add (i * 5)).add 4) = some (.int .i64 d.n) := by
      intro i hi
      have h1 := hel i hi
      rw [List.getElem?_eq_getElem (by omega), Option.bind_eq_some_iff] at h1
      obtain ⟨cs', hcs', hy⟩ := h1
      rw [ch_cel_c] at hcs'
      obtain ⟨d, hd, rfl⟩ := ch_one hy
      obtain ⟨-, h2, h3⟩ := World.cells?_some hcs'
      have q : ∀ t v, t < 5 → ([.int .i64 d.fn, .int .i64 d.wh, .int .i64 d.at_, .int .i64 d.to_, .int .i64 d.n] : List Value)[t]? = some v → w.cell? ((a.add (i * 5)).add t) = some v := fun t v ht hv => by
        have := h3 t ht
        rw [this]
        exact hv
      exact ⟨d, hd, by have := q 0 _ (by omega) rfl; simpa [Addr.add] using this, q 1 _ (by omega) rfl, q 2 _ (by omega) rfl, q 3 _ (by omega) rfl, q 4 _ (by omega) rfl⟩
    obtain ⟨f, hf⟩ : ∃ f : Nat → ChD, ∀ i, i < len → (f i).ok ∧ w.cell? (a.add (i * 5)) = some (.int .i64 (f i).fn) ∧ w.cell? ((a.add (i * 5)).add 1) = some (.int .i64 (f i).wh) ∧ w.cell? ((a.add (i * 5)).add 2) = some (.int .i64 (f i).at_) ∧ w.cell? ((a.add (i * 5)).add 3) = some (.int .i64 (f i).to_) ∧ w.cell? ((a.add (i * 5)).add 4) = some (.int .i64 (f i).n) :=
      ⟨fun i => if h : i < len then (each i h).choose else ⟨0, 0, 0, 0, 0⟩, fun i h => by simp only [dif_pos h]; exact (each i h).choose_spec⟩
    have hll : ((List.range len).map f).length = len := by simp
    refine ⟨some a, len, cap, (List.range len).map f, hcs, hl, hm, fun y hy => ?_, ⟨some a, cap, by rw [hll], fun hp => ?_⟩⟩
    · obtain ⟨i, hi, rfl⟩ := List.mem_map.1 hy
      exact (hf i (List.mem_range.1 hi)).1
    · rw [hll] at hp
      have c0 := (hf 0 hp).2.1
      have hs : a.spot = none := World.cell?_spot (a := a) (by simpa [Addr.add] using c0)
      obtain ⟨g, o, sp⟩ := a
      simp only at hs
      subst hs
      refine ⟨g, o, rfl, ?_, fun j y hy => ?_⟩
      · exact World.block_lt_of_cell? w _ c0
      · have hj : j < len := by
          have := (List.getElem?_eq_some_iff.1 hy).1
          omega
        have hy2 : f j = y := by simpa [hj] using hy
        subst hy2
        have h1 := (hf j hj).2
        simp only [ch_add_at] at h1
        exact h1
end Go.Proofs.Ythhjhdmdfneegaa
