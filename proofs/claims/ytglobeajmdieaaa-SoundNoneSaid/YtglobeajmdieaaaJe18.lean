/-
  Ways back: by Preds, by rows; sources is made.
  Ways back among some blocks, as their ends go.
-/
import Derived.Test.YtglobeajmdieaaaJe17
import Derived.Shelf.Abstract
namespace Go.Proofs.Ytglobeajmdieaaa
set_option linter.unusedVariables false
set_option linter.unusedSimpArgs false
open Go.RowKit Go.Shelf

end Go.Proofs.Ytglobeajmdieaaa
namespace Go.Proofs.Ytglobeajmdieaaa
set_option linter.unusedVariables false
set_option linter.unusedSimpArgs false
open Go.RowKit Go.Shelf

theorem infoRowsG : (Try.prog.info? 42).map (fun i => (i.zero, i.size, i.bytes)) = some (some (.slice none 0 0), 1, 24) := by kernel_rfl
/-- The rows of blocks from which one comes. -/
def famE (RV : Value) (rs : List (Value × List Int)) : Nat → GRw
  | 0 => ⟨42, 1, RV, rs.length, rs.map (·.1)⟩
  | k + 1 => match rs[k]? with
    | none => rowNo
    | some r => ⟨3, 1, r.1, r.2.length, intsV r.2⟩
theorem famE_succ (RV : Value) (rs : List (Value × List Int)) (k : Nat) : famE RV rs (k + 1) = match rs[k]? with
    | none => rowNo
    | some r => ⟨3, 1, r.1, r.2.length, intsV r.2⟩ := rfl
theorem famE_row (RV : Value) (rs : List (Value × List Int)) (j : Nat) (r : Value × List Int) (h : rs[j]? = some r) : famE RV rs (j + 1) = ⟨3, 1, r.1, r.2.length, intsV r.2⟩ := by
  rw [famE_succ, h]
theorem famE_set (RV : Value) (rs : List (Value × List Int)) (j : Nat) (r r2 : Value × List Int) (h : rs[j]? = some r) :
    upG (upG (famE RV rs) (j + 1) ⟨3, 1, r2.1, r2.2.length, intsV r2.2⟩) 0 ⟨42, 1, RV, rs.length, (rs.map (·.1)).set j r2.1⟩ = famE RV (rs.set j r2) := by
  have hj : j < rs.length := (List.getElem?_eq_some_iff.1 h).1
  funext k
  cases k with
  | zero => rw [upG_at]; simp [famE, List.map_set]
  | succ k =>
    rw [upG_off _ _ _ _ (by omega)]
    by_cases hk : k = j
    · subst hk
      rw [upG_at, famE_row _ _ _ r2 (by simp [hj])]
    · rw [upG_off _ _ _ _ (by omega), famE_succ, famE_succ]
      rw [List.getElem?_set_ne (fun e => hk e.symm)]
theorem GNs_same {n0 : Nat} {w w' : World} {v : Value} {l : List Int} (h : GNs n0 w v l) (hb : ∀ k, k < n0 → w'.heap[k]? = w.heap[k]?) : GNs n0 w' v l := by
  obtain ⟨A, c, hv, hr⟩ := h
  refine ⟨A, c, hv, fun hp => ?_⟩
  obtain ⟨b, o, hA, hbn, hc⟩ := hr hp
  exact ⟨b, o, hA, hbn, fun j x hx => (World.cell?_of_block (a := ⟨b, o + j, none⟩) (hb b hbn)).trans (hc j x hx)⟩
/-- The edges of blocks, in the order of the blocks. -/
def edgesOf (g : List GB) (l : List Nat) : List (Nat × Int) := l.flatMap fun b => (tosG g b).map fun x => (b, x)
theorem edgesOf_snoc (g : List GB) (l : List Nat) (b : Nat) : edgesOf g (l ++ [b]) = edgesOf g l ++ (tosG g b).map fun x => (b, x) := by simp [edgesOf]
/-- The rows, with so many edges entered. -/
structure EMk (base E n : Nat) (w0 w : World) (RV : Value) (rs : List (Value × List Int)) (Ed : List (Nat × Int)) : Prop where
  box : w.heap[E]? = some (.cells #[RV] 96 (0, 0))
  fam : GFam w base E (famE RV rs)
  bd : GBd E base w0 w
  hb : base ≤ w.heap.size
  len : rs.length = n
  is : ∀ j r, rs[j]? = some r → r.2 = predsG Ed j
theorem EMk.keep {base E n : Nat} {w0 w w' : World} {RV : Value} {rs : List (Value × List Int)} {Ed : List (Nat × Int)} (h : EMk base E n w0 w RV rs Ed) (hb : Below w.heap.size w w') : EMk base E n w0 w' RV rs Ed :=
  ⟨(hb.block E h.fam.el).trans h.box, h.fam.keep hb, h.bd.trans (GBd.of_below hb h.hb), Nat.le_trans h.hb hb.size, h.len, h.is⟩
/-- One more edge. -/
theorem EMk.edge {base E n : Nat} {w0 w w2 : World} {gb m c g c2 b t q : Nat} {rs : List (Value × List Int)} {Ed : List (Nat × Int)} {r : Value × List Int} (h : EMk base E n w0 w (.slice (some ⟨gb, 0, none⟩) m c) rs Ed) (hr : rs[t]? = some r)
    (hg : w.grownBy w2 r.1.ownBlock) (ho : w2.ownsRow base 3 1 (.slice (some ⟨g, 0, none⟩) q c2) q (intsV r.2 ++ [.int .i64 (b : Int)])) (hq : q = r.2.length + 1) (hat : r.1.ownBlock = some g ∨ w.heap.size ≤ g) :
    EMk base E n w0 (w2.setCell ⟨gb, t, none⟩ (.slice (some ⟨g, 0, none⟩) q c2)) (.slice (some ⟨gb, 0, none⟩) m c) (rs.set t (.slice (some ⟨g, 0, none⟩) q c2, r.2 ++ [(b : Int)])) (Ed ++ [(b, (t : Int))]) := by
  subst hq
  have hEl := h.fam.el
  have ht : t < rs.length := (List.getElem?_eq_some_iff.1 hr).1
  have hfp := famE_row (.slice (some ⟨gb, 0, none⟩) m c) rs t r hr
  have hg0 : w.grownBy w2 ((famE (.slice (some ⟨gb, 0, none⟩) m c) rs) (t + 1)).v.ownBlock := by rw [hfp]; exact hg
  have hx : intsV r.2 ++ [Value.int .i64 (b : Int)] = intsV (r.2 ++ [(b : Int)]) := by simp [intsV]
  rw [hx] at ho
  have f1 := h.fam.grown (t + 1) hg0 ⟨3, 1, .slice (some ⟨g, 0, none⟩) (r.2.length + 1) c2, (r.2 ++ [(b : Int)]).length, intsV (r.2 ++ [(b : Int)])⟩ (by simpa using ho) (fun g' e => by
    simp only [Value.ownBlock, Option.some.injEq] at e
    subst e
    rw [hfp]
    exact hat)
  have hn : m = rs.length := (gr_len (h.fam.own 0)).2
  obtain ⟨f3, g3⟩ := (f1.put (k := 0) (T := 42) (z := 1) (g := gb) (n := m) (c := c) (xs := rs.map (·.1)) (by rw [upG_off _ _ _ _ (by omega), hn]; rfl) t (.slice (some ⟨g, 0, none⟩) (r.2.length + 1) c2))
  rw [hn] at f3
  rw [famE_set _ _ _ r (.slice (some ⟨g, 0, none⟩) (r.2.length + 1) c2, r.2 ++ [(b : Int)]) hr] at f3
  have hav := h.fam.av (t + 1)
  have hav0 := h.fam.av 0
  rw [hfp] at hav
  have hne : E ≠ gb := fun e => hav0 (by rw [e]; rfl)
  have hE2 := (hg.block E hEl (fun e => hav e.symm)).trans h.box
  have hE3 := (Below.heap_setCell w2 ⟨gb, t, none⟩ (.slice (some ⟨g, 0, none⟩) (r.2.length + 1) c2) E hne).trans hE2
  have hlt := fun k e => ((h.fam.own (t + 1)).lt k e).1
  rw [hfp] at hlt
  have hlt0 := ((h.fam.own 0).lt gb rfl).1
  have hb2 : base ≤ w2.heap.size := Nat.le_trans h.hb hg.size
  subst hn
  refine ⟨hE3, f3, (h.bd.trans (GBd.of_grown hg hlt h.hb)).trans (GBd.of_grown g3 (fun k e => by cases e; exact hlt0) hb2), Nat.le_trans hb2 g3.size, by simpa using h.len, fun j s hs => ?_⟩
  rw [predsG_app]
  by_cases hj : t = j
  · subst hj
    rw [List.getElem?_set_self ht] at hs
    injection hs with hs
    rw [← hs, if_pos rfl, ← h.is t r hr]
  · rw [List.getElem?_set_ne hj] at hs
    rw [if_neg (by omega)]
    exact h.is j s hs
theorem EMk.row {base E n : Nat} {w0 w : World} {gb m c : Nat} {rs : List (Value × List Int)} {Ed : List (Nat × Int)} (h : EMk base E n w0 w (.slice (some ⟨gb, 0, none⟩) m c) rs Ed) : w.ownsRow base 42 1 (.slice (some ⟨gb, 0, none⟩) m c) m (rs.map (·.1)) := by
  have h1 := h.fam.own 0
  have hn : m = rs.length := (gr_len h1).2
  rw [hn]
  rw [hn] at h1
  exact h1

end Go.Proofs.Ytglobeajmdieaaa
