/-
  The law's Graph over plain data; what is known of a function while it is made.
  The law's Graph, walked.
-/
import Derived.Test.YthhjhdmdfneegaaJc9
namespace Go.Proofs.Ythhjhdmdfneegaa
set_option linter.unusedVariables false
set_option linter.unusedSimpArgs false
open Go.RowKit

def normG (n x : Int) : Int := ((x.tmod n) + n).tmod n
theorem normG_in (n x : Int) (hn : 0 < n) : 0 ≤ normG n x ∧ normG n x < n := by
  unfold normG
  have h1 : -n < x.tmod n := Int.lt_tmod_of_pos x hn
  exact ⟨Int.tmod_nonneg _ (by omega), Int.tmod_lt_of_pos _ hn⟩
/-- How a block ends: kind, argument, where it goes. -/
def endG (n : Nat) (whole : Bool) (x : Int × Int) : Int × Int × List Int :=
  let a := if whole then normG n x.1 else x.1
  let b := if whole then normG n x.2 else x.2
  if x.1 = -1 ∧ whole then (3, -1, []) else if a = b then (1, -1, [a]) else (2, 0, [a, b])
/-- Which blocks go where, from block i on. -/
def edgesG : Nat → List (List Int) → List (Nat × Int)
  | _, [] => []
  | i, t :: ts => t.map (fun x => (i, x)) ++ edgesG (i + 1) ts
def predsG (E : List (Nat × Int)) (j : Nat) : List Int := (E.filter fun e => e.2 == (j : Int)).map fun e => (e.1 : Int)
def mkG (es : List (Int × Int × List Int)) (E : List (Nat × Int)) : List GB := es.mapIdx fun j e => { list := .slice none 0 0, preds := predsG E j, kind := e.1, arg := e.2.1, to_ := e.2.2 }
def endsG (l : List (Int × Int)) (whole : Bool) : List (Int × Int × List Int) := (l.take 14).map (endG (min l.length 14) whole)
/-- The law's function. -/
def graphP (l : List (Int × Int)) (whole : Bool) : List GB := mkG (endsG l whole) (if whole then edgesG 0 ((endsG l whole).map fun e => e.2.2) else [])
theorem edgesG_app : ∀ (ts us : List (List Int)) (i : Nat), edgesG i (ts ++ us) = edgesG i ts ++ edgesG (i + ts.length) us
  | [], us, i => by simp [edgesG]
  | t :: ts, us, i => by
    simp only [List.cons_append, edgesG, edgesG_app ts us (i + 1), List.append_assoc, List.length_cons]
    rw [show i + 1 + ts.length = i + (ts.length + 1) by omega]
theorem predsG_app (E : List (Nat × Int)) (i : Nat) (x : Int) (j : Nat) : predsG (E ++ [(i, x)]) j = if x = (j : Int) then predsG E j ++ [(i : Int)] else predsG E j := by
  unfold predsG
  by_cases h : x = (j : Int)
  · simp [h]
  · simp [h]

/-- Pairs as they lie. -/
def GPr (n0 : Nat) (w : World) (v : Value) (l : List (Int × Int)) : Prop := ∃ A c, v = .slice A l.length c ∧ (0 < l.length → ∃ b o, A = some ⟨b, o, none⟩ ∧ b < n0 ∧ ∀ j x, l[j]? = some x → w.cell? ⟨b, o + j * 2, none⟩ = some (.int .i64 x.1) ∧ w.cell? ⟨b, o + j * 2 + 1, none⟩ = some (.int .i64 x.2))
theorem GPr.keep {n0 : Nat} {w w' : World} {v : Value} {l : List (Int × Int)} (h : GPr n0 w v l) (hb : Below n0 w w') : GPr n0 w' v l := by
  obtain ⟨A, c, hv, hr⟩ := h
  refine ⟨A, c, hv, fun hp => ?_⟩
  obtain ⟨b, o, hA, hbn, hc⟩ := hr hp
  exact ⟨b, o, hA, hbn, fun j x hx => ⟨(hb.cell (p := ⟨b, _, none⟩) hbn).trans (hc j x hx).1, (hb.cell (p := ⟨b, _, none⟩) hbn).trans (hc j x hx).2⟩⟩
theorem GPr.at {n0 : Nat} {w : World} {A : Option Addr} {m c : Nat} {l : List (Int × Int)} (h : GPr n0 w (.slice A m c) l) {j : Nat} (hj : j < l.length) :
    ∃ b o, A = some ⟨b, o, none⟩ ∧ b < n0 ∧ w.cell? ⟨b, o + j * 2, none⟩ = some (.int .i64 l[j].1) ∧ w.cell? ⟨b, o + j * 2 + 1, none⟩ = some (.int .i64 l[j].2) := by
  obtain ⟨A', c', hv, hr⟩ := h
  obtain ⟨b, o, hA, hbn, hc⟩ := hr (by omega)
  injection hv with e1
  subst e1
  exact ⟨b, o, hA, hbn, hc j _ (List.getElem?_eq_getElem hj)⟩

/-- A block while the function is made. -/
structure GD where
  pv : Value
  tv : Value
  preds : List Int
  kind : Int
  arg : Int
  to_ : List Int
def GD.cells (d : GD) : List Value := [.slice none 0 0, d.pv, .int .i64 d.kind, .int .i64 d.arg, d.tv]
def blocksG (ds : List GD) : List Value := ds.flatMap GD.cells
theorem blocksG_len : ∀ ds : List GD, (blocksG ds).length = ds.length * 5
  | [] => rfl
  | d :: ds => by
    have h := blocksG_len ds
    simp only [blocksG] at h
    simp [blocksG, h, GD.cells]; omega
theorem blocksG_at : ∀ (ds : List GD) (j q : Nat) (d : GD), ds[j]? = some d → q < 5 → (blocksG ds)[j * 5 + q]? = d.cells[q]?
  | [], j, q, d, h, _ => by simp at h
  | x :: ds, 0, q, d, h, hq => by
    simp at h
    subst h
    rw [Nat.zero_mul, Nat.zero_add]
    simp only [blocksG, List.flatMap_cons]
    rw [List.getElem?_append_left (by simpa [GD.cells] using hq)]
  | x :: ds, j + 1, q, d, h, hq => by
    have := blocksG_at ds j q d (by simpa using h) hq
    simp only [blocksG, List.flatMap_cons] at this ⊢
    rw [List.getElem?_append_right (by simp [GD.cells]; omega), ← this]
    congr 1
    simp [GD.cells]; omega
theorem blocksG_set : ∀ (ds : List GD) (j : Nat) (d : GD) (v : Value) (p : List Int), ds[j]? = some d → (blocksG ds).set (j * 5 + 1) v = blocksG (ds.set j { d with pv := v, preds := p })
  | [], j, d, v, p, h => by simp at h
  | x :: ds, 0, d, v, p, h => by
    simp at h
    subst h
    simp [blocksG, GD.cells]
  | x :: ds, j + 1, d, v, p, h => by
    have := blocksG_set ds j d v p (by simpa using h)
    simp only [blocksG, List.flatMap_cons, List.set_cons_succ] at this ⊢
    rw [List.set_append_right _ _ (by simp [GD.cells]; omega), ← this]
    congr 2
    simp [GD.cells]; omega
def rowT (d : GD) : GRw := ⟨3, 1, d.tv, d.to_.length, intsV d.to_⟩
def rowP (d : GD) : GRw := ⟨3, 1, d.pv, d.preds.length, intsV d.preds⟩
def rowNo : GRw := ⟨3, 1, .slice none 0 0, 0, []⟩
/-- The function's rows: its blocks; where each goes; from where it is come to. -/
def famG (BV : Value) (ds : List GD) : Nat → GRw
  | 0 => ⟨51, 5, BV, ds.length, blocksG ds⟩
  | k + 1 => match ds[k / 2]? with
    | none => rowNo
    | some d => if k % 2 = 0 then rowT d else rowP d
theorem famG_succ (BV : Value) (ds : List GD) (k : Nat) : famG BV ds (k + 1) = match ds[k / 2]? with
    | none => rowNo
    | some d => if k % 2 = 0 then rowT d else rowP d := rfl
theorem famG_t (BV : Value) (ds : List GD) (j : Nat) (d : GD) (h : ds[j]? = some d) : famG BV ds (2 * j + 1) = rowT d := by
  rw [famG_succ]
  rw [show 2 * j / 2 = j by omega, h]
  simp
theorem famG_p (BV : Value) (ds : List GD) (j : Nat) (d : GD) (h : ds[j]? = some d) : famG BV ds (2 * j + 2) = rowP d := by
  rw [show 2 * j + 2 = (2 * j + 1) + 1 from rfl, famG_succ]
  rw [show (2 * j + 1) / 2 = j by omega, h]
  simp
theorem famG_new (BV BV' : Value) (ds : List GD) (d : GD) (hp : d.pv = .slice none 0 0) (hq : d.preds = []) :
    upG (upG (famG BV ds) (2 * ds.length + 1) (rowT d)) 0 ⟨51, 5, BV', ds.length + 1, blocksG ds ++ d.cells⟩ = famG BV' (ds ++ [d]) := by
  funext k
  cases k with
  | zero => simp [upG, famG, blocksG]
  | succ k =>
    rw [upG_off _ _ _ _ (by omega)]
    by_cases hk : k = 2 * ds.length
    · subst hk
      rw [upG_at, famG_t _ _ _ d (by simp)]
    · rw [upG_off _ _ _ _ (by omega)]
      unfold famG
      simp only
      by_cases h1 : k / 2 < ds.length
      · rw [List.getElem?_append_left h1]
      · rw [List.getElem?_eq_none (Nat.le_of_not_lt h1)]
        by_cases h2 : k / 2 = ds.length
        · rw [h2, List.getElem?_append_right (Nat.le_refl _), Nat.sub_self]
          simp only [List.getElem?_cons_zero]
          rw [if_neg (by omega)]
          unfold rowNo rowP
          rw [hp, hq]
          rfl
        · rw [List.getElem?_eq_none (by simp; omega)]
theorem famG_set (BV : Value) (ds : List GD) (j : Nat) (d : GD) (v : Value) (p : List Int) (h : ds[j]? = some d) :
    upG (upG (famG BV ds) (2 * j + 2) ⟨3, 1, v, p.length, intsV p⟩) 0 ⟨51, 5, BV, ds.length, (blocksG ds).set (j * 5 + 1) v⟩ = famG BV (ds.set j { d with pv := v, preds := p }) := by
  have hj : j < ds.length := (List.getElem?_eq_some_iff.1 h).1
  funext k
  cases k with
  | zero =>
    rw [upG_at, blocksG_set ds j d v p h]
    simp [famG]
  | succ k =>
    rw [upG_off _ _ _ _ (by omega)]
    by_cases hk : k = 2 * j + 1
    · subst hk
      rw [upG_at, famG_p _ _ _ { d with pv := v, preds := p } (by simp [hj])]
      rfl
    · rw [upG_off _ _ _ _ (by omega)]
      unfold famG
      simp only
      by_cases h2 : k / 2 = j
      · rw [h2, h, List.getElem?_set_self hj]
        simp only
        have h3 : k % 2 = 0 := by omega
        rw [if_pos h3, if_pos h3]
        rfl
      · rw [List.getElem?_set_ne (fun e => h2 e.symm)]

/-- The function's box. -/
def boxG (w : World) (E : Nat) (BV : Value) : Prop := w.heap[E]? = some (.cells #[.string ⟨#[]⟩, .slice none 0 0, .int .i64 0, .slice none 0 0, BV] 43 (0, 0))
structure GMk (base E : Nat) (w0 w : World) (BV : Value) (ds : List GD) : Prop where
  box : boxG w E BV
  fam : GFam w base E (famG BV ds)
  bd : GBd E base w0 w
  hb : base ≤ w.heap.size
theorem GMk.keep {base E : Nat} {w0 w w' : World} {BV : Value} {ds : List GD} (h : GMk base E w0 w BV ds) (hb : Below w.heap.size w w') : GMk base E w0 w' BV ds :=
  ⟨(hb.block E h.fam.el).trans h.box, h.fam.keep hb, h.bd.trans (GBd.of_below hb h.hb), Nat.le_trans h.hb hb.size⟩
theorem famG_far (BV : Value) (ds : List GD) : famG BV ds (2 * ds.length + 1) = rowNo := by
  rw [famG_succ]
  rw [show 2 * ds.length / 2 = ds.length by omega, List.getElem?_eq_none (Nat.le_refl _)]
theorem famG_zero (BV : Value) (ds : List GD) : famG BV ds 0 = ⟨51, 5, BV, ds.length, blocksG ds⟩ := rfl
/-- One more block: where it goes lies in w1, the row of blocks has grown in w2, the box is written. -/
theorem GMk.more {base E : Nat} {w0 w w1 w2 : World} {A : Option Addr} {n c g c2 : Nat} {ds : List GD} {d : GD} (h : GMk base E w0 w (.slice A n c) ds) (hb : Below w.heap.size w w1) (hp : d.pv = .slice none 0 0) (hq : d.preds = [])
    (ht : w1.ownsRow base 3 1 d.tv d.to_.length (intsV d.to_)) (htn : ∀ k, d.tv.ownBlock = some k → w.heap.size ≤ k)
    (hg : w1.grownBy w2 (Value.slice A n c).ownBlock) (ho : w2.ownsRow base 51 5 (.slice (some ⟨g, 0, none⟩) (ds.length + 1) c2) (ds.length + 1) (blocksG ds ++ d.cells)) (hat : (Value.slice A n c).ownBlock = some g ∨ w1.heap.size ≤ g) :
    GMk base E w0 (w2.setCell ⟨E, 4, none⟩ (.slice (some ⟨g, 0, none⟩) (ds.length + 1) c2)) (.slice (some ⟨g, 0, none⟩) (ds.length + 1) c2) (ds ++ [d]) := by
  have hEl := h.fam.el
  have hav := h.fam.av 0
  rw [famG_zero] at hav
  have hE2 : boxG w2 E (.slice A n c) := (hg.block E (by have := hb.size; omega) (fun e => hav e.symm)).trans ((hb.block E hEl).trans h.box)
  have hE3 := gr_put hE2 4 (.slice (some ⟨g, 0, none⟩) (ds.length + 1) c2)
  have f1 : GFam w1 base E (upG (famG (.slice A n c) ds) (2 * ds.length + 1) (rowT d)) := by
    refine h.fam.grown _ (w' := w1) ⟨hb.os, hb.tape, hb.output, hb.size, fun k hk _ => hb.block k hk⟩ (rowT d) ht (fun g e => .inr (htn g e))
  have hg1 : w1.grownBy w2 ((upG (famG (.slice A n c) ds) (2 * ds.length + 1) (rowT d)) 0).v.ownBlock := by
    rw [upG_off _ _ _ _ (by omega)]
    exact hg
  have f2 := f1.grown 0 hg1 ⟨51, 5, .slice (some ⟨g, 0, none⟩) (ds.length + 1) c2, ds.length + 1, blocksG ds ++ d.cells⟩ ho (fun g' e => by
    simp only [Value.ownBlock, Option.some.injEq] at e
    subst e
    rw [upG_off _ _ _ _ (by omega)]
    exact hat)
  rw [famG_new _ _ _ _ hp hq] at f2
  have hlt := fun k e => ((h.fam.own 0).lt k e).1
  rw [famG_zero] at hlt
  have hbu : GBu E w2 (w2.setCell ⟨E, 4, none⟩ (.slice (some ⟨g, 0, none⟩) (ds.length + 1) c2)) := (GBu.refl E w2).setCell (Or.inl rfl) _
  have hb1 : base ≤ w1.heap.size := Nat.le_trans h.hb hb.size
  have hb2 : base ≤ w2.heap.size := Nat.le_trans hb1 hg.size
  exact ⟨hE3, f2.bu hbu, ((h.bd.trans (GBd.of_below hb h.hb)).trans (GBd.of_grown hg hlt hb1)).trans (GBd.of_bu hbu hb2), Nat.le_trans hb2 hbu.size⟩
/-- One more block from which one comes to block j. -/
theorem GMk.pred {base E : Nat} {w0 w w2 : World} {gb n c g c2 m : Nat} {ds : List GD} {j : Nat} {d : GD} {x : Int} (h : GMk base E w0 w (.slice (some ⟨gb, 0, none⟩) n c) ds) (hd : ds[j]? = some d)
    (hg : w.grownBy w2 d.pv.ownBlock) (ho : w2.ownsRow base 3 1 (.slice (some ⟨g, 0, none⟩) m c2) m (intsV d.preds ++ [.int .i64 x])) (hm : m = d.preds.length + 1) (hat : d.pv.ownBlock = some g ∨ w.heap.size ≤ g) :
    GMk base E w0 (w2.setCell ⟨gb, j * 5 + 1, none⟩ (.slice (some ⟨g, 0, none⟩) m c2)) (.slice (some ⟨gb, 0, none⟩) n c) (ds.set j { d with pv := .slice (some ⟨g, 0, none⟩) m c2, preds := d.preds ++ [x] }) := by
  subst hm
  have hEl := h.fam.el
  have hj : j < ds.length := (List.getElem?_eq_some_iff.1 hd).1
  have hfp := famG_p (.slice (some ⟨gb, 0, none⟩) n c) ds j d hd
  have hg0 : w.grownBy w2 ((famG (.slice (some ⟨gb, 0, none⟩) n c) ds) (2 * j + 2)).v.ownBlock := by rw [hfp]; exact hg
  have hx : intsV d.preds ++ [Value.int .i64 x] = intsV (d.preds ++ [x]) := by simp [intsV]
  rw [hx] at ho
  have f1 := h.fam.grown (2 * j + 2) hg0 ⟨3, 1, .slice (some ⟨g, 0, none⟩) (d.preds.length + 1) c2, (d.preds ++ [x]).length, intsV (d.preds ++ [x])⟩ (by simpa using ho) (fun g' e => by
    simp only [Value.ownBlock, Option.some.injEq] at e
    subst e
    rw [hfp]
    exact hat)
  have hn : n = ds.length := (gr_len (h.fam.own 0)).2
  have f2 := (f1.put (k := 0) (T := 51) (z := 5) (g := gb) (n := n) (c := c) (xs := blocksG ds) (by rw [upG_off _ _ _ _ (by omega), famG_zero, ← hn]) (j * 5 + 1) (.slice (some ⟨g, 0, none⟩) (d.preds.length + 1) c2))
  obtain ⟨f3, g3⟩ := f2
  rw [hn] at f3
  rw [famG_set _ _ _ d _ _ hd] at f3
  have hav := h.fam.av (2 * j + 2)
  have hav0 := h.fam.av 0
  rw [hfp] at hav
  rw [famG_zero] at hav0
  have hne : E ≠ gb := fun e => hav0 (by rw [e]; rfl)
  have hE2 : boxG w2 E (.slice (some ⟨gb, 0, none⟩) n c) := (hg.block E hEl (fun e => hav e.symm)).trans h.box
  have hE3 : boxG (w2.setCell ⟨gb, j * 5 + 1, none⟩ (.slice (some ⟨g, 0, none⟩) (d.preds.length + 1) c2)) E (.slice (some ⟨gb, 0, none⟩) n c) := (Below.heap_setCell _ _ _ _ hne).trans hE2
  have hlt := fun k e => ((h.fam.own (2 * j + 2)).lt k e).1
  rw [hfp] at hlt
  have hlt0 := ((h.fam.own 0).lt gb rfl).1
  have hb2 : base ≤ w2.heap.size := Nat.le_trans h.hb hg.size
  subst hn
  exact ⟨hE3, f3, (h.bd.trans (GBd.of_grown hg hlt h.hb)).trans (GBd.of_grown g3 (fun k e => by cases e; exact hlt0) hb2), Nat.le_trans hb2 g3.size⟩
end Go.Proofs.Ythhjhdmdfneegaa
namespace Go.Proofs.Ythhjhdmdfneegaa
set_option linter.unusedVariables false
set_option linter.unusedSimpArgs false
open Go.RowKit

theorem gr_setoff {w : World} {b j : Nat} {u : Value} {p : Addr} (h : p.block ≠ b) : (w.setCell ⟨b, j, none⟩ u).cell? p = w.cell? p := World.cell?_setCell_other _ _ _ _ (fun e => h (by rw [← e]))
theorem infoBlockG : (Try.prog.info? 51).map (fun i => (i.zero, i.size, i.bytes)) = some (some (.agg #[.slice none 0 0, .slice none 0 0, .int .i64 0, .int .i64 0, .slice none 0 0]), 5, 88) := by kernel_rfl
def GD.sig (d : GD) : Int × Int × List Int := (d.kind, d.arg, d.to_)
def newG (tv : Value) (e : Int × Int × List Int) : GD := { pv := .slice none 0 0, tv := tv, preds := [], kind := e.1, arg := e.2.1, to_ := e.2.2 }
/-- So many blocks are made. -/
structure GOne (base E : Nat) (w0 w : World) (l : List (Int × Int)) (whole : Bool) (i : Nat) (BV : Value) (ds : List GD) : Prop where
  made : GMk base E w0 w BV ds
  len : ds.length = i
  sig : ds.map GD.sig = (endsG l whole).take i
  none_ : ∀ d ∈ ds, d.preds = []
theorem endsG_len (l : List (Int × Int)) (whole : Bool) : (endsG l whole).length = min l.length 14 := by simp [endsG]; omega
theorem endsG_at (l : List (Int × Int)) (whole : Bool) (i : Nat) (hi : i < min l.length 14) (hl : i < l.length) : (endsG l whole)[i]? = some (endG (min l.length 14) whole l[i]) := by
  unfold endsG
  rw [List.getElem?_map, List.getElem?_take, if_pos (by omega), List.getElem?_eq_getElem hl]
  rfl
theorem GOne.next {base E : Nat} {w0 w w3 : World} {l : List (Int × Int)} {whole : Bool} {i : Nat} {BV BV' tv : Value} {ds : List GD} (h : GOne base E w0 w l whole i BV ds) (hi : i < min l.length 14) (hl : i < l.length)
    (hm : GMk base E w0 w3 BV' (ds ++ [newG tv (endG (min l.length 14) whole l[i])])) : GOne base E w0 w3 l whole (i + 1) BV' (ds ++ [newG tv (endG (min l.length 14) whole l[i])]) :=
  ⟨hm, by simp [h.len], by
    have h2 : i < (endsG l whole).length := by rw [endsG_len]; exact hi
    rw [List.map_append, h.sig, List.take_succ_eq_append_getElem h2]
    congr 1
    have := endsG_at l whole i hi hl
    rw [List.getElem?_eq_getElem h2] at this
    injection this with this
    rw [this]
    rfl, fun d hd => by
      rcases List.mem_append.1 hd with hd | hd
      · exact h.none_ d hd
      · simp at hd; rw [hd]; rfl⟩
theorem term_store {X : World} {t : Nat} {p q r : Value} (h : X.heap[t]? = some (.cells #[p, q, r] 49 (0, 0))) (xs : Array Value) (a b c : Value) :
    ∃ V, V = (((X.alloc (.cells xs 3)).setCell ⟨t, 0, none⟩ a).setCell ⟨t, 1, none⟩ b).setCell ⟨t, 2, none⟩ c ∧ Below t X V ∧ V.heap.size = X.heap.size + 1 ∧ V.heap[t]? = some (.cells #[a, b, c] 49 (0, 0)) ∧ V.heap[X.heap.size]? = some (.cells xs 3 (0, 0)) := by
  have ht := gr_in h
  obtain ⟨Y, hY, hbY, hzY, h0Y⟩ := gr_one X xs 3
  have h1 := (hbY.block t ht).trans h
  rw [← hY]
  have s1 := gr_put h1 0 a
  have s2 := gr_put s1 1 b
  have s3 := gr_put s2 2 c
  refine ⟨_, rfl, (((hbY.mono (Nat.le_of_lt ht)).setCell (p := ⟨t, 0, none⟩) (Nat.le_refl _) a).setCell (p := ⟨t, 1, none⟩) (Nat.le_refl _) b).setCell (p := ⟨t, 2, none⟩) (Nat.le_refl _) c, by simp [World.setCell, hzY], s3, ?_⟩
  exact (Below.heap_setCell _ _ _ _ (by show X.heap.size ≠ t; omega)).trans ((Below.heap_setCell _ _ _ _ (by show X.heap.size ≠ t; omega)).trans ((Below.heap_setCell _ _ _ _ (by show X.heap.size ≠ t; omega)).trans h0Y))
theorem set_same {w : World} {b j : Nat} {cs : Array Value} {T : TypeId} {fr : Nat × Nat} {v : Value} (h : w.heap[b]? = some (.cells cs T fr)) (hv : cs[j]? = some v) : w.setCell ⟨b, j, none⟩ v = w := by
  have hc : cs.setIfInBounds j v = cs := by
    apply Array.ext_getElem?
    intro i
    rw [Array.getElem?_setIfInBounds]
    by_cases e : j = i
    · subst e
      rw [if_pos rfl, hv]
      have := (Array.getElem?_eq_some_iff.1 hv).1
      rw [if_pos this]
    · rw [if_neg e]
  have hh : (w.setCell ⟨b, j, none⟩ v).heap = w.heap := by
    apply Array.ext_getElem?
    intro i
    by_cases e : i = b
    · subst e
      rw [gr_put h j v, hc, h]
    · exact Below.heap_setCell _ _ _ _ e
  have : w.setCell ⟨b, j, none⟩ v = { w with heap := (w.setCell ⟨b, j, none⟩ v).heap } := rfl
  rw [this, hh]
theorem five_same {w : World} {b : Nat} {x0 x1 x2 x3 x4 : Value} {T : TypeId} (h : w.heap[b]? = some (.cells #[x0, x1, x2, x3, x4] T (0, 0))) : ((((w.setCell ⟨b, 0, none⟩ x0).setCell ⟨b, 1, none⟩ x1).setCell ⟨b, 2, none⟩ x2).setCell ⟨b, 3, none⟩ x3).setCell ⟨b, 4, none⟩ x4 = w := by
  rw [set_same (j := 0) (v := x0) h rfl, set_same (j := 1) (v := x1) h rfl, set_same (j := 2) (v := x2) h rfl, set_same (j := 3) (v := x3) h rfl, set_same (j := 4) (v := x4) h rfl]
def GD.gb (d : GD) : GB := { list := .slice none 0 0, preds := d.preds, kind := d.kind, arg := d.arg, to_ := d.to_ }
theorem mkG_of {es : List (Int × Int × List Int)} {E : List (Nat × Int)} {ds : List GD} (hs : ds.map GD.sig = es) (hp : ∀ j d, ds[j]? = some d → d.preds = predsG E j) : ds.map GD.gb = mkG es E := by
  subst hs
  unfold mkG
  apply List.ext_getElem?
  intro j
  rw [List.getElem?_map, List.getElem?_mapIdx, List.getElem?_map]
  cases hd : ds[j]? with
  | none => rfl
  | some d =>
    simp only [Option.map_some]
    rw [← hp j d hd]
    rfl
theorem GMk.blocks {base E : Nat} {w0 w : World} {A : Option Addr} {n c : Nat} {ds : List GD} (h : GMk base E w0 w (.slice A n c) ds) (hn : n = ds.length) (hl : ds.length ≤ 1048576) (hok : ∀ d ∈ ds, d.gb.ok) : GBs w.heap.size w (.slice A n c) (ds.map GD.gb) := by
  have ho := h.fam.own 0
  rw [famG_zero] at ho
  refine ⟨A, c, by simp [hn], by simpa using hl, fun d hd => ?_, fun hp => ?_⟩
  · obtain ⟨d', hd', rfl⟩ := List.mem_map.1 hd
    exact hok d' hd'
  · rw [List.length_map] at hp
    subst hn
    obtain ⟨g, hg, -, -, hgl⟩ := gr_some ho hp
    subst hg
    refine ⟨g, 0, rfl, hgl, fun j d hd => ?_⟩
    rw [List.getElem?_map] at hd
    obtain ⟨e, he, rfl⟩ := Option.map_eq_some_iff.1 hd
    have hj : j < ds.length := (List.getElem?_eq_some_iff.1 he).1
    have k : ∀ q, q < 5 → w.cell? ⟨g, 0 + j * 5 + q, none⟩ = e.cells[q]? := fun q hq => by
      rw [Nat.zero_add, ho.cellAt (j * 5 + q) (by show _ < ds.length * 5; omega)]
      exact blocksG_at ds j q e he hq
    have hT := h.fam.own (2 * j + 1)
    have hP := h.fam.own (2 * j + 2)
    rw [famG_t _ _ _ _ he] at hT
    rw [famG_p _ _ _ _ he] at hP
    exact ⟨e.pv, e.tv, k 0 (by omega), k 1 (by omega), k 2 (by omega), k 3 (by omega), k 4 (by omega), GNs.of_own hP, GNs.of_own hT, none, 0, 0, rfl⟩
theorem endG_ok {n : Nat} {whole : Bool} {x : Int × Int} (hn : 0 < n) (hn2 : n ≤ 14) (hx : InG x.1 ∧ InG x.2) : (endG n whole x).2.2.length ≤ 2 ∧ (∀ t ∈ (endG n whole x).2.2, InG t) ∧ (whole = true → ∀ t ∈ (endG n whole x).2.2, 0 ≤ t ∧ t < n) := by
  have na := normG_in n x.1 (by omega)
  have nb := normG_in n x.2 (by omega)
  cases whole with
  | false =>
    unfold endG
    simp only [Bool.false_eq_true, if_false, and_false]
    by_cases h2 : x.1 = x.2
    · rw [if_pos h2]
      exact ⟨by simp, by simpa using hx.1, fun h => by simp at h⟩
    · rw [if_neg h2]
      exact ⟨by simp, by simpa using hx, fun h => by simp at h⟩
  | true =>
    unfold endG
    simp only [if_true]
    by_cases h1 : x.1 = -1 ∧ True
    · rw [if_pos h1]
      exact ⟨by simp, by simp, by simp⟩
    · rw [if_neg h1]
      by_cases h2 : normG n x.1 = normG n x.2
      · rw [if_pos h2]
        exact ⟨by simp, fun t ht => by simp at ht; subst ht; unfold InG; omega, fun _ t ht => by simp at ht; subst ht; exact na⟩
      · rw [if_neg h2]
        exact ⟨by simp, fun t ht => by simp at ht; unfold InG; rcases ht with rfl | rfl <;> omega, fun _ t ht => by simp at ht; rcases ht with rfl | rfl <;> assumption⟩
theorem endsG_ok {l : List (Int × Int)} {whole : Bool} (hin : ∀ x ∈ l, InG x.1 ∧ InG x.2) : ∀ e ∈ endsG l whole, e.2.2.length ≤ 2 ∧ (∀ t ∈ e.2.2, InG t) ∧ (whole = true → ∀ t ∈ e.2.2, 0 ≤ t ∧ t < (min l.length 14 : Nat)) := by
  intro e he
  obtain ⟨x, hx, rfl⟩ := List.mem_map.1 he
  have hl : 0 < l.length := List.length_pos_of_mem (List.mem_of_mem_take hx)
  exact endG_ok (by omega) (by omega) (hin x (List.mem_of_mem_take hx))
theorem ends_ok {l : List (Int × Int)} {whole : Bool} {ds : List GD} (hs : ds.map GD.sig = endsG l whole) (hin : ∀ x ∈ l, InG x.1 ∧ InG x.2) : ∀ d ∈ ds, d.to_.length ≤ 2 ∧ (∀ t ∈ d.to_, InG t) ∧ (whole = true → ∀ t ∈ d.to_, 0 ≤ t ∧ t < (min l.length 14 : Nat)) := fun d hd => by
  have : d.sig ∈ endsG l whole := by rw [← hs]; exact List.mem_map_of_mem hd
  exact endsG_ok hin _ this
theorem GMk.end_ {base E : Nat} {w0 w : World} {A : Option Addr} {n c : Nat} {l : List (Int × Int)} {whole : Bool} {E2 : List (Nat × Int)} {ds : List GD} (h : GMk base E w0 w (.slice A n c) ds) (hlen : ds.length = n) (hn : n ≤ 14) (hsig : ds.map GD.sig = endsG l whole) (hin : ∀ x ∈ l, InG x.1 ∧ InG x.2)
    (hp : ∀ j d, ds[j]? = some d → d.preds = predsG E2 j) (hE : E2.length ≤ 1000) (hE2 : ∀ e ∈ E2, e.1 < 1000) (hg : graphP l whole = mkG (endsG l whole) E2) : GF w.heap.size w (.agg #[.string ⟨#[]⟩, .slice none 0 0, .int .i64 0, .slice none 0 0, .slice A n c]) (graphP l whole) := by
  have hgb := mkG_of hsig hp
  have hok := ends_ok hsig hin
  refine ⟨⟨#[]⟩, none, 0, 0, 0, none, 0, 0, A, n, c, rfl, ?_, ?_⟩
  · rw [hg, ← hgb]
    refine h.blocks hlen.symm (by omega) (fun d hd => ?_)
    obtain ⟨h1, h2, -⟩ := hok d hd
    obtain ⟨j, hj, hdj⟩ := List.getElem_of_mem hd
    have hpd := hp j d (by rw [List.getElem?_eq_getElem hj, hdj])
    refine ⟨?_, ?_, by show d.to_.length ≤ _; omega, h2⟩
    · show d.preds.length ≤ _
      rw [hpd]
      unfold predsG
      rw [List.length_map]
      have := List.length_filter_le (fun e : Nat × Int => e.2 == (j : Int)) E2
      omega
    · show ∀ x ∈ d.preds, InG x
      rw [hpd]
      intro x hx
      unfold predsG at hx
      obtain ⟨e, he, rfl⟩ := List.mem_map.1 hx
      have := hE2 e (List.mem_filter.1 he).1
      unfold InG
      omega
  · rw [hg, ← hgb, List.length_map, hlen]
/-- Which edges are entered, with k of block i. -/
def edgesTo (tos : List (List Int)) (i k : Nat) : List (Nat × Int) := edgesG 0 (tos.take i) ++ (((tos[i]?).getD []).take k).map fun x => (i, x)
theorem edgesTo_step {tos : List (List Int)} {i k : Nat} {ts : List Int} {x : Int} (h : tos[i]? = some ts) (hx : ts[k]? = some x) : edgesTo tos i (k + 1) = edgesTo tos i k ++ [(i, x)] := by
  unfold edgesTo
  obtain ⟨hk, rfl⟩ := List.getElem?_eq_some_iff.1 hx
  rw [h, Option.getD_some, List.take_succ_eq_append_getElem hk, List.map_append, List.append_assoc]
  rfl
theorem edgesTo_next {tos : List (List Int)} {i : Nat} {ts : List Int} (h : tos[i]? = some ts) : edgesTo tos i ts.length = edgesTo tos (i + 1) 0 := by
  unfold edgesTo
  obtain ⟨hi, rfl⟩ := List.getElem?_eq_some_iff.1 h
  rw [h, Option.getD_some, List.take_length, List.take_succ_eq_append_getElem hi, edgesG_app]
  simp [edgesG]
  omega
theorem edgesTo_end (tos : List (List Int)) : edgesTo tos tos.length 0 = edgesG 0 tos := by
  unfold edgesTo
  simp
theorem edgesG_len : ∀ (ts : List (List Int)) (i : Nat), (∀ t ∈ ts, t.length ≤ 2) → (edgesG i ts).length ≤ 2 * ts.length
  | [], _, _ => by simp [edgesG]
  | t :: ts, i, h => by
    have h1 := edgesG_len ts (i + 1) (fun x hx => h x (List.mem_cons_of_mem _ hx))
    have h2 := h t (by simp)
    simp [edgesG]
    omega
theorem edgesTo_len {tos : List (List Int)} {i k : Nat} (h : ∀ t ∈ tos, t.length ≤ 2) (hi : i ≤ 14) : (edgesTo tos i k).length ≤ 30 := by
  unfold edgesTo
  have h1 := edgesG_len (tos.take i) 0 (fun t ht => h t (List.mem_of_mem_take ht))
  have h2 : ((tos[i]?).getD []).length ≤ 2 := by
    cases ht : tos[i]? with
    | none => simp
    | some t => exact h t (List.mem_of_getElem? ht)
  simp at h1 ⊢
  omega
theorem edgesG_lt : ∀ (ts : List (List Int)) (i : Nat), ∀ e ∈ edgesG i ts, e.1 < i + ts.length
  | [], _, e, he => by simp [edgesG] at he
  | t :: ts, i, e, he => by
    simp only [edgesG, List.mem_append, List.mem_map] at he
    rcases he with ⟨x, _, rfl⟩ | he
    · simp
    · have := edgesG_lt ts (i + 1) e he
      simp; omega
def tosL (l : List (Int × Int)) : List (List Int) := (endsG l true).map fun e => e.2.2
/-- The second loop: k ends of block i are entered. -/
structure GTwo (base E : Nat) (w0 w : World) (l : List (Int × Int)) (i k : Nat) (BV : Value) (ds : List GD) : Prop where
  made : GMk base E w0 w BV ds
  sig : ds.map GD.sig = endsG l true
  prd : ∀ j d, ds[j]? = some d → d.preds = predsG (edgesTo (tosL l) i k) j
theorem GTwo.len {base E : Nat} {w0 w : World} {l : List (Int × Int)} {i k : Nat} {BV : Value} {ds : List GD} (h : GTwo base E w0 w l i k BV ds) : ds.length = min l.length 14 := by
  have := congrArg List.length h.sig
  rw [List.length_map, endsG_len] at this
  exact this
theorem GTwo.to_ {base E : Nat} {w0 w : World} {l : List (Int × Int)} {i k j : Nat} {BV : Value} {ds : List GD} {d : GD} (h : GTwo base E w0 w l i k BV ds) (hd : ds[j]? = some d) : (tosL l)[j]? = some d.to_ := by
  unfold tosL
  rw [← h.sig, List.map_map, List.getElem?_map, hd]
  rfl
theorem GTwo.step {base E : Nat} {w0 w w2 : World} {l : List (Int × Int)} {i k t gb n c g c2 m : Nat} {ds : List GD} {d e : GD} (h : GTwo base E w0 w l i k (.slice (some ⟨gb, 0, none⟩) n c) ds) (hd : ds[i]? = some d) (hx : d.to_[k]? = some (t : Int)) (he : ds[t]? = some e)
    (hg : w.grownBy w2 e.pv.ownBlock) (ho : w2.ownsRow base 3 1 (.slice (some ⟨g, 0, none⟩) m c2) m (intsV e.preds ++ [.int .i64 (i : Int)])) (hm : m = e.preds.length + 1) (hat : e.pv.ownBlock = some g ∨ w.heap.size ≤ g) :
    GTwo base E w0 (w2.setCell ⟨gb, t * 5 + 1, none⟩ (.slice (some ⟨g, 0, none⟩) m c2)) l i (k + 1) (.slice (some ⟨gb, 0, none⟩) n c) (ds.set t { e with pv := .slice (some ⟨g, 0, none⟩) m c2, preds := e.preds ++ [(i : Int)] }) := by
  refine ⟨h.made.pred he hg ho hm hat, ?_, fun j f hf => ?_⟩
  · rw [← h.sig]
    apply List.ext_getElem?
    intro j
    rw [List.getElem?_map, List.getElem?_map]
    by_cases hj : t = j
    · subst hj
      rw [List.getElem?_set_self (List.getElem?_eq_some_iff.1 he).1, he]
      rfl
    · rw [List.getElem?_set_ne hj]
  · rw [edgesTo_step (h.to_ hd) hx, predsG_app]
    by_cases hj : t = j
    · subst hj
      rw [List.getElem?_set_self (List.getElem?_eq_some_iff.1 he).1] at hf
      injection hf with hf
      rw [← hf, if_pos rfl, ← h.prd t e he]
    · rw [List.getElem?_set_ne hj] at hf
      rw [if_neg (by omega)]
      exact h.prd j f hf
theorem GTwo.next {base E : Nat} {w0 w : World} {l : List (Int × Int)} {i : Nat} {BV : Value} {ds : List GD} {d : GD} (h : GTwo base E w0 w l i d.to_.length BV ds) (hd : ds[i]? = some d) : GTwo base E w0 w l (i + 1) 0 BV ds :=
  ⟨h.made, h.sig, fun j e he => by rw [← edgesTo_next (h.to_ hd)]; exact h.prd j e he⟩
theorem GTwo.keep {base E : Nat} {w0 w w' : World} {l : List (Int × Int)} {i k : Nat} {BV : Value} {ds : List GD} (h : GTwo base E w0 w l i k BV ds) (hb : Below w.heap.size w w') : GTwo base E w0 w' l i k BV ds := ⟨h.made.keep hb, h.sig, h.prd⟩
theorem GTwo.few {base E : Nat} {w0 w : World} {l : List (Int × Int)} {i k j : Nat} {BV : Value} {ds : List GD} {d : GD} (h : GTwo base E w0 w l i k BV ds) (hin : ∀ x ∈ l, InG x.1 ∧ InG x.2) (hi : i ≤ 14) (hd : ds[j]? = some d) : d.preds.length ≤ 30 := by
  rw [h.prd j d hd]
  unfold predsG
  rw [List.length_map]
  have h1 := List.length_filter_le (fun e : Nat × Int => e.2 == (j : Int)) (edgesTo (tosL l) i k)
  have h2 := edgesTo_len (tos := tosL l) (k := k) (fun t ht => by
    obtain ⟨e, he, rfl⟩ := List.mem_map.1 ht
    exact (endsG_ok hin e he).1) hi
  omega
theorem eqb_ne {a b : Int} (h : a ≠ b) : (a == b) = false := beq_eq_false_iff_ne.2 h
end Go.Proofs.Ythhjhdmdfneegaa
