/-
  graph.Places.
  Worlds: all but one block; rows of a call's own, many at once, each in its own block.
  The law's Graph over plain data; what is known of a function while it is made.
-/
import Derived.Test.YtglobeajmdieaaaJe12
import Derived.Lib.MinMax
namespace Go.Proofs.Ytglobeajmdieaaa
set_option linter.unusedVariables false
set_option linter.unusedSimpArgs false
open Go.RowKit

/-- From here on: of each block the last place. -/
def placeP : List Int → Nat → List Int → List Int
  | [], _, acc => acc
  | b :: l, i, acc => placeP l (i + 1) (if 0 ≤ b ∧ b < acc.length then acc.set b.toNat (i : Int) else acc)
def placesP (l : List Int) (n : Nat) : List Int := placeP l 0 (List.replicate n (-1))
theorem placeP_len : ∀ (l : List Int) (i : Nat) (acc : List Int), (placeP l i acc).length = acc.length
  | [], _, _ => rfl
  | b :: l, i, acc => by
    unfold placeP
    rw [placeP_len l]
    split <;> simp
def minusV (n i : Nat) : List Value := List.replicate i (Value.int .i64 (-1)) ++ List.replicate (n - i) (Value.int .i64 0)
theorem minusV_step (n i : Nat) (h : i < n) : (minusV n i).set i (.int .i64 (-1)) = minusV n (i + 1) := by
  unfold minusV
  rw [List.set_append_right _ _ (by simp), List.length_replicate, Nat.sub_self, show n - i = (n - (i + 1)) + 1 by omega, List.replicate_succ, List.set_cons_zero, List.replicate_succ' (n := i), List.append_assoc]
  rfl
theorem minusV_end (n : Nat) : minusV n n = intsV (List.replicate n (-1)) := by simp [minusV, intsV]

end Go.Proofs.Ytglobeajmdieaaa
namespace Go.Proofs.Ytglobeajmdieaaa
set_option linter.unusedVariables false
set_option linter.unusedSimpArgs false
open Go.RowKit

/-- All but one block is as it was. -/
structure GBu (g : Nat) (w w' : World) : Prop where
  os : w'.os = w.os
  tape : w'.tape = w.tape
  output : w'.output = w.output
  size : w.heap.size ≤ w'.heap.size
  block : ∀ k, k < w.heap.size → k ≠ g → w'.heap[k]? = w.heap[k]?
theorem GBu.refl (g : Nat) (w : World) : GBu g w w := ⟨rfl, rfl, rfl, Nat.le_refl _, fun _ _ _ => rfl⟩
theorem GBu.trans {g : Nat} {a b c : World} (h : GBu g a b) (k : GBu g b c) : GBu g a c :=
  ⟨k.os.trans h.os, k.tape.trans h.tape, k.output.trans h.output, Nat.le_trans h.size k.size, fun i hi hg => (k.block i (Nat.lt_of_lt_of_le hi h.size) hg).trans (h.block i hi hg)⟩
theorem GBu.of_below {g : Nat} {w w' : World} (h : Below w.heap.size w w') : GBu g w w' := ⟨h.os, h.tape, h.output, h.size, fun k hk _ => h.block k hk⟩
theorem GBu.below {g B : Nat} {a w w' : World} (h : GBu g w w') (ha : Below B a w) (hg : B ≤ g) (hB : B ≤ w.heap.size) : Below B a w' :=
  ha.trans ⟨h.os, h.tape, h.output, h.size, fun k hk => h.block k (Nat.lt_of_lt_of_le hk hB) (by omega)⟩
theorem GBu.below0 {g B : Nat} {w w' : World} (h : GBu g w w') (hg : B ≤ g) (hB : B ≤ w.heap.size) : Below B w w' := h.below (Below.refl _ _) hg hB
theorem GBu.drew {g : Nat} {a w : World} (h : GBu g a w) : GBu g a w.drew := ⟨h.os, h.tape, h.output, h.size, h.block⟩
/-- A store into the block, or into one that was not there. -/
theorem GBu.setCell {g : Nat} {a w : World} (h : GBu g a w) {p : Addr} (hp : p.block = g ∨ a.heap.size ≤ p.block) (u : Value) : GBu g a (w.setCell p u) :=
  ⟨h.os, h.tape, h.output, by simpa [World.setCell] using h.size, fun k hk hg => (Below.heap_setCell _ _ _ _ (by omega)).trans (h.block k hk hg)⟩
theorem GBu.cell {g : Nat} {w w' : World} (h : GBu g w w') {p : Addr} (hp : p.block < w.heap.size) (hg : p.block ≠ g) : w'.cell? p = w.cell? p := World.cell?_of_block (h.block _ hp hg)
/-- A row: of which type, how many cells an element has, where it lies, how many elements, its cells. -/
structure GRw where
  T : TypeId
  z : Nat
  v : Value
  n : Nat
  xs : List Value
/-- Rows by numbers; no two share a block. -/
structure GFam (w : World) (base E : Nat) (F : Nat → GRw) : Prop where
  el : E < w.heap.size
  av : ∀ k, (F k).v.ownBlock ≠ some E
  own : ∀ k, w.ownsRow base (F k).T (F k).z (F k).v (F k).n (F k).xs
  ne : ∀ k l, k ≠ l → (F k).v.ownBlock = none ∨ (F k).v.ownBlock ≠ (F l).v.ownBlock
def upG (F : Nat → GRw) (k : Nat) (r : GRw) : Nat → GRw := fun j => if j = k then r else F j
theorem upG_at (F : Nat → GRw) (k : Nat) (r : GRw) : upG F k r k = r := by simp [upG]
theorem upG_off (F : Nat → GRw) (k j : Nat) (r : GRw) (h : j ≠ k) : upG F k r j = F j := by simp [upG, h]
theorem GFam.keep {w w' : World} {base E : Nat} {F : Nat → GRw} (h : GFam w base E F) (hb : Below w.heap.size w w') : GFam w' base E F :=
  ⟨Nat.lt_of_lt_of_le h.el hb.size, h.av, fun k => gr_up (h.own k) hb, h.ne⟩
theorem GFam.bu {w w' : World} {base E : Nat} {F : Nat → GRw} (h : GFam w base E F) (hb : GBu E w w') : GFam w' base E F :=
  ⟨Nat.lt_of_lt_of_le h.el hb.size, h.av, fun k => (h.own k).kept (row := some E) ⟨hb.os, hb.tape, hb.output, hb.size, fun j hj hne => hb.block j hj (fun e => hne (by rw [e]))⟩ (.inr (h.av k)), h.ne⟩
/-- One row is another one now: in its own block, or in a new one, or nothing. -/
theorem GFam.grown {w w' : World} {base E : Nat} {F : Nat → GRw} (h : GFam w base E F) (k : Nat) (hg : w.grownBy w' (F k).v.ownBlock) (r : GRw) (hown : w'.ownsRow base r.T r.z r.v r.n r.xs)
    (hat : ∀ g, r.v.ownBlock = some g → (F k).v.ownBlock = some g ∨ w.heap.size ≤ g) : GFam w' base E (upG F k r) := by
  refine ⟨Nat.lt_of_lt_of_le h.el hg.size, fun j => ?_, fun j => ?_, fun i j hij => ?_⟩
  · by_cases hj : j = k
    · subst hj
      rw [upG_at]
      intro e
      rcases hat E e with h1 | h1
      · exact h.av j h1
      · have := h.el; omega
    · rw [upG_off _ _ _ _ hj]; exact h.av j
  · by_cases hj : j = k
    · subst hj; rw [upG_at]; exact hown
    · rw [upG_off _ _ _ _ hj]; exact (h.own j).kept hg (h.ne j k hj)
  · by_cases hi : i = k
    · subst hi
      rw [upG_at, upG_off _ _ _ _ (fun e => hij e.symm)]
      cases hr : r.v.ownBlock with
      | none => exact .inl rfl
      | some g =>
        refine .inr (fun e => ?_)
        rcases hat g hr with h1 | h1
        · rcases h.ne i j hij with h2 | h2
          · rw [h1] at h2; cases h2
          · exact h2 (h1.trans e)
        · have := ((h.own j).lt g e.symm).2; omega
    · rw [upG_off _ _ _ _ hi]
      by_cases hj : j = k
      · subst hj
        rw [upG_at]
        cases hf : (F i).v.ownBlock with
        | none => exact .inl rfl
        | some g =>
          refine .inr (fun e => ?_)
          rcases hat g e.symm with h1 | h1
          · rcases h.ne i j hij with h2 | h2
            · rw [hf] at h2; cases h2
            · exact h2 (hf.trans h1.symm)
          · have := ((h.own i).lt g hf).2; omega
      · rw [upG_off _ _ _ _ hj]; exact h.ne i j hij
theorem gr_gbelow {w a w' : World} {row : Option Nat} (hb : Below w.heap.size w a) (hg : a.grownBy w' row) : w.grownBy w' row :=
  ⟨hg.os.trans hb.os, hg.tape.trans hb.tape, hg.output.trans hb.output, Nat.le_trans hb.size hg.size, fun k hk hn => (hg.block k (Nat.lt_of_lt_of_le hk hb.size) hn).trans (hb.block k hk)⟩
/-- A store into a row. -/
theorem GFam.put {w : World} {base E : Nat} {F : Nat → GRw} (h : GFam w base E F) {k : Nat} {T : TypeId} {z g n c : Nat} {xs : List Value} (hk : F k = ⟨T, z, .slice (some ⟨g, 0, none⟩) n c, n, xs⟩) (j : Nat) (u : Value) :
    GFam (w.setCell ⟨g, j, none⟩ u) base E (upG F k ⟨T, z, .slice (some ⟨g, 0, none⟩) n c, n, xs.set j u⟩) ∧ w.grownBy (w.setCell ⟨g, j, none⟩ u) (some g) := by
  have ho : w.ownsRow base T z (.slice (some ⟨g, 0, none⟩) n c) n xs := by have := h.own k; rw [hk] at this; exact this
  obtain ⟨s1, s2⟩ := ho.stored j u
  exact ⟨h.grown k (by rw [hk]; exact s2) _ s1 (fun g' e => .inl (by rw [hk]; exact e)), s2⟩
theorem GFam.at {w : World} {base E : Nat} {F : Nat → GRw} (h : GFam w base E F) {k : Nat} {r : GRw} (hk : F k = r) : w.ownsRow base r.T r.z r.v r.n r.xs := by have := h.own k; rw [hk] at this; exact this
theorem GFam.apart {w : World} {base E : Nat} {F : Nat → GRw} (h : GFam w base E F) {k l : Nat} (hn : k ≠ l) {r s : GRw} (hk : F k = r) (hl : F l = s) {g : Nat} (hg : s.v.ownBlock = some g) : some g ≠ r.v.ownBlock := fun e => by
  rcases h.ne k l hn with h | h
  · rw [hk] at h; rw [h] at e; cases e
  · rw [hk, hl, hg] at h; exact h e.symm
/-- Below base all but one block is as it was. -/
structure GBd (E base : Nat) (w w' : World) : Prop where
  os : w'.os = w.os
  tape : w'.tape = w.tape
  output : w'.output = w.output
  size : w.heap.size ≤ w'.heap.size
  block : ∀ k, k < base → k ≠ E → w'.heap[k]? = w.heap[k]?
theorem GBd.refl (E base : Nat) (w : World) : GBd E base w w := ⟨rfl, rfl, rfl, Nat.le_refl _, fun _ _ _ => rfl⟩
theorem GBd.trans {E base : Nat} {a b c : World} (h : GBd E base a b) (k : GBd E base b c) : GBd E base a c :=
  ⟨k.os.trans h.os, k.tape.trans h.tape, k.output.trans h.output, Nat.le_trans h.size k.size, fun i hi hg => (k.block i hi hg).trans (h.block i hi hg)⟩
theorem GBd.of_below {E base : Nat} {w w' : World} (h : Below w.heap.size w w') (hb : base ≤ w.heap.size) : GBd E base w w' := ⟨h.os, h.tape, h.output, h.size, fun k hk _ => h.block k (by omega)⟩
theorem GBd.of_bu {E base : Nat} {w w' : World} (h : GBu E w w') (hb : base ≤ w.heap.size) : GBd E base w w' := ⟨h.os, h.tape, h.output, h.size, fun k hk hn => h.block k (by omega) hn⟩
theorem GBd.of_grown {E base : Nat} {w w' : World} {row : Option Nat} (h : w.grownBy w' row) (hr : ∀ g, row = some g → base ≤ g) (hb : base ≤ w.heap.size) : GBd E base w w' := ⟨h.os, h.tape, h.output, h.size, fun k hk _ => h.block k (by omega) (fun e => by have := hr k e.symm; omega)⟩
theorem GBd.below {E base B : Nat} {a w w' : World} (h : GBd E base w w') (ha : Below B a w) (hg : B ≤ E) (hB : B ≤ base) : Below B a w' :=
  ha.trans ⟨h.os, h.tape, h.output, h.size, fun k hk => h.block k (by omega) (by omega)⟩
end Go.Proofs.Ytglobeajmdieaaa
namespace Go.Proofs.Ytglobeajmdieaaa
set_option linter.unusedVariables false
set_option linter.unusedSimpArgs false
open Go.RowKit

def normG (n x : Int) : Int := ((x.tmod n) + n).tmod n
theorem normG_in (n x : Int) (hn : 0 < n) : 0 ≤ normG n x ∧ normG n x < n := by
  unfold normG
  have h1 : -n < x.tmod n := Int.lt_tmod_of_pos x hn
  exact ⟨Int.tmod_nonneg _ (by omega), Int.tmod_lt_of_pos _ hn⟩
/-- How a block ends: kind, argument, where it goes. -/
def endG (n : Nat) (whole : Bool) (x : Int × Int) : Int × Int × List Int :=
  let a := if whole then normG n x.1 else x.1
  let b := if whole then normG n x.2 else x.2
  if x.1 = -1 ∧ whole then (3, -1, []) else if a = b then (1, -1, [a]) else (2, 0, [a, b])
/-- Which blocks go where, from block i on. -/
def edgesG : Nat → List (List Int) → List (Nat × Int)
  | _, [] => []
  | i, t :: ts => t.map (fun x => (i, x)) ++ edgesG (i + 1) ts
def predsG (E : List (Nat × Int)) (j : Nat) : List Int := (E.filter fun e => e.2 == (j : Int)).map fun e => (e.1 : Int)
def mkG (es : List (Int × Int × List Int)) (E : List (Nat × Int)) : List GB := es.mapIdx fun j e => { list := .slice none 0 0, preds := predsG E j, kind := e.1, arg := e.2.1, to_ := e.2.2 }
def endsG (l : List (Int × Int)) (whole : Bool) : List (Int × Int × List Int) := (l.take 14).map (endG (min l.length 14) whole)
/-- The law's function. -/
def graphP (l : List (Int × Int)) (whole : Bool) : List GB := mkG (endsG l whole) (if whole then edgesG 0 ((endsG l whole).map fun e => e.2.2) else [])
theorem edgesG_app : ∀ (ts us : List (List Int)) (i : Nat), edgesG i (ts ++ us) = edgesG i ts ++ edgesG (i + ts.length) us
  | [], us, i => by simp [edgesG]
  | t :: ts, us, i => by
    simp only [List.cons_append, edgesG, edgesG_app ts us (i + 1), List.append_assoc, List.length_cons]
    rw [show i + 1 + ts.length = i + (ts.length + 1) by omega]
theorem predsG_app (E : List (Nat × Int)) (i : Nat) (x : Int) (j : Nat) : predsG (E ++ [(i, x)]) j = if x = (j : Int) then predsG E j ++ [(i : Int)] else predsG E j := by
  unfold predsG
  by_cases h : x = (j : Int)
  · simp [h]
  · simp [h]

/-- Pairs as they lie. -/
def GPr (n0 : Nat) (w : World) (v : Value) (l : List (Int × Int)) : Prop := ∃ A c, v = .slice A l.length c ∧ (0 < l.length → ∃ b o, A = some ⟨b, o, none⟩ ∧ b < n0 ∧ ∀ j x, l[j]? = some x → w.cell? ⟨b, o + j * 2, none⟩ = some (.int .i64 x.1) ∧ w.cell? ⟨b, o + j * 2 + 1, none⟩ = some (.int .i64 x.2))
theorem GPr.keep {n0 : Nat} {w w' : World} {v : Value} {l : List (Int × Int)} (h : GPr n0 w v l) (hb : Below n0 w w') : GPr n0 w' v l := by
  obtain ⟨A, c, hv, hr⟩ := h
  refine ⟨A, c, hv, fun hp => ?_⟩
  obtain ⟨b, o, hA, hbn, hc⟩ := hr hp
  exact ⟨b, o, hA, hbn, fun j x hx => ⟨(hb.cell (p := ⟨b, _, none⟩) hbn).trans (hc j x hx).1, (hb.cell (p := ⟨b, _, none⟩) hbn).trans (hc j x hx).2⟩⟩
theorem GPr.at {n0 : Nat} {w : World} {A : Option Addr} {m c : Nat} {l : List (Int × Int)} (h : GPr n0 w (.slice A m c) l) {j : Nat} (hj : j < l.length) :
    ∃ b o, A = some ⟨b, o, none⟩ ∧ b < n0 ∧ w.cell? ⟨b, o + j * 2, none⟩ = some (.int .i64 l[j].1) ∧ w.cell? ⟨b, o + j * 2 + 1, none⟩ = some (.int .i64 l[j].2) := by
  obtain ⟨A', c', hv, hr⟩ := h
  obtain ⟨b, o, hA, hbn, hc⟩ := hr (by omega)
  injection hv with e1
  subst e1
  exact ⟨b, o, hA, hbn, hc j _ (List.getElem?_eq_getElem hj)⟩

/-- A block while the function is made. -/
structure GD where
  pv : Value
  tv : Value
  preds : List Int
  kind : Int
  arg : Int
  to_ : List Int
def GD.cells (d : GD) : List Value := [.slice none 0 0, d.pv, .int .i64 d.kind, .int .i64 d.arg, d.tv]
def blocksG (ds : List GD) : List Value := ds.flatMap GD.cells
theorem blocksG_len : ∀ ds : List GD, (blocksG ds).length = ds.length * 5
  | [] => rfl
  | d :: ds => by
    have h := blocksG_len ds
    simp only [blocksG] at h
    simp [blocksG, h, GD.cells]; omega
theorem blocksG_at : ∀ (ds : List GD) (j q : Nat) (d : GD), ds[j]? = some d → q < 5 → (blocksG ds)[j * 5 + q]? = d.cells[q]?
  | [], j, q, d, h, _ => by simp at h
  | x :: ds, 0, q, d, h, hq => by
    simp at h
    subst h
    rw [Nat.zero_mul, Nat.zero_add]
    simp only [blocksG, List.flatMap_cons]
    rw [List.getElem?_append_left (by simpa [GD.cells] using hq)]
  | x :: ds, j + 1, q, d, h, hq => by
    have := blocksG_at ds j q d (by simpa using h) hq
    simp only [blocksG, List.flatMap_cons] at this ⊢
    rw [List.getElem?_append_right (by simp [GD.cells]; omega), ← this]
    congr 1
    simp [GD.cells]; omega
theorem blocksG_set : ∀ (ds : List GD) (j : Nat) (d : GD) (v : Value) (p : List Int), ds[j]? = some d → (blocksG ds).set (j * 5 + 1) v = blocksG (ds.set j { d with pv := v, preds := p })
  | [], j, d, v, p, h => by simp at h
  | x :: ds, 0, d, v, p, h => by
    simp at h
    subst h
    simp [blocksG, GD.cells]
  | x :: ds, j + 1, d, v, p, h => by
    have := blocksG_set ds j d v p (by simpa using h)
    simp only [blocksG, List.flatMap_cons, List.set_cons_succ] at this ⊢
    rw [List.set_append_right _ _ (by simp [GD.cells]; omega), ← this]
    congr 2
    simp [GD.cells]; omega
def rowT (d : GD) : GRw := ⟨3, 1, d.tv, d.to_.length, intsV d.to_⟩
def rowP (d : GD) : GRw := ⟨3, 1, d.pv, d.preds.length, intsV d.preds⟩
def rowNo : GRw := ⟨3, 1, .slice none 0 0, 0, []⟩
/-- The function's rows: its blocks; where each goes; from where it is come to. -/
def famG (BV : Value) (ds : List GD) : Nat → GRw
  | 0 => ⟨62, 5, BV, ds.length, blocksG ds⟩
  | k + 1 => match ds[k / 2]? with
    | none => rowNo
    | some d => if k % 2 = 0 then rowT d else rowP d
theorem famG_succ (BV : Value) (ds : List GD) (k : Nat) : famG BV ds (k + 1) = match ds[k / 2]? with
    | none => rowNo
    | some d => if k % 2 = 0 then rowT d else rowP d := rfl
theorem famG_t (BV : Value) (ds : List GD) (j : Nat) (d : GD) (h : ds[j]? = some d) : famG BV ds (2 * j + 1) = rowT d := by
  rw [famG_succ]
  rw [show 2 * j / 2 = j by omega, h]
  simp
theorem famG_p (BV : Value) (ds : List GD) (j : Nat) (d : GD) (h : ds[j]? = some d) : famG BV ds (2 * j + 2) = rowP d := by
  rw [show 2 * j + 2 = (2 * j + 1) + 1 from rfl, famG_succ]
  rw [show (2 * j + 1) / 2 = j by omega, h]
  simp
theorem famG_new (BV BV' : Value) (ds : List GD) (d : GD) (hp : d.pv = .slice none 0 0) (hq : d.preds = []) :
    upG (upG (famG BV ds) (2 * ds.length + 1) (rowT d)) 0 ⟨62, 5, BV', ds.length + 1, blocksG ds ++ d.cells⟩ = famG BV' (ds ++ [d]) := by
  funext k
  cases k with
  | zero => simp [upG, famG, blocksG]
  | succ k =>
    rw [upG_off _ _ _ _ (by omega)]
    by_cases hk : k = 2 * ds.length
    · subst hk
      rw [upG_at, famG_t _ _ _ d (by simp)]
    · rw [upG_off _ _ _ _ (by omega)]
      unfold famG
      simp only
      by_cases h1 : k / 2 < ds.length
      · rw [List.getElem?_append_left h1]
      · rw [List.getElem?_eq_none (Nat.le_of_not_lt h1)]
        by_cases h2 : k / 2 = ds.length
        · rw [h2, List.getElem?_append_right (Nat.le_refl _), Nat.sub_self]
          simp only [List.getElem?_cons_zero]
          rw [if_neg (by omega)]
          unfold rowNo rowP
          rw [hp, hq]
          rfl
        · rw [List.getElem?_eq_none (by simp; omega)]
theorem famG_set (BV : Value) (ds : List GD) (j : Nat) (d : GD) (v : Value) (p : List Int) (h : ds[j]? = some d) :
    upG (upG (famG BV ds) (2 * j + 2) ⟨3, 1, v, p.length, intsV p⟩) 0 ⟨62, 5, BV, ds.length, (blocksG ds).set (j * 5 + 1) v⟩ = famG BV (ds.set j { d with pv := v, preds := p }) := by
  have hj : j < ds.length := (List.getElem?_eq_some_iff.1 h).1
  funext k
  cases k with
  | zero =>
    rw [upG_at, blocksG_set ds j d v p h]
    simp [famG]
  | succ k =>
    rw [upG_off _ _ _ _ (by omega)]
    by_cases hk : k = 2 * j + 1
    · subst hk
      rw [upG_at, famG_p _ _ _ { d with pv := v, preds := p } (by simp [hj])]
      rfl
    · rw [upG_off _ _ _ _ (by omega)]
      unfold famG
      simp only
      by_cases h2 : k / 2 = j
      · rw [h2, h, List.getElem?_set_self hj]
        simp only
        have h3 : k % 2 = 0 := by omega
        rw [if_pos h3, if_pos h3]
        rfl
      · rw [List.getElem?_set_ne (fun e => h2 e.symm)]

/-- The function's box. -/
def boxG (w : World) (E : Nat) (BV : Value) : Prop := w.heap[E]? = some (.cells #[.string ⟨#[]⟩, .slice none 0 0, .int .i64 0, .slice none 0 0, BV] 46 (0, 0))
structure GMk (base E : Nat) (w0 w : World) (BV : Value) (ds : List GD) : Prop where
  box : boxG w E BV
  fam : GFam w base E (famG BV ds)
  bd : GBd E base w0 w
  hb : base ≤ w.heap.size
theorem GMk.keep {base E : Nat} {w0 w w' : World} {BV : Value} {ds : List GD} (h : GMk base E w0 w BV ds) (hb : Below w.heap.size w w') : GMk base E w0 w' BV ds :=
  ⟨(hb.block E h.fam.el).trans h.box, h.fam.keep hb, h.bd.trans (GBd.of_below hb h.hb), Nat.le_trans h.hb hb.size⟩
theorem famG_far (BV : Value) (ds : List GD) : famG BV ds (2 * ds.length + 1) = rowNo := by
  rw [famG_succ]
  rw [show 2 * ds.length / 2 = ds.length by omega, List.getElem?_eq_none (Nat.le_refl _)]
theorem famG_zero (BV : Value) (ds : List GD) : famG BV ds 0 = ⟨62, 5, BV, ds.length, blocksG ds⟩ := rfl
/-- One more block: where it goes lies in w1, the row of blocks has grown in w2, the box is written. -/
theorem GMk.more {base E : Nat} {w0 w w1 w2 : World} {A : Option Addr} {n c g c2 : Nat} {ds : List GD} {d : GD} (h : GMk base E w0 w (.slice A n c) ds) (hb : Below w.heap.size w w1) (hp : d.pv = .slice none 0 0) (hq : d.preds = [])
    (ht : w1.ownsRow base 3 1 d.tv d.to_.length (intsV d.to_)) (htn : ∀ k, d.tv.ownBlock = some k → w.heap.size ≤ k)
    (hg : w1.grownBy w2 (Value.slice A n c).ownBlock) (ho : w2.ownsRow base 62 5 (.slice (some ⟨g, 0, none⟩) (ds.length + 1) c2) (ds.length + 1) (blocksG ds ++ d.cells)) (hat : (Value.slice A n c).ownBlock = some g ∨ w1.heap.size ≤ g) :
    GMk base E w0 (w2.setCell ⟨E, 4, none⟩ (.slice (some ⟨g, 0, none⟩) (ds.length + 1) c2)) (.slice (some ⟨g, 0, none⟩) (ds.length + 1) c2) (ds ++ [d]) := by
  have hEl := h.fam.el
  have hav := h.fam.av 0
  rw [famG_zero] at hav
  have hE2 : boxG w2 E (.slice A n c) := (hg.block E (by have := hb.size; omega) (fun e => hav e.symm)).trans ((hb.block E hEl).trans h.box)
  have hE3 := gr_put hE2 4 (.slice (some ⟨g, 0, none⟩) (ds.length + 1) c2)
  have f1 : GFam w1 base E (upG (famG (.slice A n c) ds) (2 * ds.length + 1) (rowT d)) := by
    refine h.fam.grown _ (w' := w1) ⟨hb.os, hb.tape, hb.output, hb.size, fun k hk _ => hb.block k hk⟩ (rowT d) ht (fun g e => .inr (htn g e))
  have hg1 : w1.grownBy w2 ((upG (famG (.slice A n c) ds) (2 * ds.length + 1) (rowT d)) 0).v.ownBlock := by
    rw [upG_off _ _ _ _ (by omega)]
    exact hg
  have f2 := f1.grown 0 hg1 ⟨62, 5, .slice (some ⟨g, 0, none⟩) (ds.length + 1) c2, ds.length + 1, blocksG ds ++ d.cells⟩ ho (fun g' e => by
    simp only [Value.ownBlock, Option.some.injEq] at e
    subst e
    rw [upG_off _ _ _ _ (by omega)]
    exact hat)
  rw [famG_new _ _ _ _ hp hq] at f2
  have hlt := fun k e => ((h.fam.own 0).lt k e).1
  rw [famG_zero] at hlt
  have hbu : GBu E w2 (w2.setCell ⟨E, 4, none⟩ (.slice (some ⟨g, 0, none⟩) (ds.length + 1) c2)) := (GBu.refl E w2).setCell (Or.inl rfl) _
  have hb1 : base ≤ w1.heap.size := Nat.le_trans h.hb hb.size
  have hb2 : base ≤ w2.heap.size := Nat.le_trans hb1 hg.size
  exact ⟨hE3, f2.bu hbu, ((h.bd.trans (GBd.of_below hb h.hb)).trans (GBd.of_grown hg hlt hb1)).trans (GBd.of_bu hbu hb2), Nat.le_trans hb2 hbu.size⟩
/-- One more block from which one comes to block j. -/
theorem GMk.pred {base E : Nat} {w0 w w2 : World} {gb n c g c2 m : Nat} {ds : List GD} {j : Nat} {d : GD} {x : Int} (h : GMk base E w0 w (.slice (some ⟨gb, 0, none⟩) n c) ds) (hd : ds[j]? = some d)
    (hg : w.grownBy w2 d.pv.ownBlock) (ho : w2.ownsRow base 3 1 (.slice (some ⟨g, 0, none⟩) m c2) m (intsV d.preds ++ [.int .i64 x])) (hm : m = d.preds.length + 1) (hat : d.pv.ownBlock = some g ∨ w.heap.size ≤ g) :
    GMk base E w0 (w2.setCell ⟨gb, j * 5 + 1, none⟩ (.slice (some ⟨g, 0, none⟩) m c2)) (.slice (some ⟨gb, 0, none⟩) n c) (ds.set j { d with pv := .slice (some ⟨g, 0, none⟩) m c2, preds := d.preds ++ [x] }) := by
  subst hm
  have hEl := h.fam.el
  have hj : j < ds.length := (List.getElem?_eq_some_iff.1 hd).1
  have hfp := famG_p (.slice (some ⟨gb, 0, none⟩) n c) ds j d hd
  have hg0 : w.grownBy w2 ((famG (.slice (some ⟨gb, 0, none⟩) n c) ds) (2 * j + 2)).v.ownBlock := by rw [hfp]; exact hg
  have hx : intsV d.preds ++ [Value.int .i64 x] = intsV (d.preds ++ [x]) := by simp [intsV]
  rw [hx] at ho
  have f1 := h.fam.grown (2 * j + 2) hg0 ⟨3, 1, .slice (some ⟨g, 0, none⟩) (d.preds.length + 1) c2, (d.preds ++ [x]).length, intsV (d.preds ++ [x])⟩ (by simpa using ho) (fun g' e => by
    simp only [Value.ownBlock, Option.some.injEq] at e
    subst e
    rw [hfp]
    exact hat)
  have hn : n = ds.length := (gr_len (h.fam.own 0)).2
  have f2 := (f1.put (k := 0) (T := 62) (z := 5) (g := gb) (n := n) (c := c) (xs := blocksG ds) (by rw [upG_off _ _ _ _ (by omega), famG_zero, ← hn]) (j * 5 + 1) (.slice (some ⟨g, 0, none⟩) (d.preds.length + 1) c2))
  obtain ⟨f3, g3⟩ := f2
  rw [hn] at f3
  rw [famG_set _ _ _ d _ _ hd] at f3
  have hav := h.fam.av (2 * j + 2)
  have hav0 := h.fam.av 0
  rw [hfp] at hav
  rw [famG_zero] at hav0
  have hne : E ≠ gb := fun e => hav0 (by rw [e]; rfl)
  have hE2 : boxG w2 E (.slice (some ⟨gb, 0, none⟩) n c) := (hg.block E hEl (fun e => hav e.symm)).trans h.box
  have hE3 : boxG (w2.setCell ⟨gb, j * 5 + 1, none⟩ (.slice (some ⟨g, 0, none⟩) (d.preds.length + 1) c2)) E (.slice (some ⟨gb, 0, none⟩) n c) := (Below.heap_setCell _ _ _ _ hne).trans hE2
  have hlt := fun k e => ((h.fam.own (2 * j + 2)).lt k e).1
  rw [hfp] at hlt
  have hlt0 := ((h.fam.own 0).lt gb rfl).1
  have hb2 : base ≤ w2.heap.size := Nat.le_trans h.hb hg.size
  subst hn
  exact ⟨hE3, f3, (h.bd.trans (GBd.of_grown hg hlt h.hb)).trans (GBd.of_grown g3 (fun k e => by cases e; exact hlt0) hb2), Nat.le_trans hb2 g3.size⟩
end Go.Proofs.Ytglobeajmdieaaa
