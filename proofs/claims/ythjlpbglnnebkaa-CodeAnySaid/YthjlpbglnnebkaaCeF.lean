/-
  Programs as bytes: what the reference's Take keeps: its reader, its function, their results.
-/
import Derived.Test.YthjlpbglnnebkaaCeE
namespace Go.Proofs.Ythjlpbglnnebkaa
open Go.RowKit Go.Shelf
set_option linter.unusedVariables false
set_option linter.unusedSimpArgs false

structure TS (w wr : World) (l : List UInt8) (b : Bool) (nm : List UInt8) (v1 v2 v3 : Value) (F : SF) : Prop where
  r : RBx w.heap.size l b wr
  q : RBx (w.heap.size + 1) [] false wr
  z : wr.heap[w.heap.size + 2]? = some (.cells #[.string ⟨#[]⟩, .slice none 0 0, .int .i64 0, .slice none 0 0, .slice none 0 0] 63 (0, 0))
  f : wr.heap[w.heap.size + 3]? = some (.cells #[.string ⟨nm.toArray⟩, v1, .int .i64 F.ret, v2, v3] 63 (0, 0))
  o1 : wr.ownsRow (w.heap.size + 4) 3 1 v1 F.params.length (intsV F.params)
  o2 : InsO (w.heap.size + 4) wr v2 F.ins
  o3 : BlkO (w.heap.size + 4) wr v3 F.blocks
  b : Below w.heap.size w wr
  hi : w.heap.size + 4 ≤ wr.heap.size
section
variable {w wr w' : World} {l l' : List UInt8} {b b' : Bool} {nm nm' : List UInt8} {v1 v2 v3 : Value} {f : SF}
theorem TS.keep (h : TS w wr l b nm v1 v2 v3 f) (hb : Below wr.heap.size wr w') : TS w w' l b nm v1 v2 v3 f :=
  have up : ∀ k o, wr.heap[k]? = some o → w'.heap[k]? = some o := fun k o hk => (hb.block k (gr_in hk)).trans hk
  ⟨up _ _ h.r, up _ _ h.q, up _ _ h.z, up _ _ h.f, gr_up h.o1 hb, h.o2.kp (Kp.of_below 50 hb) (by decide) (by decide), h.o3.kp (Kp.of_below 50 hb) (by decide) (by decide), h.b.trans (hb.mono (by have := h.hi; omega)), Nat.le_trans h.hi hb.size⟩
theorem TS.alter (h : TS w wr l b nm v1 v2 v3 f) {T : TypeId} (k : Kp (w.heap.size + 4) T wr w') (hlow : ∀ j, j < w.heap.size + 4 → w'.heap[j]? = wr.heap[j]?) (hT0 : 3 ≠ T) (hT1 : 66 ≠ T) (hT2 : 71 ≠ T) (hbw : Below w.heap.size w w') (hi : w.heap.size + 4 ≤ w'.heap.size) : TS w w' l b nm v1 v2 v3 f :=
  ⟨(hlow _ (by omega)).trans h.r, (hlow _ (by omega)).trans h.q, (hlow _ (by omega)).trans h.z, (hlow _ (by omega)).trans h.f, own_kp h.o1 k hT0, h.o2.kp k hT1 hT0, h.o3.kp k hT2 hT0, hbw, hi⟩
theorem TS.setR (h : TS w wr l b nm v1 v2 v3 f) : TS w ((wr.setCell ⟨w.heap.size, 0, none⟩ (.string ⟨l'.toArray⟩)).setCell ⟨w.heap.size, 1, none⟩ (.bool b')) l' b' nm v1 v2 v3 f :=
  have k : Kp (w.heap.size + 4) 85 wr _ := RBx.set_kp (l' := l') (b' := b') h.r
  have off : ∀ j, j ≠ w.heap.size → ((wr.setCell ⟨w.heap.size, 0, none⟩ (.string ⟨l'.toArray⟩)).setCell ⟨w.heap.size, 1, none⟩ (.bool b')).heap[j]? = wr.heap[j]? := fun j hj => (Below.heap_setCell _ _ _ _ hj).trans (Below.heap_setCell _ _ _ _ hj)
  ⟨h.r.set, (off _ (by omega)).trans h.q, (off _ (by omega)).trans h.z, (off _ (by omega)).trans h.f, own_kp h.o1 k (by decide), h.o2.kp k (by decide) (by decide), h.o3.kp k (by decide) (by decide), RBx.set_below h.b (Nat.le_refl _), by simp [World.setCell]; exact h.hi⟩
theorem TS.setQ (h : TS w wr l b nm v1 v2 v3 f) {Q : Nat} {lq : List UInt8} {bq : Bool} (hq : RBx Q lq bq wr) (hQ : w.heap.size + 4 ≤ Q) {lq' : List UInt8} {bq' : Bool} : TS w ((wr.setCell ⟨Q, 0, none⟩ (.string ⟨lq'.toArray⟩)).setCell ⟨Q, 1, none⟩ (.bool bq')) l b nm v1 v2 v3 f :=
  h.alter (RBx.set_kp hq) (fun j hj => (Below.heap_setCell _ _ _ _ (by show j ≠ Q; omega)).trans (Below.heap_setCell _ _ _ _ (by show j ≠ Q; omega))) (by decide) (by decide) (by decide) (RBx.set_below h.b (by omega)) (by simp [World.setCell]; exact h.hi)
theorem TS.setF (h : TS w wr l b nm v1 v2 v3 f) (j : Nat) (x : Value) (nm' : List UInt8) (v1' v2' v3' : Value) (f' : SF) (hc : (#[.string ⟨nm.toArray⟩, v1, .int .i64 f.ret, v2, v3] : Array Value).setIfInBounds j x = #[.string ⟨nm'.toArray⟩, v1', .int .i64 f'.ret, v2', v3'])
    (h1 : wr.ownsRow (w.heap.size + 4) 3 1 v1' f'.params.length (intsV f'.params)) (h2 : InsO (w.heap.size + 4) wr v2' f'.ins) (h3 : BlkO (w.heap.size + 4) wr v3' f'.blocks) : TS w (wr.setCell ⟨w.heap.size + 3, j, none⟩ x) l b nm' v1' v2' v3' f' :=
  have k : Kp (w.heap.size + 4) 63 wr (wr.setCell ⟨w.heap.size + 3, j, none⟩ x) := Kp.of_set x h.f
  have off : ∀ i, i ≠ w.heap.size + 3 → (wr.setCell ⟨w.heap.size + 3, j, none⟩ x).heap[i]? = wr.heap[i]? := fun i hi => Below.heap_setCell _ _ _ _ hi
  ⟨(off _ (by omega)).trans h.r, (off _ (by omega)).trans h.q, (off _ (by omega)).trans h.z, by rw [← hc]; exact gr_put h.f j x, own_kp h1 k (by decide), h2.kp k (by decide) (by decide), h3.kp k (by decide) (by decide), h.b.setCell (p := ⟨w.heap.size + 3, j, none⟩) (by show w.heap.size ≤ w.heap.size + 3; omega) _, by simp [World.setCell]; exact h.hi⟩
theorem TS.fc (h : TS w wr l b nm v1 v2 v3 f) : wr.cell? ⟨w.heap.size + 3, 0, none⟩ = some (.string ⟨nm.toArray⟩) ∧ wr.cell? ⟨w.heap.size + 3, 1, none⟩ = some v1 ∧ wr.cell? ⟨w.heap.size + 3, 2, none⟩ = some (.int .i64 f.ret) ∧ wr.cell? ⟨w.heap.size + 3, 3, none⟩ = some v2 ∧ wr.cell? ⟨w.heap.size + 3, 4, none⟩ = some v3 ∧ (∀ j, wr.frozen? ⟨w.heap.size + 3, j, none⟩ = false) :=
  ⟨Lib.cell_of_heap h.f 0, Lib.cell_of_heap h.f 1, Lib.cell_of_heap h.f 2, Lib.cell_of_heap h.f 3, Lib.cell_of_heap h.f 4, fun j => Lib.frozen_of_heap h.f j⟩
theorem TS.zc (h : TS w wr l b nm v1 v2 v3 f) : wr.cell? ⟨w.heap.size + 2, 0, none⟩ = some (.string ⟨#[]⟩) ∧ wr.cell? ⟨w.heap.size + 2, 1, none⟩ = some (.slice none 0 0) ∧ wr.cell? ⟨w.heap.size + 2, 2, none⟩ = some (.int .i64 0) ∧ wr.cell? ⟨w.heap.size + 2, 3, none⟩ = some (.slice none 0 0) ∧ wr.cell? ⟨w.heap.size + 2, 4, none⟩ = some (.slice none 0 0) ∧ (∀ j, wr.frozen? ⟨w.heap.size + 2, j, none⟩ = false) :=
  ⟨Lib.cell_of_heap h.z 0, Lib.cell_of_heap h.z 1, Lib.cell_of_heap h.z 2, Lib.cell_of_heap h.z 3, Lib.cell_of_heap h.z 4, fun j => Lib.frozen_of_heap h.z j⟩
/-- What Take reads at its end, in some world. -/
def TSc (w X : World) (l : List UInt8) (b : Bool) (nm : List UInt8) (v1 v2 v3 : Value) (f : SF) : Prop := X.cell? ⟨w.heap.size, 0, none⟩ = some (.string ⟨l.toArray⟩) ∧ X.cell? ⟨w.heap.size, 1, none⟩ = some (.bool b) ∧ X.cell? ⟨w.heap.size + 3, 0, none⟩ = some (.string ⟨nm.toArray⟩) ∧ X.cell? ⟨w.heap.size + 3, 1, none⟩ = some v1 ∧ X.cell? ⟨w.heap.size + 3, 2, none⟩ = some (.int .i64 f.ret) ∧ X.cell? ⟨w.heap.size + 3, 3, none⟩ = some v2 ∧ X.cell? ⟨w.heap.size + 3, 4, none⟩ = some v3
theorem TSc.of {X : World} (h0 : X.heap[w.heap.size]? = some (.cells #[.string ⟨l.toArray⟩, .bool b] 85 (0, 0))) (h3 : X.heap[w.heap.size + 3]? = some (.cells #[.string ⟨nm.toArray⟩, v1, .int .i64 f.ret, v2, v3] 63 (0, 0))) : TSc w X l b nm v1 v2 v3 f :=
  ⟨Lib.cell_of_heap h0 0, Lib.cell_of_heap h0 1, Lib.cell_of_heap h3 0, Lib.cell_of_heap h3 1, Lib.cell_of_heap h3 2, Lib.cell_of_heap h3 3, Lib.cell_of_heap h3 4⟩
theorem TS.fin (h : TS w wr l b nm v1 v2 v3 f) : ∃ Z, TSc w wr.drew l b nm v1 v2 v3 f ∧ TSc w ((wr.setCell ⟨w.heap.size + 1, 0, none⟩ (.string ⟨l.toArray⟩)).setCell ⟨w.heap.size + 1, 1, none⟩ (.bool b)).drew l b nm v1 v2 v3 f ∧ TSc w Z l b nm v1 v2 v3 f ∧
    Z = (((((((wr.setCell ⟨w.heap.size + 1, 0, none⟩ (.string ⟨l.toArray⟩)).setCell ⟨w.heap.size + 1, 1, none⟩ (.bool b)).setCell ⟨w.heap.size + 2, 0, none⟩ (.string ⟨nm.toArray⟩)).setCell ⟨w.heap.size + 2, 1, none⟩ v1).setCell ⟨w.heap.size + 2, 2, none⟩ (.int .i64 f.ret)).setCell ⟨w.heap.size + 2, 3, none⟩ v2).setCell ⟨w.heap.size + 2, 4, none⟩ v3).drew ∧
    Z.heap[w.heap.size + 1]? = some (.cells #[.string ⟨l.toArray⟩, .bool b] 85 (0, 0)) ∧ Z.heap[w.heap.size + 2]? = some (.cells #[.string ⟨nm.toArray⟩, v1, .int .i64 f.ret, v2, v3] 63 (0, 0)) ∧
    Z.ownsRow w.heap.size 3 1 v1 f.params.length (intsV f.params) ∧ InsO w.heap.size Z v2 f.ins ∧ BlkO w.heap.size Z v3 f.blocks ∧ Below w.heap.size w Z := by
  have off : ∀ (X : World) (j k q : Nat) (x : Value), q ≠ k → (X.setCell ⟨k, j, none⟩ x).heap[q]? = X.heap[q]? := fun X j k q x hq => Below.heap_setCell _ _ _ _ hq
  obtain ⟨A, hA⟩ : ∃ A, A = (wr.setCell ⟨w.heap.size + 1, 0, none⟩ (.string ⟨l.toArray⟩)).setCell ⟨w.heap.size + 1, 1, none⟩ (.bool b) := ⟨_, rfl⟩
  have hAo : ∀ q, q ≠ w.heap.size + 1 → A.heap[q]? = wr.heap[q]? := fun q hq => by rw [hA]; exact (off _ _ _ _ _ hq).trans (off _ _ _ _ _ hq)
  have hA1 : RBx (w.heap.size + 1) l b A := by rw [hA]; exact h.q.set
  have hAk : Kp (w.heap.size + 4) 85 wr A := by rw [hA]; exact RBx.set_kp h.q
  have hAb : Below w.heap.size w A := by rw [hA]; exact RBx.set_below h.b (by omega)
  obtain ⟨Z, hZ⟩ : ∃ Z, Z = ((((A.setCell ⟨w.heap.size + 2, 0, none⟩ (.string ⟨nm.toArray⟩)).setCell ⟨w.heap.size + 2, 1, none⟩ v1).setCell ⟨w.heap.size + 2, 2, none⟩ (.int .i64 f.ret)).setCell ⟨w.heap.size + 2, 3, none⟩ v2).setCell ⟨w.heap.size + 2, 4, none⟩ v3 := ⟨_, rfl⟩
  have hZo : ∀ q, q ≠ w.heap.size + 2 → Z.heap[q]? = A.heap[q]? := fun q hq => by rw [hZ]; exact (off _ _ _ _ _ hq).trans ((off _ _ _ _ _ hq).trans ((off _ _ _ _ _ hq).trans ((off _ _ _ _ _ hq).trans (off _ _ _ _ _ hq))))
  have hz0 := (hAo _ (by omega)).trans h.z
  have hZ2 : Z.heap[w.heap.size + 2]? = some (.cells #[.string ⟨nm.toArray⟩, v1, .int .i64 f.ret, v2, v3] 63 (0, 0)) := by rw [hZ]; exact gr_put (gr_put (gr_put (gr_put (gr_put hz0 0 _) 1 _) 2 _) 3 _) 4 _
  have hZk : Kp (w.heap.size + 4) 63 A Z := fun g cs T' fr hb hh hT => (hZo g (by omega)).trans hh
  have hZb : Below w.heap.size w Z := by
    rw [hZ]
    exact ((((hAb.setCell (p := ⟨w.heap.size + 2, 0, none⟩) (by show w.heap.size ≤ w.heap.size + 2; omega) _).setCell (p := ⟨w.heap.size + 2, 1, none⟩) (by show w.heap.size ≤ w.heap.size + 2; omega) _).setCell (p := ⟨w.heap.size + 2, 2, none⟩) (by show w.heap.size ≤ w.heap.size + 2; omega) _).setCell (p := ⟨w.heap.size + 2, 3, none⟩) (by show w.heap.size ≤ w.heap.size + 2; omega) _).setCell (p := ⟨w.heap.size + 2, 4, none⟩) (by show w.heap.size ≤ w.heap.size + 2; omega) _
  refine ⟨Z.drew, TSc.of h.r h.f, TSc.of (X := A.drew) ((hAo _ (by omega)).trans h.r) ((hAo _ (by omega)).trans h.f) |> fun q => by rw [hA] at q; exact q, TSc.of (X := Z.drew) ((hZo _ (by omega)).trans ((hAo _ (by omega)).trans h.r)) ((hZo _ (by omega)).trans ((hAo _ (by omega)).trans h.f)), by rw [hZ, hA], (hZo _ (by omega)).trans hA1, hZ2, ?_, ?_, ?_, below_dr hZb 1⟩
  · exact own_kp (own_low (own_kp (own_kp h.o1 hAk (by decide)) hZk (by decide)) (by omega)) (Kp.of_below 50 (below_dr (Below.refl Z.heap.size Z) 1)) (by decide)
  · exact (((h.o2.kp hAk (by decide) (by decide)).kp hZk (by decide) (by decide)).low (by omega)).kp (Kp.of_below 50 (below_dr (Below.refl Z.heap.size Z) 1)) (by decide) (by decide)
  · exact (((h.o3.kp hAk (by decide) (by decide)).kp hZk (by decide) (by decide)).low (by omega)).kp (Kp.of_below 50 (below_dr (Below.refl Z.heap.size Z) 1)) (by decide) (by decide)
/-- A row of another type grew. -/
theorem TS.grown (h : TS w wr l b nm v1 v2 v3 f) {T : TypeId} {z n : Nat} {v : Value} {xs : List Value} (ho : wr.ownsRow (w.heap.size + 4) T z v n xs) (hg : wr.grownBy w' v.ownBlock) : (∀ j, j < w.heap.size + 4 → w'.heap[j]? = wr.heap[j]?) ∧ Below w.heap.size w w' ∧ w.heap.size + 4 ≤ w'.heap.size :=
  ⟨fun j hj => hg.block j (by have := h.hi; omega) (fun e => by have := (ho.lt j e.symm).1; omega), below_grown h.b ho (by omega) (Nat.le_refl _) hg, Nat.le_trans h.hi hg.size⟩
end
def TakeP (l : List UInt8) (o : (List UInt8 × SF) × Option (List UInt8)) (w : World) (e : Ending) (w' : World) : Prop := ∃ (l' : List UInt8) (b' : Bool) (v1 v2 v3 : Value) (d : List UInt8 × SF), e = .returned (.tuple #[.agg #[.string ⟨l'.toArray⟩, .bool b'], .agg #[.string ⟨d.1.toArray⟩, v1, .int .i64 d.2.ret, v2, v3]]) ∧ rR l' b' = o.2 ∧ l'.length ≤ l.length ∧ (w'.ownsRow w.heap.size 3 1 v1 d.2.params.length (intsV d.2.params) ∧ InsO w.heap.size w' v2 d.2.ins ∧ BlkO w.heap.size w' v3 d.2.blocks) ∧ (o.2 ≠ none → d = o.1) ∧ Below w.heap.size w w'
theorem numS_nil (most : Nat) : numS most none = (0, none) := rfl
theorem textS_nil (n : Int) : textS n none = ([], none) := rfl
theorem itemsQ_nil {α : Type} (item : Option (List UInt8) → α × Option (List UInt8)) (most : Nat) : itemsQ most item none = ([], none) := rfl
theorem rowQ_nil (most : Nat) : rowQ most none = ([], none) := rfl
theorem rR_none {l : List UInt8} {b : Bool} (h : rR l b = none) : b = true := by
  cases b with
  | true => rfl
  | false => cases h
theorem rR_some {l m : List UInt8} {b : Bool} (h : rR l b = some m) : b = false ∧ l = m := by
  cases b with
  | true => cases h
  | false => injection h with h; exact ⟨rfl, h⟩
theorem results_cell_cell {fn : Func} {p u : Tmp} {ty ty2 : TypeId} (h : fn.results = #[.cell p ty, .cell u ty2]) (tmps : Array Value) (w : World) (g k : Nat) (cs ds : Array Value)
    (hp : tmps.getD p undef = .pointer (some ⟨g, 0, none⟩)) (hu : tmps.getD u undef = .pointer (some ⟨k, 0, none⟩)) (hr : (loadVar ty ⟨g, 0, none⟩).run Try.prog w = .ok (.agg cs) w) (hr2 : (loadVar ty2 ⟨k, 0, none⟩).run Try.prog w = .ok (.agg ds) w) :
    (results fn tmps).run Try.prog w = .ok (.tuple #[.agg cs, .agg ds]) w := by
  have hp' : tmps[p]?.getD undef = .pointer (some ⟨g, 0, none⟩) := by simpa using hp
  have hu' : tmps[u]?.getD undef = .pointer (some ⟨k, 0, none⟩) := by simpa using hu
  simp [results, h, hp', hu', asAddr, hr, hr2, Sem.run_bind, Result.andThen]
end Go.Proofs.Ythjlpbglnnebkaa
