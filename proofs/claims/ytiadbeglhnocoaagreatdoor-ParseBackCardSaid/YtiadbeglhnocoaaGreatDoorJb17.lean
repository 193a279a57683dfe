/-
  How programs as trees lie in memory: what reads as which tree, and that it goes on reading so.
  A row of expressions that the call itself makes: one more of them.
-/
import Derived.Test.YtiadbeglhnocoaaGreatDoorJb6
import Derived.Below
import Derived.Deep.AppendLies
import Derived.OwnWalk
namespace Go.Proofs.YtiadbeglhnocoaaGreatDoor
set_option linter.unusedVariables false
set_option linter.unusedSimpArgs false
open Go.RowKit

mutual
/-- The seven cells c 0 .. c 6 read as the expression; all blocks behind them are of S. -/
def RdE (w : World) (S : Nat → Prop) (c : Nat → Option Value) : Ex → Prop
  | .mk k a t o n s kids => c 0 = some (.int .i64 k) ∧ c 1 = some (.int .i64 a) ∧ c 2 = some (.int .i64 t) ∧ c 3 = some (.int .i64 o) ∧ c 4 = some (.int .i64 n) ∧ c 5 = some (.string s) ∧ ∃ A cap, c 6 = some (.slice A kids.length (kids.length + cap)) ∧ RdEs w S A 0 kids
/-- From the i-th on the elements of a slice read as expressions. -/
def RdEs (w : World) (S : Nat → Prop) (A : Option Addr) (i : Nat) : List Ex → Prop
  | [] => True
  | e :: r => (∃ g o, A = some ⟨g, o, none⟩ ∧ S g ∧ RdE w S (fun j => w.cell? ⟨g, o + i * 7 + j, none⟩) e) ∧ RdEs w S A (i + 1) r
end
theorem add_blk (a : Addr) (n : Nat) : (a.add n).block = a.block := by unfold Addr.add; split <;> rfl
mutual
theorem RdE.keep {w w' : World} {S : Nat → Prop} (hb : ∀ p : Addr, S p.block → w'.cell? p = w.cell? p) (c : Nat → Option Value) : ∀ e : Ex, RdE w S c e → RdE w' S c e
  | .mk k a t o n s kids, h => by
    unfold RdE at h ⊢
    obtain ⟨h0, h1, h2, h3, h4, h5, A, cap, h6, hk⟩ := h
    exact ⟨h0, h1, h2, h3, h4, h5, A, cap, h6, RdEs.keep hb A 0 kids hk⟩
theorem RdEs.keep {w w' : World} {S : Nat → Prop} (hb : ∀ p : Addr, S p.block → w'.cell? p = w.cell? p) (A : Option Addr) (i : Nat) : ∀ l : List Ex, RdEs w S A i l → RdEs w' S A i l
  | [], _ => by unfold RdEs; trivial
  | e :: r, h => by
    unfold RdEs at h ⊢
    obtain ⟨⟨g, o, hA, hB, he⟩, hr⟩ := h
    refine ⟨⟨g, o, hA, hB, ?_⟩, RdEs.keep hb A (i + 1) r hr⟩
    have e1 : (fun j => w'.cell? ⟨g, o + i * 7 + j, none⟩) = fun j => w.cell? ⟨g, o + i * 7 + j, none⟩ := funext fun j => hb _ hB
    rw [e1]
    exact RdE.keep hb _ e he
end
mutual
theorem RdE.more {w : World} {S S' : Nat → Prop} (hB : ∀ b, S b → S' b) (c : Nat → Option Value) : ∀ e : Ex, RdE w S c e → RdE w S' c e
  | .mk k a t o n s kids, h => by
    unfold RdE at h ⊢
    obtain ⟨h0, h1, h2, h3, h4, h5, A, cap, h6, hk⟩ := h
    exact ⟨h0, h1, h2, h3, h4, h5, A, cap, h6, RdEs.more hB A 0 kids hk⟩
theorem RdEs.more {w : World} {S S' : Nat → Prop} (hB : ∀ b, S b → S' b) (A : Option Addr) (i : Nat) : ∀ l : List Ex, RdEs w S A i l → RdEs w S' A i l
  | [], _ => by unfold RdEs; trivial
  | e :: r, h => by
    unfold RdEs at h ⊢
    obtain ⟨⟨g, o, hA, hb, he⟩, hr⟩ := h
    exact ⟨⟨g, o, hA, hB _ hb, RdE.more hB _ e he⟩, RdEs.more hB A (i + 1) r hr⟩
end
theorem RdEs.at_ {w : World} {S : Nat → Prop} {i k : Nat} {A : Option Addr} {l : List Ex} {e : Ex} (h : RdEs w S A i l) (hk : l[k]? = some e) : ∃ g o, A = some ⟨g, o, none⟩ ∧ S g ∧ RdE w S (fun j => w.cell? ⟨g, o + (i + k) * 7 + j, none⟩) e := by
  induction l generalizing i k with
  | nil => simp at hk
  | cons x r ih =>
    unfold RdEs at h
    rcases k with _ | k
    · simp at hk; subst hk; exact h.1
    · have := ih (i := i + 1) (k := k) h.2 (by simpa using hk)
      have e1 : i + 1 + k = i + (k + 1) := by omega
      rw [e1] at this
      exact this
theorem RdEs.of_all {w : World} {S : Nat → Prop} {i : Nat} {A : Option Addr} {l : List Ex} (h : ∀ k e, l[k]? = some e → ∃ g o, A = some ⟨g, o, none⟩ ∧ S g ∧ RdE w S (fun j => w.cell? ⟨g, o + (i + k) * 7 + j, none⟩) e) : RdEs w S A i l := by
  induction l generalizing i with
  | nil => unfold RdEs; trivial
  | cons x r ih =>
    unfold RdEs
    refine ⟨h 0 x rfl, ih (fun k e hk => ?_)⟩
    have := h (k + 1) e (by simpa using hk)
    have e1 : i + (k + 1) = i + 1 + k := by omega
    rw [e1] at this
    exact this
/-- The same cells, told otherwise. -/
theorem RdE.cells {w : World} {S : Nat → Prop} {c c' : Nat → Option Value} {e : Ex} (h : RdE w S c e) (hc : ∀ j, j < 7 → c' j = c j) : RdE w S c' e := by
  cases e
  unfold RdE at h ⊢
  rw [hc 0 (by omega), hc 1 (by omega), hc 2 (by omega), hc 3 (by omega), hc 4 (by omega), hc 5 (by omega), hc 6 (by omega)]
  exact h

mutual
/-- The eight cells read as the statement. -/
def RdS (w : World) (S : Nat → Prop) (c : Nat → Option Value) : St → Prop
  | .mk k a n s p kids body els => c 0 = some (.int .i64 k) ∧ c 1 = some (.int .i64 a) ∧ c 2 = some (.int .i64 n) ∧ c 3 = some (.string s) ∧ c 4 = some (.int .i64 p) ∧ (∃ A cap, c 5 = some (.slice A kids.length cap) ∧ RdEs w S A 0 kids) ∧ (∃ A cap, c 6 = some (.slice A body.length cap) ∧ RdSs w S A 0 body) ∧ ∃ A cap, c 7 = some (.slice A els.length cap) ∧ RdSs w S A 0 els
def RdSs (w : World) (S : Nat → Prop) (A : Option Addr) (i : Nat) : List St → Prop
  | [] => True
  | e :: r => (∃ g o, A = some ⟨g, o, none⟩ ∧ S g ∧ RdS w S (fun j => w.cell? ⟨g, o + i * 8 + j, none⟩) e) ∧ RdSs w S A (i + 1) r
end
mutual
theorem RdS.keep {w w' : World} {S : Nat → Prop} (hb : ∀ p : Addr, S p.block → w'.cell? p = w.cell? p) (c : Nat → Option Value) : ∀ e : St, RdS w S c e → RdS w' S c e
  | .mk k a n s p kids body els, h => by
    unfold RdS at h ⊢
    obtain ⟨h0, h1, h2, h3, h4, ⟨A1, c1, h5, hk1⟩, ⟨A2, c2, h6, hk2⟩, A3, c3, h7, hk3⟩ := h
    exact ⟨h0, h1, h2, h3, h4, ⟨A1, c1, h5, RdEs.keep hb A1 0 kids hk1⟩, ⟨A2, c2, h6, RdSs.keep hb A2 0 body hk2⟩, A3, c3, h7, RdSs.keep hb A3 0 els hk3⟩
theorem RdSs.keep {w w' : World} {S : Nat → Prop} (hb : ∀ p : Addr, S p.block → w'.cell? p = w.cell? p) (A : Option Addr) (i : Nat) : ∀ l : List St, RdSs w S A i l → RdSs w' S A i l
  | [], _ => by unfold RdSs; trivial
  | e :: r, h => by
    unfold RdSs at h ⊢
    obtain ⟨⟨g, o, hA, hB, he⟩, hr⟩ := h
    refine ⟨⟨g, o, hA, hB, ?_⟩, RdSs.keep hb A (i + 1) r hr⟩
    have e1 : (fun j => w'.cell? ⟨g, o + i * 8 + j, none⟩) = fun j => w.cell? ⟨g, o + i * 8 + j, none⟩ := funext fun j => hb _ hB
    rw [e1]
    exact RdS.keep hb _ e he
end
mutual
theorem RdS.more {w : World} {S S' : Nat → Prop} (hB : ∀ b, S b → S' b) (c : Nat → Option Value) : ∀ e : St, RdS w S c e → RdS w S' c e
  | .mk k a n s p kids body els, h => by
    unfold RdS at h ⊢
    obtain ⟨h0, h1, h2, h3, h4, ⟨A1, c1, h5, hk1⟩, ⟨A2, c2, h6, hk2⟩, A3, c3, h7, hk3⟩ := h
    exact ⟨h0, h1, h2, h3, h4, ⟨A1, c1, h5, RdEs.more hB A1 0 kids hk1⟩, ⟨A2, c2, h6, RdSs.more hB A2 0 body hk2⟩, A3, c3, h7, RdSs.more hB A3 0 els hk3⟩
theorem RdSs.more {w : World} {S S' : Nat → Prop} (hB : ∀ b, S b → S' b) (A : Option Addr) (i : Nat) : ∀ l : List St, RdSs w S A i l → RdSs w S' A i l
  | [], _ => by unfold RdSs; trivial
  | e :: r, h => by
    unfold RdSs at h ⊢
    obtain ⟨⟨g, o, hA, hb, he⟩, hr⟩ := h
    exact ⟨⟨g, o, hA, hB _ hb, RdS.more hB _ e he⟩, RdSs.more hB A (i + 1) r hr⟩
end
theorem RdSs.at_ {w : World} {S : Nat → Prop} {i k : Nat} {A : Option Addr} {l : List St} {e : St} (h : RdSs w S A i l) (hk : l[k]? = some e) : ∃ g o, A = some ⟨g, o, none⟩ ∧ S g ∧ RdS w S (fun j => w.cell? ⟨g, o + (i + k) * 8 + j, none⟩) e := by
  induction l generalizing i k with
  | nil => simp at hk
  | cons x r ih =>
    unfold RdSs at h
    rcases k with _ | k
    · simp at hk; subst hk; exact h.1
    · have := ih (i := i + 1) (k := k) h.2 (by simpa using hk)
      have e1 : i + 1 + k = i + (k + 1) := by omega
      rw [e1] at this
      exact this
theorem RdSs.of_all {w : World} {S : Nat → Prop} {i : Nat} {A : Option Addr} {l : List St} (h : ∀ k e, l[k]? = some e → ∃ g o, A = some ⟨g, o, none⟩ ∧ S g ∧ RdS w S (fun j => w.cell? ⟨g, o + (i + k) * 8 + j, none⟩) e) : RdSs w S A i l := by
  induction l generalizing i with
  | nil => unfold RdSs; trivial
  | cons x r ih =>
    unfold RdSs
    refine ⟨h 0 x rfl, ih (fun k e hk => ?_)⟩
    have := h (k + 1) e (by simpa using hk)
    have e1 : i + (k + 1) = i + 1 + k := by omega
    rw [e1] at this
    exact this
theorem RdS.cells {w : World} {S : Nat → Prop} {c c' : Nat → Option Value} {e : St} (h : RdS w S c e) (hc : ∀ j, j < 8 → c' j = c j) : RdS w S c' e := by
  cases e
  unfold RdS at h ⊢
  rw [hc 0 (by omega), hc 1 (by omega), hc 2 (by omega), hc 3 (by omega), hc 4 (by omega), hc 5 (by omega), hc 6 (by omega), hc 7 (by omega)]
  exact h
end Go.Proofs.YtiadbeglhnocoaaGreatDoor
namespace Go.Proofs.YtiadbeglhnocoaaGreatDoor
set_option linter.unusedVariables false
set_option linter.unusedSimpArgs false
open Go.RowKit

theorem own_ne {w : World} {base : Nat} {T : TypeId} {size : Nat} {v : Value} {n : Nat} {xs : List Value} (h : w.ownsRow base T size v n xs) {b : Nat} (hb : b < base) : some b ≠ v.ownBlock := fun e => by
  have := (h.lt b e.symm).1
  omega
/-- What owns a row is a slice, of so many. -/
theorem own_form {w : World} {base : Nat} {T : TypeId} {size : Nat} {v : Value} {n : Nat} {xs : List Value} (h : w.ownsRow base T size v n xs) : ∃ A c, v = .slice A n c := by
  rcases h.2 with ⟨rfl, h0⟩ | ⟨g, cap, cur, hv, _⟩
  · subst h0; exact ⟨none, 0, rfl⟩
  · exact ⟨_, _, hv⟩
/-- What was made from lo on is read as before in what comes later. -/
theorem RdE.up {w w' : World} {lo : Nat} {c : Nat → Option Value} {e : Ex} (h : RdE w (fun b => lo ≤ b ∧ b < w.heap.size) c e) (hb : Below w.heap.size w w') : RdE w' (fun b => lo ≤ b ∧ b < w'.heap.size) c e :=
  RdE.more (fun _ hS => ⟨hS.1, Nat.lt_of_lt_of_le hS.2 hb.size⟩) _ _ (RdE.keep (w' := w') (fun _ hp => hb.cell hp.2) _ _ h)
/-- The expressions of a row of the call's own: seven cells each; what lies behind them is apart from the row. -/
def Kids (T : TypeId) (w : World) (base : Nat) (v : Value) (xs : List Value) (ks : List Ex) : Prop :=
  w.ownsRow base T 7 v ks.length xs ∧ ∀ k e, ks[k]? = some e → RdE w (fun b => base ≤ b ∧ b < w.heap.size ∧ some b ≠ v.ownBlock) (fun j => xs[k * 7 + j]?) e
theorem Kids.none_ (T : TypeId) (w : World) (base : Nat) : Kids T w base (.slice none 0 0) [] [] := ⟨World.ownsRow_nil _ _ _ _, fun k e h => by simp at h⟩
theorem Kids.keep {T : TypeId} {w w' : World} {base : Nat} {v : Value} {xs : List Value} {ks : List Ex} (h : Kids T w base v xs ks) (hb : Below w.heap.size w w') : Kids T w' base v xs ks := by
  refine ⟨h.1.kept (row := none) ⟨hb.os, hb.tape, hb.output, hb.size, fun k hk _ => hb.block k hk⟩ (by cases v.ownBlock <;> simp), fun k e he => ?_⟩
  have h1 := RdE.keep (w' := w') (fun p hp => hb.cell hp.2.1) _ _ (h.2 k e he)
  exact RdE.more (fun b hS => ⟨hS.1, Nat.lt_of_lt_of_le hS.2.1 hb.size, hS.2.2⟩) _ _ h1
/-- A store below the row's base. -/
theorem Kids.set {T : TypeId} {w : World} {base : Nat} {v : Value} {xs : List Value} {ks : List Ex} (h : Kids T w base v xs ks) {p : Addr} (hp : p.block < base) (u : Value) : Kids T (w.setCell p u) base v xs ks := by
  refine ⟨ownsRow_setCell_below h.1 hp u, fun k e he => ?_⟩
  have h1 := RdE.keep (w' := w.setCell p u) (fun q hq => World.cell?_setCell_other w p q u (fun e => by subst e; omega)) _ _ (h.2 k e he)
  exact RdE.more (fun b hS => ⟨hS.1, by simpa [World.setCell] using hS.2.1, hS.2.2⟩) _ _ h1
/-- One more: it was made behind the row, its cells were appended. -/
theorem Kids.snoc {T : TypeId} {w1 w2 : World} {base : Nat} {v v' : Value} {xs cs : List Value} {ks : List Ex} {e : Ex} (h : Kids T w1 base v xs ks) 
    {lo : Nat} (he : RdE w1 (fun b => lo ≤ b ∧ b < w1.heap.size) (fun j => cs[j]?) e) (hlo : base ≤ lo) (hv : ∀ k, v.ownBlock = some k → k < lo)
    (ho : w2.ownsRow base T 7 v' (ks.length + 1) (xs ++ cs)) (hg : w1.grownBy w2 v.ownBlock) (hat : v'.ownBlock = v.ownBlock ∨ ∃ g, v'.ownBlock = some g ∧ w1.heap.size ≤ g) : Kids T w2 base v' (xs ++ cs) (ks ++ [e]) := by
  have hx : xs.length = ks.length * 7 := h.1.1
  have hcell : ∀ p : Addr, p.block < w1.heap.size → some p.block ≠ v.ownBlock → w2.cell? p = w1.cell? p := fun p h1 h2 => hg.cell_far p h1 h2
  have hne : ∀ b, b < w1.heap.size → some b ≠ v.ownBlock → some b ≠ v'.ownBlock := fun b h1 h2 => by
    rcases hat with e | ⟨g, e, hge⟩
    · rw [e]; exact h2
    · rw [e]; intro e2; injection e2 with e2; omega
  refine ⟨by rw [List.length_append, List.length_singleton]; exact ho, fun k u hu => ?_⟩
  by_cases hk : k < ks.length
  · rw [List.getElem?_append_left hk] at hu
    have h1 := RdE.keep (w' := w2) (fun p hp => hcell p hp.2.1 hp.2.2) _ _ (h.2 k u hu)
    have h2 := RdE.more (S' := fun b => base ≤ b ∧ b < w2.heap.size ∧ some b ≠ v'.ownBlock) (fun b hS => ⟨hS.1, Nat.lt_of_lt_of_le hS.2.1 hg.size, hne b hS.2.1 hS.2.2⟩) _ _ h1
    exact h2.cells (fun j hj => by rw [List.getElem?_append_left (by omega)])
  · have hkl : k < (ks ++ [e]).length := (List.getElem?_eq_some_iff.mp hu).1
    rw [List.length_append, List.length_singleton] at hkl
    have hk2 : k = ks.length := by omega
    subst hk2
    have hue : u = e := by simpa using hu.symm
    subst hue
    have hvb : ∀ b, lo ≤ b → some b ≠ v.ownBlock := fun b h1 h2 => by have := hv b h2.symm; omega
    have h1 := RdE.keep (w' := w2) (fun p hp => hcell p hp.2 (hvb _ hp.1)) _ _ he
    have h2 := RdE.more (S' := fun b => base ≤ b ∧ b < w2.heap.size ∧ some b ≠ v'.ownBlock) (fun b hS => ⟨Nat.le_trans hlo hS.1, Nat.lt_of_lt_of_le hS.2 hg.size, hne b hS.2 (hvb b hS.1)⟩) _ _ h1
    exact h2.cells (fun j hj => by rw [List.getElem?_append_right (by omega)]; congr 1; omega)
/-- What they are for whoever reads them. -/
theorem Kids.reads {T : TypeId} {w : World} {base g cap n : Nat} {xs : List Value} {ks : List Ex} (h : Kids T w base (.slice (some ⟨g, 0, none⟩) n cap) xs ks) (hn : n = ks.length) : RdEs w (fun b => base ≤ b ∧ b < w.heap.size) (some ⟨g, 0, none⟩) 0 ks := by
  subst hn
  have hlt := h.1.lt g rfl
  refine RdEs.of_all (fun k e he => ⟨_, _, rfl, hlt, ?_⟩)
  have h1 := RdE.more (S' := fun b => base ≤ b ∧ b < w.heap.size) (fun b hS => ⟨hS.1, hS.2.1⟩) _ _ (h.2 k e he)
  refine h1.cells (fun j hj => ?_)
  have hk : k < ks.length := (List.getElem?_eq_some_iff.mp he).1
  have e0 : 0 + (0 + k) * 7 + j = k * 7 + j := by omega
  rw [e0]
  exact h.1.cellAt (k * 7 + j) (by omega)
theorem Kids.reads' {T : TypeId} {w : World} {base cap n : Nat} {A : Option Addr} {xs : List Value} {ks : List Ex} (h : Kids T w base (.slice A n cap) xs ks) : n = ks.length ∧ RdEs w (fun b => base ≤ b ∧ b < w.heap.size) A 0 ks := by
  rcases h.1.2 with ⟨hv, h0⟩ | ⟨g, c, cur, hv, _⟩
  · injection hv with h1 h2 h3
    have hk : ks = [] := List.length_eq_zero_iff.mp h0
    subst hk
    exact ⟨h2, by unfold RdEs; trivial⟩
  · injection hv with h1 h2 h3
    subst h1
    exact ⟨h2, h.reads h2⟩
/-- Seven cells of a block stored one by one. -/
def put7 (w : World) (b : Nat) (v0 v1 v2 v3 v4 v5 v6 : Value) : World := ((((((w.setCell ⟨b, 0, none⟩ v0).setCell ⟨b, 1, none⟩ v1).setCell ⟨b, 2, none⟩ v2).setCell ⟨b, 3, none⟩ v3).setCell ⟨b, 4, none⟩ v4).setCell ⟨b, 5, none⟩ v5).setCell ⟨b, 6, none⟩ v6
/-- A store into a cell of a block that is known whole. -/
theorem heap_set {w : World} {b : Nat} {cs : Array Value} {T : TypeId} {fr : Nat × Nat} (hb : w.heap[b]? = some (.cells cs T fr)) (j : Nat) (u : Value) : (w.setCell ⟨b, j, none⟩ u).heap[b]? = some (.cells (cs.setIfInBounds j u) T fr) := by
  simp [World.setCell, Array.getElem?_modify, hb]
theorem put7_heap {w : World} {b : Nat} {z0 z1 z2 z3 z4 z5 z6 : Value} {T : TypeId} {fr : Nat × Nat} (h : w.heap[b]? = some (.cells #[z0, z1, z2, z3, z4, z5, z6] T fr)) (v0 v1 v2 v3 v4 v5 v6 : Value) : (put7 w b v0 v1 v2 v3 v4 v5 v6).heap[b]? = some (.cells #[v0, v1, v2, v3, v4, v5, v6] T fr) := by
  have h0 := heap_set h 0 v0
  simp only [List.setIfInBounds_toArray, List.set_cons_zero, List.set_cons_succ] at h0
  have h1 := heap_set h0 1 v1
  simp only [List.setIfInBounds_toArray, List.set_cons_zero, List.set_cons_succ] at h1
  have h2 := heap_set h1 2 v2
  simp only [List.setIfInBounds_toArray, List.set_cons_zero, List.set_cons_succ] at h2
  have h3 := heap_set h2 3 v3
  simp only [List.setIfInBounds_toArray, List.set_cons_zero, List.set_cons_succ] at h3
  have h4 := heap_set h3 4 v4
  simp only [List.setIfInBounds_toArray, List.set_cons_zero, List.set_cons_succ] at h4
  have h5 := heap_set h4 5 v5
  simp only [List.setIfInBounds_toArray, List.set_cons_zero, List.set_cons_succ] at h5
  have h6 := heap_set h5 6 v6
  simp only [List.setIfInBounds_toArray, List.set_cons_zero, List.set_cons_succ] at h6
  exact h6
theorem put7_other {w : World} {b k : Nat} (hk : k ≠ b) (v0 v1 v2 v3 v4 v5 v6 : Value) : (put7 w b v0 v1 v2 v3 v4 v5 v6).heap[k]? = w.heap[k]? := by
  have H : ∀ (w : World) (j : Nat) (u : Value), (w.setCell ⟨b, j, none⟩ u).heap[k]? = w.heap[k]? := fun w j u => Below.heap_setCell w ⟨b, j, none⟩ u k hk
  unfold put7
  simp only [H]
theorem put7_below {w : World} {B b : Nat} (hB : B ≤ b) (v0 v1 v2 v3 v4 v5 v6 : Value) : Below B w (put7 w b v0 v1 v2 v3 v4 v5 v6) := by
  unfold put7
  exact (((((((Below.refl B w).setCell hB _).setCell hB _).setCell hB _).setCell hB _).setCell hB _).setCell hB _).setCell hB _
end Go.Proofs.YtiadbeglhnocoaaGreatDoor
