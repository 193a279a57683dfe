/-
  A row of statements that the call itself makes: one more of them; what each one's kids own.
-/
import Derived.Test.YtpnpjlggikdinaaTrK1
namespace Go.Proofs.Ytpnpjlggikdinaa
open Go.RowKit

theorem RdEs.up {w w' : World} {lo : Nat} {A : Option Addr} {l : List Ex} (h : RdEs w (fun b => lo ≤ b ∧ b < w.heap.size) A 0 l) (hb : Below w.heap.size w w') : RdEs w' (fun b => lo ≤ b ∧ b < w'.heap.size) A 0 l :=
  RdEs.more (fun _ hS => ⟨hS.1, Nat.lt_of_lt_of_le hS.2 hb.size⟩) _ _ _ (RdEs.keep (w' := w') (fun _ hp => hb.cell hp.2) _ _ _ h)
theorem RdSs.up {w w' : World} {lo : Nat} {A : Option Addr} {l : List St} (h : RdSs w (fun b => lo ≤ b ∧ b < w.heap.size) A 0 l) (hb : Below w.heap.size w w') : RdSs w' (fun b => lo ≤ b ∧ b < w'.heap.size) A 0 l :=
  RdSs.more (fun _ hS => ⟨hS.1, Nat.lt_of_lt_of_le hS.2 hb.size⟩) _ _ _ (RdSs.keep (w' := w') (fun _ hp => hb.cell hp.2) _ _ _ h)
theorem RdS.up {w w' : World} {lo : Nat} {c : Nat → Option Value} {e : St} (h : RdS w (fun b => lo ≤ b ∧ b < w.heap.size) c e) (hb : Below w.heap.size w w') : RdS w' (fun b => lo ≤ b ∧ b < w'.heap.size) c e :=
  RdS.more (fun _ hS => ⟨hS.1, Nat.lt_of_lt_of_le hS.2 hb.size⟩) _ _ (RdS.keep (w' := w') (fun _ hp => hb.cell hp.2) _ _ h)
/-- A store into a block below lo. -/
theorem RdEs.set {w : World} {lo : Nat} {A : Option Addr} {l : List Ex} (h : RdEs w (fun b => lo ≤ b ∧ b < w.heap.size) A 0 l) {p : Addr} (hp : p.block < lo) (u : Value) : RdEs (w.setCell p u) (fun b => lo ≤ b ∧ b < (w.setCell p u).heap.size) A 0 l :=
  RdEs.more (fun _ hS => ⟨hS.1, by simpa [World.setCell] using hS.2⟩) _ _ _ (RdEs.keep (w' := w.setCell p u) (fun q hq => World.cell?_setCell_other w p q u (fun e => by subst e; omega)) _ _ _ h)
theorem RdSs.set {w : World} {lo : Nat} {A : Option Addr} {l : List St} (h : RdSs w (fun b => lo ≤ b ∧ b < w.heap.size) A 0 l) {p : Addr} (hp : p.block < lo) (u : Value) : RdSs (w.setCell p u) (fun b => lo ≤ b ∧ b < (w.setCell p u).heap.size) A 0 l :=
  RdSs.more (fun _ hS => ⟨hS.1, by simpa [World.setCell] using hS.2⟩) _ _ _ (RdSs.keep (w' := w.setCell p u) (fun q hq => World.cell?_setCell_other w p q u (fun e => by subst e; omega)) _ _ _ h)
/-- What is owned goes on being owned. -/
theorem own_keep {w w' : World} {B : Nat} {T : TypeId} {z n : Nat} {v : Value} {xs : List Value} (h : w.ownsRow B T z v n xs) (hb : Below w.heap.size w w') : w'.ownsRow B T z v n xs :=
  h.kept (row := none) ⟨hb.os, hb.tape, hb.output, hb.size, fun k hk _ => hb.block k hk⟩ (by cases v.ownBlock <;> simp)
theorem own_mono {w : World} {B B' : Nat} {T : TypeId} {z n : Nat} {v : Value} {xs : List Value} (h : w.ownsRow B T z v n xs) (hB : B' ≤ B) : w.ownsRow B' T z v n xs := by
  refine ⟨h.1, ?_⟩
  rcases h.2 with h1 | ⟨g, cap, cur, hv, hg, hr⟩
  · exact Or.inl h1
  · exact Or.inr ⟨g, cap, cur, hv, Nat.le_trans hB hg, hr⟩
/-- Rows of two types lie in two blocks. -/
theorem own_apart {w : World} {B B' : Nat} {T T' : TypeId} {z z' n n' : Nat} {v v' : Value} {xs xs' : List Value} (h : w.ownsRow B T z v n xs) (h' : w.ownsRow B' T' z' v' n' xs') (hT : T ≠ T') {g : Nat} (hg : v.ownBlock = some g) : v'.ownBlock ≠ some g := fun e => by
  rcases h.2 with ⟨rfl, _⟩ | ⟨g1, c1, cur1, rfl, _, hg1, _⟩
  · simp [Value.ownBlock] at hg
  · rcases h'.2 with ⟨rfl, _⟩ | ⟨g2, c2, cur2, rfl, _, hg2, _⟩
    · simp [Value.ownBlock] at e
    · simp only [Value.ownBlock, Option.some.injEq] at hg e
      subst hg
      subst e
      rw [hg1] at hg2
      simp only [Option.some.injEq, Obj.cells.injEq] at hg2
      exact hT hg2.2.1

/-- The kids in this cell are a row of the call's own. -/
def OwnK (T : TypeId) (w : World) (base : Nat) (c : Option Value) : Prop := ∃ kv n kxs, c = some kv ∧ w.ownsRow base T 7 kv n kxs
theorem OwnK.keep {T : TypeId} {w w' : World} {base : Nat} {c : Option Value} (h : OwnK T w base c) (hb : Below w.heap.size w w') : OwnK T w' base c := by
  obtain ⟨kv, n, kxs, hc, ho⟩ := h
  exact ⟨kv, n, kxs, hc, own_keep ho hb⟩
/-- The statements of a row of the call's own: eight cells each; what lies behind them is apart from the row. -/
def Stms (T Tx : TypeId) (w : World) (base : Nat) (v : Value) (xs : List Value) (ss : List St) : Prop :=
  w.ownsRow base T 8 v ss.length xs ∧ ∀ k e, ss[k]? = some e → RdS w (fun b => base ≤ b ∧ b < w.heap.size ∧ some b ≠ v.ownBlock) (fun j => xs[k * 8 + j]?) e ∧ OwnK Tx w base (xs[k * 8 + 5]?)
theorem Stms.keep {T Tx : TypeId} {w w' : World} {base : Nat} {v : Value} {xs : List Value} {ss : List St} (h : Stms T Tx w base v xs ss) (hb : Below w.heap.size w w') : Stms T Tx w' base v xs ss := by
  refine ⟨own_keep h.1 hb, fun k e he => ⟨?_, (h.2 k e he).2.keep hb⟩⟩
  have h1 := RdS.keep (w' := w') (fun p hp => hb.cell hp.2.1) _ _ (h.2 k e he).1
  exact RdS.more (fun b hS => ⟨hS.1, Nat.lt_of_lt_of_le hS.2.1 hb.size, hS.2.2⟩) _ _ h1
/-- An empty row that is not nil. -/
theorem Stms.none_ {T Tx : TypeId} {w : World} {base g : Nat} (hg : w.heap[g]? = some (.cells #[] T (0, 0))) (hb : base ≤ g) : Stms T Tx w base (.slice (some ⟨g, 0, none⟩) 0 0) [] [] := by
  refine ⟨⟨rfl, Or.inr ⟨g, 0, #[], rfl, hb, hg, Nat.le_refl _, by unfold maxLen; omega, rfl, rfl⟩⟩, fun k e h => by simp at h⟩
/-- One more. -/
theorem Stms.snoc {T Tx : TypeId} (hT : Tx ≠ T) {w1 w2 : World} {base : Nat} {v v' : Value} {xs cs : List Value} {ss : List St} {e : St} (h : Stms T Tx w1 base v xs ss)
    {lo : Nat} (he : RdS w1 (fun b => lo ≤ b ∧ b < w1.heap.size) (fun j => cs[j]?) e) (hk : OwnK Tx w1 lo (cs[5]?)) (hlo : base ≤ lo) (hv : ∀ k, v.ownBlock = some k → k < lo)
    (ho : w2.ownsRow base T 8 v' (ss.length + 1) (xs ++ cs)) (hg : w1.grownBy w2 v.ownBlock) (hat : v'.ownBlock = v.ownBlock ∨ ∃ g, v'.ownBlock = some g ∧ w1.heap.size ≤ g) : Stms T Tx w2 base v' (xs ++ cs) (ss ++ [e]) := by
  have hx : xs.length = ss.length * 8 := h.1.1
  have hcell : ∀ p : Addr, p.block < w1.heap.size → some p.block ≠ v.ownBlock → w2.cell? p = w1.cell? p := fun p h1 h2 => hg.cell_far p h1 h2
  have hne : ∀ b, b < w1.heap.size → some b ≠ v.ownBlock → some b ≠ v'.ownBlock := fun b h1 h2 => by
    rcases hat with e | ⟨g, e, hge⟩
    · rw [e]; exact h2
    · rw [e]; intro e2; injection e2 with e2; omega
  have hown : ∀ {B : Nat} {kv : Value} {n : Nat} {kxs : List Value}, w1.ownsRow B Tx 7 kv n kxs → w2.ownsRow B Tx 7 kv n kxs := fun {B kv n kxs} hkv => by
    refine hkv.kept hg ?_
    cases hvb : v.ownBlock with
    | none => cases kv.ownBlock <;> simp
    | some g => exact Or.inr (fun e => own_apart hkv h.1 hT e hvb)
  refine ⟨by rw [List.length_append, List.length_singleton]; exact ho, fun k u hu => ?_⟩
  by_cases hk' : k < ss.length
  · rw [List.getElem?_append_left hk'] at hu
    have h1 := RdS.keep (w' := w2) (fun p hp => hcell p hp.2.1 hp.2.2) _ _ (h.2 k u hu).1
    have h2 := RdS.more (S' := fun b => base ≤ b ∧ b < w2.heap.size ∧ some b ≠ v'.ownBlock) (fun b hS => ⟨hS.1, Nat.lt_of_lt_of_le hS.2.1 hg.size, hne b hS.2.1 hS.2.2⟩) _ _ h1
    refine ⟨h2.cells (fun j hj => by rw [List.getElem?_append_left (by omega)]), ?_⟩
    obtain ⟨kv, n, kxs, hc, hkv⟩ := (h.2 k u hu).2
    exact ⟨kv, n, kxs, by rw [List.getElem?_append_left (by omega)]; exact hc, hown hkv⟩
  · have hkl : k < (ss ++ [e]).length := (List.getElem?_eq_some_iff.mp hu).1
    rw [List.length_append, List.length_singleton] at hkl
    have hk2 : k = ss.length := by omega
    subst hk2
    have hue : u = e := by simpa using hu.symm
    subst hue
    have hvb : ∀ b, lo ≤ b → some b ≠ v.ownBlock := fun b h1 h2 => by have := hv b h2.symm; omega
    have h1 := RdS.keep (w' := w2) (fun p hp => hcell p hp.2 (hvb _ hp.1)) _ _ he
    have h2 := RdS.more (S' := fun b => base ≤ b ∧ b < w2.heap.size ∧ some b ≠ v'.ownBlock) (fun b hS => ⟨Nat.le_trans hlo hS.1, Nat.lt_of_lt_of_le hS.2 hg.size, hne b hS.2 (hvb b hS.1)⟩) _ _ h1
    refine ⟨h2.cells (fun j hj => by rw [List.getElem?_append_right (by omega)]; congr 1; omega), ?_⟩
    obtain ⟨kv, n, kxs, hc, hkv⟩ := hk
    refine ⟨kv, n, kxs, ?_, own_mono (hown hkv) hlo⟩
    rw [List.getElem?_append_right (by omega), show ss.length * 8 + 5 - xs.length = 5 by omega]
    exact hc
/-- What they are for whoever reads them. -/
theorem Stms.reads {T Tx : TypeId} {w : World} {base cap n : Nat} {A : Option Addr} {xs : List Value} {ss : List St} (h : Stms T Tx w base (.slice A n cap) xs ss) : n = ss.length ∧ RdSs w (fun b => base ≤ b ∧ b < w.heap.size) A 0 ss := by
  rcases h.1.2 with ⟨hv, h0⟩ | ⟨g, c, cur, hv, _⟩
  · injection hv with h1 h2 h3
    have hk : ss = [] := List.length_eq_zero_iff.mp h0
    subst hk
    exact ⟨h2, by unfold RdSs; trivial⟩
  · injection hv with h1 h2 h3
    subst h1
    subst h2
    have hlt := h.1.lt g rfl
    refine ⟨rfl, RdSs.of_all (fun k e he => ⟨_, _, rfl, hlt, ?_⟩)⟩
    have h1 := RdS.more (S' := fun b => base ≤ b ∧ b < w.heap.size) (fun b hS => ⟨hS.1, hS.2.1⟩) _ _ (h.2 k e he).1
    refine h1.cells (fun j hj => ?_)
    have hk : k < ss.length := (List.getElem?_eq_some_iff.mp he).1
    have e0 : 0 + (0 + k) * 8 + j = k * 8 + j := by omega
    rw [e0]
    exact h.1.cellAt (k * 8 + j) (by omega)
end Go.Proofs.Ytpnpjlggikdinaa
