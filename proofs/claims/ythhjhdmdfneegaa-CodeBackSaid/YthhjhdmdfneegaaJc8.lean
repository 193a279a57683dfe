/-
  How blocks are left: the walk itself.
  graph.Post: how blocks are left.
  A row is reversed.
  graph.Order; graph.Places.
-/
import Derived.Test.YthhjhdmdfneegaaJc1
namespace Go.Proofs.Ythhjhdmdfneegaa
set_option linter.unusedVariables false
set_option linter.unusedSimpArgs false
open Go.RowKit

theorem addr0 (a : Addr) : a.add 0 = a := by simp [Addr.add]
theorem tosG_at {g : List GB} {b : Nat} (hb : b < g.length) : tosG g b = g[b].to_ := by simp [tosG, hb]
theorem eqb_false {a b : Nat} (h : a ≠ b) : ((a : Int) == (b : Int)) = false := by
  have h' : (a : Int) ≠ (b : Int) := by omega
  exact beq_eq_false_iff_ne.2 h'
theorem gr_len {w : World} {base : Nat} {T : TypeId} {z : Nat} {A : Option Addr} {m c n : Nat} {xs : List Value} (h : w.ownsRow base T z (.slice A m c) n xs) : m ≤ c ∧ m = n := by
  rcases h.2 with ⟨hv, rfl⟩ | ⟨g, cap, cur, hv, _, _, hnc, _⟩
  · injection hv with e1 e2 e3
    omega
  · injection hv with e1 e2 e3
    omega

/-- What is known of the blocks that are entered. -/
structure PIn (g : List GB) (st : List (Nat × Nat)) (left : List Nat) (ent : List Bool) : Prop where
  len : ent.length = g.length
  cnt : st.length + left.length + unseen ent = g.length
  lt : ∀ p ∈ st, p.1 < g.length ∧ p.2 ≤ (tosG g p.1).length
theorem PIn.leave {g : List GB} {b q : Nat} {st : List (Nat × Nat)} {left : List Nat} {ent : List Bool} (h : PIn g ((b, q) :: st) left ent) : PIn g st (left ++ [b]) ent :=
  ⟨h.len, by have := h.cnt; simp at this ⊢; omega, fun p hp => h.lt p (List.mem_cons_of_mem _ hp)⟩
theorem PIn.look {g : List GB} {b q : Nat} {st : List (Nat × Nat)} {left : List Nat} {ent : List Bool} (h : PIn g ((b, q) :: st) left ent) (hq : q < (tosG g b).length) : PIn g ((b, q + 1) :: st) left ent :=
  ⟨h.len, by have := h.cnt; simp at this ⊢; omega, fun p hp => by
    rcases List.mem_cons.1 hp with rfl | hp
    · exact ⟨(h.lt (b, q) (by simp)).1, hq⟩
    · exact h.lt p (List.mem_cons_of_mem _ hp)⟩
theorem PIn.enter {g : List GB} {t : Nat} {st : List (Nat × Nat)} {left : List Nat} {ent : List Bool} (h : PIn g st left ent) (ht : t < g.length) (hu : ent.getD t false = false) : PIn g ((t, 0) :: st) left (ent.set t true) :=
  ⟨by simpa using h.len, by have := h.cnt; have := unseen_set ent t (by rw [h.len]; exact ht) hu; simp; omega, fun p hp => by
    rcases List.mem_cons.1 hp with rfl | hp
    · exact ⟨ht, Nat.zero_le _⟩
    · exact h.lt p hp⟩
theorem PIn.few {g : List GB} {st : List (Nat × Nat)} {left : List Nat} {ent : List Bool} (h : PIn g st left ent) : st.length + left.length ≤ g.length := by have := h.cnt; omega

end Go.Proofs.Ythhjhdmdfneegaa
namespace Go.Proofs.Ythhjhdmdfneegaa
set_option linter.unusedVariables false
set_option linter.unusedSimpArgs false
open Go.RowKit

end Go.Proofs.Ythhjhdmdfneegaa
namespace Go.Proofs.Ythhjhdmdfneegaa
set_option linter.unusedVariables false
set_option linter.unusedSimpArgs false
open Go.RowKit

/-- The first i and the last i exchanged. -/
def revTo (xs : List Value) (i : Nat) : List Value := xs.mapIdx fun j x => if j < i ∨ xs.length - 1 - i < j then xs.getD (xs.length - 1 - j) x else x
theorem revTo_len (xs : List Value) (i : Nat) : (revTo xs i).length = xs.length := by simp [revTo]
theorem revTo_zero (xs : List Value) : revTo xs 0 = xs := by
  apply List.ext_getElem (by simp [revTo])
  intro j h1 h2
  simp [revTo]
  intro h
  omega
theorem revTo_at (xs : List Value) (i j : Nat) (h : ¬ (j < i ∨ xs.length - 1 - i < j)) : (revTo xs i)[j]? = xs[j]? := by
  unfold revTo
  rw [List.getElem?_mapIdx]
  cases hx : xs[j]? with
  | none => rfl
  | some x => simp [h]
theorem revTo_step (xs : List Value) (i : Nat) (x y : Value) (hi : 2 * i + 1 < xs.length) (hx : xs[i]? = some x) (hy : xs[xs.length - 1 - i]? = some y) : ((revTo xs i).set i y).set (xs.length - 1 - i) x = revTo xs (i + 1) := by
  apply List.ext_getElem?
  intro j
  rw [List.getElem?_set, List.getElem?_set]
  simp only [List.length_set, revTo_len]
  unfold revTo
  rw [List.getElem?_mapIdx, List.getElem?_mapIdx]
  by_cases h1 : xs.length - 1 - i = j
  · subst h1
    rw [if_pos rfl, if_pos (by omega), hy]
    simp only [Option.map_some]
    rw [if_pos (by right; omega), show xs.length - 1 - (xs.length - 1 - i) = i by omega, List.getD, hx]
    rfl
  · rw [if_neg h1]
    by_cases h2 : i = j
    · subst h2
      rw [if_pos rfl, if_pos (by omega), hx]
      simp only [Option.map_some]
      rw [if_pos (by left; omega), List.getD, hy]
      rfl
    · rw [if_neg h2]
      cases xs[j]? with
      | none => rfl
      | some z =>
        simp only [Option.map_some]
        have e : (j < i ∨ xs.length - 1 - i < j) ↔ (j < i + 1 ∨ xs.length - 1 - (i + 1) < j) := by omega
        by_cases h3 : j < i ∨ xs.length - 1 - i < j
        · rw [if_pos h3, if_pos (e.1 h3)]
        · rw [if_neg h3, if_neg (fun h => h3 (e.2 h))]
theorem revTo_end (xs : List Value) (i : Nat) (hi : xs.length ≤ 2 * i + 1) : revTo xs i = xs.reverse := by
  apply List.ext_getElem? 
  intro j
  unfold revTo
  rw [List.getElem?_mapIdx]
  by_cases hj : j < xs.length
  · rw [List.getElem?_reverse hj, List.getElem?_eq_getElem hj]
    simp only [Option.map_some]
    by_cases h : j < i ∨ xs.length - 1 - i < j
    · rw [if_pos h, List.getD, List.getElem?_eq_getElem (by omega : xs.length - 1 - j < xs.length)]
      rfl
    · rw [if_neg h]
      have : xs.length - 1 - j = j := by omega
      rw [this, List.getElem?_eq_getElem hj]
  · rw [List.getElem?_eq_none (by omega), List.getElem?_eq_none (by rw [List.length_reverse]; omega)]
    rfl

theorem grown_tr {a b c : World} {row : Option Nat} (h : a.grownBy b row) (k : b.grownBy c row) : a.grownBy c row :=
  ⟨k.os.trans h.os, k.tape.trans h.tape, k.output.trans h.output, Nat.le_trans h.size k.size, fun i hi hn => (k.block i (Nat.lt_of_lt_of_le hi h.size) hn).trans (h.block i hi hn)⟩
theorem grown_dr {a b : World} {row : Option Nat} (h : a.grownBy b row) : a.grownBy b.drew row := ⟨h.os, h.tape, h.output, h.size, h.block⟩

end Go.Proofs.Ythhjhdmdfneegaa
namespace Go.Proofs.Ythhjhdmdfneegaa
set_option linter.unusedVariables false
set_option linter.unusedSimpArgs false
open Go.RowKit

def orderP (g : List GB) : List Nat := (postP g).reverse
theorem unseen_le (s : List Bool) : unseen s ≤ s.length := List.count_le_length
theorem goP_len {g : List GB} {f : Nat → List Bool → List Nat → Option (List Bool × List Nat)} (hf : ∀ b s o s' o', f b s o = some (s', o') → s.length = g.length → b < g.length → s.getD b false = false → s'.length = g.length ∧ o'.length + unseen s' = o.length + unseen s) :
    ∀ (ts : List Int) (s : List Bool) (o : List Nat) (s' : List Bool) (o' : List Nat), (∀ t ∈ ts, 0 ≤ t ∧ t < g.length) → s.length = g.length → goP f ts s o = some (s', o') → s'.length = g.length ∧ o'.length + unseen s' = o.length + unseen s
  | [], s, o, s', o', _, hs, h => by
    simp [goP] at h
    obtain ⟨rfl, rfl⟩ := h
    exact ⟨hs, rfl⟩
  | t :: ts, s, o, s', o', ht, hs, h => by
    unfold goP at h
    have h0 := ht t (by simp)
    have hts : ∀ t ∈ ts, 0 ≤ t ∧ t < g.length := fun x hx => ht x (List.mem_cons_of_mem _ hx)
    cases hq : s.getD t.toNat false with
    | true => rw [hq, if_pos rfl] at h; exact goP_len hf ts s o s' o' hts hs h
    | false =>
      rw [hq, if_neg (by simp)] at h
      cases hw : f t.toNat s o with
      | none => rw [hw] at h; cases h
      | some r =>
        obtain ⟨s1, o1⟩ := r
        rw [hw] at h
        obtain ⟨h1, h2⟩ := hf _ _ _ _ _ hw hs (by omega) hq
        obtain ⟨h3, h4⟩ := goP_len hf ts s1 o1 s' o' hts h1 h
        exact ⟨h3, by omega⟩
theorem walkP_len {g : List GB} (hg : tosOk g) : ∀ (k b : Nat) (s : List Bool) (o : List Nat) (s' : List Bool) (o' : List Nat), walkP g k b s o = some (s', o') → s.length = g.length → b < g.length → s.getD b false = false → s'.length = g.length ∧ o'.length + unseen s' = o.length + unseen s
  | 0, b, s, o, s', o', h, _, _, _ => by simp [walkP] at h
  | k + 1, b, s, o, s', o', h, hs, hb, hq => by
    unfold walkP at h
    cases hw : goP (walkP g k) (tosG g b) (s.set b true) o with
    | none => rw [hw] at h; cases h
    | some r =>
      obtain ⟨s1, o1⟩ := r
      rw [hw] at h
      simp only [Option.some.injEq, Prod.mk.injEq] at h
      obtain ⟨rfl, rfl⟩ := h
      have h1 := unseen_set s b (by omega) hq
      obtain ⟨h2, h3⟩ := goP_len (walkP_len hg k) (tosG g b) (s.set b true) o s1 o1 (fun t ht => hg b t ht) (by simpa using hs) hw
      exact ⟨h2, by simp; omega⟩
theorem postP_len (g : List GB) : (postP g).length ≤ g.length := by
  cases h : wholeG g with
  | false => unfold postP; rw [h]; simp
  | true =>
    obtain ⟨s', h1, _⟩ := postP_run h
    obtain ⟨hp, _⟩ := wholeG_all h
    have := (walkP_len (tosOk_of h) _ _ _ _ _ _ h1 (by simp) hp (by simp [List.getD, hp])).2
    have h2 := unseen_le (List.replicate g.length false)
    simp at this h2
    omega
theorem natsV_rev (l : List Nat) : (natsV l).reverse = natsV l.reverse := by simp [natsV]
theorem natsV_int (l : List Nat) : ∀ u ∈ natsV l, ∃ q, u = Value.int .i64 q := fun u hu => by
  simp [natsV] at hu
  obtain ⟨a, _, rfl⟩ := hu
  exact ⟨_, rfl⟩

end Go.Proofs.Ythhjhdmdfneegaa
