/-
  graph.Order; graph.Places.
-/
import Derived.Test.YthjlpbglnnebkaaGrF
namespace Go.Proofs.Ythjlpbglnnebkaa
open Go.RowKit
set_option linter.unusedVariables false
set_option linter.unusedSimpArgs false

def orderP (g : List GB) : List Nat := (postP g).reverse
theorem unseen_le (s : List Bool) : unseen s ≤ s.length := List.count_le_length
theorem goP_len {g : List GB} {f : Nat → List Bool → List Nat → Option (List Bool × List Nat)} (hf : ∀ b s o s' o', f b s o = some (s', o') → s.length = g.length → b < g.length → s.getD b false = false → s'.length = g.length ∧ o'.length + unseen s' = o.length + unseen s) :
    ∀ (ts : List Int) (s : List Bool) (o : List Nat) (s' : List Bool) (o' : List Nat), (∀ t ∈ ts, 0 ≤ t ∧ t < g.length) → s.length = g.length → goP f ts s o = some (s', o') → s'.length = g.length ∧ o'.length + unseen s' = o.length + unseen s
  | [], s, o, s', o', _, hs, h => by
    simp [goP] at h
    obtain ⟨rfl, rfl⟩ := h
    exact ⟨hs, rfl⟩
  | t :: ts, s, o, s', o', ht, hs, h => by
    unfold goP at h
    have h0 := ht t (by simp)
    have hts : ∀ t ∈ ts, 0 ≤ t ∧ t < g.length := fun x hx => ht x (List.mem_cons_of_mem _ hx)
    cases hq : s.getD t.toNat false with
    | true => rw [hq, if_pos rfl] at h; exact goP_len hf ts s o s' o' hts hs h
    | false =>
      rw [hq, if_neg (by simp)] at h
      cases hw : f t.toNat s o with
      | none => rw [hw] at h; cases h
      | some r =>
        obtain ⟨s1, o1⟩ := r
        rw [hw] at h
        obtain ⟨h1, h2⟩ := hf _ _ _ _ _ hw hs (by omega) hq
        obtain ⟨h3, h4⟩ := goP_len hf ts s1 o1 s' o' hts h1 h
        exact ⟨h3, by omega⟩
theorem walkP_len {g : List GB} (hg : tosOk g) : ∀ (k b : Nat) (s : List Bool) (o : List Nat) (s' : List Bool) (o' : List Nat), walkP g k b s o = some (s', o') → s.length = g.length → b < g.length → s.getD b false = false → s'.length = g.length ∧ o'.length + unseen s' = o.length + unseen s
  | 0, b, s, o, s', o', h, _, _, _ => by simp [walkP] at h
  | k + 1, b, s, o, s', o', h, hs, hb, hq => by
    unfold walkP at h
    cases hw : goP (walkP g k) (tosG g b) (s.set b true) o with
    | none => rw [hw] at h; cases h
    | some r =>
      obtain ⟨s1, o1⟩ := r
      rw [hw] at h
      simp only [Option.some.injEq, Prod.mk.injEq] at h
      obtain ⟨rfl, rfl⟩ := h
      have h1 := unseen_set s b (by omega) hq
      obtain ⟨h2, h3⟩ := goP_len (walkP_len hg k) (tosG g b) (s.set b true) o s1 o1 (fun t ht => hg b t ht) (by simpa using hs) hw
      exact ⟨h2, by simp; omega⟩
theorem postP_len (g : List GB) : (postP g).length ≤ g.length := by
  cases h : wholeG g with
  | false => unfold postP; rw [h]; simp
  | true =>
    obtain ⟨s', h1, _⟩ := postP_run h
    obtain ⟨hp, _⟩ := wholeG_all h
    have := (walkP_len (tosOk_of h) _ _ _ _ _ _ h1 (by simp) hp (by simp [List.getD, hp])).2
    have h2 := unseen_le (List.replicate g.length false)
    simp at this h2
    omega
theorem natsV_rev (l : List Nat) : (natsV l).reverse = natsV l.reverse := by simp [natsV]
theorem natsV_int (l : List Nat) : ∀ u ∈ natsV l, ∃ q, u = Value.int .i64 q := fun u hu => by
  simp [natsV] at hu
  obtain ⟨a, _, rfl⟩ := hu
  exact ⟨_, rfl⟩

end Go.Proofs.Ythjlpbglnnebkaa
