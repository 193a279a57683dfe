/-
  How blocks are left: the walk itself.
-/
import Derived.Test.YthjlpbglnnebkaaGrC
namespace Go.Proofs.Ythjlpbglnnebkaa
open Go.RowKit
set_option linter.unusedVariables false
set_option linter.unusedSimpArgs false

theorem addr0 (a : Addr) : a.add 0 = a := by simp [Addr.add]
theorem tosG_at {g : List GB} {b : Nat} (hb : b < g.length) : tosG g b = g[b].to_ := by simp [tosG, hb]
theorem eqb_false {a b : Nat} (h : a ≠ b) : ((a : Int) == (b : Int)) = false := by
  have h' : (a : Int) ≠ (b : Int) := by omega
  exact beq_eq_false_iff_ne.2 h'
theorem gr_len {w : World} {base : Nat} {T : TypeId} {z : Nat} {A : Option Addr} {m c n : Nat} {xs : List Value} (h : w.ownsRow base T z (.slice A m c) n xs) : m ≤ c ∧ m = n := by
  rcases h.2 with ⟨hv, rfl⟩ | ⟨g, cap, cur, hv, _, _, hnc, _⟩
  · injection hv with e1 e2 e3
    omega
  · injection hv with e1 e2 e3
    omega

/-- What is known of the blocks that are entered. -/
structure PIn (g : List GB) (st : List (Nat × Nat)) (left : List Nat) (ent : List Bool) : Prop where
  len : ent.length = g.length
  cnt : st.length + left.length + unseen ent = g.length
  lt : ∀ p ∈ st, p.1 < g.length ∧ p.2 ≤ (tosG g p.1).length
theorem PIn.leave {g : List GB} {b q : Nat} {st : List (Nat × Nat)} {left : List Nat} {ent : List Bool} (h : PIn g ((b, q) :: st) left ent) : PIn g st (left ++ [b]) ent :=
  ⟨h.len, by have := h.cnt; simp at this ⊢; omega, fun p hp => h.lt p (List.mem_cons_of_mem _ hp)⟩
theorem PIn.look {g : List GB} {b q : Nat} {st : List (Nat × Nat)} {left : List Nat} {ent : List Bool} (h : PIn g ((b, q) :: st) left ent) (hq : q < (tosG g b).length) : PIn g ((b, q + 1) :: st) left ent :=
  ⟨h.len, by have := h.cnt; simp at this ⊢; omega, fun p hp => by
    rcases List.mem_cons.1 hp with rfl | hp
    · exact ⟨(h.lt (b, q) (by simp)).1, hq⟩
    · exact h.lt p (List.mem_cons_of_mem _ hp)⟩
theorem PIn.enter {g : List GB} {t : Nat} {st : List (Nat × Nat)} {left : List Nat} {ent : List Bool} (h : PIn g st left ent) (ht : t < g.length) (hu : ent.getD t false = false) : PIn g ((t, 0) :: st) left (ent.set t true) :=
  ⟨by simpa using h.len, by have := h.cnt; have := unseen_set ent t (by rw [h.len]; exact ht) hu; simp; omega, fun p hp => by
    rcases List.mem_cons.1 hp with rfl | hp
    · exact ⟨ht, Nat.zero_le _⟩
    · exact h.lt p hp⟩
theorem PIn.few {g : List GB} {st : List (Nat × Nat)} {left : List Nat} {ent : List Bool} (h : PIn g st left ent) : st.length + left.length ≤ g.length := by have := h.cnt; omega

end Go.Proofs.Ythjlpbglnnebkaa
