/-
  How blocks are left: the walk.
-/
import Derived.Test.YthjlpbglnnebkaaGrP
namespace Go.Proofs.Ythjlpbglnnebkaa
open Go.RowKit
set_option linter.unusedVariables false
set_option linter.unusedSimpArgs false

theorem gr_apart {w : World} {b1 b2 : Nat} {T1 T2 : TypeId} {z1 z2 n1 n2 : Nat} {v1 v2 : Value} {xs ys : List Value} (h : w.ownsRow b1 T1 z1 v1 n1 xs) (k : w.ownsRow b2 T2 z2 v2 n2 ys) (hne : T1 ≠ T2) : v1.ownBlock = none ∨ v1.ownBlock ≠ v2.ownBlock := by
  rcases h.2 with ⟨rfl, _⟩ | ⟨g, cap, cur, rfl, _, hg, _⟩
  · exact .inl rfl
  · refine .inr (fun e => ?_)
    rcases k.2 with ⟨rfl, _⟩ | ⟨g', cap', cur', rfl, _, hg', _⟩
    · simp [Value.ownBlock] at e
    · simp [Value.ownBlock] at e
      subst e
      rw [hg] at hg'
      simp at hg'
      exact hne hg'.2
theorem gr_slice {w : World} {base : Nat} {T : TypeId} {z : Nat} {v : Value} {n : Nat} {xs : List Value} (h : w.ownsRow base T z v n xs) : ∃ A c, v = .slice A n c := by
  rcases h.2 with ⟨rfl, h0⟩ | ⟨g, cap, cur, hv, _⟩
  · subst h0; exact ⟨none, 0, rfl⟩
  · exact ⟨_, _, hv⟩
theorem gr_some {w : World} {base : Nat} {T : TypeId} {z : Nat} {A : Option Addr} {m c n : Nat} {xs : List Value} (h : w.ownsRow base T z (.slice A m c) n xs) (hn : 0 < n) : ∃ g, A = some ⟨g, 0, none⟩ ∧ m = n ∧ base ≤ g ∧ g < w.heap.size := by
  obtain ⟨g, cap, hv, hb, hl⟩ := h.form hn
  injection hv with e1 e2 e3
  exact ⟨g, e1, e2, hb, hl⟩
/-- The row without what stands last. -/
theorem gr_cut {w : World} {base : Nat} {T : TypeId} {z g n c : Nat} {xs : List Value} (h : w.ownsRow base T z (.slice (some ⟨g, 0, none⟩) n c) n xs) (m : Nat) (hm : m ≤ n) : w.ownsRow base T z (.slice (some ⟨g, 0, none⟩) m c) m (xs.take (m * z)) := by
  rcases h.2 with ⟨h', _⟩ | ⟨g', cap, cur, h', hb, hg, hnc, hcm, hcs, ht⟩
  · simp at h'
  · simp only [Value.slice.injEq, Option.some.injEq, Addr.mk.injEq, and_true, true_and] at h'
    obtain ⟨rfl, rfl⟩ := h'
    have hle : m * z ≤ n * z := Nat.mul_le_mul_right z hm
    refine ⟨by rw [List.length_take, h.1]; omega, .inr ⟨g, c, cur, rfl, hb, hg, by omega, hcm, hcs, ?_⟩⟩
    rw [← ht, List.take_take, Nat.min_eq_left hle]
theorem gr_mono {w : World} {base base' : Nat} {T : TypeId} {z n : Nat} {v : Value} {xs : List Value} (h : w.ownsRow base T z v n xs) (hb : base' ≤ base) : w.ownsRow base' T z v n xs := by
  refine ⟨h.1, ?_⟩
  rcases h.2 with h1 | ⟨g, cap, cur, hv, hg, rest⟩
  · exact .inl h1
  · exact .inr ⟨g, cap, cur, hv, by omega, rest⟩
theorem infoIntG : (Try.prog.info? 3).map (fun i => (i.zero, i.size, i.bytes)) = some (some (.int .i64 0), 1, 8) := by kernel_rfl
theorem infoBoolG : (Try.prog.info? 4).map (fun i => (i.zero, i.size, i.bytes)) = some (some (.bool false), 1, 1) := by kernel_rfl
def natsV (l : List Nat) : List Value := l.map fun (b : Nat) => Value.int .i64 (b : Int)
def boolsV (l : List Bool) : List Value := l.map Value.bool
def wayV : List (Nat × Nat) → List Value
  | [] => []
  | p :: l => wayV l ++ [.int .i64 (p.1 : Int), .int .i64 (p.2 : Int)]
theorem wayV_len : ∀ l : List (Nat × Nat), (wayV l).length = l.length * 2
  | [] => rfl
  | p :: l => by simp [wayV, wayV_len l]; omega
theorem boolsV_set (l : List Bool) (b : Nat) (x : Bool) : (boolsV l).set b (.bool x) = boolsV (l.set b x) := by simp [boolsV, List.map_set]
theorem boolsV_at (l : List Bool) (b : Nat) (h : b < l.length) : (boolsV l)[b]? = some (.bool (l.getD b false)) := by simp [boolsV, List.getD, h]
theorem madeBool (n : Nat) : (madeCells #[Value.bool false] n).toList = boolsV (List.replicate n false) := by
  rw [toList_madeCells_one]
  simp [boolsV]
theorem madeInt (n : Nat) : (madeCells #[Value.int .i64 0] n).toList = List.replicate n (Value.int .i64 0) := by
  rw [toList_madeCells_one]
end Go.Proofs.Ythjlpbglnnebkaa
