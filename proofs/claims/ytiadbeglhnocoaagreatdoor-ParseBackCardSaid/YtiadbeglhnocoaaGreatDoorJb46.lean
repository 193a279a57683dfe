/-
  Expressions that say the same by themselves: what their kids say.
-/
import Derived.Test.YtiadbeglhnocoaaGreatDoorJb45
import Derived.WalkSpells
import Derived.WalkLawsBesides
import Derived.BigRegion
import Derived.Deep.CutRange
import Derived.Lib.Hide
import Derived.Lib.Builder
import Derived.Lib.MinMax
import Derived.Outline
import Derived.Deep.QuietTactic
import Derived.BigQuiet
import Derived.Deep.RegionWith
import Derived.StillTailTactics
import Derived.Deep.DeepCutAuto
namespace Go.Proofs.YtiadbeglhnocoaaGreatDoor
set_option linter.unusedVariables false
set_option linter.unusedSimpArgs false
open Go.RowKit

theorem cells7f {w : World} {b : Nat} {v0 v1 v2 v3 v4 v5 v6 : Value} {T : TypeId} {fr : Nat × Nat} (h : w.heap[b]? = some (.cells #[v0, v1, v2, v3, v4, v5, v6] T fr)) : w.cell? ⟨b, 0, none⟩ = some v0 ∧ w.cell? ⟨b, 1, none⟩ = some v1 ∧ w.cell? ⟨b, 2, none⟩ = some v2 ∧ w.cell? ⟨b, 3, none⟩ = some v3 ∧ w.cell? ⟨b, 4, none⟩ = some v4 ∧ w.cell? ⟨b, 5, none⟩ = some v5 ∧ w.cell? ⟨b, 6, none⟩ = some v6 := by
  have hc := fun j => Lib.cell_of_heap h j
  exact ⟨hc 0, hc 1, hc 2, hc 3, hc 4, hc 5, hc 6⟩

def saidN (k n : Int) : Int := if k = 1 ∨ k = 2 then n else 0

def exAgg (k a t o n : Int) (s : ByteArray) (A : Option Addr) (m c : Nat) : Value := .agg #[.int .i64 k, .int .i64 a, .int .i64 t, .int .i64 o, .int .i64 n, .string s, .slice A m c]

set_option maxHeartbeats 4000000 in
theorem saidBy_any (k a t o n : Int) (s : ByteArray) (A : Option Addr) (m c : Nat) (w : World) :
    Calls Tryz.prog 69 #[exAgg k a t o n s A m c] w fun e w' => e = .returned (.agg #[.int .i64 k, .int .i64 o, .int .i64 (saidN k n), .string s]) ∧ Below w.heap.size w w' := by
  have hb3 : ∀ (o1 o2 o3 : Obj), Below w.heap.size w (((w.alloc o1).alloc o2).alloc o3) := fun o1 o2 o3 => (((Below.refl _ _).alloc (Nat.le_refl _) _).alloc (by simp) _).alloc (by simp; omega) _
  by_cases h1 : k = 1 ∨ k = 2
  · unfold exAgg
    have hs : saidN k n = n := if_pos h1
    rw [hs]
    clear hs
    rcases h1 with rfl | rfl
    · go_enter Tryz.func69, Tryz.ntmps69
      go_wp2
      exact bodyPost_ret (v := .agg #[.int .i64 1, .int .i64 o, .int .i64 n, .string s]) (by simp [results, Tryz.results69, go_sem]) rfl ⟨rfl, hb3 _ _ _⟩
    · go_enter Tryz.func69, Tryz.ntmps69
      go_wp2
      exact bodyPost_ret (v := .agg #[.int .i64 2, .int .i64 o, .int .i64 n, .string s]) (by simp [results, Tryz.results69, go_sem]) rfl ⟨rfl, hb3 _ _ _⟩
  · unfold exAgg
    have hs : saidN k n = 0 := if_neg h1
    rw [hs]
    have b1 : (k == 1) = false := by simp; omega
    have b2 : (k == 2) = false := by simp; omega
    clear hs h1
    go_enter Tryz.func69, Tryz.ntmps69
    go_wp2
    exact bodyPost_ret (v := .agg #[.int .i64 k, .int .i64 o, .int .i64 0, .string s]) (by simp [results, Tryz.results69, go_sem]) rfl ⟨rfl, hb3 _ _ _⟩

set_option maxHeartbeats 8000000 in
/-- SameExpr at two expressions that say the same by themselves: what their kids say. -/
theorem sameExpr_eq (k a t o n : Int) (s : ByteArray) (A : Option Addr) (m c : Nat) (a' t' n' : Int) (A' : Option Addr) (m' c' : Nat) (hn : saidN k n = saidN k n') (w : World)
    (HL : ∀ w2, Below w.heap.size w w2 → Calls Tryz.prog 50 #[.slice A m c, .slice A' m' c', .func (.func 51) #[] #[]] w2 fun e w' => e = .returned (.bool true) ∧ Below w2.heap.size w2 w') :
    Calls Tryz.prog 51 #[exAgg k a t o n s A m c, exAgg k a' t' o n' s A' m' c'] w fun e w' => e = .returned (.bool true) ∧ Below w.heap.size w w' := by
  obtain ⟨sn, hsn⟩ : ∃ sn, saidN k n = sn := ⟨_, rfl⟩
  have HA := saidBy_any k a t o n s A m c
  have HB := saidBy_any k a' t' o n' s A' m' c'
  rw [hsn] at HA
  rw [← hn, hsn] at HB
  clear hsn hn
  have es : (s.toList == s.toList) = true := by simp
  have ek : (k == k) = true := by simp
  have eo : (o == o) = true := by simp
  have en : (sn == sn) = true := by simp
  have HL2 := Lib.hid HL
  clear HL
  unfold exAgg at HA HB ⊢
  have hz : w.heap.size + 1 < ((w.alloc (.cells #[.int .i64 k, .int .i64 a, .int .i64 t, .int .i64 o, .int .i64 n, .string s, .slice A m c] 96)).alloc (.cells #[.int .i64 k, .int .i64 a', .int .i64 t', .int .i64 o, .int .i64 n', .string s, .slice A' m' c'] 96)).heap.size := by simp
  go_enter Tryz.func51, Tryz.ntmps51
  go_upto_region 1 with fail
  obtain ⟨W, hW⟩ : ∃ W, W = (w.alloc (.cells #[.int .i64 k, .int .i64 a, .int .i64 t, .int .i64 o, .int .i64 n, .string s, .slice A m c] 96)).alloc (.cells #[.int .i64 k, .int .i64 a', .int .i64 t', .int .i64 o, .int .i64 n', .string s, .slice A' m' c'] 96) := ⟨_, rfl⟩
  rw [← hW] at hz ⊢
  have hbW : Below w.heap.size w W := by rw [hW]; exact ((Below.refl _ _).alloc (Nat.le_refl _) _).alloc (by simp) _
  have hA0 : W.heap[w.heap.size]? = some (.cells #[.int .i64 k, .int .i64 a, .int .i64 t, .int .i64 o, .int .i64 n, .string s, .slice A m c] 96 (0, 0)) := by
    rw [hW]
    exact (Below.heap_alloc _ _ _ (by simp)).trans (heap_alloc_new w _)
  have hB0 : W.heap[w.heap.size + 1]? = some (.cells #[.int .i64 k, .int .i64 a', .int .i64 t', .int .i64 o, .int .i64 n', .string s, .slice A' m' c'] 96 (0, 0)) := by
    rw [hW]
    have h1 := heap_alloc_new (w.alloc (.cells #[.int .i64 k, .int .i64 a, .int .i64 t, .int .i64 o, .int .i64 n, .string s, .slice A m c] 96)) (.cells #[.int .i64 k, .int .i64 a', .int .i64 t', .int .i64 o, .int .i64 n', .string s, .slice A' m' c'] 96)
    rw [show (w.alloc (.cells #[.int .i64 k, .int .i64 a, .int .i64 t, .int .i64 o, .int .i64 n, .string s, .slice A m c] 96)).heap.size = w.heap.size + 1 by simp] at h1
    exact h1
  clear hW
  obtain ⟨a0, a1, a2, a3, a4, a5, a6⟩ := cells7f hA0
  obtain ⟨b0, b1, b2, b3, b4, b5, b6⟩ := cells7f hB0
  replace hA0 := Lib.hid hA0
  replace hB0 := Lib.hid hB0
  replace hbW := Lib.hid hbW
  go_region_with (first
    | (go_at_call 69; first
        | ((with_reducible refine (HA _).mono ?_); rintro e w1 ⟨rfl, hb1⟩; have hA1 := (hb1.block w.heap.size (Nat.lt_of_succ_lt hz)).trans hA0.out; have hB1 := (hb1.block (w.heap.size + 1) hz).trans hB0.out; obtain ⟨p0, p1, p2, p3, p4, p5, p6⟩ := cells7f hA1; obtain ⟨q0, q1, q2, q3, q4, q5, q6⟩ := cells7f hB1; have hz1 := Nat.lt_of_lt_of_le hz hb1.size; replace hA1 := Lib.hid hA1; replace hB1 := Lib.hid hB1; have hbA := Lib.hid (hbW.out.drew.trans (hb1.mono hbW.out.size)); clear hb1)
        | ((with_reducible refine (HB _).mono ?_); rintro e w2 ⟨rfl, hb2⟩; have hA2 := (hb2.block w.heap.size (Nat.lt_of_succ_lt hz1)).trans hA1.out; have hB2 := (hb2.block (w.heap.size + 1) hz1).trans hB1.out; obtain ⟨r0, r1, r2, r3, r4, r5, r6⟩ := cells7f hA2; obtain ⟨s0, s1, s2, s3, s4, s5, s6⟩ := cells7f hB2; replace hA2 := Lib.hid hA2; replace hB2 := Lib.hid hB2; have hbB := Lib.hid (hbA.out.trans (hb2.mono hbA.out.size)); clear hb2))
    | (go_at_call 50; refine (HL2.out _ hbB.out).mono ?_; rintro e w3 ⟨rfl, hb3⟩; have hbC := Lib.hid (hbB.out.trans (hb3.mono hbB.out.size)); clear hb3))
  all_goals
    go_wp2
    go_ret
    exact ⟨rfl, hbC.out⟩
end Go.Proofs.YtiadbeglhnocoaaGreatDoor
