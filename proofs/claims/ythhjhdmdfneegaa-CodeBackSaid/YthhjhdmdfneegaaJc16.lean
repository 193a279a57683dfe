/-
  The base with changes: the base's own rows.
-/
import Derived.Test.YthhjhdmdfneegaaJc13
import Derived.Test.YthhjhdmdfneegaaJc15
namespace Go.Proofs.Ythhjhdmdfneegaa
set_option linter.unusedVariables false
set_option linter.unusedSimpArgs false
open Go.RowKit

def noRw : GRw := ⟨3, 1, .slice none 0 0, 0, []⟩
def baseW (B : Nat) : Nat → GRw
  | 0 => ⟨43, 5, .slice (some ⟨B + 32, 0, none⟩) 2 2, 2, [.string ⟨#[109, 97, 105, 110]⟩, .slice none 0 0, .int .i64 1, .slice (some ⟨B + 1 + 1 + 1 + 1 + 1 + 1 + 1 + 1 + 1 + 1 + 1 + 1, 0, none⟩) 15 15, .slice (some ⟨B + 13 + 1 + 1 + 1 + 1 + 1 + 1 + 1 + 1 + 1 + 1, 0, none⟩) 4 4, .string ⟨#[102]⟩, .slice (some ⟨B + 25, 0, none⟩) 2 2, .int .i64 1, .slice (some ⟨B + 25 + 1 + 1 + 1, 0, none⟩) 4 4, .slice (some ⟨B + 25 + 1 + 1 + 1 + 1 + 1, 0, none⟩) 1 1]⟩
  | 2 => ⟨46, 5, .slice (some ⟨B + 1 + 1 + 1 + 1 + 1 + 1 + 1 + 1 + 1 + 1 + 1 + 1, 0, none⟩) 15 15, 15, [.int .i64 34, .int .i64 1, .slice none 0 0, .int .i64 0, .int .i64 0, .int .i64 1, .int .i64 1, .slice none 0 0, .int .i64 4, .int .i64 0, .int .i64 30, .int .i64 3, .slice (some ⟨B + 1, 0, none⟩) 1 1, .int .i64 0, .int .i64 0, .int .i64 1, .int .i64 1, .slice none 0 0, .int .i64 0, .int .i64 0, .int .i64 3, .int .i64 1, .slice (some ⟨B + 1 + 1, 0, none⟩) 2 2, .int .i64 0, .int .i64 0, .int .i64 19, .int .i64 2, .slice (some ⟨B + 1 + 1 + 1, 0, none⟩) 2 2, .int .i64 0, .int .i64 0, .int .i64 26, .int .i64 1, .slice (some ⟨B + 1 + 1 + 1 + 1, 0, none⟩) 1 1, .int .i64 0, .int .i64 0, .int .i64 23, .int .i64 2, .slice (some ⟨B + 1 + 1 + 1 + 1 + 1, 0, none⟩) 2 2, .int .i64 0, .int .i64 0, .int .i64 35, .int .i64 0, .slice (some ⟨B + 1 + 1 + 1 + 1 + 1 + 1, 0, none⟩) 1 1, .int .i64 1, .int .i64 0, .int .i64 4, .int .i64 1, .slice (some ⟨B + 1 + 1 + 1 + 1 + 1 + 1 + 1, 0, none⟩) 2 2, .int .i64 0, .int .i64 0, .int .i64 32, .int .i64 0, .slice (some ⟨B + 1 + 1 + 1 + 1 + 1 + 1 + 1 + 1, 0, none⟩) 3 3, .int .i64 0, .int .i64 0, .int .i64 1, .int .i64 1, .slice none 0 0, .int .i64 1, .int .i64 0, .int .i64 29, .int .i64 1, .slice (some ⟨B + 1 + 1 + 1 + 1 + 1 + 1 + 1 + 1 + 1, 0, none⟩) 2 2, .int .i64 0, .int .i64 0, .int .i64 33, .int .i64 0, .slice (some ⟨B + 1 + 1 + 1 + 1 + 1 + 1 + 1 + 1 + 1 + 1, 0, none⟩) 1 1, .int .i64 0, .int .i64 0, .int .i64 36, .int .i64 1, .slice (some ⟨B + 1 + 1 + 1 + 1 + 1 + 1 + 1 + 1 + 1 + 1 + 1, 0, none⟩) 2 2, .int .i64 0, .int .i64 1]⟩
  | 3 => ⟨51, 5, .slice (some ⟨B + 13 + 1 + 1 + 1 + 1 + 1 + 1 + 1 + 1 + 1 + 1, 0, none⟩) 4 4, 4, [.slice (some ⟨B + 13, 0, none⟩) 4 4, .slice none 0 0, .int .i64 1, .int .i64 (-1), .slice (some ⟨B + 13 + 1, 0, none⟩) 1 1, .slice (some ⟨B + 13 + 1 + 1, 0, none⟩) 2 2, .slice (some ⟨B + 13 + 1 + 1 + 1, 0, none⟩) 2 2, .int .i64 2, .int .i64 5, .slice (some ⟨B + 13 + 1 + 1 + 1 + 1, 0, none⟩) 2 2, .slice (some ⟨B + 13 + 1 + 1 + 1 + 1 + 1, 0, none⟩) 6 6, .slice (some ⟨B + 13 + 1 + 1 + 1 + 1 + 1 + 1, 0, none⟩) 1 1, .int .i64 1, .int .i64 (-1), .slice (some ⟨B + 13 + 1 + 1 + 1 + 1 + 1 + 1 + 1, 0, none⟩) 1 1, .slice (some ⟨B + 13 + 1 + 1 + 1 + 1 + 1 + 1 + 1 + 1, 0, none⟩) 3 3, .slice (some ⟨B + 13 + 1 + 1 + 1 + 1 + 1 + 1 + 1 + 1 + 1, 0, none⟩) 1 1, .int .i64 3, .int .i64 14, .slice none 0 0]⟩
  | 4 => ⟨3, 1, .slice (some ⟨B + 25, 0, none⟩) 2 2, 2, [.int .i64 1, .int .i64 2]⟩
  | 5 => ⟨46, 5, .slice (some ⟨B + 25 + 1 + 1 + 1, 0, none⟩) 4 4, 4, [.int .i64 2, .int .i64 1, .slice none 0 0, .int .i64 0, .int .i64 0, .int .i64 2, .int .i64 2, .slice none 0 0, .int .i64 1, .int .i64 0, .int .i64 15, .int .i64 1, .slice (some ⟨B + 25 + 1, 0, none⟩) 1 1, .int .i64 0, .int .i64 0, .int .i64 25, .int .i64 1, .slice (some ⟨B + 25 + 1 + 1, 0, none⟩) 3 3, .int .i64 0, .int .i64 0]⟩
  | 6 => ⟨51, 5, .slice (some ⟨B + 25 + 1 + 1 + 1 + 1 + 1, 0, none⟩) 1 1, 1, [.slice (some ⟨B + 25 + 1 + 1 + 1 + 1, 0, none⟩) 4 4, .slice none 0 0, .int .i64 3, .int .i64 3, .slice none 0 0]⟩
  | 12 => ⟨3, 1, .slice (some ⟨B + 1, 0, none⟩) 1 1, 1, [.int .i64 1]⟩
  | 14 => ⟨3, 1, .slice (some ⟨B + 1 + 1, 0, none⟩) 2 2, 2, [.int .i64 3, .int .i64 9]⟩
  | 15 => ⟨3, 1, .slice (some ⟨B + 1 + 1 + 1, 0, none⟩) 2 2, 2, [.int .i64 4, .int .i64 0]⟩
  | 16 => ⟨3, 1, .slice (some ⟨B + 1 + 1 + 1 + 1, 0, none⟩) 1 1, 1, [.int .i64 2]⟩
  | 17 => ⟨3, 1, .slice (some ⟨B + 1 + 1 + 1 + 1 + 1, 0, none⟩) 2 2, 2, [.int .i64 4, .int .i64 6]⟩
  | 18 => ⟨3, 1, .slice (some ⟨B + 1 + 1 + 1 + 1 + 1 + 1, 0, none⟩) 1 1, 1, [.int .i64 7]⟩
  | 19 => ⟨3, 1, .slice (some ⟨B + 1 + 1 + 1 + 1 + 1 + 1 + 1, 0, none⟩) 2 2, 2, [.int .i64 4, .int .i64 11]⟩
  | 20 => ⟨3, 1, .slice (some ⟨B + 1 + 1 + 1 + 1 + 1 + 1 + 1 + 1, 0, none⟩) 3 3, 3, [.int .i64 2, .int .i64 4, .int .i64 0]⟩
  | 22 => ⟨3, 1, .slice (some ⟨B + 1 + 1 + 1 + 1 + 1 + 1 + 1 + 1 + 1, 0, none⟩) 2 2, 2, [.int .i64 2, .int .i64 3]⟩
  | 23 => ⟨3, 1, .slice (some ⟨B + 1 + 1 + 1 + 1 + 1 + 1 + 1 + 1 + 1 + 1, 0, none⟩) 1 1, 1, [.int .i64 12]⟩
  | 24 => ⟨3, 1, .slice (some ⟨B + 1 + 1 + 1 + 1 + 1 + 1 + 1 + 1 + 1 + 1 + 1, 0, none⟩) 2 2, 2, [.int .i64 12, .int .i64 5]⟩
  | 32 => ⟨3, 1, .slice (some ⟨B + 25 + 1, 0, none⟩) 1 1, 1, [.int .i64 0]⟩
  | 33 => ⟨3, 1, .slice (some ⟨B + 25 + 1 + 1, 0, none⟩) 3 3, 3, [.int .i64 1, .int .i64 0, .int .i64 2]⟩
  | 50 => ⟨3, 1, .slice (some ⟨B + 13, 0, none⟩) 4 4, 4, [.int .i64 0, .int .i64 1, .int .i64 2, .int .i64 3]⟩
  | 52 => ⟨3, 1, .slice (some ⟨B + 13 + 1, 0, none⟩) 1 1, 1, [.int .i64 1]⟩
  | 54 => ⟨3, 1, .slice (some ⟨B + 13 + 1 + 1, 0, none⟩) 2 2, 2, [.int .i64 4, .int .i64 5]⟩
  | 55 => ⟨3, 1, .slice (some ⟨B + 13 + 1 + 1 + 1, 0, none⟩) 2 2, 2, [.int .i64 0, .int .i64 2]⟩
  | 56 => ⟨3, 1, .slice (some ⟨B + 13 + 1 + 1 + 1 + 1, 0, none⟩) 2 2, 2, [.int .i64 2, .int .i64 3]⟩
  | 58 => ⟨3, 1, .slice (some ⟨B + 13 + 1 + 1 + 1 + 1 + 1, 0, none⟩) 6 6, 6, [.int .i64 11, .int .i64 6, .int .i64 7, .int .i64 8, .int .i64 10, .int .i64 9]⟩
  | 59 => ⟨3, 1, .slice (some ⟨B + 13 + 1 + 1 + 1 + 1 + 1 + 1, 0, none⟩) 1 1, 1, [.int .i64 1]⟩
  | 60 => ⟨3, 1, .slice (some ⟨B + 13 + 1 + 1 + 1 + 1 + 1 + 1 + 1, 0, none⟩) 1 1, 1, [.int .i64 1]⟩
  | 62 => ⟨3, 1, .slice (some ⟨B + 13 + 1 + 1 + 1 + 1 + 1 + 1 + 1 + 1, 0, none⟩) 3 3, 3, [.int .i64 12, .int .i64 13, .int .i64 14]⟩
  | 63 => ⟨3, 1, .slice (some ⟨B + 13 + 1 + 1 + 1 + 1 + 1 + 1 + 1 + 1 + 1, 0, none⟩) 1 1, 1, [.int .i64 1]⟩
  | 70 => ⟨3, 1, .slice (some ⟨B + 25 + 1 + 1 + 1 + 1, 0, none⟩) 4 4, 4, [.int .i64 0, .int .i64 1, .int .i64 2, .int .i64 3]⟩
  | _ => noRw
def baseK : Nat → Option Nat
  | 0 => some 32
  | 2 => some 12
  | 3 => some 23
  | 4 => some 25
  | 5 => some 28
  | 6 => some 30
  | 12 => some 1
  | 14 => some 2
  | 15 => some 3
  | 16 => some 4
  | 17 => some 5
  | 18 => some 6
  | 19 => some 7
  | 20 => some 8
  | 22 => some 9
  | 23 => some 10
  | 24 => some 11
  | 32 => some 26
  | 33 => some 27
  | 50 => some 13
  | 52 => some 14
  | 54 => some 15
  | 55 => some 16
  | 56 => some 17
  | 58 => some 18
  | 59 => some 19
  | 60 => some 20
  | 62 => some 21
  | 63 => some 22
  | 70 => some 29
  | _ => none
def baseJ : Nat → Nat
  | 32 => 0
  | 12 => 2
  | 23 => 3
  | 25 => 4
  | 28 => 5
  | 30 => 6
  | 1 => 12
  | 2 => 14
  | 3 => 15
  | 4 => 16
  | 5 => 17
  | 6 => 18
  | 7 => 19
  | 8 => 20
  | 9 => 22
  | 10 => 23
  | 11 => 24
  | 26 => 32
  | 27 => 33
  | 13 => 50
  | 14 => 52
  | 15 => 54
  | 16 => 55
  | 17 => 56
  | 18 => 58
  | 19 => 59
  | 20 => 60
  | 21 => 62
  | 22 => 63
  | 29 => 70
  | _ => 0
theorem baseK_inj (j k : Nat) (h : baseK j = some k) : baseJ k = j := by
  unfold baseK at h
  split at h <;> first | (injection h with h; subst h; rfl) | cases h
theorem baseW_block (B j : Nat) : (baseW B j).v.ownBlock = (baseK j).map (fun k => B + k) := by
  unfold baseW baseK
  split <;> rfl
set_option maxRecDepth 100000 in
set_option maxHeartbeats 4000000 in
theorem baseW_own {w w' : World} {fb bb : Nat} {v0 v1 : FV} (h : BaseAt w w' fb bb v0 v1) (j : Nat) : w'.ownsRow (w.heap.size + 1) (baseW w.heap.size j).T (baseW w.heap.size j).z (baseW w.heap.size j).v (baseW w.heap.size j).n (baseW w.heap.size j).xs := by
  unfold baseW
  split
  · exact ⟨rfl, .inr ⟨w.heap.size + 32, _, _, rfl, by omega, h.objs 32 (by decide) (by decide), Nat.le_refl _, by decide, rfl, rfl⟩⟩
  · exact ⟨rfl, .inr ⟨w.heap.size + 12, _, _, rfl, by omega, h.objs 12 (by decide) (by decide), Nat.le_refl _, by decide, rfl, rfl⟩⟩
  · exact ⟨rfl, .inr ⟨w.heap.size + 23, _, _, rfl, by omega, h.objs 23 (by decide) (by decide), Nat.le_refl _, by decide, rfl, rfl⟩⟩
  · exact ⟨rfl, .inr ⟨w.heap.size + 25, _, _, rfl, by omega, h.objs 25 (by decide) (by decide), Nat.le_refl _, by decide, rfl, rfl⟩⟩
  · exact ⟨rfl, .inr ⟨w.heap.size + 28, _, _, rfl, by omega, h.objs 28 (by decide) (by decide), Nat.le_refl _, by decide, rfl, rfl⟩⟩
  · exact ⟨rfl, .inr ⟨w.heap.size + 30, _, _, rfl, by omega, h.objs 30 (by decide) (by decide), Nat.le_refl _, by decide, rfl, rfl⟩⟩
  · exact ⟨rfl, .inr ⟨w.heap.size + 1, _, _, rfl, by omega, h.objs 1 (by decide) (by decide), Nat.le_refl _, by decide, rfl, rfl⟩⟩
  · exact ⟨rfl, .inr ⟨w.heap.size + 2, _, _, rfl, by omega, h.objs 2 (by decide) (by decide), Nat.le_refl _, by decide, rfl, rfl⟩⟩
  · exact ⟨rfl, .inr ⟨w.heap.size + 3, _, _, rfl, by omega, h.objs 3 (by decide) (by decide), Nat.le_refl _, by decide, rfl, rfl⟩⟩
  · exact ⟨rfl, .inr ⟨w.heap.size + 4, _, _, rfl, by omega, h.objs 4 (by decide) (by decide), Nat.le_refl _, by decide, rfl, rfl⟩⟩
  · exact ⟨rfl, .inr ⟨w.heap.size + 5, _, _, rfl, by omega, h.objs 5 (by decide) (by decide), Nat.le_refl _, by decide, rfl, rfl⟩⟩
  · exact ⟨rfl, .inr ⟨w.heap.size + 6, _, _, rfl, by omega, h.objs 6 (by decide) (by decide), Nat.le_refl _, by decide, rfl, rfl⟩⟩
  · exact ⟨rfl, .inr ⟨w.heap.size + 7, _, _, rfl, by omega, h.objs 7 (by decide) (by decide), Nat.le_refl _, by decide, rfl, rfl⟩⟩
  · exact ⟨rfl, .inr ⟨w.heap.size + 8, _, _, rfl, by omega, h.objs 8 (by decide) (by decide), Nat.le_refl _, by decide, rfl, rfl⟩⟩
  · exact ⟨rfl, .inr ⟨w.heap.size + 9, _, _, rfl, by omega, h.objs 9 (by decide) (by decide), Nat.le_refl _, by decide, rfl, rfl⟩⟩
  · exact ⟨rfl, .inr ⟨w.heap.size + 10, _, _, rfl, by omega, h.objs 10 (by decide) (by decide), Nat.le_refl _, by decide, rfl, rfl⟩⟩
  · exact ⟨rfl, .inr ⟨w.heap.size + 11, _, _, rfl, by omega, h.objs 11 (by decide) (by decide), Nat.le_refl _, by decide, rfl, rfl⟩⟩
  · exact ⟨rfl, .inr ⟨w.heap.size + 26, _, _, rfl, by omega, h.objs 26 (by decide) (by decide), Nat.le_refl _, by decide, rfl, rfl⟩⟩
  · exact ⟨rfl, .inr ⟨w.heap.size + 27, _, _, rfl, by omega, h.objs 27 (by decide) (by decide), Nat.le_refl _, by decide, rfl, rfl⟩⟩
  · exact ⟨rfl, .inr ⟨w.heap.size + 13, _, _, rfl, by omega, h.objs 13 (by decide) (by decide), Nat.le_refl _, by decide, rfl, rfl⟩⟩
  · exact ⟨rfl, .inr ⟨w.heap.size + 14, _, _, rfl, by omega, h.objs 14 (by decide) (by decide), Nat.le_refl _, by decide, rfl, rfl⟩⟩
  · exact ⟨rfl, .inr ⟨w.heap.size + 15, _, _, rfl, by omega, h.objs 15 (by decide) (by decide), Nat.le_refl _, by decide, rfl, rfl⟩⟩
  · exact ⟨rfl, .inr ⟨w.heap.size + 16, _, _, rfl, by omega, h.objs 16 (by decide) (by decide), Nat.le_refl _, by decide, rfl, rfl⟩⟩
  · exact ⟨rfl, .inr ⟨w.heap.size + 17, _, _, rfl, by omega, h.objs 17 (by decide) (by decide), Nat.le_refl _, by decide, rfl, rfl⟩⟩
  · exact ⟨rfl, .inr ⟨w.heap.size + 18, _, _, rfl, by omega, h.objs 18 (by decide) (by decide), Nat.le_refl _, by decide, rfl, rfl⟩⟩
  · exact ⟨rfl, .inr ⟨w.heap.size + 19, _, _, rfl, by omega, h.objs 19 (by decide) (by decide), Nat.le_refl _, by decide, rfl, rfl⟩⟩
  · exact ⟨rfl, .inr ⟨w.heap.size + 20, _, _, rfl, by omega, h.objs 20 (by decide) (by decide), Nat.le_refl _, by decide, rfl, rfl⟩⟩
  · exact ⟨rfl, .inr ⟨w.heap.size + 21, _, _, rfl, by omega, h.objs 21 (by decide) (by decide), Nat.le_refl _, by decide, rfl, rfl⟩⟩
  · exact ⟨rfl, .inr ⟨w.heap.size + 22, _, _, rfl, by omega, h.objs 22 (by decide) (by decide), Nat.le_refl _, by decide, rfl, rfl⟩⟩
  · exact ⟨rfl, .inr ⟨w.heap.size + 29, _, _, rfl, by omega, h.objs 29 (by decide) (by decide), Nat.le_refl _, by decide, rfl, rfl⟩⟩
  · exact World.ownsRow_nil _ _ _ _
theorem baseW_fam {w w' : World} {fb bb : Nat} {v0 v1 : FV} (h : BaseAt w w' fb bb v0 v1) {E : Nat} (hE : E < w.heap.size) : GFam w' (w.heap.size + 1) E (baseW w.heap.size) := by
  refine ⟨Nat.lt_of_lt_of_le hE h.below.size, fun k e => ?_, baseW_own h, fun k l hkl => ?_⟩
  · rw [baseW_block] at e
    cases hk : baseK k with
    | none => rw [hk] at e; cases e
    | some a =>
      rw [hk] at e
      injection e with e
      have e : w.heap.size + a = E := e
      omega
  · rw [baseW_block, baseW_block]
    cases hk : baseK k with
    | none => exact .inl rfl
    | some a =>
      refine .inr (fun e => ?_)
      cases hl : baseK l with
      | none => rw [hl] at e; cases e
      | some b =>
        rw [hl] at e
        injection e with e
        have e : w.heap.size + a = w.heap.size + b := e
        have : a = b := by omega
        subst this
        exact hkl ((baseK_inj k a hk).symm.trans (baseK_inj l a hl))
theorem isI_of (x : Int) (h : InG x) : isI (.int .i64 x) := ⟨x, rfl, h⟩
set_option maxRecDepth 100000 in
set_option maxHeartbeats 16000000 in
theorem baseW_ci (B : Nat) : CI 6 (baseW B) := by
  refine ⟨fun j => ?_, fun f hf id hid => ?_⟩
  · by_cases h0 : j = 0
    · subst h0
      refine ⟨⟨_, rfl⟩, rfl, fun q hq => ?_⟩
      match q, hq with
      | 0, _ => exact ⟨_, rfl, ⟨_, rfl, by decide⟩⟩
      | 1, _ => exact ⟨_, rfl, rfl⟩
      | 2, _ => exact ⟨_, rfl, isI_of _ (by unfold InG; decide)⟩
      | 3, _ => exact ⟨_, rfl, rfl⟩
      | 4, _ => exact ⟨_, rfl, rfl⟩
      | 5, _ => exact ⟨_, rfl, ⟨_, rfl, by decide⟩⟩
      | 6, _ => exact ⟨_, rfl, rfl⟩
      | 7, _ => exact ⟨_, rfl, isI_of _ (by unfold InG; decide)⟩
      | 8, _ => exact ⟨_, rfl, rfl⟩
      | 9, _ => exact ⟨_, rfl, rfl⟩
      | q + 10, h => omega
    by_cases h2 : j = 2
    · subst h2
      refine ⟨⟨_, rfl⟩, rfl, fun q hq => ?_⟩
      match q, hq with
      | 0, _ => exact ⟨_, rfl, isI_of _ (by unfold InG; decide)⟩
      | 1, _ => exact ⟨_, rfl, isI_of _ (by unfold InG; decide)⟩
      | 2, _ => exact ⟨_, rfl, rfl⟩
      | 3, _ => exact ⟨_, rfl, isI_of _ (by unfold InG; decide)⟩
      | 4, _ => exact ⟨_, rfl, isI_of _ (by unfold InG; decide)⟩
      | 5, _ => exact ⟨_, rfl, isI_of _ (by unfold InG; decide)⟩
      | 6, _ => exact ⟨_, rfl, isI_of _ (by unfold InG; decide)⟩
      | 7, _ => exact ⟨_, rfl, rfl⟩
      | 8, _ => exact ⟨_, rfl, isI_of _ (by unfold InG; decide)⟩
      | 9, _ => exact ⟨_, rfl, isI_of _ (by unfold InG; decide)⟩
      | 10, _ => exact ⟨_, rfl, isI_of _ (by unfold InG; decide)⟩
      | 11, _ => exact ⟨_, rfl, isI_of _ (by unfold InG; decide)⟩
      | 12, _ => exact ⟨_, rfl, rfl⟩
      | 13, _ => exact ⟨_, rfl, isI_of _ (by unfold InG; decide)⟩
      | 14, _ => exact ⟨_, rfl, isI_of _ (by unfold InG; decide)⟩
      | 15, _ => exact ⟨_, rfl, isI_of _ (by unfold InG; decide)⟩
      | 16, _ => exact ⟨_, rfl, isI_of _ (by unfold InG; decide)⟩
      | 17, _ => exact ⟨_, rfl, rfl⟩
      | 18, _ => exact ⟨_, rfl, isI_of _ (by unfold InG; decide)⟩
      | 19, _ => exact ⟨_, rfl, isI_of _ (by unfold InG; decide)⟩
      | 20, _ => exact ⟨_, rfl, isI_of _ (by unfold InG; decide)⟩
      | 21, _ => exact ⟨_, rfl, isI_of _ (by unfold InG; decide)⟩
      | 22, _ => exact ⟨_, rfl, rfl⟩
      | 23, _ => exact ⟨_, rfl, isI_of _ (by unfold InG; decide)⟩
      | 24, _ => exact ⟨_, rfl, isI_of _ (by unfold InG; decide)⟩
      | 25, _ => exact ⟨_, rfl, isI_of _ (by unfold InG; decide)⟩
      | 26, _ => exact ⟨_, rfl, isI_of _ (by unfold InG; decide)⟩
      | 27, _ => exact ⟨_, rfl, rfl⟩
      | 28, _ => exact ⟨_, rfl, isI_of _ (by unfold InG; decide)⟩
      | 29, _ => exact ⟨_, rfl, isI_of _ (by unfold InG; decide)⟩
      | 30, _ => exact ⟨_, rfl, isI_of _ (by unfold InG; decide)⟩
      | 31, _ => exact ⟨_, rfl, isI_of _ (by unfold InG; decide)⟩
      | 32, _ => exact ⟨_, rfl, rfl⟩
      | 33, _ => exact ⟨_, rfl, isI_of _ (by unfold InG; decide)⟩
      | 34, _ => exact ⟨_, rfl, isI_of _ (by unfold InG; decide)⟩
      | 35, _ => exact ⟨_, rfl, isI_of _ (by unfold InG; decide)⟩
      | 36, _ => exact ⟨_, rfl, isI_of _ (by unfold InG; decide)⟩
      | 37, _ => exact ⟨_, rfl, rfl⟩
      | 38, _ => exact ⟨_, rfl, isI_of _ (by unfold InG; decide)⟩
      | 39, _ => exact ⟨_, rfl, isI_of _ (by unfold InG; decide)⟩
      | 40, _ => exact ⟨_, rfl, isI_of _ (by unfold InG; decide)⟩
      | 41, _ => exact ⟨_, rfl, isI_of _ (by unfold InG; decide)⟩
      | 42, _ => exact ⟨_, rfl, rfl⟩
      | 43, _ => exact ⟨_, rfl, isI_of _ (by unfold InG; decide)⟩
      | 44, _ => exact ⟨_, rfl, isI_of _ (by unfold InG; decide)⟩
      | 45, _ => exact ⟨_, rfl, isI_of _ (by unfold InG; decide)⟩
      | 46, _ => exact ⟨_, rfl, isI_of _ (by unfold InG; decide)⟩
      | 47, _ => exact ⟨_, rfl, rfl⟩
      | 48, _ => exact ⟨_, rfl, isI_of _ (by unfold InG; decide)⟩
      | 49, _ => exact ⟨_, rfl, isI_of _ (by unfold InG; decide)⟩
      | 50, _ => exact ⟨_, rfl, isI_of _ (by unfold InG; decide)⟩
      | 51, _ => exact ⟨_, rfl, isI_of _ (by unfold InG; decide)⟩
      | 52, _ => exact ⟨_, rfl, rfl⟩
      | 53, _ => exact ⟨_, rfl, isI_of _ (by unfold InG; decide)⟩
      | 54, _ => exact ⟨_, rfl, isI_of _ (by unfold InG; decide)⟩
      | 55, _ => exact ⟨_, rfl, isI_of _ (by unfold InG; decide)⟩
      | 56, _ => exact ⟨_, rfl, isI_of _ (by unfold InG; decide)⟩
      | 57, _ => exact ⟨_, rfl, rfl⟩
      | 58, _ => exact ⟨_, rfl, isI_of _ (by unfold InG; decide)⟩
      | 59, _ => exact ⟨_, rfl, isI_of _ (by unfold InG; decide)⟩
      | 60, _ => exact ⟨_, rfl, isI_of _ (by unfold InG; decide)⟩
      | 61, _ => exact ⟨_, rfl, isI_of _ (by unfold InG; decide)⟩
      | 62, _ => exact ⟨_, rfl, rfl⟩
      | 63, _ => exact ⟨_, rfl, isI_of _ (by unfold InG; decide)⟩
      | 64, _ => exact ⟨_, rfl, isI_of _ (by unfold InG; decide)⟩
      | 65, _ => exact ⟨_, rfl, isI_of _ (by unfold InG; decide)⟩
      | 66, _ => exact ⟨_, rfl, isI_of _ (by unfold InG; decide)⟩
      | 67, _ => exact ⟨_, rfl, rfl⟩
      | 68, _ => exact ⟨_, rfl, isI_of _ (by unfold InG; decide)⟩
      | 69, _ => exact ⟨_, rfl, isI_of _ (by unfold InG; decide)⟩
      | 70, _ => exact ⟨_, rfl, isI_of _ (by unfold InG; decide)⟩
      | 71, _ => exact ⟨_, rfl, isI_of _ (by unfold InG; decide)⟩
      | 72, _ => exact ⟨_, rfl, rfl⟩
      | 73, _ => exact ⟨_, rfl, isI_of _ (by unfold InG; decide)⟩
      | 74, _ => exact ⟨_, rfl, isI_of _ (by unfold InG; decide)⟩
      | q + 75, h => omega
    by_cases h5 : j = 5
    · subst h5
      refine ⟨⟨_, rfl⟩, rfl, fun q hq => ?_⟩
      match q, hq with
      | 0, _ => exact ⟨_, rfl, isI_of _ (by unfold InG; decide)⟩
      | 1, _ => exact ⟨_, rfl, isI_of _ (by unfold InG; decide)⟩
      | 2, _ => exact ⟨_, rfl, rfl⟩
      | 3, _ => exact ⟨_, rfl, isI_of _ (by unfold InG; decide)⟩
      | 4, _ => exact ⟨_, rfl, isI_of _ (by unfold InG; decide)⟩
      | 5, _ => exact ⟨_, rfl, isI_of _ (by unfold InG; decide)⟩
      | 6, _ => exact ⟨_, rfl, isI_of _ (by unfold InG; decide)⟩
      | 7, _ => exact ⟨_, rfl, rfl⟩
      | 8, _ => exact ⟨_, rfl, isI_of _ (by unfold InG; decide)⟩
      | 9, _ => exact ⟨_, rfl, isI_of _ (by unfold InG; decide)⟩
      | 10, _ => exact ⟨_, rfl, isI_of _ (by unfold InG; decide)⟩
      | 11, _ => exact ⟨_, rfl, isI_of _ (by unfold InG; decide)⟩
      | 12, _ => exact ⟨_, rfl, rfl⟩
      | 13, _ => exact ⟨_, rfl, isI_of _ (by unfold InG; decide)⟩
      | 14, _ => exact ⟨_, rfl, isI_of _ (by unfold InG; decide)⟩
      | 15, _ => exact ⟨_, rfl, isI_of _ (by unfold InG; decide)⟩
      | 16, _ => exact ⟨_, rfl, isI_of _ (by unfold InG; decide)⟩
      | 17, _ => exact ⟨_, rfl, rfl⟩
      | 18, _ => exact ⟨_, rfl, isI_of _ (by unfold InG; decide)⟩
      | 19, _ => exact ⟨_, rfl, isI_of _ (by unfold InG; decide)⟩
      | q + 20, h => omega
    by_cases h3 : j = 3
    · subst h3
      refine ⟨⟨_, rfl⟩, rfl, fun q hq => ?_⟩
      match q, hq with
      | 0, _ => exact ⟨_, rfl, rfl⟩
      | 1, _ => exact ⟨_, rfl, rfl⟩
      | 2, _ => exact ⟨_, rfl, isI_of _ (by unfold InG; decide)⟩
      | 3, _ => exact ⟨_, rfl, isI_of _ (by unfold InG; decide)⟩
      | 4, _ => exact ⟨_, rfl, rfl⟩
      | 5, _ => exact ⟨_, rfl, rfl⟩
      | 6, _ => exact ⟨_, rfl, rfl⟩
      | 7, _ => exact ⟨_, rfl, isI_of _ (by unfold InG; decide)⟩
      | 8, _ => exact ⟨_, rfl, isI_of _ (by unfold InG; decide)⟩
      | 9, _ => exact ⟨_, rfl, rfl⟩
      | 10, _ => exact ⟨_, rfl, rfl⟩
      | 11, _ => exact ⟨_, rfl, rfl⟩
      | 12, _ => exact ⟨_, rfl, isI_of _ (by unfold InG; decide)⟩
      | 13, _ => exact ⟨_, rfl, isI_of _ (by unfold InG; decide)⟩
      | 14, _ => exact ⟨_, rfl, rfl⟩
      | 15, _ => exact ⟨_, rfl, rfl⟩
      | 16, _ => exact ⟨_, rfl, rfl⟩
      | 17, _ => exact ⟨_, rfl, isI_of _ (by unfold InG; decide)⟩
      | 18, _ => exact ⟨_, rfl, isI_of _ (by unfold InG; decide)⟩
      | 19, _ => exact ⟨_, rfl, rfl⟩
      | q + 20, h => omega
    by_cases h6 : j = 6
    · subst h6
      refine ⟨⟨_, rfl⟩, rfl, fun q hq => ?_⟩
      match q, hq with
      | 0, _ => exact ⟨_, rfl, rfl⟩
      | 1, _ => exact ⟨_, rfl, rfl⟩
      | 2, _ => exact ⟨_, rfl, isI_of _ (by unfold InG; decide)⟩
      | 3, _ => exact ⟨_, rfl, isI_of _ (by unfold InG; decide)⟩
      | 4, _ => exact ⟨_, rfl, rfl⟩
      | q + 5, h => omega
    rw [rk_ints h0 h2 h3 h5 h6]
    show IRw 6 (baseW B j)
    unfold baseW
    split
    · contradiction
    · contradiction
    · contradiction
    · exact ⟨[1, 2], rfl, rfl, rfl, rfl, by unfold InG; decide, by decide⟩
    · contradiction
    · contradiction
    · exact ⟨[1], rfl, rfl, rfl, rfl, by unfold InG; decide, by decide⟩
    · exact ⟨[3, 9], rfl, rfl, rfl, rfl, by unfold InG; decide, by decide⟩
    · exact ⟨[4, 0], rfl, rfl, rfl, rfl, by unfold InG; decide, by decide⟩
    · exact ⟨[2], rfl, rfl, rfl, rfl, by unfold InG; decide, by decide⟩
    · exact ⟨[4, 6], rfl, rfl, rfl, rfl, by unfold InG; decide, by decide⟩
    · exact ⟨[7], rfl, rfl, rfl, rfl, by unfold InG; decide, by decide⟩
    · exact ⟨[4, 11], rfl, rfl, rfl, rfl, by unfold InG; decide, by decide⟩
    · exact ⟨[2, 4, 0], rfl, rfl, rfl, rfl, by unfold InG; decide, by decide⟩
    · exact ⟨[2, 3], rfl, rfl, rfl, rfl, by unfold InG; decide, by decide⟩
    · exact ⟨[12], rfl, rfl, rfl, rfl, by unfold InG; decide, by decide⟩
    · exact ⟨[12, 5], rfl, rfl, rfl, rfl, by unfold InG; decide, by decide⟩
    · exact ⟨[0], rfl, rfl, rfl, rfl, by unfold InG; decide, by decide⟩
    · exact ⟨[1, 0, 2], rfl, rfl, rfl, rfl, by unfold InG; decide, by decide⟩
    · exact ⟨[0, 1, 2, 3], rfl, rfl, rfl, rfl, by unfold InG; decide, by decide⟩
    · exact ⟨[1], rfl, rfl, rfl, rfl, by unfold InG; decide, by decide⟩
    · exact ⟨[4, 5], rfl, rfl, rfl, rfl, by unfold InG; decide, by decide⟩
    · exact ⟨[0, 2], rfl, rfl, rfl, rfl, by unfold InG; decide, by decide⟩
    · exact ⟨[2, 3], rfl, rfl, rfl, rfl, by unfold InG; decide, by decide⟩
    · exact ⟨[11, 6, 7, 8, 10, 9], rfl, rfl, rfl, rfl, by unfold InG; decide, by decide⟩
    · exact ⟨[1], rfl, rfl, rfl, rfl, by unfold InG; decide, by decide⟩
    · exact ⟨[1], rfl, rfl, rfl, rfl, by unfold InG; decide, by decide⟩
    · exact ⟨[12, 13, 14], rfl, rfl, rfl, rfl, by unfold InG; decide, by decide⟩
    · exact ⟨[1], rfl, rfl, rfl, rfl, by unfold InG; decide, by decide⟩
    · exact ⟨[0, 1, 2, 3], rfl, rfl, rfl, rfl, by unfold InG; decide, by decide⟩
    · exact ⟨[], rfl, rfl, rfl, rfl, by unfold InG; decide, by decide⟩
  · match f, hf with
    | 0, _ =>
      match id, hid with
      | 0, _ => exact ⟨0, by decide, [0, 1, 2, 3], rfl, by decide⟩
      | 1, _ => exact ⟨0, by decide, [0, 1, 2, 3], rfl, by decide⟩
      | 2, _ => exact ⟨0, by decide, [0, 1, 2, 3], rfl, by decide⟩
      | 3, _ => exact ⟨0, by decide, [0, 1, 2, 3], rfl, by decide⟩
      | 4, _ => exact ⟨1, by decide, [4, 5], rfl, by decide⟩
      | 5, _ => exact ⟨1, by decide, [4, 5], rfl, by decide⟩
      | 6, _ => exact ⟨2, by decide, [11, 6, 7, 8, 10, 9], rfl, by decide⟩
      | 7, _ => exact ⟨2, by decide, [11, 6, 7, 8, 10, 9], rfl, by decide⟩
      | 8, _ => exact ⟨2, by decide, [11, 6, 7, 8, 10, 9], rfl, by decide⟩
      | 9, _ => exact ⟨2, by decide, [11, 6, 7, 8, 10, 9], rfl, by decide⟩
      | 10, _ => exact ⟨2, by decide, [11, 6, 7, 8, 10, 9], rfl, by decide⟩
      | 11, _ => exact ⟨2, by decide, [11, 6, 7, 8, 10, 9], rfl, by decide⟩
      | 12, _ => exact ⟨3, by decide, [12, 13, 14], rfl, by decide⟩
      | 13, _ => exact ⟨3, by decide, [12, 13, 14], rfl, by decide⟩
      | 14, _ => exact ⟨3, by decide, [12, 13, 14], rfl, by decide⟩
      | id + 15, h => exact absurd h (by unfold insM; simp)
    | 1, _ =>
      match id, hid with
      | 0, _ => exact ⟨0, by decide, [0, 1, 2, 3], rfl, by decide⟩
      | 1, _ => exact ⟨0, by decide, [0, 1, 2, 3], rfl, by decide⟩
      | 2, _ => exact ⟨0, by decide, [0, 1, 2, 3], rfl, by decide⟩
      | 3, _ => exact ⟨0, by decide, [0, 1, 2, 3], rfl, by decide⟩
      | id + 4, h => exact absurd h (by unfold insM; simp)
    | f + 2, h => omega
end Go.Proofs.Ythhjhdmdfneegaa
