/-
  A whole expression.
  All readers of expressions, with any fuel.
-/
import Derived.Test.YtlgpbllkhbgppaaGreatDoorJn20
import Derived.Test.YtlgpbllkhbgppaaGreatDoorJn21
namespace Go.Proofs.YtlgpbllkhbgppaaGreatDoor
set_option linter.unusedVariables false
set_option linter.unusedSimpArgs false
open Go.RowKit

set_option maxRecDepth 100000 in
set_option maxHeartbeats 4000000 in
theorem expr_any (k : Nat) (HBe : BeC k) (g : Nat) (s : PS) (r : Part × PS) (w : World) (hr : exprK (k + 1) s = some r) (hok : Ok (k + 1) s) (h : PAt w g s) :
    Calls Tryz.prog 128 #[.pointer (some ⟨g, 0, none⟩)] w (WholePost g NoB w r) := by
  have hgl := h.lt
  simp only [exprK] at hr
  obtain ⟨W, hW, hbW, hzW, hbR⟩ := one_al w #[.int .i64 0, .int .i64 0, .int .i64 0, .int .i64 0, .int .i64 0, .string ⟨#[]⟩, .slice none 0 0, .int .i64 0] 181
  have hX2 := HBe g 1 s r W hr (hok.less (Nat.le_succ k)) (by decide) (by decide) (h.keep hbW)
  have HR2 := Lib.hid hbR
  have hz2 : w.heap.size < W.heap.size := by omega
  have HSo : Hid (∀ b, NoB b → w.heap.size + 1 ≤ b ∧ b < W.heap.size) := Lib.hid (fun b hb => absurd hb (by unfold NoB; simp))
  have Hbut2 : Hid (But g w W) := Lib.hid (But.of_below hbW)
  have HW := Lib.hid hW
  rw [hW] at hX2
  clear hr hok h hbW hbR HBe hW
  go_enter Tryz.func128, Tryz.ntmps128
  go_wp2_with (first | (go_at_call 136; refine hX2.mono ?_; rintro e w3 ⟨v, rfl, hv, hp3, hb3⟩; rw [← HW.out] at hv hb3; obtain ⟨vk, va, vt, vo, vn, vs, kids, PK, c, d, hre, rfl, hk⟩ := hv; have HR3 := (hb3.block (w.heap.size) (by omega) (by omega)).trans HR2.out; obtain ⟨r0, r1, r2, r3, r4, r5, r6, r7, rf⟩ := cells8 HR3; have hz3 := Nat.lt_of_lt_of_le hz2 hb3.size; have Hv := Lib.hid (PartV.intro vk va vt vo vn vs kids PK c d hre hk); have Hp3 := Lib.hid hp3; have Hb3 := Lib.hid hb3; clear hk hb3 HR3 hX2 hp3 hre; unfold partV))
  refine bodyPost_ret (v := partV vk va vt vo vn vs PK kids.length (kids.length + c) d) (by simp [results, Tryz.results128, go_sem, partV, r0, r1, r2, r3, r4, r5, r6, r7]) rfl ?_
  refine own_end (N := 1) hgl ?_ Hv.out Hp3.out (Hbut2.out.trans Hb3.out) ?_ ?_
  · intro b hb'
    have := Hb3.out.size
    rcases hb' with h1 | ⟨h1, h2⟩
    · exact ⟨(HSo.out b h1).1, by have := (HSo.out b h1).2; omega⟩
    · exact ⟨by omega, by omega⟩
  · intro b hb1
    repeat (with_reducible refine (Below.heap_setCell _ _ _ _ (by simp; omega)).trans ?_)
    rfl
  · repeat (first | with_reducible exact Below.refl _ _ | with_reducible refine Below.setCell ?_ (by first | (simp; done) | (simp; omega)) _)
end Go.Proofs.YtlgpbllkhbgppaaGreatDoor
namespace Go.Proofs.YtlgpbllkhbgppaaGreatDoor
set_option linter.unusedVariables false
set_option linter.unusedSimpArgs false
open Go.RowKit

structure AllC (k : Nat) : Prop where
  ex : ExC k
  be : BeC k
  ah : AhC k
  fi : FiC k
  ca : CaC k
  ke : KeC k
theorem allC_zero : AllC 0 where
  ex := fun g s r w hr => by simp [exprK] at hr
  be := fun g least s r w hr => by simp [betwK] at hr
  ah := fun g s r w hr => by simp [aheadK] at hr
  fi := fun g s r w hr => by simp [firstK] at hr
  ca := fun g t s r w hr => by simp [calledK] at hr
  ke := fun g t s r w hr => by simp [keptK] at hr
theorem allC_succ (k : Nat) (ih : ∀ j, j ≤ k → AllC j) : AllC (k + 1) where
  ex := fun g s r w hr hok h => expr_any k (ih k (Nat.le_refl _)).be g s r w hr hok h
  be := fun g least s r w hr hok h0 h1 h => between_any k (ih k (Nat.le_refl _)).ah (fun j hj => (ih j (Nat.le_of_lt hj)).be) g least s r w hr hok h0 h1 h
  ah := fun g s r w hr hok h => ahead_any k (ih k (Nat.le_refl _)).fi (indexed_any k (fun j hj => prs_of j (fun i hi => (ih i (by omega)).ex))) (ih k (Nat.le_refl _)).ah g s r w hr hok h
  fi := fun g s r w hr hok h => first_any k (ih k (Nat.le_refl _)).ex (ih k (Nat.le_refl _)).ca (ih k (Nat.le_refl _)).ke g s r w hr hok h
  ca := fun g t s r w hr hok h => called_any k (prs_of k (fun j hj => (ih j (by omega)).ex)) g t s r w hr hok h
  ke := fun g t s r w hr hok h => keptP_any k (prs_of k (fun j hj => (ih j (by omega)).ex)) g t s r w hr hok h
theorem allC_le : ∀ k, ∀ j, j ≤ k → AllC j
  | 0, j, h => by obtain rfl : j = 0 := by omega
                  exact allC_zero
  | k + 1, j, h => by
    rcases Nat.lt_or_ge j (k + 1) with h1 | h1
    · exact allC_le k j (by omega)
    · obtain rfl : j = k + 1 := by omega
      exact allC_succ k (allC_le k)
theorem ex_c (k : Nat) : ExC k := (allC_le k k (Nat.le_refl _)).ex
theorem ca_c (k : Nat) : CaC k := (allC_le k k (Nat.le_refl _)).ca
theorem in_c (k : Nat) : InC k := indexed_any k (fun j _ => prs_of j (fun i _ => ex_c i))
end Go.Proofs.YtlgpbllkhbgppaaGreatDoor
