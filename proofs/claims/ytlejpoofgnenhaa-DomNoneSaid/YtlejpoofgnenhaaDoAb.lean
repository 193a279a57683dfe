/-
  The law DomNone.
-/
import Derived.Test.YtlejpoofgnenhaaDoAa
namespace Go.Proofs.Ytlejpoofgnenhaa
open Go.RowKit Go.Shelf
set_option linter.unusedVariables false
set_option linter.unusedSimpArgs false

/-- The tree of no blocks. -/
def Tree0 (w : World) (tp : Nat) : Prop := w.heap[tp]? = some (.cells #[.slice none 0 0, .slice none 0 0, .slice none 0 0, .slice none 0 0, .slice none 0 0, .slice none 0 0, .slice none 0 0, .slice none 0 0, .slice none 0 0] 63 (0, 0))
theorem Tree0.keep {w w' : World} {tp : Nat} (h : Tree0 w tp) (hb : Below w.heap.size w w') : Tree0 w' tp := (hb.block tp (gr_in h)).trans h
theorem order_none : (orderP []).length = 0 := by kernel_rfl
set_option maxRecDepth 100000 in
set_option maxHeartbeats 4000000 in
theorem new_zero (w : World) : Calls Try.prog 14 #[.agg #[.string ⟨#[]⟩, .slice none 0 0, .int .i64 0, .slice none 0 0, .slice none 0 0]] w fun e w' => ∃ tp, e = .returned (.pointer (some ⟨tp, 0, none⟩)) ∧ Tree0 w' tp ∧ Below w.heap.size w w' := by
  obtain ⟨W1, hW1, hbW1, hzW1, h0W1⟩ := gr_one w #[.string ⟨#[]⟩, .slice none 0 0, .int .i64 0, .slice none 0 0, .slice none 0 0] 27
  obtain ⟨x0, x1, x2, x3, x4, -⟩ := gr_five h0W1
  have hf : GF W1.heap.size W1 (.agg #[.string ⟨#[]⟩, .slice none 0 0, .int .i64 0, .slice none 0 0, .slice none 0 0]) [] := by
    refine ⟨⟨#[]⟩, none, 0, 0, 0, none, 0, 0, none, 0, 0, rfl, ?_, rfl⟩
    exact ⟨none, 0, rfl, by simp, by simp, fun h => by simp at h⟩
  have hO := order_g W1.heap.size _ [] W1 hf (Nat.le_refl _)
  rw [order_none] at hO
  have HW1 := Lib.hid hW1
  have HbW1 := Lib.hid hbW1
  clear hW1 hbW1 hzW1 h0W1 hf
  go_enter Try.func14, Try.ntmps14
  go_upto_region 1 with fail
  rw [← HW1.out]
  go_upto_region 2 with (go_at_call 26; refine hO.mono ?_; rintro e w2 ⟨vo, rfl, ho, hb2⟩; obtain ⟨A0, c0, rfl⟩ := gr_slice ho; have Hb2 := Lib.hid hb2; clear ho hb2 hO)
  clear x0 x1 x2 x3 x4
  obtain ⟨W3, hW3, hbW3, hzW3, h0W3⟩ := gr_one w2 #[.slice none 0 0, .slice none 0 0, .slice none 0 0, .slice none 0 0, .slice none 0 0, .slice none 0 0, .slice none 0 0, .slice none 0 0, .slice none 0 0] 63
  have HW3 := Lib.hid hW3
  have HT := Lib.hid (show Tree0 W3 w2.heap.size from h0W3)
  have HB3 := Lib.hid hbW3
  clear hW3 hbW3 hzW3 h0W3
  go_wp2
  rw [← HW3.out]
  go_ret
  exact ⟨_, rfl, HT.out, HbW1.out.trans ((Hb2.out.trans (HB3.out.mono Hb2.out.size)).mono HbW1.out.size)⟩
set_option maxRecDepth 100000 in
theorem reached_zero (tp : Nat) (b : Int) (w : World) (h : Tree0 w tp) : Calls Try.prog 19 #[.pointer (some ⟨tp, 0, none⟩), .int .i64 b] w fun e w' => e = .returned (.bool false) ∧ w' = w := by
  have c4 := Lib.cell_of_heap h 4
  clear h
  by_cases hb0 : 0 ≤ b
  · have d0 : decide (b ≥ 0) = true := decide_eq_true hb0
    have d1 : decide (b < 0) = false := decide_eq_false (by omega)
    go_enter Try.func19, Try.ntmps19
    go_wp2
    go_ret
    exact ⟨rfl, rfl⟩
  · have d0 : decide (b ≥ 0) = false := decide_eq_false hb0
    go_enter Try.func19, Try.ntmps19
    go_wp2
    go_ret
    exact ⟨rfl, rfl⟩
theorem up_zero (tp : Nat) (b : Int) (w : World) (h : Tree0 w tp) : Calls Try.prog 18 #[.pointer (some ⟨tp, 0, none⟩), .int .i64 b] w fun e w' => e = .returned (.int .i64 (-1)) ∧ w' = w := by
  have hR := reached_zero tp b w h
  clear h
  go_enter Try.func18, Try.ntmps18
  go_wp2_with (go_at_call 19; refine hR.mono ?_; rintro e w1 ⟨rfl, rfl⟩; clear hR)
  go_ret
  exact ⟨rfl, rfl⟩
theorem order_zero (tp : Nat) (w : World) (h : Tree0 w tp) : Calls Try.prog 22 #[.pointer (some ⟨tp, 0, none⟩)] w fun e w' => e = .returned (.slice none 0 0) ∧ w' = w := by
  have c0 := Lib.cell_of_heap h 0
  have hC := slices_Clone_int_nil 0 0 w
  clear h
  go_enter Try.func22, Try.ntmps22
  go_wp2_with (go_at_call 36; refine hC.mono ?_; rintro e w1 ⟨rfl, rfl⟩; clear hC)
  go_ret
  exact ⟨rfl, rfl⟩
set_option maxRecDepth 100000 in
set_option maxHeartbeats 8000000 in
theorem domNone_any (b : Int) (w : World) : Calls Try.prog 9 #[.int .i64 b] w fun e w' => e = .returned (.bool true) ∧ Below w.heap.size w w' := by
  have hN := new_zero w
  go_enter Try.func9, Try.ntmps9
  go_upto_region 3 with (go_at_call 14; refine hN.mono ?_; rintro e w1 ⟨tp, rfl, ht, hb1⟩; have hA := awake9_any w1; have Ht := Lib.hid ht; have Hb1 := Lib.hid hb1; clear ht hb1 hN)
  have HA := Lib.hid hA
  clear hA
  go_wp2_with (first
    | (go_at_call 17; refine HA.out.mono ?_; rintro e w2 ⟨rfl, hb2⟩; have Hb2 := Lib.hid hb2; have hU := up_nil b w2; have HOv := Lib.hid (over_nil b b w2); clear hb2)
    | (go_at_call 18; (with_reducible refine hU.mono ?_); rintro e w3 ⟨rfl, hw3⟩; rw [hw3]; clear hw3 w3 hU)
    | (go_at_call 16; (with_reducible refine HOv.out.mono ?_); rintro e w3 ⟨rfl, q, rfl⟩; have hRe := reached_nil b (w2.drewN q); have hKi := kids_nil b (w2.drewN q); have hOr := order_nil (w2.drewN q); have hCo := common_nil b b (w2.drewN q); have hFr := frontier_nil b (w2.drewN q); have HT2 := Ht.out.keep (Hb2.out.trans ((below_drewN w2 q).mono Hb2.out.size)); have hUz := up_zero tp b (w2.drewN q) HT2; have hOz := order_zero tp (w2.drewN q) HT2; have HT3 := Lib.hid HT2; clear HT2)
    | (go_at_call 19; (with_reducible refine hRe.mono ?_); rintro e w3 ⟨rfl, hw3⟩; rw [hw3]; clear hw3 w3 hRe)
    | (go_at_call 23; (with_reducible refine hKi.mono ?_); rintro e w3 ⟨rfl, hw3⟩; rw [hw3]; clear hw3 w3 hKi)
    | (go_at_call 22; (with_reducible refine hOr.mono ?_); rintro e w3 ⟨rfl, hw3⟩; rw [hw3]; clear hw3 w3 hOr)
    | (go_at_call 24; (with_reducible refine hCo.mono ?_); rintro e w3 ⟨rfl, hw3⟩; rw [hw3]; clear hw3 w3 hCo)
    | (go_at_call 25; (with_reducible refine hFr.mono ?_); rintro e w3 ⟨rfl, hw3⟩; rw [hw3]; clear hw3 w3 hFr)
    | (go_at_call 18; (with_reducible refine hUz.mono ?_); rintro e w3 ⟨rfl, hw3⟩; rw [hw3]; clear hw3 w3 hUz)
    | (go_at_call 22; (with_reducible refine hOz.mono ?_); rintro e w3 ⟨rfl, hw3⟩; rw [hw3]; clear hw3 w3 hOz))
  go_ret
  exact ⟨rfl, Hb1.out.trans ((Hb2.out.trans ((below_drewN w2 q).mono Hb2.out.size)).mono Hb1.out.size)⟩
end Go.Proofs.Ytlejpoofgnenhaa
