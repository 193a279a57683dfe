/-
  Programs as bytes: the reference's texts, read.
-/
import Derived.Test.YthjlpbglnnebkaaCeC
import Derived.StillTailTactics
namespace Go.Proofs.Ythjlpbglnnebkaa
open Go.RowKit Go.Shelf
set_option linter.unusedVariables false
set_option linter.unusedSimpArgs false

set_option maxRecDepth 100000 in
set_option maxHeartbeats 8000000 in
theorem rtext_r (l : List UInt8) (b : Bool) (n : Int) (hl : l.length ≤ 1099511627776) (w : World) : Calls Try.prog 65 #[.agg #[.string ⟨l.toArray⟩, .bool b], .int .i64 n] w fun e w' => ∃ (l' : List UInt8) (b' : Bool), e = .returned (.tuple #[.agg #[.string ⟨l'.toArray⟩, .bool b'], .string ⟨(textS n (rR l b)).1.toArray⟩]) ∧ rR l' b' = (textS n (rR l b)).2 ∧ l'.length ≤ l.length ∧ Below w.heap.size w w' := by
  obtain ⟨W1, hW1, hbW1, hzW1, h0W1⟩ := gr_one w #[.string ⟨l.toArray⟩, .bool b] 85
  obtain ⟨W2, hW2, hbW2, hzW2, h0W2⟩ := gr_one W1 #[.string ⟨#[]⟩, .bool false] 85
  rw [hzW1] at h0W2
  have h1W2 := (hbW2.block w.heap.size (by omega)).trans h0W1
  have hbw : Below w.heap.size w W2 := hbW1.trans (hbW2.mono hbW1.size)
  have x0 := Lib.cell_of_heap h1W2 0
  have x1 := Lib.cell_of_heap h1W2 1
  have f0 := Lib.frozen_of_heap h0W2 0
  have f1 := Lib.frozen_of_heap h0W2 1
  have y0 := Lib.cell_of_heap h0W2 0
  have y1 := Lib.cell_of_heap h0W2 1
  have HZ : Hid (∀ (s : ByteArray) (c : Bool), ∃ Z, Z = (W2.setCell ⟨w.heap.size + 1, 0, none⟩ (.string s)).setCell ⟨w.heap.size + 1, 1, none⟩ (.bool c) ∧ Z.heap[w.heap.size + 1]? = some (.cells #[.string s, .bool c] 85 (0, 0)) ∧ Below w.heap.size w Z) := Lib.hid fun s c => ⟨_, rfl, gr_put (gr_put h0W2 0 _) 1 _, (hbw.setCell (p := ⟨w.heap.size + 1, 0, none⟩) (Nat.le_succ _) _).setCell (p := ⟨w.heap.size + 1, 1, none⟩) (Nat.le_succ _) _⟩
  have h0V : W2.drew.heap[w.heap.size + 1]? = some (.cells #[.string ⟨#[]⟩, .bool false] 85 (0, 0)) := h0W2
  have h1V : W2.drew.heap[w.heap.size]? = some (.cells #[.string ⟨l.toArray⟩, .bool b] 85 (0, 0)) := h1W2
  have HZV : Hid (∀ (s : ByteArray) (c : Bool), ∃ Z, Z = ((W2.setCell ⟨w.heap.size + 1, 0, none⟩ (.string s)).setCell ⟨w.heap.size + 1, 1, none⟩ (.bool c)).drew ∧ Z.heap[w.heap.size + 1]? = some (.cells #[.string s, .bool c] 85 (0, 0)) ∧ Below w.heap.size w Z ∧ Z.cell? ⟨w.heap.size, 0, none⟩ = some (.string ⟨l.toArray⟩)) := Lib.hid fun s c => ⟨_, rfl, gr_put (gr_put h0W2 0 _) 1 _, below_dr ((hbw.setCell (p := ⟨w.heap.size + 1, 0, none⟩) (Nat.le_succ _) _).setCell (p := ⟨w.heap.size + 1, 1, none⟩) (Nat.le_succ _) _) 1, Lib.cell_of_heap (w := (W2.setCell ⟨w.heap.size + 1, 0, none⟩ (.string s)).setCell ⟨w.heap.size + 1, 1, none⟩ (.bool c)) ((Below.heap_setCell _ _ _ _ (by simp)).trans ((Below.heap_setCell _ _ _ _ (by simp)).trans h1W2)) 0⟩
  have HV := Lib.hid (And.intro h0V h1V)
  have hsz : (⟨l.toArray⟩ : ByteArray).size = l.length := by simp [ByteArray.size]
  have HW1 := Lib.hid hW1
  have HW2 := Lib.hid hW2
  have Hbw := Lib.hid hbw
  clear hW1 hW2 hbW1 hbW2 hzW1 hzW2 h0W1 h0W2 h1W2 hbw h0V h1V
  cases b with
  | true =>
    obtain ⟨Z, hZe, hZq, hZb⟩ := HZ.out ⟨l.toArray⟩ true
    have HZe := Lib.hid hZe
    have HZq := Lib.hid hZq
    have HZb := Lib.hid hZb
    clear hZe hZq hZb
    go_enter Try.func65, Try.ntmps65
    go_upto_region 1 with fail
    rw [← HW1.out, ← HW2.out]
    go_wp2_with fail
    rw [← HZe.out]
    try simp only [Exit.inBlock, Exit.then]
    refine bodyPost_ret (results_cell_row2 rfl _ _ (w.heap.size + 1) _ rfl (run_loadVar_row _ (w.heap.size + 1) _ _ _ _ _ HZq.out Try.underlying85 rfl (by kernel_rfl))) rfl ?_
    exact ⟨l, true, rfl, rfl, Nat.le_refl _, HZb.out⟩
  | false =>
    by_cases hn : n < 0
    · have hS : textS n (rR l false) = ([], none) := by show (if _ then _ else _) = _; rw [if_pos (.inl hn)]
      have d1 : decide (n < 0) = true := decide_eq_true hn
      obtain ⟨o, ho⟩ : ∃ o, o = textS n (rR l false) := ⟨_, rfl⟩
      rw [← ho] at hS ⊢
      have HS := Lib.hid hS
      clear hS ho hn
      obtain ⟨Z, hZe, hZq, hZb⟩ := HZ.out ⟨l.toArray⟩ true
      have HZe := Lib.hid hZe
      have HZq := Lib.hid hZq
      have HZb := Lib.hid hZb
      clear hZe hZq hZb
      go_enter Try.func65, Try.ntmps65
      go_upto_region 1 with fail
      rw [← HW1.out, ← HW2.out]
      go_wp2_with fail
      rw [← HZe.out]
      try simp only [Exit.inBlock, Exit.then]
      refine bodyPost_ret (results_cell_row2 rfl _ _ (w.heap.size + 1) _ rfl (run_loadVar_row _ (w.heap.size + 1) _ _ _ _ _ HZq.out Try.underlying85 rfl (by kernel_rfl))) rfl ?_
      rw [HS.out]
      exact ⟨l, true, rfl, rfl, Nat.le_refl _, HZb.out⟩
    · have d1 : decide (n < 0) = false := decide_eq_false hn
      by_cases hgt : (l.length : Int) < n
      · have hS : textS n (rR l false) = ([], none) := by show (if _ then _ else _) = _; rw [if_pos (.inr hgt)]
        have d2 : decide (n > (l.length : Int)) = true := decide_eq_true hgt
        obtain ⟨o, ho⟩ : ∃ o, o = textS n (rR l false) := ⟨_, rfl⟩
        rw [← ho] at hS ⊢
        have HS := Lib.hid hS
        clear hS ho hn
        obtain ⟨Z, hZe, hZq, hZb⟩ := HZ.out ⟨l.toArray⟩ true
        have HZe := Lib.hid hZe
        have HZq := Lib.hid hZq
        have HZb := Lib.hid hZb
        clear hZe hZq hZb
        go_enter Try.func65, Try.ntmps65
        go_upto_region 1 with fail
        rw [← HW1.out, ← HW2.out]
        go_wp2_with fail
        rw [← HZe.out]
        try simp only [Exit.inBlock, Exit.then]
        refine bodyPost_ret (results_cell_row2 rfl _ _ (w.heap.size + 1) _ rfl (run_loadVar_row _ (w.heap.size + 1) _ _ _ _ _ HZq.out Try.underlying85 rfl (by kernel_rfl))) rfl ?_
        rw [HS.out]
        exact ⟨l, true, rfl, rfl, Nat.le_refl _, HZb.out⟩
      · obtain ⟨k, rfl⟩ : ∃ k : Nat, n = k := ⟨n.toNat, by omega⟩
        have hk : k ≤ l.length := by omega
        have hS : textS (k : Int) (rR l false) = (l.take k, some (l.drop k)) := by show (if _ then _ else _) = _; rw [if_neg (by omega), Int.toNat_natCast]
        have d2 : decide ((k : Int) > (l.length : Int)) = false := decide_eq_false (by omega)
        have d3 : decide (l.length < k) = false := decide_eq_false (by omega)
        obtain ⟨o, ho⟩ : ∃ o, o = textS (k : Int) (rR l false) := ⟨_, rfl⟩
        rw [← ho] at hS ⊢
        have HS := Lib.hid hS
        have Hdl : Hid ((l.drop k).length ≤ l.length) := Lib.hid (by simp)
        clear hS ho hn hgt
        obtain ⟨Z, hZe, hZq, hZb, hZs⟩ := HZV.out (ByteArray.extract ⟨l.toArray⟩ k l.length) false
        have HZe := Lib.hid hZe
        have HZq := Lib.hid hZq
        have HZb := Lib.hid hZb
        have HZs := Lib.hid hZs
        clear hZe hZq hZb hZs
        go_enter Try.func65, Try.ntmps65
        go_upto_region 1 with fail
        rw [← HW1.out, ← HW2.out]
        go_upto_region 3 with fail
        have s0 : W2.drew.cell? ⟨w.heap.size, 0, none⟩ = some (.string ⟨l.toArray⟩) := x0
        have s1 := HZs.out
        rw [HZe.out] at s1
        clear x1
        refine wp_region_held_drew (S := fun w' => w'.cell? ⟨w.heap.size, 0, none⟩ = some (.string ⟨l.toArray⟩)) (by kernel_rfl) s0 (fun hHeld => ?_)
        refine wpAnyH_take (i := 0) (v := ?_) rfl (by kernel_rfl) (by kernel_rfl) (by kernel_rfl) (fun _ _ _ h => h) (Or.inl ⟨by rfl, ?_⟩) (by assumption) ?_
        rotate_left
        · (intro w hSw; (try dsimp only at hSw); first | (go_simp; done) | (go_simp; with_reducible rfl))
        try simp only [Act.put, List.setIfInBounds_toArray, List.set_cons_zero, List.set_cons_succ]
        refine wpAnyH_take (i := 1) (v := ?_) rfl (by kernel_rfl) (by kernel_rfl) (by kernel_rfl) (fun _ _ _ h => h) (Or.inl ⟨by rfl, ?_⟩) (by assumption) ?_
        rotate_left
        · (intro w hSw; (try dsimp only at hSw); first | (go_simp; done) | (go_simp; with_reducible rfl))
        try simp only [Act.put, List.setIfInBounds_toArray, List.set_cons_zero, List.set_cons_succ]
        refine wpAnyH_take (i := 2) (v := ?_) rfl (by kernel_rfl) (by kernel_rfl) (by kernel_rfl) (fun _ _ _ h => h) (Or.inl ⟨by rfl, ?_⟩) (by assumption) ?_
        rotate_left
        · (intro w hSw; (try dsimp only at hSw); first | (go_simp; done) | (go_simp; with_reducible rfl))
        try simp only [Act.put, List.setIfInBounds_toArray, List.set_cons_zero, List.set_cons_succ]
        refine wpAnyH_take (i := 3) (v := ?_) rfl (by kernel_rfl) (by kernel_rfl) (by kernel_rfl) (fun _ _ _ h => h) (Or.inl ⟨by rfl, ?_⟩) (by assumption) ?_
        rotate_left
        · (intro w hSw; (try dsimp only at hSw); first | (go_simp; done) | (go_simp; with_reducible rfl))
        try simp only [Act.put, List.setIfInBounds_toArray, List.set_cons_zero, List.set_cons_succ]
        refine wpAnyH_take (i := 4) (v := ?_) rfl (by kernel_rfl) (by kernel_rfl) (by kernel_rfl) (fun _ _ _ h => h) (Or.inl ⟨by rfl, ?_⟩) (by assumption) ?_
        rotate_left
        · (intro w hSw; (try dsimp only at hSw); first | (go_simp; done) | (go_simp; with_reducible rfl))
        try simp only [Act.put, List.setIfInBounds_toArray, List.set_cons_zero, List.set_cons_succ]
        refine wpAnyH_take (i := 5) (v := ?_) rfl (by kernel_rfl) (by kernel_rfl) (by kernel_rfl) (fun _ _ _ h => h) (Or.inl ⟨by rfl, ?_⟩) (by assumption) ?_
        rotate_left
        · (intro w hSw; (try dsimp only at hSw); first | (go_simp; done) | (go_simp; with_reducible rfl))
        try simp only [Act.put, List.setIfInBounds_toArray, List.set_cons_zero, List.set_cons_succ]
        refine wpAnyH_take (i := 6) (v := ?_) rfl (by kernel_rfl) (by kernel_rfl) (by kernel_rfl) (fun _ _ _ h => h) (Or.inl ⟨by rfl, ?_⟩) (by assumption) ?_
        rotate_left
        · (intro w hSw; (try dsimp only at hSw); first | (go_simp; done) | (go_simp; with_reducible rfl))
        try simp only [Act.put, List.setIfInBounds_toArray, List.set_cons_zero, List.set_cons_succ]
        refine wpAnyH_take (i := 7) (v := ?_) rfl (by kernel_rfl) (by kernel_rfl) (by kernel_rfl) (fun _ _ _ h => h) (Or.inl ⟨by rfl, ?_⟩) (by assumption) ?_
        rotate_left
        · (intro w hSw; (try dsimp only at hSw); first | (go_simp; done) | (go_simp; with_reducible rfl))
        try simp only [Act.put, List.setIfInBounds_toArray, List.set_cons_zero, List.set_cons_succ]
        refine wpAnyH_take (i := 8) (v := ?_) rfl (by kernel_rfl) (by kernel_rfl) (by kernel_rfl) (fun _ _ _ h => h) (Or.inl ⟨by rfl, ?_⟩) (by assumption) ?_
        rotate_left
        · (intro w hSw; (try dsimp only at hSw); first | (go_simp; done) | (go_simp; with_reducible rfl))
        try simp only [Act.put, List.setIfInBounds_toArray, List.set_cons_zero, List.set_cons_succ]
        refine wpAnyH_ready (rs := [9]) (by kernel_rfl) (by simp) ?_
        refine AllReadyH.cons rfl (fun K hK => ?_) (AllReadyH.nil)
        go_simp
        refine hK.out _ _ ?_ (fun hHeld => ?_)
        · ((try dsimp only); first | with_reducible exact s0 | with_reducible exact s1)
        clear hK K
        try simp only [Act.put, List.setIfInBounds_toArray, List.set_cons_zero, List.set_cons_succ]
        refine wpAnyH_ready (rs := [10]) (by kernel_rfl) (by simp) ?_
        refine AllReadyH.cons rfl (fun K hK => ?_) (AllReadyH.nil)
        go_simp
        refine hK.out _ _ ?_ (fun hHeld => ?_)
        · ((try dsimp only); first | with_reducible exact s0 | with_reducible exact s1)
        clear hK K
        try simp only [Act.put, List.setIfInBounds_toArray, List.set_cons_zero, List.set_cons_succ]
        refine wpAnyH_done (by kernel_rfl) ?_ _
        skip
        go_wp2_with fail
        rw [← HZe.out]
        try simp only [Exit.inBlock, Exit.then]
        refine bodyPost_ret (results_cell_row2 rfl _ _ (w.heap.size + 1) _ rfl (run_loadVar_row _ (w.heap.size + 1) _ _ _ _ _ HZq.out Try.underlying85 rfl (by kernel_rfl))) rfl ?_
        rw [HS.out, ext_drop]
        refine ⟨l.drop k, false, ?_, rfl, Hdl.out, HZb.out⟩
        first | rfl | (rw [← ext_take]; rfl) | (simp only [ext_take]; rfl)
end Go.Proofs.Ythjlpbglnnebkaa
