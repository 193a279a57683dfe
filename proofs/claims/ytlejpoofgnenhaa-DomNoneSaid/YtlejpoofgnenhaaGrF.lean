/-
  A row is reversed.
-/
import Derived.Test.YtlejpoofgnenhaaGrE
namespace Go.Proofs.Ytlejpoofgnenhaa
open Go.RowKit
set_option linter.unusedVariables false
set_option linter.unusedSimpArgs false

/-- The first i and the last i exchanged. -/
def revTo (xs : List Value) (i : Nat) : List Value := xs.mapIdx fun j x => if j < i ∨ xs.length - 1 - i < j then xs.getD (xs.length - 1 - j) x else x
theorem revTo_len (xs : List Value) (i : Nat) : (revTo xs i).length = xs.length := by simp [revTo]
theorem revTo_zero (xs : List Value) : revTo xs 0 = xs := by
  apply List.ext_getElem (by simp [revTo])
  intro j h1 h2
  simp [revTo]
  intro h
  omega
theorem revTo_at (xs : List Value) (i j : Nat) (h : ¬ (j < i ∨ xs.length - 1 - i < j)) : (revTo xs i)[j]? = xs[j]? := by
  unfold revTo
  rw [List.getElem?_mapIdx]
  cases hx : xs[j]? with
  | none => rfl
  | some x => simp [h]
theorem revTo_step (xs : List Value) (i : Nat) (x y : Value) (hi : 2 * i + 1 < xs.length) (hx : xs[i]? = some x) (hy : xs[xs.length - 1 - i]? = some y) : ((revTo xs i).set i y).set (xs.length - 1 - i) x = revTo xs (i + 1) := by
  apply List.ext_getElem?
  intro j
  rw [List.getElem?_set, List.getElem?_set]
  simp only [List.length_set, revTo_len]
  unfold revTo
  rw [List.getElem?_mapIdx, List.getElem?_mapIdx]
  by_cases h1 : xs.length - 1 - i = j
  · subst h1
    rw [if_pos rfl, if_pos (by omega), hy]
    simp only [Option.map_some]
    rw [if_pos (by right; omega), show xs.length - 1 - (xs.length - 1 - i) = i by omega, List.getD, hx]
    rfl
  · rw [if_neg h1]
    by_cases h2 : i = j
    · subst h2
      rw [if_pos rfl, if_pos (by omega), hx]
      simp only [Option.map_some]
      rw [if_pos (by left; omega), List.getD, hy]
      rfl
    · rw [if_neg h2]
      cases xs[j]? with
      | none => rfl
      | some z =>
        simp only [Option.map_some]
        have e : (j < i ∨ xs.length - 1 - i < j) ↔ (j < i + 1 ∨ xs.length - 1 - (i + 1) < j) := by omega
        by_cases h3 : j < i ∨ xs.length - 1 - i < j
        · rw [if_pos h3, if_pos (e.1 h3)]
        · rw [if_neg h3, if_neg (fun h => h3 (e.2 h))]
theorem revTo_end (xs : List Value) (i : Nat) (hi : xs.length ≤ 2 * i + 1) : revTo xs i = xs.reverse := by
  apply List.ext_getElem? 
  intro j
  unfold revTo
  rw [List.getElem?_mapIdx]
  by_cases hj : j < xs.length
  · rw [List.getElem?_reverse hj, List.getElem?_eq_getElem hj]
    simp only [Option.map_some]
    by_cases h : j < i ∨ xs.length - 1 - i < j
    · rw [if_pos h, List.getD, List.getElem?_eq_getElem (by omega : xs.length - 1 - j < xs.length)]
      rfl
    · rw [if_neg h]
      have : xs.length - 1 - j = j := by omega
      rw [this, List.getElem?_eq_getElem hj]
  · rw [List.getElem?_eq_none (by omega), List.getElem?_eq_none (by rw [List.length_reverse]; omega)]
    rfl

theorem grown_tr {a b c : World} {row : Option Nat} (h : a.grownBy b row) (k : b.grownBy c row) : a.grownBy c row :=
  ⟨k.os.trans h.os, k.tape.trans h.tape, k.output.trans h.output, Nat.le_trans h.size k.size, fun i hi hn => (k.block i (Nat.lt_of_lt_of_le hi h.size) hn).trans (h.block i hi hn)⟩
theorem grown_dr {a b : World} {row : Option Nat} (h : a.grownBy b row) : a.grownBy b.drew row := ⟨h.os, h.tape, h.output, h.size, h.block⟩

set_option maxRecDepth 100000 in
set_option maxHeartbeats 8000000 in
theorem rev_int (base : Nat) (v : Value) (n : Nat) (xs : List Value) (w : World) (h : w.ownsRow base 3 1 v n xs) (hb : base ≤ w.heap.size) (hn : n ≤ 1048576) (hk : ∀ u ∈ xs, ∃ q, u = Value.int .i64 q) :
    Calls Try.prog 40 #[v] w fun e w' => (∃ r, e = .returned r) ∧ w'.ownsRow base 3 1 v n xs.reverse ∧ w.grownBy w' v.ownBlock := by
  have hl : xs.length = n := by have := h.1; omega
  by_cases h0 : n ≤ 1
  · obtain ⟨A, c, rfl⟩ := gr_slice h
    have hx : xs.reverse = xs := by
      match xs, hl with
      | [], _ => rfl
      | [a], _ => rfl
      | a :: b :: l, e => simp at e; omega
    rw [hx]
    have H := Lib.hid h
    clear h hx hl
    rcases (by omega : n = 0 ∨ n = 1) with rfl | rfl
    · go_enter Try.func40, Try.ntmps40
      go_wp2
      refine wp_loop_rounds 1 ?_
      rw [rounds_succ]
      go_wp2
      go_end0
      exact ⟨⟨_, rfl⟩, H.out, World.grownBy.refl _ _⟩
    · go_enter Try.func40, Try.ntmps40
      go_wp2
      refine wp_loop_rounds 1 ?_
      rw [rounds_succ]
      go_wp2
      go_end0
      exact ⟨⟨_, rfl⟩, H.out, World.grownBy.refl _ _⟩
  · obtain ⟨g, c, rfl, hgb, hgl⟩ := h.form (by omega)
    have H := Lib.hid h
    have Hl := Lib.hid hl
    clear h hl
    go_enter Try.func40, Try.ntmps40
    go_upto_region 1 with fail
    go_loopw [2, 3] (fun u2 u3 wr => ∃ i : Nat, 2 * i ≤ n ∧ u2 = .int .i64 i ∧ u3 = .int .i64 ((n : Int) - 1 - i) ∧ Hid (wr.ownsRow base 3 1 (.slice (some ⟨g, 0, none⟩) n c) n (revTo xs i)) ∧ Hid (w.grownBy wr (some g))) (fun u2 _ _ => n - (intOf u2).toNat)
    case atStart => exact ⟨0, by omega, rfl, by simp, Lib.hid (by rw [revTo_zero]; exact H.out), Lib.hid (World.grownBy.refl _ _)⟩
    case round =>
      clear H
      obtain ⟨i, hi, rfl, rfl, HO, HG⟩ := hrel
      by_cases hlt : 2 * i + 1 < n
      · obtain ⟨x, hx⟩ : ∃ x, xs[i]? = some x := ⟨_, List.getElem?_eq_getElem (by rw [Hl.out]; omega)⟩
        obtain ⟨y, hy⟩ : ∃ y, xs[n - 1 - i]? = some y := ⟨_, List.getElem?_eq_getElem (by rw [Hl.out]; omega)⟩
        have hkx := hk x (List.mem_of_getElem? hx)
        have hky := hk y (List.mem_of_getElem? hy)
        obtain ⟨qx, rfl⟩ := hkx
        obtain ⟨qy, rfl⟩ := hky
        have hS := revTo_step xs i (.int .i64 qx) (.int .i64 qy) (by rw [Hl.out]; exact hlt) hx (by rw [Hl.out]; exact hy)
        rw [Hl.out] at hS
        have c0 : wr.cell? ⟨g, i, none⟩ = some (.int .i64 qx) := by rw [HO.out.cellAt i (by omega), revTo_at _ _ _ (by rw [Hl.out]; omega)]; exact hx
        have c1 : wr.cell? ⟨g, n - 1 - i, none⟩ = some (.int .i64 qy) := by rw [HO.out.cellAt (n - 1 - i) (by omega), revTo_at _ _ _ (by rw [Hl.out]; omega)]; exact hy
        have f0 := HO.out.frozenAt i
        have f1 := HO.out.frozenAt (n - 1 - i)
        obtain ⟨j, hj⟩ : ∃ j, j = n - 1 - i := ⟨_, rfl⟩
        have hji : (n : Int) - 1 - i = j := by omega
        rw [← hj] at c1 f1 hS
        rw [hji]
        have HS := Lib.hid hS
        have hij : i < j := by omega
        have hin : i < n := by omega
        have hjn : j < n := by omega
        have Hj := Lib.hid hj
        have Hji := Lib.hid hji
        clear hj hji hS hx hy hlt
        obtain ⟨s1, g1⟩ := HO.out.stored i (.int .i64 qy)
        obtain ⟨s2, g2⟩ := s1.stored j (.int .i64 qx)
        rw [HS.out] at s2
        obtain ⟨Z, hZ⟩ : ∃ Z, Z = ((wr.setCell ⟨g, i, none⟩ (.int .i64 qy)).setCell ⟨g, j, none⟩ (.int .i64 qx)).drew := ⟨_, rfl⟩
        have Hend : Hid (Hid (Z.ownsRow base 3 1 (.slice (some ⟨g, 0, none⟩) n c) n (revTo xs (i + 1))) ∧ Hid (w.grownBy Z (some g))) := Lib.hid ⟨Lib.hid (by rw [hZ]; exact s2), Lib.hid (by rw [hZ]; exact grown_dr (grown_tr (grown_tr HG.out g1) g2))⟩
        have HZ := Lib.hid hZ
        clear hZ s1 s2 g1 g2
        go_upto_region 3 with fail
        have gd : wr.drew.cell? ⟨g, i, none⟩ = some (.int .i64 qx) ∧ wr.drew.cell? ⟨g, j, none⟩ = some (.int .i64 qy) := ⟨c0, c1⟩
        refine wp_region_noPanic ?_
        refine wp_region_held_drew (S := fun _ => True) (by kernel_rfl) trivial (fun hHeld => ?_)
        refine wpAnyH_take (i := 0) (v := ?_) rfl (by kernel_rfl) (by kernel_rfl) (by kernel_rfl) (fun _ _ _ h => h) (Or.inl ⟨by rfl, ?_⟩) (by assumption) ?_
        rotate_left
        · (intro w hSw; (try dsimp only at hSw); first | (go_simp; done) | (go_simp; with_reducible rfl))
        try simp only [Act.put, List.setIfInBounds_toArray, List.set_cons_zero, List.set_cons_succ]
        refine wpAnyH_take (i := 1) (v := ?_) rfl (by kernel_rfl) (by kernel_rfl) (by kernel_rfl) (fun _ _ _ h => h) (Or.inl ⟨by rfl, ?_⟩) (by assumption) ?_
        rotate_left
        · (intro w hSw; (try dsimp only at hSw); first | (go_simp; done) | (go_simp; with_reducible rfl))
        try simp only [Act.put, List.setIfInBounds_toArray, List.set_cons_zero, List.set_cons_succ]
        refine wpAnyH_take (i := 2) (v := ?_) rfl (by kernel_rfl) (by kernel_rfl) (by kernel_rfl) (fun _ _ _ h => h) (Or.inl ⟨by rfl, ?_⟩) (by assumption) ?_
        rotate_left
        · (intro w hSw; (try dsimp only at hSw); first | (go_simp; done) | (go_simp; with_reducible rfl))
        try simp only [Act.put, List.setIfInBounds_toArray, List.set_cons_zero, List.set_cons_succ]
        refine wpAnyH_take (i := 3) (v := ?_) rfl (by kernel_rfl) (by kernel_rfl) (by kernel_rfl) (fun _ _ _ h => h) (Or.inl ⟨by rfl, ?_⟩) (by assumption) ?_
        rotate_left
        · (intro w hSw; (try dsimp only at hSw); first | (go_simp; done) | (go_simp; with_reducible rfl))
        try simp only [Act.put, List.setIfInBounds_toArray, List.set_cons_zero, List.set_cons_succ]
        refine wpAnyH_take (i := 4) (v := ?_) rfl (by kernel_rfl) (by kernel_rfl) (by kernel_rfl) (fun _ _ _ h => h) (Or.inl ⟨by rfl, ?_⟩) (by assumption) ?_
        rotate_left
        · (intro w hSw; (try dsimp only at hSw); first | (go_simp; done) | (go_simp; with_reducible rfl))
        try simp only [Act.put, List.setIfInBounds_toArray, List.set_cons_zero, List.set_cons_succ]
        refine wpAnyH_take (i := 5) (v := ?_) rfl (by kernel_rfl) (by kernel_rfl) (by kernel_rfl) (fun _ _ _ h => h) (Or.inl ⟨by rfl, ?_⟩) (by assumption) ?_
        rotate_left
        · (intro w hSw; (try dsimp only at hSw); first | (go_simp; done) | (go_simp; with_reducible rfl))
        try simp only [Act.put, List.setIfInBounds_toArray, List.set_cons_zero, List.set_cons_succ]
        refine wpAnyH_take (i := 6) (v := ?_) rfl (by kernel_rfl) (by kernel_rfl) (by kernel_rfl) (fun _ _ _ h => h) (Or.inl ⟨by rfl, ?_⟩) (by assumption) ?_
        rotate_left
        · (intro w hSw; (try dsimp only at hSw); first | (go_simp; done) | (go_simp; with_reducible rfl))
        try simp only [Act.put, List.setIfInBounds_toArray, List.set_cons_zero, List.set_cons_succ]
        refine wpAnyH_take (i := 8) (v := ?_) rfl (by kernel_rfl) (by kernel_rfl) (by kernel_rfl) (fun _ _ _ h => h) (Or.inl ⟨by rfl, ?_⟩) (by assumption) ?_
        rotate_left
        · (intro w hSw; (try dsimp only at hSw); first | (go_simp; done) | (go_simp; with_reducible rfl))
        try simp only [Act.put, List.setIfInBounds_toArray, List.set_cons_zero, List.set_cons_succ]
        refine wpAnyH_take (i := 9) (v := ?_) rfl (by kernel_rfl) (by kernel_rfl) (by kernel_rfl) (fun _ _ _ h => h) (Or.inl ⟨by rfl, ?_⟩) (by assumption) ?_
        rotate_left
        · (intro w hSw; (try dsimp only at hSw); first | (go_simp; done) | (go_simp; with_reducible rfl))
        try simp only [Act.put, List.setIfInBounds_toArray, List.set_cons_zero, List.set_cons_succ]
        refine wpAnyH_take (i := 10) (v := ?_) rfl (by kernel_rfl) (by kernel_rfl) (by kernel_rfl) (fun _ _ _ h => h) (Or.inl ⟨by rfl, ?_⟩) (by assumption) ?_
        rotate_left
        · (intro w hSw; (try dsimp only at hSw); first | (go_simp; done) | (go_simp; with_reducible rfl))
        try simp only [Act.put, List.setIfInBounds_toArray, List.set_cons_zero, List.set_cons_succ]
        refine wpAnyH_ready (rs := [7, 11]) (by kernel_rfl) (by simp) ?_
        refine AllReadyH.cons rfl (fun K hK => ?_) (AllReadyH.cons rfl (fun K hK => ?_) (AllReadyH.nil))
        · go_simp
          refine hK.out _ _ ?_ (fun hHeld => ?_)
          · ((try dsimp only); all_goals trivial)
          clear hK K
          try simp only [Act.put, List.setIfInBounds_toArray, List.set_cons_zero, List.set_cons_succ]
          refine wpAnyH_ready (rs := [11]) (by kernel_rfl) (by simp) ?_
          refine AllReadyH.cons rfl (fun K hK => ?_) (AllReadyH.nil)
          go_simp
          refine hK.out _ _ ?_ (fun hHeld => ?_)
          · ((try dsimp only); all_goals trivial)
          clear hK K
          try simp only [Act.put, List.setIfInBounds_toArray, List.set_cons_zero, List.set_cons_succ]
          refine wpAnyH_take (i := 12) (v := ?_) rfl (by kernel_rfl) (by kernel_rfl) (by kernel_rfl) (fun _ _ _ h => h) (Or.inl ⟨by rfl, ?_⟩) (by assumption) ?_
          rotate_left
          · (intro w hSw; (try dsimp only at hSw); first | (go_simp; done) | (go_simp; with_reducible rfl))
          try simp only [Act.put, List.setIfInBounds_toArray, List.set_cons_zero, List.set_cons_succ]
          refine wpAnyH_ready (rs := [13]) (by kernel_rfl) (by simp) ?_
          refine AllReadyH.cons rfl (fun K hK => ?_) (AllReadyH.nil)
          go_simp
          refine hK.out _ _ ?_ (fun hHeld => ?_)
          · ((try dsimp only); all_goals trivial)
          clear hK K
          try simp only [Act.put, List.setIfInBounds_toArray, List.set_cons_zero, List.set_cons_succ]
          refine wpAnyH_take (i := 14) (v := ?_) rfl (by kernel_rfl) (by kernel_rfl) (by kernel_rfl) (fun _ _ _ h => h) (Or.inl ⟨by rfl, ?_⟩) (by assumption) ?_
          rotate_left
          · (intro w hSw; (try dsimp only at hSw); first | (go_simp; done) | (go_simp; with_reducible rfl))
          try simp only [Act.put, List.setIfInBounds_toArray, List.set_cons_zero, List.set_cons_succ]
          refine wpAnyH_ready (rs := [15]) (by kernel_rfl) (by simp) ?_
          refine AllReadyH.cons rfl (fun K hK => ?_) (AllReadyH.nil)
          go_simp
          refine hK.out _ _ ?_ (fun hHeld => ?_)
          · ((try dsimp only); all_goals trivial)
          clear hK K
          try simp only [Act.put, List.setIfInBounds_toArray, List.set_cons_zero, List.set_cons_succ]
          refine wpAnyH_done (by kernel_rfl) ?_ _
          refine NoPanic.normal ?_
          clear c0 c1 f0 f1 hHeld
          go_simp
          rw [← HZ.out]
          go_wp2
          go_roundw
          case rel => exact ⟨i + 1, by have := Hj.out; omega, by go_num, by have := Hji.out; go_num, Hend.out.1, Hend.out.2⟩
          case measure => simp [intOf]; omega
        · go_simp
          refine hK.out _ _ ?_ (fun hHeld => ?_)
          · ((try dsimp only); all_goals trivial)
          clear hK K
          try simp only [Act.put, List.setIfInBounds_toArray, List.set_cons_zero, List.set_cons_succ]
          refine wpAnyH_ready (rs := [7]) (by kernel_rfl) (by simp) ?_
          refine AllReadyH.cons rfl (fun K hK => ?_) (AllReadyH.nil)
          go_simp
          refine hK.out _ _ ?_ (fun hHeld => ?_)
          · ((try dsimp only); all_goals trivial)
          clear hK K
          try simp only [Act.put, List.setIfInBounds_toArray, List.set_cons_zero, List.set_cons_succ]
          refine wpAnyH_take (i := 12) (v := ?_) rfl (by kernel_rfl) (by kernel_rfl) (by kernel_rfl) (fun _ _ _ h => h) (Or.inl ⟨by rfl, ?_⟩) (by assumption) ?_
          rotate_left
          · (intro w hSw; (try dsimp only at hSw); first | (go_simp; done) | (go_simp; with_reducible rfl))
          try simp only [Act.put, List.setIfInBounds_toArray, List.set_cons_zero, List.set_cons_succ]
          refine wpAnyH_ready (rs := [13]) (by kernel_rfl) (by simp) ?_
          refine AllReadyH.cons rfl (fun K hK => ?_) (AllReadyH.nil)
          go_simp
          refine hK.out _ _ ?_ (fun hHeld => ?_)
          · ((try dsimp only); all_goals trivial)
          clear hK K
          try simp only [Act.put, List.setIfInBounds_toArray, List.set_cons_zero, List.set_cons_succ]
          refine wpAnyH_take (i := 14) (v := ?_) rfl (by kernel_rfl) (by kernel_rfl) (by kernel_rfl) (fun _ _ _ h => h) (Or.inl ⟨by rfl, ?_⟩) (by assumption) ?_
          rotate_left
          · (intro w hSw; (try dsimp only at hSw); first | (go_simp; done) | (go_simp; with_reducible rfl))
          try simp only [Act.put, List.setIfInBounds_toArray, List.set_cons_zero, List.set_cons_succ]
          refine wpAnyH_ready (rs := [15]) (by kernel_rfl) (by simp) ?_
          refine AllReadyH.cons rfl (fun K hK => ?_) (AllReadyH.nil)
          go_simp
          refine hK.out _ _ ?_ (fun hHeld => ?_)
          · ((try dsimp only); all_goals trivial)
          clear hK K
          try simp only [Act.put, List.setIfInBounds_toArray, List.set_cons_zero, List.set_cons_succ]
          refine wpAnyH_done (by kernel_rfl) ?_ _
          refine NoPanic.normal ?_
          clear c0 c1 f0 f1 hHeld
          go_simp
          rw [← HZ.out]
          go_wp2
          go_roundw
          case rel => exact ⟨i + 1, by have := Hj.out; omega, by go_num, by have := Hji.out; go_num, Hend.out.1, Hend.out.2⟩
          case measure => simp [intOf]; omega
      · go_wp2
        go_end0
        have := HO.out
        rw [revTo_end _ _ (by rw [Hl.out]; omega)] at this
        exact ⟨⟨_, rfl⟩, this, HG.out⟩

set_option maxRecDepth 100000 in
set_option maxHeartbeats 8000000 in
theorem rev_rows (base : Nat) (v : Value) (n : Nat) (xs : List Value) (w : World) (h : w.ownsRow base 23 1 v n xs) (hb : base ≤ w.heap.size) (hn : n ≤ 1048576) (hk : ∀ u ∈ xs, ∃ A m c, u = Value.slice A m c) :
    Calls Try.prog 30 #[v] w fun e w' => (∃ r, e = .returned r) ∧ w'.ownsRow base 23 1 v n xs.reverse ∧ w.grownBy w' v.ownBlock := by
  have hl : xs.length = n := by have := h.1; omega
  by_cases h0 : n ≤ 1
  · obtain ⟨A, c, rfl⟩ := gr_slice h
    have hx : xs.reverse = xs := by
      match xs, hl with
      | [], _ => rfl
      | [a], _ => rfl
      | a :: b :: l, e => simp at e; omega
    rw [hx]
    have H := Lib.hid h
    clear h hx hl
    rcases (by omega : n = 0 ∨ n = 1) with rfl | rfl
    · go_enter Try.func30, Try.ntmps30
      go_wp2
      refine wp_loop_rounds 1 ?_
      rw [rounds_succ]
      go_wp2
      go_end0
      exact ⟨⟨_, rfl⟩, H.out, World.grownBy.refl _ _⟩
    · go_enter Try.func30, Try.ntmps30
      go_wp2
      refine wp_loop_rounds 1 ?_
      rw [rounds_succ]
      go_wp2
      go_end0
      exact ⟨⟨_, rfl⟩, H.out, World.grownBy.refl _ _⟩
  · obtain ⟨g, c, rfl, hgb, hgl⟩ := h.form (by omega)
    have H := Lib.hid h
    have Hl := Lib.hid hl
    clear h hl
    go_enter Try.func30, Try.ntmps30
    go_upto_region 1 with fail
    go_loopw [2, 3] (fun u2 u3 wr => ∃ i : Nat, 2 * i ≤ n ∧ u2 = .int .i64 i ∧ u3 = .int .i64 ((n : Int) - 1 - i) ∧ Hid (wr.ownsRow base 23 1 (.slice (some ⟨g, 0, none⟩) n c) n (revTo xs i)) ∧ Hid (w.grownBy wr (some g))) (fun u2 _ _ => n - (intOf u2).toNat)
    case atStart => exact ⟨0, by omega, rfl, by simp, Lib.hid (by rw [revTo_zero]; exact H.out), Lib.hid (World.grownBy.refl _ _)⟩
    case round =>
      clear H
      obtain ⟨i, hi, rfl, rfl, HO, HG⟩ := hrel
      by_cases hlt : 2 * i + 1 < n
      · obtain ⟨x, hx⟩ : ∃ x, xs[i]? = some x := ⟨_, List.getElem?_eq_getElem (by rw [Hl.out]; omega)⟩
        obtain ⟨y, hy⟩ : ∃ y, xs[n - 1 - i]? = some y := ⟨_, List.getElem?_eq_getElem (by rw [Hl.out]; omega)⟩
        have hkx := hk x (List.mem_of_getElem? hx)
        have hky := hk y (List.mem_of_getElem? hy)
        obtain ⟨A1, m1, c1x, rfl⟩ := hkx
        obtain ⟨A2, m2, c2x, rfl⟩ := hky
        have hS := revTo_step xs i (.slice A1 m1 c1x) (.slice A2 m2 c2x) (by rw [Hl.out]; exact hlt) hx (by rw [Hl.out]; exact hy)
        rw [Hl.out] at hS
        have c0 : wr.cell? ⟨g, i, none⟩ = some (.slice A1 m1 c1x) := by rw [HO.out.cellAt i (by omega), revTo_at _ _ _ (by rw [Hl.out]; omega)]; exact hx
        have c1 : wr.cell? ⟨g, n - 1 - i, none⟩ = some (.slice A2 m2 c2x) := by rw [HO.out.cellAt (n - 1 - i) (by omega), revTo_at _ _ _ (by rw [Hl.out]; omega)]; exact hy
        have f0 := HO.out.frozenAt i
        have f1 := HO.out.frozenAt (n - 1 - i)
        obtain ⟨j, hj⟩ : ∃ j, j = n - 1 - i := ⟨_, rfl⟩
        have hji : (n : Int) - 1 - i = j := by omega
        rw [← hj] at c1 f1 hS
        rw [hji]
        have HS := Lib.hid hS
        have hij : i < j := by omega
        have hin : i < n := by omega
        have hjn : j < n := by omega
        have Hj := Lib.hid hj
        have Hji := Lib.hid hji
        clear hj hji hS hx hy hlt
        obtain ⟨s1, g1⟩ := HO.out.stored i (.slice A2 m2 c2x)
        obtain ⟨s2, g2⟩ := s1.stored j (.slice A1 m1 c1x)
        rw [HS.out] at s2
        obtain ⟨Z, hZ⟩ : ∃ Z, Z = ((wr.setCell ⟨g, i, none⟩ (.slice A2 m2 c2x)).setCell ⟨g, j, none⟩ (.slice A1 m1 c1x)).drew := ⟨_, rfl⟩
        have Hend : Hid (Hid (Z.ownsRow base 23 1 (.slice (some ⟨g, 0, none⟩) n c) n (revTo xs (i + 1))) ∧ Hid (w.grownBy Z (some g))) := Lib.hid ⟨Lib.hid (by rw [hZ]; exact s2), Lib.hid (by rw [hZ]; exact grown_dr (grown_tr (grown_tr HG.out g1) g2))⟩
        have HZ := Lib.hid hZ
        clear hZ s1 s2 g1 g2
        go_upto_region 3 with fail
        have gd : wr.drew.cell? ⟨g, i, none⟩ = some (.slice A1 m1 c1x) ∧ wr.drew.cell? ⟨g, j, none⟩ = some (.slice A2 m2 c2x) := ⟨c0, c1⟩
        refine wp_region_noPanic ?_
        refine wp_region_held_drew (S := fun _ => True) (by kernel_rfl) trivial (fun hHeld => ?_)
        refine wpAnyH_take (i := 0) (v := ?_) rfl (by kernel_rfl) (by kernel_rfl) (by kernel_rfl) (fun _ _ _ h => h) (Or.inl ⟨by rfl, ?_⟩) (by assumption) ?_
        rotate_left
        · (intro w hSw; (try dsimp only at hSw); first | (go_simp; done) | (go_simp; with_reducible rfl))
        try simp only [Act.put, List.setIfInBounds_toArray, List.set_cons_zero, List.set_cons_succ]
        refine wpAnyH_take (i := 1) (v := ?_) rfl (by kernel_rfl) (by kernel_rfl) (by kernel_rfl) (fun _ _ _ h => h) (Or.inl ⟨by rfl, ?_⟩) (by assumption) ?_
        rotate_left
        · (intro w hSw; (try dsimp only at hSw); first | (go_simp; done) | (go_simp; with_reducible rfl))
        try simp only [Act.put, List.setIfInBounds_toArray, List.set_cons_zero, List.set_cons_succ]
        refine wpAnyH_take (i := 2) (v := ?_) rfl (by kernel_rfl) (by kernel_rfl) (by kernel_rfl) (fun _ _ _ h => h) (Or.inl ⟨by rfl, ?_⟩) (by assumption) ?_
        rotate_left
        · (intro w hSw; (try dsimp only at hSw); first | (go_simp; done) | (go_simp; with_reducible rfl))
        try simp only [Act.put, List.setIfInBounds_toArray, List.set_cons_zero, List.set_cons_succ]
        refine wpAnyH_take (i := 3) (v := ?_) rfl (by kernel_rfl) (by kernel_rfl) (by kernel_rfl) (fun _ _ _ h => h) (Or.inl ⟨by rfl, ?_⟩) (by assumption) ?_
        rotate_left
        · (intro w hSw; (try dsimp only at hSw); first | (go_simp; done) | (go_simp; with_reducible rfl))
        try simp only [Act.put, List.setIfInBounds_toArray, List.set_cons_zero, List.set_cons_succ]
        refine wpAnyH_take (i := 4) (v := ?_) rfl (by kernel_rfl) (by kernel_rfl) (by kernel_rfl) (fun _ _ _ h => h) (Or.inl ⟨by rfl, ?_⟩) (by assumption) ?_
        rotate_left
        · (intro w hSw; (try dsimp only at hSw); first | (go_simp; done) | (go_simp; with_reducible rfl))
        try simp only [Act.put, List.setIfInBounds_toArray, List.set_cons_zero, List.set_cons_succ]
        refine wpAnyH_take (i := 5) (v := ?_) rfl (by kernel_rfl) (by kernel_rfl) (by kernel_rfl) (fun _ _ _ h => h) (Or.inl ⟨by rfl, ?_⟩) (by assumption) ?_
        rotate_left
        · (intro w hSw; (try dsimp only at hSw); first | (go_simp; done) | (go_simp; with_reducible rfl))
        try simp only [Act.put, List.setIfInBounds_toArray, List.set_cons_zero, List.set_cons_succ]
        refine wpAnyH_take (i := 6) (v := ?_) rfl (by kernel_rfl) (by kernel_rfl) (by kernel_rfl) (fun _ _ _ h => h) (Or.inl ⟨by rfl, ?_⟩) (by assumption) ?_
        rotate_left
        · (intro w hSw; (try dsimp only at hSw); first | (go_simp; done) | (go_simp; with_reducible rfl))
        try simp only [Act.put, List.setIfInBounds_toArray, List.set_cons_zero, List.set_cons_succ]
        refine wpAnyH_take (i := 8) (v := ?_) rfl (by kernel_rfl) (by kernel_rfl) (by kernel_rfl) (fun _ _ _ h => h) (Or.inl ⟨by rfl, ?_⟩) (by assumption) ?_
        rotate_left
        · (intro w hSw; (try dsimp only at hSw); first | (go_simp; done) | (go_simp; with_reducible rfl))
        try simp only [Act.put, List.setIfInBounds_toArray, List.set_cons_zero, List.set_cons_succ]
        refine wpAnyH_take (i := 9) (v := ?_) rfl (by kernel_rfl) (by kernel_rfl) (by kernel_rfl) (fun _ _ _ h => h) (Or.inl ⟨by rfl, ?_⟩) (by assumption) ?_
        rotate_left
        · (intro w hSw; (try dsimp only at hSw); first | (go_simp; done) | (go_simp; with_reducible rfl))
        try simp only [Act.put, List.setIfInBounds_toArray, List.set_cons_zero, List.set_cons_succ]
        refine wpAnyH_take (i := 10) (v := ?_) rfl (by kernel_rfl) (by kernel_rfl) (by kernel_rfl) (fun _ _ _ h => h) (Or.inl ⟨by rfl, ?_⟩) (by assumption) ?_
        rotate_left
        · (intro w hSw; (try dsimp only at hSw); first | (go_simp; done) | (go_simp; with_reducible rfl))
        try simp only [Act.put, List.setIfInBounds_toArray, List.set_cons_zero, List.set_cons_succ]
        refine wpAnyH_ready (rs := [7, 11]) (by kernel_rfl) (by simp) ?_
        refine AllReadyH.cons rfl (fun K hK => ?_) (AllReadyH.cons rfl (fun K hK => ?_) (AllReadyH.nil))
        · go_simp
          refine hK.out _ _ ?_ (fun hHeld => ?_)
          · ((try dsimp only); all_goals trivial)
          clear hK K
          try simp only [Act.put, List.setIfInBounds_toArray, List.set_cons_zero, List.set_cons_succ]
          refine wpAnyH_ready (rs := [11]) (by kernel_rfl) (by simp) ?_
          refine AllReadyH.cons rfl (fun K hK => ?_) (AllReadyH.nil)
          go_simp
          refine hK.out _ _ ?_ (fun hHeld => ?_)
          · ((try dsimp only); all_goals trivial)
          clear hK K
          try simp only [Act.put, List.setIfInBounds_toArray, List.set_cons_zero, List.set_cons_succ]
          refine wpAnyH_take (i := 12) (v := ?_) rfl (by kernel_rfl) (by kernel_rfl) (by kernel_rfl) (fun _ _ _ h => h) (Or.inl ⟨by rfl, ?_⟩) (by assumption) ?_
          rotate_left
          · (intro w hSw; (try dsimp only at hSw); first | (go_simp; done) | (go_simp; with_reducible rfl))
          try simp only [Act.put, List.setIfInBounds_toArray, List.set_cons_zero, List.set_cons_succ]
          refine wpAnyH_ready (rs := [13]) (by kernel_rfl) (by simp) ?_
          refine AllReadyH.cons rfl (fun K hK => ?_) (AllReadyH.nil)
          go_simp
          refine hK.out _ _ ?_ (fun hHeld => ?_)
          · ((try dsimp only); all_goals trivial)
          clear hK K
          try simp only [Act.put, List.setIfInBounds_toArray, List.set_cons_zero, List.set_cons_succ]
          refine wpAnyH_take (i := 14) (v := ?_) rfl (by kernel_rfl) (by kernel_rfl) (by kernel_rfl) (fun _ _ _ h => h) (Or.inl ⟨by rfl, ?_⟩) (by assumption) ?_
          rotate_left
          · (intro w hSw; (try dsimp only at hSw); first | (go_simp; done) | (go_simp; with_reducible rfl))
          try simp only [Act.put, List.setIfInBounds_toArray, List.set_cons_zero, List.set_cons_succ]
          refine wpAnyH_ready (rs := [15]) (by kernel_rfl) (by simp) ?_
          refine AllReadyH.cons rfl (fun K hK => ?_) (AllReadyH.nil)
          go_simp
          refine hK.out _ _ ?_ (fun hHeld => ?_)
          · ((try dsimp only); all_goals trivial)
          clear hK K
          try simp only [Act.put, List.setIfInBounds_toArray, List.set_cons_zero, List.set_cons_succ]
          refine wpAnyH_done (by kernel_rfl) ?_ _
          refine NoPanic.normal ?_
          clear c0 c1 f0 f1 hHeld
          go_simp
          rw [← HZ.out]
          go_wp2
          go_roundw
          case rel => exact ⟨i + 1, by have := Hj.out; omega, by go_num, by have := Hji.out; go_num, Hend.out.1, Hend.out.2⟩
          case measure => simp [intOf]; omega
        · go_simp
          refine hK.out _ _ ?_ (fun hHeld => ?_)
          · ((try dsimp only); all_goals trivial)
          clear hK K
          try simp only [Act.put, List.setIfInBounds_toArray, List.set_cons_zero, List.set_cons_succ]
          refine wpAnyH_ready (rs := [7]) (by kernel_rfl) (by simp) ?_
          refine AllReadyH.cons rfl (fun K hK => ?_) (AllReadyH.nil)
          go_simp
          refine hK.out _ _ ?_ (fun hHeld => ?_)
          · ((try dsimp only); all_goals trivial)
          clear hK K
          try simp only [Act.put, List.setIfInBounds_toArray, List.set_cons_zero, List.set_cons_succ]
          refine wpAnyH_take (i := 12) (v := ?_) rfl (by kernel_rfl) (by kernel_rfl) (by kernel_rfl) (fun _ _ _ h => h) (Or.inl ⟨by rfl, ?_⟩) (by assumption) ?_
          rotate_left
          · (intro w hSw; (try dsimp only at hSw); first | (go_simp; done) | (go_simp; with_reducible rfl))
          try simp only [Act.put, List.setIfInBounds_toArray, List.set_cons_zero, List.set_cons_succ]
          refine wpAnyH_ready (rs := [13]) (by kernel_rfl) (by simp) ?_
          refine AllReadyH.cons rfl (fun K hK => ?_) (AllReadyH.nil)
          go_simp
          refine hK.out _ _ ?_ (fun hHeld => ?_)
          · ((try dsimp only); all_goals trivial)
          clear hK K
          try simp only [Act.put, List.setIfInBounds_toArray, List.set_cons_zero, List.set_cons_succ]
          refine wpAnyH_take (i := 14) (v := ?_) rfl (by kernel_rfl) (by kernel_rfl) (by kernel_rfl) (fun _ _ _ h => h) (Or.inl ⟨by rfl, ?_⟩) (by assumption) ?_
          rotate_left
          · (intro w hSw; (try dsimp only at hSw); first | (go_simp; done) | (go_simp; with_reducible rfl))
          try simp only [Act.put, List.setIfInBounds_toArray, List.set_cons_zero, List.set_cons_succ]
          refine wpAnyH_ready (rs := [15]) (by kernel_rfl) (by simp) ?_
          refine AllReadyH.cons rfl (fun K hK => ?_) (AllReadyH.nil)
          go_simp
          refine hK.out _ _ ?_ (fun hHeld => ?_)
          · ((try dsimp only); all_goals trivial)
          clear hK K
          try simp only [Act.put, List.setIfInBounds_toArray, List.set_cons_zero, List.set_cons_succ]
          refine wpAnyH_done (by kernel_rfl) ?_ _
          refine NoPanic.normal ?_
          clear c0 c1 f0 f1 hHeld
          go_simp
          rw [← HZ.out]
          go_wp2
          go_roundw
          case rel => exact ⟨i + 1, by have := Hj.out; omega, by go_num, by have := Hji.out; go_num, Hend.out.1, Hend.out.2⟩
          case measure => simp [intOf]; omega
      · go_wp2
        go_end0
        have := HO.out
        rw [revTo_end _ _ (by rw [Hl.out]; omega)] at this
        exact ⟨⟨_, rfl⟩, this, HG.out⟩

end Go.Proofs.Ytlejpoofgnenhaa
