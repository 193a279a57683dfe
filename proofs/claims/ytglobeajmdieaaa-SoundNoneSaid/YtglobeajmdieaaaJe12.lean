/-
  A row is reversed.
  graph.Order; graph.Places.
-/
import Derived.Test.YtglobeajmdieaaaJe11
namespace Go.Proofs.Ytglobeajmdieaaa
set_option linter.unusedVariables false
set_option linter.unusedSimpArgs false
open Go.RowKit

/-- The first i and the last i exchanged. -/
def revTo (xs : List Value) (i : Nat) : List Value := xs.mapIdx fun j x => if j < i ∨ xs.length - 1 - i < j then xs.getD (xs.length - 1 - j) x else x
theorem revTo_len (xs : List Value) (i : Nat) : (revTo xs i).length = xs.length := by simp [revTo]
theorem revTo_zero (xs : List Value) : revTo xs 0 = xs := by
  apply List.ext_getElem (by simp [revTo])
  intro j h1 h2
  simp [revTo]
  intro h
  omega
theorem revTo_at (xs : List Value) (i j : Nat) (h : ¬ (j < i ∨ xs.length - 1 - i < j)) : (revTo xs i)[j]? = xs[j]? := by
  unfold revTo
  rw [List.getElem?_mapIdx]
  cases hx : xs[j]? with
  | none => rfl
  | some x => simp [h]
theorem revTo_step (xs : List Value) (i : Nat) (x y : Value) (hi : 2 * i + 1 < xs.length) (hx : xs[i]? = some x) (hy : xs[xs.length - 1 - i]? = some y) : ((revTo xs i).set i y).set (xs.length - 1 - i) x = revTo xs (i + 1) := by
  apply List.ext_getElem?
  intro j
  rw [List.getElem?_set, List.getElem?_set]
  simp only [List.length_set, revTo_len]
  unfold revTo
  rw [List.getElem?_mapIdx, List.getElem?_mapIdx]
  by_cases h1 : xs.length - 1 - i = j
  · subst h1
    rw [if_pos rfl, if_pos (by omega), hy]
    simp only [Option.map_some]
    rw [if_pos (by right; omega), show xs.length - 1 - (xs.length - 1 - i) = i by omega, List.getD, hx]
    rfl
  · rw [if_neg h1]
    by_cases h2 : i = j
    · subst h2
      rw [if_pos rfl, if_pos (by omega), hx]
      simp only [Option.map_some]
      rw [if_pos (by left; omega), List.getD, hy]
      rfl
    · rw [if_neg h2]
      cases xs[j]? with
      | none => rfl
      | some z =>
        simp only [Option.map_some]
        have e : (j < i ∨ xs.length - 1 - i < j) ↔ (j < i + 1 ∨ xs.length - 1 - (i + 1) < j) := by omega
        by_cases h3 : j < i ∨ xs.length - 1 - i < j
        · rw [if_pos h3, if_pos (e.1 h3)]
        · rw [if_neg h3, if_neg (fun h => h3 (e.2 h))]
theorem revTo_end (xs : List Value) (i : Nat) (hi : xs.length ≤ 2 * i + 1) : revTo xs i = xs.reverse := by
  apply List.ext_getElem? 
  intro j
  unfold revTo
  rw [List.getElem?_mapIdx]
  by_cases hj : j < xs.length
  · rw [List.getElem?_reverse hj, List.getElem?_eq_getElem hj]
    simp only [Option.map_some]
    by_cases h : j < i ∨ xs.length - 1 - i < j
    · rw [if_pos h, List.getD, List.getElem?_eq_getElem (by omega : xs.length - 1 - j < xs.length)]
      rfl
    · rw [if_neg h]
      have : xs.length - 1 - j = j := by omega
      rw [this, List.getElem?_eq_getElem hj]
  · rw [List.getElem?_eq_none (by omega), List.getElem?_eq_none (by rw [List.length_reverse]; omega)]
    rfl

theorem grown_tr {a b c : World} {row : Option Nat} (h : a.grownBy b row) (k : b.grownBy c row) : a.grownBy c row :=
  ⟨k.os.trans h.os, k.tape.trans h.tape, k.output.trans h.output, Nat.le_trans h.size k.size, fun i hi hn => (k.block i (Nat.lt_of_lt_of_le hi h.size) hn).trans (h.block i hi hn)⟩
theorem grown_dr {a b : World} {row : Option Nat} (h : a.grownBy b row) : a.grownBy b.drew row := ⟨h.os, h.tape, h.output, h.size, h.block⟩

set_option maxRecDepth 100000 in
set_option maxHeartbeats 8000000 in
theorem rev_int (base : Nat) (v : Value) (n : Nat) (xs : List Value) (w : World) (h : w.ownsRow base 3 1 v n xs) (hb : base ≤ w.heap.size) (hn : n ≤ 1048576) (hk : ∀ u ∈ xs, ∃ q, u = Value.int .i64 q) :
    Calls Try.prog 51 #[v] w fun e w' => (∃ r, e = .returned r) ∧ w'.ownsRow base 3 1 v n xs.reverse ∧ w.grownBy w' v.ownBlock := by
  have hl : xs.length = n := by have := h.1; omega
  by_cases h0 : n ≤ 1
  · obtain ⟨A, c, rfl⟩ := gr_slice h
    have hx : xs.reverse = xs := by
      match xs, hl with
      | [], _ => rfl
      | [a], _ => rfl
      | a :: b :: l, e => simp at e; omega
    rw [hx]
    have H := Lib.hid h
    clear h hx hl
    rcases (by omega : n = 0 ∨ n = 1) with rfl | rfl
    · go_enter Try.func51, Try.ntmps51
      go_wp2
      refine wp_loop_rounds 1 ?_
      rw [rounds_succ]
      go_wp2
      go_end0
      exact ⟨⟨_, rfl⟩, H.out, World.grownBy.refl _ _⟩
    · go_enter Try.func51, Try.ntmps51
      go_wp2
      refine wp_loop_rounds 1 ?_
      rw [rounds_succ]
      go_wp2
      go_end0
      exact ⟨⟨_, rfl⟩, H.out, World.grownBy.refl _ _⟩
  · obtain ⟨g, c, rfl, hgb, hgl⟩ := h.form (by omega)
    have H := Lib.hid h
    have Hl := Lib.hid hl
    clear h hl
    go_enter Try.func51, Try.ntmps51
    go_upto_region 1 with fail
    go_loopw [2, 3] (fun u2 u3 wr => ∃ i : Nat, 2 * i ≤ n ∧ u2 = .int .i64 i ∧ u3 = .int .i64 ((n : Int) - 1 - i) ∧ Hid (wr.ownsRow base 3 1 (.slice (some ⟨g, 0, none⟩) n c) n (revTo xs i)) ∧ Hid (w.grownBy wr (some g))) (fun u2 _ _ => n - (intOf u2).toNat)
    case atStart => exact ⟨0, by omega, rfl, by simp, Lib.hid (by rw [revTo_zero]; exact H.out), Lib.hid (World.grownBy.refl _ _)⟩
    case round =>
      clear H
      obtain ⟨i, hi, rfl, rfl, HO, HG⟩ := hrel
      by_cases hlt : 2 * i + 1 < n
      · obtain ⟨x, hx⟩ : ∃ x, xs[i]? = some x := ⟨_, List.getElem?_eq_getElem (by rw [Hl.out]; omega)⟩
        obtain ⟨y, hy⟩ : ∃ y, xs[n - 1 - i]? = some y := ⟨_, List.getElem?_eq_getElem (by rw [Hl.out]; omega)⟩
        have hkx := hk x (List.mem_of_getElem? hx)
        have hky := hk y (List.mem_of_getElem? hy)
        obtain ⟨qx, rfl⟩ := hkx
        obtain ⟨qy, rfl⟩ := hky
        have hS := revTo_step xs i (.int .i64 qx) (.int .i64 qy) (by rw [Hl.out]; exact hlt) hx (by rw [Hl.out]; exact hy)
        rw [Hl.out] at hS
        have c0 : wr.cell? ⟨g, i, none⟩ = some (.int .i64 qx) := by rw [HO.out.cellAt i (by omega), revTo_at _ _ _ (by rw [Hl.out]; omega)]; exact hx
        have c1 : wr.cell? ⟨g, n - 1 - i, none⟩ = some (.int .i64 qy) := by rw [HO.out.cellAt (n - 1 - i) (by omega), revTo_at _ _ _ (by rw [Hl.out]; omega)]; exact hy
        have f0 := HO.out.frozenAt i
        have f1 := HO.out.frozenAt (n - 1 - i)
        obtain ⟨j, hj⟩ : ∃ j, j = n - 1 - i := ⟨_, rfl⟩
        have hji : (n : Int) - 1 - i = j := by omega
        rw [← hj] at c1 f1 hS
        rw [hji]
        have HS := Lib.hid hS
        have hij : i < j := by omega
        have hin : i < n := by omega
        have hjn : j < n := by omega
        have Hj := Lib.hid hj
        have Hji := Lib.hid hji
        clear hj hji hS hx hy hlt
        obtain ⟨s1, g1⟩ := HO.out.stored i (.int .i64 qy)
        obtain ⟨s2, g2⟩ := s1.stored j (.int .i64 qx)
        rw [HS.out] at s2
        obtain ⟨Z, hZ⟩ : ∃ Z, Z = ((wr.setCell ⟨g, i, none⟩ (.int .i64 qy)).setCell ⟨g, j, none⟩ (.int .i64 qx)).drew := ⟨_, rfl⟩
        have Hend : Hid (Hid (Z.ownsRow base 3 1 (.slice (some ⟨g, 0, none⟩) n c) n (revTo xs (i + 1))) ∧ Hid (w.grownBy Z (some g))) := Lib.hid ⟨Lib.hid (by rw [hZ]; exact s2), Lib.hid (by rw [hZ]; exact grown_dr (grown_tr (grown_tr HG.out g1) g2))⟩
        have HZ := Lib.hid hZ
        clear hZ s1 s2 g1 g2
        go_upto_region 3 with fail
        have gd : wr.drew.cell? ⟨g, i, none⟩ = some (.int .i64 qx) ∧ wr.drew.cell? ⟨g, j, none⟩ = some (.int .i64 qy) := ⟨c0, c1⟩
        refine wp_region_noPanic ?_
        refine wp_region_held_drew (S := fun _ => True) (by kernel_rfl) trivial (fun hHeld => ?_)
        refine wpAnyH_take (i := 0) (v := ?_) rfl (by kernel_rfl) (by kernel_rfl) (by kernel_rfl) (fun _ _ _ h => h) (Or.inl ⟨by rfl, ?_⟩) (by assumption) ?_
        rotate_left
        · (intro w hSw; (try dsimp only at hSw); first | (go_simp; done) | (go_simp; with_reducible rfl))
        try simp only [Act.put, List.setIfInBounds_toArray, List.set_cons_zero, List.set_cons_succ]
        refine wpAnyH_take (i := 1) (v := ?_) rfl (by kernel_rfl) (by kernel_rfl) (by kernel_rfl) (fun _ _ _ h => h) (Or.inl ⟨by rfl, ?_⟩) (by assumption) ?_
        rotate_left
        · (intro w hSw; (try dsimp only at hSw); first | (go_simp; done) | (go_simp; with_reducible rfl))
        try simp only [Act.put, List.setIfInBounds_toArray, List.set_cons_zero, List.set_cons_succ]
        refine wpAnyH_take (i := 2) (v := ?_) rfl (by kernel_rfl) (by kernel_rfl) (by kernel_rfl) (fun _ _ _ h => h) (Or.inl ⟨by rfl, ?_⟩) (by assumption) ?_
        rotate_left
        · (intro w hSw; (try dsimp only at hSw); first | (go_simp; done) | (go_simp; with_reducible rfl))
        try simp only [Act.put, List.setIfInBounds_toArray, List.set_cons_zero, List.set_cons_succ]
        refine wpAnyH_take (i := 3) (v := ?_) rfl (by kernel_rfl) (by kernel_rfl) (by kernel_rfl) (fun _ _ _ h => h) (Or.inl ⟨by rfl, ?_⟩) (by assumption) ?_
        rotate_left
        · (intro w hSw; (try dsimp only at hSw); first | (go_simp; done) | (go_simp; with_reducible rfl))
        try simp only [Act.put, List.setIfInBounds_toArray, List.set_cons_zero, List.set_cons_succ]
        refine wpAnyH_take (i := 4) (v := ?_) rfl (by kernel_rfl) (by kernel_rfl) (by kernel_rfl) (fun _ _ _ h => h) (Or.inl ⟨by rfl, ?_⟩) (by assumption) ?_
        rotate_left
        · (intro w hSw; (try dsimp only at hSw); first | (go_simp; done) | (go_simp; with_reducible rfl))
        try simp only [Act.put, List.setIfInBounds_toArray, List.set_cons_zero, List.set_cons_succ]
        refine wpAnyH_take (i := 5) (v := ?_) rfl (by kernel_rfl) (by kernel_rfl) (by kernel_rfl) (fun _ _ _ h => h) (Or.inl ⟨by rfl, ?_⟩) (by assumption) ?_
        rotate_left
        · (intro w hSw; (try dsimp only at hSw); first | (go_simp; done) | (go_simp; with_reducible rfl))
        try simp only [Act.put, List.setIfInBounds_toArray, List.set_cons_zero, List.set_cons_succ]
        refine wpAnyH_take (i := 6) (v := ?_) rfl (by kernel_rfl) (by kernel_rfl) (by kernel_rfl) (fun _ _ _ h => h) (Or.inl ⟨by rfl, ?_⟩) (by assumption) ?_
        rotate_left
        · (intro w hSw; (try dsimp only at hSw); first | (go_simp; done) | (go_simp; with_reducible rfl))
        try simp only [Act.put, List.setIfInBounds_toArray, List.set_cons_zero, List.set_cons_succ]
        refine wpAnyH_take (i := 8) (v := ?_) rfl (by kernel_rfl) (by kernel_rfl) (by kernel_rfl) (fun _ _ _ h => h) (Or.inl ⟨by rfl, ?_⟩) (by assumption) ?_
        rotate_left
        · (intro w hSw; (try dsimp only at hSw); first | (go_simp; done) | (go_simp; with_reducible rfl))
        try simp only [Act.put, List.setIfInBounds_toArray, List.set_cons_zero, List.set_cons_succ]
        refine wpAnyH_take (i := 9) (v := ?_) rfl (by kernel_rfl) (by kernel_rfl) (by kernel_rfl) (fun _ _ _ h => h) (Or.inl ⟨by rfl, ?_⟩) (by assumption) ?_
        rotate_left
        · (intro w hSw; (try dsimp only at hSw); first | (go_simp; done) | (go_simp; with_reducible rfl))
        try simp only [Act.put, List.setIfInBounds_toArray, List.set_cons_zero, List.set_cons_succ]
        refine wpAnyH_take (i := 10) (v := ?_) rfl (by kernel_rfl) (by kernel_rfl) (by kernel_rfl) (fun _ _ _ h => h) (Or.inl ⟨by rfl, ?_⟩) (by assumption) ?_
        rotate_left
        · (intro w hSw; (try dsimp only at hSw); first | (go_simp; done) | (go_simp; with_reducible rfl))
        try simp only [Act.put, List.setIfInBounds_toArray, List.set_cons_zero, List.set_cons_succ]
        refine wpAnyH_ready (rs := [7, 11]) (by kernel_rfl) (by simp) ?_
        refine AllReadyH.cons rfl (fun K hK => ?_) (AllReadyH.cons rfl (fun K hK => ?_) (AllReadyH.nil))
        · go_simp
          refine hK.out _ _ ?_ (fun hHeld => ?_)
          · ((try dsimp only); all_goals trivial)
          clear hK K
          try simp only [Act.put, List.setIfInBounds_toArray, List.set_cons_zero, List.set_cons_succ]
          refine wpAnyH_ready (rs := [11]) (by kernel_rfl) (by simp) ?_
          refine AllReadyH.cons rfl (fun K hK => ?_) (AllReadyH.nil)
          go_simp
          refine hK.out _ _ ?_ (fun hHeld => ?_)
          · ((try dsimp only); all_goals trivial)
          clear hK K
          try simp only [Act.put, List.setIfInBounds_toArray, List.set_cons_zero, List.set_cons_succ]
          refine wpAnyH_take (i := 12) (v := ?_) rfl (by kernel_rfl) (by kernel_rfl) (by kernel_rfl) (fun _ _ _ h => h) (Or.inl ⟨by rfl, ?_⟩) (by assumption) ?_
          rotate_left
          · (intro w hSw; (try dsimp only at hSw); first | (go_simp; done) | (go_simp; with_reducible rfl))
          try simp only [Act.put, List.setIfInBounds_toArray, List.set_cons_zero, List.set_cons_succ]
          refine wpAnyH_ready (rs := [13]) (by kernel_rfl) (by simp) ?_
          refine AllReadyH.cons rfl (fun K hK => ?_) (AllReadyH.nil)
          go_simp
          refine hK.out _ _ ?_ (fun hHeld => ?_)
          · ((try dsimp only); all_goals trivial)
          clear hK K
          try simp only [Act.put, List.setIfInBounds_toArray, List.set_cons_zero, List.set_cons_succ]
          refine wpAnyH_take (i := 14) (v := ?_) rfl (by kernel_rfl) (by kernel_rfl) (by kernel_rfl) (fun _ _ _ h => h) (Or.inl ⟨by rfl, ?_⟩) (by assumption) ?_
          rotate_left
          · (intro w hSw; (try dsimp only at hSw); first | (go_simp; done) | (go_simp; with_reducible rfl))
          try simp only [Act.put, List.setIfInBounds_toArray, List.set_cons_zero, List.set_cons_succ]
          refine wpAnyH_ready (rs := [15]) (by kernel_rfl) (by simp) ?_
          refine AllReadyH.cons rfl (fun K hK => ?_) (AllReadyH.nil)
          go_simp
          refine hK.out _ _ ?_ (fun hHeld => ?_)
          · ((try dsimp only); all_goals trivial)
          clear hK K
          try simp only [Act.put, List.setIfInBounds_toArray, List.set_cons_zero, List.set_cons_succ]
          refine wpAnyH_done (by kernel_rfl) ?_ _
          refine NoPanic.normal ?_
          clear c0 c1 f0 f1 hHeld
          go_simp
          rw [← HZ.out]
          go_wp2
          go_roundw
          case rel => exact ⟨i + 1, by have := Hj.out; omega, by go_num, by have := Hji.out; go_num, Hend.out.1, Hend.out.2⟩
          case measure => simp [intOf]; omega
        · go_simp
          refine hK.out _ _ ?_ (fun hHeld => ?_)
          · ((try dsimp only); all_goals trivial)
          clear hK K
          try simp only [Act.put, List.setIfInBounds_toArray, List.set_cons_zero, List.set_cons_succ]
          refine wpAnyH_ready (rs := [7]) (by kernel_rfl) (by simp) ?_
          refine AllReadyH.cons rfl (fun K hK => ?_) (AllReadyH.nil)
          go_simp
          refine hK.out _ _ ?_ (fun hHeld => ?_)
          · ((try dsimp only); all_goals trivial)
          clear hK K
          try simp only [Act.put, List.setIfInBounds_toArray, List.set_cons_zero, List.set_cons_succ]
          refine wpAnyH_take (i := 12) (v := ?_) rfl (by kernel_rfl) (by kernel_rfl) (by kernel_rfl) (fun _ _ _ h => h) (Or.inl ⟨by rfl, ?_⟩) (by assumption) ?_
          rotate_left
          · (intro w hSw; (try dsimp only at hSw); first | (go_simp; done) | (go_simp; with_reducible rfl))
          try simp only [Act.put, List.setIfInBounds_toArray, List.set_cons_zero, List.set_cons_succ]
          refine wpAnyH_ready (rs := [13]) (by kernel_rfl) (by simp) ?_
          refine AllReadyH.cons rfl (fun K hK => ?_) (AllReadyH.nil)
          go_simp
          refine hK.out _ _ ?_ (fun hHeld => ?_)
          · ((try dsimp only); all_goals trivial)
          clear hK K
          try simp only [Act.put, List.setIfInBounds_toArray, List.set_cons_zero, List.set_cons_succ]
          refine wpAnyH_take (i := 14) (v := ?_) rfl (by kernel_rfl) (by kernel_rfl) (by kernel_rfl) (fun _ _ _ h => h) (Or.inl ⟨by rfl, ?_⟩) (by assumption) ?_
          rotate_left
          · (intro w hSw; (try dsimp only at hSw); first | (go_simp; done) | (go_simp; with_reducible rfl))
          try simp only [Act.put, List.setIfInBounds_toArray, List.set_cons_zero, List.set_cons_succ]
          refine wpAnyH_ready (rs := [15]) (by kernel_rfl) (by simp) ?_
          refine AllReadyH.cons rfl (fun K hK => ?_) (AllReadyH.nil)
          go_simp
          refine hK.out _ _ ?_ (fun hHeld => ?_)
          · ((try dsimp only); all_goals trivial)
          clear hK K
          try simp only [Act.put, List.setIfInBounds_toArray, List.set_cons_zero, List.set_cons_succ]
          refine wpAnyH_done (by kernel_rfl) ?_ _
          refine NoPanic.normal ?_
          clear c0 c1 f0 f1 hHeld
          go_simp
          rw [← HZ.out]
          go_wp2
          go_roundw
          case rel => exact ⟨i + 1, by have := Hj.out; omega, by go_num, by have := Hji.out; go_num, Hend.out.1, Hend.out.2⟩
          case measure => simp [intOf]; omega
      · go_wp2
        go_end0
        have := HO.out
        rw [revTo_end _ _ (by rw [Hl.out]; omega)] at this
        exact ⟨⟨_, rfl⟩, this, HG.out⟩

end Go.Proofs.Ytglobeajmdieaaa
namespace Go.Proofs.Ytglobeajmdieaaa
set_option linter.unusedVariables false
set_option linter.unusedSimpArgs false
open Go.RowKit

def orderP (g : List GB) : List Nat := (postP g).reverse
theorem unseen_le (s : List Bool) : unseen s ≤ s.length := List.count_le_length
theorem goP_len {g : List GB} {f : Nat → List Bool → List Nat → Option (List Bool × List Nat)} (hf : ∀ b s o s' o', f b s o = some (s', o') → s.length = g.length → b < g.length → s.getD b false = false → s'.length = g.length ∧ o'.length + unseen s' = o.length + unseen s) :
    ∀ (ts : List Int) (s : List Bool) (o : List Nat) (s' : List Bool) (o' : List Nat), (∀ t ∈ ts, 0 ≤ t ∧ t < g.length) → s.length = g.length → goP f ts s o = some (s', o') → s'.length = g.length ∧ o'.length + unseen s' = o.length + unseen s
  | [], s, o, s', o', _, hs, h => by
    simp [goP] at h
    obtain ⟨rfl, rfl⟩ := h
    exact ⟨hs, rfl⟩
  | t :: ts, s, o, s', o', ht, hs, h => by
    unfold goP at h
    have h0 := ht t (by simp)
    have hts : ∀ t ∈ ts, 0 ≤ t ∧ t < g.length := fun x hx => ht x (List.mem_cons_of_mem _ hx)
    cases hq : s.getD t.toNat false with
    | true => rw [hq, if_pos rfl] at h; exact goP_len hf ts s o s' o' hts hs h
    | false =>
      rw [hq, if_neg (by simp)] at h
      cases hw : f t.toNat s o with
      | none => rw [hw] at h; cases h
      | some r =>
        obtain ⟨s1, o1⟩ := r
        rw [hw] at h
        obtain ⟨h1, h2⟩ := hf _ _ _ _ _ hw hs (by omega) hq
        obtain ⟨h3, h4⟩ := goP_len hf ts s1 o1 s' o' hts h1 h
        exact ⟨h3, by omega⟩
theorem walkP_len {g : List GB} (hg : tosOk g) : ∀ (k b : Nat) (s : List Bool) (o : List Nat) (s' : List Bool) (o' : List Nat), walkP g k b s o = some (s', o') → s.length = g.length → b < g.length → s.getD b false = false → s'.length = g.length ∧ o'.length + unseen s' = o.length + unseen s
  | 0, b, s, o, s', o', h, _, _, _ => by simp [walkP] at h
  | k + 1, b, s, o, s', o', h, hs, hb, hq => by
    unfold walkP at h
    cases hw : goP (walkP g k) (tosG g b) (s.set b true) o with
    | none => rw [hw] at h; cases h
    | some r =>
      obtain ⟨s1, o1⟩ := r
      rw [hw] at h
      simp only [Option.some.injEq, Prod.mk.injEq] at h
      obtain ⟨rfl, rfl⟩ := h
      have h1 := unseen_set s b (by omega) hq
      obtain ⟨h2, h3⟩ := goP_len (walkP_len hg k) (tosG g b) (s.set b true) o s1 o1 (fun t ht => hg b t ht) (by simpa using hs) hw
      exact ⟨h2, by simp; omega⟩
theorem postP_len (g : List GB) : (postP g).length ≤ g.length := by
  cases h : wholeG g with
  | false => unfold postP; rw [h]; simp
  | true =>
    obtain ⟨s', h1, _⟩ := postP_run h
    obtain ⟨hp, _⟩ := wholeG_all h
    have := (walkP_len (tosOk_of h) _ _ _ _ _ _ h1 (by simp) hp (by simp [List.getD, hp])).2
    have h2 := unseen_le (List.replicate g.length false)
    simp at this h2
    omega
theorem natsV_rev (l : List Nat) : (natsV l).reverse = natsV l.reverse := by simp [natsV]
theorem natsV_int (l : List Nat) : ∀ u ∈ natsV l, ∃ q, u = Value.int .i64 q := fun u hu => by
  simp [natsV] at hu
  obtain ⟨a, _, rfl⟩ := hu
  exact ⟨_, rfl⟩

set_option maxRecDepth 100000 in
set_option maxHeartbeats 4000000 in
theorem order_g (n0 : Nat) (f : Value) (g : List GB) (w : World) (hf : GF n0 w f g) (hn : n0 ≤ w.heap.size) :
    Calls Try.prog 35 #[f] w fun e w' => ∃ v, e = .returned v ∧ w'.ownsRow w.heap.size 3 1 v (orderP g).length (natsV (orderP g)) ∧ Below w.heap.size w w' := by
  have hf0 := hf
  obtain ⟨s, pA, pn, pc, r, iA, in_, ic, bA, bn, bc, rfl, hG, hbn⟩ := hf
  obtain ⟨W, hW, hbW, hzW, h0W⟩ := gr_one w #[.string s, .slice pA pn pc, .int .i64 r, .slice iA in_ ic, .slice bA bn bc] 46
  obtain ⟨x0, x1, x2, x3, x4, -⟩ := gr_five h0W
  have hlen : bn ≤ 1048576 := by rw [hbn]; obtain ⟨_, _, _, h, _⟩ := hG; exact h
  have hfW : GF n0 W (.agg #[.string s, .slice pA pn pc, .int .i64 r, .slice iA in_ ic, .slice bA bn bc]) g := ⟨s, pA, pn, pc, r, iA, in_, ic, bA, bn, bc, rfl, hG.keep (hbW.mono hn), hbn⟩
  have hH := post_g n0 _ g W hfW (by omega)
  have hpl := postP_len g
  rw [← hbn] at hpl
  have HbW := Lib.hid hbW
  have HW := Lib.hid hW
  have HzW := Lib.hid hzW
  obtain ⟨P, hP⟩ : ∃ P, P = postP g := ⟨_, rfl⟩
  have ho : orderP g = P.reverse := by rw [hP]; rfl
  rw [← hP] at hH hpl
  rw [ho]
  clear hbW hW hG hbn hzW h0W hf0 hfW ho hP
  go_enter Try.func35, Try.ntmps35
  go_upto_region 1 with fail
  rw [← HW.out]
  go_wp2_with (go_at_call 50; refine hH.mono ?_; rintro e w1 ⟨v, rfl, ho1, hb1⟩; obtain ⟨A, c, rfl⟩ := gr_slice ho1; have hR := rev_int W.heap.size _ _ _ w1 ho1 hb1.size (by omega) (natsV_int P); have Ho1 := Lib.hid ho1; have Hb1 := Lib.hid hb1; clear hH ho1 hb1)
  go_wp2_with (go_at_call 51; refine hR.mono ?_; rintro e w2 ⟨⟨r2, rfl⟩, ho2, hg2⟩; have Ho2 := Lib.hid ho2; have Hg2 := Lib.hid hg2; clear hR ho2 hg2)
  go_ret
  have h2 := Hb1.out.grown Hg2.out Hb1.out.size (fun k e => (Ho1.out.lt k e).1)
  refine ⟨_, rfl, ?_, HbW.out.trans (h2.mono (by rw [HzW.out]; omega))⟩
  have := gr_mono Ho2.out (base' := w.heap.size) (by rw [HzW.out]; omega)
  rw [natsV_rev] at this
  simpa using this
end Go.Proofs.Ytglobeajmdieaaa
