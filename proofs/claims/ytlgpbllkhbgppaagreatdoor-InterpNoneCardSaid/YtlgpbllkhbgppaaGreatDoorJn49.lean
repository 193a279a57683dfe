/-
  The law that nothing comes of nothing.
-/
import Derived.Test.YtlgpbllkhbgppaaGreatDoorJn48
import Derived.Deep.DeepCutAuto
import Derived.Deep.CutBlock
namespace Go.Proofs.YtlgpbllkhbgppaaGreatDoor
set_option linter.unusedVariables false
set_option linter.unusedSimpArgs false
open Go.RowKit

theorem inB1_size : inB1.size ≤ 3000 := by decide
theorem inB2_size : inB2.size ≤ 3000 := by decide
theorem tree_1 (w : World) (hr : Rng w) : Calls Tryz.prog 4 #[.string inB1] w fun e w' => ∃ K c, e = .returned (.tuple #[.agg #[.slice K 1 c], .bool true]) ∧ RdFs w' (From w.heap.size w') K [fuT 0 inS1] ∧ Below w.heap.size w w' := tree_of inB1 inB1_size inR1 inP1 0 0 inS1 in_lex1 in_prog1 in_fk1 in_in1 1 rfl (by decide) _ _ _ _ _ rfl w hr
theorem tree_2 (w : World) (hr : Rng w) : Calls Tryz.prog 4 #[.string inB2] w fun e w' => ∃ K c, e = .returned (.tuple #[.agg #[.slice K 1 c], .bool true]) ∧ RdFs w' (From w.heap.size w') K [fuT 0 inS2] ∧ Below w.heap.size w w' := tree_of inB2 inB2_size inR2 inP2 0 0 inS2 in_lex2 in_prog2 in_fk2 in_in2 0 rfl (by decide) _ _ _ _ _ rfl w hr
set_option maxRecDepth 100000 in
set_option maxHeartbeats 8000000 in
theorem awake06_any (w : World) (hr : Rng w) : Calls Tryz.prog 6 #[] w fun e w' => e = .returned (.bool true) ∧ Below w.heap.size w w' := by
  have hT := tree_1 w hr
  unfold inB1 at hT
  clear hr
  go_enter Tryz.func6, Tryz.ntmps6
  go_upto_region 2 with (go_at_call 4; refine hT.mono ?_; rintro e w1 ⟨K, c, rfl, hF, hb⟩; have HF := Lib.hid hF; have HB := Lib.hid hb; clear hF hb hT)
  obtain ⟨w2, hw2, hb2, hz2, hc2⟩ := ch_one_al w1 #[.slice K 1 c] 24
  have hR := run_seven K c w.heap.size w2 (RdFs.more (fun x hx => ⟨hx.1, Nat.lt_of_lt_of_le hx.2 hb2.size⟩) (RdFs.keep (w' := w2) (fun q hq => hb2.cell hq.2) HF.out))
  have ct : w2.cell? ⟨w1.heap.size, 0, none⟩ = some (.slice K 1 c) := Lib.cell_of_heap hc2 0
  have HB2 := Lib.hid (HB.out.trans (hb2.mono HB.out.size))
  rw [← hw2]
  clear hw2 hb2 hz2 hc2 HF HB
  go_upto_region 3 with (go_at_call 5; refine hR.mono ?_; rintro e w3 ⟨g, cg, us, d4, d5, d6, rfl, hg, hb3⟩; have Hg := Lib.hid hg; have HB3 := Lib.hid (HB2.out.trans (hb3.mono HB2.out.size)); clear hg hb3 hR)
  obtain ⟨w4, hw4, hb4, hz4, hc4⟩ := ch_one_al w3 #[.slice (some ⟨g, 0, none⟩) 1 cg, .int .i64 2, .int .i64 2, .int .i64 us, .int .i64 d4, .int .i64 d5, .int .i64 d6] 29
  rw [← hw4]
  have y0 : w4.cell? ⟨w3.heap.size, 0, none⟩ = some (.slice (some ⟨g, 0, none⟩) 1 cg) := Lib.cell_of_heap hc4 0
  have y1 : w4.cell? ⟨w3.heap.size, 1, none⟩ = some (.int .i64 2) := Lib.cell_of_heap hc4 1
  have y2 : w4.cell? ⟨w3.heap.size, 2, none⟩ = some (.int .i64 2) := Lib.cell_of_heap hc4 2
  have yg : w4.cell? ⟨g, 0, none⟩ = some (.int .i64 7) := (hb4.cell (p := ⟨g, 0, none⟩) (World.block_lt_of_cell? w3 _ Hg.out)).trans Hg.out
  have HB4 := Lib.hid (HB3.out.trans (hb4.mono HB3.out.size))
  clear hw4 hb4 hz4 hc4 HB3 HB2 Hg
  go_wp2
  go_ret
  exact ⟨by first | rfl | simp, HB4.out⟩
/-- Both runs' boxes. -/
def MidN (w0 : World) (us : Int) (u5 u6 : Value) (x : World) : Prop :=
  ∃ b5 b6, u5 = .pointer (some ⟨b5, 0, none⟩) ∧ u6 = .pointer (some ⟨b6, 0, none⟩) ∧ x.heap[b5]? = some (.cells #[.slice none 0 0, .int .i64 4, .int .i64 0, .int .i64 us, .int .i64 0, .int .i64 0, .int .i64 0] 29 (0, 0)) ∧ x.heap[b6]? = some (.cells #[.slice none 0 0, .int .i64 0, .int .i64 0, .int .i64 0, .int .i64 0, .int .i64 0, .int .i64 1] 29 (0, 0)) ∧ Below w0.heap.size w0 x
set_option maxRecDepth 100000 in
set_option maxHeartbeats 64000000 in
theorem interpNone_any (l : Int) (w : World) (hr : Rng w) : Calls Tryz.prog 3 #[.int .i64 l] w fun e w' => e = .returned (.bool true) ∧ Below w.heap.size w w' := by
  have hT := tree_2 w hr
  unfold inB2 at hT
  obtain ⟨m, hm⟩ : ∃ m, min l 0 = m := ⟨_, rfl⟩
  have hm0 : max m 0 = 0 := by omega
  obtain ⟨mx, hmx⟩ : ∃ mx, max l 0 = mx := ⟨_, rfl⟩
  have Hm0 := Lib.hid hm0
  obtain ⟨us, hus⟩ : ∃ us, IntKind.i64.wrap (mx - mx) = us := ⟨_, rfl⟩
  have Hus := Lib.hid hus
  have Hmx := Lib.hid hmx
  have Hr := Lib.hid hr
  clear hm0 hmx hr hus
  go_enter Tryz.func3, Tryz.ntmps3
  go_upto_region 2 with (go_at_call 4; refine hT.mono ?_; rintro e w1 ⟨KT, c, rfl, hF, hb⟩; have HF := Lib.hid hF; have HB := Lib.hid hb; clear hF hb hT)
  obtain ⟨W1, hW1, hb1, hz1, hc1⟩ := ch_one_al w1 #[.slice KT 1 c] 24
  have hN : ∀ X, Calls Tryz.prog 5 #[.agg #[.slice none 0 0], .slice none 0 0, .int .i64 l] X fun e w' => e = .returned (.agg #[.slice none 0 0, .int .i64 4, .int .i64 0, .int .i64 us, .int .i64 0, .int .i64 0, .int .i64 0]) ∧ Below X.heap.size X w' := fun X => by
    have h := run_none l mx Hmx.out X
    rw [Hus.out] at h
    exact h
  have hS : ∀ X, Below W1.heap.size W1 X → Calls Tryz.prog 5 #[.agg #[.slice KT 1 c], .slice none 0 0, .int .i64 m] X fun e w' => e = .returned (.agg #[.slice none 0 0, .int .i64 0, .int .i64 0, .int .i64 0, .int .i64 0, .int .i64 0, .int .i64 1]) ∧ Below X.heap.size X w' := fun X hX => run_short KT c w.heap.size m Hm0.out X (RdFs.more (fun x hx => ⟨hx.1, Nat.lt_of_lt_of_le hx.2 (Nat.le_trans hb1.size hX.size)⟩) (RdFs.keep (w' := X) (fun q hq => (hX.cell (Nat.lt_of_lt_of_le hq.2 hb1.size)).trans (hb1.cell hq.2)) HF.out))
  have HN := Lib.hid hN
  have HS := Lib.hid hS
  obtain ⟨tb, htb⟩ : ∃ tb, tb = w1.heap.size := ⟨_, rfl⟩
  have ct : W1.cell? ⟨tb, 0, none⟩ = some (.slice KT 1 c) := by rw [htb]; exact Lib.cell_of_heap hc1 0
  have HBW := Lib.hid (HB.out.trans (hb1.mono HB.out.size))
  have Htb : Hid (tb < W1.heap.size) := Lib.hid (by omega)
  rw [← hW1, ← htb]
  clear hW1 hb1 hz1 hc1 HB hN hS htb HF
  go_cut [5, 6] (fun u5 u6 wx => MidN W1 us u5 u6 wx)
  case first =>
    have s0 : W1.drew.cell? ⟨tb, 0, none⟩ = some (.slice KT 1 c) := ct
    have HB0 : Hid (Below W1.heap.size W1 W1.drew) := Lib.hid (Below.refl _ _).drew
    refine wp_region_held_drew (S := fun w' => w'.cell? ⟨tb, 0, none⟩ = some (.slice KT 1 c)) (by kernel_rfl) s0 (fun hHeld => ?_)
    refine wpAnyH_take (i := 0) (v := ?_) rfl (by kernel_rfl) (by kernel_rfl) (by kernel_rfl) (fun _ _ _ h => h) (Or.inl ⟨by kernel_rfl, ?_⟩) (by assumption) ?_
    rotate_left
    · (intro w hSw; (try dsimp only at hSw); first | (go_simp; done) | (go_simp; with_reducible rfl))
    try simp only [Act.put, List.setIfInBounds_toArray, List.set_cons_zero, List.set_cons_succ]
    refine wpAnyH_take (i := 1) (v := ?_) rfl (by kernel_rfl) (by kernel_rfl) (by kernel_rfl) (fun _ _ _ h => h) (Or.inl ⟨by kernel_rfl, ?_⟩) (by assumption) ?_
    rotate_left
    · (intro w hSw; (try dsimp only at hSw); first | (go_simp; done) | (go_simp; with_reducible rfl))
    try simp only [Act.put, List.setIfInBounds_toArray, List.set_cons_zero, List.set_cons_succ]
    refine wpAnyH_take (i := 3) (v := ?_) rfl (by kernel_rfl) (by kernel_rfl) (by kernel_rfl) (fun _ _ _ h => h) (Or.inl ⟨by kernel_rfl, ?_⟩) (by assumption) ?_
    rotate_left
    · (intro w hSw; (try dsimp only at hSw); first | (go_simp; done) | (go_simp; with_reducible rfl))
    try simp only [Act.put, List.setIfInBounds_toArray, List.set_cons_zero, List.set_cons_succ]
    refine wpAnyH_take (i := 4) (v := ?_) rfl (by kernel_rfl) (by kernel_rfl) (by kernel_rfl) (fun _ _ _ h => h) (Or.inl ⟨by kernel_rfl, ?_⟩) (by assumption) ?_
    rotate_left
    · (intro w hSw; (try dsimp only at hSw); first | (go_simp; done) | (go_simp; with_reducible rfl))
    try simp only [Act.put, List.setIfInBounds_toArray, List.set_cons_zero, List.set_cons_succ]
    refine wpAnyH_take (i := 5) (v := ?_) rfl (by kernel_rfl) (by kernel_rfl) (by kernel_rfl) (fun _ _ _ h => h) (Or.inl ⟨by kernel_rfl, ?_⟩) (by assumption) ?_
    rotate_left
    · (intro w hSw; (try dsimp only at hSw); first | (go_simp; done) | (go_simp; with_reducible rfl))
    try simp only [Act.put, List.setIfInBounds_toArray, List.set_cons_zero, List.set_cons_succ]
    refine wpAnyH_ready (rs := [2, 7, 8]) (by kernel_rfl) (by simp) ?_
    refine AllReadyH.cons rfl (fun K hK => ?_) (AllReadyH.cons rfl (fun K hK => ?_) (AllReadyH.cons rfl (fun K hK => ?_) (AllReadyH.nil)))
    · go_simp
      refine (HN.out W1.drew).mono ?_
      rintro e Y1 ⟨rfl, b⟩
      have s1 : Y1.cell? ⟨tb, 0, none⟩ = some (.slice KT 1 c) := (b.cell (p := ⟨tb, 0, none⟩) (World.block_lt_of_cell? _ _ s0)).trans s0
      have HB1 : Hid (Below W1.heap.size W1 Y1) := Lib.hid (HB0.out.trans (b.mono HB0.out.size))
      clear b
      refine hK.out _ _ ?_ (fun hHeld => ?_)
      · ((try dsimp only); first | with_reducible exact s0 | with_reducible exact s1 | with_reducible exact s2 | with_reducible exact s3 | with_reducible exact s4 | with_reducible exact s5 | with_reducible exact s6)
      clear hK K
      try simp only [Act.put, List.setIfInBounds_toArray, List.set_cons_zero, List.set_cons_succ]
      refine wpAnyH_ready (rs := [6, 7, 8]) (by kernel_rfl) (by simp) ?_
      refine AllReadyH.cons rfl (fun K hK => ?_) (AllReadyH.cons rfl (fun K hK => ?_) (AllReadyH.cons rfl (fun K hK => ?_) (AllReadyH.nil)))
      · go_simp
        refine (HS.out Y1 HB1.out).mono ?_
        rintro e Y2 ⟨rfl, b⟩
        have s2 : Y2.cell? ⟨tb, 0, none⟩ = some (.slice KT 1 c) := (b.cell (p := ⟨tb, 0, none⟩) (World.block_lt_of_cell? _ _ s1)).trans s1
        have HB2 : Hid (Below W1.heap.size W1 Y2) := Lib.hid (HB1.out.trans (b.mono HB1.out.size))
        clear b
        refine hK.out _ _ ?_ (fun hHeld => ?_)
        · ((try dsimp only); first | with_reducible exact s0 | with_reducible exact s1 | with_reducible exact s2 | with_reducible exact s3 | with_reducible exact s4 | with_reducible exact s5 | with_reducible exact s6)
        clear hK K
        try simp only [Act.put, List.setIfInBounds_toArray, List.set_cons_zero, List.set_cons_succ]
        refine wpAnyH_ready (rs := [7, 8]) (by kernel_rfl) (by simp) ?_
        refine AllReadyH.cons rfl (fun K hK => ?_) (AllReadyH.cons rfl (fun K hK => ?_) (AllReadyH.nil))
        · go_simp
          generalize hY : World.alloc _ _ = Y3
          have b : Below Y2.heap.size Y2 Y3 := by rw [← hY]; exact (Below.refl _ _).alloc (Nat.le_refl _) _
          have hF : Y3.heap[Y2.heap.size]? = some (.cells #[.slice none 0 0, .int .i64 0, .int .i64 0, .int .i64 0, .int .i64 0, .int .i64 0, .int .i64 0] 29 (0, 0)) := by rw [← hY]; exact heap_alloc_new Y2 _
          obtain ⟨b5, hb5⟩ : ∃ z, z = Y2.heap.size := ⟨_, rfl⟩
          rw [← hb5] at hF
          rw [← hb5]
          have F5_3 := Lib.hid hF
          have g5 : W1.heap.size ≤ b5 := by have := HB2.out.size; omega
          clear hY hF hb5
          have s3 : Y3.cell? ⟨tb, 0, none⟩ = some (.slice KT 1 c) := (b.cell (p := ⟨tb, 0, none⟩) (World.block_lt_of_cell? _ _ s2)).trans s2
          have HB3 : Hid (Below W1.heap.size W1 Y3) := Lib.hid (HB2.out.trans (b.mono HB2.out.size))
          clear b
          refine hK.out _ _ ?_ (fun hHeld => ?_)
          · ((try dsimp only); first | with_reducible exact s0 | with_reducible exact s1 | with_reducible exact s2 | with_reducible exact s3 | with_reducible exact s4 | with_reducible exact s5 | with_reducible exact s6)
          clear hK K
          try simp only [Act.put, List.setIfInBounds_toArray, List.set_cons_zero, List.set_cons_succ]
          refine wpAnyH_ready (rs := [8]) (by kernel_rfl) (by simp) ?_
          refine AllReadyH.cons rfl (fun K hK => ?_) (AllReadyH.nil)
          go_simp
          generalize hY : World.alloc _ _ = Y4
          have b : Below Y3.heap.size Y3 Y4 := by rw [← hY]; exact (Below.refl _ _).alloc (Nat.le_refl _) _
          have hF : Y4.heap[Y3.heap.size]? = some (.cells #[.slice none 0 0, .int .i64 0, .int .i64 0, .int .i64 0, .int .i64 0, .int .i64 0, .int .i64 0] 29 (0, 0)) := by rw [← hY]; exact heap_alloc_new Y3 _
          obtain ⟨b6, hb6⟩ : ∃ z, z = Y3.heap.size := ⟨_, rfl⟩
          rw [← hb6] at hF
          rw [← hb6]
          have F6_4 := Lib.hid hF
          have g6 : W1.heap.size ≤ b6 := by have := HB3.out.size; omega
          have hne : b5 ≠ b6 := by have := heap_lt F5_3.out; omega
          clear hY hF hb6
          have s4 : Y4.cell? ⟨tb, 0, none⟩ = some (.slice KT 1 c) := (b.cell (p := ⟨tb, 0, none⟩) (World.block_lt_of_cell? _ _ s3)).trans s3
          have HB4 : Hid (Below W1.heap.size W1 Y4) := Lib.hid (HB3.out.trans (b.mono HB3.out.size))
          have F5_4 := Lib.hid ((b.block _ (heap_lt F5_3.out)).trans F5_3.out)
          clear b
          refine hK.out _ _ ?_ (fun hHeld => ?_)
          · ((try dsimp only); first | with_reducible exact s0 | with_reducible exact s1 | with_reducible exact s2 | with_reducible exact s3 | with_reducible exact s4 | with_reducible exact s5 | with_reducible exact s6)
          clear hK K
          try simp only [Act.put, List.setIfInBounds_toArray, List.set_cons_zero, List.set_cons_succ]
          refine wpAnyH_ready (rs := [9]) (by kernel_rfl) (by simp) ?_
          refine AllReadyH.cons rfl (fun K hK => ?_) (AllReadyH.nil)
          obtain ⟨o0, o1, o2, o3, o4, o5, o6, of⟩ := cells7 F5_4.out
          go_simp
          generalize hY : World.setCell _ _ _ = Y5
          have hn5 : b6 ≠ b5 := by omega
          have F5_5 : Hid (Y5.heap[b5]? = some (.cells #[.slice none 0 0, .int .i64 4, .int .i64 0, .int .i64 us, .int .i64 0, .int .i64 0, .int .i64 0] 29 (0, 0))) := Lib.hid (by rw [← hY]; exact (heap_set (heap_set (heap_set (heap_set (heap_set (heap_set (heap_set F5_4.out 0 _) 1 _) 2 _) 3 _) 4 _) 5 _) 6 _))
          have F6_5 : Hid (Y5.heap[b6]? = some (.cells #[.slice none 0 0, .int .i64 0, .int .i64 0, .int .i64 0, .int .i64 0, .int .i64 0, .int .i64 0] 29 (0, 0))) := Lib.hid (by rw [← hY]; exact ((Below.heap_setCell _ _ _ _ hn5).trans ((Below.heap_setCell _ _ _ _ hn5).trans ((Below.heap_setCell _ _ _ _ hn5).trans ((Below.heap_setCell _ _ _ _ hn5).trans ((Below.heap_setCell _ _ _ _ hn5).trans ((Below.heap_setCell _ _ _ _ hn5).trans ((Below.heap_setCell _ _ _ _ hn5).trans F6_4.out))))))))
          have HB5 : Hid (Below W1.heap.size W1 Y5) := Lib.hid (by rw [← hY]; exact (((((((HB4.out.setCell (p := ⟨b5, 0, none⟩) g5 _).setCell (p := ⟨b5, 1, none⟩) g5 _).setCell (p := ⟨b5, 2, none⟩) g5 _).setCell (p := ⟨b5, 3, none⟩) g5 _).setCell (p := ⟨b5, 4, none⟩) g5 _).setCell (p := ⟨b5, 5, none⟩) g5 _).setCell (p := ⟨b5, 6, none⟩) g5 _))
          have hnt5 : tb ≠ b5 := by have := Htb.out; omega
          have s5 : Y5.cell? ⟨tb, 0, none⟩ = some (.slice KT 1 c) := by rw [← hY]; exact (set_far hnt5).trans ((set_far hnt5).trans ((set_far hnt5).trans ((set_far hnt5).trans ((set_far hnt5).trans ((set_far hnt5).trans ((set_far hnt5).trans (s4)))))))
          clear hY o0 o1 o2 o3 o4 o5 o6 of
          refine hK.out _ _ ?_ (fun hHeld => ?_)
          · ((try dsimp only); first | with_reducible exact s0 | with_reducible exact s1 | with_reducible exact s2 | with_reducible exact s3 | with_reducible exact s4 | with_reducible exact s5 | with_reducible exact s6)
          clear hK K
          try simp only [Act.put, List.setIfInBounds_toArray, List.set_cons_zero, List.set_cons_succ]
          refine wpAnyH_ready (rs := [10]) (by kernel_rfl) (by simp) ?_
          refine AllReadyH.cons rfl (fun K hK => ?_) (AllReadyH.nil)
          obtain ⟨o0, o1, o2, o3, o4, o5, o6, of⟩ := cells7 F6_5.out
          go_simp
          generalize hY : World.setCell _ _ _ = Y6
          have hn6 : b5 ≠ b6 := by omega
          have F6_6 : Hid (Y6.heap[b6]? = some (.cells #[.slice none 0 0, .int .i64 0, .int .i64 0, .int .i64 0, .int .i64 0, .int .i64 0, .int .i64 1] 29 (0, 0))) := Lib.hid (by rw [← hY]; exact (heap_set (heap_set (heap_set (heap_set (heap_set (heap_set (heap_set F6_5.out 0 _) 1 _) 2 _) 3 _) 4 _) 5 _) 6 _))
          have F5_6 : Hid (Y6.heap[b5]? = some (.cells #[.slice none 0 0, .int .i64 4, .int .i64 0, .int .i64 us, .int .i64 0, .int .i64 0, .int .i64 0] 29 (0, 0))) := Lib.hid (by rw [← hY]; exact ((Below.heap_setCell _ _ _ _ hn6).trans ((Below.heap_setCell _ _ _ _ hn6).trans ((Below.heap_setCell _ _ _ _ hn6).trans ((Below.heap_setCell _ _ _ _ hn6).trans ((Below.heap_setCell _ _ _ _ hn6).trans ((Below.heap_setCell _ _ _ _ hn6).trans ((Below.heap_setCell _ _ _ _ hn6).trans F5_5.out))))))))
          have HB6 : Hid (Below W1.heap.size W1 Y6) := Lib.hid (by rw [← hY]; exact (((((((HB5.out.setCell (p := ⟨b6, 0, none⟩) g6 _).setCell (p := ⟨b6, 1, none⟩) g6 _).setCell (p := ⟨b6, 2, none⟩) g6 _).setCell (p := ⟨b6, 3, none⟩) g6 _).setCell (p := ⟨b6, 4, none⟩) g6 _).setCell (p := ⟨b6, 5, none⟩) g6 _).setCell (p := ⟨b6, 6, none⟩) g6 _))
          have hnt6 : tb ≠ b6 := by have := Htb.out; omega
          have s6 : Y6.cell? ⟨tb, 0, none⟩ = some (.slice KT 1 c) := by rw [← hY]; exact (set_far hnt6).trans ((set_far hnt6).trans ((set_far hnt6).trans ((set_far hnt6).trans ((set_far hnt6).trans ((set_far hnt6).trans ((set_far hnt6).trans (s5)))))))
          clear hY o0 o1 o2 o3 o4 o5 o6 of
          refine hK.out _ _ ?_ (fun hHeld => ?_)
          · ((try dsimp only); first | with_reducible exact s0 | with_reducible exact s1 | with_reducible exact s2 | with_reducible exact s3 | with_reducible exact s4 | with_reducible exact s5 | with_reducible exact s6)
          clear hK K
          try simp only [Act.put, List.setIfInBounds_toArray, List.set_cons_zero, List.set_cons_succ]
          refine wpAnyH_done (by kernel_rfl) ?_ _
          clear s0 s1 s2 s3 s4 s5 s6 g5 g6 hne hn5 hn6 hnt5 hnt6
          go_wp2_with fail
          go_meet
          exact ⟨b5, b6, rfl, rfl, F5_6.out, F6_6.out, HB6.out⟩
        · go_simp
          generalize hY : World.alloc _ _ = Y3
          have b : Below Y2.heap.size Y2 Y3 := by rw [← hY]; exact (Below.refl _ _).alloc (Nat.le_refl _) _
          have hF : Y3.heap[Y2.heap.size]? = some (.cells #[.slice none 0 0, .int .i64 0, .int .i64 0, .int .i64 0, .int .i64 0, .int .i64 0, .int .i64 0] 29 (0, 0)) := by rw [← hY]; exact heap_alloc_new Y2 _
          obtain ⟨b6, hb6⟩ : ∃ z, z = Y2.heap.size := ⟨_, rfl⟩
          rw [← hb6] at hF
          rw [← hb6]
          have F6_3 := Lib.hid hF
          have g6 : W1.heap.size ≤ b6 := by have := HB2.out.size; omega
          clear hY hF hb6
          have s3 : Y3.cell? ⟨tb, 0, none⟩ = some (.slice KT 1 c) := (b.cell (p := ⟨tb, 0, none⟩) (World.block_lt_of_cell? _ _ s2)).trans s2
          have HB3 : Hid (Below W1.heap.size W1 Y3) := Lib.hid (HB2.out.trans (b.mono HB2.out.size))
          clear b
          refine hK.out _ _ ?_ (fun hHeld => ?_)
          · ((try dsimp only); first | with_reducible exact s0 | with_reducible exact s1 | with_reducible exact s2 | with_reducible exact s3 | with_reducible exact s4 | with_reducible exact s5 | with_reducible exact s6)
          clear hK K
          try simp only [Act.put, List.setIfInBounds_toArray, List.set_cons_zero, List.set_cons_succ]
          refine wpAnyH_ready (rs := [7]) (by kernel_rfl) (by simp) ?_
          refine AllReadyH.cons rfl (fun K hK => ?_) (AllReadyH.nil)
          go_simp
          generalize hY : World.alloc _ _ = Y4
          have b : Below Y3.heap.size Y3 Y4 := by rw [← hY]; exact (Below.refl _ _).alloc (Nat.le_refl _) _
          have hF : Y4.heap[Y3.heap.size]? = some (.cells #[.slice none 0 0, .int .i64 0, .int .i64 0, .int .i64 0, .int .i64 0, .int .i64 0, .int .i64 0] 29 (0, 0)) := by rw [← hY]; exact heap_alloc_new Y3 _
          obtain ⟨b5, hb5⟩ : ∃ z, z = Y3.heap.size := ⟨_, rfl⟩
          rw [← hb5] at hF
          rw [← hb5]
          have F5_4 := Lib.hid hF
          have g5 : W1.heap.size ≤ b5 := by have := HB3.out.size; omega
          have hne : b6 ≠ b5 := by have := heap_lt F6_3.out; omega
          clear hY hF hb5
          have s4 : Y4.cell? ⟨tb, 0, none⟩ = some (.slice KT 1 c) := (b.cell (p := ⟨tb, 0, none⟩) (World.block_lt_of_cell? _ _ s3)).trans s3
          have HB4 : Hid (Below W1.heap.size W1 Y4) := Lib.hid (HB3.out.trans (b.mono HB3.out.size))
          have F6_4 := Lib.hid ((b.block _ (heap_lt F6_3.out)).trans F6_3.out)
          clear b
          refine hK.out _ _ ?_ (fun hHeld => ?_)
          · ((try dsimp only); first | with_reducible exact s0 | with_reducible exact s1 | with_reducible exact s2 | with_reducible exact s3 | with_reducible exact s4 | with_reducible exact s5 | with_reducible exact s6)
          clear hK K
          try simp only [Act.put, List.setIfInBounds_toArray, List.set_cons_zero, List.set_cons_succ]
          refine wpAnyH_ready (rs := [9]) (by kernel_rfl) (by simp) ?_
          refine AllReadyH.cons rfl (fun K hK => ?_) (AllReadyH.nil)
          obtain ⟨o0, o1, o2, o3, o4, o5, o6, of⟩ := cells7 F5_4.out
          go_simp
          generalize hY : World.setCell _ _ _ = Y5
          have hn5 : b6 ≠ b5 := by omega
          have F5_5 : Hid (Y5.heap[b5]? = some (.cells #[.slice none 0 0, .int .i64 4, .int .i64 0, .int .i64 us, .int .i64 0, .int .i64 0, .int .i64 0] 29 (0, 0))) := Lib.hid (by rw [← hY]; exact (heap_set (heap_set (heap_set (heap_set (heap_set (heap_set (heap_set F5_4.out 0 _) 1 _) 2 _) 3 _) 4 _) 5 _) 6 _))
          have F6_5 : Hid (Y5.heap[b6]? = some (.cells #[.slice none 0 0, .int .i64 0, .int .i64 0, .int .i64 0, .int .i64 0, .int .i64 0, .int .i64 0] 29 (0, 0))) := Lib.hid (by rw [← hY]; exact ((Below.heap_setCell _ _ _ _ hn5).trans ((Below.heap_setCell _ _ _ _ hn5).trans ((Below.heap_setCell _ _ _ _ hn5).trans ((Below.heap_setCell _ _ _ _ hn5).trans ((Below.heap_setCell _ _ _ _ hn5).trans ((Below.heap_setCell _ _ _ _ hn5).trans ((Below.heap_setCell _ _ _ _ hn5).trans F6_4.out))))))))
          have HB5 : Hid (Below W1.heap.size W1 Y5) := Lib.hid (by rw [← hY]; exact (((((((HB4.out.setCell (p := ⟨b5, 0, none⟩) g5 _).setCell (p := ⟨b5, 1, none⟩) g5 _).setCell (p := ⟨b5, 2, none⟩) g5 _).setCell (p := ⟨b5, 3, none⟩) g5 _).setCell (p := ⟨b5, 4, none⟩) g5 _).setCell (p := ⟨b5, 5, none⟩) g5 _).setCell (p := ⟨b5, 6, none⟩) g5 _))
          have hnt5 : tb ≠ b5 := by have := Htb.out; omega
          have s5 : Y5.cell? ⟨tb, 0, none⟩ = some (.slice KT 1 c) := by rw [← hY]; exact (set_far hnt5).trans ((set_far hnt5).trans ((set_far hnt5).trans ((set_far hnt5).trans ((set_far hnt5).trans ((set_far hnt5).trans ((set_far hnt5).trans (s4)))))))
          clear hY o0 o1 o2 o3 o4 o5 o6 of
          refine hK.out _ _ ?_ (fun hHeld => ?_)
          · ((try dsimp only); first | with_reducible exact s0 | with_reducible exact s1 | with_reducible exact s2 | with_reducible exact s3 | with_reducible exact s4 | with_reducible exact s5 | with_reducible exact s6)
          clear hK K
          try simp only [Act.put, List.setIfInBounds_toArray, List.set_cons_zero, List.set_cons_succ]
          refine wpAnyH_ready (rs := [10]) (by kernel_rfl) (by simp) ?_
          refine AllReadyH.cons rfl (fun K hK => ?_) (AllReadyH.nil)
          obtain ⟨o0, o1, o2, o3, o4, o5, o6, of⟩ := cells7 F6_5.out
          go_simp
          generalize hY : World.setCell _ _ _ = Y6
          have hn6 : b5 ≠ b6 := by omega
          have F6_6 : Hid (Y6.heap[b6]? = some (.cells #[.slice none 0 0, .int .i64 0, .int .i64 0, .int .i64 0, .int .i64 0, .int .i64 0, .int .i64 1] 29 (0, 0))) := Lib.hid (by rw [← hY]; exact (heap_set (heap_set (heap_set (heap_set (heap_set (heap_set (heap_set F6_5.out 0 _) 1 _) 2 _) 3 _) 4 _) 5 _) 6 _))
          have F5_6 : Hid (Y6.heap[b5]? = some (.cells #[.slice none 0 0, .int .i64 4, .int .i64 0, .int .i64 us, .int .i64 0, .int .i64 0, .int .i64 0] 29 (0, 0))) := Lib.hid (by rw [← hY]; exact ((Below.heap_setCell _ _ _ _ hn6).trans ((Below.heap_setCell _ _ _ _ hn6).trans ((Below.heap_setCell _ _ _ _ hn6).trans ((Below.heap_setCell _ _ _ _ hn6).trans ((Below.heap_setCell _ _ _ _ hn6).trans ((Below.heap_setCell _ _ _ _ hn6).trans ((Below.heap_setCell _ _ _ _ hn6).trans F5_5.out))))))))
          have HB6 : Hid (Below W1.heap.size W1 Y6) := Lib.hid (by rw [← hY]; exact (((((((HB5.out.setCell (p := ⟨b6, 0, none⟩) g6 _).setCell (p := ⟨b6, 1, none⟩) g6 _).setCell (p := ⟨b6, 2, none⟩) g6 _).setCell (p := ⟨b6, 3, none⟩) g6 _).setCell (p := ⟨b6, 4, none⟩) g6 _).setCell (p := ⟨b6, 5, none⟩) g6 _).setCell (p := ⟨b6, 6, none⟩) g6 _))
          have hnt6 : tb ≠ b6 := by have := Htb.out; omega
          have s6 : Y6.cell? ⟨tb, 0, none⟩ = some (.slice KT 1 c) := by rw [← hY]; exact (set_far hnt6).trans ((set_far hnt6).trans ((set_far hnt6).trans ((set_far hnt6).trans ((set_far hnt6).trans ((set_far hnt6).trans ((set_far hnt6).trans (s5)))))))
          clear hY o0 o1 o2 o3 o4 o5 o6 of
          refine hK.out _ _ ?_ (fun hHeld => ?_)
          · ((try dsimp only); first | with_reducible exact s0 | with_reducible exact s1 | with_reducible exact s2 | with_reducible exact s3 | with_reducible exact s4 | with_reducible exact s5 | with_reducible exact s6)
          clear hK K
          try simp only [Act.put, List.setIfInBounds_toArray, List.set_cons_zero, List.set_cons_succ]
          refine wpAnyH_done (by kernel_rfl) ?_ _
          clear s0 s1 s2 s3 s4 s5 s6 g5 g6 hne hn5 hn6 hnt5 hnt6
          go_wp2_with fail
          go_meet
          exact ⟨b5, b6, rfl, rfl, F5_6.out, F6_6.out, HB6.out⟩
      · go_simp
        generalize hY : World.alloc _ _ = Y2
        have b : Below Y1.heap.size Y1 Y2 := by rw [← hY]; exact (Below.refl _ _).alloc (Nat.le_refl _) _
        have hF : Y2.heap[Y1.heap.size]? = some (.cells #[.slice none 0 0, .int .i64 0, .int .i64 0, .int .i64 0, .int .i64 0, .int .i64 0, .int .i64 0] 29 (0, 0)) := by rw [← hY]; exact heap_alloc_new Y1 _
        obtain ⟨b5, hb5⟩ : ∃ z, z = Y1.heap.size := ⟨_, rfl⟩
        rw [← hb5] at hF
        rw [← hb5]
        have F5_2 := Lib.hid hF
        have g5 : W1.heap.size ≤ b5 := by have := HB1.out.size; omega
        clear hY hF hb5
        have s2 : Y2.cell? ⟨tb, 0, none⟩ = some (.slice KT 1 c) := (b.cell (p := ⟨tb, 0, none⟩) (World.block_lt_of_cell? _ _ s1)).trans s1
        have HB2 : Hid (Below W1.heap.size W1 Y2) := Lib.hid (HB1.out.trans (b.mono HB1.out.size))
        clear b
        refine hK.out _ _ ?_ (fun hHeld => ?_)
        · ((try dsimp only); first | with_reducible exact s0 | with_reducible exact s1 | with_reducible exact s2 | with_reducible exact s3 | with_reducible exact s4 | with_reducible exact s5 | with_reducible exact s6)
        clear hK K
        try simp only [Act.put, List.setIfInBounds_toArray, List.set_cons_zero, List.set_cons_succ]
        refine wpAnyH_ready (rs := [6, 8]) (by kernel_rfl) (by simp) ?_
        refine AllReadyH.cons rfl (fun K hK => ?_) (AllReadyH.cons rfl (fun K hK => ?_) (AllReadyH.nil))
        · go_simp
          refine (HS.out Y2 HB2.out).mono ?_
          rintro e Y3 ⟨rfl, b⟩
          have s3 : Y3.cell? ⟨tb, 0, none⟩ = some (.slice KT 1 c) := (b.cell (p := ⟨tb, 0, none⟩) (World.block_lt_of_cell? _ _ s2)).trans s2
          have HB3 : Hid (Below W1.heap.size W1 Y3) := Lib.hid (HB2.out.trans (b.mono HB2.out.size))
          have F5_3 := Lib.hid ((b.block _ (heap_lt F5_2.out)).trans F5_2.out)
          clear b
          refine hK.out _ _ ?_ (fun hHeld => ?_)
          · ((try dsimp only); first | with_reducible exact s0 | with_reducible exact s1 | with_reducible exact s2 | with_reducible exact s3 | with_reducible exact s4 | with_reducible exact s5 | with_reducible exact s6)
          clear hK K
          try simp only [Act.put, List.setIfInBounds_toArray, List.set_cons_zero, List.set_cons_succ]
          refine wpAnyH_ready (rs := [8]) (by kernel_rfl) (by simp) ?_
          refine AllReadyH.cons rfl (fun K hK => ?_) (AllReadyH.nil)
          go_simp
          generalize hY : World.alloc _ _ = Y4
          have b : Below Y3.heap.size Y3 Y4 := by rw [← hY]; exact (Below.refl _ _).alloc (Nat.le_refl _) _
          have hF : Y4.heap[Y3.heap.size]? = some (.cells #[.slice none 0 0, .int .i64 0, .int .i64 0, .int .i64 0, .int .i64 0, .int .i64 0, .int .i64 0] 29 (0, 0)) := by rw [← hY]; exact heap_alloc_new Y3 _
          obtain ⟨b6, hb6⟩ : ∃ z, z = Y3.heap.size := ⟨_, rfl⟩
          rw [← hb6] at hF
          rw [← hb6]
          have F6_4 := Lib.hid hF
          have g6 : W1.heap.size ≤ b6 := by have := HB3.out.size; omega
          have hne : b5 ≠ b6 := by have := heap_lt F5_3.out; omega
          clear hY hF hb6
          have s4 : Y4.cell? ⟨tb, 0, none⟩ = some (.slice KT 1 c) := (b.cell (p := ⟨tb, 0, none⟩) (World.block_lt_of_cell? _ _ s3)).trans s3
          have HB4 : Hid (Below W1.heap.size W1 Y4) := Lib.hid (HB3.out.trans (b.mono HB3.out.size))
          have F5_4 := Lib.hid ((b.block _ (heap_lt F5_3.out)).trans F5_3.out)
          clear b
          refine hK.out _ _ ?_ (fun hHeld => ?_)
          · ((try dsimp only); first | with_reducible exact s0 | with_reducible exact s1 | with_reducible exact s2 | with_reducible exact s3 | with_reducible exact s4 | with_reducible exact s5 | with_reducible exact s6)
          clear hK K
          try simp only [Act.put, List.setIfInBounds_toArray, List.set_cons_zero, List.set_cons_succ]
          refine wpAnyH_ready (rs := [9]) (by kernel_rfl) (by simp) ?_
          refine AllReadyH.cons rfl (fun K hK => ?_) (AllReadyH.nil)
          obtain ⟨o0, o1, o2, o3, o4, o5, o6, of⟩ := cells7 F5_4.out
          go_simp
          generalize hY : World.setCell _ _ _ = Y5
          have hn5 : b6 ≠ b5 := by omega
          have F5_5 : Hid (Y5.heap[b5]? = some (.cells #[.slice none 0 0, .int .i64 4, .int .i64 0, .int .i64 us, .int .i64 0, .int .i64 0, .int .i64 0] 29 (0, 0))) := Lib.hid (by rw [← hY]; exact (heap_set (heap_set (heap_set (heap_set (heap_set (heap_set (heap_set F5_4.out 0 _) 1 _) 2 _) 3 _) 4 _) 5 _) 6 _))
          have F6_5 : Hid (Y5.heap[b6]? = some (.cells #[.slice none 0 0, .int .i64 0, .int .i64 0, .int .i64 0, .int .i64 0, .int .i64 0, .int .i64 0] 29 (0, 0))) := Lib.hid (by rw [← hY]; exact ((Below.heap_setCell _ _ _ _ hn5).trans ((Below.heap_setCell _ _ _ _ hn5).trans ((Below.heap_setCell _ _ _ _ hn5).trans ((Below.heap_setCell _ _ _ _ hn5).trans ((Below.heap_setCell _ _ _ _ hn5).trans ((Below.heap_setCell _ _ _ _ hn5).trans ((Below.heap_setCell _ _ _ _ hn5).trans F6_4.out))))))))
          have HB5 : Hid (Below W1.heap.size W1 Y5) := Lib.hid (by rw [← hY]; exact (((((((HB4.out.setCell (p := ⟨b5, 0, none⟩) g5 _).setCell (p := ⟨b5, 1, none⟩) g5 _).setCell (p := ⟨b5, 2, none⟩) g5 _).setCell (p := ⟨b5, 3, none⟩) g5 _).setCell (p := ⟨b5, 4, none⟩) g5 _).setCell (p := ⟨b5, 5, none⟩) g5 _).setCell (p := ⟨b5, 6, none⟩) g5 _))
          have hnt5 : tb ≠ b5 := by have := Htb.out; omega
          have s5 : Y5.cell? ⟨tb, 0, none⟩ = some (.slice KT 1 c) := by rw [← hY]; exact (set_far hnt5).trans ((set_far hnt5).trans ((set_far hnt5).trans ((set_far hnt5).trans ((set_far hnt5).trans ((set_far hnt5).trans ((set_far hnt5).trans (s4)))))))
          clear hY o0 o1 o2 o3 o4 o5 o6 of
          refine hK.out _ _ ?_ (fun hHeld => ?_)
          · ((try dsimp only); first | with_reducible exact s0 | with_reducible exact s1 | with_reducible exact s2 | with_reducible exact s3 | with_reducible exact s4 | with_reducible exact s5 | with_reducible exact s6)
          clear hK K
          try simp only [Act.put, List.setIfInBounds_toArray, List.set_cons_zero, List.set_cons_succ]
          refine wpAnyH_ready (rs := [10]) (by kernel_rfl) (by simp) ?_
          refine AllReadyH.cons rfl (fun K hK => ?_) (AllReadyH.nil)
          obtain ⟨o0, o1, o2, o3, o4, o5, o6, of⟩ := cells7 F6_5.out
          go_simp
          generalize hY : World.setCell _ _ _ = Y6
          have hn6 : b5 ≠ b6 := by omega
          have F6_6 : Hid (Y6.heap[b6]? = some (.cells #[.slice none 0 0, .int .i64 0, .int .i64 0, .int .i64 0, .int .i64 0, .int .i64 0, .int .i64 1] 29 (0, 0))) := Lib.hid (by rw [← hY]; exact (heap_set (heap_set (heap_set (heap_set (heap_set (heap_set (heap_set F6_5.out 0 _) 1 _) 2 _) 3 _) 4 _) 5 _) 6 _))
          have F5_6 : Hid (Y6.heap[b5]? = some (.cells #[.slice none 0 0, .int .i64 4, .int .i64 0, .int .i64 us, .int .i64 0, .int .i64 0, .int .i64 0] 29 (0, 0))) := Lib.hid (by rw [← hY]; exact ((Below.heap_setCell _ _ _ _ hn6).trans ((Below.heap_setCell _ _ _ _ hn6).trans ((Below.heap_setCell _ _ _ _ hn6).trans ((Below.heap_setCell _ _ _ _ hn6).trans ((Below.heap_setCell _ _ _ _ hn6).trans ((Below.heap_setCell _ _ _ _ hn6).trans ((Below.heap_setCell _ _ _ _ hn6).trans F5_5.out))))))))
          have HB6 : Hid (Below W1.heap.size W1 Y6) := Lib.hid (by rw [← hY]; exact (((((((HB5.out.setCell (p := ⟨b6, 0, none⟩) g6 _).setCell (p := ⟨b6, 1, none⟩) g6 _).setCell (p := ⟨b6, 2, none⟩) g6 _).setCell (p := ⟨b6, 3, none⟩) g6 _).setCell (p := ⟨b6, 4, none⟩) g6 _).setCell (p := ⟨b6, 5, none⟩) g6 _).setCell (p := ⟨b6, 6, none⟩) g6 _))
          have hnt6 : tb ≠ b6 := by have := Htb.out; omega
          have s6 : Y6.cell? ⟨tb, 0, none⟩ = some (.slice KT 1 c) := by rw [← hY]; exact (set_far hnt6).trans ((set_far hnt6).trans ((set_far hnt6).trans ((set_far hnt6).trans ((set_far hnt6).trans ((set_far hnt6).trans ((set_far hnt6).trans (s5)))))))
          clear hY o0 o1 o2 o3 o4 o5 o6 of
          refine hK.out _ _ ?_ (fun hHeld => ?_)
          · ((try dsimp only); first | with_reducible exact s0 | with_reducible exact s1 | with_reducible exact s2 | with_reducible exact s3 | with_reducible exact s4 | with_reducible exact s5 | with_reducible exact s6)
          clear hK K
          try simp only [Act.put, List.setIfInBounds_toArray, List.set_cons_zero, List.set_cons_succ]
          refine wpAnyH_done (by kernel_rfl) ?_ _
          clear s0 s1 s2 s3 s4 s5 s6 g5 g6 hne hn5 hn6 hnt5 hnt6
          go_wp2_with fail
          go_meet
          exact ⟨b5, b6, rfl, rfl, F5_6.out, F6_6.out, HB6.out⟩
        · go_simp
          generalize hY : World.alloc _ _ = Y3
          have b : Below Y2.heap.size Y2 Y3 := by rw [← hY]; exact (Below.refl _ _).alloc (Nat.le_refl _) _
          have hF : Y3.heap[Y2.heap.size]? = some (.cells #[.slice none 0 0, .int .i64 0, .int .i64 0, .int .i64 0, .int .i64 0, .int .i64 0, .int .i64 0] 29 (0, 0)) := by rw [← hY]; exact heap_alloc_new Y2 _
          obtain ⟨b6, hb6⟩ : ∃ z, z = Y2.heap.size := ⟨_, rfl⟩
          rw [← hb6] at hF
          rw [← hb6]
          have F6_3 := Lib.hid hF
          have g6 : W1.heap.size ≤ b6 := by have := HB2.out.size; omega
          have hne : b5 ≠ b6 := by have := heap_lt F5_2.out; omega
          clear hY hF hb6
          have s3 : Y3.cell? ⟨tb, 0, none⟩ = some (.slice KT 1 c) := (b.cell (p := ⟨tb, 0, none⟩) (World.block_lt_of_cell? _ _ s2)).trans s2
          have HB3 : Hid (Below W1.heap.size W1 Y3) := Lib.hid (HB2.out.trans (b.mono HB2.out.size))
          have F5_3 := Lib.hid ((b.block _ (heap_lt F5_2.out)).trans F5_2.out)
          clear b
          refine hK.out _ _ ?_ (fun hHeld => ?_)
          · ((try dsimp only); first | with_reducible exact s0 | with_reducible exact s1 | with_reducible exact s2 | with_reducible exact s3 | with_reducible exact s4 | with_reducible exact s5 | with_reducible exact s6)
          clear hK K
          try simp only [Act.put, List.setIfInBounds_toArray, List.set_cons_zero, List.set_cons_succ]
          refine wpAnyH_ready (rs := [6]) (by kernel_rfl) (by simp) ?_
          refine AllReadyH.cons rfl (fun K hK => ?_) (AllReadyH.nil)
          go_simp
          refine (HS.out Y3 HB3.out).mono ?_
          rintro e Y4 ⟨rfl, b⟩
          have s4 : Y4.cell? ⟨tb, 0, none⟩ = some (.slice KT 1 c) := (b.cell (p := ⟨tb, 0, none⟩) (World.block_lt_of_cell? _ _ s3)).trans s3
          have HB4 : Hid (Below W1.heap.size W1 Y4) := Lib.hid (HB3.out.trans (b.mono HB3.out.size))
          have F5_4 := Lib.hid ((b.block _ (heap_lt F5_3.out)).trans F5_3.out)
          have F6_4 := Lib.hid ((b.block _ (heap_lt F6_3.out)).trans F6_3.out)
          clear b
          refine hK.out _ _ ?_ (fun hHeld => ?_)
          · ((try dsimp only); first | with_reducible exact s0 | with_reducible exact s1 | with_reducible exact s2 | with_reducible exact s3 | with_reducible exact s4 | with_reducible exact s5 | with_reducible exact s6)
          clear hK K
          try simp only [Act.put, List.setIfInBounds_toArray, List.set_cons_zero, List.set_cons_succ]
          refine wpAnyH_ready (rs := [9]) (by kernel_rfl) (by simp) ?_
          refine AllReadyH.cons rfl (fun K hK => ?_) (AllReadyH.nil)
          obtain ⟨o0, o1, o2, o3, o4, o5, o6, of⟩ := cells7 F5_4.out
          go_simp
          generalize hY : World.setCell _ _ _ = Y5
          have hn5 : b6 ≠ b5 := by omega
          have F5_5 : Hid (Y5.heap[b5]? = some (.cells #[.slice none 0 0, .int .i64 4, .int .i64 0, .int .i64 us, .int .i64 0, .int .i64 0, .int .i64 0] 29 (0, 0))) := Lib.hid (by rw [← hY]; exact (heap_set (heap_set (heap_set (heap_set (heap_set (heap_set (heap_set F5_4.out 0 _) 1 _) 2 _) 3 _) 4 _) 5 _) 6 _))
          have F6_5 : Hid (Y5.heap[b6]? = some (.cells #[.slice none 0 0, .int .i64 0, .int .i64 0, .int .i64 0, .int .i64 0, .int .i64 0, .int .i64 0] 29 (0, 0))) := Lib.hid (by rw [← hY]; exact ((Below.heap_setCell _ _ _ _ hn5).trans ((Below.heap_setCell _ _ _ _ hn5).trans ((Below.heap_setCell _ _ _ _ hn5).trans ((Below.heap_setCell _ _ _ _ hn5).trans ((Below.heap_setCell _ _ _ _ hn5).trans ((Below.heap_setCell _ _ _ _ hn5).trans ((Below.heap_setCell _ _ _ _ hn5).trans F6_4.out))))))))
          have HB5 : Hid (Below W1.heap.size W1 Y5) := Lib.hid (by rw [← hY]; exact (((((((HB4.out.setCell (p := ⟨b5, 0, none⟩) g5 _).setCell (p := ⟨b5, 1, none⟩) g5 _).setCell (p := ⟨b5, 2, none⟩) g5 _).setCell (p := ⟨b5, 3, none⟩) g5 _).setCell (p := ⟨b5, 4, none⟩) g5 _).setCell (p := ⟨b5, 5, none⟩) g5 _).setCell (p := ⟨b5, 6, none⟩) g5 _))
          have hnt5 : tb ≠ b5 := by have := Htb.out; omega
          have s5 : Y5.cell? ⟨tb, 0, none⟩ = some (.slice KT 1 c) := by rw [← hY]; exact (set_far hnt5).trans ((set_far hnt5).trans ((set_far hnt5).trans ((set_far hnt5).trans ((set_far hnt5).trans ((set_far hnt5).trans ((set_far hnt5).trans (s4)))))))
          clear hY o0 o1 o2 o3 o4 o5 o6 of
          refine hK.out _ _ ?_ (fun hHeld => ?_)
          · ((try dsimp only); first | with_reducible exact s0 | with_reducible exact s1 | with_reducible exact s2 | with_reducible exact s3 | with_reducible exact s4 | with_reducible exact s5 | with_reducible exact s6)
          clear hK K
          try simp only [Act.put, List.setIfInBounds_toArray, List.set_cons_zero, List.set_cons_succ]
          refine wpAnyH_ready (rs := [10]) (by kernel_rfl) (by simp) ?_
          refine AllReadyH.cons rfl (fun K hK => ?_) (AllReadyH.nil)
          obtain ⟨o0, o1, o2, o3, o4, o5, o6, of⟩ := cells7 F6_5.out
          go_simp
          generalize hY : World.setCell _ _ _ = Y6
          have hn6 : b5 ≠ b6 := by omega
          have F6_6 : Hid (Y6.heap[b6]? = some (.cells #[.slice none 0 0, .int .i64 0, .int .i64 0, .int .i64 0, .int .i64 0, .int .i64 0, .int .i64 1] 29 (0, 0))) := Lib.hid (by rw [← hY]; exact (heap_set (heap_set (heap_set (heap_set (heap_set (heap_set (heap_set F6_5.out 0 _) 1 _) 2 _) 3 _) 4 _) 5 _) 6 _))
          have F5_6 : Hid (Y6.heap[b5]? = some (.cells #[.slice none 0 0, .int .i64 4, .int .i64 0, .int .i64 us, .int .i64 0, .int .i64 0, .int .i64 0] 29 (0, 0))) := Lib.hid (by rw [← hY]; exact ((Below.heap_setCell _ _ _ _ hn6).trans ((Below.heap_setCell _ _ _ _ hn6).trans ((Below.heap_setCell _ _ _ _ hn6).trans ((Below.heap_setCell _ _ _ _ hn6).trans ((Below.heap_setCell _ _ _ _ hn6).trans ((Below.heap_setCell _ _ _ _ hn6).trans ((Below.heap_setCell _ _ _ _ hn6).trans F5_5.out))))))))
          have HB6 : Hid (Below W1.heap.size W1 Y6) := Lib.hid (by rw [← hY]; exact (((((((HB5.out.setCell (p := ⟨b6, 0, none⟩) g6 _).setCell (p := ⟨b6, 1, none⟩) g6 _).setCell (p := ⟨b6, 2, none⟩) g6 _).setCell (p := ⟨b6, 3, none⟩) g6 _).setCell (p := ⟨b6, 4, none⟩) g6 _).setCell (p := ⟨b6, 5, none⟩) g6 _).setCell (p := ⟨b6, 6, none⟩) g6 _))
          have hnt6 : tb ≠ b6 := by have := Htb.out; omega
          have s6 : Y6.cell? ⟨tb, 0, none⟩ = some (.slice KT 1 c) := by rw [← hY]; exact (set_far hnt6).trans ((set_far hnt6).trans ((set_far hnt6).trans ((set_far hnt6).trans ((set_far hnt6).trans ((set_far hnt6).trans ((set_far hnt6).trans (s5)))))))
          clear hY o0 o1 o2 o3 o4 o5 o6 of
          refine hK.out _ _ ?_ (fun hHeld => ?_)
          · ((try dsimp only); first | with_reducible exact s0 | with_reducible exact s1 | with_reducible exact s2 | with_reducible exact s3 | with_reducible exact s4 | with_reducible exact s5 | with_reducible exact s6)
          clear hK K
          try simp only [Act.put, List.setIfInBounds_toArray, List.set_cons_zero, List.set_cons_succ]
          refine wpAnyH_done (by kernel_rfl) ?_ _
          clear s0 s1 s2 s3 s4 s5 s6 g5 g6 hne hn5 hn6 hnt5 hnt6
          go_wp2_with fail
          go_meet
          exact ⟨b5, b6, rfl, rfl, F5_6.out, F6_6.out, HB6.out⟩
      · go_simp
        generalize hY : World.alloc _ _ = Y2
        have b : Below Y1.heap.size Y1 Y2 := by rw [← hY]; exact (Below.refl _ _).alloc (Nat.le_refl _) _
        have hF : Y2.heap[Y1.heap.size]? = some (.cells #[.slice none 0 0, .int .i64 0, .int .i64 0, .int .i64 0, .int .i64 0, .int .i64 0, .int .i64 0] 29 (0, 0)) := by rw [← hY]; exact heap_alloc_new Y1 _
        obtain ⟨b6, hb6⟩ : ∃ z, z = Y1.heap.size := ⟨_, rfl⟩
        rw [← hb6] at hF
        rw [← hb6]
        have F6_2 := Lib.hid hF
        have g6 : W1.heap.size ≤ b6 := by have := HB1.out.size; omega
        clear hY hF hb6
        have s2 : Y2.cell? ⟨tb, 0, none⟩ = some (.slice KT 1 c) := (b.cell (p := ⟨tb, 0, none⟩) (World.block_lt_of_cell? _ _ s1)).trans s1
        have HB2 : Hid (Below W1.heap.size W1 Y2) := Lib.hid (HB1.out.trans (b.mono HB1.out.size))
        clear b
        refine hK.out _ _ ?_ (fun hHeld => ?_)
        · ((try dsimp only); first | with_reducible exact s0 | with_reducible exact s1 | with_reducible exact s2 | with_reducible exact s3 | with_reducible exact s4 | with_reducible exact s5 | with_reducible exact s6)
        clear hK K
        try simp only [Act.put, List.setIfInBounds_toArray, List.set_cons_zero, List.set_cons_succ]
        refine wpAnyH_ready (rs := [6, 7]) (by kernel_rfl) (by simp) ?_
        refine AllReadyH.cons rfl (fun K hK => ?_) (AllReadyH.cons rfl (fun K hK => ?_) (AllReadyH.nil))
        · go_simp
          refine (HS.out Y2 HB2.out).mono ?_
          rintro e Y3 ⟨rfl, b⟩
          have s3 : Y3.cell? ⟨tb, 0, none⟩ = some (.slice KT 1 c) := (b.cell (p := ⟨tb, 0, none⟩) (World.block_lt_of_cell? _ _ s2)).trans s2
          have HB3 : Hid (Below W1.heap.size W1 Y3) := Lib.hid (HB2.out.trans (b.mono HB2.out.size))
          have F6_3 := Lib.hid ((b.block _ (heap_lt F6_2.out)).trans F6_2.out)
          clear b
          refine hK.out _ _ ?_ (fun hHeld => ?_)
          · ((try dsimp only); first | with_reducible exact s0 | with_reducible exact s1 | with_reducible exact s2 | with_reducible exact s3 | with_reducible exact s4 | with_reducible exact s5 | with_reducible exact s6)
          clear hK K
          try simp only [Act.put, List.setIfInBounds_toArray, List.set_cons_zero, List.set_cons_succ]
          refine wpAnyH_ready (rs := [7]) (by kernel_rfl) (by simp) ?_
          refine AllReadyH.cons rfl (fun K hK => ?_) (AllReadyH.nil)
          go_simp
          generalize hY : World.alloc _ _ = Y4
          have b : Below Y3.heap.size Y3 Y4 := by rw [← hY]; exact (Below.refl _ _).alloc (Nat.le_refl _) _
          have hF : Y4.heap[Y3.heap.size]? = some (.cells #[.slice none 0 0, .int .i64 0, .int .i64 0, .int .i64 0, .int .i64 0, .int .i64 0, .int .i64 0] 29 (0, 0)) := by rw [← hY]; exact heap_alloc_new Y3 _
          obtain ⟨b5, hb5⟩ : ∃ z, z = Y3.heap.size := ⟨_, rfl⟩
          rw [← hb5] at hF
          rw [← hb5]
          have F5_4 := Lib.hid hF
          have g5 : W1.heap.size ≤ b5 := by have := HB3.out.size; omega
          have hne : b6 ≠ b5 := by have := heap_lt F6_3.out; omega
          clear hY hF hb5
          have s4 : Y4.cell? ⟨tb, 0, none⟩ = some (.slice KT 1 c) := (b.cell (p := ⟨tb, 0, none⟩) (World.block_lt_of_cell? _ _ s3)).trans s3
          have HB4 : Hid (Below W1.heap.size W1 Y4) := Lib.hid (HB3.out.trans (b.mono HB3.out.size))
          have F6_4 := Lib.hid ((b.block _ (heap_lt F6_3.out)).trans F6_3.out)
          clear b
          refine hK.out _ _ ?_ (fun hHeld => ?_)
          · ((try dsimp only); first | with_reducible exact s0 | with_reducible exact s1 | with_reducible exact s2 | with_reducible exact s3 | with_reducible exact s4 | with_reducible exact s5 | with_reducible exact s6)
          clear hK K
          try simp only [Act.put, List.setIfInBounds_toArray, List.set_cons_zero, List.set_cons_succ]
          refine wpAnyH_ready (rs := [9]) (by kernel_rfl) (by simp) ?_
          refine AllReadyH.cons rfl (fun K hK => ?_) (AllReadyH.nil)
          obtain ⟨o0, o1, o2, o3, o4, o5, o6, of⟩ := cells7 F5_4.out
          go_simp
          generalize hY : World.setCell _ _ _ = Y5
          have hn5 : b6 ≠ b5 := by omega
          have F5_5 : Hid (Y5.heap[b5]? = some (.cells #[.slice none 0 0, .int .i64 4, .int .i64 0, .int .i64 us, .int .i64 0, .int .i64 0, .int .i64 0] 29 (0, 0))) := Lib.hid (by rw [← hY]; exact (heap_set (heap_set (heap_set (heap_set (heap_set (heap_set (heap_set F5_4.out 0 _) 1 _) 2 _) 3 _) 4 _) 5 _) 6 _))
          have F6_5 : Hid (Y5.heap[b6]? = some (.cells #[.slice none 0 0, .int .i64 0, .int .i64 0, .int .i64 0, .int .i64 0, .int .i64 0, .int .i64 0] 29 (0, 0))) := Lib.hid (by rw [← hY]; exact ((Below.heap_setCell _ _ _ _ hn5).trans ((Below.heap_setCell _ _ _ _ hn5).trans ((Below.heap_setCell _ _ _ _ hn5).trans ((Below.heap_setCell _ _ _ _ hn5).trans ((Below.heap_setCell _ _ _ _ hn5).trans ((Below.heap_setCell _ _ _ _ hn5).trans ((Below.heap_setCell _ _ _ _ hn5).trans F6_4.out))))))))
          have HB5 : Hid (Below W1.heap.size W1 Y5) := Lib.hid (by rw [← hY]; exact (((((((HB4.out.setCell (p := ⟨b5, 0, none⟩) g5 _).setCell (p := ⟨b5, 1, none⟩) g5 _).setCell (p := ⟨b5, 2, none⟩) g5 _).setCell (p := ⟨b5, 3, none⟩) g5 _).setCell (p := ⟨b5, 4, none⟩) g5 _).setCell (p := ⟨b5, 5, none⟩) g5 _).setCell (p := ⟨b5, 6, none⟩) g5 _))
          have hnt5 : tb ≠ b5 := by have := Htb.out; omega
          have s5 : Y5.cell? ⟨tb, 0, none⟩ = some (.slice KT 1 c) := by rw [← hY]; exact (set_far hnt5).trans ((set_far hnt5).trans ((set_far hnt5).trans ((set_far hnt5).trans ((set_far hnt5).trans ((set_far hnt5).trans ((set_far hnt5).trans (s4)))))))
          clear hY o0 o1 o2 o3 o4 o5 o6 of
          refine hK.out _ _ ?_ (fun hHeld => ?_)
          · ((try dsimp only); first | with_reducible exact s0 | with_reducible exact s1 | with_reducible exact s2 | with_reducible exact s3 | with_reducible exact s4 | with_reducible exact s5 | with_reducible exact s6)
          clear hK K
          try simp only [Act.put, List.setIfInBounds_toArray, List.set_cons_zero, List.set_cons_succ]
          refine wpAnyH_ready (rs := [10]) (by kernel_rfl) (by simp) ?_
          refine AllReadyH.cons rfl (fun K hK => ?_) (AllReadyH.nil)
          obtain ⟨o0, o1, o2, o3, o4, o5, o6, of⟩ := cells7 F6_5.out
          go_simp
          generalize hY : World.setCell _ _ _ = Y6
          have hn6 : b5 ≠ b6 := by omega
          have F6_6 : Hid (Y6.heap[b6]? = some (.cells #[.slice none 0 0, .int .i64 0, .int .i64 0, .int .i64 0, .int .i64 0, .int .i64 0, .int .i64 1] 29 (0, 0))) := Lib.hid (by rw [← hY]; exact (heap_set (heap_set (heap_set (heap_set (heap_set (heap_set (heap_set F6_5.out 0 _) 1 _) 2 _) 3 _) 4 _) 5 _) 6 _))
          have F5_6 : Hid (Y6.heap[b5]? = some (.cells #[.slice none 0 0, .int .i64 4, .int .i64 0, .int .i64 us, .int .i64 0, .int .i64 0, .int .i64 0] 29 (0, 0))) := Lib.hid (by rw [← hY]; exact ((Below.heap_setCell _ _ _ _ hn6).trans ((Below.heap_setCell _ _ _ _ hn6).trans ((Below.heap_setCell _ _ _ _ hn6).trans ((Below.heap_setCell _ _ _ _ hn6).trans ((Below.heap_setCell _ _ _ _ hn6).trans ((Below.heap_setCell _ _ _ _ hn6).trans ((Below.heap_setCell _ _ _ _ hn6).trans F5_5.out))))))))
          have HB6 : Hid (Below W1.heap.size W1 Y6) := Lib.hid (by rw [← hY]; exact (((((((HB5.out.setCell (p := ⟨b6, 0, none⟩) g6 _).setCell (p := ⟨b6, 1, none⟩) g6 _).setCell (p := ⟨b6, 2, none⟩) g6 _).setCell (p := ⟨b6, 3, none⟩) g6 _).setCell (p := ⟨b6, 4, none⟩) g6 _).setCell (p := ⟨b6, 5, none⟩) g6 _).setCell (p := ⟨b6, 6, none⟩) g6 _))
          have hnt6 : tb ≠ b6 := by have := Htb.out; omega
          have s6 : Y6.cell? ⟨tb, 0, none⟩ = some (.slice KT 1 c) := by rw [← hY]; exact (set_far hnt6).trans ((set_far hnt6).trans ((set_far hnt6).trans ((set_far hnt6).trans ((set_far hnt6).trans ((set_far hnt6).trans ((set_far hnt6).trans (s5)))))))
          clear hY o0 o1 o2 o3 o4 o5 o6 of
          refine hK.out _ _ ?_ (fun hHeld => ?_)
          · ((try dsimp only); first | with_reducible exact s0 | with_reducible exact s1 | with_reducible exact s2 | with_reducible exact s3 | with_reducible exact s4 | with_reducible exact s5 | with_reducible exact s6)
          clear hK K
          try simp only [Act.put, List.setIfInBounds_toArray, List.set_cons_zero, List.set_cons_succ]
          refine wpAnyH_done (by kernel_rfl) ?_ _
          clear s0 s1 s2 s3 s4 s5 s6 g5 g6 hne hn5 hn6 hnt5 hnt6
          go_wp2_with fail
          go_meet
          exact ⟨b5, b6, rfl, rfl, F5_6.out, F6_6.out, HB6.out⟩
        · go_simp
          generalize hY : World.alloc _ _ = Y3
          have b : Below Y2.heap.size Y2 Y3 := by rw [← hY]; exact (Below.refl _ _).alloc (Nat.le_refl _) _
          have hF : Y3.heap[Y2.heap.size]? = some (.cells #[.slice none 0 0, .int .i64 0, .int .i64 0, .int .i64 0, .int .i64 0, .int .i64 0, .int .i64 0] 29 (0, 0)) := by rw [← hY]; exact heap_alloc_new Y2 _
          obtain ⟨b5, hb5⟩ : ∃ z, z = Y2.heap.size := ⟨_, rfl⟩
          rw [← hb5] at hF
          rw [← hb5]
          have F5_3 := Lib.hid hF
          have g5 : W1.heap.size ≤ b5 := by have := HB2.out.size; omega
          have hne : b6 ≠ b5 := by have := heap_lt F6_2.out; omega
          clear hY hF hb5
          have s3 : Y3.cell? ⟨tb, 0, none⟩ = some (.slice KT 1 c) := (b.cell (p := ⟨tb, 0, none⟩) (World.block_lt_of_cell? _ _ s2)).trans s2
          have HB3 : Hid (Below W1.heap.size W1 Y3) := Lib.hid (HB2.out.trans (b.mono HB2.out.size))
          have F6_3 := Lib.hid ((b.block _ (heap_lt F6_2.out)).trans F6_2.out)
          clear b
          refine hK.out _ _ ?_ (fun hHeld => ?_)
          · ((try dsimp only); first | with_reducible exact s0 | with_reducible exact s1 | with_reducible exact s2 | with_reducible exact s3 | with_reducible exact s4 | with_reducible exact s5 | with_reducible exact s6)
          clear hK K
          try simp only [Act.put, List.setIfInBounds_toArray, List.set_cons_zero, List.set_cons_succ]
          refine wpAnyH_ready (rs := [6]) (by kernel_rfl) (by simp) ?_
          refine AllReadyH.cons rfl (fun K hK => ?_) (AllReadyH.nil)
          go_simp
          refine (HS.out Y3 HB3.out).mono ?_
          rintro e Y4 ⟨rfl, b⟩
          have s4 : Y4.cell? ⟨tb, 0, none⟩ = some (.slice KT 1 c) := (b.cell (p := ⟨tb, 0, none⟩) (World.block_lt_of_cell? _ _ s3)).trans s3
          have HB4 : Hid (Below W1.heap.size W1 Y4) := Lib.hid (HB3.out.trans (b.mono HB3.out.size))
          have F5_4 := Lib.hid ((b.block _ (heap_lt F5_3.out)).trans F5_3.out)
          have F6_4 := Lib.hid ((b.block _ (heap_lt F6_3.out)).trans F6_3.out)
          clear b
          refine hK.out _ _ ?_ (fun hHeld => ?_)
          · ((try dsimp only); first | with_reducible exact s0 | with_reducible exact s1 | with_reducible exact s2 | with_reducible exact s3 | with_reducible exact s4 | with_reducible exact s5 | with_reducible exact s6)
          clear hK K
          try simp only [Act.put, List.setIfInBounds_toArray, List.set_cons_zero, List.set_cons_succ]
          refine wpAnyH_ready (rs := [9]) (by kernel_rfl) (by simp) ?_
          refine AllReadyH.cons rfl (fun K hK => ?_) (AllReadyH.nil)
          obtain ⟨o0, o1, o2, o3, o4, o5, o6, of⟩ := cells7 F5_4.out
          go_simp
          generalize hY : World.setCell _ _ _ = Y5
          have hn5 : b6 ≠ b5 := by omega
          have F5_5 : Hid (Y5.heap[b5]? = some (.cells #[.slice none 0 0, .int .i64 4, .int .i64 0, .int .i64 us, .int .i64 0, .int .i64 0, .int .i64 0] 29 (0, 0))) := Lib.hid (by rw [← hY]; exact (heap_set (heap_set (heap_set (heap_set (heap_set (heap_set (heap_set F5_4.out 0 _) 1 _) 2 _) 3 _) 4 _) 5 _) 6 _))
          have F6_5 : Hid (Y5.heap[b6]? = some (.cells #[.slice none 0 0, .int .i64 0, .int .i64 0, .int .i64 0, .int .i64 0, .int .i64 0, .int .i64 0] 29 (0, 0))) := Lib.hid (by rw [← hY]; exact ((Below.heap_setCell _ _ _ _ hn5).trans ((Below.heap_setCell _ _ _ _ hn5).trans ((Below.heap_setCell _ _ _ _ hn5).trans ((Below.heap_setCell _ _ _ _ hn5).trans ((Below.heap_setCell _ _ _ _ hn5).trans ((Below.heap_setCell _ _ _ _ hn5).trans ((Below.heap_setCell _ _ _ _ hn5).trans F6_4.out))))))))
          have HB5 : Hid (Below W1.heap.size W1 Y5) := Lib.hid (by rw [← hY]; exact (((((((HB4.out.setCell (p := ⟨b5, 0, none⟩) g5 _).setCell (p := ⟨b5, 1, none⟩) g5 _).setCell (p := ⟨b5, 2, none⟩) g5 _).setCell (p := ⟨b5, 3, none⟩) g5 _).setCell (p := ⟨b5, 4, none⟩) g5 _).setCell (p := ⟨b5, 5, none⟩) g5 _).setCell (p := ⟨b5, 6, none⟩) g5 _))
          have hnt5 : tb ≠ b5 := by have := Htb.out; omega
          have s5 : Y5.cell? ⟨tb, 0, none⟩ = some (.slice KT 1 c) := by rw [← hY]; exact (set_far hnt5).trans ((set_far hnt5).trans ((set_far hnt5).trans ((set_far hnt5).trans ((set_far hnt5).trans ((set_far hnt5).trans ((set_far hnt5).trans (s4)))))))
          clear hY o0 o1 o2 o3 o4 o5 o6 of
          refine hK.out _ _ ?_ (fun hHeld => ?_)
          · ((try dsimp only); first | with_reducible exact s0 | with_reducible exact s1 | with_reducible exact s2 | with_reducible exact s3 | with_reducible exact s4 | with_reducible exact s5 | with_reducible exact s6)
          clear hK K
          try simp only [Act.put, List.setIfInBounds_toArray, List.set_cons_zero, List.set_cons_succ]
          refine wpAnyH_ready (rs := [10]) (by kernel_rfl) (by simp) ?_
          refine AllReadyH.cons rfl (fun K hK => ?_) (AllReadyH.nil)
          obtain ⟨o0, o1, o2, o3, o4, o5, o6, of⟩ := cells7 F6_5.out
          go_simp
          generalize hY : World.setCell _ _ _ = Y6
          have hn6 : b5 ≠ b6 := by omega
          have F6_6 : Hid (Y6.heap[b6]? = some (.cells #[.slice none 0 0, .int .i64 0, .int .i64 0, .int .i64 0, .int .i64 0, .int .i64 0, .int .i64 1] 29 (0, 0))) := Lib.hid (by rw [← hY]; exact (heap_set (heap_set (heap_set (heap_set (heap_set (heap_set (heap_set F6_5.out 0 _) 1 _) 2 _) 3 _) 4 _) 5 _) 6 _))
          have F5_6 : Hid (Y6.heap[b5]? = some (.cells #[.slice none 0 0, .int .i64 4, .int .i64 0, .int .i64 us, .int .i64 0, .int .i64 0, .int .i64 0] 29 (0, 0))) := Lib.hid (by rw [← hY]; exact ((Below.heap_setCell _ _ _ _ hn6).trans ((Below.heap_setCell _ _ _ _ hn6).trans ((Below.heap_setCell _ _ _ _ hn6).trans ((Below.heap_setCell _ _ _ _ hn6).trans ((Below.heap_setCell _ _ _ _ hn6).trans ((Below.heap_setCell _ _ _ _ hn6).trans ((Below.heap_setCell _ _ _ _ hn6).trans F5_5.out))))))))
          have HB6 : Hid (Below W1.heap.size W1 Y6) := Lib.hid (by rw [← hY]; exact (((((((HB5.out.setCell (p := ⟨b6, 0, none⟩) g6 _).setCell (p := ⟨b6, 1, none⟩) g6 _).setCell (p := ⟨b6, 2, none⟩) g6 _).setCell (p := ⟨b6, 3, none⟩) g6 _).setCell (p := ⟨b6, 4, none⟩) g6 _).setCell (p := ⟨b6, 5, none⟩) g6 _).setCell (p := ⟨b6, 6, none⟩) g6 _))
          have hnt6 : tb ≠ b6 := by have := Htb.out; omega
          have s6 : Y6.cell? ⟨tb, 0, none⟩ = some (.slice KT 1 c) := by rw [← hY]; exact (set_far hnt6).trans ((set_far hnt6).trans ((set_far hnt6).trans ((set_far hnt6).trans ((set_far hnt6).trans ((set_far hnt6).trans ((set_far hnt6).trans (s5)))))))
          clear hY o0 o1 o2 o3 o4 o5 o6 of
          refine hK.out _ _ ?_ (fun hHeld => ?_)
          · ((try dsimp only); first | with_reducible exact s0 | with_reducible exact s1 | with_reducible exact s2 | with_reducible exact s3 | with_reducible exact s4 | with_reducible exact s5 | with_reducible exact s6)
          clear hK K
          try simp only [Act.put, List.setIfInBounds_toArray, List.set_cons_zero, List.set_cons_succ]
          refine wpAnyH_done (by kernel_rfl) ?_ _
          clear s0 s1 s2 s3 s4 s5 s6 g5 g6 hne hn5 hn6 hnt5 hnt6
          go_wp2_with fail
          go_meet
          exact ⟨b5, b6, rfl, rfl, F5_6.out, F6_6.out, HB6.out⟩
    · go_simp
      generalize hY : World.drew (World.alloc _ _) = Y1
      have b0 : Below W1.heap.size W1 Y1 := by rw [← hY]; exact ((Below.refl W1.heap.size W1).alloc (Nat.le_refl _) _).drew
      have b : Below W1.drew.heap.size W1.drew Y1 := ⟨b0.os, b0.tape, b0.output, b0.size, fun k hk => b0.block k hk⟩
      have hF : Y1.heap[W1.drew.heap.size]? = some (.cells #[.slice none 0 0, .int .i64 0, .int .i64 0, .int .i64 0, .int .i64 0, .int .i64 0, .int .i64 0] 29 (0, 0)) := by rw [← hY]; exact heap_alloc_new W1 _
      obtain ⟨b5, hb5⟩ : ∃ z, z = W1.drew.heap.size := ⟨_, rfl⟩
      rw [← hb5] at hF
      have hbx : b5 = W1.heap.size := hb5
      rw [← hbx]
      have F5_1 := Lib.hid hF
      have g5 : W1.heap.size ≤ b5 := by have := HB0.out.size; omega
      clear hY hF hb5 hbx
      have s1 : Y1.cell? ⟨tb, 0, none⟩ = some (.slice KT 1 c) := (b.cell (p := ⟨tb, 0, none⟩) (World.block_lt_of_cell? _ _ s0)).trans s0
      have HB1 : Hid (Below W1.heap.size W1 Y1) := Lib.hid (HB0.out.trans (b.mono HB0.out.size))
      clear b
      refine hK.out _ _ ?_ (fun hHeld => ?_)
      · ((try dsimp only); first | with_reducible exact s0 | with_reducible exact s1 | with_reducible exact s2 | with_reducible exact s3 | with_reducible exact s4 | with_reducible exact s5 | with_reducible exact s6)
      clear hK K
      try simp only [Act.put, List.setIfInBounds_toArray, List.set_cons_zero, List.set_cons_succ]
      refine wpAnyH_ready (rs := [2, 8]) (by kernel_rfl) (by simp) ?_
      refine AllReadyH.cons rfl (fun K hK => ?_) (AllReadyH.cons rfl (fun K hK => ?_) (AllReadyH.nil))
      · go_simp
        refine (HN.out Y1).mono ?_
        rintro e Y2 ⟨rfl, b⟩
        have s2 : Y2.cell? ⟨tb, 0, none⟩ = some (.slice KT 1 c) := (b.cell (p := ⟨tb, 0, none⟩) (World.block_lt_of_cell? _ _ s1)).trans s1
        have HB2 : Hid (Below W1.heap.size W1 Y2) := Lib.hid (HB1.out.trans (b.mono HB1.out.size))
        have F5_2 := Lib.hid ((b.block _ (heap_lt F5_1.out)).trans F5_1.out)
        clear b
        refine hK.out _ _ ?_ (fun hHeld => ?_)
        · ((try dsimp only); first | with_reducible exact s0 | with_reducible exact s1 | with_reducible exact s2 | with_reducible exact s3 | with_reducible exact s4 | with_reducible exact s5 | with_reducible exact s6)
        clear hK K
        try simp only [Act.put, List.setIfInBounds_toArray, List.set_cons_zero, List.set_cons_succ]
        refine wpAnyH_ready (rs := [6, 8]) (by kernel_rfl) (by simp) ?_
        refine AllReadyH.cons rfl (fun K hK => ?_) (AllReadyH.cons rfl (fun K hK => ?_) (AllReadyH.nil))
        · go_simp
          refine (HS.out Y2 HB2.out).mono ?_
          rintro e Y3 ⟨rfl, b⟩
          have s3 : Y3.cell? ⟨tb, 0, none⟩ = some (.slice KT 1 c) := (b.cell (p := ⟨tb, 0, none⟩) (World.block_lt_of_cell? _ _ s2)).trans s2
          have HB3 : Hid (Below W1.heap.size W1 Y3) := Lib.hid (HB2.out.trans (b.mono HB2.out.size))
          have F5_3 := Lib.hid ((b.block _ (heap_lt F5_2.out)).trans F5_2.out)
          clear b
          refine hK.out _ _ ?_ (fun hHeld => ?_)
          · ((try dsimp only); first | with_reducible exact s0 | with_reducible exact s1 | with_reducible exact s2 | with_reducible exact s3 | with_reducible exact s4 | with_reducible exact s5 | with_reducible exact s6)
          clear hK K
          try simp only [Act.put, List.setIfInBounds_toArray, List.set_cons_zero, List.set_cons_succ]
          refine wpAnyH_ready (rs := [8]) (by kernel_rfl) (by simp) ?_
          refine AllReadyH.cons rfl (fun K hK => ?_) (AllReadyH.nil)
          go_simp
          generalize hY : World.alloc _ _ = Y4
          have b : Below Y3.heap.size Y3 Y4 := by rw [← hY]; exact (Below.refl _ _).alloc (Nat.le_refl _) _
          have hF : Y4.heap[Y3.heap.size]? = some (.cells #[.slice none 0 0, .int .i64 0, .int .i64 0, .int .i64 0, .int .i64 0, .int .i64 0, .int .i64 0] 29 (0, 0)) := by rw [← hY]; exact heap_alloc_new Y3 _
          obtain ⟨b6, hb6⟩ : ∃ z, z = Y3.heap.size := ⟨_, rfl⟩
          rw [← hb6] at hF
          rw [← hb6]
          have F6_4 := Lib.hid hF
          have g6 : W1.heap.size ≤ b6 := by have := HB3.out.size; omega
          have hne : b5 ≠ b6 := by have := heap_lt F5_3.out; omega
          clear hY hF hb6
          have s4 : Y4.cell? ⟨tb, 0, none⟩ = some (.slice KT 1 c) := (b.cell (p := ⟨tb, 0, none⟩) (World.block_lt_of_cell? _ _ s3)).trans s3
          have HB4 : Hid (Below W1.heap.size W1 Y4) := Lib.hid (HB3.out.trans (b.mono HB3.out.size))
          have F5_4 := Lib.hid ((b.block _ (heap_lt F5_3.out)).trans F5_3.out)
          clear b
          refine hK.out _ _ ?_ (fun hHeld => ?_)
          · ((try dsimp only); first | with_reducible exact s0 | with_reducible exact s1 | with_reducible exact s2 | with_reducible exact s3 | with_reducible exact s4 | with_reducible exact s5 | with_reducible exact s6)
          clear hK K
          try simp only [Act.put, List.setIfInBounds_toArray, List.set_cons_zero, List.set_cons_succ]
          refine wpAnyH_ready (rs := [9]) (by kernel_rfl) (by simp) ?_
          refine AllReadyH.cons rfl (fun K hK => ?_) (AllReadyH.nil)
          obtain ⟨o0, o1, o2, o3, o4, o5, o6, of⟩ := cells7 F5_4.out
          go_simp
          generalize hY : World.setCell _ _ _ = Y5
          have hn5 : b6 ≠ b5 := by omega
          have F5_5 : Hid (Y5.heap[b5]? = some (.cells #[.slice none 0 0, .int .i64 4, .int .i64 0, .int .i64 us, .int .i64 0, .int .i64 0, .int .i64 0] 29 (0, 0))) := Lib.hid (by rw [← hY]; exact (heap_set (heap_set (heap_set (heap_set (heap_set (heap_set (heap_set F5_4.out 0 _) 1 _) 2 _) 3 _) 4 _) 5 _) 6 _))
          have F6_5 : Hid (Y5.heap[b6]? = some (.cells #[.slice none 0 0, .int .i64 0, .int .i64 0, .int .i64 0, .int .i64 0, .int .i64 0, .int .i64 0] 29 (0, 0))) := Lib.hid (by rw [← hY]; exact ((Below.heap_setCell _ _ _ _ hn5).trans ((Below.heap_setCell _ _ _ _ hn5).trans ((Below.heap_setCell _ _ _ _ hn5).trans ((Below.heap_setCell _ _ _ _ hn5).trans ((Below.heap_setCell _ _ _ _ hn5).trans ((Below.heap_setCell _ _ _ _ hn5).trans ((Below.heap_setCell _ _ _ _ hn5).trans F6_4.out))))))))
          have HB5 : Hid (Below W1.heap.size W1 Y5) := Lib.hid (by rw [← hY]; exact (((((((HB4.out.setCell (p := ⟨b5, 0, none⟩) g5 _).setCell (p := ⟨b5, 1, none⟩) g5 _).setCell (p := ⟨b5, 2, none⟩) g5 _).setCell (p := ⟨b5, 3, none⟩) g5 _).setCell (p := ⟨b5, 4, none⟩) g5 _).setCell (p := ⟨b5, 5, none⟩) g5 _).setCell (p := ⟨b5, 6, none⟩) g5 _))
          have hnt5 : tb ≠ b5 := by have := Htb.out; omega
          have s5 : Y5.cell? ⟨tb, 0, none⟩ = some (.slice KT 1 c) := by rw [← hY]; exact (set_far hnt5).trans ((set_far hnt5).trans ((set_far hnt5).trans ((set_far hnt5).trans ((set_far hnt5).trans ((set_far hnt5).trans ((set_far hnt5).trans (s4)))))))
          clear hY o0 o1 o2 o3 o4 o5 o6 of
          refine hK.out _ _ ?_ (fun hHeld => ?_)
          · ((try dsimp only); first | with_reducible exact s0 | with_reducible exact s1 | with_reducible exact s2 | with_reducible exact s3 | with_reducible exact s4 | with_reducible exact s5 | with_reducible exact s6)
          clear hK K
          try simp only [Act.put, List.setIfInBounds_toArray, List.set_cons_zero, List.set_cons_succ]
          refine wpAnyH_ready (rs := [10]) (by kernel_rfl) (by simp) ?_
          refine AllReadyH.cons rfl (fun K hK => ?_) (AllReadyH.nil)
          obtain ⟨o0, o1, o2, o3, o4, o5, o6, of⟩ := cells7 F6_5.out
          go_simp
          generalize hY : World.setCell _ _ _ = Y6
          have hn6 : b5 ≠ b6 := by omega
          have F6_6 : Hid (Y6.heap[b6]? = some (.cells #[.slice none 0 0, .int .i64 0, .int .i64 0, .int .i64 0, .int .i64 0, .int .i64 0, .int .i64 1] 29 (0, 0))) := Lib.hid (by rw [← hY]; exact (heap_set (heap_set (heap_set (heap_set (heap_set (heap_set (heap_set F6_5.out 0 _) 1 _) 2 _) 3 _) 4 _) 5 _) 6 _))
          have F5_6 : Hid (Y6.heap[b5]? = some (.cells #[.slice none 0 0, .int .i64 4, .int .i64 0, .int .i64 us, .int .i64 0, .int .i64 0, .int .i64 0] 29 (0, 0))) := Lib.hid (by rw [← hY]; exact ((Below.heap_setCell _ _ _ _ hn6).trans ((Below.heap_setCell _ _ _ _ hn6).trans ((Below.heap_setCell _ _ _ _ hn6).trans ((Below.heap_setCell _ _ _ _ hn6).trans ((Below.heap_setCell _ _ _ _ hn6).trans ((Below.heap_setCell _ _ _ _ hn6).trans ((Below.heap_setCell _ _ _ _ hn6).trans F5_5.out))))))))
          have HB6 : Hid (Below W1.heap.size W1 Y6) := Lib.hid (by rw [← hY]; exact (((((((HB5.out.setCell (p := ⟨b6, 0, none⟩) g6 _).setCell (p := ⟨b6, 1, none⟩) g6 _).setCell (p := ⟨b6, 2, none⟩) g6 _).setCell (p := ⟨b6, 3, none⟩) g6 _).setCell (p := ⟨b6, 4, none⟩) g6 _).setCell (p := ⟨b6, 5, none⟩) g6 _).setCell (p := ⟨b6, 6, none⟩) g6 _))
          have hnt6 : tb ≠ b6 := by have := Htb.out; omega
          have s6 : Y6.cell? ⟨tb, 0, none⟩ = some (.slice KT 1 c) := by rw [← hY]; exact (set_far hnt6).trans ((set_far hnt6).trans ((set_far hnt6).trans ((set_far hnt6).trans ((set_far hnt6).trans ((set_far hnt6).trans ((set_far hnt6).trans (s5)))))))
          clear hY o0 o1 o2 o3 o4 o5 o6 of
          refine hK.out _ _ ?_ (fun hHeld => ?_)
          · ((try dsimp only); first | with_reducible exact s0 | with_reducible exact s1 | with_reducible exact s2 | with_reducible exact s3 | with_reducible exact s4 | with_reducible exact s5 | with_reducible exact s6)
          clear hK K
          try simp only [Act.put, List.setIfInBounds_toArray, List.set_cons_zero, List.set_cons_succ]
          refine wpAnyH_done (by kernel_rfl) ?_ _
          clear s0 s1 s2 s3 s4 s5 s6 g5 g6 hne hn5 hn6 hnt5 hnt6
          go_wp2_with fail
          go_meet
          exact ⟨b5, b6, rfl, rfl, F5_6.out, F6_6.out, HB6.out⟩
        · go_simp
          generalize hY : World.alloc _ _ = Y3
          have b : Below Y2.heap.size Y2 Y3 := by rw [← hY]; exact (Below.refl _ _).alloc (Nat.le_refl _) _
          have hF : Y3.heap[Y2.heap.size]? = some (.cells #[.slice none 0 0, .int .i64 0, .int .i64 0, .int .i64 0, .int .i64 0, .int .i64 0, .int .i64 0] 29 (0, 0)) := by rw [← hY]; exact heap_alloc_new Y2 _
          obtain ⟨b6, hb6⟩ : ∃ z, z = Y2.heap.size := ⟨_, rfl⟩
          rw [← hb6] at hF
          rw [← hb6]
          have F6_3 := Lib.hid hF
          have g6 : W1.heap.size ≤ b6 := by have := HB2.out.size; omega
          have hne : b5 ≠ b6 := by have := heap_lt F5_2.out; omega
          clear hY hF hb6
          have s3 : Y3.cell? ⟨tb, 0, none⟩ = some (.slice KT 1 c) := (b.cell (p := ⟨tb, 0, none⟩) (World.block_lt_of_cell? _ _ s2)).trans s2
          have HB3 : Hid (Below W1.heap.size W1 Y3) := Lib.hid (HB2.out.trans (b.mono HB2.out.size))
          have F5_3 := Lib.hid ((b.block _ (heap_lt F5_2.out)).trans F5_2.out)
          clear b
          refine hK.out _ _ ?_ (fun hHeld => ?_)
          · ((try dsimp only); first | with_reducible exact s0 | with_reducible exact s1 | with_reducible exact s2 | with_reducible exact s3 | with_reducible exact s4 | with_reducible exact s5 | with_reducible exact s6)
          clear hK K
          try simp only [Act.put, List.setIfInBounds_toArray, List.set_cons_zero, List.set_cons_succ]
          refine wpAnyH_ready (rs := [6]) (by kernel_rfl) (by simp) ?_
          refine AllReadyH.cons rfl (fun K hK => ?_) (AllReadyH.nil)
          go_simp
          refine (HS.out Y3 HB3.out).mono ?_
          rintro e Y4 ⟨rfl, b⟩
          have s4 : Y4.cell? ⟨tb, 0, none⟩ = some (.slice KT 1 c) := (b.cell (p := ⟨tb, 0, none⟩) (World.block_lt_of_cell? _ _ s3)).trans s3
          have HB4 : Hid (Below W1.heap.size W1 Y4) := Lib.hid (HB3.out.trans (b.mono HB3.out.size))
          have F5_4 := Lib.hid ((b.block _ (heap_lt F5_3.out)).trans F5_3.out)
          have F6_4 := Lib.hid ((b.block _ (heap_lt F6_3.out)).trans F6_3.out)
          clear b
          refine hK.out _ _ ?_ (fun hHeld => ?_)
          · ((try dsimp only); first | with_reducible exact s0 | with_reducible exact s1 | with_reducible exact s2 | with_reducible exact s3 | with_reducible exact s4 | with_reducible exact s5 | with_reducible exact s6)
          clear hK K
          try simp only [Act.put, List.setIfInBounds_toArray, List.set_cons_zero, List.set_cons_succ]
          refine wpAnyH_ready (rs := [9]) (by kernel_rfl) (by simp) ?_
          refine AllReadyH.cons rfl (fun K hK => ?_) (AllReadyH.nil)
          obtain ⟨o0, o1, o2, o3, o4, o5, o6, of⟩ := cells7 F5_4.out
          go_simp
          generalize hY : World.setCell _ _ _ = Y5
          have hn5 : b6 ≠ b5 := by omega
          have F5_5 : Hid (Y5.heap[b5]? = some (.cells #[.slice none 0 0, .int .i64 4, .int .i64 0, .int .i64 us, .int .i64 0, .int .i64 0, .int .i64 0] 29 (0, 0))) := Lib.hid (by rw [← hY]; exact (heap_set (heap_set (heap_set (heap_set (heap_set (heap_set (heap_set F5_4.out 0 _) 1 _) 2 _) 3 _) 4 _) 5 _) 6 _))
          have F6_5 : Hid (Y5.heap[b6]? = some (.cells #[.slice none 0 0, .int .i64 0, .int .i64 0, .int .i64 0, .int .i64 0, .int .i64 0, .int .i64 0] 29 (0, 0))) := Lib.hid (by rw [← hY]; exact ((Below.heap_setCell _ _ _ _ hn5).trans ((Below.heap_setCell _ _ _ _ hn5).trans ((Below.heap_setCell _ _ _ _ hn5).trans ((Below.heap_setCell _ _ _ _ hn5).trans ((Below.heap_setCell _ _ _ _ hn5).trans ((Below.heap_setCell _ _ _ _ hn5).trans ((Below.heap_setCell _ _ _ _ hn5).trans F6_4.out))))))))
          have HB5 : Hid (Below W1.heap.size W1 Y5) := Lib.hid (by rw [← hY]; exact (((((((HB4.out.setCell (p := ⟨b5, 0, none⟩) g5 _).setCell (p := ⟨b5, 1, none⟩) g5 _).setCell (p := ⟨b5, 2, none⟩) g5 _).setCell (p := ⟨b5, 3, none⟩) g5 _).setCell (p := ⟨b5, 4, none⟩) g5 _).setCell (p := ⟨b5, 5, none⟩) g5 _).setCell (p := ⟨b5, 6, none⟩) g5 _))
          have hnt5 : tb ≠ b5 := by have := Htb.out; omega
          have s5 : Y5.cell? ⟨tb, 0, none⟩ = some (.slice KT 1 c) := by rw [← hY]; exact (set_far hnt5).trans ((set_far hnt5).trans ((set_far hnt5).trans ((set_far hnt5).trans ((set_far hnt5).trans ((set_far hnt5).trans ((set_far hnt5).trans (s4)))))))
          clear hY o0 o1 o2 o3 o4 o5 o6 of
          refine hK.out _ _ ?_ (fun hHeld => ?_)
          · ((try dsimp only); first | with_reducible exact s0 | with_reducible exact s1 | with_reducible exact s2 | with_reducible exact s3 | with_reducible exact s4 | with_reducible exact s5 | with_reducible exact s6)
          clear hK K
          try simp only [Act.put, List.setIfInBounds_toArray, List.set_cons_zero, List.set_cons_succ]
          refine wpAnyH_ready (rs := [10]) (by kernel_rfl) (by simp) ?_
          refine AllReadyH.cons rfl (fun K hK => ?_) (AllReadyH.nil)
          obtain ⟨o0, o1, o2, o3, o4, o5, o6, of⟩ := cells7 F6_5.out
          go_simp
          generalize hY : World.setCell _ _ _ = Y6
          have hn6 : b5 ≠ b6 := by omega
          have F6_6 : Hid (Y6.heap[b6]? = some (.cells #[.slice none 0 0, .int .i64 0, .int .i64 0, .int .i64 0, .int .i64 0, .int .i64 0, .int .i64 1] 29 (0, 0))) := Lib.hid (by rw [← hY]; exact (heap_set (heap_set (heap_set (heap_set (heap_set (heap_set (heap_set F6_5.out 0 _) 1 _) 2 _) 3 _) 4 _) 5 _) 6 _))
          have F5_6 : Hid (Y6.heap[b5]? = some (.cells #[.slice none 0 0, .int .i64 4, .int .i64 0, .int .i64 us, .int .i64 0, .int .i64 0, .int .i64 0] 29 (0, 0))) := Lib.hid (by rw [← hY]; exact ((Below.heap_setCell _ _ _ _ hn6).trans ((Below.heap_setCell _ _ _ _ hn6).trans ((Below.heap_setCell _ _ _ _ hn6).trans ((Below.heap_setCell _ _ _ _ hn6).trans ((Below.heap_setCell _ _ _ _ hn6).trans ((Below.heap_setCell _ _ _ _ hn6).trans ((Below.heap_setCell _ _ _ _ hn6).trans F5_5.out))))))))
          have HB6 : Hid (Below W1.heap.size W1 Y6) := Lib.hid (by rw [← hY]; exact (((((((HB5.out.setCell (p := ⟨b6, 0, none⟩) g6 _).setCell (p := ⟨b6, 1, none⟩) g6 _).setCell (p := ⟨b6, 2, none⟩) g6 _).setCell (p := ⟨b6, 3, none⟩) g6 _).setCell (p := ⟨b6, 4, none⟩) g6 _).setCell (p := ⟨b6, 5, none⟩) g6 _).setCell (p := ⟨b6, 6, none⟩) g6 _))
          have hnt6 : tb ≠ b6 := by have := Htb.out; omega
          have s6 : Y6.cell? ⟨tb, 0, none⟩ = some (.slice KT 1 c) := by rw [← hY]; exact (set_far hnt6).trans ((set_far hnt6).trans ((set_far hnt6).trans ((set_far hnt6).trans ((set_far hnt6).trans ((set_far hnt6).trans ((set_far hnt6).trans (s5)))))))
          clear hY o0 o1 o2 o3 o4 o5 o6 of
          refine hK.out _ _ ?_ (fun hHeld => ?_)
          · ((try dsimp only); first | with_reducible exact s0 | with_reducible exact s1 | with_reducible exact s2 | with_reducible exact s3 | with_reducible exact s4 | with_reducible exact s5 | with_reducible exact s6)
          clear hK K
          try simp only [Act.put, List.setIfInBounds_toArray, List.set_cons_zero, List.set_cons_succ]
          refine wpAnyH_done (by kernel_rfl) ?_ _
          clear s0 s1 s2 s3 s4 s5 s6 g5 g6 hne hn5 hn6 hnt5 hnt6
          go_wp2_with fail
          go_meet
          exact ⟨b5, b6, rfl, rfl, F5_6.out, F6_6.out, HB6.out⟩
      · go_simp
        generalize hY : World.alloc _ _ = Y2
        have b : Below Y1.heap.size Y1 Y2 := by rw [← hY]; exact (Below.refl _ _).alloc (Nat.le_refl _) _
        have hF : Y2.heap[Y1.heap.size]? = some (.cells #[.slice none 0 0, .int .i64 0, .int .i64 0, .int .i64 0, .int .i64 0, .int .i64 0, .int .i64 0] 29 (0, 0)) := by rw [← hY]; exact heap_alloc_new Y1 _
        obtain ⟨b6, hb6⟩ : ∃ z, z = Y1.heap.size := ⟨_, rfl⟩
        rw [← hb6] at hF
        rw [← hb6]
        have F6_2 := Lib.hid hF
        have g6 : W1.heap.size ≤ b6 := by have := HB1.out.size; omega
        have hne : b5 ≠ b6 := by have := heap_lt F5_1.out; omega
        clear hY hF hb6
        have s2 : Y2.cell? ⟨tb, 0, none⟩ = some (.slice KT 1 c) := (b.cell (p := ⟨tb, 0, none⟩) (World.block_lt_of_cell? _ _ s1)).trans s1
        have HB2 : Hid (Below W1.heap.size W1 Y2) := Lib.hid (HB1.out.trans (b.mono HB1.out.size))
        have F5_2 := Lib.hid ((b.block _ (heap_lt F5_1.out)).trans F5_1.out)
        clear b
        refine hK.out _ _ ?_ (fun hHeld => ?_)
        · ((try dsimp only); first | with_reducible exact s0 | with_reducible exact s1 | with_reducible exact s2 | with_reducible exact s3 | with_reducible exact s4 | with_reducible exact s5 | with_reducible exact s6)
        clear hK K
        try simp only [Act.put, List.setIfInBounds_toArray, List.set_cons_zero, List.set_cons_succ]
        refine wpAnyH_ready (rs := [2]) (by kernel_rfl) (by simp) ?_
        refine AllReadyH.cons rfl (fun K hK => ?_) (AllReadyH.nil)
        go_simp
        refine (HN.out Y2).mono ?_
        rintro e Y3 ⟨rfl, b⟩
        have s3 : Y3.cell? ⟨tb, 0, none⟩ = some (.slice KT 1 c) := (b.cell (p := ⟨tb, 0, none⟩) (World.block_lt_of_cell? _ _ s2)).trans s2
        have HB3 : Hid (Below W1.heap.size W1 Y3) := Lib.hid (HB2.out.trans (b.mono HB2.out.size))
        have F5_3 := Lib.hid ((b.block _ (heap_lt F5_2.out)).trans F5_2.out)
        have F6_3 := Lib.hid ((b.block _ (heap_lt F6_2.out)).trans F6_2.out)
        clear b
        refine hK.out _ _ ?_ (fun hHeld => ?_)
        · ((try dsimp only); first | with_reducible exact s0 | with_reducible exact s1 | with_reducible exact s2 | with_reducible exact s3 | with_reducible exact s4 | with_reducible exact s5 | with_reducible exact s6)
        clear hK K
        try simp only [Act.put, List.setIfInBounds_toArray, List.set_cons_zero, List.set_cons_succ]
        refine wpAnyH_ready (rs := [6]) (by kernel_rfl) (by simp) ?_
        refine AllReadyH.cons rfl (fun K hK => ?_) (AllReadyH.nil)
        go_simp
        refine (HS.out Y3 HB3.out).mono ?_
        rintro e Y4 ⟨rfl, b⟩
        have s4 : Y4.cell? ⟨tb, 0, none⟩ = some (.slice KT 1 c) := (b.cell (p := ⟨tb, 0, none⟩) (World.block_lt_of_cell? _ _ s3)).trans s3
        have HB4 : Hid (Below W1.heap.size W1 Y4) := Lib.hid (HB3.out.trans (b.mono HB3.out.size))
        have F5_4 := Lib.hid ((b.block _ (heap_lt F5_3.out)).trans F5_3.out)
        have F6_4 := Lib.hid ((b.block _ (heap_lt F6_3.out)).trans F6_3.out)
        clear b
        refine hK.out _ _ ?_ (fun hHeld => ?_)
        · ((try dsimp only); first | with_reducible exact s0 | with_reducible exact s1 | with_reducible exact s2 | with_reducible exact s3 | with_reducible exact s4 | with_reducible exact s5 | with_reducible exact s6)
        clear hK K
        try simp only [Act.put, List.setIfInBounds_toArray, List.set_cons_zero, List.set_cons_succ]
        refine wpAnyH_ready (rs := [9]) (by kernel_rfl) (by simp) ?_
        refine AllReadyH.cons rfl (fun K hK => ?_) (AllReadyH.nil)
        obtain ⟨o0, o1, o2, o3, o4, o5, o6, of⟩ := cells7 F5_4.out
        go_simp
        generalize hY : World.setCell _ _ _ = Y5
        have hn5 : b6 ≠ b5 := by omega
        have F5_5 : Hid (Y5.heap[b5]? = some (.cells #[.slice none 0 0, .int .i64 4, .int .i64 0, .int .i64 us, .int .i64 0, .int .i64 0, .int .i64 0] 29 (0, 0))) := Lib.hid (by rw [← hY]; exact (heap_set (heap_set (heap_set (heap_set (heap_set (heap_set (heap_set F5_4.out 0 _) 1 _) 2 _) 3 _) 4 _) 5 _) 6 _))
        have F6_5 : Hid (Y5.heap[b6]? = some (.cells #[.slice none 0 0, .int .i64 0, .int .i64 0, .int .i64 0, .int .i64 0, .int .i64 0, .int .i64 0] 29 (0, 0))) := Lib.hid (by rw [← hY]; exact ((Below.heap_setCell _ _ _ _ hn5).trans ((Below.heap_setCell _ _ _ _ hn5).trans ((Below.heap_setCell _ _ _ _ hn5).trans ((Below.heap_setCell _ _ _ _ hn5).trans ((Below.heap_setCell _ _ _ _ hn5).trans ((Below.heap_setCell _ _ _ _ hn5).trans ((Below.heap_setCell _ _ _ _ hn5).trans F6_4.out))))))))
        have HB5 : Hid (Below W1.heap.size W1 Y5) := Lib.hid (by rw [← hY]; exact (((((((HB4.out.setCell (p := ⟨b5, 0, none⟩) g5 _).setCell (p := ⟨b5, 1, none⟩) g5 _).setCell (p := ⟨b5, 2, none⟩) g5 _).setCell (p := ⟨b5, 3, none⟩) g5 _).setCell (p := ⟨b5, 4, none⟩) g5 _).setCell (p := ⟨b5, 5, none⟩) g5 _).setCell (p := ⟨b5, 6, none⟩) g5 _))
        have hnt5 : tb ≠ b5 := by have := Htb.out; omega
        have s5 : Y5.cell? ⟨tb, 0, none⟩ = some (.slice KT 1 c) := by rw [← hY]; exact (set_far hnt5).trans ((set_far hnt5).trans ((set_far hnt5).trans ((set_far hnt5).trans ((set_far hnt5).trans ((set_far hnt5).trans ((set_far hnt5).trans (s4)))))))
        clear hY o0 o1 o2 o3 o4 o5 o6 of
        refine hK.out _ _ ?_ (fun hHeld => ?_)
        · ((try dsimp only); first | with_reducible exact s0 | with_reducible exact s1 | with_reducible exact s2 | with_reducible exact s3 | with_reducible exact s4 | with_reducible exact s5 | with_reducible exact s6)
        clear hK K
        try simp only [Act.put, List.setIfInBounds_toArray, List.set_cons_zero, List.set_cons_succ]
        refine wpAnyH_ready (rs := [10]) (by kernel_rfl) (by simp) ?_
        refine AllReadyH.cons rfl (fun K hK => ?_) (AllReadyH.nil)
        obtain ⟨o0, o1, o2, o3, o4, o5, o6, of⟩ := cells7 F6_5.out
        go_simp
        generalize hY : World.setCell _ _ _ = Y6
        have hn6 : b5 ≠ b6 := by omega
        have F6_6 : Hid (Y6.heap[b6]? = some (.cells #[.slice none 0 0, .int .i64 0, .int .i64 0, .int .i64 0, .int .i64 0, .int .i64 0, .int .i64 1] 29 (0, 0))) := Lib.hid (by rw [← hY]; exact (heap_set (heap_set (heap_set (heap_set (heap_set (heap_set (heap_set F6_5.out 0 _) 1 _) 2 _) 3 _) 4 _) 5 _) 6 _))
        have F5_6 : Hid (Y6.heap[b5]? = some (.cells #[.slice none 0 0, .int .i64 4, .int .i64 0, .int .i64 us, .int .i64 0, .int .i64 0, .int .i64 0] 29 (0, 0))) := Lib.hid (by rw [← hY]; exact ((Below.heap_setCell _ _ _ _ hn6).trans ((Below.heap_setCell _ _ _ _ hn6).trans ((Below.heap_setCell _ _ _ _ hn6).trans ((Below.heap_setCell _ _ _ _ hn6).trans ((Below.heap_setCell _ _ _ _ hn6).trans ((Below.heap_setCell _ _ _ _ hn6).trans ((Below.heap_setCell _ _ _ _ hn6).trans F5_5.out))))))))
        have HB6 : Hid (Below W1.heap.size W1 Y6) := Lib.hid (by rw [← hY]; exact (((((((HB5.out.setCell (p := ⟨b6, 0, none⟩) g6 _).setCell (p := ⟨b6, 1, none⟩) g6 _).setCell (p := ⟨b6, 2, none⟩) g6 _).setCell (p := ⟨b6, 3, none⟩) g6 _).setCell (p := ⟨b6, 4, none⟩) g6 _).setCell (p := ⟨b6, 5, none⟩) g6 _).setCell (p := ⟨b6, 6, none⟩) g6 _))
        have hnt6 : tb ≠ b6 := by have := Htb.out; omega
        have s6 : Y6.cell? ⟨tb, 0, none⟩ = some (.slice KT 1 c) := by rw [← hY]; exact (set_far hnt6).trans ((set_far hnt6).trans ((set_far hnt6).trans ((set_far hnt6).trans ((set_far hnt6).trans ((set_far hnt6).trans ((set_far hnt6).trans (s5)))))))
        clear hY o0 o1 o2 o3 o4 o5 o6 of
        refine hK.out _ _ ?_ (fun hHeld => ?_)
        · ((try dsimp only); first | with_reducible exact s0 | with_reducible exact s1 | with_reducible exact s2 | with_reducible exact s3 | with_reducible exact s4 | with_reducible exact s5 | with_reducible exact s6)
        clear hK K
        try simp only [Act.put, List.setIfInBounds_toArray, List.set_cons_zero, List.set_cons_succ]
        refine wpAnyH_done (by kernel_rfl) ?_ _
        clear s0 s1 s2 s3 s4 s5 s6 g5 g6 hne hn5 hn6 hnt5 hnt6
        go_wp2_with fail
        go_meet
        exact ⟨b5, b6, rfl, rfl, F5_6.out, F6_6.out, HB6.out⟩
    · go_simp
      generalize hY : World.drew (World.alloc _ _) = Y1
      have b0 : Below W1.heap.size W1 Y1 := by rw [← hY]; exact ((Below.refl W1.heap.size W1).alloc (Nat.le_refl _) _).drew
      have b : Below W1.drew.heap.size W1.drew Y1 := ⟨b0.os, b0.tape, b0.output, b0.size, fun k hk => b0.block k hk⟩
      have hF : Y1.heap[W1.drew.heap.size]? = some (.cells #[.slice none 0 0, .int .i64 0, .int .i64 0, .int .i64 0, .int .i64 0, .int .i64 0, .int .i64 0] 29 (0, 0)) := by rw [← hY]; exact heap_alloc_new W1 _
      obtain ⟨b6, hb6⟩ : ∃ z, z = W1.drew.heap.size := ⟨_, rfl⟩
      rw [← hb6] at hF
      have hbx : b6 = W1.heap.size := hb6
      rw [← hbx]
      have F6_1 := Lib.hid hF
      have g6 : W1.heap.size ≤ b6 := by have := HB0.out.size; omega
      clear hY hF hb6 hbx
      have s1 : Y1.cell? ⟨tb, 0, none⟩ = some (.slice KT 1 c) := (b.cell (p := ⟨tb, 0, none⟩) (World.block_lt_of_cell? _ _ s0)).trans s0
      have HB1 : Hid (Below W1.heap.size W1 Y1) := Lib.hid (HB0.out.trans (b.mono HB0.out.size))
      clear b
      refine hK.out _ _ ?_ (fun hHeld => ?_)
      · ((try dsimp only); first | with_reducible exact s0 | with_reducible exact s1 | with_reducible exact s2 | with_reducible exact s3 | with_reducible exact s4 | with_reducible exact s5 | with_reducible exact s6)
      clear hK K
      try simp only [Act.put, List.setIfInBounds_toArray, List.set_cons_zero, List.set_cons_succ]
      refine wpAnyH_ready (rs := [2, 7]) (by kernel_rfl) (by simp) ?_
      refine AllReadyH.cons rfl (fun K hK => ?_) (AllReadyH.cons rfl (fun K hK => ?_) (AllReadyH.nil))
      · go_simp
        refine (HN.out Y1).mono ?_
        rintro e Y2 ⟨rfl, b⟩
        have s2 : Y2.cell? ⟨tb, 0, none⟩ = some (.slice KT 1 c) := (b.cell (p := ⟨tb, 0, none⟩) (World.block_lt_of_cell? _ _ s1)).trans s1
        have HB2 : Hid (Below W1.heap.size W1 Y2) := Lib.hid (HB1.out.trans (b.mono HB1.out.size))
        have F6_2 := Lib.hid ((b.block _ (heap_lt F6_1.out)).trans F6_1.out)
        clear b
        refine hK.out _ _ ?_ (fun hHeld => ?_)
        · ((try dsimp only); first | with_reducible exact s0 | with_reducible exact s1 | with_reducible exact s2 | with_reducible exact s3 | with_reducible exact s4 | with_reducible exact s5 | with_reducible exact s6)
        clear hK K
        try simp only [Act.put, List.setIfInBounds_toArray, List.set_cons_zero, List.set_cons_succ]
        refine wpAnyH_ready (rs := [6, 7]) (by kernel_rfl) (by simp) ?_
        refine AllReadyH.cons rfl (fun K hK => ?_) (AllReadyH.cons rfl (fun K hK => ?_) (AllReadyH.nil))
        · go_simp
          refine (HS.out Y2 HB2.out).mono ?_
          rintro e Y3 ⟨rfl, b⟩
          have s3 : Y3.cell? ⟨tb, 0, none⟩ = some (.slice KT 1 c) := (b.cell (p := ⟨tb, 0, none⟩) (World.block_lt_of_cell? _ _ s2)).trans s2
          have HB3 : Hid (Below W1.heap.size W1 Y3) := Lib.hid (HB2.out.trans (b.mono HB2.out.size))
          have F6_3 := Lib.hid ((b.block _ (heap_lt F6_2.out)).trans F6_2.out)
          clear b
          refine hK.out _ _ ?_ (fun hHeld => ?_)
          · ((try dsimp only); first | with_reducible exact s0 | with_reducible exact s1 | with_reducible exact s2 | with_reducible exact s3 | with_reducible exact s4 | with_reducible exact s5 | with_reducible exact s6)
          clear hK K
          try simp only [Act.put, List.setIfInBounds_toArray, List.set_cons_zero, List.set_cons_succ]
          refine wpAnyH_ready (rs := [7]) (by kernel_rfl) (by simp) ?_
          refine AllReadyH.cons rfl (fun K hK => ?_) (AllReadyH.nil)
          go_simp
          generalize hY : World.alloc _ _ = Y4
          have b : Below Y3.heap.size Y3 Y4 := by rw [← hY]; exact (Below.refl _ _).alloc (Nat.le_refl _) _
          have hF : Y4.heap[Y3.heap.size]? = some (.cells #[.slice none 0 0, .int .i64 0, .int .i64 0, .int .i64 0, .int .i64 0, .int .i64 0, .int .i64 0] 29 (0, 0)) := by rw [← hY]; exact heap_alloc_new Y3 _
          obtain ⟨b5, hb5⟩ : ∃ z, z = Y3.heap.size := ⟨_, rfl⟩
          rw [← hb5] at hF
          rw [← hb5]
          have F5_4 := Lib.hid hF
          have g5 : W1.heap.size ≤ b5 := by have := HB3.out.size; omega
          have hne : b6 ≠ b5 := by have := heap_lt F6_3.out; omega
          clear hY hF hb5
          have s4 : Y4.cell? ⟨tb, 0, none⟩ = some (.slice KT 1 c) := (b.cell (p := ⟨tb, 0, none⟩) (World.block_lt_of_cell? _ _ s3)).trans s3
          have HB4 : Hid (Below W1.heap.size W1 Y4) := Lib.hid (HB3.out.trans (b.mono HB3.out.size))
          have F6_4 := Lib.hid ((b.block _ (heap_lt F6_3.out)).trans F6_3.out)
          clear b
          refine hK.out _ _ ?_ (fun hHeld => ?_)
          · ((try dsimp only); first | with_reducible exact s0 | with_reducible exact s1 | with_reducible exact s2 | with_reducible exact s3 | with_reducible exact s4 | with_reducible exact s5 | with_reducible exact s6)
          clear hK K
          try simp only [Act.put, List.setIfInBounds_toArray, List.set_cons_zero, List.set_cons_succ]
          refine wpAnyH_ready (rs := [9]) (by kernel_rfl) (by simp) ?_
          refine AllReadyH.cons rfl (fun K hK => ?_) (AllReadyH.nil)
          obtain ⟨o0, o1, o2, o3, o4, o5, o6, of⟩ := cells7 F5_4.out
          go_simp
          generalize hY : World.setCell _ _ _ = Y5
          have hn5 : b6 ≠ b5 := by omega
          have F5_5 : Hid (Y5.heap[b5]? = some (.cells #[.slice none 0 0, .int .i64 4, .int .i64 0, .int .i64 us, .int .i64 0, .int .i64 0, .int .i64 0] 29 (0, 0))) := Lib.hid (by rw [← hY]; exact (heap_set (heap_set (heap_set (heap_set (heap_set (heap_set (heap_set F5_4.out 0 _) 1 _) 2 _) 3 _) 4 _) 5 _) 6 _))
          have F6_5 : Hid (Y5.heap[b6]? = some (.cells #[.slice none 0 0, .int .i64 0, .int .i64 0, .int .i64 0, .int .i64 0, .int .i64 0, .int .i64 0] 29 (0, 0))) := Lib.hid (by rw [← hY]; exact ((Below.heap_setCell _ _ _ _ hn5).trans ((Below.heap_setCell _ _ _ _ hn5).trans ((Below.heap_setCell _ _ _ _ hn5).trans ((Below.heap_setCell _ _ _ _ hn5).trans ((Below.heap_setCell _ _ _ _ hn5).trans ((Below.heap_setCell _ _ _ _ hn5).trans ((Below.heap_setCell _ _ _ _ hn5).trans F6_4.out))))))))
          have HB5 : Hid (Below W1.heap.size W1 Y5) := Lib.hid (by rw [← hY]; exact (((((((HB4.out.setCell (p := ⟨b5, 0, none⟩) g5 _).setCell (p := ⟨b5, 1, none⟩) g5 _).setCell (p := ⟨b5, 2, none⟩) g5 _).setCell (p := ⟨b5, 3, none⟩) g5 _).setCell (p := ⟨b5, 4, none⟩) g5 _).setCell (p := ⟨b5, 5, none⟩) g5 _).setCell (p := ⟨b5, 6, none⟩) g5 _))
          have hnt5 : tb ≠ b5 := by have := Htb.out; omega
          have s5 : Y5.cell? ⟨tb, 0, none⟩ = some (.slice KT 1 c) := by rw [← hY]; exact (set_far hnt5).trans ((set_far hnt5).trans ((set_far hnt5).trans ((set_far hnt5).trans ((set_far hnt5).trans ((set_far hnt5).trans ((set_far hnt5).trans (s4)))))))
          clear hY o0 o1 o2 o3 o4 o5 o6 of
          refine hK.out _ _ ?_ (fun hHeld => ?_)
          · ((try dsimp only); first | with_reducible exact s0 | with_reducible exact s1 | with_reducible exact s2 | with_reducible exact s3 | with_reducible exact s4 | with_reducible exact s5 | with_reducible exact s6)
          clear hK K
          try simp only [Act.put, List.setIfInBounds_toArray, List.set_cons_zero, List.set_cons_succ]
          refine wpAnyH_ready (rs := [10]) (by kernel_rfl) (by simp) ?_
          refine AllReadyH.cons rfl (fun K hK => ?_) (AllReadyH.nil)
          obtain ⟨o0, o1, o2, o3, o4, o5, o6, of⟩ := cells7 F6_5.out
          go_simp
          generalize hY : World.setCell _ _ _ = Y6
          have hn6 : b5 ≠ b6 := by omega
          have F6_6 : Hid (Y6.heap[b6]? = some (.cells #[.slice none 0 0, .int .i64 0, .int .i64 0, .int .i64 0, .int .i64 0, .int .i64 0, .int .i64 1] 29 (0, 0))) := Lib.hid (by rw [← hY]; exact (heap_set (heap_set (heap_set (heap_set (heap_set (heap_set (heap_set F6_5.out 0 _) 1 _) 2 _) 3 _) 4 _) 5 _) 6 _))
          have F5_6 : Hid (Y6.heap[b5]? = some (.cells #[.slice none 0 0, .int .i64 4, .int .i64 0, .int .i64 us, .int .i64 0, .int .i64 0, .int .i64 0] 29 (0, 0))) := Lib.hid (by rw [← hY]; exact ((Below.heap_setCell _ _ _ _ hn6).trans ((Below.heap_setCell _ _ _ _ hn6).trans ((Below.heap_setCell _ _ _ _ hn6).trans ((Below.heap_setCell _ _ _ _ hn6).trans ((Below.heap_setCell _ _ _ _ hn6).trans ((Below.heap_setCell _ _ _ _ hn6).trans ((Below.heap_setCell _ _ _ _ hn6).trans F5_5.out))))))))
          have HB6 : Hid (Below W1.heap.size W1 Y6) := Lib.hid (by rw [← hY]; exact (((((((HB5.out.setCell (p := ⟨b6, 0, none⟩) g6 _).setCell (p := ⟨b6, 1, none⟩) g6 _).setCell (p := ⟨b6, 2, none⟩) g6 _).setCell (p := ⟨b6, 3, none⟩) g6 _).setCell (p := ⟨b6, 4, none⟩) g6 _).setCell (p := ⟨b6, 5, none⟩) g6 _).setCell (p := ⟨b6, 6, none⟩) g6 _))
          have hnt6 : tb ≠ b6 := by have := Htb.out; omega
          have s6 : Y6.cell? ⟨tb, 0, none⟩ = some (.slice KT 1 c) := by rw [← hY]; exact (set_far hnt6).trans ((set_far hnt6).trans ((set_far hnt6).trans ((set_far hnt6).trans ((set_far hnt6).trans ((set_far hnt6).trans ((set_far hnt6).trans (s5)))))))
          clear hY o0 o1 o2 o3 o4 o5 o6 of
          refine hK.out _ _ ?_ (fun hHeld => ?_)
          · ((try dsimp only); first | with_reducible exact s0 | with_reducible exact s1 | with_reducible exact s2 | with_reducible exact s3 | with_reducible exact s4 | with_reducible exact s5 | with_reducible exact s6)
          clear hK K
          try simp only [Act.put, List.setIfInBounds_toArray, List.set_cons_zero, List.set_cons_succ]
          refine wpAnyH_done (by kernel_rfl) ?_ _
          clear s0 s1 s2 s3 s4 s5 s6 g5 g6 hne hn5 hn6 hnt5 hnt6
          go_wp2_with fail
          go_meet
          exact ⟨b5, b6, rfl, rfl, F5_6.out, F6_6.out, HB6.out⟩
        · go_simp
          generalize hY : World.alloc _ _ = Y3
          have b : Below Y2.heap.size Y2 Y3 := by rw [← hY]; exact (Below.refl _ _).alloc (Nat.le_refl _) _
          have hF : Y3.heap[Y2.heap.size]? = some (.cells #[.slice none 0 0, .int .i64 0, .int .i64 0, .int .i64 0, .int .i64 0, .int .i64 0, .int .i64 0] 29 (0, 0)) := by rw [← hY]; exact heap_alloc_new Y2 _
          obtain ⟨b5, hb5⟩ : ∃ z, z = Y2.heap.size := ⟨_, rfl⟩
          rw [← hb5] at hF
          rw [← hb5]
          have F5_3 := Lib.hid hF
          have g5 : W1.heap.size ≤ b5 := by have := HB2.out.size; omega
          have hne : b6 ≠ b5 := by have := heap_lt F6_2.out; omega
          clear hY hF hb5
          have s3 : Y3.cell? ⟨tb, 0, none⟩ = some (.slice KT 1 c) := (b.cell (p := ⟨tb, 0, none⟩) (World.block_lt_of_cell? _ _ s2)).trans s2
          have HB3 : Hid (Below W1.heap.size W1 Y3) := Lib.hid (HB2.out.trans (b.mono HB2.out.size))
          have F6_3 := Lib.hid ((b.block _ (heap_lt F6_2.out)).trans F6_2.out)
          clear b
          refine hK.out _ _ ?_ (fun hHeld => ?_)
          · ((try dsimp only); first | with_reducible exact s0 | with_reducible exact s1 | with_reducible exact s2 | with_reducible exact s3 | with_reducible exact s4 | with_reducible exact s5 | with_reducible exact s6)
          clear hK K
          try simp only [Act.put, List.setIfInBounds_toArray, List.set_cons_zero, List.set_cons_succ]
          refine wpAnyH_ready (rs := [6]) (by kernel_rfl) (by simp) ?_
          refine AllReadyH.cons rfl (fun K hK => ?_) (AllReadyH.nil)
          go_simp
          refine (HS.out Y3 HB3.out).mono ?_
          rintro e Y4 ⟨rfl, b⟩
          have s4 : Y4.cell? ⟨tb, 0, none⟩ = some (.slice KT 1 c) := (b.cell (p := ⟨tb, 0, none⟩) (World.block_lt_of_cell? _ _ s3)).trans s3
          have HB4 : Hid (Below W1.heap.size W1 Y4) := Lib.hid (HB3.out.trans (b.mono HB3.out.size))
          have F5_4 := Lib.hid ((b.block _ (heap_lt F5_3.out)).trans F5_3.out)
          have F6_4 := Lib.hid ((b.block _ (heap_lt F6_3.out)).trans F6_3.out)
          clear b
          refine hK.out _ _ ?_ (fun hHeld => ?_)
          · ((try dsimp only); first | with_reducible exact s0 | with_reducible exact s1 | with_reducible exact s2 | with_reducible exact s3 | with_reducible exact s4 | with_reducible exact s5 | with_reducible exact s6)
          clear hK K
          try simp only [Act.put, List.setIfInBounds_toArray, List.set_cons_zero, List.set_cons_succ]
          refine wpAnyH_ready (rs := [9]) (by kernel_rfl) (by simp) ?_
          refine AllReadyH.cons rfl (fun K hK => ?_) (AllReadyH.nil)
          obtain ⟨o0, o1, o2, o3, o4, o5, o6, of⟩ := cells7 F5_4.out
          go_simp
          generalize hY : World.setCell _ _ _ = Y5
          have hn5 : b6 ≠ b5 := by omega
          have F5_5 : Hid (Y5.heap[b5]? = some (.cells #[.slice none 0 0, .int .i64 4, .int .i64 0, .int .i64 us, .int .i64 0, .int .i64 0, .int .i64 0] 29 (0, 0))) := Lib.hid (by rw [← hY]; exact (heap_set (heap_set (heap_set (heap_set (heap_set (heap_set (heap_set F5_4.out 0 _) 1 _) 2 _) 3 _) 4 _) 5 _) 6 _))
          have F6_5 : Hid (Y5.heap[b6]? = some (.cells #[.slice none 0 0, .int .i64 0, .int .i64 0, .int .i64 0, .int .i64 0, .int .i64 0, .int .i64 0] 29 (0, 0))) := Lib.hid (by rw [← hY]; exact ((Below.heap_setCell _ _ _ _ hn5).trans ((Below.heap_setCell _ _ _ _ hn5).trans ((Below.heap_setCell _ _ _ _ hn5).trans ((Below.heap_setCell _ _ _ _ hn5).trans ((Below.heap_setCell _ _ _ _ hn5).trans ((Below.heap_setCell _ _ _ _ hn5).trans ((Below.heap_setCell _ _ _ _ hn5).trans F6_4.out))))))))
          have HB5 : Hid (Below W1.heap.size W1 Y5) := Lib.hid (by rw [← hY]; exact (((((((HB4.out.setCell (p := ⟨b5, 0, none⟩) g5 _).setCell (p := ⟨b5, 1, none⟩) g5 _).setCell (p := ⟨b5, 2, none⟩) g5 _).setCell (p := ⟨b5, 3, none⟩) g5 _).setCell (p := ⟨b5, 4, none⟩) g5 _).setCell (p := ⟨b5, 5, none⟩) g5 _).setCell (p := ⟨b5, 6, none⟩) g5 _))
          have hnt5 : tb ≠ b5 := by have := Htb.out; omega
          have s5 : Y5.cell? ⟨tb, 0, none⟩ = some (.slice KT 1 c) := by rw [← hY]; exact (set_far hnt5).trans ((set_far hnt5).trans ((set_far hnt5).trans ((set_far hnt5).trans ((set_far hnt5).trans ((set_far hnt5).trans ((set_far hnt5).trans (s4)))))))
          clear hY o0 o1 o2 o3 o4 o5 o6 of
          refine hK.out _ _ ?_ (fun hHeld => ?_)
          · ((try dsimp only); first | with_reducible exact s0 | with_reducible exact s1 | with_reducible exact s2 | with_reducible exact s3 | with_reducible exact s4 | with_reducible exact s5 | with_reducible exact s6)
          clear hK K
          try simp only [Act.put, List.setIfInBounds_toArray, List.set_cons_zero, List.set_cons_succ]
          refine wpAnyH_ready (rs := [10]) (by kernel_rfl) (by simp) ?_
          refine AllReadyH.cons rfl (fun K hK => ?_) (AllReadyH.nil)
          obtain ⟨o0, o1, o2, o3, o4, o5, o6, of⟩ := cells7 F6_5.out
          go_simp
          generalize hY : World.setCell _ _ _ = Y6
          have hn6 : b5 ≠ b6 := by omega
          have F6_6 : Hid (Y6.heap[b6]? = some (.cells #[.slice none 0 0, .int .i64 0, .int .i64 0, .int .i64 0, .int .i64 0, .int .i64 0, .int .i64 1] 29 (0, 0))) := Lib.hid (by rw [← hY]; exact (heap_set (heap_set (heap_set (heap_set (heap_set (heap_set (heap_set F6_5.out 0 _) 1 _) 2 _) 3 _) 4 _) 5 _) 6 _))
          have F5_6 : Hid (Y6.heap[b5]? = some (.cells #[.slice none 0 0, .int .i64 4, .int .i64 0, .int .i64 us, .int .i64 0, .int .i64 0, .int .i64 0] 29 (0, 0))) := Lib.hid (by rw [← hY]; exact ((Below.heap_setCell _ _ _ _ hn6).trans ((Below.heap_setCell _ _ _ _ hn6).trans ((Below.heap_setCell _ _ _ _ hn6).trans ((Below.heap_setCell _ _ _ _ hn6).trans ((Below.heap_setCell _ _ _ _ hn6).trans ((Below.heap_setCell _ _ _ _ hn6).trans ((Below.heap_setCell _ _ _ _ hn6).trans F5_5.out))))))))
          have HB6 : Hid (Below W1.heap.size W1 Y6) := Lib.hid (by rw [← hY]; exact (((((((HB5.out.setCell (p := ⟨b6, 0, none⟩) g6 _).setCell (p := ⟨b6, 1, none⟩) g6 _).setCell (p := ⟨b6, 2, none⟩) g6 _).setCell (p := ⟨b6, 3, none⟩) g6 _).setCell (p := ⟨b6, 4, none⟩) g6 _).setCell (p := ⟨b6, 5, none⟩) g6 _).setCell (p := ⟨b6, 6, none⟩) g6 _))
          have hnt6 : tb ≠ b6 := by have := Htb.out; omega
          have s6 : Y6.cell? ⟨tb, 0, none⟩ = some (.slice KT 1 c) := by rw [← hY]; exact (set_far hnt6).trans ((set_far hnt6).trans ((set_far hnt6).trans ((set_far hnt6).trans ((set_far hnt6).trans ((set_far hnt6).trans ((set_far hnt6).trans (s5)))))))
          clear hY o0 o1 o2 o3 o4 o5 o6 of
          refine hK.out _ _ ?_ (fun hHeld => ?_)
          · ((try dsimp only); first | with_reducible exact s0 | with_reducible exact s1 | with_reducible exact s2 | with_reducible exact s3 | with_reducible exact s4 | with_reducible exact s5 | with_reducible exact s6)
          clear hK K
          try simp only [Act.put, List.setIfInBounds_toArray, List.set_cons_zero, List.set_cons_succ]
          refine wpAnyH_done (by kernel_rfl) ?_ _
          clear s0 s1 s2 s3 s4 s5 s6 g5 g6 hne hn5 hn6 hnt5 hnt6
          go_wp2_with fail
          go_meet
          exact ⟨b5, b6, rfl, rfl, F5_6.out, F6_6.out, HB6.out⟩
      · go_simp
        generalize hY : World.alloc _ _ = Y2
        have b : Below Y1.heap.size Y1 Y2 := by rw [← hY]; exact (Below.refl _ _).alloc (Nat.le_refl _) _
        have hF : Y2.heap[Y1.heap.size]? = some (.cells #[.slice none 0 0, .int .i64 0, .int .i64 0, .int .i64 0, .int .i64 0, .int .i64 0, .int .i64 0] 29 (0, 0)) := by rw [← hY]; exact heap_alloc_new Y1 _
        obtain ⟨b5, hb5⟩ : ∃ z, z = Y1.heap.size := ⟨_, rfl⟩
        rw [← hb5] at hF
        rw [← hb5]
        have F5_2 := Lib.hid hF
        have g5 : W1.heap.size ≤ b5 := by have := HB1.out.size; omega
        have hne : b6 ≠ b5 := by have := heap_lt F6_1.out; omega
        clear hY hF hb5
        have s2 : Y2.cell? ⟨tb, 0, none⟩ = some (.slice KT 1 c) := (b.cell (p := ⟨tb, 0, none⟩) (World.block_lt_of_cell? _ _ s1)).trans s1
        have HB2 : Hid (Below W1.heap.size W1 Y2) := Lib.hid (HB1.out.trans (b.mono HB1.out.size))
        have F6_2 := Lib.hid ((b.block _ (heap_lt F6_1.out)).trans F6_1.out)
        clear b
        refine hK.out _ _ ?_ (fun hHeld => ?_)
        · ((try dsimp only); first | with_reducible exact s0 | with_reducible exact s1 | with_reducible exact s2 | with_reducible exact s3 | with_reducible exact s4 | with_reducible exact s5 | with_reducible exact s6)
        clear hK K
        try simp only [Act.put, List.setIfInBounds_toArray, List.set_cons_zero, List.set_cons_succ]
        refine wpAnyH_ready (rs := [2]) (by kernel_rfl) (by simp) ?_
        refine AllReadyH.cons rfl (fun K hK => ?_) (AllReadyH.nil)
        go_simp
        refine (HN.out Y2).mono ?_
        rintro e Y3 ⟨rfl, b⟩
        have s3 : Y3.cell? ⟨tb, 0, none⟩ = some (.slice KT 1 c) := (b.cell (p := ⟨tb, 0, none⟩) (World.block_lt_of_cell? _ _ s2)).trans s2
        have HB3 : Hid (Below W1.heap.size W1 Y3) := Lib.hid (HB2.out.trans (b.mono HB2.out.size))
        have F5_3 := Lib.hid ((b.block _ (heap_lt F5_2.out)).trans F5_2.out)
        have F6_3 := Lib.hid ((b.block _ (heap_lt F6_2.out)).trans F6_2.out)
        clear b
        refine hK.out _ _ ?_ (fun hHeld => ?_)
        · ((try dsimp only); first | with_reducible exact s0 | with_reducible exact s1 | with_reducible exact s2 | with_reducible exact s3 | with_reducible exact s4 | with_reducible exact s5 | with_reducible exact s6)
        clear hK K
        try simp only [Act.put, List.setIfInBounds_toArray, List.set_cons_zero, List.set_cons_succ]
        refine wpAnyH_ready (rs := [6]) (by kernel_rfl) (by simp) ?_
        refine AllReadyH.cons rfl (fun K hK => ?_) (AllReadyH.nil)
        go_simp
        refine (HS.out Y3 HB3.out).mono ?_
        rintro e Y4 ⟨rfl, b⟩
        have s4 : Y4.cell? ⟨tb, 0, none⟩ = some (.slice KT 1 c) := (b.cell (p := ⟨tb, 0, none⟩) (World.block_lt_of_cell? _ _ s3)).trans s3
        have HB4 : Hid (Below W1.heap.size W1 Y4) := Lib.hid (HB3.out.trans (b.mono HB3.out.size))
        have F5_4 := Lib.hid ((b.block _ (heap_lt F5_3.out)).trans F5_3.out)
        have F6_4 := Lib.hid ((b.block _ (heap_lt F6_3.out)).trans F6_3.out)
        clear b
        refine hK.out _ _ ?_ (fun hHeld => ?_)
        · ((try dsimp only); first | with_reducible exact s0 | with_reducible exact s1 | with_reducible exact s2 | with_reducible exact s3 | with_reducible exact s4 | with_reducible exact s5 | with_reducible exact s6)
        clear hK K
        try simp only [Act.put, List.setIfInBounds_toArray, List.set_cons_zero, List.set_cons_succ]
        refine wpAnyH_ready (rs := [9]) (by kernel_rfl) (by simp) ?_
        refine AllReadyH.cons rfl (fun K hK => ?_) (AllReadyH.nil)
        obtain ⟨o0, o1, o2, o3, o4, o5, o6, of⟩ := cells7 F5_4.out
        go_simp
        generalize hY : World.setCell _ _ _ = Y5
        have hn5 : b6 ≠ b5 := by omega
        have F5_5 : Hid (Y5.heap[b5]? = some (.cells #[.slice none 0 0, .int .i64 4, .int .i64 0, .int .i64 us, .int .i64 0, .int .i64 0, .int .i64 0] 29 (0, 0))) := Lib.hid (by rw [← hY]; exact (heap_set (heap_set (heap_set (heap_set (heap_set (heap_set (heap_set F5_4.out 0 _) 1 _) 2 _) 3 _) 4 _) 5 _) 6 _))
        have F6_5 : Hid (Y5.heap[b6]? = some (.cells #[.slice none 0 0, .int .i64 0, .int .i64 0, .int .i64 0, .int .i64 0, .int .i64 0, .int .i64 0] 29 (0, 0))) := Lib.hid (by rw [← hY]; exact ((Below.heap_setCell _ _ _ _ hn5).trans ((Below.heap_setCell _ _ _ _ hn5).trans ((Below.heap_setCell _ _ _ _ hn5).trans ((Below.heap_setCell _ _ _ _ hn5).trans ((Below.heap_setCell _ _ _ _ hn5).trans ((Below.heap_setCell _ _ _ _ hn5).trans ((Below.heap_setCell _ _ _ _ hn5).trans F6_4.out))))))))
        have HB5 : Hid (Below W1.heap.size W1 Y5) := Lib.hid (by rw [← hY]; exact (((((((HB4.out.setCell (p := ⟨b5, 0, none⟩) g5 _).setCell (p := ⟨b5, 1, none⟩) g5 _).setCell (p := ⟨b5, 2, none⟩) g5 _).setCell (p := ⟨b5, 3, none⟩) g5 _).setCell (p := ⟨b5, 4, none⟩) g5 _).setCell (p := ⟨b5, 5, none⟩) g5 _).setCell (p := ⟨b5, 6, none⟩) g5 _))
        have hnt5 : tb ≠ b5 := by have := Htb.out; omega
        have s5 : Y5.cell? ⟨tb, 0, none⟩ = some (.slice KT 1 c) := by rw [← hY]; exact (set_far hnt5).trans ((set_far hnt5).trans ((set_far hnt5).trans ((set_far hnt5).trans ((set_far hnt5).trans ((set_far hnt5).trans ((set_far hnt5).trans (s4)))))))
        clear hY o0 o1 o2 o3 o4 o5 o6 of
        refine hK.out _ _ ?_ (fun hHeld => ?_)
        · ((try dsimp only); first | with_reducible exact s0 | with_reducible exact s1 | with_reducible exact s2 | with_reducible exact s3 | with_reducible exact s4 | with_reducible exact s5 | with_reducible exact s6)
        clear hK K
        try simp only [Act.put, List.setIfInBounds_toArray, List.set_cons_zero, List.set_cons_succ]
        refine wpAnyH_ready (rs := [10]) (by kernel_rfl) (by simp) ?_
        refine AllReadyH.cons rfl (fun K hK => ?_) (AllReadyH.nil)
        obtain ⟨o0, o1, o2, o3, o4, o5, o6, of⟩ := cells7 F6_5.out
        go_simp
        generalize hY : World.setCell _ _ _ = Y6
        have hn6 : b5 ≠ b6 := by omega
        have F6_6 : Hid (Y6.heap[b6]? = some (.cells #[.slice none 0 0, .int .i64 0, .int .i64 0, .int .i64 0, .int .i64 0, .int .i64 0, .int .i64 1] 29 (0, 0))) := Lib.hid (by rw [← hY]; exact (heap_set (heap_set (heap_set (heap_set (heap_set (heap_set (heap_set F6_5.out 0 _) 1 _) 2 _) 3 _) 4 _) 5 _) 6 _))
        have F5_6 : Hid (Y6.heap[b5]? = some (.cells #[.slice none 0 0, .int .i64 4, .int .i64 0, .int .i64 us, .int .i64 0, .int .i64 0, .int .i64 0] 29 (0, 0))) := Lib.hid (by rw [← hY]; exact ((Below.heap_setCell _ _ _ _ hn6).trans ((Below.heap_setCell _ _ _ _ hn6).trans ((Below.heap_setCell _ _ _ _ hn6).trans ((Below.heap_setCell _ _ _ _ hn6).trans ((Below.heap_setCell _ _ _ _ hn6).trans ((Below.heap_setCell _ _ _ _ hn6).trans ((Below.heap_setCell _ _ _ _ hn6).trans F5_5.out))))))))
        have HB6 : Hid (Below W1.heap.size W1 Y6) := Lib.hid (by rw [← hY]; exact (((((((HB5.out.setCell (p := ⟨b6, 0, none⟩) g6 _).setCell (p := ⟨b6, 1, none⟩) g6 _).setCell (p := ⟨b6, 2, none⟩) g6 _).setCell (p := ⟨b6, 3, none⟩) g6 _).setCell (p := ⟨b6, 4, none⟩) g6 _).setCell (p := ⟨b6, 5, none⟩) g6 _).setCell (p := ⟨b6, 6, none⟩) g6 _))
        have hnt6 : tb ≠ b6 := by have := Htb.out; omega
        have s6 : Y6.cell? ⟨tb, 0, none⟩ = some (.slice KT 1 c) := by rw [← hY]; exact (set_far hnt6).trans ((set_far hnt6).trans ((set_far hnt6).trans ((set_far hnt6).trans ((set_far hnt6).trans ((set_far hnt6).trans ((set_far hnt6).trans (s5)))))))
        clear hY o0 o1 o2 o3 o4 o5 o6 of
        refine hK.out _ _ ?_ (fun hHeld => ?_)
        · ((try dsimp only); first | with_reducible exact s0 | with_reducible exact s1 | with_reducible exact s2 | with_reducible exact s3 | with_reducible exact s4 | with_reducible exact s5 | with_reducible exact s6)
        clear hK K
        try simp only [Act.put, List.setIfInBounds_toArray, List.set_cons_zero, List.set_cons_succ]
        refine wpAnyH_done (by kernel_rfl) ?_ _
        clear s0 s1 s2 s3 s4 s5 s6 g5 g6 hne hn5 hn6 hnt5 hnt6
        go_wp2_with fail
        go_meet
        exact ⟨b5, b6, rfl, rfl, F5_6.out, F6_6.out, HB6.out⟩
  case rest =>
  obtain ⟨X, hX⟩ : ∃ X, X = wc := ⟨_, rfl⟩
  subst hX
  obtain ⟨b5, b6, rfl, rfl, h5, h6, hbX⟩ := hcut
  have HC : Hid (∀ Y, Below X.heap.size X Y → Y.cell? ⟨b5, 1, none⟩ = some (.int .i64 4) ∧ Y.cell? ⟨b6, 1, none⟩ = some (.int .i64 0) ∧ Y.cell? ⟨b6, 3, none⟩ = some (.int .i64 0)) := Lib.hid fun Y hY => by
    have e1 := (hY.block b5 (heap_lt h5)).trans h5
    have e2 := (hY.block b6 (heap_lt h6)).trans h6
    exact ⟨Lib.cell_of_heap e1 1, Lib.cell_of_heap e2 1, Lib.cell_of_heap e2 3⟩
  have HbX := Lib.hid (HBW.out.trans (hbX.mono HBW.out.size))
  have hAw := awake06_any X (Hr.out.up HbX.out)
  clear h5 h6 hbX ct HN HS
  go_wp2_with (go_at_call 6; refine hAw.mono ?_; rintro e w4 ⟨rfl, hb4⟩; obtain ⟨y1, y2, y3⟩ := HC.out w4 hb4; have Hb4 := Lib.hid (HbX.out.trans (hb4.mono HbX.out.size)); clear hb4 hAw)
  go_ret
  exact ⟨by first | rfl | simp, Hb4.out⟩
end Go.Proofs.YtlgpbllkhbgppaaGreatDoor
