/-
  The runner's stacks: slices.Grow of a full one, add.
-/
import Derived.Test.YtlgpbllkhbgppaaGreatDoorJn43
import Derived.Deep.AppendLies
import Derived.Lib.AppendZerosOnto
import Derived.Lib.Walk
import Derived.Lib.SliceRun
namespace Go.Proofs.YtlgpbllkhbgppaaGreatDoor
set_option linter.unusedVariables false
set_option linter.unusedSimpArgs false
open Go.RowKit Go.Shelf Go.Lib

theorem gr_one (w : World) (x : Array Value) (T : TypeId) : ∃ W, W = w.alloc (.cells x T) ∧ Below w.heap.size w W ∧ W.heap.size = w.heap.size + 1 ∧ W.heap[w.heap.size]? = some (.cells x T (0, 0)) :=
  ⟨_, rfl, (Below.refl _ _).alloc (Nat.le_refl _) _, by simp, heap_alloc_new w _⟩
theorem gr_up {w w' : World} {base : Nat} {T : TypeId} {z n : Nat} {v : Value} {xs : List Value} (h : w.ownsRow base T z v n xs) (hb : Below w.heap.size w w') : w'.ownsRow base T z v n xs :=
  h.kept (row := none) ⟨hb.os, hb.tape, hb.output, hb.size, fun k hk _ => hb.block k hk⟩ (by cases Value.ownBlock _ <;> simp)
theorem gr_add (b o j : Nat) : (⟨b, o, none⟩ : Addr).add j = ⟨b, o + j, none⟩ := by unfold Addr.add; split <;> simp_all
theorem infoI : (Tryz.prog.info? 3).map (fun i => (i.zero, i.size, i.bytes)) = some (some (.int .i64 0), 1, 8) := by kernel_rfl
theorem zeroC_len (z : Array Value) (k : Nat) : (Builtin.zeroCells z k).size = k * z.size := by
  simp [Builtin.zeroCells]

theorem infoV : (Tryz.prog.info? 82).map (fun i => (i.zero, i.size, i.bytes)) = some (some (.agg #[.int .i64 0, .pointer none]), 2, 16) := by kernel_rfl
set_option maxRecDepth 100000 in
set_option maxHeartbeats 4000000 in
theorem growV (B : Nat) (A : Option Addr) (n : Nat) (xs : List Value) (w : World) (hown : w.ownsRow B 82 2 (.slice A n n) n xs) (hB : B ≤ w.heap.size) (hn : n ≤ 1048576) :
    Calls Tryz.prog 73 #[.slice A n n, .int .i64 ((n : Int) + 1)] w fun e w' => ∃ c', e = .returned (.slice (some ⟨w.heap.size, 0, none⟩) n c') ∧ n + 1 ≤ c' ∧ w'.ownsRow B 82 2 (.slice (some ⟨w.heap.size, 0, none⟩) n c') n xs ∧ Below w.heap.size w w' := by
  obtain ⟨i0, hi0, hz0, hs0, hb0⟩ := info_parts infoV
  have hlen : xs.length = n * 2 := hown.1
  have hold : (Builtin.firstCells i0.size n (.slice A n n)).run Tryz.prog w.drew = .ok xs.toArray w.drew := by
    rw [hs0]
    rcases hown.2 with ⟨e, e0⟩ | ⟨g, cap, cur, e, -⟩
    · subst e0
      have : xs = [] := List.length_eq_zero_iff.1 (by omega)
      injection e with e1
      rw [e1, this]
      exact run_firstCells_none w.drew 2 0 0 0
    · injection e with e1 e2 e3
      subst e1
      exact run_firstCells_some w.drew 2 n _ n n xs hlen (fun j v hj => by
        have hjl : j < n * 2 := by rw [← hlen]; exact (List.getElem?_eq_some_iff.mp hj).1
        rw [gr_add, Nat.zero_add]
        exact (hown.cellAt j hjl).trans hj)
  have hrz : ∀ ty, (Builtin.append_ #[41, 3] ty #[.slice A n n, .int .i64 ((n : Int) + 1)]).run Tryz.prog w =
      .ok (.slice (some ⟨w.heap.size, 0, none⟩) (n + (n + 1)) (grownCap w (n + (n + 1)) n 82)) (w.drew.alloc (.cells (xs.toArray ++ Builtin.zeroCells (.agg #[.int .i64 0, .pointer none] : Value).cells (n + 1) ++ Builtin.zeroCells (.agg #[.int .i64 0, .pointer none] : Value).cells (grownCap w (n + (n + 1)) n 82 - (n + (n + 1)))) 82)) := fun ty => by
    have h := Lib.run_append_grow_zeros w 41 3 ty 82 i0 (.agg #[.int .i64 0, .pointer none]) .i64 .i64 Tryz.underlying41 Tryz.underlying3 hi0 hz0 A n n xs hold (n + 1) (by omega) (by rw [hs0]; decide) (by omega) (by omega)
      (by rw [hb0]; omega) (by rw [hb0]; exact growslice_fits (by omega) (by omega))
    rw [show (((n + 1 : Nat)) : Int) = (n : Int) + 1 by omega] at h
    exact h
  have hGn : n + (n + 1) ≤ grownCap w (n + (n + 1)) n 82 := grownCap_ge w _ _ _
  have hG63 := grownCap_le_maxLen w (n + (n + 1)) n 82 (by unfold maxLen; omega)
  obtain ⟨G, hG⟩ : ∃ G, G = grownCap w (n + (n + 1)) n 82 := ⟨_, rfl⟩
  rw [← hG] at hrz hGn hG63
  obtain ⟨W, hW⟩ : ∃ W, W = w.drew.alloc (.cells (xs.toArray ++ Builtin.zeroCells (.agg #[.int .i64 0, .pointer none] : Value).cells (n + 1) ++ Builtin.zeroCells (.agg #[.int .i64 0, .pointer none] : Value).cells (G - (n + (n + 1)))) 82) := ⟨_, rfl⟩
  have hbW : Below w.heap.size w W := by rw [hW]; exact ((Below.refl _ w).drew).alloc (Nat.le_refl _) _
  have hq : W.heap[w.heap.size]? = some (.cells (xs.toArray ++ Builtin.zeroCells (.agg #[.int .i64 0, .pointer none] : Value).cells (n + 1) ++ Builtin.zeroCells (.agg #[.int .i64 0, .pointer none] : Value).cells (G - (n + (n + 1)))) 82 (0, 0)) := by rw [hW]; exact heap_alloc_new w.drew _
  have hoW : W.ownsRow B 82 2 (.slice (some ⟨w.heap.size, 0, none⟩) n G) n xs := by
    refine ⟨hlen, .inr ⟨w.heap.size, G, _, rfl, hB, hq, by omega, hG63, ?_, ?_⟩⟩
    · simp only [Array.size_append, List.size_toArray, zeroC_len, hlen]
      have : (.agg #[.int .i64 0, .pointer none] : Value).cells.size = 2 := rfl
      rw [this]
      omega
    · rw [Array.toList_append, Array.toList_append, List.append_assoc, List.take_append_of_le_length (by simp [hlen]), List.take_of_length_le (by simp [hlen])]
  rw [← hW] at hrz
  have Hrz := Lib.hid hrz
  have HoW := Lib.hid hoW
  have HbW := Lib.hid hbW
  unfold maxLen at hG63
  clear hold hG hq hW hown hi0 hz0 hs0 hb0 hlen hrz hoW hbW
  go_enter Tryz.func73, Tryz.ntmps73
  go_wp2_with (at_builtin; refine Lib.wpList_append_run _ rfl _ _ _ _ rfl _ _ rfl rfl _ _ (Hrz.out _) ?_)
  all_goals (go_ret; exact ⟨G, rfl, by omega, HoW.out, HbW.out⟩)
set_option maxRecDepth 100000 in
set_option maxHeartbeats 4000000 in
theorem addV (B : Nat) (A : Option Addr) (n c : Nat) (xs : List Value) (a0 : Int) (p0 : Option Addr) (w : World) (hown : w.ownsRow B 82 2 (.slice A n c) n xs) (hB : B ≤ w.heap.size) (hn : n ≤ 1048576) :
    Calls Tryz.prog 44 #[.slice A n c, .agg #[.int .i64 a0, .pointer p0]] w fun e w' => ∃ g c', e = .returned (.slice (some ⟨g, 0, none⟩) (n + 1) c') ∧ w'.ownsRow B 82 2 (.slice (some ⟨g, 0, none⟩) (n + 1) c') (n + 1) (xs ++ [.int .i64 a0, .pointer p0]) ∧ w.grownBy w' (Value.slice A n c).ownBlock ∧ ((Value.slice A n c).ownBlock = some g ∨ w.heap.size ≤ g) := by
  obtain ⟨i0, hi, hz0, hz1, hz2⟩ := info_parts infoV
  have hnc : n ≤ c ∧ c ≤ maxLen := by
    rcases hown.2 with ⟨e, e0⟩ | ⟨g, cap, cur, e, _, _, h1, h2, _⟩
    · injection e with e1 e2 e3
      subst e2 e3
      exact ⟨Nat.le_refl _, by unfold maxLen; omega⟩
    · injection e with e1 e2 e3
      subst e3
      exact ⟨h1, h2⟩
  obtain ⟨W, hW, hbW, hzW, h0W⟩ := gr_one w #[.int .i64 a0, .pointer p0] 82
  have Hi := Lib.hid hi
  have Hz0 := Lib.hid hz0
  have Hz1 := Lib.hid hz1
  have Hz2 := Lib.hid hz2
  have HO : Hid (∀ u ∈ ([.int .i64 a0, .pointer p0] : List Value), u.oneCell' = true) := Lib.hid (by
    intro u hu
    simp only [List.mem_cons, List.not_mem_nil, or_false] at hu
    rcases hu with rfl | rfl <;> rfl)
  have hnM : c ≤ maxLen := hnc.2
  by_cases hfull : n = c
  · subst hfull
    have hG := growV B A n xs W (gr_up hown hbW) (by omega) hn
    have d1 : ((n : Int) == (n : Int)) = true := by simp
    have HW := Lib.hid hW
    have HbW := Lib.hid hbW
    have Hh0 := Lib.hid h0W
    have HzW := Lib.hid hzW
    clear hi hz0 hz1 hz2 hown hW hbW h0W hnc hnM hzW
    have x := Lib.cell_of_heap Hh0.out
    have x0 := x 0
    have x1 := x 1
    clear x
    go_enter Tryz.func44, Tryz.ntmps44
    go_upto_region 1 with fail
    rw [← HW.out]
    go_upto_region 3 with (go_at_call 73; refine hG.mono ?_; rintro e X ⟨c1, rfl, hc1, hoX, hbX⟩; have Hc1 := Lib.hid hc1; have HoX := Lib.hid hoX; have HbX := Lib.hid hbX; clear hc1 hoX hbX hG)
    obtain ⟨D, hD, hbD, hzD, h0D⟩ := gr_one X #[.int .i64 a0, .pointer p0] 82
    have HNW := Lib.hid (World.news_of_block h0D)
    have HOW := Lib.hid (gr_up HoX.out hbD)
    have hWs := HbW.out.size
    have hXs := HbX.out.size
    have hxw : Below w.heap.size w D := HbW.out.trans ((HbX.out.trans (hbD.mono hXs)).mono hWs)
    have Hxw := Lib.hid hxw
    have hsz : B ≤ D.heap.size := by omega
    have kc : ∀ j v, W.cell? ⟨w.heap.size, j, none⟩ = some v → X.cell? ⟨w.heap.size, j, none⟩ = some v := fun j v hv => (HbX.out.cell (p := ⟨w.heap.size, j, none⟩) (by have := HzW.out; show w.heap.size < _; omega)).trans hv
    have y0 : X.cell? ⟨w.heap.size, 0, none⟩ = some (.int .i64 a0) := kc 0 _ x0
    have y1 : X.cell? ⟨w.heap.size, 1, none⟩ = some (.pointer p0) := kc 1 _ x1
    rw [hD] at HOW HNW hsz
    have HD := Lib.hid hD
    clear kc x0 x1 hD hbD hzD h0D hxw hXs
    go_wp2_with (at_builtin; refine wpList_append_lies _ rfl (.tmp 15) (.tmp 17) 41 rfl B 82 i0 (.agg #[.int .i64 0, .pointer none]) 2 16 Tryz.underlying41 Hi.out Hz0.out Hz1.out Hz2.out rfl (by decide) (.slice (some ⟨W.heap.size, 0, none⟩) n c1) n xs rfl HOW.out ⟨X.heap.size, 0, none⟩ 1 1 [.int .i64 a0, .pointer p0] rfl rfl HNW.out HO.out (by decide) (by unfold maxLen; omega) (by omega) hsz _ rfl ?_)
    intro g cap w5 hown5 hgrow hat hlt
    rw [← HD.out] at hgrow
    have hres : w.grownBy w5 (Value.slice A n n).ownBlock := ⟨hgrow.os.trans Hxw.out.os, hgrow.tape.trans Hxw.out.tape, hgrow.output.trans Hxw.out.output, Nat.le_trans Hxw.out.size hgrow.size, fun k hk _ => (hgrow.block k (Nat.lt_of_lt_of_le hk Hxw.out.size) (fun e => by simp only [Value.ownBlock, Option.some.injEq] at e; have := HzW.out; omega)).trans (Hxw.out.block k hk)⟩
    have hg : w.heap.size ≤ g := by
      rcases hat with h | h
      · simp only [Value.ownBlock, Option.some.injEq] at h
        have := HzW.out
        omega
      · have := HbX.out.size; omega
    have Hend := Lib.hid (And.intro hown5 (And.intro hres hg))
    clear hown5 hgrow hat hlt hres hg HOW HNW hsz
    go_wp2
    go_ret
    exact ⟨_, _, rfl, Hend.out.1, Hend.out.2.1, .inr Hend.out.2.2⟩
  · have hlt : n < c := by omega
    have d1 : ((n : Int) == (c : Int)) = false := by simp; omega
    obtain ⟨D, hD, hbD, hzD, h0D⟩ := gr_one W #[.int .i64 a0, .pointer p0] 82
    have HNW := Lib.hid (World.news_of_block h0D)
    have HOW := Lib.hid (gr_up (gr_up hown hbW) hbD)
    have hxw : Below w.heap.size w D := hbW.trans (hbD.mono (by omega))
    have Hxw := Lib.hid hxw
    have hsz : B ≤ D.heap.size := by omega
    rw [hD] at HOW HNW hsz
    have HD := Lib.hid hD
    have HW := Lib.hid hW
    have Hzz : Hid (W.heap.size = w.heap.size + 1) := Lib.hid hzW
    have x := Lib.cell_of_heap h0W
    have x0 := x 0
    have x1 := x 1
    clear x hi hz0 hz1 hz2 hown hW hbW h0W hD hbD hzD h0D hxw hnc hnM hfull hlt hzW
    go_enter Tryz.func44, Tryz.ntmps44
    go_upto_region 1 with fail
    rw [← HW.out]
    go_wp2_with (at_builtin; refine wpList_append_lies _ rfl (.tmp 15) (.tmp 17) 41 rfl B 82 i0 (.agg #[.int .i64 0, .pointer none]) 2 16 Tryz.underlying41 Hi.out Hz0.out Hz1.out Hz2.out rfl (by decide) (.slice A n c) n xs rfl HOW.out ⟨W.heap.size, 0, none⟩ 1 1 [.int .i64 a0, .pointer p0] rfl rfl HNW.out HO.out (by decide) (by unfold maxLen; omega) (by omega) hsz _ rfl ?_)
    intro g cap w5 hown5 hgrow hat hlt
    rw [← HD.out] at hgrow
    have hres : w.grownBy w5 (Value.slice A n c).ownBlock := ⟨hgrow.os.trans Hxw.out.os, hgrow.tape.trans Hxw.out.tape, hgrow.output.trans Hxw.out.output, Nat.le_trans Hxw.out.size hgrow.size, fun k hk hne => (hgrow.block k (Nat.lt_of_lt_of_le hk Hxw.out.size) hne).trans (Hxw.out.block k hk)⟩
    have hg : (Value.slice A n c).ownBlock = some g ∨ w.heap.size ≤ g := by
      rcases hat with h | h
      · exact .inl h
      · exact .inr (by have e := Hzz.out; omega)
    have Hend := Lib.hid (And.intro hown5 (And.intro hres hg))
    clear hown5 hgrow hat hlt hres hg HOW HNW hsz
    go_wp2
    go_ret
    exact ⟨_, _, rfl, Hend.out.1, Hend.out.2.1, Hend.out.2.2⟩

theorem infoC : (Tryz.prog.info? 107).map (fun i => (i.zero, i.size, i.bytes)) = some (some (.agg #[.int .i64 0, .int .i64 0]), 2, 16) := by kernel_rfl
set_option maxRecDepth 100000 in
set_option maxHeartbeats 4000000 in
theorem growC (B : Nat) (A : Option Addr) (n : Nat) (xs : List Value) (w : World) (hown : w.ownsRow B 107 2 (.slice A n n) n xs) (hB : B ≤ w.heap.size) (hn : n ≤ 1048576) :
    Calls Tryz.prog 72 #[.slice A n n, .int .i64 ((n : Int) + 1)] w fun e w' => ∃ c', e = .returned (.slice (some ⟨w.heap.size, 0, none⟩) n c') ∧ n + 1 ≤ c' ∧ w'.ownsRow B 107 2 (.slice (some ⟨w.heap.size, 0, none⟩) n c') n xs ∧ Below w.heap.size w w' := by
  obtain ⟨i0, hi0, hz0, hs0, hb0⟩ := info_parts infoC
  have hlen : xs.length = n * 2 := hown.1
  have hold : (Builtin.firstCells i0.size n (.slice A n n)).run Tryz.prog w.drew = .ok xs.toArray w.drew := by
    rw [hs0]
    rcases hown.2 with ⟨e, e0⟩ | ⟨g, cap, cur, e, -⟩
    · subst e0
      have : xs = [] := List.length_eq_zero_iff.1 (by omega)
      injection e with e1
      rw [e1, this]
      exact run_firstCells_none w.drew 2 0 0 0
    · injection e with e1 e2 e3
      subst e1
      exact run_firstCells_some w.drew 2 n _ n n xs hlen (fun j v hj => by
        have hjl : j < n * 2 := by rw [← hlen]; exact (List.getElem?_eq_some_iff.mp hj).1
        rw [gr_add, Nat.zero_add]
        exact (hown.cellAt j hjl).trans hj)
  have hrz : ∀ ty, (Builtin.append_ #[40, 3] ty #[.slice A n n, .int .i64 ((n : Int) + 1)]).run Tryz.prog w =
      .ok (.slice (some ⟨w.heap.size, 0, none⟩) (n + (n + 1)) (grownCap w (n + (n + 1)) n 107)) (w.drew.alloc (.cells (xs.toArray ++ Builtin.zeroCells (.agg #[.int .i64 0, .int .i64 0] : Value).cells (n + 1) ++ Builtin.zeroCells (.agg #[.int .i64 0, .int .i64 0] : Value).cells (grownCap w (n + (n + 1)) n 107 - (n + (n + 1)))) 107)) := fun ty => by
    have h := Lib.run_append_grow_zeros w 40 3 ty 107 i0 (.agg #[.int .i64 0, .int .i64 0]) .i64 .i64 Tryz.underlying40 Tryz.underlying3 hi0 hz0 A n n xs hold (n + 1) (by omega) (by rw [hs0]; decide) (by omega) (by omega)
      (by rw [hb0]; omega) (by rw [hb0]; exact growslice_fits (by omega) (by omega))
    rw [show (((n + 1 : Nat)) : Int) = (n : Int) + 1 by omega] at h
    exact h
  have hGn : n + (n + 1) ≤ grownCap w (n + (n + 1)) n 107 := grownCap_ge w _ _ _
  have hG63 := grownCap_le_maxLen w (n + (n + 1)) n 107 (by unfold maxLen; omega)
  obtain ⟨G, hG⟩ : ∃ G, G = grownCap w (n + (n + 1)) n 107 := ⟨_, rfl⟩
  rw [← hG] at hrz hGn hG63
  obtain ⟨W, hW⟩ : ∃ W, W = w.drew.alloc (.cells (xs.toArray ++ Builtin.zeroCells (.agg #[.int .i64 0, .int .i64 0] : Value).cells (n + 1) ++ Builtin.zeroCells (.agg #[.int .i64 0, .int .i64 0] : Value).cells (G - (n + (n + 1)))) 107) := ⟨_, rfl⟩
  have hbW : Below w.heap.size w W := by rw [hW]; exact ((Below.refl _ w).drew).alloc (Nat.le_refl _) _
  have hq : W.heap[w.heap.size]? = some (.cells (xs.toArray ++ Builtin.zeroCells (.agg #[.int .i64 0, .int .i64 0] : Value).cells (n + 1) ++ Builtin.zeroCells (.agg #[.int .i64 0, .int .i64 0] : Value).cells (G - (n + (n + 1)))) 107 (0, 0)) := by rw [hW]; exact heap_alloc_new w.drew _
  have hoW : W.ownsRow B 107 2 (.slice (some ⟨w.heap.size, 0, none⟩) n G) n xs := by
    refine ⟨hlen, .inr ⟨w.heap.size, G, _, rfl, hB, hq, by omega, hG63, ?_, ?_⟩⟩
    · simp only [Array.size_append, List.size_toArray, zeroC_len, hlen]
      have : (.agg #[.int .i64 0, .int .i64 0] : Value).cells.size = 2 := rfl
      rw [this]
      omega
    · rw [Array.toList_append, Array.toList_append, List.append_assoc, List.take_append_of_le_length (by simp [hlen]), List.take_of_length_le (by simp [hlen])]
  rw [← hW] at hrz
  have Hrz := Lib.hid hrz
  have HoW := Lib.hid hoW
  have HbW := Lib.hid hbW
  unfold maxLen at hG63
  clear hold hG hq hW hown hi0 hz0 hs0 hb0 hlen hrz hoW hbW
  go_enter Tryz.func72, Tryz.ntmps72
  go_wp2_with (at_builtin; refine Lib.wpList_append_run _ rfl _ _ _ _ rfl _ _ rfl rfl _ _ (Hrz.out _) ?_)
  all_goals (go_ret; exact ⟨G, rfl, by omega, HoW.out, HbW.out⟩)
set_option maxRecDepth 100000 in
set_option maxHeartbeats 4000000 in
theorem addC (B : Nat) (A : Option Addr) (n c : Nat) (xs : List Value) (a0 a1 : Int) (w : World) (hown : w.ownsRow B 107 2 (.slice A n c) n xs) (hB : B ≤ w.heap.size) (hn : n ≤ 1048576) :
    Calls Tryz.prog 43 #[.slice A n c, .agg #[.int .i64 a0, .int .i64 a1]] w fun e w' => ∃ g c', e = .returned (.slice (some ⟨g, 0, none⟩) (n + 1) c') ∧ w'.ownsRow B 107 2 (.slice (some ⟨g, 0, none⟩) (n + 1) c') (n + 1) (xs ++ [.int .i64 a0, .int .i64 a1]) ∧ w.grownBy w' (Value.slice A n c).ownBlock ∧ ((Value.slice A n c).ownBlock = some g ∨ w.heap.size ≤ g) := by
  obtain ⟨i0, hi, hz0, hz1, hz2⟩ := info_parts infoC
  have hnc : n ≤ c ∧ c ≤ maxLen := by
    rcases hown.2 with ⟨e, e0⟩ | ⟨g, cap, cur, e, _, _, h1, h2, _⟩
    · injection e with e1 e2 e3
      subst e2 e3
      exact ⟨Nat.le_refl _, by unfold maxLen; omega⟩
    · injection e with e1 e2 e3
      subst e3
      exact ⟨h1, h2⟩
  obtain ⟨W, hW, hbW, hzW, h0W⟩ := gr_one w #[.int .i64 a0, .int .i64 a1] 107
  have Hi := Lib.hid hi
  have Hz0 := Lib.hid hz0
  have Hz1 := Lib.hid hz1
  have Hz2 := Lib.hid hz2
  have HO : Hid (∀ u ∈ ([.int .i64 a0, .int .i64 a1] : List Value), u.oneCell' = true) := Lib.hid (by
    intro u hu
    simp only [List.mem_cons, List.not_mem_nil, or_false] at hu
    rcases hu with rfl | rfl <;> rfl)
  have hnM : c ≤ maxLen := hnc.2
  by_cases hfull : n = c
  · subst hfull
    have hG := growC B A n xs W (gr_up hown hbW) (by omega) hn
    have d1 : ((n : Int) == (n : Int)) = true := by simp
    have HW := Lib.hid hW
    have HbW := Lib.hid hbW
    have Hh0 := Lib.hid h0W
    have HzW := Lib.hid hzW
    clear hi hz0 hz1 hz2 hown hW hbW h0W hnc hnM hzW
    have x := Lib.cell_of_heap Hh0.out
    have x0 := x 0
    have x1 := x 1
    clear x
    go_enter Tryz.func43, Tryz.ntmps43
    go_upto_region 1 with fail
    rw [← HW.out]
    go_upto_region 3 with (go_at_call 72; refine hG.mono ?_; rintro e X ⟨c1, rfl, hc1, hoX, hbX⟩; have Hc1 := Lib.hid hc1; have HoX := Lib.hid hoX; have HbX := Lib.hid hbX; clear hc1 hoX hbX hG)
    obtain ⟨D, hD, hbD, hzD, h0D⟩ := gr_one X #[.int .i64 a0, .int .i64 a1] 107
    have HNW := Lib.hid (World.news_of_block h0D)
    have HOW := Lib.hid (gr_up HoX.out hbD)
    have hWs := HbW.out.size
    have hXs := HbX.out.size
    have hxw : Below w.heap.size w D := HbW.out.trans ((HbX.out.trans (hbD.mono hXs)).mono hWs)
    have Hxw := Lib.hid hxw
    have hsz : B ≤ D.heap.size := by omega
    have kc : ∀ j v, W.cell? ⟨w.heap.size, j, none⟩ = some v → X.cell? ⟨w.heap.size, j, none⟩ = some v := fun j v hv => (HbX.out.cell (p := ⟨w.heap.size, j, none⟩) (by have := HzW.out; show w.heap.size < _; omega)).trans hv
    have y0 : X.cell? ⟨w.heap.size, 0, none⟩ = some (.int .i64 a0) := kc 0 _ x0
    have y1 : X.cell? ⟨w.heap.size, 1, none⟩ = some (.int .i64 a1) := kc 1 _ x1
    rw [hD] at HOW HNW hsz
    have HD := Lib.hid hD
    clear kc x0 x1 hD hbD hzD h0D hxw hXs
    go_wp2_with (at_builtin; refine wpList_append_lies _ rfl (.tmp 15) (.tmp 17) 40 rfl B 107 i0 (.agg #[.int .i64 0, .int .i64 0]) 2 16 Tryz.underlying40 Hi.out Hz0.out Hz1.out Hz2.out rfl (by decide) (.slice (some ⟨W.heap.size, 0, none⟩) n c1) n xs rfl HOW.out ⟨X.heap.size, 0, none⟩ 1 1 [.int .i64 a0, .int .i64 a1] rfl rfl HNW.out HO.out (by decide) (by unfold maxLen; omega) (by omega) hsz _ rfl ?_)
    intro g cap w5 hown5 hgrow hat hlt
    rw [← HD.out] at hgrow
    have hres : w.grownBy w5 (Value.slice A n n).ownBlock := ⟨hgrow.os.trans Hxw.out.os, hgrow.tape.trans Hxw.out.tape, hgrow.output.trans Hxw.out.output, Nat.le_trans Hxw.out.size hgrow.size, fun k hk _ => (hgrow.block k (Nat.lt_of_lt_of_le hk Hxw.out.size) (fun e => by simp only [Value.ownBlock, Option.some.injEq] at e; have := HzW.out; omega)).trans (Hxw.out.block k hk)⟩
    have hg : w.heap.size ≤ g := by
      rcases hat with h | h
      · simp only [Value.ownBlock, Option.some.injEq] at h
        have := HzW.out
        omega
      · have := HbX.out.size; omega
    have Hend := Lib.hid (And.intro hown5 (And.intro hres hg))
    clear hown5 hgrow hat hlt hres hg HOW HNW hsz
    go_wp2
    go_ret
    exact ⟨_, _, rfl, Hend.out.1, Hend.out.2.1, .inr Hend.out.2.2⟩
  · have hlt : n < c := by omega
    have d1 : ((n : Int) == (c : Int)) = false := by simp; omega
    obtain ⟨D, hD, hbD, hzD, h0D⟩ := gr_one W #[.int .i64 a0, .int .i64 a1] 107
    have HNW := Lib.hid (World.news_of_block h0D)
    have HOW := Lib.hid (gr_up (gr_up hown hbW) hbD)
    have hxw : Below w.heap.size w D := hbW.trans (hbD.mono (by omega))
    have Hxw := Lib.hid hxw
    have hsz : B ≤ D.heap.size := by omega
    rw [hD] at HOW HNW hsz
    have HD := Lib.hid hD
    have HW := Lib.hid hW
    have Hzz : Hid (W.heap.size = w.heap.size + 1) := Lib.hid hzW
    have x := Lib.cell_of_heap h0W
    have x0 := x 0
    have x1 := x 1
    clear x hi hz0 hz1 hz2 hown hW hbW h0W hD hbD hzD h0D hxw hnc hnM hfull hlt hzW
    go_enter Tryz.func43, Tryz.ntmps43
    go_upto_region 1 with fail
    rw [← HW.out]
    go_wp2_with (at_builtin; refine wpList_append_lies _ rfl (.tmp 15) (.tmp 17) 40 rfl B 107 i0 (.agg #[.int .i64 0, .int .i64 0]) 2 16 Tryz.underlying40 Hi.out Hz0.out Hz1.out Hz2.out rfl (by decide) (.slice A n c) n xs rfl HOW.out ⟨W.heap.size, 0, none⟩ 1 1 [.int .i64 a0, .int .i64 a1] rfl rfl HNW.out HO.out (by decide) (by unfold maxLen; omega) (by omega) hsz _ rfl ?_)
    intro g cap w5 hown5 hgrow hat hlt
    rw [← HD.out] at hgrow
    have hres : w.grownBy w5 (Value.slice A n c).ownBlock := ⟨hgrow.os.trans Hxw.out.os, hgrow.tape.trans Hxw.out.tape, hgrow.output.trans Hxw.out.output, Nat.le_trans Hxw.out.size hgrow.size, fun k hk hne => (hgrow.block k (Nat.lt_of_lt_of_le hk Hxw.out.size) hne).trans (Hxw.out.block k hk)⟩
    have hg : (Value.slice A n c).ownBlock = some g ∨ w.heap.size ≤ g := by
      rcases hat with h | h
      · exact .inl h
      · exact .inr (by have e := Hzz.out; omega)
    have Hend := Lib.hid (And.intro hown5 (And.intro hres hg))
    clear hown5 hgrow hat hlt hres hg HOW HNW hsz
    go_wp2
    go_ret
    exact ⟨_, _, rfl, Hend.out.1, Hend.out.2.1, Hend.out.2.2⟩
end Go.Proofs.YtlgpbllkhbgppaaGreatDoor
