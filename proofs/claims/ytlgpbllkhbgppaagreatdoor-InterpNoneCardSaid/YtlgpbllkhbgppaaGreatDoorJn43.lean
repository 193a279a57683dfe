/-
  The writer of steps: a program's one function.
  The runner's fuel, and its traps.
-/
import Derived.Test.YtlgpbllkhbgppaaGreatDoorJn42
namespace Go.Proofs.YtlgpbllkhbgppaaGreatDoor
set_option linter.unusedVariables false
set_option linter.unusedSimpArgs false
open Go.RowKit

theorem infoInt : (Tryz.prog.info? 3).map (fun i => (i.zero, i.size, i.bytes)) = some (some (.int .i64 0), 1, 8) := by kernel_rfl
/-- Another cell of the writer, but for its steps. -/
theorem WW.put {b base n j : Nat} {xs : List Value} {fu fu' hi hi' : Int} {ST SL LO ST' SL' LO' v : Value} {w : World} (h : Wri w b base n xs fu ST SL hi LO) (hb : b < base) (hbs : base ≤ w.heap.size) (hj : ∀ V C, (#[.slice V n C, ST, .int .i64 fu, SL, .int .i64 hi, LO] : Array Value).setIfInBounds j v = #[.slice V n C, ST', .int .i64 fu', SL', .int .i64 hi', LO']) : WW b base w (w.setCell ⟨b, j, none⟩ v) ∧ Wri (w.setCell ⟨b, j, none⟩ v) b base n xs fu' ST' SL' hi' LO' := by
  obtain ⟨V, C, hB, hown⟩ := h
  have hbut : But b w (w.setCell ⟨b, j, none⟩ v) := (But.refl b w).setCell (p := ⟨b, j, none⟩) (Or.inl rfl) _
  have hB4 := heap_set hB j v
  rw [hj V C] at hB4
  refine ⟨⟨BB.of_but hbut hbs, fun k h1 h2 _ => hbut.block k h1 h2, fun k h1 q => ?_⟩, V, C, hB4, own_but hown hbut hb⟩
  obtain ⟨n', C', q⟩ := q
  have e1 : (w.setCell ⟨b, j, none⟩ v).cell? ⟨b, 0, none⟩ = some (.slice V n C) := Lib.cell_of_heap hB4 0
  have e2 : w.cell? ⟨b, 0, none⟩ = some (.slice V n C) := Lib.cell_of_heap hB 0
  exact ⟨n', C', e2.trans (e1.symm.trans q)⟩
set_option maxRecDepth 100000 in
set_option maxHeartbeats 8000000 in
theorem w_fn (l : List St) (hl : ∀ x ∈ l, inS x) (hlen : l.length ≤ 1099511627776) (b base : Nat) (hi : Int) (SL LO : Value) (S : Nat → Prop) (nm : ByteArray) (at_ rt v0 : Int) (PA BA : Option Addr) (pc bc : Nat) (w : World) (hb : b < base) (hbs : base ≤ w.heap.size) (hn : wSNs l ≤ 800000) (h : Wri w b base 0 [] 0 (.slice none 0 0) SL hi LO) (hV : w.cell? ⟨b, 0, none⟩ = some (.slice none 0 0)) (hS : ∀ x, S x → x < base ∧ x ≠ b) (hR : RdSs w S BA 0 l) :
    Calls Tryz.prog 19 #[.pointer (some ⟨b, 0, none⟩), .agg #[.string nm, .int .i64 at_, .slice PA 0 pc, .int .i64 rt, .slice BA l.length bc, .int .i64 v0]] w fun r w' => r = .returned (.tuple #[]) ∧ WW b base w w' ∧ ∃ gp cp SL', gp < w'.heap.size ∧ w'.cell? ⟨gp, 0, none⟩ = some (.int .i64 0) ∧ Wri w' b base (wSNs l + 2) (wSs l ++ [.int .i64 1, .int .i64 0, .int .i64 0, .int .i64 0] ++ [.int .i64 10, .int .i64 0, .int .i64 0, .int .i64 0]) 0 (.slice (some ⟨gp, 0, none⟩) 1 cp) SL' 0 LO := by
  obtain ⟨W, hW, hbW, hzW, h0W⟩ := ch_one_al w #[.string nm, .int .i64 at_, .slice PA 0 pc, .int .i64 rt, .slice BA l.length bc, .int .i64 v0] 64
  have hWriW := h.below hbW hb hbs
  have hWWW := WW.of_below (b := b) (base := base) hbW (by omega) hbs
  obtain ⟨D, hD⟩ : ∃ D, D = W.drew := ⟨_, rfl⟩
  have hbD : Below W.heap.size W D := by rw [hD]; exact (Below.refl _ _).drew
  have hDz : D.heap.size = w.heap.size + 1 := by rw [hD]; exact hzW
  have hWriD := hWriW.below hbD hb (by omega)
  have hH := w_here b base 0 [] hi (.slice none 0 0) SL LO D hWriD
  obtain ⟨A, hA, hbA, hzA, h0A⟩ := ch_one_al D #[.int .i64 0] 3
  have hWriA := hWriD.below hbA hb (by omega)
  have hHA := w_here b base 0 [] hi (.slice none 0 0) SL LO A hWriA
  have o1 : D.cell? ⟨b, 1, none⟩ = some (.slice none 0 0) := by
    obtain ⟨V, C, hB, hown⟩ := hWriD
    exact Lib.cell_of_heap hB 1
  have oA : A.cell? ⟨b, 1, none⟩ = some (.slice none 0 0) := (hbA.cell (p := ⟨b, 1, none⟩) (by show b < _; omega)).trans o1
  have HOW := Lib.hid (World.ownsRow_nil A base 3 1)
  have HNW := Lib.hid (World.news_of_block h0A)
  have HO : Hid (∀ u ∈ ([.int .i64 0] : List Value), u.oneCell' = true) := Lib.hid (by intro u hu; simp at hu; subst hu; rfl)
  have hsz : base ≤ A.heap.size := by omega
  have hall : ∀ w3 gp cp, w3.ownsRow base 3 1 (.slice (some ⟨gp, 0, none⟩) 1 cp) 1 [.int .i64 0] → A.grownBy w3 none → gp = A.heap.size → (w3.cell? ⟨b, 1, none⟩ = some (.slice none 0 0) ∧ w3.frozen? ⟨b, 1, none⟩ = false) ∧ WW b base w (w3.setCell ⟨b, 1, none⟩ (.slice (some ⟨gp, 0, none⟩) 1 cp)) ∧ Wri (w3.setCell ⟨b, 1, none⟩ (.slice (some ⟨gp, 0, none⟩) 1 cp)) b base 0 [] 0 (.slice (some ⟨gp, 0, none⟩) 1 cp) SL hi LO ∧ gp < (w3.setCell ⟨b, 1, none⟩ (.slice (some ⟨gp, 0, none⟩) 1 cp)).heap.size ∧ w.heap.size < gp ∧ (w3.setCell ⟨b, 1, none⟩ (.slice (some ⟨gp, 0, none⟩) 1 cp)).heap[gp]? = w3.heap[gp]? ∧ w3.cell? ⟨gp, 0, none⟩ = some (.int .i64 0) ∧ (w3.setCell ⟨b, 1, none⟩ (.slice (some ⟨gp, 0, none⟩) 1 cp)).heap[w.heap.size]? = some (.cells #[.string nm, .int .i64 at_, .slice PA 0 pc, .int .i64 rt, .slice BA l.length bc, .int .i64 v0] 64 (0, 0)) ∧ (w3.setCell ⟨b, 1, none⟩ (.slice (some ⟨gp, 0, none⟩) 1 cp)).cell? ⟨b, 0, none⟩ = some (.slice none 0 0) := fun w3 gp cp q1 q2 q3 => by
    have hA3 : Below A.heap.size A w3 := (Below.refl _ _).grown q2 (Nat.le_refl _) (fun k hk => by simp at hk)
    have hw3 : Below w.heap.size w w3 := hbW.trans ((hbD.mono (by omega)).trans ((hbA.mono (by omega)).trans (hA3.mono (by omega))))
    have hW3 := h.below hw3 hb hbs
    have hp := WW.put (j := 1) (v := .slice (some ⟨gp, 0, none⟩) 1 cp) (fu' := 0) (hi' := hi) (ST' := .slice (some ⟨gp, 0, none⟩) 1 cp) (SL' := SL) (LO' := LO) hW3 hb (by have := hw3.size; omega) (fun V C => rfl)
    have hgl := (q1.lt gp rfl).2
    have h03 : w3.heap[w.heap.size]? = some (.cells #[.string nm, .int .i64 at_, .slice PA 0 pc, .int .i64 rt, .slice BA l.length bc, .int .i64 v0] 64 (0, 0)) := (hA3.block _ (by omega)).trans ((hbA.block _ (by omega)).trans ((hbD.block _ (by omega)).trans h0W))
    refine ⟨?_, (WW.of_below hw3 (by omega) hbs).trans hp.1, hp.2, by rw [set_size]; exact hgl, by omega, Below.heap_setCell _ _ _ _ (by show gp ≠ b; omega), q1.cellAt 0 (by omega), (Below.heap_setCell _ _ _ _ (by show w.heap.size ≠ b; omega)).trans h03, (World.cell?_setCell_other _ _ _ _ (by simp)).trans ((hw3.cell (p := ⟨b, 0, none⟩) (by show b < _; omega)).trans hV)⟩
    obtain ⟨V, C, hB, hown⟩ := hW3
    exact ⟨Lib.cell_of_heap hB 1, Lib.frozen_of_heap hB 1⟩
  obtain ⟨i0, hi0, hi1, hi2, hi3⟩ := info_parts infoInt
  have Hall := Lib.hid hall
  have Hi := Lib.hid hi0
  have HiA := Lib.hid hi1
  have HiB := Lib.hid hi2
  have HiC := Lib.hid hi3
  have HW := Lib.hid hW
  have HR := Lib.hid hR
  have HS := Lib.hid hS
  have HL := Lib.hid hl
  have hmm := @run_makeMap Tryz.prog
  rw [hA, hD, show W.drew.alloc (.cells #[.int .i64 0] 3) = (W.alloc (.cells #[.int .i64 0] 3)).drew from rfl] at HOW hsz oA Hall
  rw [hA, hD, show W.drew.alloc (.cells #[.int .i64 0] 3) = (W.alloc (.cells #[.int .i64 0] 3)).drew from rfl] at HNW
  rw [hD] at hH o1
  clear hall hW hD hA hDz hbD hWriD hbA hzA h0A hWriA hHA hi0 hi1 hi2 hi3 hbW hzW h0W hWriW hWWW h hR hS hl
  go_enter Tryz.func19, Tryz.ntmps19
  go_upto_region 1 with fail
  rw [← HW.out]
  refine wp_region_noPanic ?_
  refine wp_region_held_drew (S := fun _ => True) (by kernel_rfl) trivial (fun hHeld => ?_)
  refine wpAnyH_take (i := 0) (v := ?_) rfl (by kernel_rfl) (by kernel_rfl) (by kernel_rfl) (fun _ _ _ h => h) (Or.inl ⟨by rfl, ?_⟩) (by assumption) ?_
  rotate_left
  · (intro w hSw; (try dsimp only at hSw); first | (go_simp; done) | (go_simp; with_reducible rfl))
  try simp only [Act.put, List.setIfInBounds_toArray, List.set_cons_zero, List.set_cons_succ]
  refine wpAnyH_take (i := 1) (v := ?_) rfl (by kernel_rfl) (by kernel_rfl) (by kernel_rfl) (fun _ _ _ h => h) (Or.inl ⟨by rfl, ?_⟩) (by assumption) ?_
  rotate_left
  · (intro w hSw; (try dsimp only at hSw); first | (go_simp; done) | (go_simp; with_reducible rfl))
  try simp only [Act.put, List.setIfInBounds_toArray, List.set_cons_zero, List.set_cons_succ]
  refine wpAnyH_take (i := 2) (v := ?_) rfl (by kernel_rfl) (by kernel_rfl) (by kernel_rfl) (fun _ _ _ h => h) (Or.inl ⟨by rfl, ?_⟩) (by assumption) ?_
  rotate_left
  · (intro w hSw; (try dsimp only at hSw); first | (go_simp; done) | (go_simp; with_reducible rfl))
  try simp only [Act.put, List.setIfInBounds_toArray, List.set_cons_zero, List.set_cons_succ]
  refine wpAnyH_take (i := 3) (v := ?_) rfl (by kernel_rfl) (by kernel_rfl) (by kernel_rfl) (fun _ _ _ h => h) (Or.inl ⟨by rfl, ?_⟩) (by assumption) ?_
  rotate_left
  · (intro w hSw; (try dsimp only at hSw); first | (go_simp; done) | (go_simp; with_reducible rfl))
  try simp only [Act.put, List.setIfInBounds_toArray, List.set_cons_zero, List.set_cons_succ]
  refine wpAnyH_take (i := 5) (v := ?_) rfl (by kernel_rfl) (by kernel_rfl) (by kernel_rfl) (fun _ _ _ h => h) (Or.inl ⟨by rfl, ?_⟩) (by assumption) ?_
  rotate_left
  · (intro w hSw; (try dsimp only at hSw); first | (go_simp; done) | (go_simp; with_reducible rfl))
  try simp only [Act.put, List.setIfInBounds_toArray, List.set_cons_zero, List.set_cons_succ]
  refine wpAnyH_ready (rs := [4, 6]) (by kernel_rfl) (by simp) ?_
  refine AllReadyH.cons rfl (fun K hK => ?_) (AllReadyH.cons rfl (fun K hK => ?_) (AllReadyH.nil))
  · go_simp
    refine hK.out _ _ ?_ (fun hHeld => ?_)
    · ((try dsimp only); all_goals exact trivial)
    clear hK K
    try simp only [Act.put, List.setIfInBounds_toArray, List.set_cons_zero, List.set_cons_succ]
    refine wpAnyH_ready (rs := [6]) (by kernel_rfl) (by simp) ?_
    refine AllReadyH.cons rfl (fun K hK => ?_) (AllReadyH.nil)
    go_simp
    refine hH.mono ?_
    rintro e w2 ⟨rfl, rfl⟩
    refine hK.out _ _ ?_ (fun hHeld => ?_)
    · ((try dsimp only); all_goals exact trivial)
    clear hK K
    try simp only [Act.put, List.setIfInBounds_toArray, List.set_cons_zero, List.set_cons_succ]
    refine wpAnyH_ready (rs := [7]) (by kernel_rfl) (by simp) ?_
    refine AllReadyH.cons rfl (fun K hK => ?_) (AllReadyH.nil)
    go_simp
    refine hK.out _ _ ?_ (fun hHeld => ?_)
    · ((try dsimp only); all_goals exact trivial)
    clear hK K
    try simp only [Act.put, List.setIfInBounds_toArray, List.set_cons_zero, List.set_cons_succ]
    refine wpAnyH_ready (rs := [8]) (by kernel_rfl) (by simp) ?_
    refine AllReadyH.cons rfl (fun K hK => ?_) (AllReadyH.nil)
    refine step_append_lies _ rfl (.tmp 9) (.tmp 12) 39 rfl base 3 i0 (.int .i64 0) 1 8 Tryz.underlying39 Hi.out HiA.out HiB.out HiC.out rfl (by decide) (.slice none 0 0) 0 [] (by simp [Act.eval, Act.put]) HOW.out ⟨W.heap.size, 0, none⟩ 1 1 [.int .i64 0] (by simp [Act.eval, Act.put]) rfl HNW.out HO.out (by decide) (by unfold maxLen; omega) (by omega) hsz _ rfl ?_
    intro gp cp2 w3 hown2 hgrow hat hlt
    have hgp : gp = (W.alloc (.cells #[.int .i64 0] 3)).drew.heap.size := by
      rcases hat with h | h
      · simp [Value.ownBlock] at h
      · exact h
    obtain ⟨⟨o3, of3⟩, hWW4, hWri4, hg1, hg2, hg3, hg4, hbox, hv4⟩ := Hall.out w3 gp cp2 (by simpa using hown2) hgrow hgp
    have HWW4 := Lib.hid hWW4
    have HWri4 := Lib.hid hWri4
    have Hg1 := Lib.hid hg1
    have Hg2 := Lib.hid hg2
    have Hg4 := Lib.hid ((World.cell?_of_block (a := ⟨gp, 0, none⟩) hg3).trans hg4)
    have Hbox := Lib.hid hbox
    have Hv4 := Lib.hid hv4
    clear hv4 hown2 hgrow hat hlt hgp hWW4 hWri4 hg1 hg2 hg3 hg4 hbox
    refine hK.out _ _ ?_ (fun hHeld => ?_)
    · ((try dsimp only); all_goals exact trivial)
    clear hK K
    try simp only [Act.put, List.setIfInBounds_toArray, List.set_cons_zero, List.set_cons_succ]
    refine wpAnyH_take (i := 9) (v := ?_) rfl (by kernel_rfl) (by kernel_rfl) (by kernel_rfl) (fun _ _ _ h => h) (Or.inl ⟨by rfl, ?_⟩) (by assumption) ?_
    rotate_left
    · (intro w hSw; (try dsimp only at hSw); first | (go_simp; done) | (go_simp; with_reducible rfl))
    try simp only [Act.put, List.setIfInBounds_toArray, List.set_cons_zero, List.set_cons_succ]
    refine wpAnyH_take (i := 10) (v := ?_) rfl (by kernel_rfl) (by kernel_rfl) (by kernel_rfl) (fun _ _ _ h => h) (Or.inl ⟨by rfl, ?_⟩) (by assumption) ?_
    rotate_left
    · (intro w hSw; (try dsimp only at hSw); first | (go_simp; done) | (go_simp; with_reducible rfl))
    try simp only [Act.put, List.setIfInBounds_toArray, List.set_cons_zero, List.set_cons_succ]
    refine wpAnyH_ready (rs := [11]) (by kernel_rfl) (by simp) ?_
    refine AllReadyH.cons rfl (fun K hK => ?_) (AllReadyH.nil)
    go_simp
    refine hK.out _ _ ?_ (fun hHeld => ?_)
    · ((try dsimp only); all_goals exact trivial)
    clear hK K
    try simp only [Act.put, List.setIfInBounds_toArray, List.set_cons_zero, List.set_cons_succ]
    refine wpAnyH_done (by kernel_rfl) ?_ _
    refine NoPanic.normal ?_
    obtain ⟨w4, hw4⟩ : ∃ w4, w4 = w3.setCell ⟨b, 1, none⟩ (.slice (some ⟨gp, 0, none⟩) 1 cp2) := ⟨_, rfl⟩
    rw [← hw4] at HWW4 HWri4 Hg1 Hg4 Hbox Hv4
    rw [← hw4]
    clear hw4 o3 of3 oA o1
    have hz4 := HWW4.out.bb.size
    have hg1 := Hg1.out
    have hg2 := Hg2.out
    have hb5 : Below w4.heap.size w4 (w4.alloc (.map #[] 0)) := (Below.refl _ _).alloc (Nat.le_refl _) _
    have hz5 : (w4.alloc (.map #[] 0)).heap.size = w4.heap.size + 1 := by simp
    have hW5 := HWri4.out.below hb5 hb (by omega)
    have p3 := WW.put (j := 3) (v := .map (some w4.heap.size)) (fu' := 0) (hi' := hi) (ST' := .slice (some ⟨gp, 0, none⟩) 1 cp2) (SL' := .map (some w4.heap.size)) (LO' := LO) hW5 hb (by omega) (fun V C => rfl)
    have p4 := WW.put (j := 4) (v := .int .i64 0) (fu' := 0) (hi' := 0) (ST' := .slice (some ⟨gp, 0, none⟩) 1 cp2) (SL' := .map (some w4.heap.size)) (LO' := LO) p3.2 hb (by rw [set_size]; omega) (fun V C => rfl)
    have c34 : (w4.alloc (.map #[] 0)).cell? ⟨b, 3, none⟩ = some SL ∧ (w4.alloc (.map #[] 0)).cell? ⟨b, 4, none⟩ = some (.int .i64 hi) ∧ ∀ j, (w4.alloc (.map #[] 0)).frozen? ⟨b, j, none⟩ = false := by
      obtain ⟨V, C, hB, hown⟩ := hW5
      exact ⟨Lib.cell_of_heap hB 3, Lib.cell_of_heap hB 4, fun j => Lib.frozen_of_heap hB j⟩
    obtain ⟨c3, c4, cf⟩ := c34
    have f3 := cf 3
    have f4 := cf 4
    obtain ⟨w7, hw7⟩ : ∃ w7, w7 = ((w4.alloc (.map #[] 0)).setCell ⟨b, 3, none⟩ (.map (some w4.heap.size))).setCell ⟨b, 4, none⟩ (.int .i64 0) := ⟨_, rfl⟩
    have hWW7 : WW b base w w7 := by rw [hw7]; exact ((HWW4.out.trans (WW.of_below hb5 (by omega) (by omega))).trans p3.1).trans p4.1
    have hWr7 : Wri w7 b base 0 [] 0 (.slice (some ⟨gp, 0, none⟩) 1 cp2) (.map (some w4.heap.size)) 0 LO := by rw [hw7]; exact p4.2
    have hz7 : w7.heap.size = w4.heap.size + 1 := by rw [hw7, set_size, set_size]; exact hz5
    have hk7 : ∀ k, k < w4.heap.size → k ≠ b → w7.heap[k]? = w4.heap[k]? := fun k h1 h2 => by rw [hw7]; exact (Below.heap_setCell _ _ _ _ (by exact h2)).trans ((Below.heap_setCell _ _ _ _ (by exact h2)).trans (hb5.block k h1))
    have hbox7 := (hk7 w.heap.size (by omega) (by omega)).trans Hbox.out
    have hg7 : w7.cell? ⟨gp, 0, none⟩ = some (.int .i64 0) := (World.cell?_of_block (a := ⟨gp, 0, none⟩) (hk7 gp (by omega) (by omega))).trans Hg4.out
    have hv7 : w7.cell? ⟨b, 0, none⟩ = some (.slice none 0 0) := by
      rw [hw7]
      exact (World.cell?_setCell_other _ _ _ _ (by simp)).trans ((World.cell?_setCell_other _ _ _ _ (by simp)).trans ((hb5.cell (p := ⟨b, 0, none⟩) (by show b < _; omega)).trans Hv4.out))
    have hno7 : ∀ k, ¬ isOwn w7 b k := fun k q => by
      obtain ⟨n', C', q⟩ := q
      have e := Option.some.inj (hv7.symm.trans q)
      injection e with e1 _ _
      cases e1
    have hBl := w_block l HL.out hlen b base 0 [] 0 (.slice (some ⟨gp, 0, none⟩) 1 cp2) (.map (some w4.heap.size)) LO S BA bc w7 hb (by omega) (by omega) hWr7 HS.out (RdSs.keep (w' := w7) (fun p hp => hWW7.bb.cell (HS.out _ hp).1 (HS.out _ hp).2) _ _ _ HR.out)
    have HWW7 := Lib.hid hWW7
    have Hw7 := Lib.hid hw7
    have Hno7 := Lib.hid hno7
    have Hg7 := Lib.hid hg7
    have x2 := Lib.cell_of_heap hbox7 2
    have x4 := Lib.cell_of_heap hbox7 4
    clear hWW7 hWr7 hk7 hbox7 hg7 hno7 hv7 hw7 p3 p4 hW5 cf HWW4 HWri4 Hg4 Hbox Hv4 hb5
    go_upto_region 3 with fail
    rw [← Hw7.out]
    clear c3 c4 f3 f4
    go_wp2
    refine wp_loop_rounds 1 ?_
    rw [rounds_succ]
    go_wp2_with (go_at_call 41; refine hBl.mono ?_)
    clear hBl x2 x4
    rintro rr w8 ⟨rfl, hb8, hW8⟩
    have hz8 := hb8.bb.size
    have hY := w_add b base (0 + wSNs l) ([] ++ wSs l) 0 0 1 0 0 0 (.slice (some ⟨gp, 0, none⟩) 1 cp2) (.map (some w4.heap.size)) LO w8 hb (by omega) (by omega) hW8
    have g8 : w8.cell? ⟨gp, 0, none⟩ = some (.int .i64 0) := (World.cell?_of_block (a := ⟨gp, 0, none⟩) (hb8.far gp (by omega) (by omega) (Hno7.out gp))).trans Hg7.out
    have HB8 := Lib.hid hb8
    have Hno8 := Lib.hid (fun q => Hno7.out gp (hb8.own gp (by omega) q) : ¬ isOwn w8 b gp)
    clear hb8 hW8
    go_wp2_with (go_at_call 42; refine hY.mono ?_)
    clear hY
    rintro rr w9 ⟨rfl, hb9, hW9⟩
    have hz9 := hb9.bb.size
    have hY := w_add b base (0 + wSNs l + 1) ([] ++ wSs l ++ [.int .i64 1, .int .i64 0, .int .i64 0, .int .i64 0]) 0 0 10 0 0 0 (.slice (some ⟨gp, 0, none⟩) 1 cp2) (.map (some w4.heap.size)) LO w9 hb (by omega) (by omega) hW9
    have g9 : w9.cell? ⟨gp, 0, none⟩ = some (.int .i64 0) := (World.cell?_of_block (a := ⟨gp, 0, none⟩) (hb9.far gp (by omega) (by omega) Hno8.out)).trans g8
    have HB9 := Lib.hid hb9
    have Hno9 := Lib.hid (fun q => Hno8.out (hb9.own gp (by omega) q) : ¬ isOwn w9 b gp)
    clear hb9 hW9 g8
    go_wp2_with (go_at_call 42; refine hY.mono ?_)
    clear hY
    rintro rr w10 ⟨rfl, hb10, hW10⟩
    have hz10 := hb10.bb.size
    have g10 : w10.cell? ⟨gp, 0, none⟩ = some (.int .i64 0) := (World.cell?_of_block (a := ⟨gp, 0, none⟩) (hb10.far gp (by omega) (by omega) Hno9.out)).trans g9
    have HB10 := Lib.hid hb10
    have HW10 := Lib.hid hW10
    clear hb10 hW10 g9
    go_wp2
    go_end0
    have hE := HW10.out
    rw [Nat.zero_add, List.nil_append] at hE
    exact ⟨rfl, ((HWW7.out.trans HB8.out).trans HB9.out).trans HB10.out, gp, cp2, _, by omega, g10, hE⟩
  · go_simp
    refine hH.mono ?_
    rintro e w2 ⟨rfl, rfl⟩
    refine hK.out _ _ ?_ (fun hHeld => ?_)
    · ((try dsimp only); all_goals exact trivial)
    clear hK K
    try simp only [Act.put, List.setIfInBounds_toArray, List.set_cons_zero, List.set_cons_succ]
    refine wpAnyH_ready (rs := [4, 7]) (by kernel_rfl) (by simp) ?_
    refine AllReadyH.cons rfl (fun K hK => ?_) (AllReadyH.cons rfl (fun K hK => ?_) (AllReadyH.nil))
    · go_simp
      refine hK.out _ _ ?_ (fun hHeld => ?_)
      · ((try dsimp only); all_goals exact trivial)
      clear hK K
      try simp only [Act.put, List.setIfInBounds_toArray, List.set_cons_zero, List.set_cons_succ]
      refine wpAnyH_ready (rs := [7]) (by kernel_rfl) (by simp) ?_
      refine AllReadyH.cons rfl (fun K hK => ?_) (AllReadyH.nil)
      go_simp
      refine hK.out _ _ ?_ (fun hHeld => ?_)
      · ((try dsimp only); all_goals exact trivial)
      clear hK K
      try simp only [Act.put, List.setIfInBounds_toArray, List.set_cons_zero, List.set_cons_succ]
      refine wpAnyH_ready (rs := [8]) (by kernel_rfl) (by simp) ?_
      refine AllReadyH.cons rfl (fun K hK => ?_) (AllReadyH.nil)
      refine step_append_lies _ rfl (.tmp 9) (.tmp 12) 39 rfl base 3 i0 (.int .i64 0) 1 8 Tryz.underlying39 Hi.out HiA.out HiB.out HiC.out rfl (by decide) (.slice none 0 0) 0 [] (by simp [Act.eval, Act.put]) HOW.out ⟨W.heap.size, 0, none⟩ 1 1 [.int .i64 0] (by simp [Act.eval, Act.put]) rfl HNW.out HO.out (by decide) (by unfold maxLen; omega) (by omega) hsz _ rfl ?_
      intro gp cp2 w3 hown2 hgrow hat hlt
      have hgp : gp = (W.alloc (.cells #[.int .i64 0] 3)).drew.heap.size := by
        rcases hat with h | h
        · simp [Value.ownBlock] at h
        · exact h
      obtain ⟨⟨o3, of3⟩, hWW4, hWri4, hg1, hg2, hg3, hg4, hbox, hv4⟩ := Hall.out w3 gp cp2 (by simpa using hown2) hgrow hgp
      have HWW4 := Lib.hid hWW4
      have HWri4 := Lib.hid hWri4
      have Hg1 := Lib.hid hg1
      have Hg2 := Lib.hid hg2
      have Hg4 := Lib.hid ((World.cell?_of_block (a := ⟨gp, 0, none⟩) hg3).trans hg4)
      have Hbox := Lib.hid hbox
      have Hv4 := Lib.hid hv4
      clear hv4 hown2 hgrow hat hlt hgp hWW4 hWri4 hg1 hg2 hg3 hg4 hbox
      refine hK.out _ _ ?_ (fun hHeld => ?_)
      · ((try dsimp only); all_goals exact trivial)
      clear hK K
      try simp only [Act.put, List.setIfInBounds_toArray, List.set_cons_zero, List.set_cons_succ]
      refine wpAnyH_take (i := 9) (v := ?_) rfl (by kernel_rfl) (by kernel_rfl) (by kernel_rfl) (fun _ _ _ h => h) (Or.inl ⟨by rfl, ?_⟩) (by assumption) ?_
      rotate_left
      · (intro w hSw; (try dsimp only at hSw); first | (go_simp; done) | (go_simp; with_reducible rfl))
      try simp only [Act.put, List.setIfInBounds_toArray, List.set_cons_zero, List.set_cons_succ]
      refine wpAnyH_take (i := 10) (v := ?_) rfl (by kernel_rfl) (by kernel_rfl) (by kernel_rfl) (fun _ _ _ h => h) (Or.inl ⟨by rfl, ?_⟩) (by assumption) ?_
      rotate_left
      · (intro w hSw; (try dsimp only at hSw); first | (go_simp; done) | (go_simp; with_reducible rfl))
      try simp only [Act.put, List.setIfInBounds_toArray, List.set_cons_zero, List.set_cons_succ]
      refine wpAnyH_ready (rs := [11]) (by kernel_rfl) (by simp) ?_
      refine AllReadyH.cons rfl (fun K hK => ?_) (AllReadyH.nil)
      go_simp
      refine hK.out _ _ ?_ (fun hHeld => ?_)
      · ((try dsimp only); all_goals exact trivial)
      clear hK K
      try simp only [Act.put, List.setIfInBounds_toArray, List.set_cons_zero, List.set_cons_succ]
      refine wpAnyH_done (by kernel_rfl) ?_ _
      refine NoPanic.normal ?_
      obtain ⟨w4, hw4⟩ : ∃ w4, w4 = w3.setCell ⟨b, 1, none⟩ (.slice (some ⟨gp, 0, none⟩) 1 cp2) := ⟨_, rfl⟩
      rw [← hw4] at HWW4 HWri4 Hg1 Hg4 Hbox Hv4
      rw [← hw4]
      clear hw4 o3 of3 oA o1
      have hz4 := HWW4.out.bb.size
      have hg1 := Hg1.out
      have hg2 := Hg2.out
      have hb5 : Below w4.heap.size w4 (w4.alloc (.map #[] 0)) := (Below.refl _ _).alloc (Nat.le_refl _) _
      have hz5 : (w4.alloc (.map #[] 0)).heap.size = w4.heap.size + 1 := by simp
      have hW5 := HWri4.out.below hb5 hb (by omega)
      have p3 := WW.put (j := 3) (v := .map (some w4.heap.size)) (fu' := 0) (hi' := hi) (ST' := .slice (some ⟨gp, 0, none⟩) 1 cp2) (SL' := .map (some w4.heap.size)) (LO' := LO) hW5 hb (by omega) (fun V C => rfl)
      have p4 := WW.put (j := 4) (v := .int .i64 0) (fu' := 0) (hi' := 0) (ST' := .slice (some ⟨gp, 0, none⟩) 1 cp2) (SL' := .map (some w4.heap.size)) (LO' := LO) p3.2 hb (by rw [set_size]; omega) (fun V C => rfl)
      have c34 : (w4.alloc (.map #[] 0)).cell? ⟨b, 3, none⟩ = some SL ∧ (w4.alloc (.map #[] 0)).cell? ⟨b, 4, none⟩ = some (.int .i64 hi) ∧ ∀ j, (w4.alloc (.map #[] 0)).frozen? ⟨b, j, none⟩ = false := by
        obtain ⟨V, C, hB, hown⟩ := hW5
        exact ⟨Lib.cell_of_heap hB 3, Lib.cell_of_heap hB 4, fun j => Lib.frozen_of_heap hB j⟩
      obtain ⟨c3, c4, cf⟩ := c34
      have f3 := cf 3
      have f4 := cf 4
      obtain ⟨w7, hw7⟩ : ∃ w7, w7 = ((w4.alloc (.map #[] 0)).setCell ⟨b, 3, none⟩ (.map (some w4.heap.size))).setCell ⟨b, 4, none⟩ (.int .i64 0) := ⟨_, rfl⟩
      have hWW7 : WW b base w w7 := by rw [hw7]; exact ((HWW4.out.trans (WW.of_below hb5 (by omega) (by omega))).trans p3.1).trans p4.1
      have hWr7 : Wri w7 b base 0 [] 0 (.slice (some ⟨gp, 0, none⟩) 1 cp2) (.map (some w4.heap.size)) 0 LO := by rw [hw7]; exact p4.2
      have hz7 : w7.heap.size = w4.heap.size + 1 := by rw [hw7, set_size, set_size]; exact hz5
      have hk7 : ∀ k, k < w4.heap.size → k ≠ b → w7.heap[k]? = w4.heap[k]? := fun k h1 h2 => by rw [hw7]; exact (Below.heap_setCell _ _ _ _ (by exact h2)).trans ((Below.heap_setCell _ _ _ _ (by exact h2)).trans (hb5.block k h1))
      have hbox7 := (hk7 w.heap.size (by omega) (by omega)).trans Hbox.out
      have hg7 : w7.cell? ⟨gp, 0, none⟩ = some (.int .i64 0) := (World.cell?_of_block (a := ⟨gp, 0, none⟩) (hk7 gp (by omega) (by omega))).trans Hg4.out
      have hv7 : w7.cell? ⟨b, 0, none⟩ = some (.slice none 0 0) := by
        rw [hw7]
        exact (World.cell?_setCell_other _ _ _ _ (by simp)).trans ((World.cell?_setCell_other _ _ _ _ (by simp)).trans ((hb5.cell (p := ⟨b, 0, none⟩) (by show b < _; omega)).trans Hv4.out))
      have hno7 : ∀ k, ¬ isOwn w7 b k := fun k q => by
        obtain ⟨n', C', q⟩ := q
        have e := Option.some.inj (hv7.symm.trans q)
        injection e with e1 _ _
        cases e1
      have hBl := w_block l HL.out hlen b base 0 [] 0 (.slice (some ⟨gp, 0, none⟩) 1 cp2) (.map (some w4.heap.size)) LO S BA bc w7 hb (by omega) (by omega) hWr7 HS.out (RdSs.keep (w' := w7) (fun p hp => hWW7.bb.cell (HS.out _ hp).1 (HS.out _ hp).2) _ _ _ HR.out)
      have HWW7 := Lib.hid hWW7
      have Hw7 := Lib.hid hw7
      have Hno7 := Lib.hid hno7
      have Hg7 := Lib.hid hg7
      have x2 := Lib.cell_of_heap hbox7 2
      have x4 := Lib.cell_of_heap hbox7 4
      clear hWW7 hWr7 hk7 hbox7 hg7 hno7 hv7 hw7 p3 p4 hW5 cf HWW4 HWri4 Hg4 Hbox Hv4 hb5
      go_upto_region 3 with fail
      rw [← Hw7.out]
      clear c3 c4 f3 f4
      go_wp2
      refine wp_loop_rounds 1 ?_
      rw [rounds_succ]
      go_wp2_with (go_at_call 41; refine hBl.mono ?_)
      clear hBl x2 x4
      rintro rr w8 ⟨rfl, hb8, hW8⟩
      have hz8 := hb8.bb.size
      have hY := w_add b base (0 + wSNs l) ([] ++ wSs l) 0 0 1 0 0 0 (.slice (some ⟨gp, 0, none⟩) 1 cp2) (.map (some w4.heap.size)) LO w8 hb (by omega) (by omega) hW8
      have g8 : w8.cell? ⟨gp, 0, none⟩ = some (.int .i64 0) := (World.cell?_of_block (a := ⟨gp, 0, none⟩) (hb8.far gp (by omega) (by omega) (Hno7.out gp))).trans Hg7.out
      have HB8 := Lib.hid hb8
      have Hno8 := Lib.hid (fun q => Hno7.out gp (hb8.own gp (by omega) q) : ¬ isOwn w8 b gp)
      clear hb8 hW8
      go_wp2_with (go_at_call 42; refine hY.mono ?_)
      clear hY
      rintro rr w9 ⟨rfl, hb9, hW9⟩
      have hz9 := hb9.bb.size
      have hY := w_add b base (0 + wSNs l + 1) ([] ++ wSs l ++ [.int .i64 1, .int .i64 0, .int .i64 0, .int .i64 0]) 0 0 10 0 0 0 (.slice (some ⟨gp, 0, none⟩) 1 cp2) (.map (some w4.heap.size)) LO w9 hb (by omega) (by omega) hW9
      have g9 : w9.cell? ⟨gp, 0, none⟩ = some (.int .i64 0) := (World.cell?_of_block (a := ⟨gp, 0, none⟩) (hb9.far gp (by omega) (by omega) Hno8.out)).trans g8
      have HB9 := Lib.hid hb9
      have Hno9 := Lib.hid (fun q => Hno8.out (hb9.own gp (by omega) q) : ¬ isOwn w9 b gp)
      clear hb9 hW9 g8
      go_wp2_with (go_at_call 42; refine hY.mono ?_)
      clear hY
      rintro rr w10 ⟨rfl, hb10, hW10⟩
      have hz10 := hb10.bb.size
      have g10 : w10.cell? ⟨gp, 0, none⟩ = some (.int .i64 0) := (World.cell?_of_block (a := ⟨gp, 0, none⟩) (hb10.far gp (by omega) (by omega) Hno9.out)).trans g9
      have HB10 := Lib.hid hb10
      have HW10 := Lib.hid hW10
      clear hb10 hW10 g9
      go_wp2
      go_end0
      have hE := HW10.out
      rw [Nat.zero_add, List.nil_append] at hE
      exact ⟨rfl, ((HWW7.out.trans HB8.out).trans HB9.out).trans HB10.out, gp, cp2, _, by omega, g10, hE⟩
    · go_simp
      refine hK.out _ _ ?_ (fun hHeld => ?_)
      · ((try dsimp only); all_goals exact trivial)
      clear hK K
      try simp only [Act.put, List.setIfInBounds_toArray, List.set_cons_zero, List.set_cons_succ]
      refine wpAnyH_ready (rs := [4]) (by kernel_rfl) (by simp) ?_
      refine AllReadyH.cons rfl (fun K hK => ?_) (AllReadyH.nil)
      go_simp
      refine hK.out _ _ ?_ (fun hHeld => ?_)
      · ((try dsimp only); all_goals exact trivial)
      clear hK K
      try simp only [Act.put, List.setIfInBounds_toArray, List.set_cons_zero, List.set_cons_succ]
      refine wpAnyH_ready (rs := [8]) (by kernel_rfl) (by simp) ?_
      refine AllReadyH.cons rfl (fun K hK => ?_) (AllReadyH.nil)
      refine step_append_lies _ rfl (.tmp 9) (.tmp 12) 39 rfl base 3 i0 (.int .i64 0) 1 8 Tryz.underlying39 Hi.out HiA.out HiB.out HiC.out rfl (by decide) (.slice none 0 0) 0 [] (by simp [Act.eval, Act.put]) HOW.out ⟨W.heap.size, 0, none⟩ 1 1 [.int .i64 0] (by simp [Act.eval, Act.put]) rfl HNW.out HO.out (by decide) (by unfold maxLen; omega) (by omega) hsz _ rfl ?_
      intro gp cp2 w3 hown2 hgrow hat hlt
      have hgp : gp = (W.alloc (.cells #[.int .i64 0] 3)).drew.heap.size := by
        rcases hat with h | h
        · simp [Value.ownBlock] at h
        · exact h
      obtain ⟨⟨o3, of3⟩, hWW4, hWri4, hg1, hg2, hg3, hg4, hbox, hv4⟩ := Hall.out w3 gp cp2 (by simpa using hown2) hgrow hgp
      have HWW4 := Lib.hid hWW4
      have HWri4 := Lib.hid hWri4
      have Hg1 := Lib.hid hg1
      have Hg2 := Lib.hid hg2
      have Hg4 := Lib.hid ((World.cell?_of_block (a := ⟨gp, 0, none⟩) hg3).trans hg4)
      have Hbox := Lib.hid hbox
      have Hv4 := Lib.hid hv4
      clear hv4 hown2 hgrow hat hlt hgp hWW4 hWri4 hg1 hg2 hg3 hg4 hbox
      refine hK.out _ _ ?_ (fun hHeld => ?_)
      · ((try dsimp only); all_goals exact trivial)
      clear hK K
      try simp only [Act.put, List.setIfInBounds_toArray, List.set_cons_zero, List.set_cons_succ]
      refine wpAnyH_take (i := 9) (v := ?_) rfl (by kernel_rfl) (by kernel_rfl) (by kernel_rfl) (fun _ _ _ h => h) (Or.inl ⟨by rfl, ?_⟩) (by assumption) ?_
      rotate_left
      · (intro w hSw; (try dsimp only at hSw); first | (go_simp; done) | (go_simp; with_reducible rfl))
      try simp only [Act.put, List.setIfInBounds_toArray, List.set_cons_zero, List.set_cons_succ]
      refine wpAnyH_take (i := 10) (v := ?_) rfl (by kernel_rfl) (by kernel_rfl) (by kernel_rfl) (fun _ _ _ h => h) (Or.inl ⟨by rfl, ?_⟩) (by assumption) ?_
      rotate_left
      · (intro w hSw; (try dsimp only at hSw); first | (go_simp; done) | (go_simp; with_reducible rfl))
      try simp only [Act.put, List.setIfInBounds_toArray, List.set_cons_zero, List.set_cons_succ]
      refine wpAnyH_ready (rs := [11]) (by kernel_rfl) (by simp) ?_
      refine AllReadyH.cons rfl (fun K hK => ?_) (AllReadyH.nil)
      go_simp
      refine hK.out _ _ ?_ (fun hHeld => ?_)
      · ((try dsimp only); all_goals exact trivial)
      clear hK K
      try simp only [Act.put, List.setIfInBounds_toArray, List.set_cons_zero, List.set_cons_succ]
      refine wpAnyH_done (by kernel_rfl) ?_ _
      refine NoPanic.normal ?_
      obtain ⟨w4, hw4⟩ : ∃ w4, w4 = w3.setCell ⟨b, 1, none⟩ (.slice (some ⟨gp, 0, none⟩) 1 cp2) := ⟨_, rfl⟩
      rw [← hw4] at HWW4 HWri4 Hg1 Hg4 Hbox Hv4
      rw [← hw4]
      clear hw4 o3 of3 oA o1
      have hz4 := HWW4.out.bb.size
      have hg1 := Hg1.out
      have hg2 := Hg2.out
      have hb5 : Below w4.heap.size w4 (w4.alloc (.map #[] 0)) := (Below.refl _ _).alloc (Nat.le_refl _) _
      have hz5 : (w4.alloc (.map #[] 0)).heap.size = w4.heap.size + 1 := by simp
      have hW5 := HWri4.out.below hb5 hb (by omega)
      have p3 := WW.put (j := 3) (v := .map (some w4.heap.size)) (fu' := 0) (hi' := hi) (ST' := .slice (some ⟨gp, 0, none⟩) 1 cp2) (SL' := .map (some w4.heap.size)) (LO' := LO) hW5 hb (by omega) (fun V C => rfl)
      have p4 := WW.put (j := 4) (v := .int .i64 0) (fu' := 0) (hi' := 0) (ST' := .slice (some ⟨gp, 0, none⟩) 1 cp2) (SL' := .map (some w4.heap.size)) (LO' := LO) p3.2 hb (by rw [set_size]; omega) (fun V C => rfl)
      have c34 : (w4.alloc (.map #[] 0)).cell? ⟨b, 3, none⟩ = some SL ∧ (w4.alloc (.map #[] 0)).cell? ⟨b, 4, none⟩ = some (.int .i64 hi) ∧ ∀ j, (w4.alloc (.map #[] 0)).frozen? ⟨b, j, none⟩ = false := by
        obtain ⟨V, C, hB, hown⟩ := hW5
        exact ⟨Lib.cell_of_heap hB 3, Lib.cell_of_heap hB 4, fun j => Lib.frozen_of_heap hB j⟩
      obtain ⟨c3, c4, cf⟩ := c34
      have f3 := cf 3
      have f4 := cf 4
      obtain ⟨w7, hw7⟩ : ∃ w7, w7 = ((w4.alloc (.map #[] 0)).setCell ⟨b, 3, none⟩ (.map (some w4.heap.size))).setCell ⟨b, 4, none⟩ (.int .i64 0) := ⟨_, rfl⟩
      have hWW7 : WW b base w w7 := by rw [hw7]; exact ((HWW4.out.trans (WW.of_below hb5 (by omega) (by omega))).trans p3.1).trans p4.1
      have hWr7 : Wri w7 b base 0 [] 0 (.slice (some ⟨gp, 0, none⟩) 1 cp2) (.map (some w4.heap.size)) 0 LO := by rw [hw7]; exact p4.2
      have hz7 : w7.heap.size = w4.heap.size + 1 := by rw [hw7, set_size, set_size]; exact hz5
      have hk7 : ∀ k, k < w4.heap.size → k ≠ b → w7.heap[k]? = w4.heap[k]? := fun k h1 h2 => by rw [hw7]; exact (Below.heap_setCell _ _ _ _ (by exact h2)).trans ((Below.heap_setCell _ _ _ _ (by exact h2)).trans (hb5.block k h1))
      have hbox7 := (hk7 w.heap.size (by omega) (by omega)).trans Hbox.out
      have hg7 : w7.cell? ⟨gp, 0, none⟩ = some (.int .i64 0) := (World.cell?_of_block (a := ⟨gp, 0, none⟩) (hk7 gp (by omega) (by omega))).trans Hg4.out
      have hv7 : w7.cell? ⟨b, 0, none⟩ = some (.slice none 0 0) := by
        rw [hw7]
        exact (World.cell?_setCell_other _ _ _ _ (by simp)).trans ((World.cell?_setCell_other _ _ _ _ (by simp)).trans ((hb5.cell (p := ⟨b, 0, none⟩) (by show b < _; omega)).trans Hv4.out))
      have hno7 : ∀ k, ¬ isOwn w7 b k := fun k q => by
        obtain ⟨n', C', q⟩ := q
        have e := Option.some.inj (hv7.symm.trans q)
        injection e with e1 _ _
        cases e1
      have hBl := w_block l HL.out hlen b base 0 [] 0 (.slice (some ⟨gp, 0, none⟩) 1 cp2) (.map (some w4.heap.size)) LO S BA bc w7 hb (by omega) (by omega) hWr7 HS.out (RdSs.keep (w' := w7) (fun p hp => hWW7.bb.cell (HS.out _ hp).1 (HS.out _ hp).2) _ _ _ HR.out)
      have HWW7 := Lib.hid hWW7
      have Hw7 := Lib.hid hw7
      have Hno7 := Lib.hid hno7
      have Hg7 := Lib.hid hg7
      have x2 := Lib.cell_of_heap hbox7 2
      have x4 := Lib.cell_of_heap hbox7 4
      clear hWW7 hWr7 hk7 hbox7 hg7 hno7 hv7 hw7 p3 p4 hW5 cf HWW4 HWri4 Hg4 Hbox Hv4 hb5
      go_upto_region 3 with fail
      rw [← Hw7.out]
      clear c3 c4 f3 f4
      go_wp2
      refine wp_loop_rounds 1 ?_
      rw [rounds_succ]
      go_wp2_with (go_at_call 41; refine hBl.mono ?_)
      clear hBl x2 x4
      rintro rr w8 ⟨rfl, hb8, hW8⟩
      have hz8 := hb8.bb.size
      have hY := w_add b base (0 + wSNs l) ([] ++ wSs l) 0 0 1 0 0 0 (.slice (some ⟨gp, 0, none⟩) 1 cp2) (.map (some w4.heap.size)) LO w8 hb (by omega) (by omega) hW8
      have g8 : w8.cell? ⟨gp, 0, none⟩ = some (.int .i64 0) := (World.cell?_of_block (a := ⟨gp, 0, none⟩) (hb8.far gp (by omega) (by omega) (Hno7.out gp))).trans Hg7.out
      have HB8 := Lib.hid hb8
      have Hno8 := Lib.hid (fun q => Hno7.out gp (hb8.own gp (by omega) q) : ¬ isOwn w8 b gp)
      clear hb8 hW8
      go_wp2_with (go_at_call 42; refine hY.mono ?_)
      clear hY
      rintro rr w9 ⟨rfl, hb9, hW9⟩
      have hz9 := hb9.bb.size
      have hY := w_add b base (0 + wSNs l + 1) ([] ++ wSs l ++ [.int .i64 1, .int .i64 0, .int .i64 0, .int .i64 0]) 0 0 10 0 0 0 (.slice (some ⟨gp, 0, none⟩) 1 cp2) (.map (some w4.heap.size)) LO w9 hb (by omega) (by omega) hW9
      have g9 : w9.cell? ⟨gp, 0, none⟩ = some (.int .i64 0) := (World.cell?_of_block (a := ⟨gp, 0, none⟩) (hb9.far gp (by omega) (by omega) Hno8.out)).trans g8
      have HB9 := Lib.hid hb9
      have Hno9 := Lib.hid (fun q => Hno8.out (hb9.own gp (by omega) q) : ¬ isOwn w9 b gp)
      clear hb9 hW9 g8
      go_wp2_with (go_at_call 42; refine hY.mono ?_)
      clear hY
      rintro rr w10 ⟨rfl, hb10, hW10⟩
      have hz10 := hb10.bb.size
      have g10 : w10.cell? ⟨gp, 0, none⟩ = some (.int .i64 0) := (World.cell?_of_block (a := ⟨gp, 0, none⟩) (hb10.far gp (by omega) (by omega) Hno9.out)).trans g9
      have HB10 := Lib.hid hb10
      have HW10 := Lib.hid hW10
      clear hb10 hW10 g9
      go_wp2
      go_end0
      have hE := HW10.out
      rw [Nat.zero_add, List.nil_append] at hE
      exact ⟨rfl, ((HWW7.out.trans HB8.out).trans HB9.out).trans HB10.out, gp, cp2, _, by omega, g10, hE⟩
end Go.Proofs.YtlgpbllkhbgppaaGreatDoor
namespace Go.Proofs.YtlgpbllkhbgppaaGreatDoor
set_option linter.unusedVariables false
set_option linter.unusedSimpArgs false
open Go.RowKit

set_option maxRecDepth 100000 in
set_option maxHeartbeats 4000000 in
theorem take_short (p : Nat) (left f : Int) (w : World) (hc : w.cell? ⟨p, 1, none⟩ = some (.int .i64 left)) (hf : w.frozen? ⟨p, 1, none⟩ = false) (h : left < f) :
    Calls Tryz.prog 21 #[.pointer (some ⟨p, 0, none⟩), .int .i64 f] w fun e w' => e = endE 0 0 ∧ w' = w.setCell ⟨p, 1, none⟩ (.int .i64 0) := by
  go_enter Tryz.func21, Tryz.ntmps21
  go_wp2
  exact ⟨rfl, rfl, rfl⟩
set_option maxRecDepth 100000 in
set_option maxHeartbeats 4000000 in
theorem take_ok (p : Nat) (left f : Int) (w : World) (hc : w.cell? ⟨p, 1, none⟩ = some (.int .i64 left)) (hf : w.frozen? ⟨p, 1, none⟩ = false) (h : f ≤ left) (h0 : 0 ≤ f) (h1 : left ≤ 9223372036854775807) :
    Calls Tryz.prog 21 #[.pointer (some ⟨p, 0, none⟩), .int .i64 f] w fun e w' => e = .returned (.tuple #[]) ∧ w' = w.setCell ⟨p, 1, none⟩ (.int .i64 (left - f)) := by
  go_enter Tryz.func21, Tryz.ntmps21
  go_wp2
  go_end0
  exact ⟨rfl, rfl⟩
set_option maxRecDepth 100000 in
set_option maxHeartbeats 4000000 in
theorem trap_c (k : Int) (w : World) : Calls Tryz.prog 76 #[.int .i64 k] w fun e w' => e = endE 2 k ∧ w' = w := by
  go_enter Tryz.func76, Tryz.ntmps76
  go_wp2
  exact ⟨rfl, rfl, rfl⟩
theorem pop_end {w W W' : World} {p : Nat} {cs : Array Value} {T : TypeId} {u : Value} (hbW : Below w.heap.size w W) (hp : w.heap[p]? = some (.cells cs T (0, 0))) (hfar : ∀ x, x ≠ w.heap.size → W'.heap[x]? = (W.setCell ⟨p, 13, none⟩ u).heap[x]?) (hbel : Below w.heap.size (W.setCell ⟨p, 13, none⟩ u) W') : But p w W' ∧ W'.heap[p]? = some (.cells (cs.setIfInBounds 13 u) T (0, 0)) := by
  have hpl := heap_lt hp
  have h1 : But p w (W.setCell ⟨p, 13, none⟩ u) := (But.of_below (g := p) hbW).setCell (p := ⟨p, 13, none⟩) (Or.inl rfl) _
  exact ⟨⟨hbel.os.trans h1.os, hbel.tape.trans h1.tape, hbel.output.trans h1.output, Nat.le_trans h1.size hbel.size, fun k h2 h3 => (hfar k (by omega)).trans (h1.block k h2 h3)⟩, (hfar p (by omega)).trans (heap_set ((hbW.block p hpl).trans hp) 13 u)⟩
set_option maxRecDepth 100000 in
set_option maxHeartbeats 4000000 in
theorem pop_c (p sb n c : Nat) (v : Int) (cs : Array Value) (T : TypeId) (w : World) (hp : w.heap[p]? = some (.cells cs T (0, 0))) (hcs : cs[13]? = some (.slice (some ⟨sb, 0, none⟩) (n + 1) c)) (hc : n + 1 ≤ c) (hn : n ≤ 1000000) (hsb : sb < w.heap.size) (h0 : w.cell? ⟨sb, n * 2, none⟩ = some (.int .i64 v)) (h1 : w.cell? ⟨sb, n * 2 + 1, none⟩ = some (.pointer none)) :
    Calls Tryz.prog 23 #[.pointer (some ⟨p, 0, none⟩)] w fun e w' => e = .returned (.agg #[.int .i64 v, .pointer none]) ∧ But p w w' ∧ w'.heap[p]? = some (.cells (cs.setIfInBounds 13 (.slice (some ⟨sb, 0, none⟩) n c)) T (0, 0)) := by
  have hpl := heap_lt hp
  obtain ⟨W, hW, hbW, hzW, h0W, h1W⟩ := two_al w #[.int .i64 0, .pointer none] #[.int .i64 v, .pointer none] 82 82
  have c13 : w.cell? ⟨p, 13, none⟩ = some (.slice (some ⟨sb, 0, none⟩) (n + 1) c) := (Lib.cell_of_heap hp 13).trans hcs
  have c13a : (w.alloc (.cells #[.int .i64 0, .pointer none] 82)).cell? ⟨p, 13, none⟩ = some (.slice (some ⟨sb, 0, none⟩) (n + 1) c) := (World.cell?_alloc_lt _ _ _ hpl).trans c13
  have x0 : (w.alloc (.cells #[.int .i64 0, .pointer none] 82)).cell? ⟨sb, n * 2, none⟩ = some (.int .i64 v) := (World.cell?_alloc_lt _ _ _ hsb).trans h0
  have x1 : (w.alloc (.cells #[.int .i64 0, .pointer none] 82)).cell? ⟨sb, n * 2 + 1, none⟩ = some (.pointer none) := (World.cell?_alloc_lt _ _ _ hsb).trans h1
  have hpW := (hbW.block p hpl).trans hp
  have c13W : W.cell? ⟨p, 13, none⟩ = some (.slice (some ⟨sb, 0, none⟩) (n + 1) c) := (Lib.cell_of_heap hpW 13).trans hcs
  have f13W := Lib.frozen_of_heap hpW 13
  have y0 := Lib.cell_of_heap h1W 0
  have y1 := Lib.cell_of_heap h1W 1
  have r0 := Lib.cell_of_heap h0W 0
  have r1 := Lib.cell_of_heap h0W 1
  have rf := fun j => Lib.frozen_of_heap h0W j
  have e1 : (n : Int) + 1 - 1 = n := by omega
  have l0 : (0 : Int) ≤ n := by omega
  have l1 : (n : Int) < (n : Int) + 1 := by omega
  have l2 : (n : Int) ≤ (c : Int) := by omega
  have HW := Lib.hid hW
  have HbW := Lib.hid hbW
  have Hp := Lib.hid hp
  clear hW hbW hp hpW h0W h1W hcs
  go_enter Tryz.func23, Tryz.ntmps23
  go_upto_region 3 with fail
  rw [← HW.out]
  go_wp2
  have q0 : W.cell? ⟨w.heap.size, 0, none⟩ = some (.int .i64 0) := r0
  have q1 : W.cell? ⟨w.heap.size, 1, none⟩ = some (.pointer none) := r1
  refine bodyPost_ret (v := .agg #[.int .i64 v, .pointer none]) (by simp [results, Tryz.results23, go_sem, q0, q1]) rfl ?_
  refine ⟨rfl, pop_end HbW.out Hp.out (fun x hx => ?_) ?_⟩
  · repeat (with_reducible refine (Below.heap_setCell _ _ _ _ (by exact hx)).trans ?_)
    rfl
  · repeat (first | with_reducible exact Below.refl _ _ | with_reducible refine Below.setCell ?_ (by first | (simp; done) | (simp; omega)) _)
theorem field_val (x y : Value) (w : World) : (Instr.field 82 (.agg #[x, y]) 0).run Tryz.prog w = .ok x w := by
  simp [Instr.field, asAgg, part, Result.andThen]
set_option maxRecDepth 100000 in
set_option maxHeartbeats 4000000 in
theorem do_zero (a : Int) (w : World) : Calls Tryz.prog 75 #[.int .i64 7, .int .i64 a, .int .i64 0] w fun e w' => e = .returned (.tuple #[.int .i64 0, .bool false]) ∧ w' = w := by
  go_enter Tryz.func75, Tryz.ntmps75
  go_wp2
  exact bodyPost_ret (v := .tuple #[.int .i64 0, .bool false]) (by simp [results, Tryz.results75, go_sem]) rfl ⟨rfl, rfl⟩
set_option maxRecDepth 100000 in
set_option maxHeartbeats 4000000 in
/-- A quotient by 0 ends the run. -/
theorem two_zero (p sb n c : Nat) (a : Int) (cs : Array Value) (T : TypeId) (w : World) (hp : w.heap[p]? = some (.cells cs T (0, 0))) (hcs : cs[13]? = some (.slice (some ⟨sb, 0, none⟩) (n + 2) c)) (hc : n + 2 ≤ c) (hn : n ≤ 100000) (hsb : sb < w.heap.size) (hsp : sb ≠ p) (h0 : w.cell? ⟨sb, (n + 1) * 2, none⟩ = some (.int .i64 0)) (h1 : w.cell? ⟨sb, (n + 1) * 2 + 1, none⟩ = some (.pointer none)) (h2 : w.cell? ⟨sb, n * 2, none⟩ = some (.int .i64 a)) (h3 : w.cell? ⟨sb, n * 2 + 1, none⟩ = some (.pointer none)) :
    Calls Tryz.prog 46 #[.pointer (some ⟨p, 0, none⟩), .int .i64 7] w fun e w' => e = endE 2 2 ∧ But p w w' ∧ w'.heap[p]? = some (.cells ((cs.setIfInBounds 13 (.slice (some ⟨sb, 0, none⟩) (n + 1) c)).setIfInBounds 13 (.slice (some ⟨sb, 0, none⟩) n c)) T (0, 0)) := by
  have hP := pop_c p sb (n + 1) c 0 cs T w hp hcs (by omega) (by omega) hsb h0 h1
  have hQ := fun w1 (hb : But p w w1) (h : w1.heap[p]? = some (.cells (cs.setIfInBounds 13 (.slice (some ⟨sb, 0, none⟩) (n + 1) c)) T (0, 0))) => pop_c p sb n c a _ T w1 h (by
    have hl := (Array.getElem?_eq_some_iff.mp hcs).1
    simp [Array.getElem?_setIfInBounds, hl]) (by omega) (by omega) (Nat.lt_of_lt_of_le hsb hb.size) ((hb.cell (p := ⟨sb, n * 2, none⟩) hsb hsp).trans h2) ((hb.cell (p := ⟨sb, n * 2 + 1, none⟩) hsb hsp).trans h3)
  have HQ := Lib.hid hQ
  have hT := fun w' => trap_c 2 w'
  have hfl : ∀ (x y : Value) (w : World), (Instr.field 82 (.agg #[x, y]) 0).run Tryz.prog w = .ok x w := fun x y w => field_val x y w
  clear hQ hp hcs h0 h1 h2 h3
  go_enter Tryz.func46, Tryz.ntmps46
  go_wp2_with (go_at_call 23; refine hP.mono ?_)
  clear hP
  rintro e w1 ⟨rfl, hb1, hh1⟩
  have hQ1 := HQ.out w1 hb1 hh1
  have HB1 := Lib.hid hb1
  clear hb1 hh1 HQ
  go_wp2_with (go_at_call 23; refine hQ1.mono ?_)
  clear hQ1
  rintro e w2 ⟨rfl, hb2, hh2⟩
  have HB2 := Lib.hid (HB1.out.trans hb2)
  have HH2 := Lib.hid hh2
  clear hb2 hh2
  have hD := fun w' => do_zero a w'
  go_wp2_with (first | (go_at_call 75; refine (hD _).mono ?_; rintro e w3 ⟨rfl, rfl⟩) | (go_at_call 76; refine (hT _).mono ?_; rintro e w3 ⟨rfl, rfl⟩; unfold endE))
  exact ⟨rfl, rfl, HB2.out, HH2.out⟩
end Go.Proofs.YtlgpbllkhbgppaaGreatDoor
