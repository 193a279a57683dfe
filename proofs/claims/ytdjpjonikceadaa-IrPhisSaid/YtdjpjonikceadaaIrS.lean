/-
  An instruction is put at the end of a block that has none.
-/
import Derived.Test.YtdjpjonikceadaaIrR
namespace Go.Proofs.Ytdjpjonikceadaa
open Go.RowKit
set_option linter.unusedVariables false
set_option linter.unusedSimpArgs false

theorem infoIns : (Try.prog.info? 38).map (fun i => (i.zero, i.size, i.bytes)) = some (some (.agg #[.int .i64 0, .int .i64 0, .slice none 0 0, .int .i64 0, .int .i64 0]), 5, 56) := by kernel_rfl

set_option maxRecDepth 100000 in
set_option maxHeartbeats 4000000 in
/-- A copy of an instruction that has arguments. -/
theorem cloneIns_some (base a c : Nat) (op ty N To : Int) (l : List Int) (w : World) (hl : 0 < l.length) (hn : l.length ≤ 1000) (hb : base ≤ w.heap.size) (hal : a < w.heap.size) (hc : ∀ j u, (l.map (fun x => Value.int .i64 x))[j]? = some u → w.cell? ((⟨a, 0, none⟩ : Addr).add j) = some u) :
    Calls Try.prog 36 #[.agg #[.int .i64 op, .int .i64 ty, .slice (some ⟨a, 0, none⟩) l.length c, .int .i64 N, .int .i64 To]] w fun e w' => ∃ g d, e = .returned (.agg #[.int .i64 op, .int .i64 ty, .slice (some ⟨g, 0, none⟩) l.length d, .int .i64 N, .int .i64 To]) ∧ Below w.heap.size w w' ∧ w'.ownsRow base 3 1 (.slice (some ⟨g, 0, none⟩) l.length d) l.length (l.map (fun x => Value.int .i64 x)) ∧ w.heap.size ≤ g := by
  obtain ⟨W, hW, hbW, hzW, h0, h1⟩ := r_two_al w #[.int .i64 op, .int .i64 ty, .slice (some ⟨a, 0, none⟩) l.length c, .int .i64 N, .int .i64 To] #[.int .i64 0, .int .i64 0, .slice none 0 0, .int .i64 0, .int .i64 0] 38 38
  have hC := cloneI_some base a 0 c l W hl hn (by omega) (by omega) (fun j u h => (hbW.cell (p := (⟨a, 0, none⟩ : Addr).add j) (by unfold Addr.add; split <;> exact hal)).trans (hc j u h))
  have c2 := Lib.cell_of_heap h0 2
  have HW := Lib.hid hW
  have HbW := Lib.hid hbW
  have HzW := Lib.hid hzW
  have H0 := Lib.hid h0
  have H1 := Lib.hid h1
  clear hW hbW hzW h0 h1 hc hal hl hn
  go_enter Try.func36, Try.ntmps36
  go_upto_region 1 with fail
  rw [← HW.out]
  go_wp2_with (go_at_call 33; refine hC.mono ?_; rintro e w1 ⟨g, d, rfl, hb1, ho1, hg1⟩; have q0 := (hb1.block _ (heap_in H0.out)).trans H0.out; have q1 := (hb1.block _ (heap_in H1.out)).trans H1.out; obtain ⟨z0, z1, z2, z3, z4, f0⟩ := cells5 q0; obtain ⟨r0, r1, r2, r3, r4, f1⟩ := cells5 q1; have Hb1 := Lib.hid hb1; have Ho1 := Lib.hid ho1; have Hg1 := Lib.hid hg1; have Q0 := Lib.hid q0; have Q1 := Lib.hid q1; clear hb1 ho1 hg1 q0 q1 hC)
  obtain ⟨w2, hw2⟩ : ∃ w2, w2 = w1.setCell ⟨w.heap.size, 2, none⟩ (.slice (some ⟨g, 0, none⟩) l.length d) := ⟨_, rfl⟩
  obtain ⟨w3, hw3⟩ : ∃ w3, w3 = put5 w2 (w.heap.size + 1) (.int .i64 op) (.int .i64 ty) (.slice (some ⟨g, 0, none⟩) l.length d) (.int .i64 N) (.int .i64 To) := ⟨_, rfl⟩
  have g3 : Bu (w.heap.size + 1) w2 w3 := by rw [hw3]; exact put5_bu _ _ _ _ _
  have g2 : Bu w.heap.size w1 w2 := by rw [hw2]; exact Bu.setCell (p := ⟨w.heap.size, 2, none⟩) (Bu.refl w.heap.size w1) (Or.inl rfl) _
  have hz1 := Hb1.out.size
  have hgW := Hg1.out
  have hzW := HzW.out
  have q2 : w2.heap[w.heap.size + 1]? = some (.cells #[.int .i64 0, .int .i64 0, .slice none 0 0, .int .i64 0, .int .i64 0] 38 (0, 0)) := (g2.block _ (by omega) (by omega)).trans Q1.out
  have q3 : w3.heap[w.heap.size + 1]? = some (.cells #[.int .i64 op, .int .i64 ty, .slice (some ⟨g, 0, none⟩) l.length d, .int .i64 N, .int .i64 To] 38 (0, 0)) := by rw [hw3]; exact put5_at q2 _ _ _ _ _
  unfold put5 at hw3
  rw [← hw2, ← hw3]
  have b1 : Below w.heap.size w w1 := HbW.out.trans (Hb1.out.mono (by omega))
  have b3 : Below w.heap.size w w3 := g3.below (g2.below b1 (Nat.le_refl _) (by omega)) (by omega) (by have := g2.size; omega)
  have og : ∀ r, r < W.heap.size → (Value.slice (some ⟨g, 0, none⟩) l.length d).ownBlock ≠ some r := fun r hr e => by simp [Value.ownBlock] at e; omega
  have o2 := Ho1.out.kept (row := some w.heap.size) (w' := w2) ⟨g2.os, g2.tape, g2.output, g2.size, fun j hj hne => g2.block j hj (fun e => hne (by rw [e]))⟩ (.inr (og _ (by omega)))
  have o3 := o2.kept (row := some (w.heap.size + 1)) (w' := w3) ⟨g3.os, g3.tape, g3.output, g3.size, fun j hj hne => g3.block j hj (fun e => hne (by rw [e]))⟩ (.inr (og _ (by omega)))
  obtain ⟨s0, s1, s2, s3, s4, -⟩ := cells5 q3
  clear hw2 hw3
  refine ⟨rfl, _, by simp [results, Try.results36, go_sem, s0, s1, s2, s3, s4], g, d, rfl, b3, o3, by omega⟩

set_option maxRecDepth 100000 in
set_option maxHeartbeats 8000000 in
theorem insert_first (kl : Nat) (hkl : 3 < kl) (E base N n g c a ca : Nat) (l : List Int) (V : Option Addr) (C : Nat) (VI : Option Addr) (CI : Nat) (bs : List Value) (F : Nat → Rw) (w : World) (hE : EdC w E (.slice VI 0 CI) (.slice (some ⟨g, 0, none⟩) N c)) (hF : Fam w base E F) (h0 : F 0 = ⟨46, 5, .slice (some ⟨g, 0, none⟩) N c, N, bs⟩) (h1 : F 1 = ⟨38, 5, .slice VI 0 CI, 0, []⟩) (h2 : F 2 = ⟨3, 1, .slice none 0 0, 0, []⟩) (h3 : F 3 = ⟨3, 1, .slice (some ⟨a, 0, none⟩) l.length ca, l.length, l.map (fun x => Value.int .i64 x)⟩) (hL : F kl = ⟨3, 1, .slice V 0 C, 0, []⟩)
    (hn : n < N) (hP : bs[n * 5]? = some (.slice V 0 C)) (hb : base ≤ w.heap.size) (hl : 0 < l.length) (hm : l.length ≤ 1000) :
    Calls Try.prog 26 #[.pointer (some ⟨E, 0, none⟩), .int .i64 n, .int .i64 0, .agg #[.int .i64 3, .int .i64 0, .slice (some ⟨a, 0, none⟩) l.length ca, .int .i64 0, .int .i64 0]] w fun e w' => e = .returned (.int .i64 0) ∧ Bd E base w w' ∧ ∃ qa da gi ci gl cl, EdC w' E (.slice (some ⟨gi, 0, none⟩) 1 ci) (.slice (some ⟨g, 0, none⟩) N c) ∧ Fam w' base E (upR (upR (upR (upR F 2 ⟨3, 1, .slice (some ⟨qa, 0, none⟩) l.length da, l.length, l.map (fun x => Value.int .i64 x)⟩) 1 ⟨38, 5, .slice (some ⟨gi, 0, none⟩) 1 ci, 1, [.int .i64 3, .int .i64 0, .slice (some ⟨qa, 0, none⟩) l.length da, .int .i64 0, .int .i64 0]⟩) kl ⟨3, 1, .slice (some ⟨gl, 0, none⟩) 1 cl, 1, [.int .i64 0]⟩) 0 ⟨46, 5, .slice (some ⟨g, 0, none⟩) N c, N, bs.set (n * 5) (.slice (some ⟨gl, 0, none⟩) 1 cl)⟩) := by
  obtain ⟨W, hW, hbW, hzW, hX⟩ := r_one_al w #[.int .i64 3, .int .i64 0, .slice (some ⟨a, 0, none⟩) l.length ca, .int .i64 0, .int .i64 0] 38
  have hEW : EdC W E (.slice VI 0 CI) (.slice (some ⟨g, 0, none⟩) N c) := (hbW.block E hF.el).trans hE
  have hFW := hF.keep hbW
  have hBo : W.ownsRow base 46 5 (.slice (some ⟨g, 0, none⟩) N c) N bs := hFW.at h0
  have hB := block_ptr E n N g c _ W hEW hn
  have hlen : bs.length = N * 5 := hBo.1
  have p0 : W.cell? ⟨g, n * 5, none⟩ = some (.slice V 0 C) := (hBo.cellAt (n * 5) (by omega)).trans hP
  have e3 := Lib.cell_of_heap hEW 3
  have hbaW : base ≤ W.heap.size := by omega
  have gd : W.drew.cell? ⟨w.heap.size, 0, none⟩ = some (.int .i64 3) ∧ W.drew.cell? ⟨w.heap.size, 1, none⟩ = some (.int .i64 0) ∧ W.drew.cell? ⟨w.heap.size, 2, none⟩ = some (.slice (some ⟨a, 0, none⟩) l.length ca) ∧ W.drew.cell? ⟨w.heap.size, 3, none⟩ = some (.int .i64 0) ∧ W.drew.cell? ⟨w.heap.size, 4, none⟩ = some (.int .i64 0) := ⟨Lib.cell_of_heap hX 0, Lib.cell_of_heap hX 1, Lib.cell_of_heap hX 2, Lib.cell_of_heap hX 3, Lib.cell_of_heap hX 4⟩
  have oD : W.drew.cell? ⟨E, 3, none⟩ = some (.slice VI 0 CI) := e3
  have hAo : W.ownsRow base 3 1 (.slice (some ⟨a, 0, none⟩) l.length ca) l.length (l.map (fun x => Value.int .i64 x)) := hFW.at h3
  have hC := cloneIns_some base a ca 3 0 0 0 l W.drew hl hm hbaW (hAo.lt a rfl).2 (hAo.cells (g := a) rfl)
  obtain ⟨i0, hi0, hi1, hi2, hi3⟩ := info_parts infoIns
  obtain ⟨j0, hj0, hj1, hj2, hj3⟩ := info_parts infoInt
  have hnw : w.heap.size ≠ E := by have := hF.el; omega
  have HW := Lib.hid hW
  have HbW := Lib.hid hbW
  have HzW := Lib.hid hzW
  have HX := Lib.hid hX
  have HEW := Lib.hid hEW
  have HF := Lib.hid hF
  have HFW := Lib.hid hFW
  have H0 := Lib.hid h0
  have H1 := Lib.hid h1
  have H2 := Lib.hid h2
  have HL := Lib.hid hL
  have HP := Lib.hid hP
  have Hlen := Lib.hid hlen
  have HbaW := Lib.hid hbaW
  have Hi := Lib.hid hi0
  have HiA := Lib.hid hi1
  have HiB := Lib.hid hi2
  have HiC := Lib.hid hi3
  have Hj := Lib.hid hj0
  have HjA := Lib.hid hj1
  have HjB := Lib.hid hj2
  have HjC := Lib.hid hj3
  have Hnw := Lib.hid hnw
  have Hm := Lib.hid hm
  clear hE hF h0 h1 h2 h3 hL hW hbW hzW hX hEW hFW hBo hlen hP hbaW hAo hi0 hi1 hi2 hi3 hj0 hj1 hj2 hj3 hl hm
  go_enter Try.func26, Try.ntmps26
  go_upto_region 1 with fail
  rw [← HW.out]
  go_upto_region 5 with (go_at_call 22; refine hB.mono ?_; rintro e w1 ⟨rfl, rfl⟩)
  refine wp_region_noPanic ?_
  refine wp_region_held_drew (S := fun w' => w'.cell? ⟨w.heap.size, 0, none⟩ = some (.int .i64 3) ∧ w'.cell? ⟨w.heap.size, 1, none⟩ = some (.int .i64 0) ∧ w'.cell? ⟨w.heap.size, 2, none⟩ = some (.slice (some ⟨a, 0, none⟩) l.length ca) ∧ w'.cell? ⟨w.heap.size, 3, none⟩ = some (.int .i64 0) ∧ w'.cell? ⟨w.heap.size, 4, none⟩ = some (.int .i64 0)) (by kernel_rfl) gd (fun hHeld => ?_)
  refine wpAnyH_take (i := 0) (v := ?_) rfl (by kernel_rfl) (by kernel_rfl) (by kernel_rfl) (fun _ _ _ h => h) (Or.inl ⟨by rfl, ?_⟩) (by assumption) ?_
  rotate_left
  · (intro w hSw; (try dsimp only at hSw); first | (go_simp; done) | (go_simp; with_reducible rfl))
  try simp only [Act.put, List.setIfInBounds_toArray, List.set_cons_zero, List.set_cons_succ]
  refine wpAnyH_take (i := 1) (v := ?_) rfl (by kernel_rfl) (by kernel_rfl) (by kernel_rfl) (fun _ _ _ h => h) (Or.inl ⟨by rfl, ?_⟩) (by assumption) ?_
  rotate_left
  · (intro w hSw; (try dsimp only at hSw); first | (go_simp; done) | (go_simp; with_reducible rfl))
  try simp only [Act.put, List.setIfInBounds_toArray, List.set_cons_zero, List.set_cons_succ]
  refine wpAnyH_take (i := 2) (v := ?_) rfl (by kernel_rfl) (by kernel_rfl) (by kernel_rfl) (fun _ _ _ h => h) (Or.inl ⟨by rfl, ?_⟩) (by assumption) ?_
  rotate_left
  · (intro w hSw; (try dsimp only at hSw); first | (go_simp; done) | (go_simp; with_reducible rfl))
  try simp only [Act.put, List.setIfInBounds_toArray, List.set_cons_zero, List.set_cons_succ]
  refine wpAnyH_take (i := 3) (v := ?_) rfl (by kernel_rfl) (by kernel_rfl) (by kernel_rfl) (fun _ _ _ h => h) (Or.inl ⟨by rfl, ?_⟩) (by assumption) ?_
  rotate_left
  · (intro w hSw; (try dsimp only at hSw); first | (go_simp; done) | (go_simp; with_reducible rfl))
  try simp only [Act.put, List.setIfInBounds_toArray, List.set_cons_zero, List.set_cons_succ]
  refine wpAnyH_take (i := 4) (v := ?_) rfl (by kernel_rfl) (by kernel_rfl) (by kernel_rfl) (fun _ _ _ h => h) (Or.inl ⟨by rfl, ?_⟩) (by assumption) ?_
  rotate_left
  · (intro w hSw; (try dsimp only at hSw); first | (go_simp; done) | (go_simp; with_reducible rfl))
  try simp only [Act.put, List.setIfInBounds_toArray, List.set_cons_zero, List.set_cons_succ]
  refine wpAnyH_take (i := 6) (v := ?_) rfl (by kernel_rfl) (by kernel_rfl) (by kernel_rfl) (fun _ _ _ h => h) (Or.inl ⟨by rfl, ?_⟩) (by assumption) ?_
  rotate_left
  · (intro w hSw; (try dsimp only at hSw); first | (go_simp; done) | (go_simp; with_reducible rfl))
  try simp only [Act.put, List.setIfInBounds_toArray, List.set_cons_zero, List.set_cons_succ]
  refine wpAnyH_ready (rs := [5, 7]) (by kernel_rfl) (by simp) ?_
  refine AllReadyH.cons rfl (fun K hK => ?_) (AllReadyH.cons rfl (fun K hK => ?_) (AllReadyH.nil))
  · go_simp
    refine hK.out _ _ ?_ (fun hHeld => ?_)
    · ((try dsimp only); first | with_reducible exact gd | with_reducible exact ga1 | with_reducible exact gaA | with_reducible exact ga2 | exact ⟨(set_off hnw).trans ga2.1, (set_off hnw).trans ga2.2.1, (set_off hnw).trans ga2.2.2.1, (set_off hnw).trans ga2.2.2.2.1, (set_off hnw).trans ga2.2.2.2.2⟩)
    clear hK K
    try simp only [Act.put, List.setIfInBounds_toArray, List.set_cons_zero, List.set_cons_succ]
    refine wpAnyH_ready (rs := [7]) (by kernel_rfl) (by simp) ?_
    refine AllReadyH.cons rfl (fun K hK => ?_) (AllReadyH.nil)
    go_simp
    refine hC.mono ?_
    rintro e w2 ⟨qa, da, rfl, hb2, ho2, hg2⟩
    have hbd : Below w1.heap.size w1 w2 := ⟨hb2.os, hb2.tape, hb2.output, hb2.size, hb2.block⟩
    have hX2 := (hbd.block _ (heap_in HX.out)).trans HX.out
    have hE2 : EdC w2 E (.slice VI 0 CI) (.slice (some ⟨g, 0, none⟩) N c) := (hbd.block E HFW.out.el).trans HEW.out
    have ga1 : w2.cell? ⟨w.heap.size, 0, none⟩ = some (.int .i64 3) ∧ w2.cell? ⟨w.heap.size, 1, none⟩ = some (.int .i64 0) ∧ w2.cell? ⟨w.heap.size, 2, none⟩ = some (.slice (some ⟨a, 0, none⟩) l.length ca) ∧ w2.cell? ⟨w.heap.size, 3, none⟩ = some (.int .i64 0) ∧ w2.cell? ⟨w.heap.size, 4, none⟩ = some (.int .i64 0) := ⟨Lib.cell_of_heap hX2 0, Lib.cell_of_heap hX2 1, Lib.cell_of_heap hX2 2, Lib.cell_of_heap hX2 3, Lib.cell_of_heap hX2 4⟩
    have o1 : w2.cell? ⟨E, 3, none⟩ = some (.slice VI 0 CI) := Lib.cell_of_heap hE2 3
    have hgr2 : w1.grownBy w2 (F 2).v.ownBlock := ⟨hbd.os, hbd.tape, hbd.output, hbd.size, fun k hk _ => hbd.block k hk⟩
    have hF2 := HFW.out.grown 2 hgr2 ⟨3, 1, .slice (some ⟨qa, 0, none⟩) l.length da, l.length, l.map (fun x => Value.int .i64 x)⟩ ho2 (fun g' e => by
      simp only [Value.ownBlock, Option.some.injEq] at e
      subst e
      exact .inr hg2)
    have hb2s := hbd.size
    have hk1 : upR F 2 ⟨3, 1, .slice (some ⟨qa, 0, none⟩) l.length da, l.length, l.map (fun x => Value.int .i64 x)⟩ 1 = ⟨38, 5, .slice VI 0 CI, 0, []⟩ := by rw [upR_off _ _ _ _ (by decide)]; exact H1.out
    obtain ⟨A, hA, hbA, hzA, h0A⟩ := r_one_al w2 #[.int .i64 3, .int .i64 0, .slice (some ⟨qa, 0, none⟩) l.length da, .int .i64 0, .int .i64 0] 38
    have HOW := Lib.hid (own_up (hF2.at hk1) hbA)
    have HNW := Lib.hid (World.news_of_block h0A)
    have HO : Hid (∀ u ∈ ([.int .i64 3, .int .i64 0, .slice (some ⟨qa, 0, none⟩) l.length da, .int .i64 0, .int .i64 0] : List Value), u.oneCell' = true) := Lib.hid (by
      intro u hu
      simp only [List.mem_cons, List.not_mem_nil, or_false] at hu
      rcases hu with rfl | rfl | rfl | rfl | rfl <;> rfl)
    have hsz : base ≤ A.heap.size := by have := HbaW.out; omega
    have hXA := (hbA.block _ (heap_in hX2)).trans hX2
    have hEA : EdC A E (.slice VI 0 CI) (.slice (some ⟨g, 0, none⟩) N c) := (hbA.block E (heap_in hE2)).trans hE2
    have gaA : A.cell? ⟨w.heap.size, 0, none⟩ = some (.int .i64 3) ∧ A.cell? ⟨w.heap.size, 1, none⟩ = some (.int .i64 0) ∧ A.cell? ⟨w.heap.size, 2, none⟩ = some (.slice (some ⟨a, 0, none⟩) l.length ca) ∧ A.cell? ⟨w.heap.size, 3, none⟩ = some (.int .i64 0) ∧ A.cell? ⟨w.heap.size, 4, none⟩ = some (.int .i64 0) := ⟨Lib.cell_of_heap hXA 0, Lib.cell_of_heap hXA 1, Lib.cell_of_heap hXA 2, Lib.cell_of_heap hXA 3, Lib.cell_of_heap hXA 4⟩
    have oA : A.cell? ⟨E, 3, none⟩ = some (.slice VI 0 CI) := Lib.cell_of_heap hEA 3
    have Hbd := Lib.hid hbd
    have HF2 := Lib.hid hF2
    have Hk1 := Lib.hid hk1
    have HbA := Lib.hid hbA
    have HzA := Lib.hid hzA
    have HXA := Lib.hid hXA
    have HEA := Lib.hid hEA
    have Hb2s := Lib.hid hb2s
    have HA := Lib.hid hA
    rw [hA] at HOW HNW hsz
    clear hb2 ho2 hg2 hbd hX2 hE2 hgr2 hF2 hk1 hA hbA hzA h0A hXA hEA hb2s hC
    refine hK.out _ _ ?_ (fun hHeld => ?_)
    · ((try dsimp only); first | with_reducible exact gd | with_reducible exact ga1 | with_reducible exact gaA | with_reducible exact ga2 | exact ⟨(set_off hnw).trans ga2.1, (set_off hnw).trans ga2.2.1, (set_off hnw).trans ga2.2.2.1, (set_off hnw).trans ga2.2.2.2.1, (set_off hnw).trans ga2.2.2.2.2⟩)
    clear hK K
    try simp only [Act.put, List.setIfInBounds_toArray, List.set_cons_zero, List.set_cons_succ]
    refine wpAnyH_ready (rs := [8]) (by kernel_rfl) (by simp) ?_
    refine AllReadyH.cons rfl (fun K hK => ?_) (AllReadyH.nil)
    go_simp
    (try rw [← HA.out])
    refine hK.out _ _ ?_ (fun hHeld => ?_)
    · ((try dsimp only); first | with_reducible exact gd | with_reducible exact ga1 | with_reducible exact gaA | with_reducible exact ga2 | exact ⟨(set_off hnw).trans ga2.1, (set_off hnw).trans ga2.2.1, (set_off hnw).trans ga2.2.2.1, (set_off hnw).trans ga2.2.2.2.1, (set_off hnw).trans ga2.2.2.2.2⟩)
    clear hK K
    try simp only [Act.put, List.setIfInBounds_toArray, List.set_cons_zero, List.set_cons_succ]
    refine wpAnyH_ready (rs := [9]) (by kernel_rfl) (by simp) ?_
    refine AllReadyH.cons rfl (fun K hK => ?_) (AllReadyH.nil)
    refine step_append_lies _ rfl (.tmp 40) (.tmp 43) 27 rfl base 38 i0 (.agg #[.int .i64 0, .int .i64 0, .slice none 0 0, .int .i64 0, .int .i64 0]) 5 56 Try.underlying27 Hi.out HiA.out HiB.out HiC.out rfl (by decide) (.slice VI 0 CI) 0 [] (by simp [Act.eval, Act.put]) (by rw [HA.out]; exact HOW.out) ⟨w2.heap.size, 0, none⟩ 1 1 [.int .i64 3, .int .i64 0, .slice (some ⟨qa, 0, none⟩) l.length da, .int .i64 0, .int .i64 0] (by simp [Act.eval, Act.put]) rfl (by rw [HA.out]; exact HNW.out) HO.out (by decide) (by decide) (by decide) (by rw [HA.out]; exact hsz) _ rfl ?_
    intro gi ci w3 hown3 hgrow hat hlt3
    have hg0 : w2.grownBy w3 (upR F 2 ⟨3, 1, .slice (some ⟨qa, 0, none⟩) l.length da, l.length, l.map (fun x => Value.int .i64 x)⟩ 1).v.ownBlock := by rw [Hk1.out]; exact grown_below HbA.out hgrow
    have hF3 := HF2.out.grown 1 hg0 ⟨38, 5, .slice (some ⟨gi, 0, none⟩) 1 ci, 1, [.int .i64 3, .int .i64 0, .slice (some ⟨qa, 0, none⟩) l.length da, .int .i64 0, .int .i64 0]⟩ hown3 (fun g' e => by
      simp only [Value.ownBlock, Option.some.injEq] at e
      subst e
      rw [Hk1.out]
      rcases hat with h | h
      · exact .inl h
      · exact .inr (by have := HzA.out; omega))
    have hrow : (Value.slice VI 0 CI).ownBlock ≠ some E := by have := HFW.out.av 1; rw [H1.out] at this; exact this
    have hrow2 : (Value.slice VI 0 CI).ownBlock ≠ some w.heap.size := fun e => by have := (HF.out.at H1.out).lt _ e; omega
    have hE3 : EdC w3 E (.slice VI 0 CI) (.slice (some ⟨g, 0, none⟩) N c) := (hgrow.block E (heap_in HEA.out) (fun e => hrow e.symm)).trans HEA.out
    have hX3 := (hgrow.block w.heap.size (heap_in HXA.out) (fun e => hrow2 e.symm)).trans HXA.out
    have ga2 : w3.cell? ⟨w.heap.size, 0, none⟩ = some (.int .i64 3) ∧ w3.cell? ⟨w.heap.size, 1, none⟩ = some (.int .i64 0) ∧ w3.cell? ⟨w.heap.size, 2, none⟩ = some (.slice (some ⟨a, 0, none⟩) l.length ca) ∧ w3.cell? ⟨w.heap.size, 3, none⟩ = some (.int .i64 0) ∧ w3.cell? ⟨w.heap.size, 4, none⟩ = some (.int .i64 0) := ⟨Lib.cell_of_heap hX3 0, Lib.cell_of_heap hX3 1, Lib.cell_of_heap hX3 2, Lib.cell_of_heap hX3 3, Lib.cell_of_heap hX3 4⟩
    have o3 : w3.cell? ⟨E, 3, none⟩ = some (.slice VI 0 CI) := Lib.cell_of_heap hE3 3
    have of3 : w3.frozen? ⟨E, 3, none⟩ = false := Lib.frozen_of_heap hE3 3
    have hd3 : Bd E base w w3 := (((Bd.of_below HbW.out hb).trans (Bd.of_below Hbd.out HbaW.out)).trans (Bd.of_below HbA.out (by have := HbaW.out; have := Hb2s.out; omega))).trans (Bd.of_grown hgrow (fun g' e => ((HF.out.at H1.out).lt g' e).1) (by have := HbaW.out; have := Hb2s.out; have := HzA.out; omega))
    have Hs3 := Lib.hid (show w1.heap.size ≤ w3.heap.size by have := hgrow.size; have := Hb2s.out; have := HzA.out; omega)
    have HF3 := Lib.hid hF3
    have HE3 := Lib.hid hE3
    have Hd3 := Lib.hid hd3
    clear hown3 hgrow hat hlt3 hg0 hF3 hrow hrow2 hE3 hX3 hd3 HOW HNW HO hsz
    refine hK.out _ _ ?_ (fun hHeld => ?_)
    · ((try dsimp only); first | with_reducible exact gd | with_reducible exact ga1 | with_reducible exact gaA | with_reducible exact ga2 | exact ⟨(set_off hnw).trans ga2.1, (set_off hnw).trans ga2.2.1, (set_off hnw).trans ga2.2.2.1, (set_off hnw).trans ga2.2.2.2.1, (set_off hnw).trans ga2.2.2.2.2⟩)
    clear hK K
    try simp only [Act.put, List.setIfInBounds_toArray, List.set_cons_zero, List.set_cons_succ]
    refine wpAnyH_take (i := 10) (v := ?_) rfl (by kernel_rfl) (by kernel_rfl) (by kernel_rfl) (fun _ _ _ h => h) (Or.inl ⟨by rfl, ?_⟩) (by assumption) ?_
    rotate_left
    · (intro w hSw; (try dsimp only at hSw); first | (go_simp; done) | (go_simp; with_reducible rfl))
    try simp only [Act.put, List.setIfInBounds_toArray, List.set_cons_zero, List.set_cons_succ]
    refine wpAnyH_take (i := 11) (v := ?_) rfl (by kernel_rfl) (by kernel_rfl) (by kernel_rfl) (fun _ _ _ h => h) (Or.inl ⟨by rfl, ?_⟩) (by assumption) ?_
    rotate_left
    · (intro w hSw; (try dsimp only at hSw); first | (go_simp; done) | (go_simp; with_reducible rfl))
    try simp only [Act.put, List.setIfInBounds_toArray, List.set_cons_zero, List.set_cons_succ]
    refine wpAnyH_take (i := 12) (v := ?_) rfl (by kernel_rfl) (by kernel_rfl) (by kernel_rfl) (fun _ _ _ h => h) (Or.inl ⟨by rfl, ?_⟩) (by assumption) ?_
    rotate_left
    · (intro w hSw; (try dsimp only at hSw); first | (go_simp; done) | (go_simp; with_reducible rfl))
    try simp only [Act.put, List.setIfInBounds_toArray, List.set_cons_zero, List.set_cons_succ]
    refine wpAnyH_ready (rs := [13]) (by kernel_rfl) (by simp) ?_
    refine AllReadyH.cons rfl (fun K hK => ?_) (AllReadyH.nil)
    go_simp
    refine hK.out _ _ ?_ (fun hHeld => ?_)
    · ((try dsimp only); first | with_reducible exact gd | with_reducible exact ga1 | with_reducible exact gaA | with_reducible exact ga2 | exact ⟨(set_off hnw).trans ga2.1, (set_off hnw).trans ga2.2.1, (set_off hnw).trans ga2.2.2.1, (set_off hnw).trans ga2.2.2.2.1, (set_off hnw).trans ga2.2.2.2.2⟩)
    clear hK K
    try simp only [Act.put, List.setIfInBounds_toArray, List.set_cons_zero, List.set_cons_succ]
    refine wpAnyH_done (by kernel_rfl) ?_ _
    refine NoPanic.normal ?_
    obtain ⟨w4, hw4⟩ : ∃ w4, w4 = w3.setCell ⟨E, 3, none⟩ (.slice (some ⟨gi, 0, none⟩) 1 ci) := ⟨_, rfl⟩
    rw [← hw4]
    have hE4 : EdC w4 E (.slice (some ⟨gi, 0, none⟩) 1 ci) (.slice (some ⟨g, 0, none⟩) N c) := by rw [hw4]; exact heap_put HE3.out 3 _
    have hbu : Bu E w3 w4 := by rw [hw4]; exact Bu.setCell (p := ⟨E, 3, none⟩) (Bu.refl E w3) (Or.inl rfl) _
    have hF4 := HF3.out.bu hbu
    have hk0 : (upR (upR F 2 ⟨3, 1, .slice (some ⟨qa, 0, none⟩) l.length da, l.length, l.map (fun x => Value.int .i64 x)⟩) 1 ⟨38, 5, .slice (some ⟨gi, 0, none⟩) 1 ci, 1, [.int .i64 3, .int .i64 0, .slice (some ⟨qa, 0, none⟩) l.length da, .int .i64 0, .int .i64 0]⟩) 0 = ⟨46, 5, .slice (some ⟨g, 0, none⟩) N c, N, bs⟩ := by rw [upR_off _ _ _ _ (by decide), upR_off _ _ _ _ (by decide)]; exact H0.out
    have hkL : (upR (upR F 2 ⟨3, 1, .slice (some ⟨qa, 0, none⟩) l.length da, l.length, l.map (fun x => Value.int .i64 x)⟩) 1 ⟨38, 5, .slice (some ⟨gi, 0, none⟩) 1 ci, 1, [.int .i64 3, .int .i64 0, .slice (some ⟨qa, 0, none⟩) l.length da, .int .i64 0, .int .i64 0]⟩) kl = ⟨3, 1, .slice V 0 C, 0, []⟩ := by rw [upR_off _ _ _ _ (by omega), upR_off _ _ _ _ (by omega)]; exact HL.out
    have hBo4 := hF4.at hk0
    have p4 : w4.cell? ⟨g, n * 5, none⟩ = some (.slice V 0 C) := (hBo4.cellAt (n * 5) (by have := Hlen.out; show n * 5 < N * 5; omega)).trans HP.out
    obtain ⟨A4, hA4, hbA4, hzA4, h0A4⟩ := r_one_al w4 #[.int .i64 0] 3
    have HOW4 := Lib.hid (own_up (hF4.at hkL) hbA4)
    have HNW4 := Lib.hid (World.news_of_block h0A4)
    have HO4 : Hid (∀ u ∈ ([.int .i64 0] : List Value), u.oneCell' = true) := Lib.hid (by intro u hu; simp at hu; subst hu; rfl)
    have hs4 : w1.heap.size ≤ w4.heap.size := Nat.le_trans Hs3.out hbu.size
    have hsz4 : base ≤ A4.heap.size := by have := HbaW.out; omega
    have Hd4 := Lib.hid (Hd3.out.trans (Bd.of_bu hbu (by have := HbaW.out; have := Hs3.out; omega)))
    have HE4 := Lib.hid hE4
    have HF4 := Lib.hid hF4
    have Hk0 := Lib.hid hk0
    have HkL := Lib.hid hkL
    have HbA4 := Lib.hid hbA4
    have HzA4 := Lib.hid hzA4
    have Hs4 := Lib.hid hs4
    rw [hA4] at HOW4 HNW4 hsz4
    have HA4 := Lib.hid hA4
    clear hw4 hE4 hbu hF4 hk0 hkL hBo4 hA4 hbA4 hzA4 h0A4 hs4 gd ga1 gaA ga2 oD o1 oA o3 of3 p0 e3 HA HbA HzA HXA HEA Hb2s HF2 Hk1 HF3 HE3 Hd3 Hs3 HX HEW HFW hB
    go_wp2_with (at_builtin; refine wpList_append_lies _ rfl (.tmp 59) (.tmp 61) 26 rfl base 3 j0 (.int .i64 0) 1 8 Try.underlying26 Hj.out HjA.out HjB.out HjC.out rfl (by decide) (.slice V 0 C) 0 [] rfl HOW4.out ⟨w4.heap.size, 0, none⟩ 1 1 [.int .i64 0] rfl rfl HNW4.out HO4.out (by decide) (by decide) (by decide) hsz4 _ rfl ?_)
    intro gl cl w5 hown5 hgrow hat hlt5
    rw [← HA4.out] at hgrow
    clear HOW4 HNW4 hsz4
    have hrow := HkL.out
    have hgL : w4.grownBy w5 ((upR (upR F 2 ⟨3, 1, .slice (some ⟨qa, 0, none⟩) l.length da, l.length, l.map (fun x => Value.int .i64 x)⟩) 1 ⟨38, 5, .slice (some ⟨gi, 0, none⟩) 1 ci, 1, [.int .i64 3, .int .i64 0, .slice (some ⟨qa, 0, none⟩) l.length da, .int .i64 0, .int .i64 0]⟩) kl).v.ownBlock := by rw [HkL.out]; exact grown_below HbA4.out hgrow
    have hF5 := HF4.out.grown kl hgL ⟨3, 1, .slice (some ⟨gl, 0, none⟩) 1 cl, 1, [.int .i64 0]⟩ hown5 (fun g' e => by
      simp only [Value.ownBlock, Option.some.injEq] at e
      subst e
      rw [HkL.out]
      rcases hat with h | h
      · exact .inl h
      · exact .inr (by omega))
    have hk5 : upR (upR (upR F 2 ⟨3, 1, .slice (some ⟨qa, 0, none⟩) l.length da, l.length, l.map (fun x => Value.int .i64 x)⟩) 1 ⟨38, 5, .slice (some ⟨gi, 0, none⟩) 1 ci, 1, [.int .i64 3, .int .i64 0, .slice (some ⟨qa, 0, none⟩) l.length da, .int .i64 0, .int .i64 0]⟩) kl ⟨3, 1, .slice (some ⟨gl, 0, none⟩) 1 cl, 1, [.int .i64 0]⟩ 0 = ⟨46, 5, .slice (some ⟨g, 0, none⟩) N c, N, bs⟩ := by rw [upR_off _ _ _ _ (by omega)]; exact Hk0.out
    obtain ⟨hF6, hg6⟩ := hF5.put hk5 (n * 5) (.slice (some ⟨gl, 0, none⟩) 1 cl)
    have hBo5 := hF5.at hk5
    obtain ⟨u5, p5⟩ := own_some hBo5 (n * 5) (by show n * 5 < N * 5; omega)
    have f5 := hBo5.frozenAt (n * 5)
    have hgb := hBo5.lt g rfl
    have hbs5 : base ≤ w5.heap.size := Nat.le_trans (by have := HbaW.out; have := Hs4.out; omega) hgL.size
    have d5 : Bd E base w4 w5 := Bd.of_grown hgL (fun g' e => by rw [HkL.out] at e; exact ((HF4.out.at HkL.out).lt g' e).1) (by have := HbaW.out; have := Hs4.out; omega)
    have d6 : Bd E base w5 (w5.setCell ⟨g, n * 5, none⟩ (.slice (some ⟨gl, 0, none⟩) 1 cl)) := Bd.of_grown hg6 (fun g' e => by cases e; exact hgb.1) hbs5
    have hEg : E ≠ g := by intro e; have := HF4.out.av 0; rw [Hk0.out] at this; exact this (by rw [e]; rfl)
    have hE5 : EdC w5 E (.slice (some ⟨gi, 0, none⟩) 1 ci) (.slice (some ⟨g, 0, none⟩) N c) := (hgL.block E HF4.out.el (fun e => HF4.out.av kl e.symm)).trans HE4.out
    have hE6 : EdC (w5.setCell ⟨g, n * 5, none⟩ (.slice (some ⟨gl, 0, none⟩) 1 cl)) E (.slice (some ⟨gi, 0, none⟩) 1 ci) (.slice (some ⟨g, 0, none⟩) N c) := (Below.heap_setCell _ _ _ _ hEg).trans hE5
    have hend := Lib.hid (And.intro ((Hd4.out.trans d5).trans d6) (And.intro hE6 hF6))
    clear hrow hgL hF5 hk5 hF6 hg6 hBo5 hgb hbs5 d5 d6 hEg hE5 hE6 hown5 hgrow hat hlt5
    go_wp2
    go_ret
    exact ⟨rfl, hend.out.1, qa, da, gi, ci, gl, cl, hend.out.2.1, hend.out.2.2⟩
  · go_simp
    refine hC.mono ?_
    rintro e w2 ⟨qa, da, rfl, hb2, ho2, hg2⟩
    have hbd : Below w1.heap.size w1 w2 := ⟨hb2.os, hb2.tape, hb2.output, hb2.size, hb2.block⟩
    have hX2 := (hbd.block _ (heap_in HX.out)).trans HX.out
    have hE2 : EdC w2 E (.slice VI 0 CI) (.slice (some ⟨g, 0, none⟩) N c) := (hbd.block E HFW.out.el).trans HEW.out
    have ga1 : w2.cell? ⟨w.heap.size, 0, none⟩ = some (.int .i64 3) ∧ w2.cell? ⟨w.heap.size, 1, none⟩ = some (.int .i64 0) ∧ w2.cell? ⟨w.heap.size, 2, none⟩ = some (.slice (some ⟨a, 0, none⟩) l.length ca) ∧ w2.cell? ⟨w.heap.size, 3, none⟩ = some (.int .i64 0) ∧ w2.cell? ⟨w.heap.size, 4, none⟩ = some (.int .i64 0) := ⟨Lib.cell_of_heap hX2 0, Lib.cell_of_heap hX2 1, Lib.cell_of_heap hX2 2, Lib.cell_of_heap hX2 3, Lib.cell_of_heap hX2 4⟩
    have o1 : w2.cell? ⟨E, 3, none⟩ = some (.slice VI 0 CI) := Lib.cell_of_heap hE2 3
    have hgr2 : w1.grownBy w2 (F 2).v.ownBlock := ⟨hbd.os, hbd.tape, hbd.output, hbd.size, fun k hk _ => hbd.block k hk⟩
    have hF2 := HFW.out.grown 2 hgr2 ⟨3, 1, .slice (some ⟨qa, 0, none⟩) l.length da, l.length, l.map (fun x => Value.int .i64 x)⟩ ho2 (fun g' e => by
      simp only [Value.ownBlock, Option.some.injEq] at e
      subst e
      exact .inr hg2)
    have hb2s := hbd.size
    have hk1 : upR F 2 ⟨3, 1, .slice (some ⟨qa, 0, none⟩) l.length da, l.length, l.map (fun x => Value.int .i64 x)⟩ 1 = ⟨38, 5, .slice VI 0 CI, 0, []⟩ := by rw [upR_off _ _ _ _ (by decide)]; exact H1.out
    obtain ⟨A, hA, hbA, hzA, h0A⟩ := r_one_al w2 #[.int .i64 3, .int .i64 0, .slice (some ⟨qa, 0, none⟩) l.length da, .int .i64 0, .int .i64 0] 38
    have HOW := Lib.hid (own_up (hF2.at hk1) hbA)
    have HNW := Lib.hid (World.news_of_block h0A)
    have HO : Hid (∀ u ∈ ([.int .i64 3, .int .i64 0, .slice (some ⟨qa, 0, none⟩) l.length da, .int .i64 0, .int .i64 0] : List Value), u.oneCell' = true) := Lib.hid (by
      intro u hu
      simp only [List.mem_cons, List.not_mem_nil, or_false] at hu
      rcases hu with rfl | rfl | rfl | rfl | rfl <;> rfl)
    have hsz : base ≤ A.heap.size := by have := HbaW.out; omega
    have hXA := (hbA.block _ (heap_in hX2)).trans hX2
    have hEA : EdC A E (.slice VI 0 CI) (.slice (some ⟨g, 0, none⟩) N c) := (hbA.block E (heap_in hE2)).trans hE2
    have gaA : A.cell? ⟨w.heap.size, 0, none⟩ = some (.int .i64 3) ∧ A.cell? ⟨w.heap.size, 1, none⟩ = some (.int .i64 0) ∧ A.cell? ⟨w.heap.size, 2, none⟩ = some (.slice (some ⟨a, 0, none⟩) l.length ca) ∧ A.cell? ⟨w.heap.size, 3, none⟩ = some (.int .i64 0) ∧ A.cell? ⟨w.heap.size, 4, none⟩ = some (.int .i64 0) := ⟨Lib.cell_of_heap hXA 0, Lib.cell_of_heap hXA 1, Lib.cell_of_heap hXA 2, Lib.cell_of_heap hXA 3, Lib.cell_of_heap hXA 4⟩
    have oA : A.cell? ⟨E, 3, none⟩ = some (.slice VI 0 CI) := Lib.cell_of_heap hEA 3
    have Hbd := Lib.hid hbd
    have HF2 := Lib.hid hF2
    have Hk1 := Lib.hid hk1
    have HbA := Lib.hid hbA
    have HzA := Lib.hid hzA
    have HXA := Lib.hid hXA
    have HEA := Lib.hid hEA
    have Hb2s := Lib.hid hb2s
    have HA := Lib.hid hA
    rw [hA] at HOW HNW hsz
    clear hb2 ho2 hg2 hbd hX2 hE2 hgr2 hF2 hk1 hA hbA hzA h0A hXA hEA hb2s hC
    refine hK.out _ _ ?_ (fun hHeld => ?_)
    · ((try dsimp only); first | with_reducible exact gd | with_reducible exact ga1 | with_reducible exact gaA | with_reducible exact ga2 | exact ⟨(set_off hnw).trans ga2.1, (set_off hnw).trans ga2.2.1, (set_off hnw).trans ga2.2.2.1, (set_off hnw).trans ga2.2.2.2.1, (set_off hnw).trans ga2.2.2.2.2⟩)
    clear hK K
    try simp only [Act.put, List.setIfInBounds_toArray, List.set_cons_zero, List.set_cons_succ]
    refine wpAnyH_ready (rs := [5, 8]) (by kernel_rfl) (by simp) ?_
    refine AllReadyH.cons rfl (fun K hK => ?_) (AllReadyH.cons rfl (fun K hK => ?_) (AllReadyH.nil))
    · go_simp
      refine hK.out _ _ ?_ (fun hHeld => ?_)
      · ((try dsimp only); first | with_reducible exact gd | with_reducible exact ga1 | with_reducible exact gaA | with_reducible exact ga2 | exact ⟨(set_off hnw).trans ga2.1, (set_off hnw).trans ga2.2.1, (set_off hnw).trans ga2.2.2.1, (set_off hnw).trans ga2.2.2.2.1, (set_off hnw).trans ga2.2.2.2.2⟩)
      clear hK K
      try simp only [Act.put, List.setIfInBounds_toArray, List.set_cons_zero, List.set_cons_succ]
      refine wpAnyH_ready (rs := [8]) (by kernel_rfl) (by simp) ?_
      refine AllReadyH.cons rfl (fun K hK => ?_) (AllReadyH.nil)
      go_simp
      (try rw [← HA.out])
      refine hK.out _ _ ?_ (fun hHeld => ?_)
      · ((try dsimp only); first | with_reducible exact gd | with_reducible exact ga1 | with_reducible exact gaA | with_reducible exact ga2 | exact ⟨(set_off hnw).trans ga2.1, (set_off hnw).trans ga2.2.1, (set_off hnw).trans ga2.2.2.1, (set_off hnw).trans ga2.2.2.2.1, (set_off hnw).trans ga2.2.2.2.2⟩)
      clear hK K
      try simp only [Act.put, List.setIfInBounds_toArray, List.set_cons_zero, List.set_cons_succ]
      refine wpAnyH_ready (rs := [9]) (by kernel_rfl) (by simp) ?_
      refine AllReadyH.cons rfl (fun K hK => ?_) (AllReadyH.nil)
      refine step_append_lies _ rfl (.tmp 40) (.tmp 43) 27 rfl base 38 i0 (.agg #[.int .i64 0, .int .i64 0, .slice none 0 0, .int .i64 0, .int .i64 0]) 5 56 Try.underlying27 Hi.out HiA.out HiB.out HiC.out rfl (by decide) (.slice VI 0 CI) 0 [] (by simp [Act.eval, Act.put]) (by rw [HA.out]; exact HOW.out) ⟨w2.heap.size, 0, none⟩ 1 1 [.int .i64 3, .int .i64 0, .slice (some ⟨qa, 0, none⟩) l.length da, .int .i64 0, .int .i64 0] (by simp [Act.eval, Act.put]) rfl (by rw [HA.out]; exact HNW.out) HO.out (by decide) (by decide) (by decide) (by rw [HA.out]; exact hsz) _ rfl ?_
      intro gi ci w3 hown3 hgrow hat hlt3
      have hg0 : w2.grownBy w3 (upR F 2 ⟨3, 1, .slice (some ⟨qa, 0, none⟩) l.length da, l.length, l.map (fun x => Value.int .i64 x)⟩ 1).v.ownBlock := by rw [Hk1.out]; exact grown_below HbA.out hgrow
      have hF3 := HF2.out.grown 1 hg0 ⟨38, 5, .slice (some ⟨gi, 0, none⟩) 1 ci, 1, [.int .i64 3, .int .i64 0, .slice (some ⟨qa, 0, none⟩) l.length da, .int .i64 0, .int .i64 0]⟩ hown3 (fun g' e => by
        simp only [Value.ownBlock, Option.some.injEq] at e
        subst e
        rw [Hk1.out]
        rcases hat with h | h
        · exact .inl h
        · exact .inr (by have := HzA.out; omega))
      have hrow : (Value.slice VI 0 CI).ownBlock ≠ some E := by have := HFW.out.av 1; rw [H1.out] at this; exact this
      have hrow2 : (Value.slice VI 0 CI).ownBlock ≠ some w.heap.size := fun e => by have := (HF.out.at H1.out).lt _ e; omega
      have hE3 : EdC w3 E (.slice VI 0 CI) (.slice (some ⟨g, 0, none⟩) N c) := (hgrow.block E (heap_in HEA.out) (fun e => hrow e.symm)).trans HEA.out
      have hX3 := (hgrow.block w.heap.size (heap_in HXA.out) (fun e => hrow2 e.symm)).trans HXA.out
      have ga2 : w3.cell? ⟨w.heap.size, 0, none⟩ = some (.int .i64 3) ∧ w3.cell? ⟨w.heap.size, 1, none⟩ = some (.int .i64 0) ∧ w3.cell? ⟨w.heap.size, 2, none⟩ = some (.slice (some ⟨a, 0, none⟩) l.length ca) ∧ w3.cell? ⟨w.heap.size, 3, none⟩ = some (.int .i64 0) ∧ w3.cell? ⟨w.heap.size, 4, none⟩ = some (.int .i64 0) := ⟨Lib.cell_of_heap hX3 0, Lib.cell_of_heap hX3 1, Lib.cell_of_heap hX3 2, Lib.cell_of_heap hX3 3, Lib.cell_of_heap hX3 4⟩
      have o3 : w3.cell? ⟨E, 3, none⟩ = some (.slice VI 0 CI) := Lib.cell_of_heap hE3 3
      have of3 : w3.frozen? ⟨E, 3, none⟩ = false := Lib.frozen_of_heap hE3 3
      have hd3 : Bd E base w w3 := (((Bd.of_below HbW.out hb).trans (Bd.of_below Hbd.out HbaW.out)).trans (Bd.of_below HbA.out (by have := HbaW.out; have := Hb2s.out; omega))).trans (Bd.of_grown hgrow (fun g' e => ((HF.out.at H1.out).lt g' e).1) (by have := HbaW.out; have := Hb2s.out; have := HzA.out; omega))
      have Hs3 := Lib.hid (show w1.heap.size ≤ w3.heap.size by have := hgrow.size; have := Hb2s.out; have := HzA.out; omega)
      have HF3 := Lib.hid hF3
      have HE3 := Lib.hid hE3
      have Hd3 := Lib.hid hd3
      clear hown3 hgrow hat hlt3 hg0 hF3 hrow hrow2 hE3 hX3 hd3 HOW HNW HO hsz
      refine hK.out _ _ ?_ (fun hHeld => ?_)
      · ((try dsimp only); first | with_reducible exact gd | with_reducible exact ga1 | with_reducible exact gaA | with_reducible exact ga2 | exact ⟨(set_off hnw).trans ga2.1, (set_off hnw).trans ga2.2.1, (set_off hnw).trans ga2.2.2.1, (set_off hnw).trans ga2.2.2.2.1, (set_off hnw).trans ga2.2.2.2.2⟩)
      clear hK K
      try simp only [Act.put, List.setIfInBounds_toArray, List.set_cons_zero, List.set_cons_succ]
      refine wpAnyH_take (i := 10) (v := ?_) rfl (by kernel_rfl) (by kernel_rfl) (by kernel_rfl) (fun _ _ _ h => h) (Or.inl ⟨by rfl, ?_⟩) (by assumption) ?_
      rotate_left
      · (intro w hSw; (try dsimp only at hSw); first | (go_simp; done) | (go_simp; with_reducible rfl))
      try simp only [Act.put, List.setIfInBounds_toArray, List.set_cons_zero, List.set_cons_succ]
      refine wpAnyH_take (i := 11) (v := ?_) rfl (by kernel_rfl) (by kernel_rfl) (by kernel_rfl) (fun _ _ _ h => h) (Or.inl ⟨by rfl, ?_⟩) (by assumption) ?_
      rotate_left
      · (intro w hSw; (try dsimp only at hSw); first | (go_simp; done) | (go_simp; with_reducible rfl))
      try simp only [Act.put, List.setIfInBounds_toArray, List.set_cons_zero, List.set_cons_succ]
      refine wpAnyH_take (i := 12) (v := ?_) rfl (by kernel_rfl) (by kernel_rfl) (by kernel_rfl) (fun _ _ _ h => h) (Or.inl ⟨by rfl, ?_⟩) (by assumption) ?_
      rotate_left
      · (intro w hSw; (try dsimp only at hSw); first | (go_simp; done) | (go_simp; with_reducible rfl))
      try simp only [Act.put, List.setIfInBounds_toArray, List.set_cons_zero, List.set_cons_succ]
      refine wpAnyH_ready (rs := [13]) (by kernel_rfl) (by simp) ?_
      refine AllReadyH.cons rfl (fun K hK => ?_) (AllReadyH.nil)
      go_simp
      refine hK.out _ _ ?_ (fun hHeld => ?_)
      · ((try dsimp only); first | with_reducible exact gd | with_reducible exact ga1 | with_reducible exact gaA | with_reducible exact ga2 | exact ⟨(set_off hnw).trans ga2.1, (set_off hnw).trans ga2.2.1, (set_off hnw).trans ga2.2.2.1, (set_off hnw).trans ga2.2.2.2.1, (set_off hnw).trans ga2.2.2.2.2⟩)
      clear hK K
      try simp only [Act.put, List.setIfInBounds_toArray, List.set_cons_zero, List.set_cons_succ]
      refine wpAnyH_done (by kernel_rfl) ?_ _
      refine NoPanic.normal ?_
      obtain ⟨w4, hw4⟩ : ∃ w4, w4 = w3.setCell ⟨E, 3, none⟩ (.slice (some ⟨gi, 0, none⟩) 1 ci) := ⟨_, rfl⟩
      rw [← hw4]
      have hE4 : EdC w4 E (.slice (some ⟨gi, 0, none⟩) 1 ci) (.slice (some ⟨g, 0, none⟩) N c) := by rw [hw4]; exact heap_put HE3.out 3 _
      have hbu : Bu E w3 w4 := by rw [hw4]; exact Bu.setCell (p := ⟨E, 3, none⟩) (Bu.refl E w3) (Or.inl rfl) _
      have hF4 := HF3.out.bu hbu
      have hk0 : (upR (upR F 2 ⟨3, 1, .slice (some ⟨qa, 0, none⟩) l.length da, l.length, l.map (fun x => Value.int .i64 x)⟩) 1 ⟨38, 5, .slice (some ⟨gi, 0, none⟩) 1 ci, 1, [.int .i64 3, .int .i64 0, .slice (some ⟨qa, 0, none⟩) l.length da, .int .i64 0, .int .i64 0]⟩) 0 = ⟨46, 5, .slice (some ⟨g, 0, none⟩) N c, N, bs⟩ := by rw [upR_off _ _ _ _ (by decide), upR_off _ _ _ _ (by decide)]; exact H0.out
      have hkL : (upR (upR F 2 ⟨3, 1, .slice (some ⟨qa, 0, none⟩) l.length da, l.length, l.map (fun x => Value.int .i64 x)⟩) 1 ⟨38, 5, .slice (some ⟨gi, 0, none⟩) 1 ci, 1, [.int .i64 3, .int .i64 0, .slice (some ⟨qa, 0, none⟩) l.length da, .int .i64 0, .int .i64 0]⟩) kl = ⟨3, 1, .slice V 0 C, 0, []⟩ := by rw [upR_off _ _ _ _ (by omega), upR_off _ _ _ _ (by omega)]; exact HL.out
      have hBo4 := hF4.at hk0
      have p4 : w4.cell? ⟨g, n * 5, none⟩ = some (.slice V 0 C) := (hBo4.cellAt (n * 5) (by have := Hlen.out; show n * 5 < N * 5; omega)).trans HP.out
      obtain ⟨A4, hA4, hbA4, hzA4, h0A4⟩ := r_one_al w4 #[.int .i64 0] 3
      have HOW4 := Lib.hid (own_up (hF4.at hkL) hbA4)
      have HNW4 := Lib.hid (World.news_of_block h0A4)
      have HO4 : Hid (∀ u ∈ ([.int .i64 0] : List Value), u.oneCell' = true) := Lib.hid (by intro u hu; simp at hu; subst hu; rfl)
      have hs4 : w1.heap.size ≤ w4.heap.size := Nat.le_trans Hs3.out hbu.size
      have hsz4 : base ≤ A4.heap.size := by have := HbaW.out; omega
      have Hd4 := Lib.hid (Hd3.out.trans (Bd.of_bu hbu (by have := HbaW.out; have := Hs3.out; omega)))
      have HE4 := Lib.hid hE4
      have HF4 := Lib.hid hF4
      have Hk0 := Lib.hid hk0
      have HkL := Lib.hid hkL
      have HbA4 := Lib.hid hbA4
      have HzA4 := Lib.hid hzA4
      have Hs4 := Lib.hid hs4
      rw [hA4] at HOW4 HNW4 hsz4
      have HA4 := Lib.hid hA4
      clear hw4 hE4 hbu hF4 hk0 hkL hBo4 hA4 hbA4 hzA4 h0A4 hs4 gd ga1 gaA ga2 oD o1 oA o3 of3 p0 e3 HA HbA HzA HXA HEA Hb2s HF2 Hk1 HF3 HE3 Hd3 Hs3 HX HEW HFW hB
      go_wp2_with (at_builtin; refine wpList_append_lies _ rfl (.tmp 59) (.tmp 61) 26 rfl base 3 j0 (.int .i64 0) 1 8 Try.underlying26 Hj.out HjA.out HjB.out HjC.out rfl (by decide) (.slice V 0 C) 0 [] rfl HOW4.out ⟨w4.heap.size, 0, none⟩ 1 1 [.int .i64 0] rfl rfl HNW4.out HO4.out (by decide) (by decide) (by decide) hsz4 _ rfl ?_)
      intro gl cl w5 hown5 hgrow hat hlt5
      rw [← HA4.out] at hgrow
      clear HOW4 HNW4 hsz4
      have hrow := HkL.out
      have hgL : w4.grownBy w5 ((upR (upR F 2 ⟨3, 1, .slice (some ⟨qa, 0, none⟩) l.length da, l.length, l.map (fun x => Value.int .i64 x)⟩) 1 ⟨38, 5, .slice (some ⟨gi, 0, none⟩) 1 ci, 1, [.int .i64 3, .int .i64 0, .slice (some ⟨qa, 0, none⟩) l.length da, .int .i64 0, .int .i64 0]⟩) kl).v.ownBlock := by rw [HkL.out]; exact grown_below HbA4.out hgrow
      have hF5 := HF4.out.grown kl hgL ⟨3, 1, .slice (some ⟨gl, 0, none⟩) 1 cl, 1, [.int .i64 0]⟩ hown5 (fun g' e => by
        simp only [Value.ownBlock, Option.some.injEq] at e
        subst e
        rw [HkL.out]
        rcases hat with h | h
        · exact .inl h
        · exact .inr (by omega))
      have hk5 : upR (upR (upR F 2 ⟨3, 1, .slice (some ⟨qa, 0, none⟩) l.length da, l.length, l.map (fun x => Value.int .i64 x)⟩) 1 ⟨38, 5, .slice (some ⟨gi, 0, none⟩) 1 ci, 1, [.int .i64 3, .int .i64 0, .slice (some ⟨qa, 0, none⟩) l.length da, .int .i64 0, .int .i64 0]⟩) kl ⟨3, 1, .slice (some ⟨gl, 0, none⟩) 1 cl, 1, [.int .i64 0]⟩ 0 = ⟨46, 5, .slice (some ⟨g, 0, none⟩) N c, N, bs⟩ := by rw [upR_off _ _ _ _ (by omega)]; exact Hk0.out
      obtain ⟨hF6, hg6⟩ := hF5.put hk5 (n * 5) (.slice (some ⟨gl, 0, none⟩) 1 cl)
      have hBo5 := hF5.at hk5
      obtain ⟨u5, p5⟩ := own_some hBo5 (n * 5) (by show n * 5 < N * 5; omega)
      have f5 := hBo5.frozenAt (n * 5)
      have hgb := hBo5.lt g rfl
      have hbs5 : base ≤ w5.heap.size := Nat.le_trans (by have := HbaW.out; have := Hs4.out; omega) hgL.size
      have d5 : Bd E base w4 w5 := Bd.of_grown hgL (fun g' e => by rw [HkL.out] at e; exact ((HF4.out.at HkL.out).lt g' e).1) (by have := HbaW.out; have := Hs4.out; omega)
      have d6 : Bd E base w5 (w5.setCell ⟨g, n * 5, none⟩ (.slice (some ⟨gl, 0, none⟩) 1 cl)) := Bd.of_grown hg6 (fun g' e => by cases e; exact hgb.1) hbs5
      have hEg : E ≠ g := by intro e; have := HF4.out.av 0; rw [Hk0.out] at this; exact this (by rw [e]; rfl)
      have hE5 : EdC w5 E (.slice (some ⟨gi, 0, none⟩) 1 ci) (.slice (some ⟨g, 0, none⟩) N c) := (hgL.block E HF4.out.el (fun e => HF4.out.av kl e.symm)).trans HE4.out
      have hE6 : EdC (w5.setCell ⟨g, n * 5, none⟩ (.slice (some ⟨gl, 0, none⟩) 1 cl)) E (.slice (some ⟨gi, 0, none⟩) 1 ci) (.slice (some ⟨g, 0, none⟩) N c) := (Below.heap_setCell _ _ _ _ hEg).trans hE5
      have hend := Lib.hid (And.intro ((Hd4.out.trans d5).trans d6) (And.intro hE6 hF6))
      clear hrow hgL hF5 hk5 hF6 hg6 hBo5 hgb hbs5 d5 d6 hEg hE5 hE6 hown5 hgrow hat hlt5
      go_wp2
      go_ret
      exact ⟨rfl, hend.out.1, qa, da, gi, ci, gl, cl, hend.out.2.1, hend.out.2.2⟩
    · go_simp
      (try rw [← HA.out])
      refine hK.out _ _ ?_ (fun hHeld => ?_)
      · ((try dsimp only); first | with_reducible exact gd | with_reducible exact ga1 | with_reducible exact gaA | with_reducible exact ga2 | exact ⟨(set_off hnw).trans ga2.1, (set_off hnw).trans ga2.2.1, (set_off hnw).trans ga2.2.2.1, (set_off hnw).trans ga2.2.2.2.1, (set_off hnw).trans ga2.2.2.2.2⟩)
      clear hK K
      try simp only [Act.put, List.setIfInBounds_toArray, List.set_cons_zero, List.set_cons_succ]
      refine wpAnyH_ready (rs := [5]) (by kernel_rfl) (by simp) ?_
      refine AllReadyH.cons rfl (fun K hK => ?_) (AllReadyH.nil)
      go_simp
      refine hK.out _ _ ?_ (fun hHeld => ?_)
      · ((try dsimp only); first | with_reducible exact gd | with_reducible exact ga1 | with_reducible exact gaA | with_reducible exact ga2 | exact ⟨(set_off hnw).trans ga2.1, (set_off hnw).trans ga2.2.1, (set_off hnw).trans ga2.2.2.1, (set_off hnw).trans ga2.2.2.2.1, (set_off hnw).trans ga2.2.2.2.2⟩)
      clear hK K
      try simp only [Act.put, List.setIfInBounds_toArray, List.set_cons_zero, List.set_cons_succ]
      refine wpAnyH_ready (rs := [9]) (by kernel_rfl) (by simp) ?_
      refine AllReadyH.cons rfl (fun K hK => ?_) (AllReadyH.nil)
      refine step_append_lies _ rfl (.tmp 40) (.tmp 43) 27 rfl base 38 i0 (.agg #[.int .i64 0, .int .i64 0, .slice none 0 0, .int .i64 0, .int .i64 0]) 5 56 Try.underlying27 Hi.out HiA.out HiB.out HiC.out rfl (by decide) (.slice VI 0 CI) 0 [] (by simp [Act.eval, Act.put]) (by rw [HA.out]; exact HOW.out) ⟨w2.heap.size, 0, none⟩ 1 1 [.int .i64 3, .int .i64 0, .slice (some ⟨qa, 0, none⟩) l.length da, .int .i64 0, .int .i64 0] (by simp [Act.eval, Act.put]) rfl (by rw [HA.out]; exact HNW.out) HO.out (by decide) (by decide) (by decide) (by rw [HA.out]; exact hsz) _ rfl ?_
      intro gi ci w3 hown3 hgrow hat hlt3
      have hg0 : w2.grownBy w3 (upR F 2 ⟨3, 1, .slice (some ⟨qa, 0, none⟩) l.length da, l.length, l.map (fun x => Value.int .i64 x)⟩ 1).v.ownBlock := by rw [Hk1.out]; exact grown_below HbA.out hgrow
      have hF3 := HF2.out.grown 1 hg0 ⟨38, 5, .slice (some ⟨gi, 0, none⟩) 1 ci, 1, [.int .i64 3, .int .i64 0, .slice (some ⟨qa, 0, none⟩) l.length da, .int .i64 0, .int .i64 0]⟩ hown3 (fun g' e => by
        simp only [Value.ownBlock, Option.some.injEq] at e
        subst e
        rw [Hk1.out]
        rcases hat with h | h
        · exact .inl h
        · exact .inr (by have := HzA.out; omega))
      have hrow : (Value.slice VI 0 CI).ownBlock ≠ some E := by have := HFW.out.av 1; rw [H1.out] at this; exact this
      have hrow2 : (Value.slice VI 0 CI).ownBlock ≠ some w.heap.size := fun e => by have := (HF.out.at H1.out).lt _ e; omega
      have hE3 : EdC w3 E (.slice VI 0 CI) (.slice (some ⟨g, 0, none⟩) N c) := (hgrow.block E (heap_in HEA.out) (fun e => hrow e.symm)).trans HEA.out
      have hX3 := (hgrow.block w.heap.size (heap_in HXA.out) (fun e => hrow2 e.symm)).trans HXA.out
      have ga2 : w3.cell? ⟨w.heap.size, 0, none⟩ = some (.int .i64 3) ∧ w3.cell? ⟨w.heap.size, 1, none⟩ = some (.int .i64 0) ∧ w3.cell? ⟨w.heap.size, 2, none⟩ = some (.slice (some ⟨a, 0, none⟩) l.length ca) ∧ w3.cell? ⟨w.heap.size, 3, none⟩ = some (.int .i64 0) ∧ w3.cell? ⟨w.heap.size, 4, none⟩ = some (.int .i64 0) := ⟨Lib.cell_of_heap hX3 0, Lib.cell_of_heap hX3 1, Lib.cell_of_heap hX3 2, Lib.cell_of_heap hX3 3, Lib.cell_of_heap hX3 4⟩
      have o3 : w3.cell? ⟨E, 3, none⟩ = some (.slice VI 0 CI) := Lib.cell_of_heap hE3 3
      have of3 : w3.frozen? ⟨E, 3, none⟩ = false := Lib.frozen_of_heap hE3 3
      have hd3 : Bd E base w w3 := (((Bd.of_below HbW.out hb).trans (Bd.of_below Hbd.out HbaW.out)).trans (Bd.of_below HbA.out (by have := HbaW.out; have := Hb2s.out; omega))).trans (Bd.of_grown hgrow (fun g' e => ((HF.out.at H1.out).lt g' e).1) (by have := HbaW.out; have := Hb2s.out; have := HzA.out; omega))
      have Hs3 := Lib.hid (show w1.heap.size ≤ w3.heap.size by have := hgrow.size; have := Hb2s.out; have := HzA.out; omega)
      have HF3 := Lib.hid hF3
      have HE3 := Lib.hid hE3
      have Hd3 := Lib.hid hd3
      clear hown3 hgrow hat hlt3 hg0 hF3 hrow hrow2 hE3 hX3 hd3 HOW HNW HO hsz
      refine hK.out _ _ ?_ (fun hHeld => ?_)
      · ((try dsimp only); first | with_reducible exact gd | with_reducible exact ga1 | with_reducible exact gaA | with_reducible exact ga2 | exact ⟨(set_off hnw).trans ga2.1, (set_off hnw).trans ga2.2.1, (set_off hnw).trans ga2.2.2.1, (set_off hnw).trans ga2.2.2.2.1, (set_off hnw).trans ga2.2.2.2.2⟩)
      clear hK K
      try simp only [Act.put, List.setIfInBounds_toArray, List.set_cons_zero, List.set_cons_succ]
      refine wpAnyH_take (i := 10) (v := ?_) rfl (by kernel_rfl) (by kernel_rfl) (by kernel_rfl) (fun _ _ _ h => h) (Or.inl ⟨by rfl, ?_⟩) (by assumption) ?_
      rotate_left
      · (intro w hSw; (try dsimp only at hSw); first | (go_simp; done) | (go_simp; with_reducible rfl))
      try simp only [Act.put, List.setIfInBounds_toArray, List.set_cons_zero, List.set_cons_succ]
      refine wpAnyH_take (i := 11) (v := ?_) rfl (by kernel_rfl) (by kernel_rfl) (by kernel_rfl) (fun _ _ _ h => h) (Or.inl ⟨by rfl, ?_⟩) (by assumption) ?_
      rotate_left
      · (intro w hSw; (try dsimp only at hSw); first | (go_simp; done) | (go_simp; with_reducible rfl))
      try simp only [Act.put, List.setIfInBounds_toArray, List.set_cons_zero, List.set_cons_succ]
      refine wpAnyH_take (i := 12) (v := ?_) rfl (by kernel_rfl) (by kernel_rfl) (by kernel_rfl) (fun _ _ _ h => h) (Or.inl ⟨by rfl, ?_⟩) (by assumption) ?_
      rotate_left
      · (intro w hSw; (try dsimp only at hSw); first | (go_simp; done) | (go_simp; with_reducible rfl))
      try simp only [Act.put, List.setIfInBounds_toArray, List.set_cons_zero, List.set_cons_succ]
      refine wpAnyH_ready (rs := [13]) (by kernel_rfl) (by simp) ?_
      refine AllReadyH.cons rfl (fun K hK => ?_) (AllReadyH.nil)
      go_simp
      refine hK.out _ _ ?_ (fun hHeld => ?_)
      · ((try dsimp only); first | with_reducible exact gd | with_reducible exact ga1 | with_reducible exact gaA | with_reducible exact ga2 | exact ⟨(set_off hnw).trans ga2.1, (set_off hnw).trans ga2.2.1, (set_off hnw).trans ga2.2.2.1, (set_off hnw).trans ga2.2.2.2.1, (set_off hnw).trans ga2.2.2.2.2⟩)
      clear hK K
      try simp only [Act.put, List.setIfInBounds_toArray, List.set_cons_zero, List.set_cons_succ]
      refine wpAnyH_done (by kernel_rfl) ?_ _
      refine NoPanic.normal ?_
      obtain ⟨w4, hw4⟩ : ∃ w4, w4 = w3.setCell ⟨E, 3, none⟩ (.slice (some ⟨gi, 0, none⟩) 1 ci) := ⟨_, rfl⟩
      rw [← hw4]
      have hE4 : EdC w4 E (.slice (some ⟨gi, 0, none⟩) 1 ci) (.slice (some ⟨g, 0, none⟩) N c) := by rw [hw4]; exact heap_put HE3.out 3 _
      have hbu : Bu E w3 w4 := by rw [hw4]; exact Bu.setCell (p := ⟨E, 3, none⟩) (Bu.refl E w3) (Or.inl rfl) _
      have hF4 := HF3.out.bu hbu
      have hk0 : (upR (upR F 2 ⟨3, 1, .slice (some ⟨qa, 0, none⟩) l.length da, l.length, l.map (fun x => Value.int .i64 x)⟩) 1 ⟨38, 5, .slice (some ⟨gi, 0, none⟩) 1 ci, 1, [.int .i64 3, .int .i64 0, .slice (some ⟨qa, 0, none⟩) l.length da, .int .i64 0, .int .i64 0]⟩) 0 = ⟨46, 5, .slice (some ⟨g, 0, none⟩) N c, N, bs⟩ := by rw [upR_off _ _ _ _ (by decide), upR_off _ _ _ _ (by decide)]; exact H0.out
      have hkL : (upR (upR F 2 ⟨3, 1, .slice (some ⟨qa, 0, none⟩) l.length da, l.length, l.map (fun x => Value.int .i64 x)⟩) 1 ⟨38, 5, .slice (some ⟨gi, 0, none⟩) 1 ci, 1, [.int .i64 3, .int .i64 0, .slice (some ⟨qa, 0, none⟩) l.length da, .int .i64 0, .int .i64 0]⟩) kl = ⟨3, 1, .slice V 0 C, 0, []⟩ := by rw [upR_off _ _ _ _ (by omega), upR_off _ _ _ _ (by omega)]; exact HL.out
      have hBo4 := hF4.at hk0
      have p4 : w4.cell? ⟨g, n * 5, none⟩ = some (.slice V 0 C) := (hBo4.cellAt (n * 5) (by have := Hlen.out; show n * 5 < N * 5; omega)).trans HP.out
      obtain ⟨A4, hA4, hbA4, hzA4, h0A4⟩ := r_one_al w4 #[.int .i64 0] 3
      have HOW4 := Lib.hid (own_up (hF4.at hkL) hbA4)
      have HNW4 := Lib.hid (World.news_of_block h0A4)
      have HO4 : Hid (∀ u ∈ ([.int .i64 0] : List Value), u.oneCell' = true) := Lib.hid (by intro u hu; simp at hu; subst hu; rfl)
      have hs4 : w1.heap.size ≤ w4.heap.size := Nat.le_trans Hs3.out hbu.size
      have hsz4 : base ≤ A4.heap.size := by have := HbaW.out; omega
      have Hd4 := Lib.hid (Hd3.out.trans (Bd.of_bu hbu (by have := HbaW.out; have := Hs3.out; omega)))
      have HE4 := Lib.hid hE4
      have HF4 := Lib.hid hF4
      have Hk0 := Lib.hid hk0
      have HkL := Lib.hid hkL
      have HbA4 := Lib.hid hbA4
      have HzA4 := Lib.hid hzA4
      have Hs4 := Lib.hid hs4
      rw [hA4] at HOW4 HNW4 hsz4
      have HA4 := Lib.hid hA4
      clear hw4 hE4 hbu hF4 hk0 hkL hBo4 hA4 hbA4 hzA4 h0A4 hs4 gd ga1 gaA ga2 oD o1 oA o3 of3 p0 e3 HA HbA HzA HXA HEA Hb2s HF2 Hk1 HF3 HE3 Hd3 Hs3 HX HEW HFW hB
      go_wp2_with (at_builtin; refine wpList_append_lies _ rfl (.tmp 59) (.tmp 61) 26 rfl base 3 j0 (.int .i64 0) 1 8 Try.underlying26 Hj.out HjA.out HjB.out HjC.out rfl (by decide) (.slice V 0 C) 0 [] rfl HOW4.out ⟨w4.heap.size, 0, none⟩ 1 1 [.int .i64 0] rfl rfl HNW4.out HO4.out (by decide) (by decide) (by decide) hsz4 _ rfl ?_)
      intro gl cl w5 hown5 hgrow hat hlt5
      rw [← HA4.out] at hgrow
      clear HOW4 HNW4 hsz4
      have hrow := HkL.out
      have hgL : w4.grownBy w5 ((upR (upR F 2 ⟨3, 1, .slice (some ⟨qa, 0, none⟩) l.length da, l.length, l.map (fun x => Value.int .i64 x)⟩) 1 ⟨38, 5, .slice (some ⟨gi, 0, none⟩) 1 ci, 1, [.int .i64 3, .int .i64 0, .slice (some ⟨qa, 0, none⟩) l.length da, .int .i64 0, .int .i64 0]⟩) kl).v.ownBlock := by rw [HkL.out]; exact grown_below HbA4.out hgrow
      have hF5 := HF4.out.grown kl hgL ⟨3, 1, .slice (some ⟨gl, 0, none⟩) 1 cl, 1, [.int .i64 0]⟩ hown5 (fun g' e => by
        simp only [Value.ownBlock, Option.some.injEq] at e
        subst e
        rw [HkL.out]
        rcases hat with h | h
        · exact .inl h
        · exact .inr (by omega))
      have hk5 : upR (upR (upR F 2 ⟨3, 1, .slice (some ⟨qa, 0, none⟩) l.length da, l.length, l.map (fun x => Value.int .i64 x)⟩) 1 ⟨38, 5, .slice (some ⟨gi, 0, none⟩) 1 ci, 1, [.int .i64 3, .int .i64 0, .slice (some ⟨qa, 0, none⟩) l.length da, .int .i64 0, .int .i64 0]⟩) kl ⟨3, 1, .slice (some ⟨gl, 0, none⟩) 1 cl, 1, [.int .i64 0]⟩ 0 = ⟨46, 5, .slice (some ⟨g, 0, none⟩) N c, N, bs⟩ := by rw [upR_off _ _ _ _ (by omega)]; exact Hk0.out
      obtain ⟨hF6, hg6⟩ := hF5.put hk5 (n * 5) (.slice (some ⟨gl, 0, none⟩) 1 cl)
      have hBo5 := hF5.at hk5
      obtain ⟨u5, p5⟩ := own_some hBo5 (n * 5) (by show n * 5 < N * 5; omega)
      have f5 := hBo5.frozenAt (n * 5)
      have hgb := hBo5.lt g rfl
      have hbs5 : base ≤ w5.heap.size := Nat.le_trans (by have := HbaW.out; have := Hs4.out; omega) hgL.size
      have d5 : Bd E base w4 w5 := Bd.of_grown hgL (fun g' e => by rw [HkL.out] at e; exact ((HF4.out.at HkL.out).lt g' e).1) (by have := HbaW.out; have := Hs4.out; omega)
      have d6 : Bd E base w5 (w5.setCell ⟨g, n * 5, none⟩ (.slice (some ⟨gl, 0, none⟩) 1 cl)) := Bd.of_grown hg6 (fun g' e => by cases e; exact hgb.1) hbs5
      have hEg : E ≠ g := by intro e; have := HF4.out.av 0; rw [Hk0.out] at this; exact this (by rw [e]; rfl)
      have hE5 : EdC w5 E (.slice (some ⟨gi, 0, none⟩) 1 ci) (.slice (some ⟨g, 0, none⟩) N c) := (hgL.block E HF4.out.el (fun e => HF4.out.av kl e.symm)).trans HE4.out
      have hE6 : EdC (w5.setCell ⟨g, n * 5, none⟩ (.slice (some ⟨gl, 0, none⟩) 1 cl)) E (.slice (some ⟨gi, 0, none⟩) 1 ci) (.slice (some ⟨g, 0, none⟩) N c) := (Below.heap_setCell _ _ _ _ hEg).trans hE5
      have hend := Lib.hid (And.intro ((Hd4.out.trans d5).trans d6) (And.intro hE6 hF6))
      clear hrow hgL hF5 hk5 hF6 hg6 hBo5 hgb hbs5 d5 d6 hEg hE5 hE6 hown5 hgrow hat hlt5
      go_wp2
      go_ret
      exact ⟨rfl, hend.out.1, qa, da, gi, ci, gl, cl, hend.out.2.1, hend.out.2.2⟩
end Go.Proofs.Ytdjpjonikceadaa
