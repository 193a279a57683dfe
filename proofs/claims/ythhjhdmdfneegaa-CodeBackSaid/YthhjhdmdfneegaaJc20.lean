/-
  The base with changes: two numbers of a list are turned round.
-/
import Derived.Test.YthhjhdmdfneegaaJc19
namespace Go.Proofs.Ythhjhdmdfneegaa
set_option linter.unusedVariables false
set_option linter.unusedSimpArgs false
open Go.RowKit

set_option maxRecDepth 100000 in
set_option maxHeartbeats 8000000 in
theorem way9 {s : Nat → Value} {w0 w : World} {B fb : Nat} {mn : Int} {n : Nat} {F : Nat → GRw} {cb f xi bi ib bb : Nat} {t to_ nn : Int} (h : Wy s w0 w B fb mn n F cb f xi bi ib bb t to_ nn) (Q : Exit → Act → World → Prop) (hQ : ∀ a' w' mn' F', KeepF s a' → PS w0 w' B fb mn' (n + 1) F' → Q .normal a' w') : chW9.wp Try.prog Q (fr s) w := by
  have hb := h.hb
  have hq : bi * 5 + 1 < blkM f * 5 := by omega
  have hP : blkP f (bi * 5 + 1) = .r (bN f bi 1) := by unfold blkP; rw [if_neg (by omega), if_pos (by omega), show (bi * 5 + 1) / 5 = bi by omega]
  have hrj : rk (bN f bi 1) = .ints := (rk_far (by unfold bN; omega))
  obtain ⟨v, -, hv, hc, hfz⟩ := h.ps.stat (rk_blk h.hf) h.fk (bi * 5 + 1) hq
  obtain ⟨l, A, lc, hFj, hl, hln, hA⟩ := h.ps.ir hrj
  have hv2 : v = .slice A l.length lc := by
    rw [hP] at hv
    have : v = (F (bN f bi 1)).v := hv
    rw [this, hFj]
  subst hv2
  have hn := h.hn
  have hPd : PS w0 w.drew B fb mn n F := h.ps.keep ((Below.refl _ _).drew)
  obtain ⟨m, hm⟩ : ∃ m, m = l.length := ⟨_, rfl⟩
  rw [← hm] at hc
  have H0 := Lib.hid (h.ps.mono (Nat.le_succ n))
  by_cases hp : 1 < l.length
  · obtain ⟨gg, hAg, -, hgg⟩ := hA (by omega)
    subst hAg
    have ho := h.ps.fam.at hFj
    obtain ⟨r, hr⟩ : ∃ r, r = 1 := ⟨_, rfl⟩
    have hrl : r < l.length := by omega
    have hr0 : 0 < l.length := by omega
    have HE := Lib.hid ((hPd.swap hrj hFj (q := 0) (r := r) (x := l[r]) (y := l[0]) (hl _ (List.getElem_mem _)) (hl _ (List.getElem_mem _)) hl hln (all_on h.ps.ci.all (fun l2 h2 => ⟨_, rfl, fun x hx => by
      rw [hFj] at h2
      have e := intsV_inj h2
      subst e
      exact swap_mem l 0 r hr0 hrl x hx⟩))).mono (Nat.le_succ n))
    obtain ⟨x, hx⟩ : ∃ x, x = l[0] := ⟨_, rfl⟩
    obtain ⟨y, hy⟩ : ∃ y, y = l[r] := ⟨_, rfl⟩
    have d0 : w.cell? ⟨gg, 0, none⟩ = some (.int .i64 x) := (ho.cellAt 0 (by show 0 < l.length * 1; omega)).trans (by show (intsV l)[0]? = _; simp [intsV, hx, List.getElem?_eq_getElem hr0])
    have dr : w.cell? ⟨gg, r, none⟩ = some (.int .i64 y) := (ho.cellAt r (by show r < l.length * 1; omega)).trans (by show (intsV l)[r]? = _; simp [intsV, hy, List.getElem?_eq_getElem hrl])
    rw [← hx, ← hy] at HE
    have f0 : w.frozen? ⟨gg, 0, none⟩ = false := ho.frozenAt 0
    have f1 : w.frozen? ⟨gg, r, none⟩ = false := ho.frozenAt r
    have hmp : 1 < m := by omega
    have hm0 : 0 < m := by omega
    have hmi : (1 : Int) < (m : Int) := by omega
    have hrm : r < m := by omega
    have hm16 : m ≤ 8 := by omega
    have hri : (r : Int) < (m : Int) := by omega
    have hrw : (m : Int) - 1 = (r : Int) ∨ r = 1 := by omega
    have hrp : 0 < r := by omega
    have hne : ¬ (0 : Nat) = r := by omega
    have hng : bb ≠ gg := fun e => h.ps.fam.apart (k := bN f bi 1) (l := sN f 2) (fun e => by have := (rk_blk h.hf); rw [← e, hrj] at this; cases this) hFj h.fk (g := bb) rfl (by rw [e]; rfl)
    have hs := h.s7
    rw [fr_lit]
    conv => arg 2; whnf
    rw [hs]
    clear hs hPd ho hx hy hm hp hA hFj hl hln hrj hP hq hb hfz hv h
    subst hr
    clear hrw
    have z0 : w.drew.cell? ⟨bb, bi * 5 + 1, none⟩ = some (.slice (some ⟨gg, 0, none⟩) m lc) := hc
    have z1 : (w.setCell ⟨gg, 0, none⟩ (.int .i64 y)).drew.cell? ⟨bb, bi * 5 + 1, none⟩ = some (.slice (some ⟨gg, 0, none⟩) m lc) := (cl_same (Below.heap_setCell _ _ _ _ hng) _).trans z0
    have z2 : ((w.setCell ⟨gg, 0, none⟩ (.int .i64 y)).setCell ⟨gg, 1, none⟩ (.int .i64 x)).drew.cell? ⟨bb, bi * 5 + 1, none⟩ = some (.slice (some ⟨gg, 0, none⟩) m lc) := (cl_same (Below.heap_setCell _ _ _ _ hng) _).trans z1
    have HE2 : Hid (PS w0 ((w.setCell ⟨gg, 0, none⟩ (.int .i64 y)).setCell ⟨gg, 1, none⟩ (.int .i64 x)).drew B fb mn (n + 1) _) := HE
    go_upto_region 33 with fail
    clear hc
    refine wp_region_noPanic ?_
    refine wp_region_held_drew (S := fun w' => w'.cell? ⟨bb, bi * 5 + 1, none⟩ = some (.slice (some ⟨gg, 0, none⟩) m lc)) (by kernel_rfl) z0 (fun hHeld => ?_)
    refine wpAnyH_take (i := 0) (v := ?_) rfl (by kernel_rfl) (by kernel_rfl) (by kernel_rfl) (fun _ _ _ h => h) (Or.inl ⟨by rfl, ?_⟩) (by assumption) ?_
    rotate_left
    · (intro w hSw; (try dsimp only at hSw); first | (go_simp; done) | (go_simp; with_reducible rfl))
    try simp only [Act.put, List.setIfInBounds_toArray, List.set_cons_zero, List.set_cons_succ]
    refine wpAnyH_take (i := 1) (v := ?_) rfl (by kernel_rfl) (by kernel_rfl) (by kernel_rfl) (fun _ _ _ h => h) (Or.inl ⟨by rfl, ?_⟩) (by assumption) ?_
    rotate_left
    · (intro w hSw; (try dsimp only at hSw); first | (go_simp; done) | (go_simp; with_reducible rfl))
    try simp only [Act.put, List.setIfInBounds_toArray, List.set_cons_zero, List.set_cons_succ]
    refine wpAnyH_take (i := 2) (v := ?_) rfl (by kernel_rfl) (by kernel_rfl) (by kernel_rfl) (fun _ _ _ h => h) (Or.inl ⟨by rfl, ?_⟩) (by assumption) ?_
    rotate_left
    · (intro w hSw; (try dsimp only at hSw); first | (go_simp; done) | (go_simp; with_reducible rfl))
    try simp only [Act.put, List.setIfInBounds_toArray, List.set_cons_zero, List.set_cons_succ]
    refine wpAnyH_take (i := 3) (v := ?_) rfl (by kernel_rfl) (by kernel_rfl) (by kernel_rfl) (fun _ _ _ h => h) (Or.inl ⟨by rfl, ?_⟩) (by assumption) ?_
    rotate_left
    · (intro w hSw; (try dsimp only at hSw); first | (go_simp; done) | (go_simp; with_reducible rfl))
    try simp only [Act.put, List.setIfInBounds_toArray, List.set_cons_zero, List.set_cons_succ]
    refine wpAnyH_take (i := 4) (v := ?_) rfl (by kernel_rfl) (by kernel_rfl) (by kernel_rfl) (fun _ _ _ h => h) (Or.inl ⟨by rfl, ?_⟩) (by assumption) ?_
    rotate_left
    · (intro w hSw; (try dsimp only at hSw); first | (go_simp; done) | (go_simp; with_reducible rfl))
    try simp only [Act.put, List.setIfInBounds_toArray, List.set_cons_zero, List.set_cons_succ]
    refine wpAnyH_take (i := 5) (v := ?_) rfl (by kernel_rfl) (by kernel_rfl) (by kernel_rfl) (fun _ _ _ h => h) (Or.inl ⟨by rfl, ?_⟩) (by assumption) ?_
    rotate_left
    · (intro w hSw; (try dsimp only at hSw); first | (go_simp; done) | (go_simp; with_reducible rfl))
    try simp only [Act.put, List.setIfInBounds_toArray, List.set_cons_zero, List.set_cons_succ]
    refine wpAnyH_take (i := 6) (v := ?_) rfl (by kernel_rfl) (by kernel_rfl) (by kernel_rfl) (fun _ _ _ h => h) (Or.inl ⟨by rfl, ?_⟩) (by assumption) ?_
    rotate_left
    · (intro w hSw; (try dsimp only at hSw); first | (go_simp; done) | (go_simp; with_reducible rfl))
    try simp only [Act.put, List.setIfInBounds_toArray, List.set_cons_zero, List.set_cons_succ]
    refine wpAnyH_take (i := 7) (v := ?_) rfl (by kernel_rfl) (by kernel_rfl) (by kernel_rfl) (fun _ _ _ h => h) (Or.inl ⟨by rfl, ?_⟩) (by assumption) ?_
    rotate_left
    · (intro w hSw; (try dsimp only at hSw); first | (go_simp; done) | (go_simp; with_reducible rfl))
    try simp only [Act.put, List.setIfInBounds_toArray, List.set_cons_zero, List.set_cons_succ]
    refine wpAnyH_take (i := 8) (v := ?_) rfl (by kernel_rfl) (by kernel_rfl) (by kernel_rfl) (fun _ _ _ h => h) (Or.inl ⟨by rfl, ?_⟩) (by assumption) ?_
    rotate_left
    · (intro w hSw; (try dsimp only at hSw); first | (go_simp; done) | (go_simp; with_reducible rfl))
    try simp only [Act.put, List.setIfInBounds_toArray, List.set_cons_zero, List.set_cons_succ]
    refine wpAnyH_take (i := 9) (v := ?_) rfl (by kernel_rfl) (by kernel_rfl) (by kernel_rfl) (fun _ _ _ h => h) (Or.inl ⟨by rfl, ?_⟩) (by assumption) ?_
    rotate_left
    · (intro w hSw; (try dsimp only at hSw); first | (go_simp; done) | (go_simp; with_reducible rfl))
    try simp only [Act.put, List.setIfInBounds_toArray, List.set_cons_zero, List.set_cons_succ]
    refine wpAnyH_take (i := 10) (v := ?_) rfl (by kernel_rfl) (by kernel_rfl) (by kernel_rfl) (fun _ _ _ h => h) (Or.inl ⟨by rfl, ?_⟩) (by assumption) ?_
    rotate_left
    · (intro w hSw; (try dsimp only at hSw); first | (go_simp; done) | (go_simp; with_reducible rfl))
    try simp only [Act.put, List.setIfInBounds_toArray, List.set_cons_zero, List.set_cons_succ]
    refine wpAnyH_take (i := 11) (v := ?_) rfl (by kernel_rfl) (by kernel_rfl) (by kernel_rfl) (fun _ _ _ h => h) (Or.inl ⟨by rfl, ?_⟩) (by assumption) ?_
    rotate_left
    · (intro w hSw; (try dsimp only at hSw); first | (go_simp; done) | (go_simp; with_reducible rfl))
    try simp only [Act.put, List.setIfInBounds_toArray, List.set_cons_zero, List.set_cons_succ]
    refine wpAnyH_take (i := 12) (v := ?_) rfl (by kernel_rfl) (by kernel_rfl) (by kernel_rfl) (fun _ _ _ h => h) (Or.inl ⟨by rfl, ?_⟩) (by assumption) ?_
    rotate_left
    · (intro w hSw; (try dsimp only at hSw); first | (go_simp; done) | (go_simp; with_reducible rfl))
    try simp only [Act.put, List.setIfInBounds_toArray, List.set_cons_zero, List.set_cons_succ]
    refine wpAnyH_take (i := 14) (v := ?_) rfl (by kernel_rfl) (by kernel_rfl) (by kernel_rfl) (fun _ _ _ h => h) (Or.inl ⟨by rfl, ?_⟩) (by assumption) ?_
    rotate_left
    · (intro w hSw; (try dsimp only at hSw); first | (go_simp; done) | (go_simp; with_reducible rfl))
    try simp only [Act.put, List.setIfInBounds_toArray, List.set_cons_zero, List.set_cons_succ]
    refine wpAnyH_take (i := 15) (v := ?_) rfl (by kernel_rfl) (by kernel_rfl) (by kernel_rfl) (fun _ _ _ h => h) (Or.inl ⟨by rfl, ?_⟩) (by assumption) ?_
    rotate_left
    · (intro w hSw; (try dsimp only at hSw); first | (go_simp; done) | (go_simp; with_reducible rfl))
    try simp only [Act.put, List.setIfInBounds_toArray, List.set_cons_zero, List.set_cons_succ]
    refine wpAnyH_take (i := 16) (v := ?_) rfl (by kernel_rfl) (by kernel_rfl) (by kernel_rfl) (fun _ _ _ h => h) (Or.inl ⟨by rfl, ?_⟩) (by assumption) ?_
    rotate_left
    · (intro w hSw; (try dsimp only at hSw); first | (go_simp; done) | (go_simp; with_reducible rfl))
    try simp only [Act.put, List.setIfInBounds_toArray, List.set_cons_zero, List.set_cons_succ]
    refine wpAnyH_take (i := 17) (v := ?_) rfl (by kernel_rfl) (by kernel_rfl) (by kernel_rfl) (fun _ _ _ h => h) (Or.inl ⟨by rfl, ?_⟩) (by assumption) ?_
    rotate_left
    · (intro w hSw; (try dsimp only at hSw); first | (go_simp; done) | (go_simp; with_reducible rfl))
    try simp only [Act.put, List.setIfInBounds_toArray, List.set_cons_zero, List.set_cons_succ]
    refine wpAnyH_take (i := 18) (v := ?_) rfl (by kernel_rfl) (by kernel_rfl) (by kernel_rfl) (fun _ _ _ h => h) (Or.inl ⟨by rfl, ?_⟩) (by assumption) ?_
    rotate_left
    · (intro w hSw; (try dsimp only at hSw); first | (go_simp; done) | (go_simp; with_reducible rfl))
    try simp only [Act.put, List.setIfInBounds_toArray, List.set_cons_zero, List.set_cons_succ]
    refine wpAnyH_ready (rs := [13, 19]) (by kernel_rfl) (by simp) ?_
    refine AllReadyH.cons rfl (fun K hK => ?_) (AllReadyH.cons rfl (fun K hK => ?_) (AllReadyH.nil))
    · go_simp
      refine hK.out _ _ ?_ (fun hHeld => ?_)
      · ((try dsimp only); first | with_reducible exact z0 | with_reducible exact z1 | with_reducible exact z2)
      clear hK K
      try simp only [Act.put, List.setIfInBounds_toArray, List.set_cons_zero, List.set_cons_succ]
      refine wpAnyH_ready (rs := [19]) (by kernel_rfl) (by simp) ?_
      refine AllReadyH.cons rfl (fun K hK => ?_) (AllReadyH.nil)
      go_simp
      refine hK.out _ _ ?_ (fun hHeld => ?_)
      · ((try dsimp only); first | with_reducible exact z0 | with_reducible exact z1 | with_reducible exact z2)
      clear hK K
      try simp only [Act.put, List.setIfInBounds_toArray, List.set_cons_zero, List.set_cons_succ]
      refine wpAnyH_take (i := 20) (v := ?_) rfl (by kernel_rfl) (by kernel_rfl) (by kernel_rfl) (fun _ _ _ h => h) (Or.inl ⟨by rfl, ?_⟩) (by assumption) ?_
      rotate_left
      · (intro w hSw; (try dsimp only at hSw); first | (go_simp; done) | (go_simp; with_reducible rfl))
      try simp only [Act.put, List.setIfInBounds_toArray, List.set_cons_zero, List.set_cons_succ]
      refine wpAnyH_ready (rs := [21]) (by kernel_rfl) (by simp) ?_
      refine AllReadyH.cons rfl (fun K hK => ?_) (AllReadyH.nil)
      go_simp
      refine hK.out _ _ ?_ (fun hHeld => ?_)
      · ((try dsimp only); first | with_reducible exact z0 | with_reducible exact z1 | with_reducible exact z2)
      clear hK K
      try simp only [Act.put, List.setIfInBounds_toArray, List.set_cons_zero, List.set_cons_succ]
      refine wpAnyH_take (i := 22) (v := ?_) rfl (by kernel_rfl) (by kernel_rfl) (by kernel_rfl) (fun _ _ _ h => h) (Or.inl ⟨by rfl, ?_⟩) (by assumption) ?_
      rotate_left
      · (intro w hSw; (try dsimp only at hSw); first | (go_simp; done) | (go_simp; with_reducible rfl))
      try simp only [Act.put, List.setIfInBounds_toArray, List.set_cons_zero, List.set_cons_succ]
      refine wpAnyH_ready (rs := [23]) (by kernel_rfl) (by simp) ?_
      refine AllReadyH.cons rfl (fun K hK => ?_) (AllReadyH.nil)
      go_simp
      refine hK.out _ _ ?_ (fun hHeld => ?_)
      · ((try dsimp only); first | with_reducible exact z0 | with_reducible exact z1 | with_reducible exact z2)
      clear hK K
      try simp only [Act.put, List.setIfInBounds_toArray, List.set_cons_zero, List.set_cons_succ]
      refine wpAnyH_done (by kernel_rfl) ?_ _
      refine NoPanic.normal ?_
      go_wp2
      exact hQ _ _ _ _ ⟨rfl, rfl, rfl, rfl, rfl, rfl⟩ HE2.out
    · go_simp
      refine hK.out _ _ ?_ (fun hHeld => ?_)
      · ((try dsimp only); first | with_reducible exact z0 | with_reducible exact z1 | with_reducible exact z2)
      clear hK K
      try simp only [Act.put, List.setIfInBounds_toArray, List.set_cons_zero, List.set_cons_succ]
      refine wpAnyH_ready (rs := [13]) (by kernel_rfl) (by simp) ?_
      refine AllReadyH.cons rfl (fun K hK => ?_) (AllReadyH.nil)
      go_simp
      refine hK.out _ _ ?_ (fun hHeld => ?_)
      · ((try dsimp only); first | with_reducible exact z0 | with_reducible exact z1 | with_reducible exact z2)
      clear hK K
      try simp only [Act.put, List.setIfInBounds_toArray, List.set_cons_zero, List.set_cons_succ]
      refine wpAnyH_take (i := 20) (v := ?_) rfl (by kernel_rfl) (by kernel_rfl) (by kernel_rfl) (fun _ _ _ h => h) (Or.inl ⟨by rfl, ?_⟩) (by assumption) ?_
      rotate_left
      · (intro w hSw; (try dsimp only at hSw); first | (go_simp; done) | (go_simp; with_reducible rfl))
      try simp only [Act.put, List.setIfInBounds_toArray, List.set_cons_zero, List.set_cons_succ]
      refine wpAnyH_ready (rs := [21]) (by kernel_rfl) (by simp) ?_
      refine AllReadyH.cons rfl (fun K hK => ?_) (AllReadyH.nil)
      go_simp
      refine hK.out _ _ ?_ (fun hHeld => ?_)
      · ((try dsimp only); first | with_reducible exact z0 | with_reducible exact z1 | with_reducible exact z2)
      clear hK K
      try simp only [Act.put, List.setIfInBounds_toArray, List.set_cons_zero, List.set_cons_succ]
      refine wpAnyH_take (i := 22) (v := ?_) rfl (by kernel_rfl) (by kernel_rfl) (by kernel_rfl) (fun _ _ _ h => h) (Or.inl ⟨by rfl, ?_⟩) (by assumption) ?_
      rotate_left
      · (intro w hSw; (try dsimp only at hSw); first | (go_simp; done) | (go_simp; with_reducible rfl))
      try simp only [Act.put, List.setIfInBounds_toArray, List.set_cons_zero, List.set_cons_succ]
      refine wpAnyH_ready (rs := [23]) (by kernel_rfl) (by simp) ?_
      refine AllReadyH.cons rfl (fun K hK => ?_) (AllReadyH.nil)
      go_simp
      refine hK.out _ _ ?_ (fun hHeld => ?_)
      · ((try dsimp only); first | with_reducible exact z0 | with_reducible exact z1 | with_reducible exact z2)
      clear hK K
      try simp only [Act.put, List.setIfInBounds_toArray, List.set_cons_zero, List.set_cons_succ]
      refine wpAnyH_done (by kernel_rfl) ?_ _
      refine NoPanic.normal ?_
      go_wp2
      exact hQ _ _ _ _ ⟨rfl, rfl, rfl, rfl, rfl, rfl⟩ HE2.out
  · have hs := h.s7
    have hmn : ¬ 1 < m := by omega
    have hmi : ¬ (1 : Int) < (m : Int) := by omega
    rw [fr_lit]
    conv => arg 2; whnf
    rw [hs]
    clear hs hPd hA hFj hl hln hrj hP hq hb hfz hv hm hp h
    go_wp2
    exact hQ _ _ _ _ ⟨rfl, rfl, rfl, rfl, rfl, rfl⟩ H0.out
end Go.Proofs.Ythhjhdmdfneegaa
