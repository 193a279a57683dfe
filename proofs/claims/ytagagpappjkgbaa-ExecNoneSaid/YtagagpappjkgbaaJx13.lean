/-
  The runner's set.
-/
import Derived.Test.YtagagpappjkgbaaJx12
namespace Go.Proofs.Ytagagpappjkgbaa
set_option linter.unusedVariables false
set_option linter.unusedSimpArgs false
open Go.RowKit Go.Shelf Go.Sort

theorem setX_some {r r' : XR} {id : Int} {v : XV} (h : setX r id v = some r') : ∃ (k : Nat) (ps : List XPl) (p : XPl), id = (k : Int) ∧ r.kept.length < 1048576 ∧ r.places[r.now.which]? = some ps ∧ ps[k]? = some p ∧
    r' = { r with kept := if p.deep = (deepX r : Int) then r.kept else r.kept ++ [⟨r.now.which, k, p⟩], places := r.places.set r.now.which (ps.set k ⟨v, (deepX r : Int)⟩) } := by
  unfold setX at h
  split at h
  · next h0 =>
    rw [Option.bind_eq_some_iff] at h
    obtain ⟨ps, h1, h2⟩ := h
    rw [Option.map_eq_some_iff] at h2
    obtain ⟨p, h3, h4⟩ := h2
    exact ⟨id.toNat, ps, p, by omega, h0.2, h1, h3, h4.symm⟩
  · cases h
section
variable {n0 base E : Nat} {fs : List SF} {cm : List (List (Int × Int))} {r : XR} {M : XM} {F : Nat → GRw} {w : World}
/-- What a method leaves: the runner in another state; tables stay where they are. -/
def XTo (n0 base E : Nat) (fs : List SF) (cm : List (List (Int × Int))) (r : XR) (M : XM) (w w' : World) : Prop := (∃ (M' : XM) (F' : Nat → GRw), XOk n0 base E fs cm r M' F' w' ∧ M'.tb = M.tb) ∧ Below base w w'
set_option maxRecDepth 100000 in
set_option maxHeartbeats 8000000 in
theorem set_c (h : XOk n0 base E fs cm r M F w) (id : Int) (v : XV) (r' : XR) (hs : setX r id v = some r') :
    Calls Try.prog 105 #[.pointer (some ⟨E, 0, none⟩), .int .i64 id, .agg #[.int .i64 v.n, .pointer (v.of_.map fun t => ⟨M.tb t, 0, none⟩)]] w fun e w' => e = .returned (.tuple #[]) ∧ XTo n0 base E fs cm r' M w w' := by
  obtain ⟨k, ps, p, rfl, hkl, hp, hq, hr'⟩ := setX_some hs
  obtain ⟨dx, hdx⟩ : ∃ dx, dx = deepX r := ⟨_, rfl⟩
  rw [← hdx] at hr'
  obtain ⟨pv, hpv⟩ : ∃ pv : Option Addr, pv = v.of_.map (fun t => ⟨M.tb t, 0, none⟩) := ⟨_, rfl⟩
  rw [← hpv]
  obtain ⟨W, hW, hbW, hzW, h0W⟩ := gr_one w #[.int .i64 v.n, .pointer pv] 156
  have hbD : Below w.heap.size w W.drew := hbW.drew
  have h' := h.keep hbD
  obtain ⟨f, hf, hpl⟩ := h.some_fn hp
  have hW0 := h.keep hbW
  obtain ⟨fb, fv, hfA, hi, -, -, -, c6, -, -, hib, -⟩ := hW0.fn_at hf
  obtain ⟨-, -, p2⟩ := h'.place_at hp hq
  have x10 := hW0.sq.cell 10 _ rfl
  have x11 := hW0.sq.cell 11 _ rfl
  have hk : k < ps.length := (List.getElem?_eq_some_iff.mp hq).1
  have hkf := hk
  rw [hpl] at hkf
  rw [hfA] at x10
  have hlb := h.lb
  obtain ⟨wi, hwi⟩ : ∃ wi, wi = r.now.which := ⟨_, rfl⟩
  rw [← hwi] at hp hr' hi c6 p2 x11
  obtain ⟨pp, hpp⟩ : ∃ pp : Option Addr, pp = p.v.of_.map (fun t => ⟨M.tb t, 0, none⟩) := ⟨_, rfl⟩
  have H' : Hid (XOk n0 base E fs cm r M F W.drew) := Lib.hid h'
  have HbD := Lib.hid hbD
  have Hp : Hid (r.places[wi]? = some ps) := Lib.hid hp
  have Hq := Lib.hid hq
  have Hk := Lib.hid hk
  have Hpv := Lib.hid hpv
  have Hpp := Lib.hid hpp
  have Hdx : Hid (deepX r = dx) := Lib.hid hdx.symm
  have H0F : Hid (w.ownsRow base (F 3).T (F 3).z (F 3).v (F 3).n (F 3).xs) := Lib.hid (h.sq.fam.own 3)
  have HEl : Hid (E < w.heap.size ∧ base ≤ E ∧ base ≤ w.heap.size) := Lib.hid ⟨h.sq.fam.el, h.sq.bE, h.sq.hb⟩
  have HB0 : Hid (∀ A, Below W.drew.heap.size W.drew A → A.cell? ⟨w.heap.size, 0, none⟩ = some (.int .i64 v.n) ∧ A.cell? ⟨w.heap.size, 1, none⟩ = some (.pointer pv)) := Lib.hid fun A hA => by
    have e := (hA.block w.heap.size (by show w.heap.size < W.heap.size; omega)).trans h0W
    exact ⟨Lib.cell_of_heap e 0, Lib.cell_of_heap e 1⟩
  have hDq := ex_call W.drew fun A hA => (deep_c (h'.keep hA)).mono fun e w' he => by
    obtain ⟨e1, e2⟩ := he
    rw [e2]
    exact And.intro e1 (Below.refl _ _)
  rw [← hdx] at hDq
  have HW := Lib.hid hW
  have Hwz : Hid (W.heap.size = w.heap.size + 1) := Lib.hid hzW
  generalize fs.length = fn at x10 hi hlb
  generalize f.ins.length = inn at c6 hkf hib
  clear hwi h h' hW0 hs hp hq hf hfA hpl hpv hpp hdx hW hbW hzW h0W hbD hk
  go_enter Try.func105, Try.ntmps105
  go_upto_region 1 with fail
  rw [← HW.out]
  go_still_tail 14, (by kernel_rfl)
  change wpList _ _ _ _ _ W.drew
  go_upto_region 2 with fail
  clear x10 x11 c6
  obtain ⟨D, hD⟩ : ∃ D, D = W.drew := ⟨_, rfl⟩
  rw [← hD] at hDq p2 H' HbD HB0 ⊢
  clear hD
  have q2 := cell_regrown p2
  refine wp_region_quiet_below (by kernel_rfl) (by kernel_rfl) ?_
  repeat (go_big_quiet_step (first | exact hDq _))
  refine wpQuiet_nil ?_
  intro X hw'
  obtain ⟨⟨dq, osq⟩, hw''⟩ := hw'
  have hbX : Below D.heap.size D X := by rw [hw'']; exact below_regrown D dq osq
  have HX : Hid (XOk n0 base E fs cm r M F X) := Lib.hid (H'.out.keep hbX)
  have HbX : Hid (Below D.heap.size D X) := Lib.hid hbX
  clear hw'' hDq q2 p2 hbX
  by_cases hdeep : p.deep = (dx : Int)
  · have d1 : (p.deep != (dx : Int)) = false := by rw [hdeep]; simp
    rw [if_pos hdeep] at hr'
    have HY : Hid (XOk n0 base E fs cm r M F X ∧ True) := Lib.hid ⟨HX.out, trivial⟩
    have HT : Hid (X.cell? ⟨w.heap.size, 0, none⟩ = some (.int .i64 v.n) ∧ X.cell? ⟨w.heap.size, 1, none⟩ = some (.pointer pv)) := Lib.hid (HB0.out X HbX.out)
    have Hr' := Lib.hid hr'
    have Hdeep := Lib.hid hdeep
    clear hr' hdeep
    go_upto_region 4 with fail
    obtain ⟨f', hf', hpl'⟩ := HY.out.1.some_fn Hp.out
    have hD := deep_c (HY.out.1.keep ((Below.refl X.heap.size X).drew))
    have hdx : deepX r = dx := Hdx.out
    rw [hdx] at hD
    obtain ⟨hP, hPb⟩ := (HY.out.1.keep ((Below.refl X.heap.size X).drew)).place_set Hp.out Hk.out ⟨v, (dx : Int)⟩
    have htb : M.tb = M.tb := rfl
    have hpb : M.pb = M.pb := rfl
    rw [htb, hpb, ← Hpv.out] at hP hPb
    obtain ⟨o0, o1, o2⟩ := HY.out.1.place_at Hp.out Hq.out
    rw [hpb] at o0 o1 o2
    have of : ∀ j, X.frozen? ⟨M.pb wi, j, none⟩ = false := fun j => by
      have := HY.out.1.sq.at (HY.out.1.fp _ _ Hp.out)
      rcases this.2 with ⟨e, -⟩ | ⟨g, cap, cur, e, -, hg, -⟩
      · cases e
      · injection e with e1
        have e2 : M.pb wi = g := by injection e1 with e1; injection e1
        rw [e2]
        exact Lib.frozen_of_heap hg j
    have HP : Hid ((∃ F', XOk n0 base E fs cm { r with places := r.places.set wi (ps.set k ⟨v, (dx : Int)⟩) } M F' (((X.drew.setCell ⟨M.pb wi, k * 3, none⟩ (.int .i64 v.n)).setCell ⟨M.pb wi, k * 3 + 1, none⟩ (.pointer pv)).setCell ⟨M.pb wi, k * 3 + 2, none⟩ (.int .i64 (dx : Int)))) ∧ Below base X (((X.drew.setCell ⟨M.pb wi, k * 3, none⟩ (.int .i64 v.n)).setCell ⟨M.pb wi, k * 3 + 1, none⟩ (.pointer pv)).setCell ⟨M.pb wi, k * 3 + 2, none⟩ (.int .i64 (dx : Int)))) := Lib.hid ⟨hP, ((Below.refl base X).drew).trans hPb⟩
    obtain ⟨Z, hZ⟩ : ∃ Z, Z = (((X.setCell ⟨M.pb wi, k * 3, none⟩ (.int .i64 v.n)).setCell ⟨M.pb wi, k * 3 + 1, none⟩ (.pointer pv)).setCell ⟨M.pb wi, k * 3 + 2, none⟩ (.int .i64 (dx : Int))).drew := ⟨_, rfl⟩
    have hZ2 : (((X.drew.setCell ⟨M.pb wi, k * 3, none⟩ (.int .i64 v.n)).setCell ⟨M.pb wi, k * 3 + 1, none⟩ (.pointer pv)).setCell ⟨M.pb wi, k * 3 + 2, none⟩ (.int .i64 (dx : Int))) = Z := hZ.symm
    rw [hZ2] at HP
    obtain ⟨t0, t1⟩ := HT.out
    have HZ := Lib.hid hZ
    clear hZ hZ2 hP hPb htb hpb hdx hf' hpl' f'
    refine wp_region_still_tail 6 (by kernel_rfl) (by kernel_rfl) ?_
    simp only [List.take_succ_cons, List.take_zero, List.drop_succ_cons, List.drop_zero]
    refine wpStill_of_quiet _ _ ?_
    repeat (go_big_quiet_step (exact hD _))
    refine wpQuiet_nil ?_
    change wpList _ _ _ _ _ X.drew
    clear t0 t1 hD
    go_wp2
    rw [← HZ.out]
    try simp only [Exit.inBlock, Exit.then]
    refine bodyPost_end (results_none rfl _ _ _) rfl ?_
    refine ⟨rfl, ?_⟩
    rw [Hr'.out]
    obtain ⟨⟨F', hF'⟩, hB'⟩ := HP.out
    exact ⟨⟨M, F', hF', rfl⟩, ((HbD.out.mono HEl.out.2.2).trans (HbX.out.mono (Nat.le_trans HEl.out.2.2 HbD.out.size))).trans hB'⟩
  · have d1 : (p.deep != (dx : Int)) = true := by simpa using hdeep
    rw [if_neg hdeep] at hr'
    have Hr' := Lib.hid hr'
    have Hdeep := Lib.hid hdeep
    have HXd : Hid (XOk n0 base E fs cm r M F X.drew) := Lib.hid (HX.out.keep ((Below.refl X.heap.size X).drew))
    have y18 := HX.out.sq.cell 18 _ rfl
    have yf := HX.out.sq.fro 18
    obtain ⟨p0, p1, p2⟩ := HX.out.place_at Hp.out Hq.out
    rw [← Hpp.out] at p1
    have hrow : F 3 = ⟨179, 4, .slice (M.sa 3) r.kept.length (M.sc 3), r.kept.length, r.kept.flatMap (kCell M.tb M.pb)⟩ := HXd.out.fr 3 (by omega)
    have hown := HXd.out.sq.at hrow
    have hA := addK base (M.sa 3) r.kept.length (M.sc 3) _ (some ⟨M.pb wi, k * 3, none⟩) p.v.n pp p.deep X.drew hown HXd.out.sq.hb (by omega)
    have Hrow := Lib.hid hrow
    obtain ⟨kn, hkn⟩ : ∃ kn, kn = r.kept.length := ⟨_, rfl⟩
    rw [← hkn] at hA y18
    have Hkn := Lib.hid hkn
    have HC18 : Hid (∀ w5, X.drew.grownBy w5 (Value.slice (M.sa 3) kn (M.sc 3)).ownBlock → (w5.cell? ⟨E, 18, none⟩ = some (.slice (M.sa 3) kn (M.sc 3)) ∧ w5.cell? ⟨M.pb wi, k * 3, none⟩ = some (.int .i64 p.v.n) ∧ w5.cell? ⟨M.pb wi, k * 3 + 1, none⟩ = some (.pointer pp) ∧ w5.cell? ⟨M.pb wi, k * 3 + 2, none⟩ = some (.int .i64 p.deep)) ∧ w5.frozen? ⟨E, 18, none⟩ = false) := Lib.hid fun w5 hg => by
      have hav := HXd.out.sq.fam.av 3
      rw [hrow] at hav
      have e := (hg.block E HXd.out.sq.fam.el (fun e => hav (by rw [← hkn]; exact e.symm))).trans HXd.out.sq.box
      have hne := HXd.out.sq.fam.ne (7 + 4 * wi) 3 (by omega)
      rw [HXd.out.fp wi ps Hp.out, hrow] at hne
      have hpl : some (M.pb wi) ≠ (Value.slice (M.sa 3) kn (M.sc 3)).ownBlock := fun e2 => by
        rcases hne with h | h
        · cases h
        · exact h (by rw [← hkn]; exact e2)
      have hpe : ∀ q x, X.cell? ⟨M.pb wi, q, none⟩ = some x → w5.cell? ⟨M.pb wi, q, none⟩ = some x := fun q x hx => by
        have hb := hg.block (M.pb wi) (gr_clt (a := ⟨M.pb wi, q, none⟩) hx) (fun e => hpl e)
        exact (World.cell?_of_block (a := ⟨M.pb wi, q, none⟩) hb).trans hx
      refine ⟨⟨?_, hpe _ _ p0, hpe _ _ p1, hpe _ _ p2⟩, Lib.frozen_of_heap e 18⟩
      rw [Lib.cell_of_heap e 18, hkn]
      rfl
    have Hpe : Hid (M.pb wi ≠ E) := Lib.hid fun e => by
      have hav := HXd.out.sq.fam.av (7 + 4 * wi)
      rw [HXd.out.fp wi ps Hp.out] at hav
      exact hav (by show some (M.pb wi) = some E; rw [e])
    clear hr' hdeep hrow hown hkn
    go_upto_region 3 with fail
    refine wp_region_held_drew (S := fun u => u.cell? ⟨M.pb wi, k * 3, none⟩ = some (.int .i64 p.v.n) ∧ u.cell? ⟨M.pb wi, k * 3 + 1, none⟩ = some (.pointer pp) ∧ u.cell? ⟨M.pb wi, k * 3 + 2, none⟩ = some (.int .i64 p.deep)) (by kernel_rfl) ⟨p0, p1, p2⟩ (fun hHeld => ?_)
    refine wpAnyH_take (i := 0) (v := ?_) rfl (by kernel_rfl) (by kernel_rfl) (by kernel_rfl) (fun _ _ _ h => h) (Or.inl ⟨by kernel_rfl, ?_⟩) (by assumption) ?_
    rotate_left
    · (intro w hSw; (try dsimp only at hSw); first | (go_simp; done) | (go_simp; with_reducible rfl))
    try simp only [Act.put, List.setIfInBounds_toArray, List.set_cons_zero, List.set_cons_succ]
    refine wpAnyH_take (i := 1) (v := ?_) rfl (by kernel_rfl) (by kernel_rfl) (by kernel_rfl) (fun _ _ _ h => h) (Or.inl ⟨by kernel_rfl, ?_⟩) (by assumption) ?_
    rotate_left
    · (intro w hSw; (try dsimp only at hSw); first | (go_simp; done) | (go_simp; with_reducible rfl))
    try simp only [Act.put, List.setIfInBounds_toArray, List.set_cons_zero, List.set_cons_succ]
    refine wpAnyH_take (i := 2) (v := ?_) rfl (by kernel_rfl) (by kernel_rfl) (by kernel_rfl) (fun _ _ _ h => h) (Or.inl ⟨by kernel_rfl, ?_⟩) (by assumption) ?_
    rotate_left
    · (intro w hSw; (try dsimp only at hSw); first | (go_simp; done) | (go_simp; with_reducible rfl))
    try simp only [Act.put, List.setIfInBounds_toArray, List.set_cons_zero, List.set_cons_succ]
    refine wpAnyH_take (i := 3) (v := ?_) rfl (by kernel_rfl) (by kernel_rfl) (by kernel_rfl) (fun _ _ _ h => h) (Or.inl ⟨by kernel_rfl, ?_⟩) (by assumption) ?_
    rotate_left
    · (intro w hSw; (try dsimp only at hSw); first | (go_simp; done) | (go_simp; with_reducible rfl))
    try simp only [Act.put, List.setIfInBounds_toArray, List.set_cons_zero, List.set_cons_succ]
    refine wpAnyH_take (i := 5) (v := ?_) rfl (by kernel_rfl) (by kernel_rfl) (by kernel_rfl) (fun _ _ _ h => h) (Or.inl ⟨by kernel_rfl, ?_⟩) (by assumption) ?_
    rotate_left
    · (intro w hSw; (try dsimp only at hSw); first | (go_simp; done) | (go_simp; with_reducible rfl))
    try simp only [Act.put, List.setIfInBounds_toArray, List.set_cons_zero, List.set_cons_succ]
    refine wpAnyH_take (i := 6) (v := ?_) rfl (by kernel_rfl) (by kernel_rfl) (by kernel_rfl) (fun _ _ _ h => h) (Or.inl ⟨by kernel_rfl, ?_⟩) (by assumption) ?_
    rotate_left
    · (intro w hSw; (try dsimp only at hSw); first | (go_simp; done) | (go_simp; with_reducible rfl))
    try simp only [Act.put, List.setIfInBounds_toArray, List.set_cons_zero, List.set_cons_succ]
    refine wpAnyH_take (i := 7) (v := ?_) rfl (by kernel_rfl) (by kernel_rfl) (by kernel_rfl) (fun _ _ _ h => h) (Or.inl ⟨by kernel_rfl, ?_⟩) (by assumption) ?_
    rotate_left
    · (intro w hSw; (try dsimp only at hSw); first | (go_simp; done) | (go_simp; with_reducible rfl))
    try simp only [Act.put, List.setIfInBounds_toArray, List.set_cons_zero, List.set_cons_succ]
    refine wpAnyH_take (i := 8) (v := ?_) rfl (by kernel_rfl) (by kernel_rfl) (by kernel_rfl) (fun _ _ _ h => h) (Or.inl ⟨by kernel_rfl, ?_⟩) (by assumption) ?_
    rotate_left
    · (intro w hSw; (try dsimp only at hSw); first | (go_simp; done) | (go_simp; with_reducible rfl))
    try simp only [Act.put, List.setIfInBounds_toArray, List.set_cons_zero, List.set_cons_succ]
    refine wpAnyH_take (i := 9) (v := ?_) rfl (by kernel_rfl) (by kernel_rfl) (by kernel_rfl) (fun _ _ _ h => h) (Or.inl ⟨by kernel_rfl, ?_⟩) (by assumption) ?_
    rotate_left
    · (intro w hSw; (try dsimp only at hSw); first | (go_simp; done) | (go_simp; with_reducible rfl))
    try simp only [Act.put, List.setIfInBounds_toArray, List.set_cons_zero, List.set_cons_succ]
    refine wpAnyH_ready (rs := [4]) (by kernel_rfl) (by simp) ?_
    refine AllReadyH.cons rfl (fun K hK => ?_) (AllReadyH.nil)
    have hs1 : X.drew.cell? ⟨M.pb wi, k * 3, none⟩ = some (.int .i64 p.v.n) ∧ X.drew.cell? ⟨M.pb wi, k * 3 + 1, none⟩ = some (.pointer pp) ∧ X.drew.cell? ⟨M.pb wi, k * 3 + 2, none⟩ = some (.int .i64 p.deep) := ⟨p0, p1, p2⟩
    go_simp
    refine hK.out _ _ ?_ (fun hHeld => ?_)
    · ((try dsimp only); first | with_reducible assumption | exact hs1 | exact hs2 | exact hs3)
    clear hK K
    try simp only [Act.put, List.setIfInBounds_toArray, List.set_cons_zero, List.set_cons_succ]
    refine wpAnyH_ready (rs := [10]) (by kernel_rfl) (by simp) ?_
    refine AllReadyH.cons rfl (fun K hK => ?_) (AllReadyH.nil)
    go_simp
    refine hA.mono ?_
    rintro e w5 ⟨g, c5, rfl, ho5, hg5, hat5⟩
    obtain ⟨⟨y18', hs2⟩, yf5⟩ := HC18.out w5 hg5
    have Ho5 := Lib.hid ho5
    have Hg5 := Lib.hid hg5
    have Hat5 := Lib.hid hat5
    clear ho5 hg5 hat5 hA
    try dsimp only
    refine hK.out _ _ ?_ (fun hHeld => ?_)
    · ((try dsimp only); first | with_reducible assumption | exact hs1 | exact hs2 | exact hs3)
    clear hK K
    try simp only [Act.put, List.setIfInBounds_toArray, List.set_cons_zero, List.set_cons_succ]
    refine wpAnyH_take (i := 11) (v := ?_) rfl (by kernel_rfl) (by kernel_rfl) (by kernel_rfl) (fun _ _ _ h => h) (Or.inl ⟨by kernel_rfl, ?_⟩) (by assumption) ?_
    rotate_left
    · (intro w hSw; (try dsimp only at hSw); first | (go_simp; done) | (go_simp; with_reducible rfl))
    try simp only [Act.put, List.setIfInBounds_toArray, List.set_cons_zero, List.set_cons_succ]
    refine wpAnyH_take (i := 12) (v := ?_) rfl (by kernel_rfl) (by kernel_rfl) (by kernel_rfl) (fun _ _ _ h => h) (Or.inl ⟨by kernel_rfl, ?_⟩) (by assumption) ?_
    rotate_left
    · (intro w hSw; (try dsimp only at hSw); first | (go_simp; done) | (go_simp; with_reducible rfl))
    try simp only [Act.put, List.setIfInBounds_toArray, List.set_cons_zero, List.set_cons_succ]
    refine wpAnyH_ready (rs := [13]) (by kernel_rfl) (by simp) ?_
    refine AllReadyH.cons rfl (fun K hK => ?_) (AllReadyH.nil)
    have hs3 : (w5.setCell ⟨E, 18, none⟩ (.slice (some ⟨g, 0, none⟩) (kn + 1) c5)).cell? ⟨M.pb wi, k * 3, none⟩ = some (.int .i64 p.v.n) ∧ (w5.setCell ⟨E, 18, none⟩ (.slice (some ⟨g, 0, none⟩) (kn + 1) c5)).cell? ⟨M.pb wi, k * 3 + 1, none⟩ = some (.pointer pp) ∧ (w5.setCell ⟨E, 18, none⟩ (.slice (some ⟨g, 0, none⟩) (kn + 1) c5)).cell? ⟨M.pb wi, k * 3 + 2, none⟩ = some (.int .i64 p.deep) := ⟨(World.cell?_setCell_other _ _ _ _ (fun e => Hpe.out (congrArg Addr.block e).symm)).trans hs2.1, (World.cell?_setCell_other _ _ _ _ (fun e => Hpe.out (congrArg Addr.block e).symm)).trans hs2.2.1, (World.cell?_setCell_other _ _ _ _ (fun e => Hpe.out (congrArg Addr.block e).symm)).trans hs2.2.2⟩
    go_simp
    refine hK.out _ _ ?_ (fun hHeld => ?_)
    · ((try dsimp only); first | with_reducible assumption | exact hs1 | exact hs2 | exact hs3)
    clear hK K
    try simp only [Act.put, List.setIfInBounds_toArray, List.set_cons_zero, List.set_cons_succ]
    refine wpAnyH_done (by kernel_rfl) ?_ _
    skip
    go_upto_region 4 with fail
    clear y18 yf y18' yf5 hs1 hs2 hs3 p0 p1 p2
    have hR := HXd.out.row (r' := { r with kept := r.kept ++ [(⟨wi, k, p⟩ : XK)] }) 3 (by omega) g (r.kept.length + 1) c5 (by rw [Hrow.out]; show X.drew.grownBy w5 (Value.slice (M.sa 3) r.kept.length (M.sc 3)).ownBlock; rw [← Hkn.out]; exact Hg5.out) (by show Value.slice _ (r.kept ++ [_]).length _ = _; rw [List.length_append]; rfl)
        (by
          show w5.ownsRow base 179 4 (.slice (some ⟨g, 0, none⟩) (r.kept ++ [(⟨wi, k, p⟩ : XK)]).length c5) (r.kept ++ [(⟨wi, k, p⟩ : XK)]).length ((r.kept ++ [(⟨wi, k, p⟩ : XK)]).flatMap (kCell M.tb M.pb))
          have ho5 := Ho5.out
          rw [Hkn.out, Hpp.out] at ho5
          rw [List.length_append, List.flatMap_append]
          exact ho5)
        (by rw [Hrow.out]; show (Value.slice (M.sa 3) r.kept.length (M.sc 3)).ownBlock = some g ∨ _; rw [← Hkn.out]; exact Hat5.out)
        (fun l hl hne => by rcases l with _ | _ | _ | _ | _ | l <;> first | rfl | omega)
        18 (.slice (some ⟨g, 0, none⟩) (kn + 1) c5) (by rw [Hkn.out]; show _ = xCells { r with kept := r.kept ++ [(⟨wi, k, p⟩ : XK)] } fs.length (upM M 3 (some ⟨g, 0, none⟩) c5); unfold xCells; rw [show ({ r with kept := r.kept ++ [(⟨wi, k, p⟩ : XK)] } : XR).kept.length = r.kept.length + 1 by show (r.kept ++ [_]).length = _; rw [List.length_append]; rfl]; rfl)
        HXd.out.ol rfl rfl rfl rfl
    obtain ⟨Y, hY⟩ : ∃ Y, Y = w5.setCell ⟨E, 18, none⟩ (.slice (some ⟨g, 0, none⟩) (kn + 1) c5) := ⟨_, rfl⟩
    rw [← hY] at hR
    obtain ⟨⟨F1, hF1⟩, hb1, -, -⟩ := hR
    have hEw := HEl.out.1
    have hrl := Hrow.out
    have hgY : ∀ q x, X.cell? ⟨w.heap.size, q, none⟩ = some x → Y.cell? ⟨w.heap.size, q, none⟩ = some x := fun q x hx => by
      have hlt3 : ∀ b, (F 3).v.ownBlock = some b → b < w.heap.size := fun b hb => (H0F.out.lt b hb).2
      have hb := Hg5.out.block w.heap.size (gr_clt (a := ⟨w.heap.size, q, none⟩) hx) (fun e => by
        have := hlt3 w.heap.size (by rw [hrl, ← Hkn.out]; exact e.symm)
        omega)
      rw [hY]
      refine (World.cell?_setCell_other _ _ _ _ (fun e => ?_)).trans ((World.cell?_of_block (a := ⟨w.heap.size, q, none⟩) hb).trans hx)
      have : E = w.heap.size := congrArg Addr.block e
      omega
    have HY : Hid (XOk n0 base E fs cm { r with kept := r.kept ++ [(⟨wi, k, p⟩ : XK)] } (upM M 3 (some ⟨g, 0, none⟩) c5) F1 Y ∧ True) := Lib.hid ⟨hF1, trivial⟩
    have HT : Hid (Y.cell? ⟨w.heap.size, 0, none⟩ = some (.int .i64 v.n) ∧ Y.cell? ⟨w.heap.size, 1, none⟩ = some (.pointer pv)) := Lib.hid ⟨hgY _ _ (HB0.out X HbX.out).1, hgY _ _ (HB0.out X HbX.out).2⟩
    have HbY : Hid (Below base X Y) := Lib.hid (((Below.refl base X).drew).trans hb1)
    clear hF1 hb1 hEw hrl hgY Hg5 Ho5 Hat5 HC18 Hrow
    rw [← hY]
    clear hY
    obtain ⟨f', hf', hpl'⟩ := HY.out.1.some_fn Hp.out
    have hD := deep_c (HY.out.1.keep ((Below.refl Y.heap.size Y).drew))
    have hdx : deepX { r with kept := r.kept ++ [(⟨wi, k, p⟩ : XK)] } = dx := Hdx.out
    rw [hdx] at hD
    obtain ⟨hP, hPb⟩ := (HY.out.1.keep ((Below.refl Y.heap.size Y).drew)).place_set Hp.out Hk.out ⟨v, (dx : Int)⟩
    have htb : (upM M 3 (some ⟨g, 0, none⟩) c5).tb = M.tb := rfl
    have hpb : (upM M 3 (some ⟨g, 0, none⟩) c5).pb = M.pb := rfl
    rw [htb, hpb, ← Hpv.out] at hP hPb
    obtain ⟨o0, o1, o2⟩ := HY.out.1.place_at Hp.out Hq.out
    rw [hpb] at o0 o1 o2
    have of : ∀ j, Y.frozen? ⟨M.pb wi, j, none⟩ = false := fun j => by
      have := HY.out.1.sq.at (HY.out.1.fp _ _ Hp.out)
      rcases this.2 with ⟨e, -⟩ | ⟨g, cap, cur, e, -, hg, -⟩
      · cases e
      · injection e with e1
        have e2 : M.pb wi = g := by injection e1 with e1; injection e1
        rw [e2]
        exact Lib.frozen_of_heap hg j
    have HP : Hid ((∃ F', XOk n0 base E fs cm { { r with kept := r.kept ++ [(⟨wi, k, p⟩ : XK)] } with places := { r with kept := r.kept ++ [(⟨wi, k, p⟩ : XK)] }.places.set wi (ps.set k ⟨v, (dx : Int)⟩) } (upM M 3 (some ⟨g, 0, none⟩) c5) F' (((Y.drew.setCell ⟨M.pb wi, k * 3, none⟩ (.int .i64 v.n)).setCell ⟨M.pb wi, k * 3 + 1, none⟩ (.pointer pv)).setCell ⟨M.pb wi, k * 3 + 2, none⟩ (.int .i64 (dx : Int)))) ∧ Below base Y (((Y.drew.setCell ⟨M.pb wi, k * 3, none⟩ (.int .i64 v.n)).setCell ⟨M.pb wi, k * 3 + 1, none⟩ (.pointer pv)).setCell ⟨M.pb wi, k * 3 + 2, none⟩ (.int .i64 (dx : Int)))) := Lib.hid ⟨hP, ((Below.refl base Y).drew).trans hPb⟩
    obtain ⟨Z, hZ⟩ : ∃ Z, Z = (((Y.setCell ⟨M.pb wi, k * 3, none⟩ (.int .i64 v.n)).setCell ⟨M.pb wi, k * 3 + 1, none⟩ (.pointer pv)).setCell ⟨M.pb wi, k * 3 + 2, none⟩ (.int .i64 (dx : Int))).drew := ⟨_, rfl⟩
    have hZ2 : (((Y.drew.setCell ⟨M.pb wi, k * 3, none⟩ (.int .i64 v.n)).setCell ⟨M.pb wi, k * 3 + 1, none⟩ (.pointer pv)).setCell ⟨M.pb wi, k * 3 + 2, none⟩ (.int .i64 (dx : Int))) = Z := hZ.symm
    rw [hZ2] at HP
    obtain ⟨t0, t1⟩ := HT.out
    have HZ := Lib.hid hZ
    clear hZ hZ2 hP hPb htb hpb hdx hf' hpl' f'
    refine wp_region_still_tail 6 (by kernel_rfl) (by kernel_rfl) ?_
    simp only [List.take_succ_cons, List.take_zero, List.drop_succ_cons, List.drop_zero]
    refine wpStill_of_quiet _ _ ?_
    repeat (go_big_quiet_step (exact hD _))
    refine wpQuiet_nil ?_
    change wpList _ _ _ _ _ Y.drew
    clear t0 t1 hD
    go_wp2
    rw [← HZ.out]
    try simp only [Exit.inBlock, Exit.then]
    refine bodyPost_end (results_none rfl _ _ _) rfl ?_
    refine ⟨rfl, ?_⟩
    rw [Hr'.out]
    obtain ⟨⟨F', hF'⟩, hB'⟩ := HP.out
    exact ⟨⟨_, F', hF', rfl⟩, (((HbD.out.mono HEl.out.2.2).trans (HbX.out.mono (Nat.le_trans HEl.out.2.2 HbD.out.size))).trans HbY.out).trans hB'⟩
end
end Go.Proofs.Ytagagpappjkgbaa
