/-
  The runner's turn.
-/
import Derived.Test.YtagagpappjkgbaaJx16
import Derived.Deep.RegionHeld
namespace Go.Proofs.Ytagagpappjkgbaa
set_option linter.unusedVariables false
set_option linter.unusedSimpArgs false
open Go.RowKit Go.Shelf Go.Sort

theorem pair_at (b o way : Nat) (h : way ≤ 1) (W : World) : (Instr.indexAt 131 (.pointer (some ⟨b, o, none⟩)) (.int .i64 (way : Int))).run Try.prog W = .ok (.pointer (some ⟨b, o + way, none⟩)) W := by
  rcases (show way = 0 ∨ way = 1 by omega) with rfl | rfl
  · go_simp
  · go_simp
section
variable {n0 base E : Nat} {fs : List SF} {cm : List (List (Int × Int))} {r : XR} {M : XM} {F : Nat → GRw} {w : World}
set_option maxRecDepth 100000 in
set_option maxHeartbeats 8000000 in
theorem turn_c (h : XOk n0 base E fs cm r M F w) (way : Nat) (hway : way ≤ 1) (r' : XR) (hx : turnX fs cm r way = some r') :
    Calls Try.prog 102 #[.pointer (some ⟨E, 0, none⟩), .int .i64 (way : Int)] w fun e w' => e = .returned (.tuple #[]) ∧ XNow n0 base E fs cm r' w w' := by
  unfold turnX at hx
  rw [Option.bind_eq_some_iff] at hx
  obtain ⟨f, hf, hx⟩ := hx
  rw [Option.bind_eq_some_iff] at hx
  obtain ⟨L, hL, hx⟩ := hx
  rw [Option.bind_eq_some_iff] at hx
  obtain ⟨c, hc, hx⟩ := hx
  rw [Option.bind_eq_some_iff] at hx
  obtain ⟨k, hk, hx⟩ := hx
  rw [Option.bind_eq_some_iff] at hx
  obtain ⟨t, ht, hx⟩ := hx
  split at hx
  case isFalse => cases hx
  case isTrue ht0 =>
  rw [Option.bind_eq_some_iff] at hx
  obtain ⟨k2, hk2, hx⟩ := hx
  rw [Option.map_eq_some_iff] at hx
  obtain ⟨l, hl, rfl⟩ := hx
  obtain ⟨tn, rfl⟩ : ∃ n : Nat, t = n := ⟨t.toNat, by omega⟩
  rw [Int.toNat_natCast] at hk2 hl
  obtain ⟨frm, hfrm⟩ : ∃ frm : Int, frm = if way = 0 then c.1 else c.2 := ⟨_, rfl⟩
  rw [← hfrm] at hl
  obtain ⟨W, hW⟩ : ∃ W, W = w.drew.drew.drew := ⟨_, rfl⟩
  have hbW : Below w.heap.size w W := by rw [hW]; exact (Below.refl _ _).drew.drew.drew
  have hWk := h.keep hbW
  obtain ⟨fb, fv, hfA, hi, c3, c4, c5, -, his, hbs, hil, hbb⟩ := h.fn_at hf
  have hbl : r.now.block < f.blocks.length := (List.getElem?_eq_some_iff.mp hk).1
  have hke : f.blocks[r.now.block] = k := (List.getElem?_eq_some_iff.mp hk).2
  obtain ⟨bA, bc, hbv, -⟩ := id hbs
  rw [hbv] at hbs c4
  obtain ⟨gb, o, lA, lc, pA, pc, tA, tc, rfl, hgn, -, -, -, -, k4, -, -, hgt⟩ := hbs.at hbl
  rw [hke] at k4 hgt
  have htl : way < k.to_.length := (List.getElem?_eq_some_iff.mp ht).1
  obtain ⟨tb, tq, rfl, htn, kt⟩ := hgt.at htl
  rw [(List.getElem?_eq_some_iff.mp ht).2] at kt
  obtain ⟨m1, m2⟩ := h.come_at hL hc
  have hcl := h.lc _ _ _ hf hL
  have kc : w.cell? ⟨M.cb r.now.which, r.now.block * 2 + way, none⟩ = some (.int .i64 frm) := by
    rcases (show way = 0 ∨ way = 1 by omega) with rfl | rfl
    · rw [hfrm]; exact m1
    · rw [hfrm]; exact m2
  have x10 := h.sq.cell 10 _ rfl
  have x11 := h.sq.cell 11 _ rfl
  have x12 := h.sq.cell 12 _ rfl
  have x13 := h.sq.cell 13 _ rfl
  have x19 := h.sq.cell 19 _ rfl
  have xf := h.sq.fro
  rw [hfA] at x10
  have hfb := h.lb
  have HT := Lib.hid (hWk.turned tn)
  have hs2 := (hWk.sq.field 12 (.int .i64 (tn : Int))).field 13 (.int .i64 0)
  have HY19 : Hid (((W.setCell ⟨E, 12, none⟩ (.int .i64 (tn : Int))).setCell ⟨E, 13, none⟩ (.int .i64 0)).cell? ⟨E, 19, none⟩ = some (.slice (M.sa 4) r.coming.length (M.sc 4)) ∧ ((W.setCell ⟨E, 12, none⟩ (.int .i64 (tn : Int))).setCell ⟨E, 13, none⟩ (.int .i64 0)).frozen? ⟨E, 19, none⟩ = false) := Lib.hid ⟨hs2.cell 19 _ rfl, hs2.fro 19⟩
  have HbW := Lib.hid hbW
  have HW := Lib.hid hW
  have Hl := Lib.hid hl
  have Hk2 := Lib.hid hk2
  have Hf := Lib.hid hf
  have HfA := Lib.hid hfA
  have ho4 := h.sq.at (h.fr 4 (by omega))
  have hcc : r.coming.length ≤ M.sc 4 ∧ M.sc 4 ≤ 9223372036854775807 := by
    rcases ho4.2 with ⟨e, e0⟩ | ⟨g, cap, cur, e, _, _, h1, h2, _⟩
    · have e' : (Value.slice (M.sa 4) r.coming.length (M.sc 4)) = .slice none 0 0 := e
      injection e' with e1 e2 e3
      rw [e2, e3]
      exact ⟨Nat.le_refl _, by omega⟩
    · have e' : (Value.slice (M.sa 4) r.coming.length (M.sc 4)) = .slice (some ⟨g, 0, none⟩) r.coming.length cap := e
      injection e' with e1 e2 e3
      rw [e3]
      exact ⟨h1, Nat.le_trans h2 (by decide)⟩
  have hcut := cutV (A := M.sa 4) hcc.1 hcc.2
  have hix := fun b o => pair_at b o way hway
  have Hne : Hid (E ≠ fb ∧ E ≠ gb ∧ E ≠ tb) := Lib.hid (by
    have hE := h.sq.bE
    have hn := h.n0b
    have hav := h.sq.fam.av 5
    rw [h.f5, hfA] at hav
    refine ⟨fun e => hav (congrArg some e.symm), by omega, by omega⟩)
  have Hn0 := Lib.hid h.sq.hb
  obtain ⟨wi, hwi⟩ : ∃ wi, wi = r.now.which := ⟨_, rfl⟩
  obtain ⟨bi, hbi⟩ : ∃ bi, bi = r.now.block := ⟨_, rfl⟩
  obtain ⟨al, hal⟩ : ∃ al, al = r.now.at_ := ⟨_, rfl⟩
  obtain ⟨bn, hbn⟩ : ∃ bn, bn = f.blocks.length := ⟨_, rfl⟩
  obtain ⟨tl, htl'⟩ : ∃ tl, tl = k.to_.length := ⟨_, rfl⟩
  obtain ⟨fn, hfn⟩ : ∃ fn, fn = fs.length := ⟨_, rfl⟩
  obtain ⟨cn, hcn⟩ : ∃ cn, cn = r.coming.length := ⟨_, rfl⟩
  rw [← hwi] at hi c4 c5 kc x11
  rw [← hbi] at hbl k4 kc x12
  rw [← hal] at x13
  rw [← hbn] at hbl c4 c5 hbb
  rw [← htl'] at htl k4
  rw [← hfn] at hi hfb x10
  rw [← hcn] at hcut x19 HY19
  have Hwi := Lib.hid hwi
  clear h hWk hs2 hf hL hc hk ht hk2 hl ht0 hfrm hbW hW his hbs hke hbv hgt m1 m2 hcl c3 hfA ho4 hcc hwi hbi hal hbn htl' hfn hcn
  go_enter Try.func102, Try.ntmps102
  go_upto_region 0 with fail
  go_still_tail 10, (by kernel_rfl)
  change wpList _ _ _ _ _ w.drew
  obtain ⟨D, hD⟩ : ∃ D, D = w.drew := ⟨_, rfl⟩
  change w.drew.cell? _ = _ at c4
  change w.drew.cell? _ = _ at c5
  change w.drew.cell? _ = _ at kc
  change w.drew.cell? _ = _ at k4
  change w.drew.cell? _ = _ at kt
  change w.drew.cell? _ = _ at x12
  change w.drew.cell? _ = _ at x13
  change w.drew.cell? _ = _ at x19
  have xf : ∀ j, w.drew.frozen? ⟨E, j, none⟩ = false := xf
  rw [← hD] at c4 c5 kc k4 kt x12 x13 x19 xf ⊢
  clear x10 x11
  have HD := Lib.hid hD
  clear hD
  go_upto_region 1 with fail
  go_still_tail 13, (by kernel_rfl)
  change wpList _ _ _ _ _ D.drew
  obtain ⟨D2, hD2⟩ : ∃ A, A = D.drew := ⟨_, rfl⟩
  change D.drew.cell? _ = _ at c4
  change D.drew.cell? _ = _ at k4
  change D.drew.cell? _ = _ at kt
  change D.drew.cell? _ = _ at x12
  change D.drew.cell? _ = _ at x13
  change D.drew.cell? _ = _ at x19
  have xf : ∀ j, D.drew.frozen? ⟨E, j, none⟩ = false := xf
  rw [← hD2] at c4 k4 kt x12 x13 x19 xf ⊢
  clear c5 kc
  have HD2 := Lib.hid hD2
  clear hD2
  go_upto_region 2 with fail
  -- region 2
  refine wp_region_held_drew (S := fun u : World => u.cell? ⟨fb, wi * 7 + 4, none⟩ = some (.slice (some ⟨gb, o, none⟩) bn bc) ∧ u.cell? ⟨gb, o + bi * 5 + 4, none⟩ = some (.slice (some ⟨tb, tq, none⟩) tl tc) ∧ u.cell? ⟨tb, tq + way, none⟩ = some (.int .i64 (tn : Int))) (by kernel_rfl) ⟨c4, k4, kt⟩ (fun hHeld => ?_)
  refine wpAnyH_take (i := 0) (v := ?_) rfl (by kernel_rfl) (by kernel_rfl) (by kernel_rfl) (fun _ _ _ h => h) (Or.inl ⟨by kernel_rfl, ?_⟩) (by assumption) ?_
  rotate_left
  · (intro w hSw; (try dsimp only at hSw); first | (go_simp; done) | (go_simp; with_reducible rfl))
  try simp only [Act.put, List.setIfInBounds_toArray, List.set_cons_zero, List.set_cons_succ]
  refine wpAnyH_take (i := 1) (v := ?_) rfl (by kernel_rfl) (by kernel_rfl) (by kernel_rfl) (fun _ _ _ h => h) (Or.inl ⟨by kernel_rfl, ?_⟩) (by assumption) ?_
  rotate_left
  · (intro w hSw; (try dsimp only at hSw); first | (go_simp; done) | (go_simp; with_reducible rfl))
  try simp only [Act.put, List.setIfInBounds_toArray, List.set_cons_zero, List.set_cons_succ]
  refine wpAnyH_take (i := 2) (v := ?_) rfl (by kernel_rfl) (by kernel_rfl) (by kernel_rfl) (fun _ _ _ h => h) (Or.inl ⟨by kernel_rfl, ?_⟩) (by assumption) ?_
  rotate_left
  · (intro w hSw; (try dsimp only at hSw); first | (go_simp; done) | (go_simp; with_reducible rfl))
  try simp only [Act.put, List.setIfInBounds_toArray, List.set_cons_zero, List.set_cons_succ]
  refine wpAnyH_take (i := 3) (v := ?_) rfl (by kernel_rfl) (by kernel_rfl) (by kernel_rfl) (fun _ _ _ h => h) (Or.inl ⟨by kernel_rfl, ?_⟩) (by assumption) ?_
  rotate_left
  · (intro w hSw; (try dsimp only at hSw); first | (go_simp; done) | (go_simp; with_reducible rfl))
  try simp only [Act.put, List.setIfInBounds_toArray, List.set_cons_zero, List.set_cons_succ]
  refine wpAnyH_take (i := 4) (v := ?_) rfl (by kernel_rfl) (by kernel_rfl) (by kernel_rfl) (fun _ _ _ h => h) (Or.inl ⟨by kernel_rfl, ?_⟩) (by assumption) ?_
  rotate_left
  · (intro w hSw; (try dsimp only at hSw); first | (go_simp; done) | (go_simp; with_reducible rfl))
  try simp only [Act.put, List.setIfInBounds_toArray, List.set_cons_zero, List.set_cons_succ]
  refine wpAnyH_take (i := 5) (v := ?_) rfl (by kernel_rfl) (by kernel_rfl) (by kernel_rfl) (fun _ _ _ h => h) (Or.inl ⟨by kernel_rfl, ?_⟩) (by assumption) ?_
  rotate_left
  · (intro w hSw; (try dsimp only at hSw); first | (go_simp; done) | (go_simp; with_reducible rfl))
  try simp only [Act.put, List.setIfInBounds_toArray, List.set_cons_zero, List.set_cons_succ]
  refine wpAnyH_take (i := 6) (v := ?_) rfl (by kernel_rfl) (by kernel_rfl) (by kernel_rfl) (fun _ _ _ h => h) (Or.inl ⟨by kernel_rfl, ?_⟩) (by assumption) ?_
  rotate_left
  · (intro w hSw; (try dsimp only at hSw); first | (go_simp; done) | (go_simp; with_reducible rfl))
  try simp only [Act.put, List.setIfInBounds_toArray, List.set_cons_zero, List.set_cons_succ]
  refine wpAnyH_take (i := 7) (v := ?_) rfl (by kernel_rfl) (by kernel_rfl) (by kernel_rfl) (fun _ _ _ h => h) (Or.inl ⟨by kernel_rfl, ?_⟩) (by assumption) ?_
  rotate_left
  · (intro w hSw; (try dsimp only at hSw); first | (go_simp; done) | (go_simp; with_reducible rfl))
  try simp only [Act.put, List.setIfInBounds_toArray, List.set_cons_zero, List.set_cons_succ]
  refine wpAnyH_take (i := 8) (v := ?_) rfl (by kernel_rfl) (by kernel_rfl) (by kernel_rfl) (fun _ _ _ h => h) (Or.inl ⟨by kernel_rfl, ?_⟩) (by assumption) ?_
  rotate_left
  · (intro w hSw; (try dsimp only at hSw); first | (go_simp; done) | (go_simp; with_reducible rfl))
  try simp only [Act.put, List.setIfInBounds_toArray, List.set_cons_zero, List.set_cons_succ]
  refine wpAnyH_take (i := 9) (v := ?_) rfl (by kernel_rfl) (by kernel_rfl) (by kernel_rfl) (fun _ _ _ h => h) (Or.inl ⟨by kernel_rfl, ?_⟩) (by assumption) ?_
  rotate_left
  · (intro w hSw; (try dsimp only at hSw); first | (go_simp; done) | (go_simp; with_reducible rfl))
  try simp only [Act.put, List.setIfInBounds_toArray, List.set_cons_zero, List.set_cons_succ]
  refine wpAnyH_take (i := 10) (v := ?_) rfl (by kernel_rfl) (by kernel_rfl) (by kernel_rfl) (fun _ _ _ h => h) (Or.inl ⟨by kernel_rfl, ?_⟩) (by assumption) ?_
  rotate_left
  · (intro w hSw; (try dsimp only at hSw); first | (go_simp; done) | (go_simp; with_reducible rfl))
  try simp only [Act.put, List.setIfInBounds_toArray, List.set_cons_zero, List.set_cons_succ]
  refine wpAnyH_take (i := 16) (v := ?_) rfl (by kernel_rfl) (by kernel_rfl) (by kernel_rfl) (fun _ _ _ h => h) (Or.inl ⟨by kernel_rfl, ?_⟩) (by assumption) ?_
  rotate_left
  · (intro w hSw; (try dsimp only at hSw); first | (go_simp; done) | (go_simp; with_reducible rfl))
  try simp only [Act.put, List.setIfInBounds_toArray, List.set_cons_zero, List.set_cons_succ]
  refine wpAnyH_ready (rs := [11]) (by kernel_rfl) (by simp) ?_
  refine AllReadyH.cons rfl (fun K hK => ?_) (AllReadyH.nil)
  have hs1 : D2.drew.cell? ⟨fb, wi * 7 + 4, none⟩ = some (.slice (some ⟨gb, o, none⟩) bn bc) ∧ D2.drew.cell? ⟨gb, o + bi * 5 + 4, none⟩ = some (.slice (some ⟨tb, tq, none⟩) tl tc) ∧ D2.drew.cell? ⟨tb, tq + way, none⟩ = some (.int .i64 (tn : Int)) := ⟨c4, k4, kt⟩
  have v12 : D2.drew.cell? ⟨E, 12, none⟩ = _ := x12
  go_simp
  refine hK.out _ _ ?_ (fun hHeld => ?_)
  · ((try dsimp only); first | with_reducible assumption | exact hs1 | exact hs2 | exact hs3)
  clear hK K
  try simp only [Act.put, List.setIfInBounds_toArray, List.set_cons_zero, List.set_cons_succ]
  refine wpAnyH_take (i := 12) (v := ?_) rfl (by kernel_rfl) (by kernel_rfl) (by kernel_rfl) (fun _ _ _ h => h) (Or.inl ⟨by kernel_rfl, ?_⟩) (by assumption) ?_
  rotate_left
  · (intro w hSw; (try dsimp only at hSw); first | (go_simp; done) | (go_simp; with_reducible rfl))
  try simp only [Act.put, List.setIfInBounds_toArray, List.set_cons_zero, List.set_cons_succ]
  refine wpAnyH_take (i := 13) (v := ?_) rfl (by kernel_rfl) (by kernel_rfl) (by kernel_rfl) (fun _ _ _ h => h) (Or.inl ⟨by kernel_rfl, ?_⟩) (by assumption) ?_
  rotate_left
  · (intro w hSw; (try dsimp only at hSw); first | (go_simp; done) | (go_simp; with_reducible rfl))
  try simp only [Act.put, List.setIfInBounds_toArray, List.set_cons_zero, List.set_cons_succ]
  refine wpAnyH_take (i := 14) (v := ?_) rfl (by kernel_rfl) (by kernel_rfl) (by kernel_rfl) (fun _ _ _ h => h) (Or.inl ⟨by kernel_rfl, ?_⟩) (by assumption) ?_
  rotate_left
  · (intro w hSw; (try dsimp only at hSw); first | (go_simp; done) | (go_simp; with_reducible rfl))
  try simp only [Act.put, List.setIfInBounds_toArray, List.set_cons_zero, List.set_cons_succ]
  refine wpAnyH_take (i := 15) (v := ?_) rfl (by kernel_rfl) (by kernel_rfl) (by kernel_rfl) (fun _ _ _ h => h) (Or.inl ⟨by kernel_rfl, ?_⟩) (by assumption) ?_
  rotate_left
  · (intro w hSw; (try dsimp only at hSw); first | (go_simp; done) | (go_simp; with_reducible rfl))
  try simp only [Act.put, List.setIfInBounds_toArray, List.set_cons_zero, List.set_cons_succ]
  refine wpAnyH_take (i := 17) (v := ?_) rfl (by kernel_rfl) (by kernel_rfl) (by kernel_rfl) (fun _ _ _ h => h) (Or.inl ⟨by kernel_rfl, ?_⟩) (by assumption) ?_
  rotate_left
  · (intro w hSw; (try dsimp only at hSw); first | (go_simp; done) | (go_simp; with_reducible rfl))
  try simp only [Act.put, List.setIfInBounds_toArray, List.set_cons_zero, List.set_cons_succ]
  refine wpAnyH_take (i := 18) (v := ?_) rfl (by kernel_rfl) (by kernel_rfl) (by kernel_rfl) (fun _ _ _ h => h) (Or.inl ⟨by kernel_rfl, ?_⟩) (by assumption) ?_
  rotate_left
  · (intro w hSw; (try dsimp only at hSw); first | (go_simp; done) | (go_simp; with_reducible rfl))
  try simp only [Act.put, List.setIfInBounds_toArray, List.set_cons_zero, List.set_cons_succ]
  refine wpAnyH_take (i := 19) (v := ?_) rfl (by kernel_rfl) (by kernel_rfl) (by kernel_rfl) (fun _ _ _ h => h) (Or.inl ⟨by kernel_rfl, ?_⟩) (by assumption) ?_
  rotate_left
  · (intro w hSw; (try dsimp only at hSw); first | (go_simp; done) | (go_simp; with_reducible rfl))
  try simp only [Act.put, List.setIfInBounds_toArray, List.set_cons_zero, List.set_cons_succ]
  refine wpAnyH_take (i := 20) (v := ?_) rfl (by kernel_rfl) (by kernel_rfl) (by kernel_rfl) (fun _ _ _ h => h) (Or.inl ⟨by kernel_rfl, ?_⟩) (by assumption) ?_
  rotate_left
  · (intro w hSw; (try dsimp only at hSw); first | (go_simp; done) | (go_simp; with_reducible rfl))
  try simp only [Act.put, List.setIfInBounds_toArray, List.set_cons_zero, List.set_cons_succ]
  refine wpAnyH_take (i := 21) (v := ?_) rfl (by kernel_rfl) (by kernel_rfl) (by kernel_rfl) (fun _ _ _ h => h) (Or.inl ⟨by kernel_rfl, ?_⟩) (by assumption) ?_
  rotate_left
  · (intro w hSw; (try dsimp only at hSw); first | (go_simp; done) | (go_simp; with_reducible rfl))
  try simp only [Act.put, List.setIfInBounds_toArray, List.set_cons_zero, List.set_cons_succ]
  refine wpAnyH_ready (rs := [22]) (by kernel_rfl) (by simp) ?_
  refine AllReadyH.cons rfl (fun K hK => ?_) (AllReadyH.nil)
  have hs2 : (D2.drew.setCell ⟨E, 12, none⟩ (.int .i64 (tn : Int))).cell? ⟨fb, wi * 7 + 4, none⟩ = some (.slice (some ⟨gb, o, none⟩) bn bc) ∧ (D2.drew.setCell ⟨E, 12, none⟩ (.int .i64 (tn : Int))).cell? ⟨gb, o + bi * 5 + 4, none⟩ = some (.slice (some ⟨tb, tq, none⟩) tl tc) ∧ (D2.drew.setCell ⟨E, 12, none⟩ (.int .i64 (tn : Int))).cell? ⟨tb, tq + way, none⟩ = some (.int .i64 (tn : Int)) := ⟨(World.cell?_setCell_other _ _ _ _ (fun e => Hne.out.1 (congrArg Addr.block e))).trans hs1.1, (World.cell?_setCell_other _ _ _ _ (fun e => Hne.out.2.1 (congrArg Addr.block e))).trans hs1.2.1, (World.cell?_setCell_other _ _ _ _ (fun e => Hne.out.2.2 (congrArg Addr.block e))).trans hs1.2.2⟩
  have vf : ∀ j, D2.drew.frozen? ⟨E, j, none⟩ = false := xf
  have v12 : D2.drew.cell? ⟨E, 12, none⟩ = _ := x12
  have v13 : D2.drew.cell? ⟨E, 13, none⟩ = _ := x13
  go_simp
  refine hK.out _ _ ?_ (fun hHeld => ?_)
  · ((try dsimp only); first | with_reducible assumption | exact hs1 | exact hs2 | exact hs3)
  clear hK K
  try simp only [Act.put, List.setIfInBounds_toArray, List.set_cons_zero, List.set_cons_succ]
  refine wpAnyH_take (i := 23) (v := ?_) rfl (by kernel_rfl) (by kernel_rfl) (by kernel_rfl) (fun _ _ _ h => h) (Or.inl ⟨by kernel_rfl, ?_⟩) (by assumption) ?_
  rotate_left
  · (intro w hSw; (try dsimp only at hSw); first | (go_simp; done) | (go_simp; with_reducible rfl))
  try simp only [Act.put, List.setIfInBounds_toArray, List.set_cons_zero, List.set_cons_succ]
  refine wpAnyH_take (i := 24) (v := ?_) rfl (by kernel_rfl) (by kernel_rfl) (by kernel_rfl) (fun _ _ _ h => h) (Or.inl ⟨by kernel_rfl, ?_⟩) (by assumption) ?_
  rotate_left
  · (intro w hSw; (try dsimp only at hSw); first | (go_simp; done) | (go_simp; with_reducible rfl))
  try simp only [Act.put, List.setIfInBounds_toArray, List.set_cons_zero, List.set_cons_succ]
  refine wpAnyH_take (i := 25) (v := ?_) rfl (by kernel_rfl) (by kernel_rfl) (by kernel_rfl) (fun _ _ _ h => h) (Or.inl ⟨by kernel_rfl, ?_⟩) (by assumption) ?_
  rotate_left
  · (intro w hSw; (try dsimp only at hSw); first | (go_simp; done) | (go_simp; with_reducible rfl))
  try simp only [Act.put, List.setIfInBounds_toArray, List.set_cons_zero, List.set_cons_succ]
  refine wpAnyH_ready (rs := [26]) (by kernel_rfl) (by simp) ?_
  refine AllReadyH.cons rfl (fun K hK => ?_) (AllReadyH.nil)
  have hs3 : ((D2.drew.setCell ⟨E, 12, none⟩ (.int .i64 (tn : Int))).setCell ⟨E, 13, none⟩ (.int .i64 0)).cell? ⟨fb, wi * 7 + 4, none⟩ = some (.slice (some ⟨gb, o, none⟩) bn bc) ∧ ((D2.drew.setCell ⟨E, 12, none⟩ (.int .i64 (tn : Int))).setCell ⟨E, 13, none⟩ (.int .i64 0)).cell? ⟨gb, o + bi * 5 + 4, none⟩ = some (.slice (some ⟨tb, tq, none⟩) tl tc) ∧ ((D2.drew.setCell ⟨E, 12, none⟩ (.int .i64 (tn : Int))).setCell ⟨E, 13, none⟩ (.int .i64 0)).cell? ⟨tb, tq + way, none⟩ = some (.int .i64 (tn : Int)) := ⟨(World.cell?_setCell_other _ _ _ _ (fun e => Hne.out.1 (congrArg Addr.block e))).trans hs2.1, (World.cell?_setCell_other _ _ _ _ (fun e => Hne.out.2.1 (congrArg Addr.block e))).trans hs2.2.1, (World.cell?_setCell_other _ _ _ _ (fun e => Hne.out.2.2 (congrArg Addr.block e))).trans hs2.2.2⟩
  go_simp
  refine hK.out _ _ ?_ (fun hHeld => ?_)
  · ((try dsimp only); first | with_reducible assumption | exact hs1 | exact hs2 | exact hs3)
  clear hK K
  try simp only [Act.put, List.setIfInBounds_toArray, List.set_cons_zero, List.set_cons_succ]
  refine wpAnyH_done (by kernel_rfl) ?_ _
  skip
  -- region 2 ends
  obtain ⟨Y, hY⟩ : ∃ Y, Y = (W.setCell ⟨E, 12, none⟩ (.int .i64 (tn : Int))).setCell ⟨E, 13, none⟩ (.int .i64 0) := ⟨_, rfl⟩
  have hYe : ((D2.setCell ⟨E, 12, none⟩ (.int .i64 (tn : Int))).setCell ⟨E, 13, none⟩ (.int .i64 0)).drew = Y := by rw [hY, HW.out, ← HD.out, ← HD2.out]; rfl
  rw [hYe]
  rw [← hY] at HY19 HT
  obtain ⟨y19, yf19⟩ := HY19.out
  clear hY hYe hs1 hs2 hs3 c4 k4 kt x12 x13 x19 xf HY19 hix
  try simp only [Exit.then]
  go_upto_region 4 with fail
  clear y19 yf19 hcut
  obtain ⟨C0, hC0⟩ : ∃ C0, C0 = Y.setCell ⟨E, 19, none⟩ (.slice (M.sa 4) 0 (M.sc 4)) := ⟨_, rfl⟩
  rw [← hC0] at HT ⊢
  clear hC0
  obtain ⟨⟨F1, hX1⟩, hb1⟩ := HT.out
  have HB1 : Hid (Below base w C0) := Lib.hid ((HbW.out.mono Hn0.out).trans hb1)
  have hLc := list_c hX1 k2 (by unfold blkX; rw [show ({ r with now := { r.now with block := tn, at_ := 0 }, coming := [] } : XR).now.which = r.now.which from rfl, Hf.out]; exact Hk2.out)
  have HX1 := Lib.hid hX1
  clear hX1 hb1
  go_upto_block 0 with (go_at_call 78; refine hLc.mono ?_; rintro e C1 ⟨lA, lc, rfl, hg, hb2⟩; have HG := Lib.hid hg; have HB2 := Lib.hid hb2; clear hg hb2 hLc)
  obtain ⟨ln, hln⟩ : ∃ n, n = k2.list.length := ⟨_, rfl⟩
  rw [← hln] at HG ⊢
  obtain ⟨R, hR⟩ : ∃ R : XR, R = { r with now := { r.now with block := tn, at_ := 0 } } := ⟨_, rfl⟩
  have hl0 := Hl.out
  rw [← hR] at hl0
  have hX2 : XOk n0 base E fs cm { R with coming := [] } M F1 C0 := by rw [hR]; exact HX1.out
  have hlnb : ln ≤ 1048576 := by rw [hln]; exact HX1.out.ls f (List.mem_of_getElem? Hf.out) k2 (List.mem_of_getElem? Hk2.out)
  have HG1 : Hid (GNs n0 C1 (.slice lA ln lc) k2.list) := Lib.hid (HG.out.keep (HB2.out.mono (Nat.le_trans hX2.n0b hX2.sq.hb)))
  have HBC1 : Hid (Below base w C1) := Lib.hid (HB1.out.trans (HB2.out.mono hX2.sq.hb))
  have H0 : Hid (∃ (A : Option Addr) (c : Nat) (F1 : Nat → GRw) (acc : List XV), XOk n0 base E fs cm { R with coming := acc } (upM M 4 A c) F1 C1 ∧ Below base C1 C1 ∧ comX f.ins frm R (k2.list.drop 0) acc = some l) := Lib.hid ⟨M.sa 4, M.sc 4, F1, [], by rw [upM_same]; exact hX2.keep HB2.out, Below.refl _ _, hl0⟩
  have Hnb : Hid (n0 ≤ base) := Lib.hid hX2.n0b
  have HR := Lib.hid hR
  have Hln := Lib.hid hln
  have Hrw : Hid (R.now.which = wi) := Lib.hid (by rw [hR, Hwi.out])
  clear hX2 hl0 hR hln HX1 HT HB1 HB2 HG
  go_wp2_with fail
  go_loopw [68] (fun u68 wr => ∃ i : Nat, i ≤ ln ∧ u68 = .int .i64 i ∧ Hid (∃ (A : Option Addr) (c : Nat) (F1 : Nat → GRw) (acc : List XV), XOk n0 base E fs cm { R with coming := acc } (upM M 4 A c) F1 wr ∧ Below base C1 wr ∧ comX f.ins frm R (k2.list.drop i) acc = some l)) (fun u68 _ => ln - (intOf u68).toNat)
  case atStart => exact ⟨0, Nat.zero_le _, rfl, H0⟩
  case round =>
    clear H0
    obtain ⟨i, hi, rfl, HN⟩ := hrel
    obtain ⟨C, hC⟩ : ∃ C, C = wr := ⟨_, rfl⟩
    rw [← hC] at HN ⊢
    clear hC
    obtain ⟨A1, cc, F1, acc, hC1, hBC, hcx⟩ := HN.out
    have HC := Lib.hid hC1
    have HBC := Lib.hid hBC
    by_cases hli : i < ln
    · have hil : i < k2.list.length := by rw [← Hln.out]; exact hli
      rw [List.drop_eq_getElem_cons hil] at hcx
      unfold comX at hcx
      split at hcx
      case isFalse => cases hcx
      case isTrue hid0 =>
      rw [Option.bind_eq_some_iff] at hcx
      obtain ⟨x, hxx, hcx⟩ := hcx
      obtain ⟨lb, lo, rfl, -, kl⟩ := (HG1.out.keep (hBC.mono Hnb.out)).at hil
      obtain ⟨idn, hidn⟩ : ∃ n : Nat, k2.list[i] = n := ⟨k2.list[i].toNat, by omega⟩
      rw [hidn] at kl hxx
      rw [Int.toNat_natCast] at hxx
      have hidl : idn < f.ins.length := (List.getElem?_eq_some_iff.mp hxx).1
      have hfr : fs[({ R with coming := acc } : XR).now.which]? = some f := by show fs[R.now.which]? = some f; rw [Hrw.out, Hwi.out]; exact Hf.out
      obtain ⟨fb2, fv2, hfA2, hi2, c3, -, -, -, his, -, hilb, -⟩ := hC1.fn_at hfr
      have hwr : ({ R with coming := acc } : XR).now.which = wi := Hrw.out
      rw [hwr] at c3
      have hfb2 : fb2 = fb := by
        have e : M.fA = some ⟨fb2, 0, none⟩ := hfA2
        rw [HfA.out] at e
        injection e with e
        injection e with e
        exact e.symm
      subst hfb2
      obtain ⟨iA, ic, hiv, -⟩ := id his
      rw [hiv] at his c3
      obtain ⟨ib, io, aA, ac, rfl, hibn, o0, -, o2, -, -, hga⟩ := his.at hidl
      have hxe : f.ins[idn] = x := (List.getElem?_eq_some_iff.mp hxx).2
      rw [hxe] at o0 o2 hga
      obtain ⟨op, hop⟩ : ∃ op, op = x.op := ⟨_, rfl⟩
      rw [← hop] at o0 hcx
      obtain ⟨iln, hiln⟩ : ∃ n, n = f.ins.length := ⟨_, rfl⟩
      rw [← hiln] at c3 hidl hilb
      by_cases h3 : op = 3
      · -- region 9
        rw [if_pos h3] at hcx
        split at hcx
        case isFalse => cases hcx
        case isTrue hfa =>
        rw [Option.bind_eq_some_iff] at hcx
        obtain ⟨a, haa, hcx⟩ := hcx
        rw [Option.bind_eq_some_iff] at hcx
        obtain ⟨v, hgv, hcx⟩ := hcx
        obtain ⟨fm, rfl⟩ : ∃ n : Nat, frm = n := ⟨frm.toNat, by omega⟩
        rw [Int.toNat_natCast] at haa
        have hfl : fm < x.args.length := (List.getElem?_eq_some_iff.mp haa).1
        obtain ⟨ab, ao, rfl, habn, ka⟩ := hga.at hfl
        rw [(List.getElem?_eq_some_iff.mp haa).2] at ka
        obtain ⟨xl, hxl⟩ : ∃ n, n = x.args.length := ⟨_, rfl⟩
        rw [← hxl] at o2 hfl
        have d3 : (op == 3) = true := by rw [h3]; rfl
        have HSx : Hid (∀ A, Below base C A → A.cell? ⟨ib, io + idn * 5 + 2, none⟩ = some (.slice (some ⟨ab, ao, none⟩) xl ac) ∧ A.cell? ⟨ab, ao + fm, none⟩ = some (.int .i64 a)) := Lib.hid fun A hA => ⟨(hA.cell (p := ⟨ib, io + idn * 5 + 2, none⟩) (Nat.lt_of_lt_of_le hibn Hnb.out)).trans o2, (hA.cell (p := ⟨ab, ao + fm, none⟩) (Nat.lt_of_lt_of_le habn Hnb.out)).trans ka⟩
        have hG := get_c (hC1.keep ((Below.refl C.heap.size C).drew)) a v hgv
        obtain ⟨pv, hpv⟩ : ∃ pv : Option Addr, pv = v.of_.map fun t => ⟨M.tb t, 0, none⟩ := ⟨_, rfl⟩
        rw [show (v.of_.map fun t => (⟨(upM M 4 A1 cc).tb t, 0, none⟩ : Addr)) = pv from hpv.symm] at hG
        have c19 : C.cell? ⟨E, 19, none⟩ = some (.slice A1 acc.length cc) := hC1.sq.cell 19 _ rfl
        have Hrow : Hid (F1 4 = ⟨156, 2, .slice A1 acc.length cc, acc.length, acc.flatMap (vCell M.tb)⟩) := Lib.hid (hC1.fr 4 (by omega))
        have Hacc : Hid (acc.length < 1048576 ∧ True) := Lib.hid ⟨hfa.2, trivial⟩
        obtain ⟨i0, hi0, hz0, hz1, hz2⟩ := info_parts infoV
        have Hi := Lib.hid hi0
        have Hz0 := Lib.hid hz0
        have Hz1 := Lib.hid hz1
        have Hz2 := Lib.hid hz2
        have HO : Hid (∀ u ∈ ([.int .i64 v.n, .pointer pv] : List Value), u.oneCell' = true) := Lib.hid (by
          intro u hu
          simp only [List.mem_cons, List.not_mem_nil, or_false] at hu
          rcases hu with rfl | rfl <;> rfl)
        have Hpv := Lib.hid hpv
        have Hcx := Lib.hid hcx
        have Hio : Hid (ib < n0 ∧ ab < n0) := Lib.hid ⟨hibn, habn⟩
        obtain ⟨an, han⟩ : ∃ n, n = acc.length := ⟨_, rfl⟩
        rw [← han] at c19
        have Han := Lib.hid han
        clear HN hC1 hBC hcx hgv haa hfa hga his hiv hfr hxx hxe hop hiln hil hid0 hidn hfA2 hi2 hwr hxl hpv hi0 hz0 hz1 hz2 han h3 hilb
        go_upto_region 9 with fail
        have e2 := o2
        have ea := ka
        clear o0 c3 kl
        refine wp_region_held_drew (S := fun u : World => u.cell? ⟨ib, io + idn * 5 + 2, none⟩ = some (.slice (some ⟨ab, ao, none⟩) xl ac) ∧ u.cell? ⟨ab, ao + fm, none⟩ = some (.int .i64 a)) (by kernel_rfl) ⟨o2, ka⟩ (fun hHeld => ?_)
        refine wpAnyH_take (i := 0) (v := ?_) rfl (by kernel_rfl) (by kernel_rfl) (by kernel_rfl) (fun _ _ _ h => h) (Or.inl ⟨by kernel_rfl, ?_⟩) (by assumption) ?_
        rotate_left
        · (intro w hSw; (try dsimp only at hSw); first | (go_simp; done) | (go_simp; with_reducible rfl))
        try simp only [Act.put, List.setIfInBounds_toArray, List.set_cons_zero, List.set_cons_succ]
        refine wpAnyH_take (i := 1) (v := ?_) rfl (by kernel_rfl) (by kernel_rfl) (by kernel_rfl) (fun _ _ _ h => h) (Or.inl ⟨by kernel_rfl, ?_⟩) (by assumption) ?_
        rotate_left
        · (intro w hSw; (try dsimp only at hSw); first | (go_simp; done) | (go_simp; with_reducible rfl))
        try simp only [Act.put, List.setIfInBounds_toArray, List.set_cons_zero, List.set_cons_succ]
        refine wpAnyH_take (i := 2) (v := ?_) rfl (by kernel_rfl) (by kernel_rfl) (by kernel_rfl) (fun _ _ _ h => h) (Or.inl ⟨by kernel_rfl, ?_⟩) (by assumption) ?_
        rotate_left
        · (intro w hSw; (try dsimp only at hSw); first | (go_simp; done) | (go_simp; with_reducible rfl))
        try simp only [Act.put, List.setIfInBounds_toArray, List.set_cons_zero, List.set_cons_succ]
        refine wpAnyH_take (i := 3) (v := ?_) rfl (by kernel_rfl) (by kernel_rfl) (by kernel_rfl) (fun _ _ _ h => h) (Or.inl ⟨by kernel_rfl, ?_⟩) (by assumption) ?_
        rotate_left
        · (intro w hSw; (try dsimp only at hSw); first | (go_simp; done) | (go_simp; with_reducible rfl))
        try simp only [Act.put, List.setIfInBounds_toArray, List.set_cons_zero, List.set_cons_succ]
        refine wpAnyH_take (i := 5) (v := ?_) rfl (by kernel_rfl) (by kernel_rfl) (by kernel_rfl) (fun _ _ _ h => h) (Or.inl ⟨by kernel_rfl, ?_⟩) (by assumption) ?_
        rotate_left
        · (intro w hSw; (try dsimp only at hSw); first | (go_simp; done) | (go_simp; with_reducible rfl))
        try simp only [Act.put, List.setIfInBounds_toArray, List.set_cons_zero, List.set_cons_succ]
        refine wpAnyH_take (i := 6) (v := ?_) rfl (by kernel_rfl) (by kernel_rfl) (by kernel_rfl) (fun _ _ _ h => h) (Or.inl ⟨by kernel_rfl, ?_⟩) (by assumption) ?_
        rotate_left
        · (intro w hSw; (try dsimp only at hSw); first | (go_simp; done) | (go_simp; with_reducible rfl))
        try simp only [Act.put, List.setIfInBounds_toArray, List.set_cons_zero, List.set_cons_succ]
        refine wpAnyH_take (i := 7) (v := ?_) rfl (by kernel_rfl) (by kernel_rfl) (by kernel_rfl) (fun _ _ _ h => h) (Or.inl ⟨by kernel_rfl, ?_⟩) (by assumption) ?_
        rotate_left
        · (intro w hSw; (try dsimp only at hSw); first | (go_simp; done) | (go_simp; with_reducible rfl))
        try simp only [Act.put, List.setIfInBounds_toArray, List.set_cons_zero, List.set_cons_succ]
        refine wpAnyH_take (i := 8) (v := ?_) rfl (by kernel_rfl) (by kernel_rfl) (by kernel_rfl) (fun _ _ _ h => h) (Or.inl ⟨by kernel_rfl, ?_⟩) (by assumption) ?_
        rotate_left
        · (intro w hSw; (try dsimp only at hSw); first | (go_simp; done) | (go_simp; with_reducible rfl))
        try simp only [Act.put, List.setIfInBounds_toArray, List.set_cons_zero, List.set_cons_succ]
        refine wpAnyH_take (i := 9) (v := ?_) rfl (by kernel_rfl) (by kernel_rfl) (by kernel_rfl) (fun _ _ _ h => h) (Or.inl ⟨by kernel_rfl, ?_⟩) (by assumption) ?_
        rotate_left
        · (intro w hSw; (try dsimp only at hSw); first | (go_simp; done) | (go_simp; with_reducible rfl))
        try simp only [Act.put, List.setIfInBounds_toArray, List.set_cons_zero, List.set_cons_succ]
        refine wpAnyH_take (i := 10) (v := ?_) rfl (by kernel_rfl) (by kernel_rfl) (by kernel_rfl) (fun _ _ _ h => h) (Or.inl ⟨by kernel_rfl, ?_⟩) (by assumption) ?_
        rotate_left
        · (intro w hSw; (try dsimp only at hSw); first | (go_simp; done) | (go_simp; with_reducible rfl))
        try simp only [Act.put, List.setIfInBounds_toArray, List.set_cons_zero, List.set_cons_succ]
        refine wpAnyH_take (i := 11) (v := ?_) rfl (by kernel_rfl) (by kernel_rfl) (by kernel_rfl) (fun _ _ _ h => h) (Or.inl ⟨by kernel_rfl, ?_⟩) (by assumption) ?_
        rotate_left
        · (intro w hSw; (try dsimp only at hSw); first | (go_simp; done) | (go_simp; with_reducible rfl))
        try simp only [Act.put, List.setIfInBounds_toArray, List.set_cons_zero, List.set_cons_succ]
        refine wpAnyH_take (i := 12) (v := ?_) rfl (by kernel_rfl) (by kernel_rfl) (by kernel_rfl) (fun _ _ _ h => h) (Or.inl ⟨by kernel_rfl, ?_⟩) (by assumption) ?_
        rotate_left
        · (intro w hSw; (try dsimp only at hSw); first | (go_simp; done) | (go_simp; with_reducible rfl))
        try simp only [Act.put, List.setIfInBounds_toArray, List.set_cons_zero, List.set_cons_succ]
        refine wpAnyH_ready (rs := [4, 13]) (by kernel_rfl) (by simp) ?_
        refine AllReadyH.cons rfl (fun K hK => ?_) (AllReadyH.cons rfl (fun K hK => ?_) (AllReadyH.nil))
        · have hs1 : C.drew.cell? ⟨ib, io + idn * 5 + 2, none⟩ = some (.slice (some ⟨ab, ao, none⟩) xl ac) ∧ C.drew.cell? ⟨ab, ao + fm, none⟩ = some (.int .i64 a) := ⟨e2, ea⟩
          have c19d : C.drew.cell? ⟨E, 19, none⟩ = _ := c19
          go_simp
          refine hK.out _ _ ?_ (fun hHeld => ?_)
          · ((try dsimp only); first | with_reducible assumption | exact hs1 | exact hs2 | exact hs3 | exact hs4 | exact hs5)
          clear hK K
          try simp only [Act.put, List.setIfInBounds_toArray, List.set_cons_zero, List.set_cons_succ]
          refine wpAnyH_ready (rs := [13]) (by kernel_rfl) (by simp) ?_
          refine AllReadyH.cons rfl (fun K hK => ?_) (AllReadyH.nil)
          have hs1' : C.drew.cell? ⟨ib, io + idn * 5 + 2, none⟩ = some (.slice (some ⟨ab, ao, none⟩) xl ac) ∧ C.drew.cell? ⟨ab, ao + fm, none⟩ = some (.int .i64 a) := ⟨e2, ea⟩
          go_simp
          refine hG.mono ?_
          rintro e w1 ⟨rfl, hb1⟩
          have H1k := Lib.hid (HC.out.keep ((Below.refl C.heap.size C).drew.trans hb1))
          have HBw1 := Lib.hid (((Below.refl C.heap.size C).drew.trans hb1).mono HC.out.sq.hb)
          have hs2 : w1.cell? ⟨ib, io + idn * 5 + 2, none⟩ = some (.slice (some ⟨ab, ao, none⟩) xl ac) ∧ w1.cell? ⟨ab, ao + fm, none⟩ = some (.int .i64 a) := HSx.out w1 HBw1.out
          clear hG hb1
          try dsimp only
          refine hK.out _ _ ?_ (fun hHeld => ?_)
          · ((try dsimp only); first | with_reducible assumption | exact hs1 | exact hs2 | exact hs3 | exact hs4 | exact hs5)
          clear hK K
          try simp only [Act.put, List.setIfInBounds_toArray, List.set_cons_zero, List.set_cons_succ]
          refine wpAnyH_ready (rs := [14]) (by kernel_rfl) (by simp) ?_
          refine AllReadyH.cons rfl (fun K hK => ?_) (AllReadyH.nil)
          go_simp
          have hbZ : Below w1.heap.size w1 (w1.alloc (.cells #[.int .i64 v.n, .pointer pv] 156)) := (Below.refl _ _).alloc (Nat.le_refl _) _
          have hs3 : (w1.alloc (.cells #[.int .i64 v.n, .pointer pv] 156)).cell? ⟨ib, io + idn * 5 + 2, none⟩ = some (.slice (some ⟨ab, ao, none⟩) xl ac) ∧ (w1.alloc (.cells #[.int .i64 v.n, .pointer pv] 156)).cell? ⟨ab, ao + fm, none⟩ = some (.int .i64 a) := HSx.out _ (HBw1.out.trans (hbZ.mono H1k.out.sq.hb))
          have HZk := Lib.hid (H1k.out.keep hbZ)
          have HBZ := Lib.hid (HBw1.out.trans (hbZ.mono H1k.out.sq.hb))
          clear hbZ
          refine hK.out _ _ ?_ (fun hHeld => ?_)
          · ((try dsimp only); first | with_reducible assumption | exact hs1 | exact hs2 | exact hs3 | exact hs4 | exact hs5)
          clear hK K
          try simp only [Act.put, List.setIfInBounds_toArray, List.set_cons_zero, List.set_cons_succ]
          refine wpAnyH_ready (rs := [15]) (by kernel_rfl) (by simp) ?_
          refine AllReadyH.cons rfl (fun K hK => ?_) (AllReadyH.nil)
          have hown := HZk.out.sq.at Hrow.out
          rw [← Han.out] at hown
          have HNW := Lib.hid (World.news_of_block (w := (w1.alloc (.cells #[.int .i64 v.n, .pointer pv] 156))) (heap_alloc_new w1 (.cells #[.int .i64 v.n, .pointer pv] 156)))
          refine step_append_lies _ rfl (.tmp 88) (.tmp 98) 99 rfl base 156 i0 (.agg #[.int .i64 0, .pointer none]) 2 16 Try.underlying99 Hi.out Hz0.out Hz1.out Hz2.out rfl (by decide) (.slice A1 an cc) an (acc.flatMap (vCell M.tb)) (by simp [Act.eval, Act.put]) hown ⟨w1.heap.size, 0, none⟩ 1 1 [.int .i64 v.n, .pointer pv] (by simp [Act.eval, Act.put]) rfl HNW.out HO.out (by decide) (by unfold maxLen; have := Hacc.out.1; have := Han.out; omega) (by have := Hacc.out.1; have := Han.out; omega) HZk.out.sq.hb _ rfl ?_
          intro g cap w5 hown5 hgrow hat hlt5
          have hgr : (w1.alloc (.cells #[.int .i64 v.n, .pointer pv] 156)).grownBy w5 (F1 4).v.ownBlock := by
            rw [Hrow.out]
            exact (own_any A1 acc.length an cc) ▸ hgrow
          have hat2 : (F1 4).v.ownBlock = some g ∨ (w1.alloc (.cells #[.int .i64 v.n, .pointer pv] 156)).heap.size ≤ g := by
            rw [Hrow.out]
            rcases hat with h | h
            · exact .inl ((own_any A1 acc.length an cc).trans h)
            · exact .inr (by rw [h]; exact Nat.le_refl _)
          have hR := (HZk.out).row (r' := { R with coming := acc ++ [v] }) 4 (by omega) g (an + 1) cap hgr (by show Value.slice _ (acc ++ [_]).length _ = _; rw [List.length_append, Han.out]; rfl)
            (by
              show w5.ownsRow base 156 2 (.slice (some ⟨g, 0, none⟩) (acc ++ [v]).length cap) (acc ++ [v]).length ((acc ++ [v]).flatMap (vCell M.tb))
              have ho5 := hown5
              rw [Hpv.out, Han.out] at ho5
              rw [List.length_append, List.flatMap_append]
              exact ho5)
            hat2
            (fun l hl hne => by rcases l with _ | _ | _ | _ | _ | l <;> first | rfl | omega)
            19 (.slice (some ⟨g, 0, none⟩) (an + 1) cap) (by rw [Han.out]; show _ = xCells { R with coming := acc ++ [v] } fs.length (upM (upM M 4 A1 cc) 4 (some ⟨g, 0, none⟩) cap); unfold xCells; rw [show ({ R with coming := acc ++ [v] } : XR).coming.length = acc.length + 1 by show (acc ++ [_]).length = _; rw [List.length_append]; rfl]; rfl)
            HZk.out.ol rfl rfl rfl rfl
          have y19 : w5.cell? ⟨E, 19, none⟩ = some (.slice A1 an cc) := by rw [Han.out]; exact hR.2.2.1 19 _ rfl
          have yf5 := hR.2.2.2 19
          have hs4 : w5.cell? ⟨ib, io + idn * 5 + 2, none⟩ = some (.slice (some ⟨ab, ao, none⟩) xl ac) ∧ w5.cell? ⟨ab, ao + fm, none⟩ = some (.int .i64 a) := HSx.out _ (HBZ.out.trans (HZk.out.sq.b_grown 4 hgr))
          have HRr := Lib.hid (And.intro hR.1 hR.2.1)
          clear hown hown5 hgrow hat hlt5 hgr hat2 hR HNW
          refine hK.out _ _ ?_ (fun hHeld => ?_)
          · ((try dsimp only); first | with_reducible assumption | exact hs1 | exact hs2 | exact hs3 | exact hs4 | exact hs5)
          clear hK K
          try simp only [Act.put, List.setIfInBounds_toArray, List.set_cons_zero, List.set_cons_succ]
          refine wpAnyH_take (i := 16) (v := ?_) rfl (by kernel_rfl) (by kernel_rfl) (by kernel_rfl) (fun _ _ _ h => h) (Or.inl ⟨by kernel_rfl, ?_⟩) (by assumption) ?_
          rotate_left
          · (intro w hSw; (try dsimp only at hSw); first | (go_simp; done) | (go_simp; with_reducible rfl))
          try simp only [Act.put, List.setIfInBounds_toArray, List.set_cons_zero, List.set_cons_succ]
          refine wpAnyH_take (i := 17) (v := ?_) rfl (by kernel_rfl) (by kernel_rfl) (by kernel_rfl) (fun _ _ _ h => h) (Or.inl ⟨by kernel_rfl, ?_⟩) (by assumption) ?_
          rotate_left
          · (intro w hSw; (try dsimp only at hSw); first | (go_simp; done) | (go_simp; with_reducible rfl))
          try simp only [Act.put, List.setIfInBounds_toArray, List.set_cons_zero, List.set_cons_succ]
          refine wpAnyH_ready (rs := [18]) (by kernel_rfl) (by simp) ?_
          refine AllReadyH.cons rfl (fun K hK => ?_) (AllReadyH.nil)
          have hs5 : (w5.setCell ⟨E, 19, none⟩ (.slice (some ⟨g, 0, none⟩) (an + 1) cap)).cell? ⟨ib, io + idn * 5 + 2, none⟩ = some (.slice (some ⟨ab, ao, none⟩) xl ac) ∧ (w5.setCell ⟨E, 19, none⟩ (.slice (some ⟨g, 0, none⟩) (an + 1) cap)).cell? ⟨ab, ao + fm, none⟩ = some (.int .i64 a) := HSx.out _ (HBZ.out.trans HRr.out.2)
          go_simp
          refine hK.out _ _ ?_ (fun hHeld => ?_)
          · ((try dsimp only); first | with_reducible assumption | exact hs1 | exact hs2 | exact hs3 | exact hs4 | exact hs5)
          clear hK K
          try simp only [Act.put, List.setIfInBounds_toArray, List.set_cons_zero, List.set_cons_succ]
          refine wpAnyH_done (by kernel_rfl) ?_ _
          go_wp2_with fail
          clear y19 yf5 hs4 hs5 o2 ka
          obtain ⟨G, hG⟩ : ∃ G, G = w5.setCell ⟨E, 19, none⟩ (.slice (some ⟨g, 0, none⟩) (an + 1) cap) := ⟨_, rfl⟩
          rw [← hG] at HRr ⊢
          clear hG
          obtain ⟨F5, hF5⟩ := HRr.out.1
          rw [upM_upM] at hF5
          have HF5 := Lib.hid hF5
          clear hF5
          go_roundw
          case rel => exact ⟨i + 1, by omega, by go_num, Lib.hid ⟨some ⟨g, 0, none⟩, cap, F5, acc ++ [v], HF5.out, HBC.out.trans (HBZ.out.trans HRr.out.2), Hcx.out⟩⟩
          case measure => simp [intOf]; omega
        · have hs1 : C.drew.cell? ⟨ib, io + idn * 5 + 2, none⟩ = some (.slice (some ⟨ab, ao, none⟩) xl ac) ∧ C.drew.cell? ⟨ab, ao + fm, none⟩ = some (.int .i64 a) := ⟨e2, ea⟩
          go_simp
          refine hG.mono ?_
          rintro e w1 ⟨rfl, hb1⟩
          have H1k := Lib.hid (HC.out.keep ((Below.refl C.heap.size C).drew.trans hb1))
          have HBw1 := Lib.hid (((Below.refl C.heap.size C).drew.trans hb1).mono HC.out.sq.hb)
          have hs2 : w1.cell? ⟨ib, io + idn * 5 + 2, none⟩ = some (.slice (some ⟨ab, ao, none⟩) xl ac) ∧ w1.cell? ⟨ab, ao + fm, none⟩ = some (.int .i64 a) := HSx.out w1 HBw1.out
          clear hG hb1
          try dsimp only
          refine hK.out _ _ ?_ (fun hHeld => ?_)
          · ((try dsimp only); first | with_reducible assumption | exact hs1 | exact hs2 | exact hs3 | exact hs4 | exact hs5)
          clear hK K
          try simp only [Act.put, List.setIfInBounds_toArray, List.set_cons_zero, List.set_cons_succ]
          refine wpAnyH_ready (rs := [4, 14]) (by kernel_rfl) (by simp) ?_
          refine AllReadyH.cons rfl (fun K hK => ?_) (AllReadyH.cons rfl (fun K hK => ?_) (AllReadyH.nil))
          · have c19d : w1.cell? ⟨E, 19, none⟩ = some (.slice A1 an cc) := by rw [Han.out]; exact H1k.out.sq.cell 19 _ rfl
            go_simp
            refine hK.out _ _ ?_ (fun hHeld => ?_)
            · ((try dsimp only); first | with_reducible assumption | exact hs1 | exact hs2 | exact hs3 | exact hs4 | exact hs5)
            clear hK K
            try simp only [Act.put, List.setIfInBounds_toArray, List.set_cons_zero, List.set_cons_succ]
            refine wpAnyH_ready (rs := [14]) (by kernel_rfl) (by simp) ?_
            refine AllReadyH.cons rfl (fun K hK => ?_) (AllReadyH.nil)
            go_simp
            have hbZ : Below w1.heap.size w1 (w1.alloc (.cells #[.int .i64 v.n, .pointer pv] 156)) := (Below.refl _ _).alloc (Nat.le_refl _) _
            have hs3 : (w1.alloc (.cells #[.int .i64 v.n, .pointer pv] 156)).cell? ⟨ib, io + idn * 5 + 2, none⟩ = some (.slice (some ⟨ab, ao, none⟩) xl ac) ∧ (w1.alloc (.cells #[.int .i64 v.n, .pointer pv] 156)).cell? ⟨ab, ao + fm, none⟩ = some (.int .i64 a) := HSx.out _ (HBw1.out.trans (hbZ.mono H1k.out.sq.hb))
            have HZk := Lib.hid (H1k.out.keep hbZ)
            have HBZ := Lib.hid (HBw1.out.trans (hbZ.mono H1k.out.sq.hb))
            clear hbZ
            refine hK.out _ _ ?_ (fun hHeld => ?_)
            · ((try dsimp only); first | with_reducible assumption | exact hs1 | exact hs2 | exact hs3 | exact hs4 | exact hs5)
            clear hK K
            try simp only [Act.put, List.setIfInBounds_toArray, List.set_cons_zero, List.set_cons_succ]
            refine wpAnyH_ready (rs := [15]) (by kernel_rfl) (by simp) ?_
            refine AllReadyH.cons rfl (fun K hK => ?_) (AllReadyH.nil)
            have hown := HZk.out.sq.at Hrow.out
            rw [← Han.out] at hown
            have HNW := Lib.hid (World.news_of_block (w := (w1.alloc (.cells #[.int .i64 v.n, .pointer pv] 156))) (heap_alloc_new w1 (.cells #[.int .i64 v.n, .pointer pv] 156)))
            refine step_append_lies _ rfl (.tmp 88) (.tmp 98) 99 rfl base 156 i0 (.agg #[.int .i64 0, .pointer none]) 2 16 Try.underlying99 Hi.out Hz0.out Hz1.out Hz2.out rfl (by decide) (.slice A1 an cc) an (acc.flatMap (vCell M.tb)) (by simp [Act.eval, Act.put]) hown ⟨w1.heap.size, 0, none⟩ 1 1 [.int .i64 v.n, .pointer pv] (by simp [Act.eval, Act.put]) rfl HNW.out HO.out (by decide) (by unfold maxLen; have := Hacc.out.1; have := Han.out; omega) (by have := Hacc.out.1; have := Han.out; omega) HZk.out.sq.hb _ rfl ?_
            intro g cap w5 hown5 hgrow hat hlt5
            have hgr : (w1.alloc (.cells #[.int .i64 v.n, .pointer pv] 156)).grownBy w5 (F1 4).v.ownBlock := by
              rw [Hrow.out]
              exact (own_any A1 acc.length an cc) ▸ hgrow
            have hat2 : (F1 4).v.ownBlock = some g ∨ (w1.alloc (.cells #[.int .i64 v.n, .pointer pv] 156)).heap.size ≤ g := by
              rw [Hrow.out]
              rcases hat with h | h
              · exact .inl ((own_any A1 acc.length an cc).trans h)
              · exact .inr (by rw [h]; exact Nat.le_refl _)
            have hR := (HZk.out).row (r' := { R with coming := acc ++ [v] }) 4 (by omega) g (an + 1) cap hgr (by show Value.slice _ (acc ++ [_]).length _ = _; rw [List.length_append, Han.out]; rfl)
              (by
                show w5.ownsRow base 156 2 (.slice (some ⟨g, 0, none⟩) (acc ++ [v]).length cap) (acc ++ [v]).length ((acc ++ [v]).flatMap (vCell M.tb))
                have ho5 := hown5
                rw [Hpv.out, Han.out] at ho5
                rw [List.length_append, List.flatMap_append]
                exact ho5)
              hat2
              (fun l hl hne => by rcases l with _ | _ | _ | _ | _ | l <;> first | rfl | omega)
              19 (.slice (some ⟨g, 0, none⟩) (an + 1) cap) (by rw [Han.out]; show _ = xCells { R with coming := acc ++ [v] } fs.length (upM (upM M 4 A1 cc) 4 (some ⟨g, 0, none⟩) cap); unfold xCells; rw [show ({ R with coming := acc ++ [v] } : XR).coming.length = acc.length + 1 by show (acc ++ [_]).length = _; rw [List.length_append]; rfl]; rfl)
              HZk.out.ol rfl rfl rfl rfl
            have y19 : w5.cell? ⟨E, 19, none⟩ = some (.slice A1 an cc) := by rw [Han.out]; exact hR.2.2.1 19 _ rfl
            have yf5 := hR.2.2.2 19
            have hs4 : w5.cell? ⟨ib, io + idn * 5 + 2, none⟩ = some (.slice (some ⟨ab, ao, none⟩) xl ac) ∧ w5.cell? ⟨ab, ao + fm, none⟩ = some (.int .i64 a) := HSx.out _ (HBZ.out.trans (HZk.out.sq.b_grown 4 hgr))
            have HRr := Lib.hid (And.intro hR.1 hR.2.1)
            clear hown hown5 hgrow hat hlt5 hgr hat2 hR HNW
            refine hK.out _ _ ?_ (fun hHeld => ?_)
            · ((try dsimp only); first | with_reducible assumption | exact hs1 | exact hs2 | exact hs3 | exact hs4 | exact hs5)
            clear hK K
            try simp only [Act.put, List.setIfInBounds_toArray, List.set_cons_zero, List.set_cons_succ]
            refine wpAnyH_take (i := 16) (v := ?_) rfl (by kernel_rfl) (by kernel_rfl) (by kernel_rfl) (fun _ _ _ h => h) (Or.inl ⟨by kernel_rfl, ?_⟩) (by assumption) ?_
            rotate_left
            · (intro w hSw; (try dsimp only at hSw); first | (go_simp; done) | (go_simp; with_reducible rfl))
            try simp only [Act.put, List.setIfInBounds_toArray, List.set_cons_zero, List.set_cons_succ]
            refine wpAnyH_take (i := 17) (v := ?_) rfl (by kernel_rfl) (by kernel_rfl) (by kernel_rfl) (fun _ _ _ h => h) (Or.inl ⟨by kernel_rfl, ?_⟩) (by assumption) ?_
            rotate_left
            · (intro w hSw; (try dsimp only at hSw); first | (go_simp; done) | (go_simp; with_reducible rfl))
            try simp only [Act.put, List.setIfInBounds_toArray, List.set_cons_zero, List.set_cons_succ]
            refine wpAnyH_ready (rs := [18]) (by kernel_rfl) (by simp) ?_
            refine AllReadyH.cons rfl (fun K hK => ?_) (AllReadyH.nil)
            have hs5 : (w5.setCell ⟨E, 19, none⟩ (.slice (some ⟨g, 0, none⟩) (an + 1) cap)).cell? ⟨ib, io + idn * 5 + 2, none⟩ = some (.slice (some ⟨ab, ao, none⟩) xl ac) ∧ (w5.setCell ⟨E, 19, none⟩ (.slice (some ⟨g, 0, none⟩) (an + 1) cap)).cell? ⟨ab, ao + fm, none⟩ = some (.int .i64 a) := HSx.out _ (HBZ.out.trans HRr.out.2)
            go_simp
            refine hK.out _ _ ?_ (fun hHeld => ?_)
            · ((try dsimp only); first | with_reducible assumption | exact hs1 | exact hs2 | exact hs3 | exact hs4 | exact hs5)
            clear hK K
            try simp only [Act.put, List.setIfInBounds_toArray, List.set_cons_zero, List.set_cons_succ]
            refine wpAnyH_done (by kernel_rfl) ?_ _
            go_wp2_with fail
            clear y19 yf5 hs4 hs5 o2 ka
            obtain ⟨G, hG⟩ : ∃ G, G = w5.setCell ⟨E, 19, none⟩ (.slice (some ⟨g, 0, none⟩) (an + 1) cap) := ⟨_, rfl⟩
            rw [← hG] at HRr ⊢
            clear hG
            obtain ⟨F5, hF5⟩ := HRr.out.1
            rw [upM_upM] at hF5
            have HF5 := Lib.hid hF5
            clear hF5
            go_roundw
            case rel => exact ⟨i + 1, by omega, by go_num, Lib.hid ⟨some ⟨g, 0, none⟩, cap, F5, acc ++ [v], HF5.out, HBC.out.trans (HBZ.out.trans HRr.out.2), Hcx.out⟩⟩
            case measure => simp [intOf]; omega
          · go_simp
            have hbZ : Below w1.heap.size w1 (w1.alloc (.cells #[.int .i64 v.n, .pointer pv] 156)) := (Below.refl _ _).alloc (Nat.le_refl _) _
            have hs3 : (w1.alloc (.cells #[.int .i64 v.n, .pointer pv] 156)).cell? ⟨ib, io + idn * 5 + 2, none⟩ = some (.slice (some ⟨ab, ao, none⟩) xl ac) ∧ (w1.alloc (.cells #[.int .i64 v.n, .pointer pv] 156)).cell? ⟨ab, ao + fm, none⟩ = some (.int .i64 a) := HSx.out _ (HBw1.out.trans (hbZ.mono H1k.out.sq.hb))
            have HZk := Lib.hid (H1k.out.keep hbZ)
            have HBZ := Lib.hid (HBw1.out.trans (hbZ.mono H1k.out.sq.hb))
            clear hbZ
            refine hK.out _ _ ?_ (fun hHeld => ?_)
            · ((try dsimp only); first | with_reducible assumption | exact hs1 | exact hs2 | exact hs3 | exact hs4 | exact hs5)
            clear hK K
            try simp only [Act.put, List.setIfInBounds_toArray, List.set_cons_zero, List.set_cons_succ]
            refine wpAnyH_ready (rs := [4]) (by kernel_rfl) (by simp) ?_
            refine AllReadyH.cons rfl (fun K hK => ?_) (AllReadyH.nil)
            have c19d : (w1.alloc (.cells #[.int .i64 v.n, .pointer pv] 156)).cell? ⟨E, 19, none⟩ = some (.slice A1 an cc) := by rw [Han.out]; exact HZk.out.sq.cell 19 _ rfl
            go_simp
            refine hK.out _ _ ?_ (fun hHeld => ?_)
            · ((try dsimp only); first | with_reducible assumption | exact hs1 | exact hs2 | exact hs3 | exact hs4 | exact hs5)
            clear hK K
            try simp only [Act.put, List.setIfInBounds_toArray, List.set_cons_zero, List.set_cons_succ]
            refine wpAnyH_ready (rs := [15]) (by kernel_rfl) (by simp) ?_
            refine AllReadyH.cons rfl (fun K hK => ?_) (AllReadyH.nil)
            have hown := HZk.out.sq.at Hrow.out
            rw [← Han.out] at hown
            have HNW := Lib.hid (World.news_of_block (w := (w1.alloc (.cells #[.int .i64 v.n, .pointer pv] 156))) (heap_alloc_new w1 (.cells #[.int .i64 v.n, .pointer pv] 156)))
            refine step_append_lies _ rfl (.tmp 88) (.tmp 98) 99 rfl base 156 i0 (.agg #[.int .i64 0, .pointer none]) 2 16 Try.underlying99 Hi.out Hz0.out Hz1.out Hz2.out rfl (by decide) (.slice A1 an cc) an (acc.flatMap (vCell M.tb)) (by simp [Act.eval, Act.put]) hown ⟨w1.heap.size, 0, none⟩ 1 1 [.int .i64 v.n, .pointer pv] (by simp [Act.eval, Act.put]) rfl HNW.out HO.out (by decide) (by unfold maxLen; have := Hacc.out.1; have := Han.out; omega) (by have := Hacc.out.1; have := Han.out; omega) HZk.out.sq.hb _ rfl ?_
            intro g cap w5 hown5 hgrow hat hlt5
            have hgr : (w1.alloc (.cells #[.int .i64 v.n, .pointer pv] 156)).grownBy w5 (F1 4).v.ownBlock := by
              rw [Hrow.out]
              exact (own_any A1 acc.length an cc) ▸ hgrow
            have hat2 : (F1 4).v.ownBlock = some g ∨ (w1.alloc (.cells #[.int .i64 v.n, .pointer pv] 156)).heap.size ≤ g := by
              rw [Hrow.out]
              rcases hat with h | h
              · exact .inl ((own_any A1 acc.length an cc).trans h)
              · exact .inr (by rw [h]; exact Nat.le_refl _)
            have hR := (HZk.out).row (r' := { R with coming := acc ++ [v] }) 4 (by omega) g (an + 1) cap hgr (by show Value.slice _ (acc ++ [_]).length _ = _; rw [List.length_append, Han.out]; rfl)
              (by
                show w5.ownsRow base 156 2 (.slice (some ⟨g, 0, none⟩) (acc ++ [v]).length cap) (acc ++ [v]).length ((acc ++ [v]).flatMap (vCell M.tb))
                have ho5 := hown5
                rw [Hpv.out, Han.out] at ho5
                rw [List.length_append, List.flatMap_append]
                exact ho5)
              hat2
              (fun l hl hne => by rcases l with _ | _ | _ | _ | _ | l <;> first | rfl | omega)
              19 (.slice (some ⟨g, 0, none⟩) (an + 1) cap) (by rw [Han.out]; show _ = xCells { R with coming := acc ++ [v] } fs.length (upM (upM M 4 A1 cc) 4 (some ⟨g, 0, none⟩) cap); unfold xCells; rw [show ({ R with coming := acc ++ [v] } : XR).coming.length = acc.length + 1 by show (acc ++ [_]).length = _; rw [List.length_append]; rfl]; rfl)
              HZk.out.ol rfl rfl rfl rfl
            have y19 : w5.cell? ⟨E, 19, none⟩ = some (.slice A1 an cc) := by rw [Han.out]; exact hR.2.2.1 19 _ rfl
            have yf5 := hR.2.2.2 19
            have hs4 : w5.cell? ⟨ib, io + idn * 5 + 2, none⟩ = some (.slice (some ⟨ab, ao, none⟩) xl ac) ∧ w5.cell? ⟨ab, ao + fm, none⟩ = some (.int .i64 a) := HSx.out _ (HBZ.out.trans (HZk.out.sq.b_grown 4 hgr))
            have HRr := Lib.hid (And.intro hR.1 hR.2.1)
            clear hown hown5 hgrow hat hlt5 hgr hat2 hR HNW
            refine hK.out _ _ ?_ (fun hHeld => ?_)
            · ((try dsimp only); first | with_reducible assumption | exact hs1 | exact hs2 | exact hs3 | exact hs4 | exact hs5)
            clear hK K
            try simp only [Act.put, List.setIfInBounds_toArray, List.set_cons_zero, List.set_cons_succ]
            refine wpAnyH_take (i := 16) (v := ?_) rfl (by kernel_rfl) (by kernel_rfl) (by kernel_rfl) (fun _ _ _ h => h) (Or.inl ⟨by kernel_rfl, ?_⟩) (by assumption) ?_
            rotate_left
            · (intro w hSw; (try dsimp only at hSw); first | (go_simp; done) | (go_simp; with_reducible rfl))
            try simp only [Act.put, List.setIfInBounds_toArray, List.set_cons_zero, List.set_cons_succ]
            refine wpAnyH_take (i := 17) (v := ?_) rfl (by kernel_rfl) (by kernel_rfl) (by kernel_rfl) (fun _ _ _ h => h) (Or.inl ⟨by kernel_rfl, ?_⟩) (by assumption) ?_
            rotate_left
            · (intro w hSw; (try dsimp only at hSw); first | (go_simp; done) | (go_simp; with_reducible rfl))
            try simp only [Act.put, List.setIfInBounds_toArray, List.set_cons_zero, List.set_cons_succ]
            refine wpAnyH_ready (rs := [18]) (by kernel_rfl) (by simp) ?_
            refine AllReadyH.cons rfl (fun K hK => ?_) (AllReadyH.nil)
            have hs5 : (w5.setCell ⟨E, 19, none⟩ (.slice (some ⟨g, 0, none⟩) (an + 1) cap)).cell? ⟨ib, io + idn * 5 + 2, none⟩ = some (.slice (some ⟨ab, ao, none⟩) xl ac) ∧ (w5.setCell ⟨E, 19, none⟩ (.slice (some ⟨g, 0, none⟩) (an + 1) cap)).cell? ⟨ab, ao + fm, none⟩ = some (.int .i64 a) := HSx.out _ (HBZ.out.trans HRr.out.2)
            go_simp
            refine hK.out _ _ ?_ (fun hHeld => ?_)
            · ((try dsimp only); first | with_reducible assumption | exact hs1 | exact hs2 | exact hs3 | exact hs4 | exact hs5)
            clear hK K
            try simp only [Act.put, List.setIfInBounds_toArray, List.set_cons_zero, List.set_cons_succ]
            refine wpAnyH_done (by kernel_rfl) ?_ _
            go_wp2_with fail
            clear y19 yf5 hs4 hs5 o2 ka
            obtain ⟨G, hG⟩ : ∃ G, G = w5.setCell ⟨E, 19, none⟩ (.slice (some ⟨g, 0, none⟩) (an + 1) cap) := ⟨_, rfl⟩
            rw [← hG] at HRr ⊢
            clear hG
            obtain ⟨F5, hF5⟩ := HRr.out.1
            rw [upM_upM] at hF5
            have HF5 := Lib.hid hF5
            clear hF5
            go_roundw
            case rel => exact ⟨i + 1, by omega, by go_num, Lib.hid ⟨some ⟨g, 0, none⟩, cap, F5, acc ++ [v], HF5.out, HBC.out.trans (HBZ.out.trans HRr.out.2), Hcx.out⟩⟩
            case measure => simp [intOf]; omega
        -- region 9 ends
      · rw [if_neg h3] at hcx
        injection hcx with hcx
        have d3 : (op == 3) = false := by simpa using h3
        rw [hcx] at hC1
        have HC2 := Lib.hid hC1
        clear hcx h3 hC1 hBC HN hxx hfr hfA2 hi2 hwr his hiv hga hxe hop hiln hid0 hidn hil o2 HC
        go_wp2_with fail
        try simp only [Exit.inBlock, Exit.then]
        first
          | refine bodyPost_ret (results_none rfl _ _ _) rfl ?_
          | refine bodyPost_end (results_none rfl _ _ _) rfl ?_
        have h9 := HC2.out
        rw [HR.out] at h9
        exact ⟨rfl, ⟨_, _, h9⟩, HBC1.out.trans HBC.out⟩
    · obtain rfl : i = ln := by omega
      rw [List.drop_of_length_le (by rw [Hln.out]; exact Nat.le_refl _)] at hcx
      unfold comX at hcx
      injection hcx with hcx
      rw [hcx] at hC1
      have HC2 := Lib.hid hC1
      clear hcx hC1 hBC HN HC
      go_wp2_with fail
      try simp only [Exit.inBlock, Exit.then]
      first
        | refine bodyPost_ret (results_none rfl _ _ _) rfl ?_
        | refine bodyPost_end (results_none rfl _ _ _) rfl ?_
      have h9 := HC2.out
      rw [HR.out] at h9
      exact ⟨rfl, ⟨_, _, h9⟩, HBC1.out.trans HBC.out⟩
end
end Go.Proofs.Ytagagpappjkgbaa
