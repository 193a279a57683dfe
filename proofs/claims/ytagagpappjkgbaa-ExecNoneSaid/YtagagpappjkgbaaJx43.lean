/-
  Blocks on all ways: the search's run.
-/
import Derived.Test.YtagagpappjkgbaaJx41
import Derived.Lib.MinMax
import Derived.Deep.DeepCutAuto
namespace Go.Proofs.Ytagagpappjkgbaa
set_option linter.unusedVariables false
set_option linter.unusedSimpArgs false
open Go.RowKit Go.Shelf

theorem FxK.refl (w : World) (sp : Nat) (F : Nat → GRw) : FxK w sp F w F := fun _ _ h => h
theorem FxK.keep {w w' : World} {sp : Nat} {F : Nat → GRw} (hb : Below w.heap.size w w') : FxK w sp F w' F := fun _ _ h => h.keep hb
theorem RoRow.at {w : World} {sp n c j : Nat} {F : Nat → GRw} {A : Option Addr} {l : List Int} (h : RoRow w sp F (.slice A n c) l) (hj : j < l.length) : ∃ g, A = some ⟨g, 0, none⟩ ∧ w.cell? ⟨g, j, none⟩ = some (.int .i64 l[j]) := by
  obtain ⟨A', c', hv, hr⟩ := h
  injection hv with e1 e2 e3
  subst e1
  obtain ⟨g, o, hA, hf, hc⟩ := hr j l[j] (List.getElem?_eq_getElem hj)
  exact ⟨g, hA, hc⟩
theorem own_max2 {w : World} {base n : Nat} {T : TypeId} {v : Value} {xs : List Value} (h : w.ownsRow base T 1 v n xs) : n ≤ 9223372036854775807 := by
  rcases h.2 with ⟨_, h0⟩ | ⟨g, cap, cur, _, _, _, hnc, hcm, _⟩
  · omega
  · unfold maxLen at hcm; omega
def RnE (base sp m : Nat) (w0 : World) (F0 : Nat → GRw) (bu be ba bb gb : Nat) (s : Sr) (w : World) : Prop := ∃ vs PV path F, RnS base sp m w0 F0 w bu be ba bb gb vs PV path s F
def RnV (base sp m : Nat) (w0 : World) (F0 : Nat → GRw) (bu be ba bb gb : Nat) (vs : List Value) (ws : List (List Int)) (s : Sr) (w : World) : Prop := s.wait = ws ∧ ∃ PV path F, RnS base sp m w0 F0 w bu be ba bb gb vs PV path s F

set_option maxRecDepth 100000 in
set_option maxHeartbeats 32000000 in
theorem run_g (base sp bu be ba bb gk m : Nat) (PV vf : Value) (Ab At : Option Addr) (cb nt ct : Nat) (path up early above best from_ upE : List Int) (bk : List (List Int)) (F0 : Nat → GRw) (k0 : Nat) (sE : Sr) (w : World)
    (h : LsS base sp m w bu be ba bb PV path up early above best F0) (hF : ∀ i, 4 < i → F0 i = noRow) (hvf : GNs base w vf from_) (hbk : RoRows w sp F0 gk m bk) (hm1 : 1 ≤ m) (hk0 : k0 ≤ 1048576) (hbl : ∀ t, (bk.getD t []).length ≤ 1048576) (hfl : from_.length = m)
    (hrun : rnRun k0 from_ bk (m - 1) ⟨up, early, above, best, List.replicate m []⟩ = some sE) (hfin : finP sE.early m 0 sE.up = some upE) :
    Calls Try.prog 160 #[.pointer (some ⟨sp, 0, none⟩), .agg #[.slice Ab m cb, .slice At nt ct, vf], .slice (some ⟨gk, 0, none⟩) m m] w fun e w' => e = .returned (.slice (some ⟨bu, 0, none⟩) m m) ∧ IRow w' bu upE ∧ Below base w w' := by
  have hmb := h.mb
  obtain ⟨Af, cf, rfl, -⟩ := id hvf
  rw [hfl] at hvf ⊢
  obtain ⟨i0, hi0, hz0, hz1, hz2⟩ := info_parts infoRowsG
  have Hi := Lib.hid hi0
  have Hz0 := Lib.hid hz0
  have Hz1 := Lib.hid hz1
  have Hz2 := Lib.hid hz2
  obtain ⟨j1, hj1, jz0, jz1, jz2⟩ := info_parts infoIntG
  have Ji := Lib.hid hj1
  have Jz0 := Lib.hid jz0
  have Jz1 := Lib.hid jz1
  have Jz2 := Lib.hid jz2
  obtain ⟨Y, hY, hbY, hzY, h0Y⟩ := gr_one w #[.slice Ab m cb, .slice At nt ct, .slice Af m cf] 211
  have hLY := h.keep hbY
  have hboxY : Fx Y sp F0 w.heap.size (.cells #[.slice Ab m cb, .slice At nt ct, .slice Af m cf] 211 (0, 0)) := ⟨h0Y, fun k e => by have := ((h.sq.fam.own k).lt _ e).2; omega, by have := h.sq.fam.el; omega⟩
  have b0 := Lib.cell_of_heap h0Y 0
  have hwb : base ≤ w.heap.size := h.sq.hb
  have HY := Lib.hid hY
  have HbY := Lib.hid hbY
  have HLY := Lib.hid hLY
  have HboxY := Lib.hid hboxY
  have HF := Lib.hid hF
  have Hvf := Lib.hid hvf
  have Hbk := Lib.hid hbk
  have Hbl := Lib.hid hbl
  have Hfl := Lib.hid hfl
  have Hrun := Lib.hid hrun
  have Hfin := Lib.hid hfin
  clear hi0 hz0 hz1 hz2 hj1 jz0 jz1 jz2 hY hbY hzY h0Y hLY hboxY hF hvf hbk hbl hfl hrun hfin h
  go_enter Try.func160, Try.ntmps160
  go_upto_region 1 with fail
  rw [← HY.out]
  go_wp2_with (at_make; refine wpList_make_full _ rfl (.tmp 18) (.tmp 18) 190 rfl Y.heap.size 64 i0 (.slice none 0 0) 1 Try.underlying190 Hi.out Hz0.out Hz1.out _ _ _ _ m rfl rfl rfl rfl (by rw [Hz2.out]; omega) (by unfold maxLen; omega) (Nat.le_refl _) ?_)
  intro w3 ho3 hg3
  have hb3 : Below Y.heap.size Y w3 := (Below.refl _ _).grown hg3 (Nat.le_refl _) (fun k e => by cases e)
  rw [toList_madeCells_one] at ho3
  obtain ⟨gb, hgb⟩ : ∃ gb, gb = Y.heap.size := ⟨_, rfl⟩
  have e5 : F0 5 = noRow := HF.out 5 (by omega)
  have hsq3 := HLY.out.sq.new 5 (by rw [e5]; rfl) hb3 ⟨64, 1, .slice (some ⟨Y.heap.size, 0, none⟩) m m, m, List.replicate m (.slice none 0 0)⟩ ho3
  obtain ⟨F1, hF1⟩ : ∃ F1, F1 = upG F0 5 ⟨64, 1, .slice (some ⟨Y.heap.size, 0, none⟩) m m, m, List.replicate m (.slice none 0 0)⟩ := ⟨_, rfl⟩
  have hfx : FxK Y sp F0 w3 F1 := fun b o hx => by
    rw [hF1]
    exact hx.grown 5 (by rw [e5]; exact hg3) _ (fun g e => .inr (by simp only [Value.ownBlock, Option.some.injEq] at e; omega))
  have hR0 : RnE base sp m w3 F1 bu be ba bb gb ⟨up, early, above, best, List.replicate m []⟩ w3 := by
    refine ⟨List.replicate m (.slice none 0 0), PV, path, F1, ?_, ?_, Below.refl _ _, FxK.refl _ _ _⟩
    · exact LsS.other (s := ⟨up, early, above, best, []⟩) HLY.out (cs := []) (by rw [hF1]; exact hsq3) (fun i hi => by rw [hF1]; exact upG_off _ _ _ _ (by omega))
    · rw [hF1, hgb]
      exact RowsAt.start (fun j hj => HF.out _ (by omega))
  have HR0 := Lib.hid hR0
  have Hbx := Lib.hid (hfx _ _ HboxY.out)
  have HBk := Lib.hid ((Hbk.out.keep (FxK.keep HbY.out)).keep hfx)
  have HVf : Hid (GNs base w3 (.slice Af m cf) from_) := Lib.hid (Hvf.out.keep ((HbY.out.mono hwb).trans (hb3.mono (by have := HLY.out.sq.hb; omega))))
  have HB3 := Lib.hid ((HbY.out.mono hwb).trans (hb3.mono (by have := HLY.out.sq.hb; omega)))
  have b0 := Lib.cell_of_heap Hbx.out.at_ 0
  rw [← hgb]
  clear ho3 hg3 hb3 hgb e5 hsq3 hF1 hfx hR0 HboxY Hbk Hvf HLY HF HbY HY
  have hw1 : IntKind.i64.wrap ((m : Int) - 1) = ((m - 1 : Nat) : Int) := by rw [IntKind.wrap_i64]; omega
  go_upto_region 2 with fail
  go_upto_block 0 with fail
  clear b0
  go_wp2_with fail
  obtain ⟨W, hW⟩ : ∃ W, W = w3 := ⟨_, rfl⟩
  subst hW
  go_loopw [8] (fun u8 wr => ∃ (i : Nat) (s : Sr), i < m ∧ u8 = .int .i64 i ∧ Hid (RnE base sp m W F1 bu be ba bb gb s wr) ∧ Hid (rnRun k0 from_ bk i s = some sE)) (fun u8 _ => (intOf u8).toNat)
  case atStart => exact ⟨m - 1, _, by omega, rfl, HR0, Hrun⟩
  case round =>
    clear HR0 Hrun hw1
    obtain ⟨i, s, hi, rfl, HR, HN⟩ := hrel
    cases i with
    | succ b' =>
      obtain ⟨b, hb⟩ : ∃ b, b = b' + 1 := ⟨_, rfl⟩
      have hN := HN.out
      rw [rnRun, Option.bind_eq_some_iff] at hN
      obtain ⟨sN, hst, hN⟩ := hN
      rw [← hb] at hst hi ⊢
      rw [stRun, Option.bind_eq_some_iff] at hst
      obtain ⟨s1, hfr, hst⟩ := hst
      rw [Option.bind_eq_some_iff] at hst
      obtain ⟨eb, heb, hst⟩ := hst
      rw [Option.bind_eq_some_iff] at hst
      obtain ⟨p, hp, hst⟩ := hst
      split at hst
      case isFalse => cases hst
      case isTrue hq =>
      obtain ⟨q1, q2, q3, q4, q5⟩ := hq
      rw [Option.map_eq_some_iff] at hst
      obtain ⟨s3, hwt, hcl⟩ := hst
      obtain ⟨en, rfl⟩ : ∃ en : Nat, eb = en := ⟨eb.toNat, by omega⟩
      obtain ⟨pn, rfl⟩ : ∃ pn : Nat, p = pn := ⟨p.toNat, by omega⟩
      rw [Int.toNat_natCast] at q3 hwt
      rw [Int.toNat_natCast] at hwt hcl
      obtain ⟨A5, c5, hc5, hro5⟩ := HBk.out.at hi
      obtain ⟨vs5, o5, -, -, hgk, -⟩ := id HBk.out
      obtain ⟨fs, hfs⟩ : ∃ fs, fs = bk.getD b [] := ⟨_, rfl⟩
      obtain ⟨n5, hn5⟩ : ∃ n5, n5 = fs.length := ⟨_, rfl⟩
      have hnb : n5 ≤ 1048576 := by rw [hn5, hfs]; exact Hbl.out b
      rw [← hfs] at hc5 hro5 hfr
      rw [← hn5] at hc5 hro5
      obtain ⟨vs, PVr, pathr, Fr, hR⟩ := HR.out
      have c5 : wr.cell? ⟨gk, b, none⟩ = some (.slice A5 n5 c5) := (hgk.cell_same (hR.fx _ _ hgk)).trans hc5
      have HI1 : Hid (frRun k0 b (fs.drop 0) s = some s1) := Lib.hid hfr
      have Hn5 := Lib.hid hn5
      have Hro := Lib.hid hro5
      have Hhb := Lib.hid hb
      have HN2 := Lib.hid hN
      have Hwt := Lib.hid hwt
      have Hcl := Lib.hid hcl
      have Heb := Lib.hid heb
      have Hp := Lib.hid hp
      clear hb hN hfr heb hp hwt hcl hfs hn5 hc5 hro5 hgk hR HN
      have hb0 : 0 < b := by have := Hhb.out; omega
      have hbgt : decide ((b : Int) > 0) = true := by simpa using hb0
      go_upto_block 2 with fail
      clear c5 hbgt
      go_wp2_with fail
      go_loopw [33] (fun u33 wx => ∃ (j : Nat) (s' : Sr), j ≤ n5 ∧ u33 = .int .i64 j ∧ Hid (RnE base sp m W F1 bu be ba bb gb s' wx) ∧ Hid (frRun k0 b (fs.drop j) s' = some s1)) (fun u33 _ => n5 - (intOf u33).toNat)
      case atStart => exact ⟨0, s, Nat.zero_le _, rfl, HR, HI1⟩
      case round =>
        clear HR HI1
        obtain ⟨j, s', hj, rfl, HR, HI⟩ := hrel
        by_cases hlt : j < n5
        · have hI := HI.out
          have hjl : j < fs.length := by rw [← Hn5.out]; exact hlt
          rw [List.drop_eq_getElem_cons hjl, frRun, Option.bind_eq_some_iff] at hI
          obtain ⟨⟨ab', be', v⟩, hr, hI⟩ := hI
          rw [Option.bind_eq_some_iff] at hI
          obtain ⟨ev, hev, hI⟩ := hI
          rw [Option.bind_eq_some_iff] at hI
          obtain ⟨e0, he0, hI⟩ := hI
          dsimp only at hev hI
          obtain ⟨vs6, PV6, path6, F6, hR⟩ := HR.out
          obtain ⟨g7, rfl, c7⟩ := (Hro.out.keep hR.fx).at hjl
          obtain ⟨fv, hfv⟩ : ∃ fv, fv = fs[j] := ⟨_, rfl⟩
          rw [← hfv] at hr c7
          obtain ⟨b2, hb2, hbl, he0e⟩ := rdI_some he0
          obtain rfl : b = b2 := by omega
          obtain ⟨vn, rfl, hvl, heve⟩ := rdI_some hev
          have hvm : vn < m := by rw [← hR.ls.l1]; exact hvl
          have hRd := hR.keep ((Below.refl _ _).drew)
          have hc := least_g base sp m bu be ba bb PV6 path6 s'.up s'.early s'.above s'.best ab' be' F6 fv (vn : Int) k0 wr.drew hRd.ls hk0 hr
          have gd : wr.drew.cell? ⟨sp, 1, none⟩ = some (.slice (some ⟨be, 0, none⟩) m m) := hRd.ls.sq.cell 1 _ rfl
          have cd : wr.drew.cell? ⟨be, b, none⟩ = some (.int .i64 e0) := by rw [he0e]; exact hRd.ls.r0.2.1.cell hbl
          have He0 : Hid (e0 = s'.early.getD b 0 ∧ b < s'.early.length) := Lib.hid ⟨he0e, hbl⟩
          have Hev : Hid (ev = s'.early.getD vn 0 ∧ vn < s'.early.length) := Lib.hid ⟨heve, hvl⟩
          have Hc := Lib.hid hc
          have HRd := Lib.hid hRd
          have HI2 := Lib.hid hI
          clear hI hr hev he0 hb2 he0e heve hvl hbl hR hRd hc HR HI hfv hjl
          go_upto_region 8 with fail
          clear c7
          refine wp_region_noPanic ?_
          refine wp_region_held_drew (S := fun w' => w'.cell? ⟨sp, 1, none⟩ = some (.slice (some ⟨be, 0, none⟩) m m)) (by kernel_rfl) gd (fun hHeld => ?_)
          refine wpAnyH_take (i := 0) (v := ?_) rfl (by kernel_rfl) (by kernel_rfl) (by kernel_rfl) (fun _ _ _ h => h) (Or.inl ⟨by rfl, ?_⟩) (by assumption) ?_
          rotate_left
          · (intro w hSw; (try dsimp only at hSw); first | (go_simp; done) | (go_simp; with_reducible rfl))
          try simp only [Act.put, List.setIfInBounds_toArray, List.set_cons_zero, List.set_cons_succ]
          refine wpAnyH_take (i := 1) (v := ?_) rfl (by kernel_rfl) (by kernel_rfl) (by kernel_rfl) (fun _ _ _ h => h) (Or.inl ⟨by rfl, ?_⟩) (by assumption) ?_
          rotate_left
          · (intro w hSw; (try dsimp only at hSw); first | (go_simp; done) | (go_simp; with_reducible rfl))
          try simp only [Act.put, List.setIfInBounds_toArray, List.set_cons_zero, List.set_cons_succ]
          refine wpAnyH_take (i := 2) (v := ?_) rfl (by kernel_rfl) (by kernel_rfl) (by kernel_rfl) (fun _ _ _ h => h) (Or.inl ⟨by rfl, ?_⟩) (by assumption) ?_
          rotate_left
          · (intro w hSw; (try dsimp only at hSw); first | (go_simp; done) | (go_simp; with_reducible rfl))
          try simp only [Act.put, List.setIfInBounds_toArray, List.set_cons_zero, List.set_cons_succ]
          refine wpAnyH_take (i := 3) (v := ?_) rfl (by kernel_rfl) (by kernel_rfl) (by kernel_rfl) (fun _ _ _ h => h) (Or.inl ⟨by rfl, ?_⟩) (by assumption) ?_
          rotate_left
          · (intro w hSw; (try dsimp only at hSw); first | (go_simp; done) | (go_simp; with_reducible rfl))
          try simp only [Act.put, List.setIfInBounds_toArray, List.set_cons_zero, List.set_cons_succ]
          refine wpAnyH_take (i := 4) (v := ?_) rfl (by kernel_rfl) (by kernel_rfl) (by kernel_rfl) (fun _ _ _ h => h) (Or.inl ⟨by rfl, ?_⟩) (by assumption) ?_
          rotate_left
          · (intro w hSw; (try dsimp only at hSw); first | (go_simp; done) | (go_simp; with_reducible rfl))
          try simp only [Act.put, List.setIfInBounds_toArray, List.set_cons_zero, List.set_cons_succ]
          refine wpAnyH_take (i := 5) (v := ?_) rfl (by kernel_rfl) (by kernel_rfl) (by kernel_rfl) (fun _ _ _ h => h) (Or.inl ⟨by rfl, ?_⟩) (by assumption) ?_
          rotate_left
          · (intro w hSw; (try dsimp only at hSw); first | (go_simp; done) | (go_simp; with_reducible rfl))
          try simp only [Act.put, List.setIfInBounds_toArray, List.set_cons_zero, List.set_cons_succ]
          refine wpAnyH_take (i := 6) (v := ?_) rfl (by kernel_rfl) (by kernel_rfl) (by kernel_rfl) (fun _ _ _ h => h) (Or.inl ⟨by rfl, ?_⟩) (by assumption) ?_
          rotate_left
          · (intro w hSw; (try dsimp only at hSw); first | (go_simp; done) | (go_simp; with_reducible rfl))
          try simp only [Act.put, List.setIfInBounds_toArray, List.set_cons_zero, List.set_cons_succ]
          refine wpAnyH_take (i := 7) (v := ?_) rfl (by kernel_rfl) (by kernel_rfl) (by kernel_rfl) (fun _ _ _ h => h) (Or.inl ⟨by rfl, ?_⟩) (by assumption) ?_
          rotate_left
          · (intro w hSw; (try dsimp only at hSw); first | (go_simp; done) | (go_simp; with_reducible rfl))
          try simp only [Act.put, List.setIfInBounds_toArray, List.set_cons_zero, List.set_cons_succ]
          refine wpAnyH_take (i := 8) (v := ?_) rfl (by kernel_rfl) (by kernel_rfl) (by kernel_rfl) (fun _ _ _ h => h) (Or.inl ⟨by rfl, ?_⟩) (by assumption) ?_
          rotate_left
          · (intro w hSw; (try dsimp only at hSw); first | (go_simp; done) | (go_simp; with_reducible rfl))
          try simp only [Act.put, List.setIfInBounds_toArray, List.set_cons_zero, List.set_cons_succ]
          refine wpAnyH_take (i := 9) (v := ?_) rfl (by kernel_rfl) (by kernel_rfl) (by kernel_rfl) (fun _ _ _ h => h) (Or.inl ⟨by rfl, ?_⟩) (by assumption) ?_
          rotate_left
          · (intro w hSw; (try dsimp only at hSw); first | (go_simp; done) | (go_simp; with_reducible rfl))
          try simp only [Act.put, List.setIfInBounds_toArray, List.set_cons_zero, List.set_cons_succ]
          refine wpAnyH_take (i := 10) (v := ?_) rfl (by kernel_rfl) (by kernel_rfl) (by kernel_rfl) (fun _ _ _ h => h) (Or.inl ⟨by rfl, ?_⟩) (by assumption) ?_
          rotate_left
          · (intro w hSw; (try dsimp only at hSw); first | (go_simp; done) | (go_simp; with_reducible rfl))
          try simp only [Act.put, List.setIfInBounds_toArray, List.set_cons_zero, List.set_cons_succ]
          refine wpAnyH_take (i := 12) (v := ?_) rfl (by kernel_rfl) (by kernel_rfl) (by kernel_rfl) (fun _ _ _ h => h) (Or.inl ⟨by rfl, ?_⟩) (by assumption) ?_
          rotate_left
          · (intro w hSw; (try dsimp only at hSw); first | (go_simp; done) | (go_simp; with_reducible rfl))
          try simp only [Act.put, List.setIfInBounds_toArray, List.set_cons_zero, List.set_cons_succ]
          refine wpAnyH_take (i := 13) (v := ?_) rfl (by kernel_rfl) (by kernel_rfl) (by kernel_rfl) (fun _ _ _ h => h) (Or.inl ⟨by rfl, ?_⟩) (by assumption) ?_
          rotate_left
          · (intro w hSw; (try dsimp only at hSw); first | (go_simp; done) | (go_simp; with_reducible rfl))
          try simp only [Act.put, List.setIfInBounds_toArray, List.set_cons_zero, List.set_cons_succ]
          refine wpAnyH_take (i := 14) (v := ?_) rfl (by kernel_rfl) (by kernel_rfl) (by kernel_rfl) (fun _ _ _ h => h) (Or.inl ⟨by rfl, ?_⟩) (by assumption) ?_
          rotate_left
          · (intro w hSw; (try dsimp only at hSw); first | (go_simp; done) | (go_simp; with_reducible rfl))
          try simp only [Act.put, List.setIfInBounds_toArray, List.set_cons_zero, List.set_cons_succ]
          refine wpAnyH_take (i := 15) (v := ?_) rfl (by kernel_rfl) (by kernel_rfl) (by kernel_rfl) (fun _ _ _ h => h) (Or.inl ⟨by rfl, ?_⟩) (by assumption) ?_
          rotate_left
          · (intro w hSw; (try dsimp only at hSw); first | (go_simp; done) | (go_simp; with_reducible rfl))
          try simp only [Act.put, List.setIfInBounds_toArray, List.set_cons_zero, List.set_cons_succ]
          refine wpAnyH_take (i := 16) (v := ?_) rfl (by kernel_rfl) (by kernel_rfl) (by kernel_rfl) (fun _ _ _ h => h) (Or.inl ⟨by rfl, ?_⟩) (by assumption) ?_
          rotate_left
          · (intro w hSw; (try dsimp only at hSw); first | (go_simp; done) | (go_simp; with_reducible rfl))
          try simp only [Act.put, List.setIfInBounds_toArray, List.set_cons_zero, List.set_cons_succ]
          refine wpAnyH_take (i := 17) (v := ?_) rfl (by kernel_rfl) (by kernel_rfl) (by kernel_rfl) (fun _ _ _ h => h) (Or.inl ⟨by rfl, ?_⟩) (by assumption) ?_
          rotate_left
          · (intro w hSw; (try dsimp only at hSw); first | (go_simp; done) | (go_simp; with_reducible rfl))
          try simp only [Act.put, List.setIfInBounds_toArray, List.set_cons_zero, List.set_cons_succ]
          refine wpAnyH_ready (rs := [11, 18]) (by kernel_rfl) (by simp) ?_
          refine AllReadyH.cons rfl (fun K hK => ?_) (AllReadyH.cons rfl (fun K hK => ?_) (AllReadyH.nil))
          · go_simp
            refine hK.out _ _ ?_ (fun hHeld => ?_)
            · ((try dsimp only); first | with_reducible exact gd | with_reducible exact g5 | with_reducible exact g6)
            clear hK K
            try simp only [Act.put, List.setIfInBounds_toArray, List.set_cons_zero, List.set_cons_succ]
            refine wpAnyH_ready (rs := [18]) (by kernel_rfl) (by simp) ?_
            refine AllReadyH.cons rfl (fun K hK => ?_) (AllReadyH.nil)
            go_simp
            refine Hc.out.mono ?_
            rintro e w5 ⟨rfl, PV5, path5, F5, hL5, hF5, hB5, hx5⟩
            have hR5 := HRd.out.least hL5 hF5 hB5 hx5
            have g5 : w5.cell? ⟨sp, 1, none⟩ = some (.slice (some ⟨be, 0, none⟩) m m) := hR5.ls.sq.cell 1 _ rfl
            have m5 : w5.cell? ⟨be, b, none⟩ = some (.int .i64 e0) := by rw [He0.out.1]; exact hL5.r0.2.1.cell He0.out.2
            have m5v : w5.cell? ⟨be, vn, none⟩ = some (.int .i64 ev) := by rw [Hev.out.1]; exact hL5.r0.2.1.cell Hev.out.2
            have mf5 : w5.frozen? ⟨be, b, none⟩ = false := hL5.r0.2.1.fro b
            have hR6 := hR5.set1 b (min e0 ev)
            have g6 : (w5.setCell ⟨be, b, none⟩ (.int .i64 (min e0 ev))).cell? ⟨sp, 1, none⟩ = some (.slice (some ⟨be, 0, none⟩) m m) := hR6.ls.sq.cell 1 _ rfl
            have HR6 : Hid (RnE base sp m W F1 bu be ba bb gb { s' with above := ab', best := be', early := s'.early.set b (min e0 ev) } (w5.setCell ⟨be, b, none⟩ (.int .i64 (min e0 ev)))) := Lib.hid ⟨_, _, _, _, hR6⟩
            clear hL5 hF5 hB5 hx5 hR5 hR6
            try dsimp only
            refine hK.out _ _ ?_ (fun hHeld => ?_)
            · ((try dsimp only); first | with_reducible exact gd | with_reducible exact g5 | with_reducible exact g6)
            clear hK K
            try simp only [Act.put, List.setIfInBounds_toArray, List.set_cons_zero, List.set_cons_succ]
            refine wpAnyH_take (i := 19) (v := ?_) rfl (by kernel_rfl) (by kernel_rfl) (by kernel_rfl) (fun _ _ _ h => h) (Or.inl ⟨by rfl, ?_⟩) (by assumption) ?_
            rotate_left
            · (intro w hSw; (try dsimp only at hSw); first | (go_simp; done) | (go_simp; with_reducible rfl))
            try simp only [Act.put, List.setIfInBounds_toArray, List.set_cons_zero, List.set_cons_succ]
            refine wpAnyH_ready (rs := [20]) (by kernel_rfl) (by simp) ?_
            refine AllReadyH.cons rfl (fun K hK => ?_) (AllReadyH.nil)
            go_simp
            refine hK.out _ _ ?_ (fun hHeld => ?_)
            · ((try dsimp only); first | with_reducible exact gd | with_reducible exact g5 | with_reducible exact g6)
            clear hK K
            try simp only [Act.put, List.setIfInBounds_toArray, List.set_cons_zero, List.set_cons_succ]
            refine wpAnyH_take (i := 21) (v := ?_) rfl (by kernel_rfl) (by kernel_rfl) (by kernel_rfl) (fun _ _ _ h => h) (Or.inl ⟨by rfl, ?_⟩) (by assumption) ?_
            rotate_left
            · (intro w hSw; (try dsimp only at hSw); first | (go_simp; done) | (go_simp; with_reducible rfl))
            try simp only [Act.put, List.setIfInBounds_toArray, List.set_cons_zero, List.set_cons_succ]
            refine wpAnyH_take (i := 22) (v := ?_) rfl (by kernel_rfl) (by kernel_rfl) (by kernel_rfl) (fun _ _ _ h => h) (Or.inl ⟨by rfl, ?_⟩) (by assumption) ?_
            rotate_left
            · (intro w hSw; (try dsimp only at hSw); first | (go_simp; done) | (go_simp; with_reducible rfl))
            try simp only [Act.put, List.setIfInBounds_toArray, List.set_cons_zero, List.set_cons_succ]
            refine wpAnyH_ready (rs := [23]) (by kernel_rfl) (by simp) ?_
            refine AllReadyH.cons rfl (fun K hK => ?_) (AllReadyH.nil)
            go_simp
            refine hK.out _ _ ?_ (fun hHeld => ?_)
            · ((try dsimp only); first | with_reducible exact gd | with_reducible exact g5 | with_reducible exact g6)
            clear hK K
            try simp only [Act.put, List.setIfInBounds_toArray, List.set_cons_zero, List.set_cons_succ]
            refine wpAnyH_done (by kernel_rfl) ?_ _
            refine NoPanic.normal ?_
            clear gd cd g5 g6 m5 m5v mf5
            go_wp2
            go_roundw
            case rel => exact ⟨j + 1, _, by omega, by go_num, HR6, HI2⟩
            case measure => simp [intOf]; omega
          · go_simp
            refine Hc.out.mono ?_
            rintro e w5 ⟨rfl, PV5, path5, F5, hL5, hF5, hB5, hx5⟩
            have hR5 := HRd.out.least hL5 hF5 hB5 hx5
            have g5 : w5.cell? ⟨sp, 1, none⟩ = some (.slice (some ⟨be, 0, none⟩) m m) := hR5.ls.sq.cell 1 _ rfl
            have m5 : w5.cell? ⟨be, b, none⟩ = some (.int .i64 e0) := by rw [He0.out.1]; exact hL5.r0.2.1.cell He0.out.2
            have m5v : w5.cell? ⟨be, vn, none⟩ = some (.int .i64 ev) := by rw [Hev.out.1]; exact hL5.r0.2.1.cell Hev.out.2
            have mf5 : w5.frozen? ⟨be, b, none⟩ = false := hL5.r0.2.1.fro b
            have hR6 := hR5.set1 b (min e0 ev)
            have g6 : (w5.setCell ⟨be, b, none⟩ (.int .i64 (min e0 ev))).cell? ⟨sp, 1, none⟩ = some (.slice (some ⟨be, 0, none⟩) m m) := hR6.ls.sq.cell 1 _ rfl
            have HR6 : Hid (RnE base sp m W F1 bu be ba bb gb { s' with above := ab', best := be', early := s'.early.set b (min e0 ev) } (w5.setCell ⟨be, b, none⟩ (.int .i64 (min e0 ev)))) := Lib.hid ⟨_, _, _, _, hR6⟩
            clear hL5 hF5 hB5 hx5 hR5 hR6
            try dsimp only
            refine hK.out _ _ ?_ (fun hHeld => ?_)
            · ((try dsimp only); first | with_reducible exact gd | with_reducible exact g5 | with_reducible exact g6)
            clear hK K
            try simp only [Act.put, List.setIfInBounds_toArray, List.set_cons_zero, List.set_cons_succ]
            refine wpAnyH_take (i := 19) (v := ?_) rfl (by kernel_rfl) (by kernel_rfl) (by kernel_rfl) (fun _ _ _ h => h) (Or.inl ⟨by rfl, ?_⟩) (by assumption) ?_
            rotate_left
            · (intro w hSw; (try dsimp only at hSw); first | (go_simp; done) | (go_simp; with_reducible rfl))
            try simp only [Act.put, List.setIfInBounds_toArray, List.set_cons_zero, List.set_cons_succ]
            refine wpAnyH_ready (rs := [11, 20]) (by kernel_rfl) (by simp) ?_
            refine AllReadyH.cons rfl (fun K hK => ?_) (AllReadyH.cons rfl (fun K hK => ?_) (AllReadyH.nil))
            · go_simp
              refine hK.out _ _ ?_ (fun hHeld => ?_)
              · ((try dsimp only); first | with_reducible exact gd | with_reducible exact g5 | with_reducible exact g6)
              clear hK K
              try simp only [Act.put, List.setIfInBounds_toArray, List.set_cons_zero, List.set_cons_succ]
              refine wpAnyH_ready (rs := [20]) (by kernel_rfl) (by simp) ?_
              refine AllReadyH.cons rfl (fun K hK => ?_) (AllReadyH.nil)
              go_simp
              refine hK.out _ _ ?_ (fun hHeld => ?_)
              · ((try dsimp only); first | with_reducible exact gd | with_reducible exact g5 | with_reducible exact g6)
              clear hK K
              try simp only [Act.put, List.setIfInBounds_toArray, List.set_cons_zero, List.set_cons_succ]
              refine wpAnyH_take (i := 21) (v := ?_) rfl (by kernel_rfl) (by kernel_rfl) (by kernel_rfl) (fun _ _ _ h => h) (Or.inl ⟨by rfl, ?_⟩) (by assumption) ?_
              rotate_left
              · (intro w hSw; (try dsimp only at hSw); first | (go_simp; done) | (go_simp; with_reducible rfl))
              try simp only [Act.put, List.setIfInBounds_toArray, List.set_cons_zero, List.set_cons_succ]
              refine wpAnyH_take (i := 22) (v := ?_) rfl (by kernel_rfl) (by kernel_rfl) (by kernel_rfl) (fun _ _ _ h => h) (Or.inl ⟨by rfl, ?_⟩) (by assumption) ?_
              rotate_left
              · (intro w hSw; (try dsimp only at hSw); first | (go_simp; done) | (go_simp; with_reducible rfl))
              try simp only [Act.put, List.setIfInBounds_toArray, List.set_cons_zero, List.set_cons_succ]
              refine wpAnyH_ready (rs := [23]) (by kernel_rfl) (by simp) ?_
              refine AllReadyH.cons rfl (fun K hK => ?_) (AllReadyH.nil)
              go_simp
              refine hK.out _ _ ?_ (fun hHeld => ?_)
              · ((try dsimp only); first | with_reducible exact gd | with_reducible exact g5 | with_reducible exact g6)
              clear hK K
              try simp only [Act.put, List.setIfInBounds_toArray, List.set_cons_zero, List.set_cons_succ]
              refine wpAnyH_done (by kernel_rfl) ?_ _
              refine NoPanic.normal ?_
              clear gd cd g5 g6 m5 m5v mf5
              go_wp2
              go_roundw
              case rel => exact ⟨j + 1, _, by omega, by go_num, HR6, HI2⟩
              case measure => simp [intOf]; omega
            · go_simp
              refine hK.out _ _ ?_ (fun hHeld => ?_)
              · ((try dsimp only); first | with_reducible exact gd | with_reducible exact g5 | with_reducible exact g6)
              clear hK K
              try simp only [Act.put, List.setIfInBounds_toArray, List.set_cons_zero, List.set_cons_succ]
              refine wpAnyH_ready (rs := [11]) (by kernel_rfl) (by simp) ?_
              refine AllReadyH.cons rfl (fun K hK => ?_) (AllReadyH.nil)
              go_simp
              refine hK.out _ _ ?_ (fun hHeld => ?_)
              · ((try dsimp only); first | with_reducible exact gd | with_reducible exact g5 | with_reducible exact g6)
              clear hK K
              try simp only [Act.put, List.setIfInBounds_toArray, List.set_cons_zero, List.set_cons_succ]
              refine wpAnyH_take (i := 21) (v := ?_) rfl (by kernel_rfl) (by kernel_rfl) (by kernel_rfl) (fun _ _ _ h => h) (Or.inl ⟨by rfl, ?_⟩) (by assumption) ?_
              rotate_left
              · (intro w hSw; (try dsimp only at hSw); first | (go_simp; done) | (go_simp; with_reducible rfl))
              try simp only [Act.put, List.setIfInBounds_toArray, List.set_cons_zero, List.set_cons_succ]
              refine wpAnyH_take (i := 22) (v := ?_) rfl (by kernel_rfl) (by kernel_rfl) (by kernel_rfl) (fun _ _ _ h => h) (Or.inl ⟨by rfl, ?_⟩) (by assumption) ?_
              rotate_left
              · (intro w hSw; (try dsimp only at hSw); first | (go_simp; done) | (go_simp; with_reducible rfl))
              try simp only [Act.put, List.setIfInBounds_toArray, List.set_cons_zero, List.set_cons_succ]
              refine wpAnyH_ready (rs := [23]) (by kernel_rfl) (by simp) ?_
              refine AllReadyH.cons rfl (fun K hK => ?_) (AllReadyH.nil)
              go_simp
              refine hK.out _ _ ?_ (fun hHeld => ?_)
              · ((try dsimp only); first | with_reducible exact gd | with_reducible exact g5 | with_reducible exact g6)
              clear hK K
              try simp only [Act.put, List.setIfInBounds_toArray, List.set_cons_zero, List.set_cons_succ]
              refine wpAnyH_done (by kernel_rfl) ?_ _
              refine NoPanic.normal ?_
              clear gd cd g5 g6 m5 m5v mf5
              go_wp2
              go_roundw
              case rel => exact ⟨j + 1, _, by omega, by go_num, HR6, HI2⟩
              case measure => simp [intOf]; omega
        · obtain rfl : j = n5 := by omega
          have hI := HI.out
          rw [Hn5.out, List.drop_length, frRun] at hI
          injection hI with hI
          subst hI
          obtain ⟨vs6, PV6, path6, F6, hR⟩ := HR.out
          have hwl : s'.wait.length = m := hR.wt.2.1
          have hen : en < m := by omega
          have hpn : pn < m := by omega
          obtain ⟨v7, l7, hv7, hl7, hld7, hF7⟩ := hR.wt.at hen
          rw [hld7] at q3
          have hwa : waitS b en pn s' = { s' with wait := s'.wait.set en (l7 ++ [(b : Int)]), above := s'.above.set b pn } := by unfold waitS; rw [hld7]
          obtain ⟨b2, hb2, hbl, hebe⟩ := rdI_some Heb.out
          obtain rfl : b = b2 := by omega
          have hP := hR.ls.sq.at hF7
          obtain ⟨PA, PC, hPV⟩ := gr_slice hP
          simp only [intR] at hPV
          subst hPV
          obtain ⟨Z, hZ, hbZ, hzZ, h0Z⟩ := gr_one wr #[.int .i64 (b : Int)] 3
          have hbD : Below wr.heap.size wr Z.drew := hbZ.drew
          have hRZ := hR.keep hbD
          have HOW := Lib.hid (hRZ.ls.sq.at hF7)
          simp only [intR] at HOW
          have HNW := Lib.hid (World.news_of_block (w := Z.drew) h0Z)
          have HOn : Hid (∀ u ∈ ([.int .i64 (b : Int)] : List Value), u.oneCell' = true) := Lib.hid (by intro u hu; simp at hu; subst hu; rfl)
          have hsz2 : base ≤ Z.drew.heap.size := hRZ.ls.sq.hb
          have gd : wr.drew.cell? ⟨sp, 1, none⟩ = some (.slice (some ⟨be, 0, none⟩) m m) ∧ wr.drew.cell? ⟨be, b, none⟩ = some (.int .i64 (en : Int)) := ⟨hR.ls.sq.cell 1 _ rfl, by rw [hebe]; exact hR.ls.r0.2.1.cell hbl⟩
          have ga : Z.drew.cell? ⟨sp, 1, none⟩ = some (.slice (some ⟨be, 0, none⟩) m m) ∧ Z.drew.cell? ⟨be, b, none⟩ = some (.int .i64 (en : Int)) := ⟨hRZ.ls.sq.cell 1 _ rfl, by rw [hebe]; exact hRZ.ls.r0.2.1.cell hbl⟩
          have p1 : wr.drew.cell? ⟨gb, en, none⟩ = some (.slice PA l7.length PC) := hR.wt.cell (hR.ls.sq.keep (Below.refl _ _).drew) hv7
          have pa : Z.drew.cell? ⟨gb, en, none⟩ = some (.slice PA l7.length PC) := hRZ.wt.cell hRZ.ls.sq hv7
          rw [hZ] at HOW HNW hsz2 ga pa
          have HZ := Lib.hid (show Z.drew = (wr.alloc (.cells #[.int .i64 (b : Int)] 3)).drew by rw [hZ])
          have HRZ := Lib.hid hRZ
          have Hv7 := Lib.hid hv7
          have Hl7 := Lib.hid hl7
          have Hebe := Lib.hid (And.intro hebe hbl)
          have Hwa := Lib.hid hwa
          clear hwl hv7 hl7 hld7 hF7 hwa hb2 hbl hebe hP hZ hbZ hzZ h0Z hbD hRZ hR HR HI Heb
          go_upto_region 10 with fail
          go_cut [33] (fun u33 wx => Hid (RnE base sp m W F1 bu be ba bb gb { s' with wait := s'.wait.set en (l7 ++ [(b : Int)]) } wx))
          case first =>
            skip
            refine wp_region_noPanic ?_
            refine wp_region_held_drew (S := fun w' => w'.cell? ⟨sp, 1, none⟩ = some (.slice (some ⟨be, 0, none⟩) m m) ∧ w'.cell? ⟨be, b, none⟩ = some (.int .i64 (en : Int))) (by kernel_rfl) gd (fun hHeld => ?_)
            refine wpAnyH_take (i := 0) (v := ?_) rfl (by kernel_rfl) (by kernel_rfl) (by kernel_rfl) (fun _ _ _ h => h) (Or.inl ⟨by rfl, ?_⟩) (by assumption) ?_
            rotate_left
            · (intro w hSw; (try dsimp only at hSw); first | (go_simp; done) | (go_simp; with_reducible rfl))
            try simp only [Act.put, List.setIfInBounds_toArray, List.set_cons_zero, List.set_cons_succ]
            refine wpAnyH_take (i := 1) (v := ?_) rfl (by kernel_rfl) (by kernel_rfl) (by kernel_rfl) (fun _ _ _ h => h) (Or.inl ⟨by rfl, ?_⟩) (by assumption) ?_
            rotate_left
            · (intro w hSw; (try dsimp only at hSw); first | (go_simp; done) | (go_simp; with_reducible rfl))
            try simp only [Act.put, List.setIfInBounds_toArray, List.set_cons_zero, List.set_cons_succ]
            refine wpAnyH_take (i := 2) (v := ?_) rfl (by kernel_rfl) (by kernel_rfl) (by kernel_rfl) (fun _ _ _ h => h) (Or.inl ⟨by rfl, ?_⟩) (by assumption) ?_
            rotate_left
            · (intro w hSw; (try dsimp only at hSw); first | (go_simp; done) | (go_simp; with_reducible rfl))
            try simp only [Act.put, List.setIfInBounds_toArray, List.set_cons_zero, List.set_cons_succ]
            refine wpAnyH_take (i := 3) (v := ?_) rfl (by kernel_rfl) (by kernel_rfl) (by kernel_rfl) (fun _ _ _ h => h) (Or.inl ⟨by rfl, ?_⟩) (by assumption) ?_
            rotate_left
            · (intro w hSw; (try dsimp only at hSw); first | (go_simp; done) | (go_simp; with_reducible rfl))
            try simp only [Act.put, List.setIfInBounds_toArray, List.set_cons_zero, List.set_cons_succ]
            refine wpAnyH_take (i := 4) (v := ?_) rfl (by kernel_rfl) (by kernel_rfl) (by kernel_rfl) (fun _ _ _ h => h) (Or.inl ⟨by rfl, ?_⟩) (by assumption) ?_
            rotate_left
            · (intro w hSw; (try dsimp only at hSw); first | (go_simp; done) | (go_simp; with_reducible rfl))
            try simp only [Act.put, List.setIfInBounds_toArray, List.set_cons_zero, List.set_cons_succ]
            refine wpAnyH_take (i := 5) (v := ?_) rfl (by kernel_rfl) (by kernel_rfl) (by kernel_rfl) (fun _ _ _ h => h) (Or.inl ⟨by rfl, ?_⟩) (by assumption) ?_
            rotate_left
            · (intro w hSw; (try dsimp only at hSw); first | (go_simp; done) | (go_simp; with_reducible rfl))
            try simp only [Act.put, List.setIfInBounds_toArray, List.set_cons_zero, List.set_cons_succ]
            refine wpAnyH_take (i := 6) (v := ?_) rfl (by kernel_rfl) (by kernel_rfl) (by kernel_rfl) (fun _ _ _ h => h) (Or.inl ⟨by rfl, ?_⟩) (by assumption) ?_
            rotate_left
            · (intro w hSw; (try dsimp only at hSw); first | (go_simp; done) | (go_simp; with_reducible rfl))
            try simp only [Act.put, List.setIfInBounds_toArray, List.set_cons_zero, List.set_cons_succ]
            refine wpAnyH_take (i := 7) (v := ?_) rfl (by kernel_rfl) (by kernel_rfl) (by kernel_rfl) (fun _ _ _ h => h) (Or.inl ⟨by rfl, ?_⟩) (by assumption) ?_
            rotate_left
            · (intro w hSw; (try dsimp only at hSw); first | (go_simp; done) | (go_simp; with_reducible rfl))
            try simp only [Act.put, List.setIfInBounds_toArray, List.set_cons_zero, List.set_cons_succ]
            refine wpAnyH_take (i := 8) (v := ?_) rfl (by kernel_rfl) (by kernel_rfl) (by kernel_rfl) (fun _ _ _ h => h) (Or.inl ⟨by rfl, ?_⟩) (by assumption) ?_
            rotate_left
            · (intro w hSw; (try dsimp only at hSw); first | (go_simp; done) | (go_simp; with_reducible rfl))
            try simp only [Act.put, List.setIfInBounds_toArray, List.set_cons_zero, List.set_cons_succ]
            refine wpAnyH_take (i := 9) (v := ?_) rfl (by kernel_rfl) (by kernel_rfl) (by kernel_rfl) (fun _ _ _ h => h) (Or.inl ⟨by rfl, ?_⟩) (by assumption) ?_
            rotate_left
            · (intro w hSw; (try dsimp only at hSw); first | (go_simp; done) | (go_simp; with_reducible rfl))
            try simp only [Act.put, List.setIfInBounds_toArray, List.set_cons_zero, List.set_cons_succ]
            refine wpAnyH_take (i := 10) (v := ?_) rfl (by kernel_rfl) (by kernel_rfl) (by kernel_rfl) (fun _ _ _ h => h) (Or.inl ⟨by rfl, ?_⟩) (by assumption) ?_
            rotate_left
            · (intro w hSw; (try dsimp only at hSw); first | (go_simp; done) | (go_simp; with_reducible rfl))
            try simp only [Act.put, List.setIfInBounds_toArray, List.set_cons_zero, List.set_cons_succ]
            refine wpAnyH_take (i := 11) (v := ?_) rfl (by kernel_rfl) (by kernel_rfl) (by kernel_rfl) (fun _ _ _ h => h) (Or.inl ⟨by rfl, ?_⟩) (by assumption) ?_
            rotate_left
            · (intro w hSw; (try dsimp only at hSw); first | (go_simp; done) | (go_simp; with_reducible rfl))
            try simp only [Act.put, List.setIfInBounds_toArray, List.set_cons_zero, List.set_cons_succ]
            refine wpAnyH_take (i := 12) (v := ?_) rfl (by kernel_rfl) (by kernel_rfl) (by kernel_rfl) (fun _ _ _ h => h) (Or.inl ⟨by rfl, ?_⟩) (by assumption) ?_
            rotate_left
            · (intro w hSw; (try dsimp only at hSw); first | (go_simp; done) | (go_simp; with_reducible rfl))
            try simp only [Act.put, List.setIfInBounds_toArray, List.set_cons_zero, List.set_cons_succ]
            refine wpAnyH_take (i := 13) (v := ?_) rfl (by kernel_rfl) (by kernel_rfl) (by kernel_rfl) (fun _ _ _ h => h) (Or.inl ⟨by rfl, ?_⟩) (by assumption) ?_
            rotate_left
            · (intro w hSw; (try dsimp only at hSw); first | (go_simp; done) | (go_simp; with_reducible rfl))
            try simp only [Act.put, List.setIfInBounds_toArray, List.set_cons_zero, List.set_cons_succ]
            refine wpAnyH_take (i := 14) (v := ?_) rfl (by kernel_rfl) (by kernel_rfl) (by kernel_rfl) (fun _ _ _ h => h) (Or.inl ⟨by rfl, ?_⟩) (by assumption) ?_
            rotate_left
            · (intro w hSw; (try dsimp only at hSw); first | (go_simp; done) | (go_simp; with_reducible rfl))
            try simp only [Act.put, List.setIfInBounds_toArray, List.set_cons_zero, List.set_cons_succ]
            refine wpAnyH_take (i := 15) (v := ?_) rfl (by kernel_rfl) (by kernel_rfl) (by kernel_rfl) (fun _ _ _ h => h) (Or.inl ⟨by rfl, ?_⟩) (by assumption) ?_
            rotate_left
            · (intro w hSw; (try dsimp only at hSw); first | (go_simp; done) | (go_simp; with_reducible rfl))
            try simp only [Act.put, List.setIfInBounds_toArray, List.set_cons_zero, List.set_cons_succ]
            refine wpAnyH_take (i := 16) (v := ?_) rfl (by kernel_rfl) (by kernel_rfl) (by kernel_rfl) (fun _ _ _ h => h) (Or.inl ⟨by rfl, ?_⟩) (by assumption) ?_
            rotate_left
            · (intro w hSw; (try dsimp only at hSw); first | (go_simp; done) | (go_simp; with_reducible rfl))
            try simp only [Act.put, List.setIfInBounds_toArray, List.set_cons_zero, List.set_cons_succ]
            refine wpAnyH_take (i := 18) (v := ?_) rfl (by kernel_rfl) (by kernel_rfl) (by kernel_rfl) (fun _ _ _ h => h) (Or.inl ⟨by rfl, ?_⟩) (by assumption) ?_
            rotate_left
            · (intro w hSw; (try dsimp only at hSw); first | (go_simp; done) | (go_simp; with_reducible rfl))
            try simp only [Act.put, List.setIfInBounds_toArray, List.set_cons_zero, List.set_cons_succ]
            refine wpAnyH_ready (rs := [17, 19]) (by kernel_rfl) (by simp) ?_
            refine AllReadyH.cons rfl (fun K hK => ?_) (AllReadyH.cons rfl (fun K hK => ?_) (AllReadyH.nil))
            · go_simp
              refine hK.out _ _ ?_ (fun hHeld => ?_)
              · ((try dsimp only); first | with_reducible exact gd | with_reducible exact ga | with_reducible exact g5 | with_reducible exact g6)
              clear hK K
              try simp only [Act.put, List.setIfInBounds_toArray, List.set_cons_zero, List.set_cons_succ]
              refine wpAnyH_ready (rs := [19]) (by kernel_rfl) (by simp) ?_
              refine AllReadyH.cons rfl (fun K hK => ?_) (AllReadyH.nil)
              go_simp
              refine hK.out _ _ ?_ (fun hHeld => ?_)
              · ((try dsimp only); first | with_reducible exact gd | with_reducible exact ga | with_reducible exact g5 | with_reducible exact g6)
              clear hK K
              try simp only [Act.put, List.setIfInBounds_toArray, List.set_cons_zero, List.set_cons_succ]
              refine wpAnyH_ready (rs := [20]) (by kernel_rfl) (by simp) ?_
              refine AllReadyH.cons rfl (fun K hK => ?_) (AllReadyH.nil)
              refine step_append_lies _ rfl (.tmp 78) (.tmp 80) 64 rfl base 3 j1 (.int .i64 0) 1 8 Try.underlying64 Ji.out Jz0.out Jz1.out Jz2.out rfl (by decide) (.slice PA l7.length PC) l7.length (intsV l7) (by simp [Act.eval, Act.put]) HOW.out ⟨wr.heap.size, 0, none⟩ 1 1 [.int .i64 (b : Int)] (by simp [Act.eval, Act.put]) rfl HNW.out HOn.out (by decide) (by unfold maxLen; omega) (by omega) hsz2 _ rfl ?_
              intro gp cp w5 hown5 hgrow hat hlt5
              rw [← HZ.out] at hgrow
              have hat2 : (Value.slice PA l7.length PC).ownBlock = some gp ∨ Z.drew.heap.size ≤ gp := by
                rcases hat with h | h
                · exact .inl h
                · exact .inr (by rw [h, ← HZ.out]; exact Nat.le_refl _)
              obtain ⟨F5, hs5, e5, e51, F6', hR6⟩ := HRZ.out.wait1 hen Hv7.out Hl7.out hgrow hown5 hat2
              have p5 : w5.cell? ⟨gb, en, none⟩ = some (.slice PA l7.length PC) := by
                rw [(hs5.at e5).cellAt en (by show en < m * 1; omega)]
                exact Hv7.out
              have pf5 : w5.frozen? ⟨gb, en, none⟩ = false := (hs5.at e5).frozenAt en
              have g5 : w5.cell? ⟨sp, 1, none⟩ = some (.slice (some ⟨be, 0, none⟩) m m) ∧ w5.cell? ⟨be, b, none⟩ = some (.int .i64 (en : Int)) := ⟨hs5.cell 1 _ rfl, by rw [Hebe.out.1]; exact (hs5.whole (e51.trans HRZ.out.ls.f1)).cell Hebe.out.2⟩
              have g6 : (w5.setCell ⟨gb, en, none⟩ (.slice (some ⟨gp, 0, none⟩) (l7.length + 1) cp)).cell? ⟨sp, 1, none⟩ = some (.slice (some ⟨be, 0, none⟩) m m) ∧ (w5.setCell ⟨gb, en, none⟩ (.slice (some ⟨gp, 0, none⟩) (l7.length + 1) cp)).cell? ⟨be, b, none⟩ = some (.int .i64 (en : Int)) := ⟨hR6.ls.sq.cell 1 _ rfl, by rw [Hebe.out.1]; exact hR6.ls.r0.2.1.cell Hebe.out.2⟩
              have HR6 : Hid (RnE base sp m W F1 bu be ba bb gb { s' with wait := s'.wait.set en (l7 ++ [(b : Int)]) } (w5.setCell ⟨gb, en, none⟩ (.slice (some ⟨gp, 0, none⟩) (l7.length + 1) cp))) := Lib.hid ⟨_, _, _, _, hR6⟩
              clear hown5 hgrow hat hlt5 hat2 hs5 e5 e51 hR6 HOW HNW hsz2 HZ
              refine hK.out _ _ ?_ (fun hHeld => ?_)
              · ((try dsimp only); first | with_reducible exact gd | with_reducible exact ga | with_reducible exact g5 | with_reducible exact g6)
              clear hK K
              try simp only [Act.put, List.setIfInBounds_toArray, List.set_cons_zero, List.set_cons_succ]
              refine wpAnyH_take (i := 21) (v := ?_) rfl (by kernel_rfl) (by kernel_rfl) (by kernel_rfl) (fun _ _ _ h => h) (Or.inl ⟨by rfl, ?_⟩) (by assumption) ?_
              rotate_left
              · (intro w hSw; (try dsimp only at hSw); first | (go_simp; done) | (go_simp; with_reducible rfl))
              try simp only [Act.put, List.setIfInBounds_toArray, List.set_cons_zero, List.set_cons_succ]
              refine wpAnyH_ready (rs := [22]) (by kernel_rfl) (by simp) ?_
              refine AllReadyH.cons rfl (fun K hK => ?_) (AllReadyH.nil)
              go_simp
              refine hK.out _ _ ?_ (fun hHeld => ?_)
              · ((try dsimp only); first | with_reducible exact gd | with_reducible exact ga | with_reducible exact g5 | with_reducible exact g6)
              clear hK K
              try simp only [Act.put, List.setIfInBounds_toArray, List.set_cons_zero, List.set_cons_succ]
              refine wpAnyH_done (by kernel_rfl) ?_ _
              refine NoPanic.normal ?_
              clear gd ga p1 pa g5 g6 p5 pf5
              go_wp2_with fail
              go_meet
              exact HR6
            · go_simp
              refine hK.out _ _ ?_ (fun hHeld => ?_)
              · ((try dsimp only); first | with_reducible exact gd | with_reducible exact ga | with_reducible exact g5 | with_reducible exact g6)
              clear hK K
              try simp only [Act.put, List.setIfInBounds_toArray, List.set_cons_zero, List.set_cons_succ]
              refine wpAnyH_ready (rs := [17]) (by kernel_rfl) (by simp) ?_
              refine AllReadyH.cons rfl (fun K hK => ?_) (AllReadyH.nil)
              go_simp
              refine hK.out _ _ ?_ (fun hHeld => ?_)
              · ((try dsimp only); first | with_reducible exact gd | with_reducible exact ga | with_reducible exact g5 | with_reducible exact g6)
              clear hK K
              try simp only [Act.put, List.setIfInBounds_toArray, List.set_cons_zero, List.set_cons_succ]
              refine wpAnyH_ready (rs := [20]) (by kernel_rfl) (by simp) ?_
              refine AllReadyH.cons rfl (fun K hK => ?_) (AllReadyH.nil)
              refine step_append_lies _ rfl (.tmp 78) (.tmp 80) 64 rfl base 3 j1 (.int .i64 0) 1 8 Try.underlying64 Ji.out Jz0.out Jz1.out Jz2.out rfl (by decide) (.slice PA l7.length PC) l7.length (intsV l7) (by simp [Act.eval, Act.put]) HOW.out ⟨wr.heap.size, 0, none⟩ 1 1 [.int .i64 (b : Int)] (by simp [Act.eval, Act.put]) rfl HNW.out HOn.out (by decide) (by unfold maxLen; omega) (by omega) hsz2 _ rfl ?_
              intro gp cp w5 hown5 hgrow hat hlt5
              rw [← HZ.out] at hgrow
              have hat2 : (Value.slice PA l7.length PC).ownBlock = some gp ∨ Z.drew.heap.size ≤ gp := by
                rcases hat with h | h
                · exact .inl h
                · exact .inr (by rw [h, ← HZ.out]; exact Nat.le_refl _)
              obtain ⟨F5, hs5, e5, e51, F6', hR6⟩ := HRZ.out.wait1 hen Hv7.out Hl7.out hgrow hown5 hat2
              have p5 : w5.cell? ⟨gb, en, none⟩ = some (.slice PA l7.length PC) := by
                rw [(hs5.at e5).cellAt en (by show en < m * 1; omega)]
                exact Hv7.out
              have pf5 : w5.frozen? ⟨gb, en, none⟩ = false := (hs5.at e5).frozenAt en
              have g5 : w5.cell? ⟨sp, 1, none⟩ = some (.slice (some ⟨be, 0, none⟩) m m) ∧ w5.cell? ⟨be, b, none⟩ = some (.int .i64 (en : Int)) := ⟨hs5.cell 1 _ rfl, by rw [Hebe.out.1]; exact (hs5.whole (e51.trans HRZ.out.ls.f1)).cell Hebe.out.2⟩
              have g6 : (w5.setCell ⟨gb, en, none⟩ (.slice (some ⟨gp, 0, none⟩) (l7.length + 1) cp)).cell? ⟨sp, 1, none⟩ = some (.slice (some ⟨be, 0, none⟩) m m) ∧ (w5.setCell ⟨gb, en, none⟩ (.slice (some ⟨gp, 0, none⟩) (l7.length + 1) cp)).cell? ⟨be, b, none⟩ = some (.int .i64 (en : Int)) := ⟨hR6.ls.sq.cell 1 _ rfl, by rw [Hebe.out.1]; exact hR6.ls.r0.2.1.cell Hebe.out.2⟩
              have HR6 : Hid (RnE base sp m W F1 bu be ba bb gb { s' with wait := s'.wait.set en (l7 ++ [(b : Int)]) } (w5.setCell ⟨gb, en, none⟩ (.slice (some ⟨gp, 0, none⟩) (l7.length + 1) cp))) := Lib.hid ⟨_, _, _, _, hR6⟩
              clear hown5 hgrow hat hlt5 hat2 hs5 e5 e51 hR6 HOW HNW hsz2 HZ
              refine hK.out _ _ ?_ (fun hHeld => ?_)
              · ((try dsimp only); first | with_reducible exact gd | with_reducible exact ga | with_reducible exact g5 | with_reducible exact g6)
              clear hK K
              try simp only [Act.put, List.setIfInBounds_toArray, List.set_cons_zero, List.set_cons_succ]
              refine wpAnyH_take (i := 21) (v := ?_) rfl (by kernel_rfl) (by kernel_rfl) (by kernel_rfl) (fun _ _ _ h => h) (Or.inl ⟨by rfl, ?_⟩) (by assumption) ?_
              rotate_left
              · (intro w hSw; (try dsimp only at hSw); first | (go_simp; done) | (go_simp; with_reducible rfl))
              try simp only [Act.put, List.setIfInBounds_toArray, List.set_cons_zero, List.set_cons_succ]
              refine wpAnyH_ready (rs := [22]) (by kernel_rfl) (by simp) ?_
              refine AllReadyH.cons rfl (fun K hK => ?_) (AllReadyH.nil)
              go_simp
              refine hK.out _ _ ?_ (fun hHeld => ?_)
              · ((try dsimp only); first | with_reducible exact gd | with_reducible exact ga | with_reducible exact g5 | with_reducible exact g6)
              clear hK K
              try simp only [Act.put, List.setIfInBounds_toArray, List.set_cons_zero, List.set_cons_succ]
              refine wpAnyH_done (by kernel_rfl) ?_ _
              refine NoPanic.normal ?_
              clear gd ga p1 pa g5 g6 p5 pf5
              go_wp2_with fail
              go_meet
              exact HR6
          case rest =>
            obtain ⟨V, hV⟩ : ∃ V, V = wc := ⟨_, rfl⟩
            subst hV
            clear gd ga p1 pa HOW HNW HOn hsz2 HZ HRZ Hv7 Hl7 Hebe
            obtain ⟨vs7, PV7, path7, F7, hR⟩ := hcut.out
            have cbx2 : V.cell? ⟨w.heap.size, 2, none⟩ = some (.slice Af m cf) := Lib.cell_of_heap (hR.fx _ _ Hbx.out).at_ 2
            obtain ⟨b3, hb3, hbf, hpe⟩ := rdI_some Hp.out
            obtain rfl : b = b3 := by omega
            obtain ⟨bf, of, rfl, hbf2, cvf0⟩ := (HVf.out.keep hR.bw).at hbf
            have cvf : V.cell? ⟨bf, of + b, none⟩ = some (.int .i64 (pn : Int)) := by rw [cvf0, hpe]; simp [List.getD, hbf]
            have c2 : V.cell? ⟨sp, 2, none⟩ = some (.slice (some ⟨ba, 0, none⟩) m m) := hR.ls.sq.cell 2 _ rfl
            have ca : ∃ v, V.cell? ⟨ba, b, none⟩ = some v := ⟨_, hR.ls.r0.2.2.1.cell (by rw [hR.ls.l2]; exact hi)⟩
            obtain ⟨vca, ca⟩ := ca
            have caf := hR.ls.r0.2.2.1.fro b
            have hR2 := hR.set2 b (pn : Int)
            obtain ⟨G2, hG2⟩ : ∃ G2, G2 = V.setCell ⟨ba, b, none⟩ (.int .i64 (pn : Int)) := ⟨_, rfl⟩
            rw [← hG2] at hR2
            obtain ⟨v8, l8, hv8, hl8, hld8, hF8⟩ := hR2.wt.at hpn
            have hP := hR2.ls.sq.at hF8
            obtain ⟨PA8, PC8, hPV⟩ := gr_slice hP
            simp only [intR] at hPV hP
            subst hPV
            obtain ⟨n8, hn8⟩ : ∃ n8, n8 = l8.length := ⟨_, rfl⟩
            have hn8m : n8 ≤ 9223372036854775807 := by rw [hn8]; exact own_max2 hP
            have c8 : G2.cell? ⟨gb, pn, none⟩ = some (.slice PA8 l8.length PC8) := hR2.wt.cell hR2.ls.sq hv8
            have hwt := Hwt.out
            rw [Hwa.out] at hwt
            dsimp only at hwt hld8 hl8
            rw [hld8] at hwt
            obtain ⟨ws8, hws8⟩ : ∃ ws8, ws8 = s'.wait.set en (l7 ++ [(b : Int)]) := ⟨_, rfl⟩
            rw [← hws8] at hwt hl8 hld8
            have HV0 : Hid (RnV base sp m W F1 bu be ba bb gb vs7 ws8 { s' with wait := ws8, above := s'.above.set b pn } G2) := Lib.hid ⟨rfl, _, _, _, by rw [hws8]; exact hR2⟩
            have HI0 : Hid (wtRun k0 pn (l8.drop 0) { s' with wait := ws8, above := s'.above.set b pn } = some s3) := Lib.hid hwt
            rw [← hn8] at c8
            have HG2 := Lib.hid hG2
            have Hn8 := Lib.hid hn8
            have Hv8 := Lib.hid hv8
            have Hl8 := Lib.hid hl8
            have Hpn := Lib.hid hpn
            clear cvf0 hb3 hbf hpe hR hR2 hG2 hld8 hF8 hP hwt hws8 hn8 hv8 hl8 hcut Hwa Hwt Hp
            go_upto_region 12 with fail
            clear cbx2 cvf
            go_upto_region 13 with fail
            rw [← HG2.out]
            clear c2 ca caf HG2
            go_upto_block 4 with fail
            clear c8
            go_wp2_with fail
            go_loopw [100] (fun u100 wr => ∃ (j : Nat) (s2 : Sr), j ≤ n8 ∧ u100 = .int .i64 j ∧ Hid (RnV base sp m W F1 bu be ba bb gb vs7 ws8 s2 wr) ∧ Hid (wtRun k0 pn (l8.drop j) s2 = some s3)) (fun u100 _ => n8 - (intOf u100).toNat)
            case atStart => exact ⟨0, _, Nat.zero_le _, rfl, HV0, HI0⟩
            case round =>
              clear HV0 HI0
              obtain ⟨j2, s2, hj2, rfl, HV, HI⟩ := hrel
              by_cases hlt2 : j2 < n8
              · have hI := HI.out
                have hjl : j2 < l8.length := by rw [← Hn8.out]; exact hlt2
                rw [List.drop_eq_getElem_cons hjl, wtRun, Option.bind_eq_some_iff] at hI
                obtain ⟨u0, hu0, hI⟩ := hI
                rw [Option.bind_eq_some_iff] at hI
                obtain ⟨⟨ab', be', v⟩, hr, hI⟩ := hI
                rw [Option.bind_eq_some_iff] at hI
                obtain ⟨ev, hev, hI⟩ := hI
                dsimp only at hev hI
                obtain ⟨hws, PV9, path9, F9, hR⟩ := HV.out
                have rt : F9 (5 + 1 + pn) = intR (.slice PA8 n8 PC8) l8 := by rw [Hn8.out]; exact hR.wt.2.2.2 pn _ _ Hv8.out (by rw [hws]; exact Hl8.out)
                have hP := hR.ls.sq.at rt
                simp only [intR] at hP
                rw [← Hn8.out] at hP
                obtain ⟨g8, rfl, -, hg81, hg82⟩ := gr_some hP (by omega)
                obtain ⟨x, hx⟩ : ∃ x, x = l8[j2] := ⟨_, rfl⟩
                have c8 : wr.cell? ⟨g8, j2, none⟩ = some (.int .i64 x) := by
                  rw [hP.cellAt j2 (by omega), hx]
                  simp [intsV, hjl]
                rw [← hx] at hu0 hr hI
                obtain ⟨xn, rfl, hxl, -⟩ := rdI_some hu0
                obtain ⟨vn, rfl, hvl, heve⟩ := rdI_some hev
                rw [Int.toNat_natCast] at hI
                have hxm : xn < m := by rw [← hR.ls.l0]; exact hxl
                have hvm : vn < m := by rw [← hR.ls.l1]; exact hvl
                have c0 : wr.cell? ⟨sp, 0, none⟩ = some (.slice (some ⟨bu, 0, none⟩) m m) := hR.ls.sq.cell 0 _ rfl
                have cu : ∃ v, wr.cell? ⟨bu, xn, none⟩ = some v := ⟨_, hR.ls.r0.1.cell hxl⟩
                obtain ⟨vcu, cu⟩ := cu
                have cuf := hR.ls.r0.1.fro xn
                have hR3 := hR.set0 xn (pn : Int)
                obtain ⟨G3, hG3⟩ : ∃ G3, G3 = wr.setCell ⟨bu, xn, none⟩ (.int .i64 (pn : Int)) := ⟨_, rfl⟩
                rw [← hG3] at hR3
                have hc := least_g base sp m bu be ba bb PV9 path9 _ s2.early s2.above s2.best ab' be' _ (xn : Int) (vn : Int) k0 G3 hR3.ls hk0 hr
                have Hev : Hid (ev = s2.early.getD vn 0 ∧ vn < s2.early.length) := Lib.hid ⟨heve, hvl⟩
                have Hc := Lib.hid hc
                have HR3 := Lib.hid hR3
                have HG3 := Lib.hid hG3
                have HI2 := Lib.hid hI
                have Hws := Lib.hid hws
                clear hI hu0 hr hev hws hR rt hP hx hxl hvl heve hR3 hG3 hc HV HI hjl
                go_upto_region 16 with fail
                clear c8
                go_upto_region 17 with fail
                rw [← HG3.out]
                clear c0 cu cuf HG3
                go_upto_region 18 with (go_at_call 164; refine Hc.out.mono ?_; rintro e w5 ⟨rfl, PV5, path5, F5, hL5, hF5, hB5, hx5⟩; have HR5 := Lib.hid (HR3.out.least hL5 hF5 hB5 hx5); clear hL5 hF5 hB5 hx5)
                have c1 : w5.cell? ⟨sp, 1, none⟩ = some (.slice (some ⟨be, 0, none⟩) m m) := HR5.out.ls.sq.cell 1 _ rfl
                have cev : w5.cell? ⟨be, vn, none⟩ = some (.int .i64 ev) := by rw [Hev.out.1]; exact HR5.out.ls.r0.2.1.cell Hev.out.2
                by_cases hlte : ev < (pn : Int)
                · have hd : decide (ev < (pn : Int)) = true := decide_eq_true hlte
                  have hI := HI2.out
                  rw [if_pos hlte] at hI
                  have c0 : w5.cell? ⟨sp, 0, none⟩ = some (.slice (some ⟨bu, 0, none⟩) m m) := HR5.out.ls.sq.cell 0 _ rfl
                  have cu : ∃ v, w5.cell? ⟨bu, xn, none⟩ = some v := ⟨_, HR5.out.ls.r0.1.cell (by rw [HR5.out.ls.l0]; exact hxm)⟩
                  obtain ⟨vcu2, cu⟩ := cu
                  have cuf := HR5.out.ls.r0.1.fro xn
                  have HN5 : Hid (RnV base sp m W F1 bu be ba bb gb vs7 ws8 { s2 with above := ab', best := be', up := (s2.up.set xn (pn : Int)).set xn (vn : Int) } (w5.setCell ⟨bu, xn, none⟩ (.int .i64 (vn : Int)))) := Lib.hid ⟨Hws.out, _, _, _, HR5.out.set0 xn (vn : Int)⟩
                  have HI5 := Lib.hid hI
                  clear hI HI2 HR5 HR3 Hc
                  go_wp2
                  go_roundw
                  case rel => exact ⟨j2 + 1, _, by omega, by go_num, HN5, HI5⟩
                  case measure => simp [intOf]; omega
                · have hd : decide (ev < (pn : Int)) = false := decide_eq_false hlte
                  have hI := HI2.out
                  rw [if_neg hlte] at hI
                  have HN5 : Hid (RnV base sp m W F1 bu be ba bb gb vs7 ws8 { s2 with above := ab', best := be', up := s2.up.set xn (pn : Int) } w5) := Lib.hid ⟨Hws.out, _, _, _, HR5.out⟩
                  have HI5 := Lib.hid hI
                  clear hI HI2 HR5 HR3 Hc
                  go_wp2
                  go_roundw
                  case rel => exact ⟨j2 + 1, _, by omega, by go_num, HN5, HI5⟩
                  case measure => simp [intOf]; omega
              · obtain rfl : j2 = n8 := by omega
                have hI := HI.out
                rw [Hn8.out, List.drop_length, wtRun] at hI
                injection hI with hI
                subst hI
                obtain ⟨hws, PV9, path9, F9, hR⟩ := HV.out
                have c8 : wr.cell? ⟨gb, pn, none⟩ = some (.slice PA8 l8.length PC8) := hR.wt.cell hR.ls.sq Hv8.out
                have c8f := hR.wt.fro hR.ls.sq pn
                obtain ⟨Fc, hRc⟩ := hR.clear Hpn.out
                rw [Hcl.out] at hRc
                have HRc : Hid (RnE base sp m W F1 bu be ba bb gb sN (wr.setCell ⟨gb, pn, none⟩ (.slice none 0 0))) := Lib.hid ⟨_, _, _, _, hRc⟩
                have hw1 : IntKind.i64.wrap ((b : Int) - 1) = (b' : Int) := by rw [IntKind.wrap_i64]; have := Hhb.out; omega
                clear hws hR hRc HV HI Hcl
                go_wp2
                clear c8 c8f
                go_roundw
                case rel => exact ⟨b', sN, by have := Hhb.out; omega, by first | rfl | rw [hw1], HRc, HN2⟩
                case measure => first | (simp [intOf]; have := Hhb.out; omega) | (rw [hw1]; simp [intOf]; have := Hhb.out; omega)
    | zero =>
      have hN := HN.out
      rw [rnRun] at hN
      injection hN with hN
      subst hN
      obtain ⟨vs9, PV9, path9, F9, hR⟩ := HR.out
      have c0 : wr.cell? ⟨sp, 0, none⟩ = some (.slice (some ⟨bu, 0, none⟩) m m) := hR.ls.sq.cell 0 _ rfl
      have HF0 : Hid (finP s.early (m - 0) 0 s.up = some upE) := Lib.hid Hfin.out
      clear hR HN Hfin
      rw [show ((0 : Nat) : Int) = 0 from rfl]
      go_upto_block 6 with fail
      clear c0
      go_wp2_with fail
      go_loopw [139] (fun u139 wr => ∃ (j : Nat) (up' : List Int), j ≤ m ∧ u139 = .int .i64 j ∧ Hid (RnE base sp m W F1 bu be ba bb gb { s with up := up' } wr) ∧ Hid (finP s.early (m - j) j up' = some upE)) (fun u139 _ => m - (intOf u139).toNat)
      case atStart => exact ⟨0, s.up, Nat.zero_le _, rfl, HR, HF0⟩
      case round =>
        clear HR HF0
        obtain ⟨j, up', hj, rfl, HR, HI⟩ := hrel
        by_cases hlt : j < m
        · obtain ⟨q, hq⟩ : ∃ q, m - j = q + 1 := ⟨m - j - 1, by omega⟩
          have hI := HI.out
          rw [hq, finP, Option.bind_eq_some_iff] at hI
          obtain ⟨u, hu, hI⟩ := hI
          obtain ⟨j', hj', hjl, hue⟩ := rdI_some hu
          obtain rfl : j = j' := by omega
          obtain ⟨vs9, PV9, path9, F9, hR⟩ := HR.out
          have c0 : wr.cell? ⟨sp, 0, none⟩ = some (.slice (some ⟨bu, 0, none⟩) m m) := hR.ls.sq.cell 0 _ rfl
          have c1 : wr.cell? ⟨sp, 1, none⟩ = some (.slice (some ⟨be, 0, none⟩) m m) := hR.ls.sq.cell 1 _ rfl
          have cu : wr.cell? ⟨bu, j, none⟩ = some (.int .i64 u) := by rw [hue]; exact hR.ls.r0.1.cell hjl
          have hq2 : m - (j + 1) = q := by omega
          by_cases h1 : u = -1
          · have h1c : (u != -1) = false := by simp [h1]
            rw [if_pos h1, ← hq2] at hI
            have HN : Hid (∀ n, RnE base sp m W F1 bu be ba bb gb { s with up := up' } (wr.drewN n)) := Lib.hid fun n => ⟨_, _, _, _, hR.keep (below_drewN _ n)⟩
            have HI2 := Lib.hid hI
            clear hI hu hj' hjl hue hR HR HI hq hq2 h1
            go_upto_region 25 with fail
            go_quiet (fail)
            go_wp2
            go_roundw
            case rel => exact ⟨j + 1, up', by omega, by go_num, Lib.hid (HN.out _), HI2⟩
            case measure => simp [intOf]; omega
          · have h1c : (u != -1) = true := by simpa using h1
            rw [if_neg h1, Option.bind_eq_some_iff] at hI
            obtain ⟨e0, he0, hI⟩ := hI
            obtain ⟨j', hj'', hel, hee⟩ := rdI_some he0
            obtain rfl : j = j' := by omega
            have ce : wr.cell? ⟨be, j, none⟩ = some (.int .i64 e0) := by rw [hee]; exact hR.ls.r0.2.1.cell hel
            by_cases h2 : u = e0
            · have h2c : (u != e0) = false := by simp [h2]
              rw [if_pos h2, ← hq2] at hI
              have HN : Hid (∀ n, RnE base sp m W F1 bu be ba bb gb { s with up := up' } (wr.drewN n)) := Lib.hid fun n => ⟨_, _, _, _, hR.keep (below_drewN _ n)⟩
              have HI2 := Lib.hid hI
              clear hI hu hj' hjl hue hR HR HI hq hq2 he0 hj'' hel hee h2
              go_upto_region 25 with fail
              go_quiet (fail)
              go_wp2
              go_roundw
              case rel => exact ⟨j + 1, up', by omega, by go_num, Lib.hid (HN.out _), HI2⟩
              case measure => simp [intOf]; omega
            · have h2c : (u != e0) = true := by simpa using h2
              rw [if_neg h2, Option.bind_eq_some_iff] at hI
              obtain ⟨uu, huu, hI⟩ := hI
              obtain ⟨un, rfl, hunl, huue⟩ := rdI_some huu
              rw [← hq2] at hI
              have hunm : un < m := by rw [← hR.ls.l0]; exact hunl
              have HI2 := Lib.hid hI
              have Hjl := Lib.hid (And.intro hjl (And.intro hue (And.intro hunl huue)))
              clear hI hu hj' hjl hue HI hq hq2 he0 hj'' hel hee huu hunl huue hR
              go_upto_region 25 with fail
              go_quiet (fail)
              obtain ⟨V, hV⟩ : ∃ V, V = wr.drewN nq := ⟨_, rfl⟩
              rw [← hV]
              clear c0 c1 cu ce
              obtain ⟨vs9, PV9, path9, F9, hR⟩ := HR.out
              have hRV : RnS base sp m W F1 V bu be ba bb gb vs9 PV9 path9 { s with up := up' } F9 := by rw [hV]; exact hR.keep (below_drewN _ _)
              have c0 : V.cell? ⟨sp, 0, none⟩ = some (.slice (some ⟨bu, 0, none⟩) m m) := hRV.ls.sq.cell 0 _ rfl
              have cu : V.cell? ⟨bu, j, none⟩ = some (.int .i64 (un : Int)) := by rw [Hjl.out.2.1]; exact hRV.ls.r0.1.cell Hjl.out.1
              have cuu : V.cell? ⟨bu, un, none⟩ = some (.int .i64 uu) := by rw [Hjl.out.2.2.2]; exact hRV.ls.r0.1.cell Hjl.out.2.2.1
              have cuf := hRV.ls.r0.1.fro j
              have HN : Hid (RnE base sp m W F1 bu be ba bb gb { s with up := up'.set j uu } (V.setCell ⟨bu, j, none⟩ (.int .i64 uu)).drew) := Lib.hid ⟨_, _, _, _, (hRV.set0 j uu).keep (Below.refl _ _).drew⟩
              clear hV hR hRV HR Hjl
              go_upto_region 26 with fail
              go_still_tail 18, (by kernel_rfl)
              change wpList _ _ _ _ _ V.drew
              go_wp2
              go_roundw
              case rel => exact ⟨j + 1, _, by omega, by go_num, HN, HI2⟩
              case measure => simp [intOf]; omega
        · obtain rfl : j = m := by omega
          have hI := HI.out
          rw [Nat.sub_self, finP] at hI
          injection hI with hI
          subst hI
          obtain ⟨vs9, PV9, path9, F9, hR⟩ := HR.out
          have c0 : wr.cell? ⟨sp, 0, none⟩ = some (.slice (some ⟨bu, 0, none⟩) j j) := hR.ls.sq.cell 0 _ rfl
          have HE := Lib.hid (And.intro hR.ls.r0.1 hR.bw)
          clear hR HI
          go_wp2
          go_ret
          exact ⟨rfl, HE.out.1, HB3.out.trans HE.out.2⟩
end Go.Proofs.Ytagagpappjkgbaa
