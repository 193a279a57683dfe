/-
  Blocks on all ways: the search's least.
-/
import Derived.Test.YtagagpappjkgbaaJx33
import Derived.Deep.DeepCutAuto
import Derived.Deep.CutBlock
namespace Go.Proofs.Ytagagpappjkgbaa
set_option linter.unusedVariables false
set_option linter.unusedSimpArgs false
open Go.RowKit Go.Shelf

attribute [local go_sem] Oper.semAt_some

/-- On the way up the chain. -/
def ChK (base sp m bu be ba bb bx : Nat) (W : World) (up early above best p : List Int) (F0 : Nat → GRw) (k : Nat) (u5 : Value) (w : World) : Prop :=
  ∃ (x : Int) (PV : Value) (path rest : List Int) (F : Nat → GRw), u5 = .int .i64 x ∧ LsS base sp m w bu be ba bb PV path up early above best F ∧ Fx w sp F bx (.cells #[.pointer (some ⟨sp, 0, none⟩)] 213 (0, 0)) ∧ Below base W w ∧ chainP above k x = some rest ∧ path ++ rest = p ∧ path.length + k ≤ 1048576 ∧ (∀ i, 4 < i → F i = F0 i) ∧ ∀ b o, Fx W sp F0 b o → Fx w sp F b o
def ChE (base sp m bu be ba bb bx : Nat) (W : World) (up early above best p : List Int) (F0 : Nat → GRw) (w : World) : Prop :=
  ∃ (PV : Value) (F : Nat → GRw), LsS base sp m w bu be ba bb PV p up early above best F ∧ Fx w sp F bx (.cells #[.pointer (some ⟨sp, 0, none⟩)] 213 (0, 0)) ∧ Below base W w ∧ (∀ i, 4 < i → F i = F0 i) ∧ ∀ b o, Fx W sp F0 b o → Fx w sp F b o

/-- Within the rounds that make the chain shorter. -/
def CmF (bx sp be ba bb : Nat) : Nat → Prop := fun k => k = bx ∨ k = sp ∨ k = be ∨ k = ba ∨ k = bb
def CmI (bx sp be ba bb m : Nat) (cs : List Value) (early ab' be' : List Int) (xs : List (Nat × Int)) (pre : List (Nat × Int)) (F : Nat → Prop) (A : World) : Prop :=
  F = CmF bx sp be ba bb ∧ A.heap[bx]? = some (.cells #[.pointer (some ⟨sp, 0, none⟩)] 213 (0, 0)) ∧ A.heap[sp]? = some (.cells cs.toArray 225 (0, 0)) ∧ IRow A be early ∧ ∃ ab bst, ab.length = m ∧ bst.length = m ∧ IRow A ba ab ∧ IRow A bb bst ∧ cmpP early ((xs.drop pre.length).map (·.2)) ab bst = some (ab', be')
theorem chainP_len {above : List Int} : ∀ {k : Nat} {x : Int} {p : List Int}, chainP above k x = some p → p.length ≤ k
  | 0, _, _, h => by simp [chainP] at h
  | k + 1, x, p, h => by
    rw [chainP, Option.bind_eq_some_iff] at h
    obtain ⟨a, _, h⟩ := h
    split at h
    · injection h with h; subst h; simp
    · rw [Option.bind_eq_some_iff] at h
      obtain ⟨aa, _, h⟩ := h
      split at h
      · injection h with h; subst h; simp
      · rw [Option.map_eq_some_iff] at h
        obtain ⟨q, hq, rfl⟩ := h
        have := chainP_len hq
        simp; omega
theorem cell_same {A B : World} {k o : Nat} (h : B.heap[k]? = A.heap[k]?) : B.cell? ⟨k, o, none⟩ = A.cell? ⟨k, o, none⟩ := by unfold World.cell?; rw [h]
theorem drop_pre {α : Type} {xs pre : List α} {x : α} (h : (pre ++ [x]) <+: xs) : xs.drop pre.length = x :: xs.drop (pre ++ [x]).length := by
  obtain ⟨r, rfl⟩ := h
  simp
theorem ChE.keep {base sp m bu be ba bb bx : Nat} {W : World} {up early above best p : List Int} {F0 : Nat → GRw} {w w' : World} (h : ChE base sp m bu be ba bb bx W up early above best p F0 w) (hb : Below w.heap.size w w') : ChE base sp m bu be ba bb bx W up early above best p F0 w' := by
  obtain ⟨PV, F, h1, h2, h3, h4, h5⟩ := h
  exact ⟨PV, F, h1.keep hb, h2.keep hb, h3.trans (hb.mono h1.sq.hb), h4, fun b o hx => (h5 b o hx).keep hb⟩
theorem below_drewN (w : World) (n : Nat) : Below w.heap.size w (w.drewN n) := by
  exact below_dr (Below.refl _ _) n

set_option maxRecDepth 100000 in
set_option maxHeartbeats 16000000 in
theorem least_g (base sp m bu be ba bb : Nat) (PV : Value) (path up early above best ab' be' : List Int) (F0 : Nat → GRw) (b v : Int) (k0 : Nat) (w : World) (h : LsS base sp m w bu be ba bb PV path up early above best F0) (hk0 : k0 ≤ 1048576) (hrun : leastP early above best k0 b = some (ab', be', v)) :
    Calls Try.prog 164 #[.pointer (some ⟨sp, 0, none⟩), .int .i64 b] w fun e w' => e = .returned (.int .i64 v) ∧ ∃ (PV' : Value) (path' : List Int) (F' : Nat → GRw), LsS base sp m w' bu be ba bb PV' path' up early ab' be' F' ∧ (∀ i, 4 < i → F' i = F0 i) ∧ Below base w w' ∧ ∀ b o, Fx w sp F0 b o → Fx w' sp F' b o := by
  unfold leastP at hrun
  rw [Option.bind_eq_some_iff] at hrun
  obtain ⟨p, hp, hrun⟩ := hrun
  rw [Option.bind_eq_some_iff] at hrun
  obtain ⟨⟨r1, r2⟩, hr, hrun⟩ := hrun
  rw [Option.map_eq_some_iff] at hrun
  obtain ⟨v1, hv, hrun⟩ := hrun
  dsimp only at hv hrun
  injection hrun with e1 e2
  injection e2 with e2 e3
  subst e1 e2 e3
  obtain ⟨j1, hj1, jz0, jz1, jz2⟩ := info_parts infoIntG
  have Ji := Lib.hid hj1
  have Jz0 := Lib.hid jz0
  have Jz1 := Lib.hid jz1
  have Jz2 := Lib.hid jz2
  clear hj1 jz0 jz1 jz2
  obtain ⟨X, hX, hbX, hzX, h0X⟩ := gr_one w #[.pointer (some ⟨sp, 0, none⟩)] 213
  have hLX := h.keep hbX
  have hspl : sp < w.heap.size := h.sq.fam.el
  have hFX : Fx X sp F0 w.heap.size (.cells #[.pointer (some ⟨sp, 0, none⟩)] 213 (0, 0)) := ⟨h0X, fun k e => by have := ((h.sq.fam.own k).lt _ e).2; omega, by omega⟩
  have hwX : Below base w X := hbX.mono h.sq.hb
  have hd : Below X.heap.size X X.drew := (Below.refl _ _).drew
  have hLD := hLX.keep hd
  obtain ⟨V0, hcut, hV0, hV0b⟩ := path_cut (hLD.sq.at hLD.f4)
  simp only [intR] at hcut
  obtain ⟨A0, cc0, rfl⟩ := gr_slice hV0
  obtain ⟨A1, cc1, hPVe⟩ := gr_slice (hLD.sq.at hLD.f4)
  simp only [intR] at hPVe
  subst hPVe
  obtain ⟨hL1, hB1, hM1, hFx1⟩ := hLD.path_ (PV' := .slice A0 0 cc0) (path' := []) (World.grownBy.refl _ _) hV0 (fun g e => .inl (by have := hV0b g e; simpa [intR] using this))
  have hF1 := (hFx1 _ _ (hFX.keep hd)).field 4 (.slice A0 0 cc0)
  have g0 : X.drew.cell? ⟨w.heap.size, 0, none⟩ = some (.pointer (some ⟨sp, 0, none⟩)) := Lib.cell_of_heap (hFX.keep hd).at_ 0
  have c4 := hLD.sq.cell 4 _ rfl
  have cf := hLD.sq.fro 4
  have c4b := hM1.cell 4 _ rfl
  obtain ⟨Y, hY⟩ : ∃ Y, Y = X.drew.setCell ⟨sp, 4, none⟩ (.slice A0 0 cc0) := ⟨_, rfl⟩
  have g1 : (X.setCell ⟨sp, 4, none⟩ (.slice A0 0 cc0)).drew.cell? ⟨w.heap.size, 0, none⟩ = some (.pointer (some ⟨sp, 0, none⟩)) := Lib.cell_of_heap hF1.at_ 0
  have hFa : ∀ b o, Fx w sp F0 b o → Fx (X.drew.setCell ⟨sp, 4, none⟩ (.slice A0 0 cc0)) sp (upG F0 4 (intR (.slice A0 0 cc0) [])) b o := fun b o hx => (hFx1 _ _ ((hx.keep hbX).keep hd)).field 4 _
  rw [← hY] at hL1 hF1 hB1 hFa
  have HC0 : Hid (ChK base sp m bu be ba bb w.heap.size w up early above best p F0 k0 (.int .i64 b) Y) := Lib.hid ⟨b, _, [], p, _, rfl, hL1, hF1, (hwX.trans (hd.mono hLX.sq.hb)).trans hB1, hp, rfl, by simpa using hk0, fun i hi => by rw [upG_off _ _ _ _ (by omega)], hFa⟩
  have HX := Lib.hid hX
  have HY : Hid (Y = (X.setCell ⟨sp, 4, none⟩ (.slice A0 0 cc0)).drew) := Lib.hid (hY.trans rfl)
  have Hbase := Lib.hid h.sq.hb
  have hplen : p.length ≤ 1048576 := Nat.le_trans (chainP_len hp) hk0
  have Hr := Lib.hid hr
  have Hv := Lib.hid hv
  clear hp hr hv hX hbX hzX h0X hLX hFX hwX hd hLD hV0 hV0b hL1 hB1 hM1 hFx1 hF1 hY h c4b hFa
  refine calls_of_wp_marks Try.func164 rfl ?_
  simp only [Try.ntmps164, List.size_toArray, List.length_cons, List.length_nil, Nat.reduceAdd, Nat.reduceSub, Array.replicate_succ, Array.replicate_zero, List.push_toArray, List.append_toArray, List.nil_append, List.cons_append]
  go_upto_region 1 with fail
  rw [← HX.out]
  refine wp_region_noPanic ?_
  refine wp_region_held_drew (S := fun w' => w'.cell? ⟨w.heap.size, 0, none⟩ = some (.pointer (some ⟨sp, 0, none⟩))) (by kernel_rfl) g0 (fun hHeld => ?_)
  refine wpAnyH_take (i := 0) (v := ?_) rfl (by kernel_rfl) (by kernel_rfl) (by kernel_rfl) (fun _ _ _ h => h) (Or.inl ⟨by rfl, ?_⟩) (by assumption) ?_
  rotate_left
  · (intro w hSw; (try dsimp only at hSw); first | (go_simp; done) | (go_simp; with_reducible rfl))
  try simp only [Act.put, List.setIfInBounds_toArray, List.set_cons_zero, List.set_cons_succ]
  refine wpAnyH_take (i := 1) (v := ?_) rfl (by kernel_rfl) (by kernel_rfl) (by kernel_rfl) (fun _ _ _ h => h) (Or.inl ⟨by rfl, ?_⟩) (by assumption) ?_
  rotate_left
  · (intro w hSw; (try dsimp only at hSw); first | (go_simp; done) | (go_simp; with_reducible rfl))
  try simp only [Act.put, List.setIfInBounds_toArray, List.set_cons_zero, List.set_cons_succ]
  refine wpAnyH_take (i := 2) (v := ?_) rfl (by kernel_rfl) (by kernel_rfl) (by kernel_rfl) (fun _ _ _ h => h) (Or.inl ⟨by rfl, ?_⟩) (by assumption) ?_
  rotate_left
  · (intro w hSw; (try dsimp only at hSw); first | (go_simp; done) | (go_simp; with_reducible rfl))
  try simp only [Act.put, List.setIfInBounds_toArray, List.set_cons_zero, List.set_cons_succ]
  refine wpAnyH_take (i := 3) (v := ?_) rfl (by kernel_rfl) (by kernel_rfl) (by kernel_rfl) (fun _ _ _ h => h) (Or.inl ⟨by rfl, ?_⟩) (by assumption) ?_
  rotate_left
  · (intro w hSw; (try dsimp only at hSw); first | (go_simp; done) | (go_simp; with_reducible rfl))
  try simp only [Act.put, List.setIfInBounds_toArray, List.set_cons_zero, List.set_cons_succ]
  refine wpAnyH_ready (rs := [4]) (by kernel_rfl) (by simp) ?_
  refine AllReadyH.cons rfl (fun K hK => ?_) (AllReadyH.nil)
  go_simp
  refine hK.out _ _ ?_ (fun hHeld => ?_)
  · ((try dsimp only); first | with_reducible exact g0 | with_reducible exact g1)
  clear hK K
  try simp only [Act.put, List.setIfInBounds_toArray, List.set_cons_zero, List.set_cons_succ]
  refine wpAnyH_take (i := 5) (v := ?_) rfl (by kernel_rfl) (by kernel_rfl) (by kernel_rfl) (fun _ _ _ h => h) (Or.inl ⟨by rfl, ?_⟩) (by assumption) ?_
  rotate_left
  · (intro w hSw; (try dsimp only at hSw); first | (go_simp; done) | (go_simp; with_reducible rfl))
  try simp only [Act.put, List.setIfInBounds_toArray, List.set_cons_zero, List.set_cons_succ]
  refine wpAnyH_take (i := 6) (v := ?_) rfl (by kernel_rfl) (by kernel_rfl) (by kernel_rfl) (fun _ _ _ h => h) (Or.inl ⟨by rfl, ?_⟩) (by assumption) ?_
  rotate_left
  · (intro w hSw; (try dsimp only at hSw); first | (go_simp; done) | (go_simp; with_reducible rfl))
  try simp only [Act.put, List.setIfInBounds_toArray, List.set_cons_zero, List.set_cons_succ]
  refine wpAnyH_take (i := 7) (v := ?_) rfl (by kernel_rfl) (by kernel_rfl) (by kernel_rfl) (fun _ _ _ h => h) (Or.inl ⟨by rfl, ?_⟩) (by assumption) ?_
  rotate_left
  · (intro w hSw; (try dsimp only at hSw); first | (go_simp; done) | (go_simp; with_reducible rfl))
  try simp only [Act.put, List.setIfInBounds_toArray, List.set_cons_zero, List.set_cons_succ]
  refine wpAnyH_ready (rs := [8]) (by kernel_rfl) (by simp) ?_
  refine AllReadyH.cons rfl (fun K hK => ?_) (AllReadyH.nil)
  go_simp
  refine hK.out _ _ ?_ (fun hHeld => ?_)
  · ((try dsimp only); first | with_reducible exact g0 | with_reducible exact g1)
  clear hK K
  try simp only [Act.put, List.setIfInBounds_toArray, List.set_cons_zero, List.set_cons_succ]
  refine wpAnyH_done (by kernel_rfl) ?_ _
  refine NoPanic.normal ?_
  rw [← HY.out]
  clear g0 g1 c4 cf hcut
  clear HY HX
  go_upto_block 0 with fail
  go_cut [5] from 17 to 58 (fun u5 wx => ChE base sp m bu be ba bb w.heap.size w up early above best p F0 wx)
  case first =>
    go_wp2_with fail
    go_loopw [5] (fun u5 wr => ∃ k, ChK base sp m bu be ba bb w.heap.size w up early above best p F0 k u5 wr) (fun u5 wr => leastN (fun k => ChK base sp m bu be ba bb w.heap.size w up early above best p F0 k u5 wr))
    case atStart => exact ⟨k0, HC0.out⟩
    case round =>
      clear HC0
      obtain ⟨K, hK⟩ : ∃ K, K = leastN (fun k => ChK base sp m bu be ba bb w.heap.size w up early above best p F0 k u5 wr) := ⟨_, rfl⟩
      have hk : ChK base sp m bu be ba bb w.heap.size w up early above best p F0 K u5 wr := by rw [hK]; exact leastN_spec hrel
      have HK := Lib.hid hK
      clear hK hrel
      obtain ⟨x, PV, path, rest, F, rfl, hL, hFx, hB, hch, hp, hlen, hF, hFa⟩ := hk
      cases K with
      | zero => simp [chainP] at hch
      | succ k =>
        rw [chainP, Option.bind_eq_some_iff] at hch
        obtain ⟨a, ha, hch⟩ := hch
        obtain ⟨xn, rfl, hxl, hae⟩ := rdI_some ha
        have c0 : wr.cell? ⟨w.heap.size, 0, none⟩ = some (.pointer (some ⟨sp, 0, none⟩)) := Lib.cell_of_heap hFx.at_ 0
        have c2 : wr.cell? ⟨sp, 2, none⟩ = some (.slice (some ⟨ba, 0, none⟩) m m) := hL.sq.cell 2 _ rfl
        have ca : wr.cell? ⟨ba, xn, none⟩ = some (.int .i64 a) := by rw [hae]; exact hL.r0.2.2.1.cell hxl
        have hxm : xn < m := by rw [← hL.l2]; exact hxl
        by_cases h1 : a = -1
        · rw [if_pos h1] at hch
          injection hch with hch
          subst hch h1
          rw [List.append_nil] at hp
          subst hp
          have HE := Lib.hid (show ChE base sp m bu be ba bb w.heap.size w up early above best path F0 wr from ⟨_, _, hL, hFx, hB, hF, hFa⟩)
          clear hL hFx hB hF hFa ha hae hxl Hr
          go_upto_region 3 with fail
          go_quiet (fail)
          go_wp2_with fail
          go_meet
          exact HE.out.keep (below_drewN _ _)
        · rw [if_neg h1, Option.bind_eq_some_iff] at hch
          obtain ⟨aa, haa, hch⟩ := hch
          obtain ⟨an, rfl, hal, haae⟩ := rdI_some haa
          have caa : wr.cell? ⟨ba, an, none⟩ = some (.int .i64 aa) := by rw [haae]; exact hL.r0.2.2.1.cell hal
          have ham : an < m := by rw [← hL.l2]; exact hal
          have h1b : ((an : Int) == -1) = false := by simp
          have h1c : ((an : Int) != -1) = true := by simp
          by_cases h2 : aa = -1
          · rw [if_pos h2] at hch
            injection hch with hch
            subst hch h2
            rw [List.append_nil] at hp
            subst hp
            have HE := Lib.hid (show ChE base sp m bu be ba bb w.heap.size w up early above best path F0 wr from ⟨_, _, hL, hFx, hB, hF, hFa⟩)
            clear hL hFx hB hF hFa ha hae hxl haa haae hal Hr
            go_upto_region 3 with fail
            go_quiet (fail)
            go_wp2_with fail
            go_meet
            exact HE.out.keep (below_drewN _ _)
          · rw [if_neg h2, Option.map_eq_some_iff] at hch
            obtain ⟨rest', hch, hre⟩ := hch
            have h2c : (aa != -1) = true := by simpa using h2
            have Hch := Lib.hid hch
            have Hae := Lib.hid hae
            have HL := Lib.hid hL
            have HFx := Lib.hid hFx
            have HB := Lib.hid hB
            have HF := Lib.hid hF
            have HFa := Lib.hid hFa
            have Hp := Lib.hid (show (path ++ [(xn : Int)]) ++ rest' = p by rw [List.append_assoc, ← hp, ← hre]; rfl)
            clear hL hFx hB hF hFa ha hae haa haae hal hch hre hp Hr
            go_upto_region 3 with fail
            go_quiet (fail)
            obtain ⟨V, hV⟩ : ∃ V, V = wr.drewN nq := ⟨_, rfl⟩
            rw [← hV]
            have hbV : Below wr.heap.size wr V := by rw [hV]; exact below_drewN _ _
            have hLV := HL.out.keep hbV
            have hFV := HFx.out.keep hbV
            have hBV := HB.out.trans (hbV.mono HL.out.sq.hb)
            obtain ⟨PA, PC, hPV⟩ := gr_slice (hLV.sq.at hLV.f4)
            simp only [intR] at hPV
            subst hPV
            obtain ⟨Z, hZ, hbZ, hzZ, h0Z⟩ := gr_one V #[.int .i64 (xn : Int)] 3
            have hbD : Below V.heap.size V Z.drew := hbZ.drew
            have hLZ := hLV.keep hbD
            have hFZ := hFV.keep hbD
            have HFaZ : Hid (∀ b o, Fx w sp F0 b o → Fx Z.drew sp F b o) := Lib.hid fun b o hx => ((HFa.out b o hx).keep hbV).keep hbD
            have HOW := Lib.hid (hLZ.sq.at hLZ.f4)
            simp only [intR] at HOW
            have HNW := Lib.hid (World.news_of_block (w := Z.drew) h0Z)
            have HOn : Hid (∀ u ∈ ([.int .i64 (xn : Int)] : List Value), u.oneCell' = true) := Lib.hid (by intro u hu; simp at hu; subst hu; rfl)
            have hsz2 : base ≤ Z.drew.heap.size := hLZ.sq.hb
            have gd : V.drew.cell? ⟨w.heap.size, 0, none⟩ = some (.pointer (some ⟨sp, 0, none⟩)) := Lib.cell_of_heap hFV.at_ 0
            have ga : Z.drew.cell? ⟨w.heap.size, 0, none⟩ = some (.pointer (some ⟨sp, 0, none⟩)) := Lib.cell_of_heap hFZ.at_ 0
            have c4d : V.drew.cell? ⟨sp, 4, none⟩ = some (.slice PA path.length PC) := hLV.sq.cell 4 _ rfl
            have c4a : Z.drew.cell? ⟨sp, 4, none⟩ = some (.slice PA path.length PC) := hLZ.sq.cell 4 _ rfl
            rw [hZ] at HOW HNW hsz2 ga c4a
            have HZ := Lib.hid (show Z.drew = (V.alloc (.cells #[.int .i64 (xn : Int)] 3)).drew by rw [hZ])
            have HzZ := Lib.hid (show Z.drew.heap.size = V.heap.size + 1 from hzZ)
            have HLZ := Lib.hid hLZ
            have HFZ := Lib.hid hFZ
            have HBZ := Lib.hid (hBV.trans (hbD.mono hLV.sq.hb))
            have hpl : path.length < 1048576 := by omega
            clear hV hbV hLV hFV hBV hZ hbZ hzZ h0Z hbD hLZ hFZ HL HFx HB c0 c2 ca caa
            go_upto_region 5 with fail
            refine wp_region_noPanic ?_
            refine wp_region_held_drew (S := fun w' => w'.cell? ⟨w.heap.size, 0, none⟩ = some (.pointer (some ⟨sp, 0, none⟩))) (by kernel_rfl) gd (fun hHeld => ?_)
            refine wpAnyH_take (i := 0) (v := ?_) rfl (by kernel_rfl) (by kernel_rfl) (by kernel_rfl) (fun _ _ _ h => h) (Or.inl ⟨by rfl, ?_⟩) (by assumption) ?_
            rotate_left
            · (intro w hSw; (try dsimp only at hSw); first | (go_simp; done) | (go_simp; with_reducible rfl))
            try simp only [Act.put, List.setIfInBounds_toArray, List.set_cons_zero, List.set_cons_succ]
            refine wpAnyH_take (i := 1) (v := ?_) rfl (by kernel_rfl) (by kernel_rfl) (by kernel_rfl) (fun _ _ _ h => h) (Or.inl ⟨by rfl, ?_⟩) (by assumption) ?_
            rotate_left
            · (intro w hSw; (try dsimp only at hSw); first | (go_simp; done) | (go_simp; with_reducible rfl))
            try simp only [Act.put, List.setIfInBounds_toArray, List.set_cons_zero, List.set_cons_succ]
            refine wpAnyH_take (i := 2) (v := ?_) rfl (by kernel_rfl) (by kernel_rfl) (by kernel_rfl) (fun _ _ _ h => h) (Or.inl ⟨by rfl, ?_⟩) (by assumption) ?_
            rotate_left
            · (intro w hSw; (try dsimp only at hSw); first | (go_simp; done) | (go_simp; with_reducible rfl))
            try simp only [Act.put, List.setIfInBounds_toArray, List.set_cons_zero, List.set_cons_succ]
            refine wpAnyH_take (i := 3) (v := ?_) rfl (by kernel_rfl) (by kernel_rfl) (by kernel_rfl) (fun _ _ _ h => h) (Or.inl ⟨by rfl, ?_⟩) (by assumption) ?_
            rotate_left
            · (intro w hSw; (try dsimp only at hSw); first | (go_simp; done) | (go_simp; with_reducible rfl))
            try simp only [Act.put, List.setIfInBounds_toArray, List.set_cons_zero, List.set_cons_succ]
            refine wpAnyH_take (i := 5) (v := ?_) rfl (by kernel_rfl) (by kernel_rfl) (by kernel_rfl) (fun _ _ _ h => h) (Or.inl ⟨by rfl, ?_⟩) (by assumption) ?_
            rotate_left
            · (intro w hSw; (try dsimp only at hSw); first | (go_simp; done) | (go_simp; with_reducible rfl))
            try simp only [Act.put, List.setIfInBounds_toArray, List.set_cons_zero, List.set_cons_succ]
            refine wpAnyH_ready (rs := [4, 6]) (by kernel_rfl) (by simp) ?_
            refine AllReadyH.cons rfl (fun K hK => ?_) (AllReadyH.cons rfl (fun K hK => ?_) (AllReadyH.nil))
            · go_simp
              refine hK.out _ _ ?_ (fun hHeld => ?_)
              · ((try dsimp only); first | with_reducible exact gd | with_reducible exact ga | with_reducible exact g5 | with_reducible exact g6)
              clear hK K
              try simp only [Act.put, List.setIfInBounds_toArray, List.set_cons_zero, List.set_cons_succ]
              refine wpAnyH_ready (rs := [6]) (by kernel_rfl) (by simp) ?_
              refine AllReadyH.cons rfl (fun K hK => ?_) (AllReadyH.nil)
              go_simp
              refine hK.out _ _ ?_ (fun hHeld => ?_)
              · ((try dsimp only); first | with_reducible exact gd | with_reducible exact ga | with_reducible exact g5 | with_reducible exact g6)
              clear hK K
              try simp only [Act.put, List.setIfInBounds_toArray, List.set_cons_zero, List.set_cons_succ]
              refine wpAnyH_ready (rs := [7]) (by kernel_rfl) (by simp) ?_
              refine AllReadyH.cons rfl (fun K hK => ?_) (AllReadyH.nil)
              refine step_append_lies _ rfl (.tmp 53) (.tmp 55) 64 rfl base 3 j1 (.int .i64 0) 1 8 Try.underlying64 Ji.out Jz0.out Jz1.out Jz2.out rfl (by decide) (.slice PA path.length PC) path.length (intsV path) (by simp [Act.eval, Act.put]) HOW.out ⟨V.heap.size, 0, none⟩ 1 1 [.int .i64 (xn : Int)] (by simp [Act.eval, Act.put]) rfl HNW.out HOn.out (by decide) (by unfold maxLen; omega) (by omega) hsz2 _ rfl ?_
              intro gp cp w5 hown5 hgrow hat hlt5
              rw [← HZ.out] at hgrow
              have hat2 : ∀ g, (Value.slice (some ⟨gp, 0, none⟩) (path.length + 1) cp).ownBlock = some g → (Value.slice PA path.length PC).ownBlock = some g ∨ Z.drew.heap.size ≤ g := fun g ee => by
                simp only [Value.ownBlock, Option.some.injEq] at ee
                subst ee
                rcases hat with h | h
                · exact .inl h
                · exact .inr (by rw [h, ← HZ.out]; exact Nat.le_refl _)
              obtain ⟨hL6, hB6, hM6, hFx6⟩ := HLZ.out.path_ (PV' := .slice (some ⟨gp, 0, none⟩) (path.length + 1) cp) (path' := path ++ [(xn : Int)]) hgrow (by simpa [intsV] using hown5) hat2
              have g5 : w5.cell? ⟨w.heap.size, 0, none⟩ = some (.pointer (some ⟨sp, 0, none⟩)) := Lib.cell_of_heap (hFx6 _ _ HFZ.out).at_ 0
              have m4 : w5.cell? ⟨sp, 4, none⟩ = some (.slice PA path.length PC) := hM6.cell 4 _ rfl
              have mf := hM6.fro 4
              have hF6 := (hFx6 _ _ HFZ.out).field 4 (.slice (some ⟨gp, 0, none⟩) (path.length + 1) cp)
              have g6 : (w5.setCell ⟨sp, 4, none⟩ (.slice (some ⟨gp, 0, none⟩) (path.length + 1) cp)).cell? ⟨w.heap.size, 0, none⟩ = some (.pointer (some ⟨sp, 0, none⟩)) := Lib.cell_of_heap hF6.at_ 0
              have HFa6 : Hid (∀ b o, Fx w sp F0 b o → Fx (w5.setCell ⟨sp, 4, none⟩ (.slice (some ⟨gp, 0, none⟩) (path.length + 1) cp)) sp _ b o) := Lib.hid fun b o hx => (hFx6 _ _ (HFaZ.out b o hx)).field 4 (.slice (some ⟨gp, 0, none⟩) (path.length + 1) cp)
              have HL6 := Lib.hid hL6
              have HF6 := Lib.hid hF6
              have HB6 := Lib.hid (HBZ.out.trans hB6)
              clear hown5 hgrow hat hlt5 hat2 hL6 hB6 hM6 hFx6 hF6 HOW HNW hsz2 HZ HLZ HFZ HBZ
              refine hK.out _ _ ?_ (fun hHeld => ?_)
              · ((try dsimp only); first | with_reducible exact gd | with_reducible exact ga | with_reducible exact g5 | with_reducible exact g6)
              clear hK K
              try simp only [Act.put, List.setIfInBounds_toArray, List.set_cons_zero, List.set_cons_succ]
              refine wpAnyH_take (i := 8) (v := ?_) rfl (by kernel_rfl) (by kernel_rfl) (by kernel_rfl) (fun _ _ _ h => h) (Or.inl ⟨by rfl, ?_⟩) (by assumption) ?_
              rotate_left
              · (intro w hSw; (try dsimp only at hSw); first | (go_simp; done) | (go_simp; with_reducible rfl))
              try simp only [Act.put, List.setIfInBounds_toArray, List.set_cons_zero, List.set_cons_succ]
              refine wpAnyH_take (i := 9) (v := ?_) rfl (by kernel_rfl) (by kernel_rfl) (by kernel_rfl) (fun _ _ _ h => h) (Or.inl ⟨by rfl, ?_⟩) (by assumption) ?_
              rotate_left
              · (intro w hSw; (try dsimp only at hSw); first | (go_simp; done) | (go_simp; with_reducible rfl))
              try simp only [Act.put, List.setIfInBounds_toArray, List.set_cons_zero, List.set_cons_succ]
              refine wpAnyH_ready (rs := [10]) (by kernel_rfl) (by simp) ?_
              refine AllReadyH.cons rfl (fun K hK => ?_) (AllReadyH.nil)
              go_simp
              refine hK.out _ _ ?_ (fun hHeld => ?_)
              · ((try dsimp only); first | with_reducible exact gd | with_reducible exact ga | with_reducible exact g5 | with_reducible exact g6)
              clear hK K
              try simp only [Act.put, List.setIfInBounds_toArray, List.set_cons_zero, List.set_cons_succ]
              refine wpAnyH_done (by kernel_rfl) ?_ _
              refine NoPanic.normal ?_
              clear gd ga g5 g6 m4 mf c4d c4a
              obtain ⟨G, hG⟩ : ∃ G, G = w5.setCell ⟨sp, 4, none⟩ (.slice (some ⟨gp, 0, none⟩) (path.length + 1) cp) := ⟨_, rfl⟩
              rw [← hG] at HL6 HF6 HB6 HFa6 ⊢
              clear hG
              have c0 : G.cell? ⟨w.heap.size, 0, none⟩ = some (.pointer (some ⟨sp, 0, none⟩)) := Lib.cell_of_heap HF6.out.at_ 0
              have c2 : G.cell? ⟨sp, 2, none⟩ = some (.slice (some ⟨ba, 0, none⟩) m m) := HL6.out.sq.cell 2 _ rfl
              have ca : G.cell? ⟨ba, xn, none⟩ = some (.int .i64 (an : Int)) := by rw [Hae.out]; exact HL6.out.r0.2.2.1.cell hxl
              have HN : Hid (ChK base sp m bu be ba bb w.heap.size w up early above best p F0 k (.int .i64 (an : Int)) G) := Lib.hid ⟨_, _, _, rest', _, rfl, HL6.out, HF6.out, HB6.out, Hch.out, Hp.out, by simp; omega, fun i hi => by rw [upG_off _ _ _ _ (by omega)]; exact HF.out i hi, HFa6.out⟩
              clear HL6 HF6 HB6 Hch HFa6 HFaZ HFa Hp HF Hae
              go_wp2
              go_roundw
              case rel => exact ⟨k, HN.out⟩
              case measure => rw [← HK.out]; exact Nat.lt_succ_of_le (leastN_le HN.out)
            · go_simp
              refine hK.out _ _ ?_ (fun hHeld => ?_)
              · ((try dsimp only); first | with_reducible exact gd | with_reducible exact ga | with_reducible exact g5 | with_reducible exact g6)
              clear hK K
              try simp only [Act.put, List.setIfInBounds_toArray, List.set_cons_zero, List.set_cons_succ]
              refine wpAnyH_ready (rs := [4]) (by kernel_rfl) (by simp) ?_
              refine AllReadyH.cons rfl (fun K hK => ?_) (AllReadyH.nil)
              go_simp
              refine hK.out _ _ ?_ (fun hHeld => ?_)
              · ((try dsimp only); first | with_reducible exact gd | with_reducible exact ga | with_reducible exact g5 | with_reducible exact g6)
              clear hK K
              try simp only [Act.put, List.setIfInBounds_toArray, List.set_cons_zero, List.set_cons_succ]
              refine wpAnyH_ready (rs := [7]) (by kernel_rfl) (by simp) ?_
              refine AllReadyH.cons rfl (fun K hK => ?_) (AllReadyH.nil)
              refine step_append_lies _ rfl (.tmp 53) (.tmp 55) 64 rfl base 3 j1 (.int .i64 0) 1 8 Try.underlying64 Ji.out Jz0.out Jz1.out Jz2.out rfl (by decide) (.slice PA path.length PC) path.length (intsV path) (by simp [Act.eval, Act.put]) HOW.out ⟨V.heap.size, 0, none⟩ 1 1 [.int .i64 (xn : Int)] (by simp [Act.eval, Act.put]) rfl HNW.out HOn.out (by decide) (by unfold maxLen; omega) (by omega) hsz2 _ rfl ?_
              intro gp cp w5 hown5 hgrow hat hlt5
              rw [← HZ.out] at hgrow
              have hat2 : ∀ g, (Value.slice (some ⟨gp, 0, none⟩) (path.length + 1) cp).ownBlock = some g → (Value.slice PA path.length PC).ownBlock = some g ∨ Z.drew.heap.size ≤ g := fun g ee => by
                simp only [Value.ownBlock, Option.some.injEq] at ee
                subst ee
                rcases hat with h | h
                · exact .inl h
                · exact .inr (by rw [h, ← HZ.out]; exact Nat.le_refl _)
              obtain ⟨hL6, hB6, hM6, hFx6⟩ := HLZ.out.path_ (PV' := .slice (some ⟨gp, 0, none⟩) (path.length + 1) cp) (path' := path ++ [(xn : Int)]) hgrow (by simpa [intsV] using hown5) hat2
              have g5 : w5.cell? ⟨w.heap.size, 0, none⟩ = some (.pointer (some ⟨sp, 0, none⟩)) := Lib.cell_of_heap (hFx6 _ _ HFZ.out).at_ 0
              have m4 : w5.cell? ⟨sp, 4, none⟩ = some (.slice PA path.length PC) := hM6.cell 4 _ rfl
              have mf := hM6.fro 4
              have hF6 := (hFx6 _ _ HFZ.out).field 4 (.slice (some ⟨gp, 0, none⟩) (path.length + 1) cp)
              have g6 : (w5.setCell ⟨sp, 4, none⟩ (.slice (some ⟨gp, 0, none⟩) (path.length + 1) cp)).cell? ⟨w.heap.size, 0, none⟩ = some (.pointer (some ⟨sp, 0, none⟩)) := Lib.cell_of_heap hF6.at_ 0
              have HFa6 : Hid (∀ b o, Fx w sp F0 b o → Fx (w5.setCell ⟨sp, 4, none⟩ (.slice (some ⟨gp, 0, none⟩) (path.length + 1) cp)) sp _ b o) := Lib.hid fun b o hx => (hFx6 _ _ (HFaZ.out b o hx)).field 4 (.slice (some ⟨gp, 0, none⟩) (path.length + 1) cp)
              have HL6 := Lib.hid hL6
              have HF6 := Lib.hid hF6
              have HB6 := Lib.hid (HBZ.out.trans hB6)
              clear hown5 hgrow hat hlt5 hat2 hL6 hB6 hM6 hFx6 hF6 HOW HNW hsz2 HZ HLZ HFZ HBZ
              refine hK.out _ _ ?_ (fun hHeld => ?_)
              · ((try dsimp only); first | with_reducible exact gd | with_reducible exact ga | with_reducible exact g5 | with_reducible exact g6)
              clear hK K
              try simp only [Act.put, List.setIfInBounds_toArray, List.set_cons_zero, List.set_cons_succ]
              refine wpAnyH_take (i := 8) (v := ?_) rfl (by kernel_rfl) (by kernel_rfl) (by kernel_rfl) (fun _ _ _ h => h) (Or.inl ⟨by rfl, ?_⟩) (by assumption) ?_
              rotate_left
              · (intro w hSw; (try dsimp only at hSw); first | (go_simp; done) | (go_simp; with_reducible rfl))
              try simp only [Act.put, List.setIfInBounds_toArray, List.set_cons_zero, List.set_cons_succ]
              refine wpAnyH_take (i := 9) (v := ?_) rfl (by kernel_rfl) (by kernel_rfl) (by kernel_rfl) (fun _ _ _ h => h) (Or.inl ⟨by rfl, ?_⟩) (by assumption) ?_
              rotate_left
              · (intro w hSw; (try dsimp only at hSw); first | (go_simp; done) | (go_simp; with_reducible rfl))
              try simp only [Act.put, List.setIfInBounds_toArray, List.set_cons_zero, List.set_cons_succ]
              refine wpAnyH_ready (rs := [10]) (by kernel_rfl) (by simp) ?_
              refine AllReadyH.cons rfl (fun K hK => ?_) (AllReadyH.nil)
              go_simp
              refine hK.out _ _ ?_ (fun hHeld => ?_)
              · ((try dsimp only); first | with_reducible exact gd | with_reducible exact ga | with_reducible exact g5 | with_reducible exact g6)
              clear hK K
              try simp only [Act.put, List.setIfInBounds_toArray, List.set_cons_zero, List.set_cons_succ]
              refine wpAnyH_done (by kernel_rfl) ?_ _
              refine NoPanic.normal ?_
              clear gd ga g5 g6 m4 mf c4d c4a
              obtain ⟨G, hG⟩ : ∃ G, G = w5.setCell ⟨sp, 4, none⟩ (.slice (some ⟨gp, 0, none⟩) (path.length + 1) cp) := ⟨_, rfl⟩
              rw [← hG] at HL6 HF6 HB6 HFa6 ⊢
              clear hG
              have c0 : G.cell? ⟨w.heap.size, 0, none⟩ = some (.pointer (some ⟨sp, 0, none⟩)) := Lib.cell_of_heap HF6.out.at_ 0
              have c2 : G.cell? ⟨sp, 2, none⟩ = some (.slice (some ⟨ba, 0, none⟩) m m) := HL6.out.sq.cell 2 _ rfl
              have ca : G.cell? ⟨ba, xn, none⟩ = some (.int .i64 (an : Int)) := by rw [Hae.out]; exact HL6.out.r0.2.2.1.cell hxl
              have HN : Hid (ChK base sp m bu be ba bb w.heap.size w up early above best p F0 k (.int .i64 (an : Int)) G) := Lib.hid ⟨_, _, _, rest', _, rfl, HL6.out, HF6.out, HB6.out, Hch.out, Hp.out, by simp; omega, fun i hi => by rw [upG_off _ _ _ _ (by omega)]; exact HF.out i hi, HFa6.out⟩
              clear HL6 HF6 HB6 Hch HFa6 HFaZ HFa Hp HF Hae
              go_wp2
              go_roundw
              case rel => exact ⟨k, HN.out⟩
              case measure => rw [← HK.out]; exact Nat.lt_succ_of_le (leastN_le HN.out)
  case rest =>
    obtain ⟨W, hW⟩ : ∃ W, W = wc := ⟨_, rfl⟩
    subst hW
    obtain ⟨PV, F, hL, hFx, hB, hF, hFa⟩ := hcut
    obtain ⟨PA, PC, hPV⟩ := gr_slice (hL.sq.at hL.f4)
    simp only [intR] at hPV
    subst hPV
    have hBk := backward_g PA p.length PC W
    have c0 : W.cell? ⟨w.heap.size, 0, none⟩ = some (.pointer (some ⟨sp, 0, none⟩)) := Lib.cell_of_heap hFx.at_ 0
    have c4 : W.cell? ⟨sp, 4, none⟩ = some (.slice PA p.length PC) := hL.sq.cell 4 _ rfl
    have HL := Lib.hid hL
    have HFx := Lib.hid hFx
    have HB := Lib.hid hB
    have HF := Lib.hid hF
    have HFa := Lib.hid hFa
    clear hL hFx hB hF hFa HC0
    go_wp2_with (go_at_call 162; refine hBk.mono ?_; rintro e w8 ⟨rfl, hb8, hz8, h08⟩; have Hb8 := Lib.hid hb8; have Hz8 := Lib.hid hz8; have H08 := Lib.hid h08; clear hb8 hz8 h08 hBk c0 c4)
    have hz8 := Hz8.out
    have hL8 := HL.out.keep Hb8.out
    have hF8 := HFx.out.keep Hb8.out
    have hspW : sp < W.heap.size := HL.out.sq.fam.el
    have hbxW : w.heap.size < W.heap.size := gr_in HFx.out.at_
    obtain ⟨hq1, hq2, hq3, -, -, -, -, hs1, hs2, hs3⟩ := HL.out.apart
    obtain ⟨-, hr1, hr2, hr3⟩ := HL.out.r0
    have hl1 := hr1.lt
    have hl2 := hr2.lt
    have hl3 := hr3.lt
    have hxe : w.heap.size ≠ be := fun e => HFx.out.ne 1 (by rw [HL.out.f1]; simp [wholeR, Value.ownBlock, e])
    have hxa : w.heap.size ≠ ba := fun e => HFx.out.ne 2 (by rw [HL.out.f2]; simp [wholeR, Value.ownBlock, e])
    have hxb : w.heap.size ≠ bb := fun e => HFx.out.ne 3 (by rw [HL.out.f3]; simp [wholeR, Value.ownBlock, e])
    have hpE : ∀ g, (Value.slice PA p.length PC).ownBlock = some g → g ≠ w.heap.size ∧ g ≠ sp ∧ g ≠ be ∧ g ≠ ba ∧ g ≠ bb ∧ g < W.heap.size := fun g hg => by
      have h4 : (F 4).v.ownBlock = some g := by rw [HL.out.f4]; exact hg
      have av := HL.out.sq.fam.av 4
      have lt := ((HL.out.sq.fam.own 4).lt g h4).2
      have hn : ∀ k bk lk, k ≠ 4 → F k = wholeR bk lk → g ≠ bk := fun k bk lk hk hf e => by
        rcases HL.out.sq.fam.ne k 4 hk with q | q
        · rw [hf] at q; cases q
        · rw [hf, h4] at q; exact q (by simp [wholeR, Value.ownBlock, e])
      exact ⟨fun e => HFx.out.ne 4 (by rw [h4, e]), fun e => av (by rw [h4, e]), hn 1 _ _ (by omega) HL.out.f1, hn 2 _ _ (by omega) HL.out.f2, hn 3 _ _ (by omega) HL.out.f3, lt⟩
    have hmp : p.length ≤ 1048576 := hplen
    have hseq : ∀ W1, Below w8.heap.size w8 W1 → SepGivs Try.prog 165 #[.pointer (some ⟨W.heap.size, 0, none⟩)] encB (backL p) (fun k => k = W.heap.size ∨ (Value.slice PA p.length PC).ownBlock = some k) NoW (fun _ => True) W1 := fun W1 h1 => by
      refine backward_sep W.heap.size PA p.length PC p _ W1 (Lib.cell_of_heap ((h1.block _ (by omega)).trans H08.out) 0) rfl hmp (fun hm => ?_) (.inl rfl) (fun k hk => ?_)
      · have hst := (hL8.keep h1).sq.at (hL8.keep h1).f4
        simp only [intR] at hst
        obtain ⟨gw, rfl, -, hgwb, hgwl⟩ := gr_some hst hm
        exact ⟨gw, rfl, .inr rfl, fun j hj => by rw [hst.cellAt j (by omega)]; simp [intsV, List.getD, hj]⟩
      · have := h1.size
        rcases hk with rfl | hk
        · omega
        · have := (hpE k hk).2.2.2.2.2; omega
    have hI0 : CmI w.heap.size sp be ba bb m [sl bu m, sl be m, sl ba m, sl bb m, .slice PA p.length PC] early r1 r2 (backL p) [] (CmF w.heap.size sp be ba bb) w8 := ⟨rfl, hF8.at_, hL8.sq.box, hL8.r0.2.1, _, _, hL8.l2, hL8.l3, hL8.r0.2.2.1, hL8.r0.2.2.2, by rw [List.length_nil, List.drop_zero, backL_snd]; exact Hr.out⟩
    have hsz8 := Hb8.out.size
    have Hseq := Lib.hid hseq
    have HI0 := Lib.hid hI0
    have HpE := Lib.hid hpE
    have Hmp := Lib.hid hmp
    have Hel := Lib.hid HL.out.l1
    clear hseq hI0 hpE hmp hL8 hF8 hr1 hr2 hr3 Hr
    refine wp_range_back (q := 7) rfl enters_backward (fun W1 h => Hseq.out W1 h)
      (CmI w.heap.size sp be ba bb m [sl bu m, sl be m, sl ba m, sl bb m, .slice PA p.length PC] early r1 r2 (backL p)) (CmF w.heap.size sp be ba bb) ?ioff1 ?ilt1 ?f01 ?s1 ?i01 ?assign1 ?body1 ?done1
    case ioff1 =>
      rintro pre F A B ⟨rfl, h1, h2, h3, ab, bst, hla, hlb, h4, h5, hcm⟩ hst
      exact ⟨rfl, (hst.block _ (.inl rfl)).trans h1, (hst.block _ (.inr (.inl rfl))).trans h2, h3.keep (hst.block _ (.inr (.inr (.inl rfl)))), ab, bst, hla, hlb, h4.keep (hst.block _ (.inr (.inr (.inr (.inl rfl))))), h5.keep (hst.block _ (.inr (.inr (.inr (.inr rfl))))), hcm⟩
    case ilt1 =>
      rintro pre F A ⟨rfl, h1, h2, h3, ab, bst, hla, hlb, h4, h5, hcm⟩ k hk
      rcases hk with rfl | rfl | rfl | rfl | rfl
      · exact gr_in h1
      · exact gr_in h2
      · exact h3.lt
      · exact h4.lt
      · exact h5.lt
    case f01 =>
      rintro k hk e
      rcases e with rfl | e
      · rcases hk with h | h | h | h | h <;> omega
      · obtain ⟨y1, y2, y3, y4, y5, -⟩ := HpE.out k e
        rcases hk with h | h | h | h | h <;> contradiction
    case s1 =>
      rintro k (rfl | e)
      · omega
      · have := (HpE.out k e).2.2.2.2.2; omega
    case i01 => exact HI0.out
    case assign1 =>
      intro l x W' K' hK'
      simp only [List.setIfInBounds_toArray, List.set_cons_succ, List.set_cons_zero] at hK' ⊢
      gi_wp2
      exact hK'
    case body1 =>
      rintro l pre ⟨xi, xv⟩ Fp A ⟨rfl, h1, h2, h3, ab, bst, hla, hlb, h4, h5, hcm⟩ hpre
      rw [drop_pre hpre] at hcm
      simp only [List.map_cons] at hcm
      rw [cmpP, Option.bind_eq_some_iff] at hcm
      obtain ⟨a, ha, hcm⟩ := hcm
      rw [Option.bind_eq_some_iff] at hcm
      obtain ⟨b1, hb1, hcm⟩ := hcm
      rw [Option.bind_eq_some_iff] at hcm
      obtain ⟨ea, hea, hcm⟩ := hcm
      rw [Option.bind_eq_some_iff] at hcm
      obtain ⟨b2, hb2, hcm⟩ := hcm
      rw [Option.bind_eq_some_iff] at hcm
      obtain ⟨ex, hex, hcm⟩ := hcm
      rw [Option.bind_eq_some_iff] at hcm
      obtain ⟨aa, haa, hcm⟩ := hcm
      obtain ⟨vn, rfl, hvl, hae⟩ := rdI_some ha
      obtain ⟨an, rfl, hal, hb1e⟩ := rdI_some hb1
      obtain ⟨b1n, rfl, hb1l, heae⟩ := rdI_some hea
      obtain ⟨vn', hv', hvl', hb2e⟩ := rdI_some hb2
      obtain rfl : vn = vn' := by omega
      obtain ⟨b2n, rfl, hb2l, hexe⟩ := rdI_some hex
      obtain ⟨an', ha', hal', haae⟩ := rdI_some haa
      obtain rfl : an = an' := by omega
      rw [Int.toNat_natCast] at hcm
      have c0 : A.cell? ⟨w.heap.size, 0, none⟩ = some (.pointer (some ⟨sp, 0, none⟩)) := Lib.cell_of_heap h1 0
      have c1 : A.cell? ⟨sp, 1, none⟩ = some (.slice (some ⟨be, 0, none⟩) m m) := Lib.cell_of_heap h2 1
      have c2 : A.cell? ⟨sp, 2, none⟩ = some (.slice (some ⟨ba, 0, none⟩) m m) := Lib.cell_of_heap h2 2
      have c3 : A.cell? ⟨sp, 3, none⟩ = some (.slice (some ⟨bb, 0, none⟩) m m) := Lib.cell_of_heap h2 3
      have ca : A.cell? ⟨ba, vn, none⟩ = some (.int .i64 (an : Int)) := by rw [hae]; exact h4.cell hvl
      have caa : A.cell? ⟨ba, an, none⟩ = some (.int .i64 aa) := by rw [haae]; exact h4.cell hal'
      have cb1 : A.cell? ⟨bb, an, none⟩ = some (.int .i64 (b1n : Int)) := by rw [hb1e]; exact h5.cell hal
      have cb2 : A.cell? ⟨bb, vn, none⟩ = some (.int .i64 (b2n : Int)) := by rw [hb2e]; exact h5.cell hvl'
      have ce1 : A.cell? ⟨be, b1n, none⟩ = some (.int .i64 ea) := by rw [heae]; exact h3.cell hb1l
      have ce2 : A.cell? ⟨be, b2n, none⟩ = some (.int .i64 ex) := by rw [hexe]; exact h3.cell hb2l
      have bv : vn < m := by omega
      have ban : an < m := by omega
      have bb1 : b1n < m := by rw [← Hel.out]; exact hb1l
      have bb2 : b2n < m := by rw [← Hel.out]; exact hb2l
      have fb := fun j => h5.fro j
      have fb0 := fb vn
      have Hfin : Hid (∀ B : World, A.heap.size = B.heap.size → B.os = A.os → B.tape = A.tape → B.output = A.output → (∀ k, k ≠ ba → k ≠ bb → B.heap[k]? = A.heap[k]?) → IRow B ba (ab.set vn aa) → IRow B bb (if ea < ex then bst.set vn (b1n : Int) else bst) →
          ∃ F', CmI w.heap.size sp be ba bb m [sl bu m, sl be m, sl ba m, sl bb m, .slice PA p.length PC] early r1 r2 (backL p) (pre ++ [(xi, (vn : Int))]) F' B ∧ StepOn (CmF w.heap.size sp be ba bb) F' A B) := Lib.hid (fun B hz ho ht hp hk ha2 hb2 => by
        refine ⟨_, ⟨rfl, (hk _ hxa hxb).trans h1, (hk _ hs2 hs3).trans h2, h3.keep (hk _ hq1 hq2), _, _, by simpa using hla, ?_, ha2, hb2, hcm⟩, ⟨ho, ht, hp, by omega, fun k _ hn => hk k (fun e => hn (.inr (.inr (.inr (.inl e))))) (fun e => hn (.inr (.inr (.inr (.inr e))))), fun k hk => .inl hk⟩⟩
        split
        · simpa using hlb
        · exact hlb)
      have C0 := Lib.hid c0
      have C2 := Lib.hid c2
      have Ca := Lib.hid ca
      have Caa := Lib.hid caa
      have H4 := Lib.hid h4
      have H5 := Lib.hid h5
      have Hle := Lib.hid hlb
      simp only [List.setIfInBounds_toArray, List.set_cons_succ, List.set_cons_zero]
      clear h1 h2 h3 h4 h5 hcm hpre ha hb1 hea hb2 hex haa hae hb1e heae hv' hvl' hb2e hexe ha' hal' haae hvl hal hb1l hb2l fb hla hlb
      gi_wp2
      refine round_still_tail 26 (by kernel_rfl) (by kernel_rfl) (by kernel_rfl) ?_
      simp only [List.take_succ_cons, List.take_zero, List.drop_succ_cons, List.drop_zero]
      repeat still_step
      try refine wpStill_nil ?_
      change wpList _ _ _ _ _ A.drew
      go_wp2
      refine ⟨rfl, ?_⟩
      by_cases hlt : ea < ex
      · have hd : decide (ea < ex) = true := decide_eq_true hlt
        rw [if_pos hlt] at Hfin
        gi_wp2
        refine round_still_tail 12 (by kernel_rfl) (by kernel_rfl) (by kernel_rfl) ?_
        simp only [List.take_succ_cons, List.take_zero, List.drop_succ_cons, List.drop_zero]
        repeat still_step
        try refine wpStill_nil ?_
        change wpList _ _ _ _ _ A.drew.drew
        go_wp2
        refine ⟨rfl, ?_⟩
        gi_wp2
        obtain ⟨B, hB⟩ : ∃ B, B = (A.setCell ⟨bb, vn, none⟩ (.int .i64 (b1n : Int))).drew.drew := ⟨_, rfl⟩
        have hBz : A.heap.size = B.heap.size := by rw [hB]; simp [World.setCell]
        have hBo : B.os = A.os := by rw [hB]; rfl
        have hBt : B.tape = A.tape := by rw [hB]; rfl
        have hBp : B.output = A.output := by rw [hB]; rfl
        have hBk : ∀ k, k ≠ bb → B.heap[k]? = A.heap[k]? := fun k hk => by rw [hB]; exact Below.heap_setCell A ⟨bb, vn, none⟩ _ k hk
        have hB5 : IRow B bb (bst.set vn (b1n : Int)) := by rw [hB]; exact (H5.out.put vn (b1n : Int)).keep rfl
        first | rw [← hB] | trace_state
        clear hB hd c0 c1 c2 c3 ca caa cb1 cb2 ce1 ce2 fb0 H5
        have d0 : B.cell? ⟨w.heap.size, 0, none⟩ = some (.pointer (some ⟨sp, 0, none⟩)) := (cell_same (hBk _ hxb)).trans C0.out
        have d2 : B.cell? ⟨sp, 2, none⟩ = some (.slice (some ⟨ba, 0, none⟩) m m) := (cell_same (hBk _ hs3)).trans C2.out
        have da : B.cell? ⟨ba, vn, none⟩ = some (.int .i64 (an : Int)) := (cell_same (hBk _ hq3)).trans Ca.out
        have daa : B.cell? ⟨ba, an, none⟩ = some (.int .i64 aa) := (cell_same (hBk _ hq3)).trans Caa.out
        have hB4 : IRow B ba ab := H4.out.keep (hBk _ hq3)
        have fa0 := hB4.fro vn
        have hC4 := hB4.put vn aa
        have hC5 : IRow (B.setCell ⟨ba, vn, none⟩ (.int .i64 aa)) bb _ := hB5.keep (Below.heap_setCell _ _ _ _ (fun e => hq3 e.symm))
        have Hall := Lib.hid (Hfin.out (B.setCell ⟨ba, vn, none⟩ (.int .i64 aa)).drew (by simp [World.setCell, hBz]) hBo hBt hBp (fun k hka hkb => (Below.heap_setCell _ _ _ _ hka).trans (hBk k hkb)) hC4 hC5)
        clear hBz hBo hBt hBp hBk hB4 hC4 hC5 hB5 Hfin
        refine round_still_tail 12 (by kernel_rfl) (by kernel_rfl) (by kernel_rfl) ?_
        simp only [List.take_succ_cons, List.take_zero, List.drop_succ_cons, List.drop_zero]
        repeat still_step
        try refine wpStill_nil ?_
        change wpList _ _ _ _ _ B.drew
        go_wp2
        refine ⟨rfl, ?_⟩
        gi_wp2
        exact Hall.out
      · have hd : decide (ea < ex) = false := decide_eq_false hlt
        rw [if_neg hlt] at Hfin
        gi_wp2
        obtain ⟨B, hB⟩ : ∃ B, B = A.drew := ⟨_, rfl⟩
        have hBz : A.heap.size = B.heap.size := by rw [hB]; rfl
        have hBo : B.os = A.os := by rw [hB]; rfl
        have hBt : B.tape = A.tape := by rw [hB]; rfl
        have hBp : B.output = A.output := by rw [hB]; rfl
        have hBk : ∀ k, k ≠ bb → B.heap[k]? = A.heap[k]? := fun k hk => by rw [hB]; rfl
        have hB5 : IRow B bb bst := by rw [hB]; exact H5.out.keep rfl
        first | rw [← hB] | trace_state
        clear hB hd c0 c1 c2 c3 ca caa cb1 cb2 ce1 ce2 fb0 H5
        have d0 : B.cell? ⟨w.heap.size, 0, none⟩ = some (.pointer (some ⟨sp, 0, none⟩)) := (cell_same (hBk _ hxb)).trans C0.out
        have d2 : B.cell? ⟨sp, 2, none⟩ = some (.slice (some ⟨ba, 0, none⟩) m m) := (cell_same (hBk _ hs3)).trans C2.out
        have da : B.cell? ⟨ba, vn, none⟩ = some (.int .i64 (an : Int)) := (cell_same (hBk _ hq3)).trans Ca.out
        have daa : B.cell? ⟨ba, an, none⟩ = some (.int .i64 aa) := (cell_same (hBk _ hq3)).trans Caa.out
        have hB4 : IRow B ba ab := H4.out.keep (hBk _ hq3)
        have fa0 := hB4.fro vn
        have hC4 := hB4.put vn aa
        have hC5 : IRow (B.setCell ⟨ba, vn, none⟩ (.int .i64 aa)) bb _ := hB5.keep (Below.heap_setCell _ _ _ _ (fun e => hq3 e.symm))
        have Hall := Lib.hid (Hfin.out (B.setCell ⟨ba, vn, none⟩ (.int .i64 aa)).drew (by simp [World.setCell, hBz]) hBo hBt hBp (fun k hka hkb => (Below.heap_setCell _ _ _ _ hka).trans (hBk k hkb)) hC4 hC5)
        clear hBz hBo hBt hBp hBk hB4 hC4 hC5 hB5 Hfin
        refine round_still_tail 12 (by kernel_rfl) (by kernel_rfl) (by kernel_rfl) ?_
        simp only [List.take_succ_cons, List.take_zero, List.drop_succ_cons, List.drop_zero]
        repeat still_step
        try refine wpStill_nil ?_
        change wpList _ _ _ _ _ B.drew
        go_wp2
        refine ⟨rfl, ?_⟩
        gi_wp2
        exact Hall.out
    case done1 =>
      rintro D Fp W' ⟨rfl, h1, h2, h3, ab, bst, hla, hlb, h4, h5, hcm⟩ hfr hD hDn hDF
      rw [List.drop_length] at hcm
      simp only [List.map_nil, cmpP, Option.some.injEq, Prod.mk.injEq] at hcm
      obtain ⟨rfl, rfl⟩ := hcm
      obtain ⟨bn, rfl, hbl, hve⟩ := rdI_some Hv.out
      have c0 : W'.cell? ⟨w.heap.size, 0, none⟩ = some (.pointer (some ⟨sp, 0, none⟩)) := Lib.cell_of_heap h1 0
      have c3 : W'.cell? ⟨sp, 3, none⟩ = some (.slice (some ⟨bb, 0, none⟩) m m) := Lib.cell_of_heap h2 3
      have cb : W'.cell? ⟨bb, bn, none⟩ = some (.int .i64 v1) := by rw [hve]; exact h5.cell hbl
      have hbm : bn < m := by omega
      have hfz := hfr.size
      have hsame : ∀ k, k < w8.heap.size → (W'.putObj D (.deferred none)).heap[k]? = W'.heap[k]? := fun k hk => World.putObj_heap_other (by omega)
      have hkk : ∀ k, k < W.heap.size → ¬ (k = w.heap.size ∨ k = sp ∨ k = be ∨ k = ba ∨ k = bb) → (W'.putObj D (.deferred none)).heap[k]? = W.heap[k]? := fun k hk hn =>
        (hsame k (by omega)).trans ((hfr.block k (by omega) hn (fun e => e)).trans (Hb8.out.block k hk))
      have hbase := HL.out.sq.bE
      have hwb : base ≤ w.heap.size := by have := HB.out.size; exact Hbase.out
      have lt1 := ((HL.out.sq.fam.own 1).lt be (by rw [HL.out.f1]; rfl)).1
      have lt2 := ((HL.out.sq.fam.own 2).lt ba (by rw [HL.out.f2]; rfl)).1
      have lt3 := ((HL.out.sq.fam.own 3).lt bb (by rw [HL.out.f3]; rfl)).1
      have hbelow : Below base w (W'.putObj D (.deferred none)) := by
        refine HB.out.trans ⟨hfr.os.trans Hb8.out.os, hfr.tape.trans Hb8.out.tape, hfr.output.trans Hb8.out.output, by simp; omega, fun k hk => ?_⟩
        exact hkk k (by have := HL.out.sq.hb; omega) (by rintro (e | e | e | e | e) <;> omega)
      have hLs := HL.out.after HFx.out (Wf := W'.putObj D (.deferred none)) (by simp; omega) hkk ((hsame _ (by omega)).trans (h2.trans HL.out.sq.box.symm)) ((hsame _ (by omega)).trans (h3.trans HL.out.r0.2.1.symm)) (h4.keep (hsame _ (by omega))) (h5.keep (hsame _ (by omega))) hla hlb
      have hFaE : ∀ b o, Fx w sp F0 b o → Fx (W'.putObj D (.deferred none)) sp (upG (upG F 2 (wholeR ba ab)) 3 (wholeR bb bst)) b o := fun b o hx => by
        have hxW := HFa.out b o hx
        have n1 : b ≠ be := fun e => hxW.ne 1 (by rw [HL.out.f1, e]; rfl)
        have n2 : b ≠ ba := fun e => hxW.ne 2 (by rw [HL.out.f2, e]; rfl)
        have n3 : b ≠ bb := fun e => hxW.ne 3 (by rw [HL.out.f3, e]; rfl)
        have n4 := gr_in hx.at_
        refine ⟨(hkk b (gr_in hxW.at_) (by rintro (e | e | e | e | e) <;> first | omega | exact hx.nE e | exact n1 e | exact n2 e | exact n3 e)).trans hxW.at_, fun k => ?_, hx.nE⟩
        by_cases e3 : k = 3
        · subst e3; rw [upG_at]; exact fun e => n3 (by simpa [wholeR, Value.ownBlock] using e.symm)
        · rw [upG_off _ _ _ _ e3]
          by_cases e2 : k = 2
          · subst e2; rw [upG_at]; exact fun e => n2 (by simpa [wholeR, Value.ownBlock] using e.symm)
          · rw [upG_off _ _ _ _ e2]; exact hxW.ne k
      have HFaE := Lib.hid hFaE
      have HLs := Lib.hid hLs
      have Hbelow := Lib.hid hbelow
      have HD := Lib.hid hD
      clear h1 h2 h3 h4 h5 hla hlb hfr hD hDF hDn hFaE hLs hbelow hsame hkk hve lt1 lt2 lt3
      go_wp2
      refine ⟨by simp, .inl ⟨D, _, rfl, run_takeDeferred HD.out, ?_⟩⟩
      refine ⟨_, results_tmp rfl _ _ _, rfl, _, _, _, HLs.out, fun i hi => ?_, Hbelow.out, HFaE.out⟩
      rw [upG_off _ _ _ _ (by omega), upG_off _ _ _ _ (by omega)]
      exact HF.out i hi
end Go.Proofs.Ytagagpappjkgbaa
