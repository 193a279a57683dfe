/-
  Which programs may be, by the reference: what is used is there.
-/
import Derived.Test.YthhjhdmdfneegaaJc26
import Derived.Test.YthhjhdmdfneegaaJc32
import Derived.Test.YthhjhdmdfneegaaJc40
import Derived.BigRegion
namespace Go.Proofs.Ythhjhdmdfneegaa
set_option linter.unusedVariables false
set_option linter.unusedSimpArgs false
open Go.RowKit Go.Shelf

/-- Where, and at which place. -/
structure WR (bn in_ wb pb : Nat) (X : World) (ws ps : List Int) : Prop where
  hw : X.heap[wb]? = some (.cells (intsV ws).toArray 3 (0, 0))
  hp : X.heap[pb]? = some (.cells (intsV ps).toArray 3 (0, 0))
  lw : ws.length = in_
  lp : ps.length = in_
  bw : ∀ v ∈ ws, 0 ≤ v ∧ v < (bn : Int)
  ne : wb ≠ pb
theorem WR.at {bn in_ wb pb : Nat} {X : World} {ws ps : List Int} (h : WR bn in_ wb pb X ws ps) {j : Nat} (hj : j < in_) : ∃ (v : Nat) (u : Int), v < bn ∧ X.cell? ⟨wb, j, none⟩ = some (.int .i64 (v : Int)) ∧ X.frozen? ⟨wb, j, none⟩ = false ∧ X.cell? ⟨pb, j, none⟩ = some (.int .i64 u) ∧ X.frozen? ⟨pb, j, none⟩ = false := by
  have h1 : j < ws.length := by rw [h.lw]; exact hj
  have h2 : j < ps.length := by rw [h.lp]; exact hj
  obtain ⟨b1, b2⟩ := h.bw _ (List.getElem_mem h1)
  refine ⟨ws[j].toNat, ps[j], by omega, ?_, Lib.frozen_of_heap h.hw j, ?_, Lib.frozen_of_heap h.hp j⟩
  · rw [Lib.cell_of_heap h.hw j, Int.toNat_of_nonneg b1]
    simp [intsV, List.getElem?_eq_getElem h1]
  · rw [Lib.cell_of_heap h.hp j]
    simp [intsV, List.getElem?_eq_getElem h2]
theorem WR.put {bn in_ wb pb : Nat} {X : World} {ws ps : List Int} (h : WR bn in_ wb pb X ws ps) (j : Nat) (x y : Int) (hx : 0 ≤ x ∧ x < (bn : Int)) : WR bn in_ wb pb ((X.setCell ⟨wb, j, none⟩ (.int .i64 x)).setCell ⟨pb, j, none⟩ (.int .i64 y)) (ws.set j x) (ps.set j y) := by
  have h1 := gr_put h.hw j (.int .i64 x)
  have h2 : (X.setCell ⟨wb, j, none⟩ (.int .i64 x)).heap[pb]? = _ := (Below.heap_setCell _ _ _ _ (fun e => h.ne e.symm)).trans h.hp
  refine ⟨?_, ?_, by rw [List.length_set, h.lw], by rw [List.length_set, h.lp], fun v hv => ?_, h.ne⟩
  · refine (Below.heap_setCell _ _ _ _ h.ne).trans (h1.trans ?_)
    simp [intsV, List.map_set]
  · rw [gr_put h2 j (.int .i64 y)]
    simp [intsV, List.map_set]
  · rcases List.mem_or_eq_of_mem_set hv with h3 | h3
    · exact h.bw v h3
    · rw [h3]; exact hx
theorem WR.keep {bn in_ wb pb : Nat} {X Y : World} {ws ps : List Int} (h : WR bn in_ wb pb X ws ps) (hb : Below X.heap.size X Y) : WR bn in_ wb pb Y ws ps :=
  ⟨(hb.block _ (gr_in h.hw)).trans h.hw, (hb.block _ (gr_in h.hp)).trans h.hp, h.lw, h.lp, h.bw, h.ne⟩
theorem WR.zero {bn in_ wb pb : Nat} {X : World} (h1 : X.heap[wb]? = some (.cells (intsV (List.replicate in_ 0)).toArray 3 (0, 0))) (h2 : X.heap[pb]? = some (.cells (intsV (List.replicate in_ 0)).toArray 3 (0, 0))) (hne : wb ≠ pb) (hb : 0 < bn) : WR bn in_ wb pb X (List.replicate in_ 0) (List.replicate in_ 0) :=
  ⟨h1, h2, by simp, by simp, fun v hv => by rw [List.eq_of_mem_replicate hv]; omega, hne⟩
structure StOk (f : SF) : Prop where
  to_ : ∀ k ∈ f.blocks, ∀ x ∈ k.to_, 1 ≤ x ∧ x < (f.blocks.length : Int)
  li : ∀ k ∈ f.blocks, ∀ x ∈ k.list, 0 ≤ x ∧ x < (f.ins.length : Int)
  pr : ∀ k ∈ f.blocks, ∀ x ∈ k.preds, 0 ≤ x ∧ x < (f.blocks.length : Int)
  ph : ∀ k ∈ f.blocks, ∀ x ∈ k.list, (f.ins.getD x.toNat d0I).op = 3 → (f.ins.getD x.toNat d0I).args.length = k.preds.length
  ar : ∀ k ∈ f.blocks, ∀ x ∈ k.list, ∀ a ∈ (f.ins.getD x.toNat d0I).args, 0 ≤ a ∧ a < (f.ins.length : Int)
  te : ∀ k ∈ f.blocks, k.arg = -1 ∨ (0 ≤ k.arg ∧ k.arg < (f.ins.length : Int))
  bp : 0 < f.blocks.length
set_option maxRecDepth 100000 in
set_option maxHeartbeats 64000000 in
theorem stands_c (n0 : Nat) (V : RV) (f : SF) (w : World) (h : FA n0 V f w) (hs : FS f) (hn : n0 ≤ w.heap.size) (ho : StOk f) :
    Calls Try.prog 32 #[.agg V.cs] w (BP True w) := by
  obtain ⟨g, hg, hgl, htg⟩ := h.gf hs ho.to_
  obtain ⟨W, hW, hbW, hzW, h0W⟩ := gr_one w V.cs 43
  have hbl := h.bl
  have hil := h.il
  have hFW := h.keep (hbW.mono hn)
  have HFA : Hid (∀ X, Below W.heap.size W X → FA n0 V f X) := Lib.hid fun X hX => h.keep ((hbW.trans (hX.mono (by omega))).mono hn)
  have hS := hFW.b
  have hI := hFW.i
  obtain ⟨nm, pA, pn, pc, rt, iA, in_, ic, bA, bn, bc⟩ := V
  simp only at hbl hil hS hI
  unfold RV.cs at h0W hW ⊢
  simp only at h0W hW ⊢
  have HC : Hid (∀ X, Below W.heap.size W X → X.cell? ⟨w.heap.size, 0, none⟩ = some (.string nm) ∧ X.cell? ⟨w.heap.size, 1, none⟩ = some (.slice pA pn pc) ∧ X.cell? ⟨w.heap.size, 2, none⟩ = some (.int .i64 rt) ∧ X.cell? ⟨w.heap.size, 3, none⟩ = some (.slice iA in_ ic) ∧ X.cell? ⟨w.heap.size, 4, none⟩ = some (.slice bA bn bc)) := Lib.hid fun X hX => by
    obtain ⟨a, b, c, d, e, -⟩ := gr_five ((hX.block w.heap.size (by omega)).trans h0W)
    exact ⟨a, b, c, d, e⟩
  have HB0 : Hid (∀ X, Below W.heap.size W X → Below w.heap.size w X) := Lib.hid fun X hX => hbW.trans (hX.mono (by omega))
  have HW := Lib.hid hW
  have Hbl := Lib.hid hbl
  have Hil := Lib.hid hil
  have HS := Lib.hid hS
  have HI := Lib.hid hI
  have hn1 : n0 ≤ W.heap.size := by omega
  have hbb : bn ≤ 1000 := by rw [hbl]; exact hs.b
  have hib : in_ ≤ 1000 := by rw [hil]; exact hs.i
  have Hs := Lib.hid hs
  obtain ⟨c0, c1, c2, c3, c4⟩ := HC.out W (Below.refl _ _)
  clear hW hbW h0W hbl hil h hS hI hs hFW
  have hg : GF n0 w (.agg #[.string nm, .slice pA pn pc, .int .i64 rt, .slice iA in_ ic, .slice bA bn bc]) g := hg
  have hgl : g.length = bn := hgl
  have hTb := table_g n0 _ g W (hg.keep2 ((HB0.out W (Below.refl _ _)).mono hn)) hn1 htg
  rw [hgl] at hTb
  have HSX : Hid (∀ X, Below W.heap.size W X → SBs n0 X (.slice bA bn bc) f.blocks) := Lib.hid fun X hX => (HFA.out X hX).b
  have HIX : Hid (∀ X, Below W.heap.size W X → SIs n0 X (.slice iA in_ ic) f.ins) := Lib.hid fun X hX => (HFA.out X hX).i
  have hmk := fun X => makeQ in_ (by omega) X
  have Ho := Lib.hid ho
  have hb0 : 0 < bn := by rw [Hbl.out]; exact ho.bp
  clear HS HI HFA hg hgl htg ho
  go_enter Try.func32, Try.ntmps32
  go_upto_region 1 with fail
  rw [← HW.out]
  go_upto_region 2 with (go_at_call 57; refine hTb.mono ?_; rintro e w2 ⟨tb, ib, rfl, ht, hb⟩; have HBT := Lib.hid ht; have HB2 := Lib.hid hb; clear hTb ht hb c0 c1 c2 c3 c4)
  obtain ⟨-, -, -, c3, -⟩ := HC.out w2 HB2.out
  go_cut [4, 5] (fun u4 u5 wx => ∃ wb pb : Nat, u4 = .slice (some ⟨wb, 0, none⟩) in_ in_ ∧ u5 = .slice (some ⟨pb, 0, none⟩) in_ in_ ∧ Hid (WR bn in_ wb pb wx (List.replicate in_ 0) (List.replicate in_ 0) ∧ w2.heap.size ≤ wb ∧ w2.heap.size ≤ pb ∧ Below w2.heap.size w2 wx))
  case first =>
    have hfin : ∀ (Z : World) (wb pb : Nat), Z.heap[wb]? = some (.cells (intsV (List.replicate in_ 0)).toArray 3 (0, 0)) → Z.heap[pb]? = some (.cells (intsV (List.replicate in_ 0)).toArray 3 (0, 0)) → wb ≠ pb → w2.heap.size ≤ wb → w2.heap.size ≤ pb → Below w2.heap.size w2 Z → Hid (WR bn in_ wb pb Z (List.replicate in_ 0) (List.replicate in_ 0) ∧ w2.heap.size ≤ wb ∧ w2.heap.size ≤ pb ∧ Below w2.heap.size w2 Z) := fun Z wb pb h1 h2 h3 h4 h5 h6 => Lib.hid ⟨WR.zero h1 h2 h3 hb0, h4, h5, h6⟩
    obtain ⟨Z1, hZ1, hbZ1, hzZ1, h0Z1⟩ := gr_one w2 (intsV (List.replicate in_ 0)).toArray 3
    obtain ⟨Z2, hZ2, hbZ2, hzZ2, h0Z2⟩ := gr_one Z1 (intsV (List.replicate in_ 0)).toArray 3
    rw [hzZ1] at h0Z2
    have hZ2d : Z2.drew = ((w2.alloc (.cells (intsV (List.replicate in_ 0)).toArray 3)).alloc (.cells (intsV (List.replicate in_ 0)).toArray 3)).drew := by rw [hZ2, hZ1]
    have hF1 := hfin Z2.drew w2.heap.size (w2.heap.size + 1) ((hbZ2.block _ (by omega)).trans h0Z1) h0Z2 (by omega) (by omega) (by omega) ((hbZ1.trans (hbZ2.mono (by omega))).drew)
    have hF2 := hfin Z2.drew (w2.heap.size + 1) w2.heap.size h0Z2 ((hbZ2.block _ (by omega)).trans h0Z1) (by omega) (by omega) (by omega) ((hbZ1.trans (hbZ2.mono (by omega))).drew)
    rw [hZ2d] at hF1 hF2
    have c3a : (w2.alloc (.cells (intsV (List.replicate in_ 0)).toArray 3)).cell? ⟨w.heap.size, 3, none⟩ = some (.slice iA in_ ic) := by rw [← hZ1]; exact cell_kept hbZ1 c3
    clear hfin hZ1 hbZ1 hzZ1 h0Z1 hZ2 hbZ2 hzZ2 h0Z2 hZ2d
    go_region
    all_goals (go_wp2_with fail; go_meet)
    all_goals first | exact ⟨_, _, rfl, rfl, hF1⟩ | exact ⟨_, _, rfl, rfl, hF2⟩
  case rest =>
    obtain ⟨wb, pb, rfl, rfl, H0⟩ := hcut
    obtain ⟨h01, h02, h03, h04⟩ := H0.out
    have Hwp := Lib.hid (And.intro h02 h03)
    have HW2 : Hid (∀ X, Below w2.heap.size w2 X → Below W.heap.size W X) := Lib.hid fun X hX => HB2.out.trans (hX.mono HB2.out.size)
    have HR0 := Lib.hid (And.intro h01 h04)
    have hne1 : ¬ wb = pb := h01.ne
    have hne2 : ¬ pb = wb := fun e => h01.ne e.symm
    clear h01 h02 h03 h04 H0 hmk c3
    go_wp2_with fail
    go_loopw [6] (fun u6 wr => ∃ (i : Nat) (ws ps : List Int), i ≤ bn ∧ u6 = .int .i64 (i : Int) ∧ Hid (WR bn in_ wb pb wr ws ps ∧ Below w2.heap.size w2 wr)) (fun u6 _ => bn - (intOf u6).toNat)
    case atStart => exact ⟨0, _, _, Nat.zero_le _, rfl, HR0⟩
    case round =>
      clear HR0
      obtain ⟨i, ws, ps, hi, rfl, HR⟩ := hrel
      obtain ⟨wo, hwo⟩ : ∃ x, x = wr := ⟨_, rfl⟩
      rw [← hwo] at HR ⊢
      clear hwo
      obtain ⟨c0, c1, c2, c3, c4o⟩ := HC.out wo (HW2.out wo HR.out.2)
      clear c0 c1 c2 c3
      by_cases hlt : i < bn
      · have hil : i < f.blocks.length := by rw [← Hbl.out]; exact hlt
        have hkl := Hs.out.lists _ (List.getElem_mem hil)
        have hki := Ho.out.li _ (List.getElem_mem hil)
        have hcell := fun X hX => (HSX.out X hX).at hil
        obtain ⟨k, hk⟩ : ∃ k, k = f.blocks[i] := ⟨_, rfl⟩
        rw [← hk] at hcell hkl hki
        obtain ⟨kl, kp, kk, ka, kt⟩ := k
        simp only at hcell hkl hki
        obtain ⟨ln, hln⟩ : ∃ n, n = kl.length := ⟨_, rfl⟩
        rw [← hln] at hcell hkl
        have Hcell := Lib.hid hcell
        have Hki := Lib.hid hki
        have Hln := Lib.hid hln
        clear hk hil hcell hki hln
        go_wp2_with fail
        clear c4o
        go_loopw [7] (fun u7 wr => ∃ (j : Nat) (ws ps : List Int), j ≤ ln ∧ u7 = .int .i64 (j : Int) ∧ Hid (WR bn in_ wb pb wr ws ps ∧ Below w2.heap.size w2 wr)) (fun u7 _ => ln - (intOf u7).toNat)
        case atStart => exact ⟨0, ws, ps, Nat.zero_le _, rfl, HR⟩
        case round =>
          clear HR
          obtain ⟨j, ws, ps, hj, rfl, HR⟩ := hrel
          obtain ⟨wi, hwi⟩ : ∃ x, x = wr := ⟨_, rfl⟩
          rw [← hwi] at HR ⊢
          clear hwi
          have hBW := HW2.out wi HR.out.2
          obtain ⟨c0, c1, c2, c3, c4⟩ := HC.out wi hBW
          obtain ⟨gb, go, lA, lc, qA, qc, tA, tc, e1, hgn, x0, -, -, -, -, g1, -, -⟩ := Hcell.out wi hBW
          subst e1
          clear c0 c1 c2 c3
          by_cases hjt : j < ln
          · have hjl : j < kl.length := by rw [← Hln.out]; exact hjt
            obtain ⟨lb, lo, rfl, hlb, y0⟩ := g1.at hjl
            obtain ⟨q0, q1⟩ := Hki.out _ (List.getElem_mem hjl)
            obtain ⟨x, hx⟩ : ∃ x, x = kl[j] := ⟨_, rfl⟩
            rw [← hx] at y0 q0 q1
            obtain ⟨q, rfl⟩ : ∃ q : Nat, x = (q : Int) := ⟨x.toNat, by omega⟩
            have hqi : q < in_ := by rw [Hil.out]; omega
            obtain ⟨v, u, -, v1, v2, u1, u2⟩ := HR.out.1.at hqi
            have hbig : W.heap.size ≤ w2.heap.size := HB2.out.size
            have hwb := Hwp.out.1
            have hpb := Hwp.out.2
            have hkeep : ∀ X, Below w2.heap.size wi X → X.cell? ⟨w.heap.size, 4, none⟩ = some (.slice (some ⟨gb, go, none⟩) bn bc) ∧ X.cell? ⟨gb, go + i * 5, none⟩ = some (.slice (some ⟨lb, lo, none⟩) ln lc) ∧ X.cell? ⟨lb, lo + j, none⟩ = some (.int .i64 (q : Int)) := fun X hX => ⟨(hX.cell (p := ⟨w.heap.size, 4, none⟩) (by show w.heap.size < _; omega)).trans c4, (hX.cell (p := ⟨gb, go + i * 5, none⟩) (by show gb < _; omega)).trans x0, (hX.cell (p := ⟨lb, lo + j, none⟩) (by show lb < _; omega)).trans y0⟩
            have z0 : wi.drew.cell? ⟨w.heap.size, 4, none⟩ = some (.slice (some ⟨gb, go, none⟩) bn bc) ∧ wi.drew.cell? ⟨gb, go + i * 5, none⟩ = some (.slice (some ⟨lb, lo, none⟩) ln lc) ∧ wi.drew.cell? ⟨lb, lo + j, none⟩ = some (.int .i64 (q : Int)) := ⟨c4, x0, y0⟩
            have z1 := hkeep (wi.setCell ⟨wb, q, none⟩ (.int .i64 (i : Int))).drew (((Below.refl _ _).setCell (p := ⟨wb, q, none⟩) hwb _).drew)
            have z2 := hkeep ((wi.setCell ⟨wb, q, none⟩ (.int .i64 (i : Int))).setCell ⟨pb, q, none⟩ (.int .i64 (j : Int))).drew ((((Below.refl _ _).setCell (p := ⟨wb, q, none⟩) hwb _).setCell (p := ⟨pb, q, none⟩) hpb _).drew)
            have HN : Hid (WR bn in_ wb pb ((wi.setCell ⟨wb, q, none⟩ (.int .i64 (i : Int))).setCell ⟨pb, q, none⟩ (.int .i64 (j : Int))).drew (ws.set q (i : Int)) (ps.set q (j : Int)) ∧ Below w2.heap.size w2 ((wi.setCell ⟨wb, q, none⟩ (.int .i64 (i : Int))).setCell ⟨pb, q, none⟩ (.int .i64 (j : Int))).drew) := Lib.hid ⟨(HR.out.1.put q (i : Int) (j : Int) ⟨by omega, by omega⟩).keep (Below.refl _ _).drew, HR.out.2.trans ((((Below.refl _ _).setCell (p := ⟨wb, q, none⟩) hwb _).setCell (p := ⟨pb, q, none⟩) hpb _).drew)⟩
            clear hx hjl g1 q0 q1 hkeep hgn hlb hbig hwb hpb hBW
            go_upto_region 9 with fail
            clear c4 x0 y0
            refine wp_region_noPanic ?_
            refine wp_region_held_drew (S := fun w' => w'.cell? ⟨w.heap.size, 4, none⟩ = some (.slice (some ⟨gb, go, none⟩) bn bc) ∧ w'.cell? ⟨gb, go + i * 5, none⟩ = some (.slice (some ⟨lb, lo, none⟩) ln lc) ∧ w'.cell? ⟨lb, lo + j, none⟩ = some (.int .i64 (q : Int))) (by kernel_rfl) z0 (fun hHeld => ?_)
            refine wpAnyH_take (i := 0) (v := ?_) rfl (by kernel_rfl) (by kernel_rfl) (by kernel_rfl) (fun _ _ _ h => h) (Or.inl ⟨by rfl, ?_⟩) (by assumption) ?_
            rotate_left
            · (intro w hSw; (try dsimp only at hSw); first | (go_simp; done) | (go_simp; with_reducible rfl))
            try simp only [Act.put, List.setIfInBounds_toArray, List.set_cons_zero, List.set_cons_succ]
            refine wpAnyH_take (i := 1) (v := ?_) rfl (by kernel_rfl) (by kernel_rfl) (by kernel_rfl) (fun _ _ _ h => h) (Or.inl ⟨by rfl, ?_⟩) (by assumption) ?_
            rotate_left
            · (intro w hSw; (try dsimp only at hSw); first | (go_simp; done) | (go_simp; with_reducible rfl))
            try simp only [Act.put, List.setIfInBounds_toArray, List.set_cons_zero, List.set_cons_succ]
            refine wpAnyH_take (i := 2) (v := ?_) rfl (by kernel_rfl) (by kernel_rfl) (by kernel_rfl) (fun _ _ _ h => h) (Or.inl ⟨by rfl, ?_⟩) (by assumption) ?_
            rotate_left
            · (intro w hSw; (try dsimp only at hSw); first | (go_simp; done) | (go_simp; with_reducible rfl))
            try simp only [Act.put, List.setIfInBounds_toArray, List.set_cons_zero, List.set_cons_succ]
            refine wpAnyH_take (i := 3) (v := ?_) rfl (by kernel_rfl) (by kernel_rfl) (by kernel_rfl) (fun _ _ _ h => h) (Or.inl ⟨by rfl, ?_⟩) (by assumption) ?_
            rotate_left
            · (intro w hSw; (try dsimp only at hSw); first | (go_simp; done) | (go_simp; with_reducible rfl))
            try simp only [Act.put, List.setIfInBounds_toArray, List.set_cons_zero, List.set_cons_succ]
            refine wpAnyH_take (i := 4) (v := ?_) rfl (by kernel_rfl) (by kernel_rfl) (by kernel_rfl) (fun _ _ _ h => h) (Or.inl ⟨by rfl, ?_⟩) (by assumption) ?_
            rotate_left
            · (intro w hSw; (try dsimp only at hSw); first | (go_simp; done) | (go_simp; with_reducible rfl))
            try simp only [Act.put, List.setIfInBounds_toArray, List.set_cons_zero, List.set_cons_succ]
            refine wpAnyH_take (i := 5) (v := ?_) rfl (by kernel_rfl) (by kernel_rfl) (by kernel_rfl) (fun _ _ _ h => h) (Or.inl ⟨by rfl, ?_⟩) (by assumption) ?_
            rotate_left
            · (intro w hSw; (try dsimp only at hSw); first | (go_simp; done) | (go_simp; with_reducible rfl))
            try simp only [Act.put, List.setIfInBounds_toArray, List.set_cons_zero, List.set_cons_succ]
            refine wpAnyH_take (i := 6) (v := ?_) rfl (by kernel_rfl) (by kernel_rfl) (by kernel_rfl) (fun _ _ _ h => h) (Or.inl ⟨by rfl, ?_⟩) (by assumption) ?_
            rotate_left
            · (intro w hSw; (try dsimp only at hSw); first | (go_simp; done) | (go_simp; with_reducible rfl))
            try simp only [Act.put, List.setIfInBounds_toArray, List.set_cons_zero, List.set_cons_succ]
            refine wpAnyH_take (i := 7) (v := ?_) rfl (by kernel_rfl) (by kernel_rfl) (by kernel_rfl) (fun _ _ _ h => h) (Or.inl ⟨by rfl, ?_⟩) (by assumption) ?_
            rotate_left
            · (intro w hSw; (try dsimp only at hSw); first | (go_simp; done) | (go_simp; with_reducible rfl))
            try simp only [Act.put, List.setIfInBounds_toArray, List.set_cons_zero, List.set_cons_succ]
            refine wpAnyH_take (i := 8) (v := ?_) rfl (by kernel_rfl) (by kernel_rfl) (by kernel_rfl) (fun _ _ _ h => h) (Or.inl ⟨by rfl, ?_⟩) (by assumption) ?_
            rotate_left
            · (intro w hSw; (try dsimp only at hSw); first | (go_simp; done) | (go_simp; with_reducible rfl))
            try simp only [Act.put, List.setIfInBounds_toArray, List.set_cons_zero, List.set_cons_succ]
            refine wpAnyH_take (i := 9) (v := ?_) rfl (by kernel_rfl) (by kernel_rfl) (by kernel_rfl) (fun _ _ _ h => h) (Or.inl ⟨by rfl, ?_⟩) (by assumption) ?_
            rotate_left
            · (intro w hSw; (try dsimp only at hSw); first | (go_simp; done) | (go_simp; with_reducible rfl))
            try simp only [Act.put, List.setIfInBounds_toArray, List.set_cons_zero, List.set_cons_succ]
            refine wpAnyH_take (i := 10) (v := ?_) rfl (by kernel_rfl) (by kernel_rfl) (by kernel_rfl) (fun _ _ _ h => h) (Or.inl ⟨by rfl, ?_⟩) (by assumption) ?_
            rotate_left
            · (intro w hSw; (try dsimp only at hSw); first | (go_simp; done) | (go_simp; with_reducible rfl))
            try simp only [Act.put, List.setIfInBounds_toArray, List.set_cons_zero, List.set_cons_succ]
            refine wpAnyH_take (i := 11) (v := ?_) rfl (by kernel_rfl) (by kernel_rfl) (by kernel_rfl) (fun _ _ _ h => h) (Or.inl ⟨by rfl, ?_⟩) (by assumption) ?_
            rotate_left
            · (intro w hSw; (try dsimp only at hSw); first | (go_simp; done) | (go_simp; with_reducible rfl))
            try simp only [Act.put, List.setIfInBounds_toArray, List.set_cons_zero, List.set_cons_succ]
            refine wpAnyH_take (i := 12) (v := ?_) rfl (by kernel_rfl) (by kernel_rfl) (by kernel_rfl) (fun _ _ _ h => h) (Or.inl ⟨by rfl, ?_⟩) (by assumption) ?_
            rotate_left
            · (intro w hSw; (try dsimp only at hSw); first | (go_simp; done) | (go_simp; with_reducible rfl))
            try simp only [Act.put, List.setIfInBounds_toArray, List.set_cons_zero, List.set_cons_succ]
            refine wpAnyH_take (i := 13) (v := ?_) rfl (by kernel_rfl) (by kernel_rfl) (by kernel_rfl) (fun _ _ _ h => h) (Or.inl ⟨by rfl, ?_⟩) (by assumption) ?_
            rotate_left
            · (intro w hSw; (try dsimp only at hSw); first | (go_simp; done) | (go_simp; with_reducible rfl))
            try simp only [Act.put, List.setIfInBounds_toArray, List.set_cons_zero, List.set_cons_succ]
            refine wpAnyH_take (i := 14) (v := ?_) rfl (by kernel_rfl) (by kernel_rfl) (by kernel_rfl) (fun _ _ _ h => h) (Or.inl ⟨by rfl, ?_⟩) (by assumption) ?_
            rotate_left
            · (intro w hSw; (try dsimp only at hSw); first | (go_simp; done) | (go_simp; with_reducible rfl))
            try simp only [Act.put, List.setIfInBounds_toArray, List.set_cons_zero, List.set_cons_succ]
            refine wpAnyH_take (i := 15) (v := ?_) rfl (by kernel_rfl) (by kernel_rfl) (by kernel_rfl) (fun _ _ _ h => h) (Or.inl ⟨by rfl, ?_⟩) (by assumption) ?_
            rotate_left
            · (intro w hSw; (try dsimp only at hSw); first | (go_simp; done) | (go_simp; with_reducible rfl))
            try simp only [Act.put, List.setIfInBounds_toArray, List.set_cons_zero, List.set_cons_succ]
            refine wpAnyH_take (i := 16) (v := ?_) rfl (by kernel_rfl) (by kernel_rfl) (by kernel_rfl) (fun _ _ _ h => h) (Or.inl ⟨by rfl, ?_⟩) (by assumption) ?_
            rotate_left
            · (intro w hSw; (try dsimp only at hSw); first | (go_simp; done) | (go_simp; with_reducible rfl))
            try simp only [Act.put, List.setIfInBounds_toArray, List.set_cons_zero, List.set_cons_succ]
            refine wpAnyH_take (i := 17) (v := ?_) rfl (by kernel_rfl) (by kernel_rfl) (by kernel_rfl) (fun _ _ _ h => h) (Or.inl ⟨by rfl, ?_⟩) (by assumption) ?_
            rotate_left
            · (intro w hSw; (try dsimp only at hSw); first | (go_simp; done) | (go_simp; with_reducible rfl))
            try simp only [Act.put, List.setIfInBounds_toArray, List.set_cons_zero, List.set_cons_succ]
            refine wpAnyH_take (i := 18) (v := ?_) rfl (by kernel_rfl) (by kernel_rfl) (by kernel_rfl) (fun _ _ _ h => h) (Or.inl ⟨by rfl, ?_⟩) (by assumption) ?_
            rotate_left
            · (intro w hSw; (try dsimp only at hSw); first | (go_simp; done) | (go_simp; with_reducible rfl))
            try simp only [Act.put, List.setIfInBounds_toArray, List.set_cons_zero, List.set_cons_succ]
            refine wpAnyH_take (i := 19) (v := ?_) rfl (by kernel_rfl) (by kernel_rfl) (by kernel_rfl) (fun _ _ _ h => h) (Or.inl ⟨by rfl, ?_⟩) (by assumption) ?_
            rotate_left
            · (intro w hSw; (try dsimp only at hSw); first | (go_simp; done) | (go_simp; with_reducible rfl))
            try simp only [Act.put, List.setIfInBounds_toArray, List.set_cons_zero, List.set_cons_succ]
            refine wpAnyH_take (i := 20) (v := ?_) rfl (by kernel_rfl) (by kernel_rfl) (by kernel_rfl) (fun _ _ _ h => h) (Or.inl ⟨by rfl, ?_⟩) (by assumption) ?_
            rotate_left
            · (intro w hSw; (try dsimp only at hSw); first | (go_simp; done) | (go_simp; with_reducible rfl))
            try simp only [Act.put, List.setIfInBounds_toArray, List.set_cons_zero, List.set_cons_succ]
            refine wpAnyH_take (i := 21) (v := ?_) rfl (by kernel_rfl) (by kernel_rfl) (by kernel_rfl) (fun _ _ _ h => h) (Or.inl ⟨by rfl, ?_⟩) (by assumption) ?_
            rotate_left
            · (intro w hSw; (try dsimp only at hSw); first | (go_simp; done) | (go_simp; with_reducible rfl))
            try simp only [Act.put, List.setIfInBounds_toArray, List.set_cons_zero, List.set_cons_succ]
            refine wpAnyH_take (i := 22) (v := ?_) rfl (by kernel_rfl) (by kernel_rfl) (by kernel_rfl) (fun _ _ _ h => h) (Or.inl ⟨by rfl, ?_⟩) (by assumption) ?_
            rotate_left
            · (intro w hSw; (try dsimp only at hSw); first | (go_simp; done) | (go_simp; with_reducible rfl))
            try simp only [Act.put, List.setIfInBounds_toArray, List.set_cons_zero, List.set_cons_succ]
            refine wpAnyH_ready (rs := [23]) (by kernel_rfl) (by simp) ?_
            refine AllReadyH.cons rfl (fun K hK => ?_) (AllReadyH.nil)
            go_simp
            refine hK.out _ _ ?_ (fun hHeld => ?_)
            · ((try dsimp only); first | with_reducible exact z0 | with_reducible exact z1 | with_reducible exact z2)
            clear hK K
            try simp only [Act.put, List.setIfInBounds_toArray, List.set_cons_zero, List.set_cons_succ]
            refine wpAnyH_take (i := 24) (v := ?_) rfl (by kernel_rfl) (by kernel_rfl) (by kernel_rfl) (fun _ _ _ h => h) (Or.inl ⟨by rfl, ?_⟩) (by assumption) ?_
            rotate_left
            · (intro w hSw; (try dsimp only at hSw); first | (go_simp; done) | (go_simp; with_reducible rfl))
            try simp only [Act.put, List.setIfInBounds_toArray, List.set_cons_zero, List.set_cons_succ]
            refine wpAnyH_ready (rs := [25]) (by kernel_rfl) (by simp) ?_
            refine AllReadyH.cons rfl (fun K hK => ?_) (AllReadyH.nil)
            go_simp
            refine hK.out _ _ ?_ (fun hHeld => ?_)
            · ((try dsimp only); first | with_reducible exact z0 | with_reducible exact z1 | with_reducible exact z2)
            clear hK K
            try simp only [Act.put, List.setIfInBounds_toArray, List.set_cons_zero, List.set_cons_succ]
            refine wpAnyH_done (by kernel_rfl) ?_ _
            refine NoPanic.normal ?_
            clear z0 z1 z2
            go_wp2
            go_roundw
            case rel => exact ⟨j + 1, _, _, by omega, by go_num, HN⟩
            case measure => simp [intOf]; omega
          · go_wp2_with fail
            go_roundw
            case rel => exact ⟨i + 1, ws, ps, by omega, by go_num, HR⟩
            case measure => simp [intOf]; omega
      · obtain ⟨w3, hw3⟩ : ∃ x, x = wo := ⟨_, rfl⟩
        rw [← hw3] at HR c4o ⊢
        clear hw3
        go_wp2_with fail
        clear c4o
        have HX3 : Hid (∀ X, Below w3.heap.size w3 X → Below W.heap.size W X) := Lib.hid fun X hX => (HW2.out w3 HR.out.2).trans (hX.mono (HW2.out w3 HR.out.2).size)
        have HWR : Hid (∀ X, Below w3.heap.size w3 X → WR bn in_ wb pb X ws ps) := Lib.hid fun X hX => HR.out.1.keep hX
        have HTB : Hid (∀ X, Below w3.heap.size w3 X → BT X tb ib bn (tabP g)) := Lib.hid fun X hX => (HBT.out.keep HR.out.2).keep hX
        obtain ⟨QQ, hQQ⟩ : ∃ QQ, QQ = tabP g := ⟨_, rfl⟩
        rw [← hQQ] at HTB
        clear hQQ HR HBT HB2 Hwp HW2
        go_loopw [8] (fun u8 wr => ∃ i : Nat, i ≤ bn ∧ u8 = .int .i64 (i : Int) ∧ Hid (Below w3.heap.size w3 wr)) (fun u8 _ => bn - (intOf u8).toNat)
        case atStart => exact ⟨0, Nat.zero_le _, rfl, Lib.hid (Below.refl _ _)⟩
        case round =>
          clear hlt hi
          obtain ⟨i, hi, rfl, HB⟩ := hrel
          obtain ⟨wo, hwo⟩ : ∃ x, x = wr := ⟨_, rfl⟩
          rw [← hwo] at HB ⊢
          clear hwo
          obtain ⟨c0, c1, c2, c3, c4⟩ := HC.out wo (HX3.out wo HB.out)
          clear c0 c1 c2 c3
          by_cases hlt : i < bn
          · have hil : i < f.blocks.length := by rw [← Hbl.out]; exact hlt
            have hkl := Hs.out.lists _ (List.getElem_mem hil)
            have hki := Ho.out.li _ (List.getElem_mem hil)
            have hkp := Ho.out.pr _ (List.getElem_mem hil)
            have hph := Ho.out.ph _ (List.getElem_mem hil)
            have har := Ho.out.ar _ (List.getElem_mem hil)
            have hte := Ho.out.te _ (List.getElem_mem hil)
            obtain ⟨gb, go, lA, lc, qA, qc, tA, tc, rfl, -, x0, x1, x2, x3, x4, g1, g2, g3⟩ := (HSX.out wo (HX3.out wo HB.out)).at hil
            obtain ⟨k, hk⟩ : ∃ k, k = f.blocks[i] := ⟨_, rfl⟩
            rw [← hk] at x0 x1 x2 x3 x4 g1 g2 hkl hki hkp hph har hte
            obtain ⟨kl, kp, kk, ka, kt⟩ := k
            simp only at x0 x1 x2 x3 x4 g1 g2 hkl hki hkp hph har hte
            obtain ⟨ln, hln⟩ : ∃ n, n = kl.length := ⟨_, rfl⟩
            obtain ⟨qn, hqn⟩ : ∃ n, n = kp.length := ⟨_, rfl⟩
            obtain ⟨tn, htn⟩ : ∃ n, n = kt.length := ⟨_, rfl⟩
            rw [← hln] at x0 g1 hkl
            rw [← hqn] at x1 g2
            rw [← htn] at x4
            obtain ⟨X, hX, hbX, hzX, h0X⟩ := gr_one wo #[.slice lA ln lc, .slice qA qn qc, .int .i64 kk, .int .i64 ka, .slice tA tn tc] 51
            have hnw : n0 ≤ wo.heap.size := Nat.le_trans hn1 (HX3.out wo HB.out).size
            obtain ⟨xb, hxb⟩ : ∃ b, b = wo.heap.size := ⟨_, rfl⟩
            have hxl : xb < X.heap.size := by omega
            have HXC : Hid (∀ Z, Below X.heap.size X Z → Z.cell? ⟨xb, 0, none⟩ = some (.slice lA ln lc) ∧ Z.cell? ⟨xb, 1, none⟩ = some (.slice qA qn qc) ∧ Z.cell? ⟨xb, 3, none⟩ = some (.int .i64 ka)) := Lib.hid fun Z hZ => by
              have h1 : Z.heap[xb]? = some (.cells #[.slice lA ln lc, .slice qA qn qc, .int .i64 kk, .int .i64 ka, .slice tA tn tc] 51 (0, 0)) := (hZ.block xb hxl).trans (by rw [hxb]; exact h0X)
              exact ⟨Lib.cell_of_heap h1 0, Lib.cell_of_heap h1 1, Lib.cell_of_heap h1 3⟩
            have HLX : Hid (∀ Z, Below X.heap.size X Z → GNs n0 Z (.slice lA ln lc) kl) := Lib.hid fun Z hZ => g1.keep ((hbX.trans (hZ.mono hbX.size)).mono hnw)
            have HPX : Hid (∀ Z, Below X.heap.size X Z → GNs n0 Z (.slice qA qn qc) kp) := Lib.hid fun Z hZ => g2.keep ((hbX.trans (hZ.mono hbX.size)).mono hnw)
            have HXW : Hid (∀ Z, Below X.heap.size X Z → Below w3.heap.size w3 Z) := Lib.hid fun Z hZ => (HB.out.trans (hbX.mono HB.out.size)).trans (hZ.mono (Nat.le_trans HB.out.size hbX.size))
            have HX := Lib.hid hX
            have Hxb := Lib.hid hxb
            have Hln := Lib.hid hln
            have Hqn := Lib.hid hqn
            have Hki := Lib.hid hki
            have Hkp := Lib.hid hkp
            have Hph := Lib.hid hph
            have Har := Lib.hid har
            have Hte := Lib.hid hte
            clear hk hil hln hqn htn hki hkp hph har hte g1 g2 g3 hX hbX h0X hzX hxb hxl hnw
            go_upto_region 14 with fail
            rw [← HX.out, ← Hxb.out]
            clear x0 x1 x2 x3 x4 c4
            go_wp2_with fail
            go_loopw [10] (fun u10 wr => ∃ j : Nat, j ≤ ln ∧ u10 = .int .i64 (j : Int) ∧ Hid (Below X.heap.size X wr)) (fun u10 _ => ln - (intOf u10).toNat)
            case atStart => exact ⟨0, Nat.zero_le _, rfl, Lib.hid (Below.refl _ _)⟩
            case round =>
              obtain ⟨j, hj, rfl, HBi⟩ := hrel
              obtain ⟨wi, hwi⟩ : ∃ x, x = wr := ⟨_, rfl⟩
              rw [← hwi] at HBi ⊢
              clear hwi
              obtain ⟨l0, l1, l3⟩ := HXC.out wi HBi.out
              by_cases hjt : j < ln
              · clear l1 l3
                have hjl : j < kl.length := by rw [← Hln.out]; exact hjt
                obtain ⟨lb, lo, rfl, -, y0⟩ := (HLX.out wi HBi.out).at hjl
                obtain ⟨q0, q1⟩ := Hki.out _ (List.getElem_mem hjl)
                have hph := Hph.out _ (List.getElem_mem hjl)
                have har := Har.out _ (List.getElem_mem hjl)
                obtain ⟨x, hx⟩ : ∃ x, x = kl[j] := ⟨_, rfl⟩
                rw [← hx] at y0 q0 q1 hph har
                obtain ⟨q, rfl⟩ : ∃ q : Nat, x = (q : Int) := ⟨x.toNat, by omega⟩
                have hql : q < f.ins.length := by omega
                have hqi : q < in_ := by rw [Hil.out]; exact hql
                have hgd : f.ins.getD (q : Int).toNat d0I = f.ins[q] := by simp [List.getD, List.getElem?_eq_getElem hql]
                simp only [hgd] at hph har
                have han1 := Hs.out.args _ (List.getElem_mem hql)
                obtain ⟨gb, go, aA, ac, rfl, -, p0, p1, p2, p3, p4, ga⟩ := (HIX.out wi (HX3.out wi (HXW.out wi HBi.out))).at hql
                obtain ⟨y, hy⟩ : ∃ y, y = f.ins[q] := ⟨_, rfl⟩
                rw [← hy] at p0 p1 p2 p3 p4 ga hph har han1
                obtain ⟨op, ty, args, nn, to_⟩ := y
                simp only at p0 p1 p2 p3 p4 ga hph har han1
                obtain ⟨an, han⟩ : ∃ n, n = args.length := ⟨_, rfl⟩
                rw [← han] at p2 ga hph han1
                obtain ⟨-, -, -, c3, -⟩ := HC.out wi (HX3.out wi (HXW.out wi HBi.out))
                obtain ⟨Y, hY, hbY, hzY, h0Y⟩ := gr_one wi #[.int .i64 op, .int .i64 ty, .slice aA an ac, .int .i64 nn, .int .i64 to_] 46
                have hbz : Below wi.heap.size wi (wi.alloc (.cells #[.int .i64 0, .int .i64 0, .slice none 0 0, .int .i64 0, .int .i64 0] 46)) := (Below.refl _ _).alloc (Nat.le_refl _) _
                have zc3 : (wi.alloc (.cells #[.int .i64 0, .int .i64 0, .slice none 0 0, .int .i64 0, .int .i64 0] 46)).cell? ⟨w.heap.size, 3, none⟩ = some (.slice (some ⟨gb, go, none⟩) in_ ic) := cell_kept hbz c3
                have zl0 : (wi.alloc (.cells #[.int .i64 0, .int .i64 0, .slice none 0 0, .int .i64 0, .int .i64 0] 46)).cell? ⟨xb, 0, none⟩ = some (.slice (some ⟨lb, lo, none⟩) ln lc) := cell_kept hbz l0
                have zy0 : (wi.alloc (.cells #[.int .i64 0, .int .i64 0, .slice none 0 0, .int .i64 0, .int .i64 0] 46)).cell? ⟨lb, lo + j, none⟩ = some (.int .i64 (q : Int)) := cell_kept hbz y0
                have zp0 : (wi.alloc (.cells #[.int .i64 0, .int .i64 0, .slice none 0 0, .int .i64 0, .int .i64 0] 46)).cell? ⟨gb, go + q * 5, none⟩ = some (.int .i64 op) := cell_kept hbz p0
                have zp1 : (wi.alloc (.cells #[.int .i64 0, .int .i64 0, .slice none 0 0, .int .i64 0, .int .i64 0] 46)).cell? ⟨gb, go + q * 5 + 1, none⟩ = some (.int .i64 ty) := cell_kept hbz p1
                have zp2 : (wi.alloc (.cells #[.int .i64 0, .int .i64 0, .slice none 0 0, .int .i64 0, .int .i64 0] 46)).cell? ⟨gb, go + q * 5 + 2, none⟩ = some (.slice aA an ac) := cell_kept hbz p2
                have zp3 : (wi.alloc (.cells #[.int .i64 0, .int .i64 0, .slice none 0 0, .int .i64 0, .int .i64 0] 46)).cell? ⟨gb, go + q * 5 + 3, none⟩ = some (.int .i64 nn) := cell_kept hbz p3
                have zp4 : (wi.alloc (.cells #[.int .i64 0, .int .i64 0, .slice none 0 0, .int .i64 0, .int .i64 0] 46)).cell? ⟨gb, go + q * 5 + 4, none⟩ = some (.int .i64 to_) := cell_kept hbz p4
                have HY := Lib.hid hY
                obtain ⟨yb, hyb⟩ : ∃ b, b = wi.heap.size := ⟨_, rfl⟩
                have hyl : yb < Y.heap.size := by omega
                have HYC : Hid (∀ Z, Below Y.heap.size Y Z → Z.cell? ⟨yb, 0, none⟩ = some (.int .i64 op) ∧ Z.cell? ⟨yb, 2, none⟩ = some (.slice aA an ac)) := Lib.hid fun Z hZ => by
                  have h1 : Z.heap[yb]? = some (.cells #[.int .i64 op, .int .i64 ty, .slice aA an ac, .int .i64 nn, .int .i64 to_] 46 (0, 0)) := (hZ.block yb hyl).trans (by rw [hyb]; exact h0Y)
                  exact ⟨Lib.cell_of_heap h1 0, Lib.cell_of_heap h1 2⟩
                have HYX : Hid (∀ Z, Below Y.heap.size Y Z → Below X.heap.size X Z) := Lib.hid fun Z hZ => (HBi.out.trans (hbY.mono HBi.out.size)).trans (hZ.mono (Nat.le_trans HBi.out.size hbY.size))
                have HGA : Hid (∀ Z, Below Y.heap.size Y Z → GNs n0 Z (.slice aA an ac) args) := Lib.hid fun Z hZ => ga.keep ((hbY.trans (hZ.mono hbY.size)).mono (Nat.le_trans hn1 (HX3.out wi (HXW.out wi HBi.out)).size))
                have Hyb := Lib.hid hyb
                have Han := Lib.hid han
                have Hph2 := Lib.hid hph
                have Har2 := Lib.hid har
                clear hbz hY hyb hyl hbY h0Y hzY hx hjl q0 q1 hph har hql hgd hy han ga
                go_upto_region 17 with fail
                go_region
                rw [← HY.out, ← Hyb.out]
                obtain ⟨V, hV⟩ : ∃ V, V = Y.drew := ⟨_, rfl⟩
                have hYV : Below Y.heap.size Y V := by rw [hV]; exact (Below.refl _ _).drew
                have HYV : Hid (∀ Z, Below V.heap.size V Z → Below Y.heap.size Y Z) := Lib.hid fun Z hZ => hYV.trans (hZ.mono hYV.size)
                rw [← hV]
                clear hV hYV c3 l0 y0 p0 p1 p2 p3 p4 zc3 zl0 zy0 zp0 zp1 zp2 zp3 zp4
                go_wp2_with fail
                go_loopw [12] (fun u12 wr => ∃ m : Nat, m ≤ an ∧ u12 = .int .i64 (m : Int) ∧ Hid (Below V.heap.size V wr)) (fun u12 _ => an - (intOf u12).toNat)
                case atStart => exact ⟨0, Nat.zero_le _, rfl, Lib.hid (Below.refl _ _)⟩
                case round =>
                  obtain ⟨m, hm, rfl, HBk⟩ := hrel
                  obtain ⟨wk, hwk⟩ : ∃ x, x = wr := ⟨_, rfl⟩
                  rw [← hwk] at HBk ⊢
                  clear hwk
                  have hYk := HYV.out wk HBk.out
                  obtain ⟨e0, e2⟩ := HYC.out wk hYk
                  by_cases hmt : m < an
                  · have hml : m < args.length := by rw [← Han.out]; exact hmt
                    obtain ⟨ab, ao, rfl, -, y0⟩ := (HGA.out wk hYk).at hml
                    obtain ⟨q0, q1⟩ := Har2.out _ (List.getElem_mem hml)
                    obtain ⟨x, hx⟩ : ∃ x, x = args[m] := ⟨_, rfl⟩
                    rw [← hx] at y0 q0 q1
                    obtain ⟨p, rfl⟩ : ∃ p : Nat, x = (p : Int) := ⟨x.toNat, by omega⟩
                    have hpi : p < in_ := by rw [Hil.out]; omega
                    have h3k := HXW.out wk (HYX.out wk hYk)
                    obtain ⟨v, u, hv, v1, -, u1, -⟩ := (HWR.out wk h3k).at hpi
                    obtain ⟨-, tv, tc⟩ := (HTB.out wk h3k).2 v hv
                    have HNO : Hid (∀ d, Below w.heap.size w (wk.drewN d)) := Lib.hid fun d => HB0.out _ (HX3.out _ (below_dr h3k d))
                    clear hx hml q0 q1 h3k
                    by_cases o3 : op = 3
                    · subst o3
                      have hmq : m < qn := by have h1 := Hph2.out rfl; have h2 := Hqn.out; omega
                      have hmk : m < kp.length := by rw [← Hqn.out]; exact hmq
                      obtain ⟨-, l1, -⟩ := HXC.out wk (HYX.out wk hYk)
                      obtain ⟨eb, eo, rfl, -, r0⟩ := (HPX.out wk (HYX.out wk hYk)).at hmk
                      obtain ⟨r1, r2⟩ := Hkp.out _ (List.getElem_mem hmk)
                      obtain ⟨x, hx⟩ : ∃ x, x = kp[m] := ⟨_, rfl⟩
                      rw [← hx] at r0 r1 r2
                      obtain ⟨rr, rfl⟩ : ∃ p : Nat, x = (p : Int) := ⟨x.toNat, by omega⟩
                      have hrr : rr < bn := by rw [Hbl.out]; omega
                      have tq := tc rr hrr
                      obtain ⟨bb, hbb⟩ : ∃ b, b = QQ v rr := ⟨_, rfl⟩
                      rw [← hbb] at tq
                      clear hx hmk r1 r2 hbb tc hYk u1
                      cases bb
                      · go_upto_region 23 with fail
                        go_quiet (fail)
                        go_wp2_with fail
                        go_ret
                        exact BP.no (HNO.out _)
                      · go_upto_region 23 with fail
                        go_quiet (fail)
                        go_wp2_with fail
                        go_roundw
                        case rel => exact ⟨m + 1, by omega, by go_num, Lib.hid (below_dr HBk.out _)⟩
                        case measure => simp [intOf]; omega
                    · have d3 : (op == 3) = false := by simp [o3]
                      have tq := tc i hlt
                      obtain ⟨bb, hbb⟩ : ∃ b, b = QQ v i := ⟨_, rfl⟩
                      rw [← hbb] at tq
                      clear hbb tc hYk
                      have HNO0 : Hid (Below w.heap.size w wk) := HNO.out 0 |> Lib.hid
                      by_cases vb : v = i
                      · subst vb
                        by_cases uj : (j : Int) ≤ u
                        · go_wp2_with fail
                          go_ret
                          exact BP.no HNO0.out
                        · have uj2 : u < (j : Int) := by omega
                          cases bb
                          · go_wp2_with fail
                            go_ret
                            exact BP.no HNO0.out
                          · go_wp2_with fail
                            go_roundw
                            case rel => exact ⟨m + 1, by omega, by go_num, HBk⟩
                            case measure => simp [intOf]; omega
                      · have dv : ((v : Int) == (i : Int)) = false := beq_false_of_ne (by omega)
                        cases bb
                        · go_wp2_with fail
                          go_ret
                          exact BP.no HNO0.out
                        · go_wp2_with fail
                          go_roundw
                          case rel => exact ⟨m + 1, by omega, by go_num, HBk⟩
                          case measure => simp [intOf]; omega
                  · have HBx := Lib.hid (HYX.out wk hYk)
                    clear hYk
                    go_wp2_with fail
                    go_roundw
                    case rel => exact ⟨j + 1, by omega, by go_num, HBx⟩
                    case measure => simp [intOf]; omega
              · have h3i := HXW.out wi HBi.out
                have HNO0 : Hid (Below w.heap.size w wi) := Lib.hid (HB0.out _ (HX3.out _ h3i))
                have HBo := Lib.hid h3i
                have hte := Hte.out
                by_cases ta : ka = -1
                · subst ta
                  clear hte h3i
                  go_wp2_with fail
                  go_roundw
                  case rel => exact ⟨i + 1, by omega, by go_num, HBo⟩
                  case measure => simp [intOf]; omega
                · obtain ⟨p, rfl⟩ : ∃ p : Nat, ka = (p : Int) := ⟨ka.toNat, by omega⟩
                  have hpi : p < in_ := by rw [Hil.out]; omega
                  obtain ⟨v, u, hv, v1, -, -, -⟩ := (HWR.out wi h3i).at hpi
                  obtain ⟨-, tv, tc⟩ := (HTB.out wi h3i).2 v hv
                  have tq := tc i hlt
                  obtain ⟨bb, hbb⟩ : ∃ b, b = QQ v i := ⟨_, rfl⟩
                  rw [← hbb] at tq
                  clear hbb tc h3i hte ta
                  cases bb
                  · go_wp2_with fail
                    go_ret
                    exact BP.no HNO0.out
                  · go_wp2_with fail
                    go_roundw
                    case rel => exact ⟨i + 1, by omega, by go_num, HBo⟩
                    case measure => simp [intOf]; omega
          · have HNO0 : Hid (Below w.heap.size w wo) := Lib.hid (HB0.out _ (HX3.out _ HB.out))
            go_wp2_with fail
            go_ret
            exact BP.yes _ HNO0.out trivial
end Go.Proofs.Ythhjhdmdfneegaa
