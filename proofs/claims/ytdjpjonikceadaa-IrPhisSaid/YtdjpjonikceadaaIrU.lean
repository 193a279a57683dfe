/-
  Each block is come to from where blocks go to it.
-/
import Derived.Test.YtdjpjonikceadaaIrT
import Derived.BigQuiet
namespace Go.Proofs.Ytdjpjonikceadaa
open Go.RowKit
set_option linter.unusedVariables false
set_option linter.unusedSimpArgs false

/-- Blocks and one instruction as they lie. -/
structure RdF (w : World) (B g N gi len : Nat) (L P T : Nat → Value) (lL lP lT : Nat → List Int) : Prop where
  hg : g < B
  hgi : gi < B
  cl : ∀ b, b < N → w.cell? ⟨g, b * 5, none⟩ = some (L b)
  cp : ∀ b, b < N → w.cell? ⟨g, b * 5 + 1, none⟩ = some (P b)
  ct : ∀ b, b < N → w.cell? ⟨g, b * 5 + 4, none⟩ = some (T b)
  rl : ∀ b, b < N → RI w B (L b) (lL b) ∧ (lL b).length ≤ 1000
  rp : ∀ b, b < N → RI w B (P b) (lP b) ∧ (lP b).length ≤ 1000
  rt : ∀ b, b < N → RI w B (T b) (lT b) ∧ (lT b).length ≤ 1000
  i0 : w.cell? ⟨gi, 0, none⟩ = some (.int .i64 3)
  i1 : w.cell? ⟨gi, 1, none⟩ = some (.int .i64 0)
  i2 : ∃ A d, w.cell? ⟨gi, 2, none⟩ = some (.slice A len d)
  i3 : w.cell? ⟨gi, 3, none⟩ = some (.int .i64 0)
  i4 : w.cell? ⟨gi, 4, none⟩ = some (.int .i64 0)
theorem RdF.keep {w w' : World} {B g N gi len : Nat} {L P T : Nat → Value} {lL lP lT : Nat → List Int} (h : RdF w B g N gi len L P T lL lP lT) (hb : Below B w w') : RdF w' B g N gi len L P T lL lP lT :=
  ⟨h.hg, h.hgi, fun b hbn => (hb.cell (p := ⟨g, b * 5, none⟩) h.hg).trans (h.cl b hbn), fun b hbn => (hb.cell (p := ⟨g, b * 5 + 1, none⟩) h.hg).trans (h.cp b hbn), fun b hbn => (hb.cell (p := ⟨g, b * 5 + 4, none⟩) h.hg).trans (h.ct b hbn),
    fun b hbn => ⟨(h.rl b hbn).1.keep hb, (h.rl b hbn).2⟩, fun b hbn => ⟨(h.rp b hbn).1.keep hb, (h.rp b hbn).2⟩, fun b hbn => ⟨(h.rt b hbn).1.keep hb, (h.rt b hbn).2⟩,
    (hb.cell (p := ⟨gi, 0, none⟩) h.hgi).trans h.i0, (hb.cell (p := ⟨gi, 1, none⟩) h.hgi).trans h.i1, by obtain ⟨A, d, e⟩ := h.i2; exact ⟨A, d, (hb.cell (p := ⟨gi, 2, none⟩) h.hgi).trans e⟩, (hb.cell (p := ⟨gi, 3, none⟩) h.hgi).trans h.i3, (hb.cell (p := ⟨gi, 4, none⟩) h.hgi).trans h.i4⟩

set_option maxRecDepth 100000 in
set_option maxHeartbeats 16000000 in
theorem fits_true (N g c gi ci len : Nat) (L P T : Nat → Value) (lL lP lT : Nat → List Int) (w : World) (h : RdF w w.heap.size g N gi len L P T lL lP lT) (hN : N ≤ 1000)
    (hT : ∀ b p, b < N → p < N → (lT p).count (b : Int) = (lP b).count (p : Int)) (hPhi : ∀ b, b < N → ∀ x ∈ lL b, x = 0 ∧ len = (lP b).length) (hlen : len ≤ 1000) :
    Calls Try.prog 14 #[.agg #[.string ⟨#[]⟩, .slice none 0 0, .int .i64 0, .slice (some ⟨gi, 0, none⟩) 1 ci, .slice (some ⟨g, 0, none⟩) N c], .bool true] w fun e w' => e = .returned (.bool true) ∧ Below w.heap.size w w' := by
  obtain ⟨W, hW, hbW, hzW, h0⟩ := r_one_al w #[.string ⟨#[]⟩, .slice none 0 0, .int .i64 0, .slice (some ⟨gi, 0, none⟩) 1 ci, .slice (some ⟨g, 0, none⟩) N c] 30
  have hFW := h.keep hbW
  have HW := Lib.hid hW
  have HbW := Lib.hid hbW
  have HzW := Lib.hid hzW
  have H0 := Lib.hid h0
  have HF := Lib.hid hFW
  have HT := Lib.hid hT
  have HPhi := Lib.hid hPhi
  have Hkeep : Hid (∀ wr, Below W.heap.size W wr → RdF wr w.heap.size g N gi len L P T lL lP lT ∧ wr.heap[w.heap.size]? = some (.cells #[.string ⟨#[]⟩, .slice none 0 0, .int .i64 0, .slice (some ⟨gi, 0, none⟩) 1 ci, .slice (some ⟨g, 0, none⟩) N c] 30 (0, 0))) := Lib.hid (fun wr hb => ⟨hFW.keep (hb.mono (by omega)), (hb.block _ (heap_in h0)).trans h0⟩)
  clear hW hbW hzW h0 hFW h hT hPhi
  go_enter Try.func14, Try.ntmps14
  go_upto_region 1 with fail
  rw [← HW.out]
  go_wp2
  go_loopw [5] (fun u5 wr => ∃ b : Nat, b ≤ N ∧ u5 = .int .i64 b ∧ Hid (Below W.heap.size W wr)) (fun u5 _ => N - (intOf u5).toNat)
  case atStart => exact ⟨0, Nat.zero_le _, rfl, Lib.hid (Below.refl _ _)⟩
  case round =>
    obtain ⟨b, hb, rfl, HB⟩ := hrel
    have hk := Hkeep.out wr HB.out
    have x4 := Lib.cell_of_heap hk.2 4
    by_cases hlt : b < N
    · have HR := Lib.hid hk.1
      clear hk
      go_wp2
      go_loopw [6] (fun u6 wr => ∃ p : Nat, p ≤ N ∧ u6 = .int .i64 p ∧ Hid (Below W.heap.size W wr)) (fun u6 _ => N - (intOf u6).toNat)
      case atStart => exact ⟨0, Nat.zero_le _, rfl, HB⟩
      case round =>
        obtain ⟨p, hp, rfl, HB2⟩ := hrel
        have hk2 := Hkeep.out wr HB2.out
        have y4 := Lib.cell_of_heap hk2.2 4
        by_cases hlp : p < N
        · obtain ⟨k, hk⟩ : ∃ k, k = (lT p).count (b : Int) := ⟨_, rfl⟩
          have hk' : k = (lP b).count (p : Int) := hk.trans (HT.out b p hlt hlp)
          have hkl : k ≤ 1000 := by rw [hk]; exact Nat.le_trans List.count_le_length (hk2.1.rt p hlp).2
          have hc1 := counts_any w.heap.size (T p) (lT p) b wr.drew ((hk2.1.rt p hlp).1.keep (w' := wr.drew) ((Below.refl _ _).drew)) (hk2.1.rt p hlp).2
          have hc2 := counts_any w.heap.size (P b) (lP b) p wr.drew ((hk2.1.rp b hlt).1.keep (w' := wr.drew) ((Below.refl _ _).drew)) (hk2.1.rp b hlt).2
          rw [← hk] at hc1
          rw [← hk'] at hc2
          have gd : wr.drew.cell? ⟨w.heap.size, 4, none⟩ = some (.slice (some ⟨g, 0, none⟩) N c) ∧ wr.drew.cell? ⟨g, p * 5 + 4, none⟩ = some (T p) ∧ wr.drew.cell? ⟨g, b * 5 + 1, none⟩ = some (P b) := ⟨y4, hk2.1.ct p hlp, hk2.1.cp b hlt⟩
          have l0 : (p : Int) < N := by omega
          have l1 : (b : Int) < N := by omega
          have HBd : Hid (Below W.heap.size W wr.drew) := Lib.hid HB2.out.drew
          clear hk2 hk hk' HB x4
          go_upto_region 7 with fail
          refine wp_region_noPanic ?_
          refine wp_region_held_drew (S := fun w' => w'.cell? ⟨w.heap.size, 4, none⟩ = some (.slice (some ⟨g, 0, none⟩) N c) ∧ w'.cell? ⟨g, p * 5 + 4, none⟩ = some (T p) ∧ w'.cell? ⟨g, b * 5 + 1, none⟩ = some (P b)) (by kernel_rfl) gd (fun hHeld => ?_)
          refine wpAnyH_take (i := 0) (v := ?_) rfl (by kernel_rfl) (by kernel_rfl) (by kernel_rfl) (fun _ _ _ h => h) (Or.inl ⟨by rfl, ?_⟩) (by assumption) ?_
          rotate_left
          · (intro w hSw; (try dsimp only at hSw); first | (go_simp; done) | (go_simp; with_reducible rfl))
          try simp only [Act.put, List.setIfInBounds_toArray, List.set_cons_zero, List.set_cons_succ]
          refine wpAnyH_take (i := 1) (v := ?_) rfl (by kernel_rfl) (by kernel_rfl) (by kernel_rfl) (fun _ _ _ h => h) (Or.inl ⟨by rfl, ?_⟩) (by assumption) ?_
          rotate_left
          · (intro w hSw; (try dsimp only at hSw); first | (go_simp; done) | (go_simp; with_reducible rfl))
          try simp only [Act.put, List.setIfInBounds_toArray, List.set_cons_zero, List.set_cons_succ]
          refine wpAnyH_take (i := 2) (v := ?_) rfl (by kernel_rfl) (by kernel_rfl) (by kernel_rfl) (fun _ _ _ h => h) (Or.inl ⟨by rfl, ?_⟩) (by assumption) ?_
          rotate_left
          · (intro w hSw; (try dsimp only at hSw); first | (go_simp; done) | (go_simp; with_reducible rfl))
          try simp only [Act.put, List.setIfInBounds_toArray, List.set_cons_zero, List.set_cons_succ]
          refine wpAnyH_take (i := 3) (v := ?_) rfl (by kernel_rfl) (by kernel_rfl) (by kernel_rfl) (fun _ _ _ h => h) (Or.inl ⟨by rfl, ?_⟩) (by assumption) ?_
          rotate_left
          · (intro w hSw; (try dsimp only at hSw); first | (go_simp; done) | (go_simp; with_reducible rfl))
          try simp only [Act.put, List.setIfInBounds_toArray, List.set_cons_zero, List.set_cons_succ]
          refine wpAnyH_take (i := 4) (v := ?_) rfl (by kernel_rfl) (by kernel_rfl) (by kernel_rfl) (fun _ _ _ h => h) (Or.inl ⟨by rfl, ?_⟩) (by assumption) ?_
          rotate_left
          · (intro w hSw; (try dsimp only at hSw); first | (go_simp; done) | (go_simp; with_reducible rfl))
          try simp only [Act.put, List.setIfInBounds_toArray, List.set_cons_zero, List.set_cons_succ]
          refine wpAnyH_take (i := 5) (v := ?_) rfl (by kernel_rfl) (by kernel_rfl) (by kernel_rfl) (fun _ _ _ h => h) (Or.inl ⟨by rfl, ?_⟩) (by assumption) ?_
          rotate_left
          · (intro w hSw; (try dsimp only at hSw); first | (go_simp; done) | (go_simp; with_reducible rfl))
          try simp only [Act.put, List.setIfInBounds_toArray, List.set_cons_zero, List.set_cons_succ]
          refine wpAnyH_take (i := 6) (v := ?_) rfl (by kernel_rfl) (by kernel_rfl) (by kernel_rfl) (fun _ _ _ h => h) (Or.inl ⟨by rfl, ?_⟩) (by assumption) ?_
          rotate_left
          · (intro w hSw; (try dsimp only at hSw); first | (go_simp; done) | (go_simp; with_reducible rfl))
          try simp only [Act.put, List.setIfInBounds_toArray, List.set_cons_zero, List.set_cons_succ]
          refine wpAnyH_take (i := 7) (v := ?_) rfl (by kernel_rfl) (by kernel_rfl) (by kernel_rfl) (fun _ _ _ h => h) (Or.inl ⟨by rfl, ?_⟩) (by assumption) ?_
          rotate_left
          · (intro w hSw; (try dsimp only at hSw); first | (go_simp; done) | (go_simp; with_reducible rfl))
          try simp only [Act.put, List.setIfInBounds_toArray, List.set_cons_zero, List.set_cons_succ]
          refine wpAnyH_take (i := 9) (v := ?_) rfl (by kernel_rfl) (by kernel_rfl) (by kernel_rfl) (fun _ _ _ h => h) (Or.inl ⟨by rfl, ?_⟩) (by assumption) ?_
          rotate_left
          · (intro w hSw; (try dsimp only at hSw); first | (go_simp; done) | (go_simp; with_reducible rfl))
          try simp only [Act.put, List.setIfInBounds_toArray, List.set_cons_zero, List.set_cons_succ]
          refine wpAnyH_take (i := 10) (v := ?_) rfl (by kernel_rfl) (by kernel_rfl) (by kernel_rfl) (fun _ _ _ h => h) (Or.inl ⟨by rfl, ?_⟩) (by assumption) ?_
          rotate_left
          · (intro w hSw; (try dsimp only at hSw); first | (go_simp; done) | (go_simp; with_reducible rfl))
          try simp only [Act.put, List.setIfInBounds_toArray, List.set_cons_zero, List.set_cons_succ]
          refine wpAnyH_take (i := 11) (v := ?_) rfl (by kernel_rfl) (by kernel_rfl) (by kernel_rfl) (fun _ _ _ h => h) (Or.inl ⟨by rfl, ?_⟩) (by assumption) ?_
          rotate_left
          · (intro w hSw; (try dsimp only at hSw); first | (go_simp; done) | (go_simp; with_reducible rfl))
          try simp only [Act.put, List.setIfInBounds_toArray, List.set_cons_zero, List.set_cons_succ]
          refine wpAnyH_take (i := 12) (v := ?_) rfl (by kernel_rfl) (by kernel_rfl) (by kernel_rfl) (fun _ _ _ h => h) (Or.inl ⟨by rfl, ?_⟩) (by assumption) ?_
          rotate_left
          · (intro w hSw; (try dsimp only at hSw); first | (go_simp; done) | (go_simp; with_reducible rfl))
          try simp only [Act.put, List.setIfInBounds_toArray, List.set_cons_zero, List.set_cons_succ]
          refine wpAnyH_take (i := 13) (v := ?_) rfl (by kernel_rfl) (by kernel_rfl) (by kernel_rfl) (fun _ _ _ h => h) (Or.inl ⟨by rfl, ?_⟩) (by assumption) ?_
          rotate_left
          · (intro w hSw; (try dsimp only at hSw); first | (go_simp; done) | (go_simp; with_reducible rfl))
          try simp only [Act.put, List.setIfInBounds_toArray, List.set_cons_zero, List.set_cons_succ]
          refine wpAnyH_take (i := 14) (v := ?_) rfl (by kernel_rfl) (by kernel_rfl) (by kernel_rfl) (fun _ _ _ h => h) (Or.inl ⟨by rfl, ?_⟩) (by assumption) ?_
          rotate_left
          · (intro w hSw; (try dsimp only at hSw); first | (go_simp; done) | (go_simp; with_reducible rfl))
          try simp only [Act.put, List.setIfInBounds_toArray, List.set_cons_zero, List.set_cons_succ]
          refine wpAnyH_take (i := 15) (v := ?_) rfl (by kernel_rfl) (by kernel_rfl) (by kernel_rfl) (fun _ _ _ h => h) (Or.inl ⟨by rfl, ?_⟩) (by assumption) ?_
          rotate_left
          · (intro w hSw; (try dsimp only at hSw); first | (go_simp; done) | (go_simp; with_reducible rfl))
          try simp only [Act.put, List.setIfInBounds_toArray, List.set_cons_zero, List.set_cons_succ]
          refine wpAnyH_ready (rs := [8]) (by kernel_rfl) (by simp) ?_
          refine AllReadyH.cons rfl (fun K hK => ?_) (AllReadyH.nil)
          go_simp
          refine hc1.mono ?_
          rintro e w9 ⟨rfl, rfl⟩
          refine hK.out _ _ ?_ (fun hHeld => ?_)
          · ((try dsimp only); with_reducible exact gd)
          clear hK K
          try simp only [Act.put, List.setIfInBounds_toArray, List.set_cons_zero, List.set_cons_succ]
          refine wpAnyH_ready (rs := [16]) (by kernel_rfl) (by simp) ?_
          refine AllReadyH.cons rfl (fun K hK => ?_) (AllReadyH.nil)
          go_simp
          refine hc2.mono ?_
          rintro e w9 ⟨rfl, rfl⟩
          refine hK.out _ _ ?_ (fun hHeld => ?_)
          · ((try dsimp only); with_reducible exact gd)
          clear hK K
          try simp only [Act.put, List.setIfInBounds_toArray, List.set_cons_zero, List.set_cons_succ]
          refine wpAnyH_take (i := 17) (v := ?_) rfl (by kernel_rfl) (by kernel_rfl) (by kernel_rfl) (fun _ _ _ h => h) (Or.inl ⟨by rfl, ?_⟩) (by assumption) ?_
          rotate_left
          · (intro w hSw; (try dsimp only at hSw); first | (go_simp; done) | (go_simp; with_reducible rfl))
          try simp only [Act.put, List.setIfInBounds_toArray, List.set_cons_zero, List.set_cons_succ]
          refine wpAnyH_done (by kernel_rfl) ?_ _
          refine NoPanic.normal ?_
          clear gd hc1 hc2
          go_simp
          go_wp2
          go_roundw
          case rel => exact ⟨p + 1, by omega, by go_num, HBd⟩
          case measure => simp [intOf]; omega
        · obtain rfl : N = p := by omega
          clear hk2 HB
          go_wp2
          obtain ⟨m, hm⟩ : ∃ m, m = (lL b).length := ⟨_, rfl⟩
          have hk3 := (Hkeep.out wr HB2.out).1
          obtain ⟨⟨AL, cL, hLv, hLr⟩, hLl⟩ := hk3.rl b hlt
          rw [← hm] at hLv hLr hLl
          have hcl := hk3.cl b hlt
          rw [hLv] at hcl
          have Hm := Lib.hid hm
          have HLv := Lib.hid hLv
          clear hm hLv hk3 hLr hcl y4
          go_loopw [7] (fun u7 wr => ∃ i : Nat, i ≤ m ∧ u7 = .int .i64 i ∧ Hid (Below W.heap.size W wr)) (fun u7 _ => m - (intOf u7).toNat)
          case atStart => exact ⟨0, Nat.zero_le _, rfl, HB2⟩
          case round =>
            obtain ⟨i, hi, rfl, HB3⟩ := hrel
            have hk4 := Hkeep.out wr HB3.out
            have v3 := Lib.cell_of_heap hk4.2 3
            have v4 := Lib.cell_of_heap hk4.2 4
            have vl := hk4.1.cl b hlt
            rw [HLv.out] at vl
            by_cases hli : i < m
            · obtain ⟨⟨AL', cL', hLv', hLr'⟩, _⟩ := hk4.1.rl b hlt
              have hil : i < (lL b).length := by rw [← Hm.out]; exact hli
              obtain ⟨lb, hA, hlb, hlc⟩ := hLr' (by omega)
              rw [HLv.out] at hLv'
              injection hLv' with e1 e2 e3
              rw [hA] at e1
              subst e1
              obtain ⟨hx0, hlen2⟩ := HPhi.out b hlt _ (List.getElem_mem hil)
              have vx := hlc i _ (List.getElem?_eq_getElem hil)
              rw [hx0] at vx
              obtain ⟨A2, d2, vi2⟩ := hk4.1.i2
              have gd : wr.drew.cell? ⟨w.heap.size, 3, none⟩ = some (.slice (some ⟨gi, 0, none⟩) 1 ci) ∧ wr.drew.cell? ⟨w.heap.size, 4, none⟩ = some (.slice (some ⟨g, 0, none⟩) N c) ∧ wr.drew.cell? ⟨g, b * 5, none⟩ = some (.slice (some ⟨lb, 0, none⟩) m cL) ∧ wr.drew.cell? ⟨lb, i, none⟩ = some (.int .i64 0) ∧ wr.drew.cell? ⟨gi, 0, none⟩ = some (.int .i64 3) ∧ wr.drew.cell? ⟨gi, 1, none⟩ = some (.int .i64 0) ∧ wr.drew.cell? ⟨gi, 2, none⟩ = some (.slice A2 len d2) ∧ wr.drew.cell? ⟨gi, 3, none⟩ = some (.int .i64 0) ∧ wr.drew.cell? ⟨gi, 4, none⟩ = some (.int .i64 0) := ⟨v3, v4, vl, vx, hk4.1.i0, hk4.1.i1, vi2, hk4.1.i3, hk4.1.i4⟩
              have l1 : (b : Int) < N := by omega
              have l2 : (i : Int) < m := by omega
              obtain ⟨Z, hZ, hbZ, hzZ, hXZ⟩ := r_one_al wr #[.int .i64 0, .int .i64 0, .slice none 0 0, .int .i64 0, .int .i64 0] 38
              have Hlen2 := Lib.hid hlen2
              have hgl := hk4.1.hg
              have hgil := hk4.1.hgi
              have hbx := HB3.out.size
              have hzW := HzW.out
              obtain ⟨X, hX⟩ : ∃ X, X = wr.heap.size := ⟨_, rfl⟩
              rw [← hX] at hXZ
              have gZ : Z.drew.cell? ⟨w.heap.size, 3, none⟩ = some (.slice (some ⟨gi, 0, none⟩) 1 ci) ∧ Z.drew.cell? ⟨w.heap.size, 4, none⟩ = some (.slice (some ⟨g, 0, none⟩) N c) ∧ Z.drew.cell? ⟨g, b * 5, none⟩ = some (.slice (some ⟨lb, 0, none⟩) m cL) ∧ Z.drew.cell? ⟨lb, i, none⟩ = some (.int .i64 0) ∧ Z.drew.cell? ⟨gi, 0, none⟩ = some (.int .i64 3) ∧ Z.drew.cell? ⟨gi, 1, none⟩ = some (.int .i64 0) ∧ Z.drew.cell? ⟨gi, 2, none⟩ = some (.slice A2 len d2) ∧ Z.drew.cell? ⟨gi, 3, none⟩ = some (.int .i64 0) ∧ Z.drew.cell? ⟨gi, 4, none⟩ = some (.int .i64 0) := ⟨(hbZ.cell (p := ⟨w.heap.size, 3, none⟩) (by show w.heap.size < _; omega)).trans gd.1, (hbZ.cell (p := ⟨w.heap.size, 4, none⟩) (by show w.heap.size < _; omega)).trans gd.2.1, (hbZ.cell (p := ⟨g, b * 5, none⟩) (by show g < _; omega)).trans gd.2.2.1, (hbZ.cell (p := ⟨lb, i, none⟩) (by show lb < _; omega)).trans gd.2.2.2.1, (hbZ.cell (p := ⟨gi, 0, none⟩) (by show gi < _; omega)).trans gd.2.2.2.2.1, (hbZ.cell (p := ⟨gi, 1, none⟩) (by show gi < _; omega)).trans gd.2.2.2.2.2.1, (hbZ.cell (p := ⟨gi, 2, none⟩) (by show gi < _; omega)).trans gd.2.2.2.2.2.2.1, (hbZ.cell (p := ⟨gi, 3, none⟩) (by show gi < _; omega)).trans gd.2.2.2.2.2.2.2.1, (hbZ.cell (p := ⟨gi, 4, none⟩) (by show gi < _; omega)).trans gd.2.2.2.2.2.2.2.2⟩
              obtain ⟨w4, hw4⟩ : ∃ w4, w4 = put5 Z X (.int .i64 3) (.int .i64 0) (.slice A2 len d2) (.int .i64 0) (.int .i64 0) := ⟨_, rfl⟩
              have hX4 : w4.heap[X]? = some (.cells #[.int .i64 3, .int .i64 0, .slice A2 len d2, .int .i64 0, .int .i64 0] 38 (0, 0)) := by rw [hw4]; exact put5_at hXZ _ _ _ _ _
              have hbu4 : Bu X Z w4 := by rw [hw4]; exact put5_bu _ _ _ _ _
              obtain ⟨w5, hw5⟩ : ∃ w5, w5 = w4.drew := ⟨_, rfl⟩
              have hX5 : w5.heap[X]? = some (.cells #[.int .i64 3, .int .i64 0, .slice A2 len d2, .int .i64 0, .int .i64 0] 38 (0, 0)) := by rw [hw5]; exact hX4
              have hbu5 : Bu X Z w5 := by rw [hw5]; exact hbu4.drew
              have hXe : wr.heap.size = X := hX.symm
              have hb5 : Below W.heap.size W w5 := hbu5.below (HB3.out.trans (hbZ.mono hbx)) (by omega) (by omega)
              obtain ⟨z0, z1, z2, z3, z4, zf⟩ := cells5 hXZ
              have y0 : Z.drew.cell? ⟨X, 0, none⟩ = some (.int .i64 0) := z0
              have y1 : Z.drew.cell? ⟨X, 1, none⟩ = some (.int .i64 0) := z1
              have y2 : Z.drew.cell? ⟨X, 2, none⟩ = some (.slice none 0 0) := z2
              have y3 : Z.drew.cell? ⟨X, 3, none⟩ = some (.int .i64 0) := z3
              have y4 : Z.drew.cell? ⟨X, 4, none⟩ = some (.int .i64 0) := z4
              have yf : ∀ j, Z.drew.frozen? ⟨X, j, none⟩ = false := zf
              have hk5 := Hkeep.out w5 hb5
              obtain ⟨⟨AP, cP, hPv, _⟩, _⟩ := hk5.1.rp b hlt
              have vp5 := hk5.1.cp b hlt
              rw [hPv] at vp5
              obtain ⟨A5, d5, vi5⟩ := hk5.1.i2
              obtain ⟨⟨AL5, cL5, hLv5, hLr5⟩, _⟩ := hk5.1.rl b hlt
              obtain ⟨lb5, hA5, hlb5, hlc5⟩ := hLr5 (by omega)
              have g5 : w5.cell? ⟨w.heap.size, 3, none⟩ = some (.slice (some ⟨gi, 0, none⟩) 1 ci) ∧ w5.cell? ⟨w.heap.size, 4, none⟩ = some (.slice (some ⟨g, 0, none⟩) N c) ∧ w5.cell? ⟨g, b * 5, none⟩ = some (.slice (some ⟨lb, 0, none⟩) m cL) ∧ w5.cell? ⟨lb, i, none⟩ = some (.int .i64 0) ∧ w5.cell? ⟨gi, 0, none⟩ = some (.int .i64 3) ∧ w5.cell? ⟨gi, 1, none⟩ = some (.int .i64 0) ∧ w5.cell? ⟨gi, 2, none⟩ = some (.slice A2 len d2) ∧ w5.cell? ⟨gi, 3, none⟩ = some (.int .i64 0) ∧ w5.cell? ⟨gi, 4, none⟩ = some (.int .i64 0) := by
                have kk : ∀ q : Addr, q.block < w.heap.size + 1 → w5.cell? q = Z.drew.cell? q := fun q hq => hbu5.cell (by omega) (by omega)
                exact ⟨(kk _ (by show w.heap.size < _; omega)).trans gZ.1, (kk _ (by show w.heap.size < _; omega)).trans gZ.2.1, (kk _ (by show g < _; omega)).trans gZ.2.2.1, (kk _ (by show lb < _; omega)).trans gZ.2.2.2.1, (kk _ (by show gi < _; omega)).trans gZ.2.2.2.2.1, (kk _ (by show gi < _; omega)).trans gZ.2.2.2.2.2.1, (kk _ (by show gi < _; omega)).trans gZ.2.2.2.2.2.2.1, (kk _ (by show gi < _; omega)).trans gZ.2.2.2.2.2.2.2.1, (kk _ (by show gi < _; omega)).trans gZ.2.2.2.2.2.2.2.2⟩
              have ge : w5.drew.cell? ⟨w.heap.size, 4, none⟩ = some (.slice (some ⟨g, 0, none⟩) N c) ∧ w5.drew.cell? ⟨g, b * 5 + 1, none⟩ = some (.slice AP (lP b).length cP) ∧ w5.drew.cell? ⟨X, 0, none⟩ = some (.int .i64 3) ∧ w5.drew.cell? ⟨X, 2, none⟩ = some (.slice A2 len d2) := ⟨Lib.cell_of_heap hk5.2 4, vp5, Lib.cell_of_heap hX5 0, Lib.cell_of_heap hX5 2⟩
              have HB5 : Hid (∀ n, Below W.heap.size W (w5.drewN n)) := Lib.hid (fun n => hb5.trans ⟨rfl, rfl, rfl, Nat.le_refl _, fun _ _ => rfl⟩)
              have Hlen2 := Lib.hid hlen2
              have HZ := Lib.hid hZ
              have HX := Lib.hid hX
              rw [hw4] at hw5
              unfold put5 at hw5
              have Hw5 := Lib.hid hw5
              clear hw4 hX4 hbu4 hXe hk4 hLr' hA hlb hlc hx0 vx e2 e3 HB2 HB3 hZ hbZ hzZ hXZ v3 hw5 hX5 hbu5 hb5 hk5 hPv vp5 vi5 hLv5 hLr5 hA5 hlb5 hlc5 hgl hgil hbx hzW hX hlen2
              go_upto_region 12 with fail
              refine wp_region_noPanic ?_
              refine wp_region_held_drew (S := fun w' => w'.cell? ⟨w.heap.size, 3, none⟩ = some (.slice (some ⟨gi, 0, none⟩) 1 ci) ∧ w'.cell? ⟨w.heap.size, 4, none⟩ = some (.slice (some ⟨g, 0, none⟩) N c) ∧ w'.cell? ⟨g, b * 5, none⟩ = some (.slice (some ⟨lb, 0, none⟩) m cL) ∧ w'.cell? ⟨lb, i, none⟩ = some (.int .i64 0) ∧ w'.cell? ⟨gi, 0, none⟩ = some (.int .i64 3) ∧ w'.cell? ⟨gi, 1, none⟩ = some (.int .i64 0) ∧ w'.cell? ⟨gi, 2, none⟩ = some (.slice A2 len d2) ∧ w'.cell? ⟨gi, 3, none⟩ = some (.int .i64 0) ∧ w'.cell? ⟨gi, 4, none⟩ = some (.int .i64 0)) (by kernel_rfl) gd (fun hHeld => ?_)
              refine wpAnyH_take (i := 0) (v := ?_) rfl (by kernel_rfl) (by kernel_rfl) (by kernel_rfl) (fun _ _ _ h => h) (Or.inl ⟨by rfl, ?_⟩) (by assumption) ?_
              rotate_left
              · (intro w hSw; (try dsimp only at hSw); first | (go_simp; done) | (go_simp; with_reducible rfl))
              try simp only [Act.put, List.setIfInBounds_toArray, List.set_cons_zero, List.set_cons_succ]
              refine wpAnyH_take (i := 1) (v := ?_) rfl (by kernel_rfl) (by kernel_rfl) (by kernel_rfl) (fun _ _ _ h => h) (Or.inl ⟨by rfl, ?_⟩) (by assumption) ?_
              rotate_left
              · (intro w hSw; (try dsimp only at hSw); first | (go_simp; done) | (go_simp; with_reducible rfl))
              try simp only [Act.put, List.setIfInBounds_toArray, List.set_cons_zero, List.set_cons_succ]
              refine wpAnyH_take (i := 2) (v := ?_) rfl (by kernel_rfl) (by kernel_rfl) (by kernel_rfl) (fun _ _ _ h => h) (Or.inl ⟨by rfl, ?_⟩) (by assumption) ?_
              rotate_left
              · (intro w hSw; (try dsimp only at hSw); first | (go_simp; done) | (go_simp; with_reducible rfl))
              try simp only [Act.put, List.setIfInBounds_toArray, List.set_cons_zero, List.set_cons_succ]
              refine wpAnyH_take (i := 3) (v := ?_) rfl (by kernel_rfl) (by kernel_rfl) (by kernel_rfl) (fun _ _ _ h => h) (Or.inl ⟨by rfl, ?_⟩) (by assumption) ?_
              rotate_left
              · (intro w hSw; (try dsimp only at hSw); first | (go_simp; done) | (go_simp; with_reducible rfl))
              try simp only [Act.put, List.setIfInBounds_toArray, List.set_cons_zero, List.set_cons_succ]
              refine wpAnyH_take (i := 4) (v := ?_) rfl (by kernel_rfl) (by kernel_rfl) (by kernel_rfl) (fun _ _ _ h => h) (Or.inl ⟨by rfl, ?_⟩) (by assumption) ?_
              rotate_left
              · (intro w hSw; (try dsimp only at hSw); first | (go_simp; done) | (go_simp; with_reducible rfl))
              try simp only [Act.put, List.setIfInBounds_toArray, List.set_cons_zero, List.set_cons_succ]
              refine wpAnyH_take (i := 5) (v := ?_) rfl (by kernel_rfl) (by kernel_rfl) (by kernel_rfl) (fun _ _ _ h => h) (Or.inl ⟨by rfl, ?_⟩) (by assumption) ?_
              rotate_left
              · (intro w hSw; (try dsimp only at hSw); first | (go_simp; done) | (go_simp; with_reducible rfl))
              try simp only [Act.put, List.setIfInBounds_toArray, List.set_cons_zero, List.set_cons_succ]
              refine wpAnyH_take (i := 6) (v := ?_) rfl (by kernel_rfl) (by kernel_rfl) (by kernel_rfl) (fun _ _ _ h => h) (Or.inl ⟨by rfl, ?_⟩) (by assumption) ?_
              rotate_left
              · (intro w hSw; (try dsimp only at hSw); first | (go_simp; done) | (go_simp; with_reducible rfl))
              try simp only [Act.put, List.setIfInBounds_toArray, List.set_cons_zero, List.set_cons_succ]
              refine wpAnyH_take (i := 7) (v := ?_) rfl (by kernel_rfl) (by kernel_rfl) (by kernel_rfl) (fun _ _ _ h => h) (Or.inl ⟨by rfl, ?_⟩) (by assumption) ?_
              rotate_left
              · (intro w hSw; (try dsimp only at hSw); first | (go_simp; done) | (go_simp; with_reducible rfl))
              try simp only [Act.put, List.setIfInBounds_toArray, List.set_cons_zero, List.set_cons_succ]
              refine wpAnyH_take (i := 8) (v := ?_) rfl (by kernel_rfl) (by kernel_rfl) (by kernel_rfl) (fun _ _ _ h => h) (Or.inl ⟨by rfl, ?_⟩) (by assumption) ?_
              rotate_left
              · (intro w hSw; (try dsimp only at hSw); first | (go_simp; done) | (go_simp; with_reducible rfl))
              try simp only [Act.put, List.setIfInBounds_toArray, List.set_cons_zero, List.set_cons_succ]
              refine wpAnyH_take (i := 9) (v := ?_) rfl (by kernel_rfl) (by kernel_rfl) (by kernel_rfl) (fun _ _ _ h => h) (Or.inl ⟨by rfl, ?_⟩) (by assumption) ?_
              rotate_left
              · (intro w hSw; (try dsimp only at hSw); first | (go_simp; done) | (go_simp; with_reducible rfl))
              try simp only [Act.put, List.setIfInBounds_toArray, List.set_cons_zero, List.set_cons_succ]
              refine wpAnyH_take (i := 10) (v := ?_) rfl (by kernel_rfl) (by kernel_rfl) (by kernel_rfl) (fun _ _ _ h => h) (Or.inl ⟨by rfl, ?_⟩) (by assumption) ?_
              rotate_left
              · (intro w hSw; (try dsimp only at hSw); first | (go_simp; done) | (go_simp; with_reducible rfl))
              try simp only [Act.put, List.setIfInBounds_toArray, List.set_cons_zero, List.set_cons_succ]
              refine wpAnyH_take (i := 11) (v := ?_) rfl (by kernel_rfl) (by kernel_rfl) (by kernel_rfl) (fun _ _ _ h => h) (Or.inl ⟨by rfl, ?_⟩) (by assumption) ?_
              rotate_left
              · (intro w hSw; (try dsimp only at hSw); first | (go_simp; done) | (go_simp; with_reducible rfl))
              try simp only [Act.put, List.setIfInBounds_toArray, List.set_cons_zero, List.set_cons_succ]
              refine wpAnyH_take (i := 12) (v := ?_) rfl (by kernel_rfl) (by kernel_rfl) (by kernel_rfl) (fun _ _ _ h => h) (Or.inl ⟨by rfl, ?_⟩) (by assumption) ?_
              rotate_left
              · (intro w hSw; (try dsimp only at hSw); first | (go_simp; done) | (go_simp; with_reducible rfl))
              try simp only [Act.put, List.setIfInBounds_toArray, List.set_cons_zero, List.set_cons_succ]
              refine wpAnyH_ready (rs := [13]) (by kernel_rfl) (by simp) ?_
              refine AllReadyH.cons rfl (fun K hK => ?_) (AllReadyH.nil)
              go_simp
              rw [← HZ.out, ← HX.out]
              refine hK.out _ _ ?_ (fun hHeld => ?_)
              · ((try dsimp only); first | with_reducible exact gd | with_reducible exact gZ | with_reducible exact g5)
              clear hK K
              try simp only [Act.put, List.setIfInBounds_toArray, List.set_cons_zero, List.set_cons_succ]
              refine wpAnyH_ready (rs := [14]) (by kernel_rfl) (by simp) ?_
              refine AllReadyH.cons rfl (fun K hK => ?_) (AllReadyH.nil)
              go_simp
              rw [← Hw5.out]
              refine hK.out _ _ ?_ (fun hHeld => ?_)
              · ((try dsimp only); first | with_reducible exact gd | with_reducible exact gZ | with_reducible exact g5)
              clear hK K
              try simp only [Act.put, List.setIfInBounds_toArray, List.set_cons_zero, List.set_cons_succ]
              refine wpAnyH_done (by kernel_rfl) ?_ _
              refine NoPanic.normal ?_
              clear gd gZ g5 y0 y1 y2 y3 y4 yf z0 z1 z2 z3 z4 zf Hw5 HZ HX v4 vl vi2
              go_upto_region 13 with fail
              obtain ⟨s4, sp, s0, s2⟩ := ge
              have t4 : w5.cell? ⟨w.heap.size, 4, none⟩ = some (.slice (some ⟨g, 0, none⟩) N c) := s4
              have tp : w5.cell? ⟨g, b * 5 + 1, none⟩ = some (.slice AP (lP b).length cP) := sp
              have t0 : w5.cell? ⟨X, 0, none⟩ = some (.int .i64 3) := s0
              have t2 : w5.cell? ⟨X, 2, none⟩ = some (.slice A2 len d2) := s2
              have hne : (((len : Nat) : Int) != (((lP b).length : Nat) : Int)) = false := by rw [Hlen2.out]; simp
              go_quiet (fail)
              go_wp2
              go_roundw
              case rel => exact ⟨i + 1, by omega, by go_num, Lib.hid (HB5.out _)⟩
              case measure => simp [intOf]; omega
            · obtain rfl : i = m := by omega
              clear hk4
              go_wp2
              go_roundw
              case rel => exact ⟨b + 1, by omega, by go_num, HB3⟩
              case measure => simp [intOf]; omega
    · obtain rfl : b = N := by omega
      clear hk
      go_wp2
      go_ret
      exact ⟨rfl, HbW.out.trans (HB.out.mono HbW.out.size)⟩

end Go.Proofs.Ytdjpjonikceadaa
