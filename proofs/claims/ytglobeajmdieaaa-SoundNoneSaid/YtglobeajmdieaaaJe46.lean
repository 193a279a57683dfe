/-
  Programs that may be: uses, where it says yes.
-/
import Derived.Test.YtglobeajmdieaaaJe35
import Derived.Test.YtglobeajmdieaaaJe45
namespace Go.Proofs.Ytglobeajmdieaaa
set_option linter.unusedVariables false
set_option linter.unusedSimpArgs false
open Go.RowKit Go.Sort

theorem so_drewN (w : World) (q : Nat) : Below w.heap.size w (w.drewN q) := ⟨rfl, rfl, rfl, Nat.le_refl _, fun _ _ => rfl⟩
def predsOf (bl : List SB) (b : Int) : List Int := ((bl[b.toNat]?).map SB.preds).getD []
def useOne (f : SF) (P Q : List Int) (T : TrP) (id op : Int) (i : Nat) (a : Int) : Bool :=
  decide (0 ≤ a ∧ a < f.ins.length) && (if op = 3 then decide (0 ≤ P.getD id.toNat 0 ∧ P.getD id.toNat 0 < f.blocks.length ∧ i < (predsOf f.blocks (P.getD id.toNat 0)).length) && overT T (P.getD a.toNat 0) ((predsOf f.blocks (P.getD id.toNat 0)).getD i 0)
    else if P.getD a.toNat 0 = P.getD id.toNat 0 then decide (Q.getD a.toNat 0 < Q.getD id.toNat 0) else overT T (P.getD a.toNat 0) (P.getD id.toNat 0))
def useRow (f : SF) (P Q : List Int) (T : TrP) (id op : Int) : Nat → List Int → Bool
  | _, [] => true
  | i, a :: rs => useOne f P Q T id op i a && useRow f P Q T id op (i + 1) rs
set_option maxRecDepth 100000 in
set_option maxHeartbeats 8000000 in
theorem uses_t (n0 sb : Nat) (V : SV) (fs : List SF) (f : SF) (wz : World) (ib ab n : Nat) (P Q : List Int) (tp tn : Nat) (T : TrP) (k : Nat) (w : World) (h : Lst n0 sb V fs f wz ib ab n P Q w) (hT : TreeAt w tp tn T) (hn : n = f.ins.length) (hk : k < n) (hab : (((f.ins[k]?).map SIn.args).getD []).length ≤ 1048576) (hm : useRow f P Q T (k : Int) (opOf f.ins (k : Int)) 0 (((f.ins[k]?).map SIn.args).getD []) = true) :
    Calls Try.prog 42 #[.pointer (some ⟨sb, 0, none⟩), .pointer (some ⟨tp, 0, none⟩), .int .i64 (k : Int)] w fun e w' => e = .returned (.bool true) ∧ Below w.heap.size w w' := by
  obtain ⟨inn, hin⟩ : ∃ inn, V.in_ = inn := ⟨_, rfl⟩
  obtain ⟨bA, hbA⟩ : ∃ bA, V.bA = bA := ⟨_, rfl⟩
  obtain ⟨bn, hbn⟩ : ∃ bn, V.bn = bn := ⟨_, rfl⟩
  obtain ⟨bc, hbc⟩ : ∃ bc, V.bc = bc := ⟨_, rfl⟩
  obtain ⟨iA, hiA⟩ : ∃ iA, V.iA = iA := ⟨_, rfl⟩
  obtain ⟨ic, hic⟩ : ∃ ic, V.ic = ic := ⟨_, rfl⟩
  have hil : inn = n := by rw [hn]; exact hin ▸ h.s.il
  subst hil
  have hbb : bn ≤ 1048576 := hbn ▸ h.s.bb
  have hib : inn ≤ 1048576 := hin ▸ h.s.ib
  have hbl : bn = f.blocks.length := hbn ▸ h.s.bl
  have HV : Hid (∀ A, Below w.heap.size w A → A.cell? ⟨sb, 5, none⟩ = some (.slice iA inn ic) ∧ A.cell? ⟨sb, 6, none⟩ = some (.slice bA bn bc) ∧ A.cell? ⟨sb, 7, none⟩ = some (.slice (some ⟨ib, 0, none⟩) inn inn) ∧ A.cell? ⟨sb, 8, none⟩ = some (.slice (some ⟨ab, 0, none⟩) inn inn)) := Lib.hid fun A hA => by
    rw [← hbA, ← hbn, ← hbc, ← hiA, ← hin, ← hic, hin]
    exact ⟨by rw [← hin]; exact Lib.cell_of_heap (h.keep hA).s.c 5, Lib.cell_of_heap (h.keep hA).s.c 6, (h.keep hA).c7, (h.keep hA).c8⟩
  have HR : Hid (∀ A, Below w.heap.size w A → SBs n0 A (.slice bA bn bc) f.blocks ∧ SIs n0 A (.slice iA inn ic) f.ins ∧ n0 ≤ A.heap.size ∧ IRow A ib P ∧ IRow A ab Q ∧ TreeAt A tp tn T) := Lib.hid fun A hA => by
    rw [← hbA, ← hbn, ← hbc, ← hiA, ← hin, ← hic]
    exact ⟨(h.keep hA).s.br, (h.keep hA).s.ir, (h.keep hA).s.hn, (h.keep hA).ip, (h.keep hA).iq, hT.keep hA⟩
  have hkl : k < f.ins.length := by omega
  have hbd : Below w.heap.size w w.drew := (Below.refl _ _).drew
  obtain ⟨gb, o, aA, ac, rfl, -, n1, n2, n3, n4, n5, hg⟩ := (HR.out _ hbd).2.1.at hkl
  obtain ⟨d, hd⟩ : ∃ d, d = f.ins[k] := ⟨_, rfl⟩
  rw [← hd] at n1 n2 n3 n4 n5 hg
  obtain ⟨b, hb⟩ : ∃ b, b = P.getD k 0 := ⟨_, rfl⟩
  have m1 := (HR.out _ hbd).2.2.2.1.cell (j := k) (by have := h.lp; omega)
  rw [← hb] at m1
  obtain ⟨v5, v6, v7, v8⟩ := HV.out _ hbd
  have hs0 : w.drew.cell? ⟨sb, 5, none⟩ = some (.slice (some ⟨gb, o, none⟩) inn ic) ∧ w.drew.cell? ⟨sb, 7, none⟩ = some (.slice (some ⟨ib, 0, none⟩) inn inn) ∧ w.drew.cell? ⟨gb, o + k * 5, none⟩ = some (.int .i64 d.op) ∧ w.drew.cell? ⟨gb, o + k * 5 + 1, none⟩ = some (.int .i64 d.ty) ∧ w.drew.cell? ⟨gb, o + k * 5 + 2, none⟩ = some (.slice aA d.args.length ac) ∧ w.drew.cell? ⟨gb, o + k * 5 + 3, none⟩ = some (.int .i64 d.n) ∧ w.drew.cell? ⟨gb, o + k * 5 + 4, none⟩ = some (.int .i64 d.to_) ∧ w.drew.cell? ⟨ib, k, none⟩ = some (.int .i64 b) := ⟨v5, v7, n1, n2, n3, n4, n5, m1⟩
  clear v5 v6 v7 v8 n1 n2 n3 n4 n5 m1
  have Hd := Lib.hid hd
  have Hb := Lib.hid hb
  have HS : Hid (∀ A, Below w.heap.size w A → A.cell? ⟨sb, 5, none⟩ = some (.slice (some ⟨gb, o, none⟩) inn ic) ∧ A.cell? ⟨sb, 7, none⟩ = some (.slice (some ⟨ib, 0, none⟩) inn inn) ∧ A.cell? ⟨gb, o + k * 5, none⟩ = some (.int .i64 d.op) ∧ A.cell? ⟨gb, o + k * 5 + 1, none⟩ = some (.int .i64 d.ty) ∧ A.cell? ⟨gb, o + k * 5 + 2, none⟩ = some (.slice aA d.args.length ac) ∧ A.cell? ⟨gb, o + k * 5 + 3, none⟩ = some (.int .i64 d.n) ∧ A.cell? ⟨gb, o + k * 5 + 4, none⟩ = some (.int .i64 d.to_) ∧ A.cell? ⟨ib, k, none⟩ = some (.int .i64 b)) := Lib.hid fun A hA => by
    obtain ⟨g1, g2, g3, g4, g5, g6, g7, g8⟩ := hs0
    have K : ∀ {x : Addr} {v : Value}, w.drew.cell? x = some v → A.cell? x = some v := fun {x v} hx => (hA.cell (gr_clt hx)).trans hx
    exact ⟨K g1, K g2, K g3, K g4, K g5, K g6, K g7, K g8⟩
  have hxa : ((f.ins[k]?).map SIn.args).getD [] = d.args := by rw [hd, List.getElem?_eq_getElem hkl]; rfl
  rw [hxa] at hm hab
  rw [opOf_at hkl, ← hd] at hm
  have Hm := Lib.hid hm
  have HL := Lib.hid h
  have HG : Hid (∀ A, Below w.heap.size w A → GNs n0 A (.slice aA d.args.length ac) d.args) := Lib.hid fun A hA => hg.keep (w := w.drew) (Below.mono (B := w.heap.size) ⟨hA.os, hA.tape, hA.output, hA.size, hA.block⟩ (HR.out w (Below.refl _ _)).2.2.1)
  have Hn := Lib.hid hn
  have Hbl := Lib.hid hbl
  clear hd hb hxa hm h hT hg hn hbd hbA hbn hbc hiA hic hin hbl
  go_enter Try.func42, Try.ntmps42
  go_upto_region 1 with fail
  refine wp_region_noPanic ?_
  refine wp_region_held_drew (S := fun A : World => A.cell? ⟨sb, 5, none⟩ = some (.slice (some ⟨gb, o, none⟩) inn ic) ∧ A.cell? ⟨sb, 7, none⟩ = some (.slice (some ⟨ib, 0, none⟩) inn inn) ∧ A.cell? ⟨gb, o + k * 5, none⟩ = some (.int .i64 d.op) ∧ A.cell? ⟨gb, o + k * 5 + 1, none⟩ = some (.int .i64 d.ty) ∧ A.cell? ⟨gb, o + k * 5 + 2, none⟩ = some (.slice aA d.args.length ac) ∧ A.cell? ⟨gb, o + k * 5 + 3, none⟩ = some (.int .i64 d.n) ∧ A.cell? ⟨gb, o + k * 5 + 4, none⟩ = some (.int .i64 d.to_) ∧ A.cell? ⟨ib, k, none⟩ = some (.int .i64 b)) (by kernel_rfl) hs0 (fun hHeld => ?_)
  refine wpAnyH_take (i := 0) (v := ?_) rfl (by kernel_rfl) (by kernel_rfl) (by kernel_rfl) (fun _ _ _ h => h) (Or.inl ⟨by kernel_rfl, ?_⟩) (by assumption) ?_
  rotate_left
  · (intro w hSw; (try dsimp only at hSw); first | (go_simp; done) | (go_simp; with_reducible rfl))
  try simp only [Act.put, List.setIfInBounds_toArray, List.set_cons_zero, List.set_cons_succ]
  refine wpAnyH_take (i := 1) (v := ?_) rfl (by kernel_rfl) (by kernel_rfl) (by kernel_rfl) (fun _ _ _ h => h) (Or.inl ⟨by kernel_rfl, ?_⟩) (by assumption) ?_
  rotate_left
  · (intro w hSw; (try dsimp only at hSw); first | (go_simp; done) | (go_simp; with_reducible rfl))
  try simp only [Act.put, List.setIfInBounds_toArray, List.set_cons_zero, List.set_cons_succ]
  refine wpAnyH_take (i := 2) (v := ?_) rfl (by kernel_rfl) (by kernel_rfl) (by kernel_rfl) (fun _ _ _ h => h) (Or.inl ⟨by kernel_rfl, ?_⟩) (by assumption) ?_
  rotate_left
  · (intro w hSw; (try dsimp only at hSw); first | (go_simp; done) | (go_simp; with_reducible rfl))
  try simp only [Act.put, List.setIfInBounds_toArray, List.set_cons_zero, List.set_cons_succ]
  refine wpAnyH_take (i := 3) (v := ?_) rfl (by kernel_rfl) (by kernel_rfl) (by kernel_rfl) (fun _ _ _ h => h) (Or.inl ⟨by kernel_rfl, ?_⟩) (by assumption) ?_
  rotate_left
  · (intro w hSw; (try dsimp only at hSw); first | (go_simp; done) | (go_simp; with_reducible rfl))
  try simp only [Act.put, List.setIfInBounds_toArray, List.set_cons_zero, List.set_cons_succ]
  refine wpAnyH_take (i := 4) (v := ?_) rfl (by kernel_rfl) (by kernel_rfl) (by kernel_rfl) (fun _ _ _ h => h) (Or.inl ⟨by kernel_rfl, ?_⟩) (by assumption) ?_
  rotate_left
  · (intro w hSw; (try dsimp only at hSw); first | (go_simp; done) | (go_simp; with_reducible rfl))
  try simp only [Act.put, List.setIfInBounds_toArray, List.set_cons_zero, List.set_cons_succ]
  refine wpAnyH_take (i := 5) (v := ?_) rfl (by kernel_rfl) (by kernel_rfl) (by kernel_rfl) (fun _ _ _ h => h) (Or.inl ⟨by kernel_rfl, ?_⟩) (by assumption) ?_
  rotate_left
  · (intro w hSw; (try dsimp only at hSw); first | (go_simp; done) | (go_simp; with_reducible rfl))
  try simp only [Act.put, List.setIfInBounds_toArray, List.set_cons_zero, List.set_cons_succ]
  refine wpAnyH_take (i := 6) (v := ?_) rfl (by kernel_rfl) (by kernel_rfl) (by kernel_rfl) (fun _ _ _ h => h) (Or.inl ⟨by kernel_rfl, ?_⟩) (by assumption) ?_
  rotate_left
  · (intro w hSw; (try dsimp only at hSw); first | (go_simp; done) | (go_simp; with_reducible rfl))
  try simp only [Act.put, List.setIfInBounds_toArray, List.set_cons_zero, List.set_cons_succ]
  refine wpAnyH_take (i := 7) (v := ?_) rfl (by kernel_rfl) (by kernel_rfl) (by kernel_rfl) (fun _ _ _ h => h) (Or.inl ⟨by kernel_rfl, ?_⟩) (by assumption) ?_
  rotate_left
  · (intro w hSw; (try dsimp only at hSw); first | (go_simp; done) | (go_simp; with_reducible rfl))
  try simp only [Act.put, List.setIfInBounds_toArray, List.set_cons_zero, List.set_cons_succ]
  refine wpAnyH_take (i := 8) (v := ?_) rfl (by kernel_rfl) (by kernel_rfl) (by kernel_rfl) (fun _ _ _ h => h) (Or.inl ⟨by kernel_rfl, ?_⟩) (by assumption) ?_
  rotate_left
  · (intro w hSw; (try dsimp only at hSw); first | (go_simp; done) | (go_simp; with_reducible rfl))
  try simp only [Act.put, List.setIfInBounds_toArray, List.set_cons_zero, List.set_cons_succ]
  refine wpAnyH_take (i := 9) (v := ?_) rfl (by kernel_rfl) (by kernel_rfl) (by kernel_rfl) (fun _ _ _ h => h) (Or.inl ⟨by kernel_rfl, ?_⟩) (by assumption) ?_
  rotate_left
  · (intro w hSw; (try dsimp only at hSw); first | (go_simp; done) | (go_simp; with_reducible rfl))
  try simp only [Act.put, List.setIfInBounds_toArray, List.set_cons_zero, List.set_cons_succ]
  refine wpAnyH_take (i := 10) (v := ?_) rfl (by kernel_rfl) (by kernel_rfl) (by kernel_rfl) (fun _ _ _ h => h) (Or.inl ⟨by kernel_rfl, ?_⟩) (by assumption) ?_
  rotate_left
  · (intro w hSw; (try dsimp only at hSw); first | (go_simp; done) | (go_simp; with_reducible rfl))
  try simp only [Act.put, List.setIfInBounds_toArray, List.set_cons_zero, List.set_cons_succ]
  refine wpAnyH_take (i := 11) (v := ?_) rfl (by kernel_rfl) (by kernel_rfl) (by kernel_rfl) (fun _ _ _ h => h) (Or.inl ⟨by kernel_rfl, ?_⟩) (by assumption) ?_
  rotate_left
  · (intro w hSw; (try dsimp only at hSw); first | (go_simp; done) | (go_simp; with_reducible rfl))
  try simp only [Act.put, List.setIfInBounds_toArray, List.set_cons_zero, List.set_cons_succ]
  refine wpAnyH_take (i := 12) (v := ?_) rfl (by kernel_rfl) (by kernel_rfl) (by kernel_rfl) (fun _ _ _ h => h) (Or.inl ⟨by kernel_rfl, ?_⟩) (by assumption) ?_
  rotate_left
  · (intro w hSw; (try dsimp only at hSw); first | (go_simp; done) | (go_simp; with_reducible rfl))
  try simp only [Act.put, List.setIfInBounds_toArray, List.set_cons_zero, List.set_cons_succ]
  refine wpAnyH_take (i := 13) (v := ?_) rfl (by kernel_rfl) (by kernel_rfl) (by kernel_rfl) (fun _ _ _ h => h) (Or.inl ⟨by kernel_rfl, ?_⟩) (by assumption) ?_
  rotate_left
  · (intro w hSw; (try dsimp only at hSw); first | (go_simp; done) | (go_simp; with_reducible rfl))
  try simp only [Act.put, List.setIfInBounds_toArray, List.set_cons_zero, List.set_cons_succ]
  refine wpAnyH_take (i := 14) (v := ?_) rfl (by kernel_rfl) (by kernel_rfl) (by kernel_rfl) (fun _ _ _ h => h) (Or.inl ⟨by kernel_rfl, ?_⟩) (by assumption) ?_
  rotate_left
  · (intro w hSw; (try dsimp only at hSw); first | (go_simp; done) | (go_simp; with_reducible rfl))
  try simp only [Act.put, List.setIfInBounds_toArray, List.set_cons_zero, List.set_cons_succ]
  refine wpAnyH_ready (rs := [15]) (by kernel_rfl) (by simp) ?_
  refine AllReadyH.cons rfl (fun K hK => ?_) (AllReadyH.nil)
  go_simp
  refine hK.out _ _ ?_ (fun hHeld => ?_)
  · ((try dsimp only); first | with_reducible assumption | exact HS.out _ ((Below.refl _ _).alloc (Nat.le_refl _) _).drew | exact HS.out _ ((Below.refl _ _).drew.alloc (Nat.le_refl _) _) | exact HS.out _ ((((Below.refl _ _).alloc (Nat.le_refl _) _).drew).setCell (Nat.le_refl _) _))
  clear hK K
  try simp only [Act.put, List.setIfInBounds_toArray, List.set_cons_zero, List.set_cons_succ]
  refine wpAnyH_ready (rs := [16]) (by kernel_rfl) (by simp) ?_
  refine AllReadyH.cons rfl (fun K hK => ?_) (AllReadyH.nil)
  go_simp
  refine hK.out _ _ ?_ (fun hHeld => ?_)
  · ((try dsimp only); first | with_reducible assumption | exact HS.out _ ((Below.refl _ _).alloc (Nat.le_refl _) _).drew | exact HS.out _ ((Below.refl _ _).drew.alloc (Nat.le_refl _) _) | exact HS.out _ ((((Below.refl _ _).alloc (Nat.le_refl _) _).drew).setCell (Nat.le_refl _) _))
  clear hK K
  try simp only [Act.put, List.setIfInBounds_toArray, List.set_cons_zero, List.set_cons_succ]
  refine wpAnyH_ready (rs := [17]) (by kernel_rfl) (by simp) ?_
  refine AllReadyH.cons rfl (fun K hK => ?_) (AllReadyH.nil)
  go_simp
  refine hK.out _ _ ?_ (fun hHeld => ?_)
  · ((try dsimp only); first | with_reducible assumption | exact HS.out _ ((Below.refl _ _).alloc (Nat.le_refl _) _).drew | exact HS.out _ ((Below.refl _ _).drew.alloc (Nat.le_refl _) _) | exact HS.out _ ((((Below.refl _ _).alloc (Nat.le_refl _) _).drew).setCell (Nat.le_refl _) _))
  clear hK K
  try simp only [Act.put, List.setIfInBounds_toArray, List.set_cons_zero, List.set_cons_succ]
  refine wpAnyH_done (by kernel_rfl) ?_ _
  refine NoPanic.normal ?_
  clear hs0 HS
  obtain ⟨Z, hZ⟩ : ∃ Z, Z = (w.alloc (.cells #[.int .i64 d.op, .int .i64 d.ty, .slice aA d.args.length ac, .int .i64 d.n, .int .i64 d.to_] 57)).drew := ⟨_, rfl⟩
  rw [← hZ]
  have hbZ : Below w.heap.size w Z := by rw [hZ]; exact ((Below.refl _ _).alloc (Nat.le_refl _) _).drew
  have h0Z : Z.heap[w.heap.size]? = some (.cells #[.int .i64 d.op, .int .i64 d.ty, .slice aA d.args.length ac, .int .i64 d.n, .int .i64 d.to_] 57 (0, 0)) := by rw [hZ]; exact heap_alloc_new w _
  have hzZ : w.heap.size < Z.heap.size := gr_in h0Z
  have HX : Hid (∀ Y, Below Z.heap.size Z Y → Y.cell? ⟨w.heap.size, 0, none⟩ = some (.int .i64 d.op) ∧ Y.cell? ⟨w.heap.size, 2, none⟩ = some (.slice aA d.args.length ac) ∧ Below w.heap.size w Y) := Lib.hid fun Y hY => by
    have e := (hY.block w.heap.size hzZ).trans h0Z
    exact ⟨Lib.cell_of_heap e 0, Lib.cell_of_heap e 2, hbZ.trans (hY.mono hbZ.size)⟩
  have y2 := (HX.out Z (Below.refl _ _)).2.1
  have HN0 : Hid (Below Z.heap.size Z Z ∧ useRow f P Q T (k : Int) d.op 0 (d.args.drop 0) = true) := Lib.hid ⟨Below.refl _ _, Hm.out⟩
  obtain ⟨an, han⟩ : ∃ an, an = d.args.length := ⟨_, rfl⟩
  rw [← han] at y2 HX HG hab
  have Han := Lib.hid han
  clear hZ hbZ h0Z han Hm
  go_upto_block 0 with fail
  clear y2
  go_wp2_with fail
  go_loopw [29] (fun u29 wr => ∃ j : Nat, j ≤ an ∧ u29 = .int .i64 j ∧ Hid (Below Z.heap.size Z wr ∧ useRow f P Q T (k : Int) d.op j (d.args.drop j) = true)) (fun u29 _ => an - (intOf u29).toNat)
  case atStart => exact ⟨0, Nat.zero_le _, rfl, HN0⟩
  case round =>
    clear HN0
    obtain ⟨j, hj, rfl, HN⟩ := hrel
    obtain ⟨D, hD⟩ : ∃ D, D = wr := ⟨_, rfl⟩
    rw [← hD] at HN ⊢
    clear hD
    by_cases hlj : j < an
    · obtain ⟨hDZ, hmr⟩ := HN.out
      have hjl : j < d.args.length := by rw [← Han.out]; exact hlj
      obtain ⟨c0, -, hDw⟩ := HX.out D hDZ
      obtain ⟨tb, tq, rfl, c1⟩ := (HG.out D hDw).rd hlj
      rw [List.drop_eq_getElem_cons hjl] at hmr
      unfold useRow useOne at hmr
      simp only [Bool.and_eq_true, decide_eq_true_eq] at hmr
      have hge : d.args.getD j 0 = d.args[j] := by simp [List.getD, hjl]
      rw [hge] at c1
      obtain ⟨⟨ha, hu⟩, hrest⟩ := hmr
      obtain ⟨a, hte⟩ : ∃ a : Nat, d.args[j] = a := ⟨d.args[j].toNat, by omega⟩
      rw [hte] at hu c1 ha
      have hbe := Hb.out
      simp only [Int.toNat_natCast, ← hbe] at hu
      have hai : a < inn := by rw [Hn.out]; omega
      obtain ⟨hbr, -, hnD, hIp, hIq, hTD⟩ := HR.out D hDw
      have ma := hIp.cell (j := a) (by have := HL.out.lp; omega)
      obtain ⟨pa, hpa⟩ : ∃ pa, pa = P.getD a 0 := ⟨_, rfl⟩
      rw [← hpa] at ma
      simp only [← hpa] at hu
      obtain ⟨v5, v6, v7, v8⟩ := HV.out D hDw
      by_cases h3 : d.op = 3
      · clear hbe
        simp only [if_pos h3, Bool.and_eq_true, decide_eq_true_eq] at hu
        obtain ⟨⟨hb0, hb1, hpl⟩, hov⟩ := hu
        have e3 : (d.op == 3) = true := by simpa using h3
        obtain ⟨bk, hbk⟩ : ∃ bk : Nat, b = bk := ⟨b.toNat, by omega⟩
        subst hbk
        have hbl2 : bk < f.blocks.length := by omega
        have hbn2 : bk < bn := by rw [Hbl.out]; exact hbl2
        have hpo : predsOf f.blocks (bk : Int) = f.blocks[bk].preds := by unfold predsOf; rw [Int.toNat_natCast, List.getElem?_eq_getElem hbl2]; rfl
        rw [hpo] at hpl hov
        obtain ⟨gb2, o2, lA, lc, pA', pc', tA, tc, rfl, -, -, q1, -, -, -, -, hpr, -⟩ := hbr.at hbl2
        obtain ⟨pb, pq, rfl, q2⟩ := hpr.rd hpl
        obtain ⟨pv, hpv⟩ : ∃ pv, pv = f.blocks[bk].preds.getD j 0 := ⟨_, rfl⟩
        obtain ⟨pn, hpn⟩ : ∃ pn, pn = f.blocks[bk].preds.length := ⟨_, rfl⟩
        rw [← hpv] at q2 hov
        rw [← hpn] at q1 hpl
        have hOv := so_call D fun A hA => (over_g tp tn T pa pv A (hTD.keep hA)).mono fun e w' hh => (by
          obtain ⟨h1, q, h2⟩ := hh
          rw [hov] at h1
          exact ⟨h1, by rw [h2]; exact so_drewN _ q⟩ : e = .returned (.bool true) ∧ Below A.heap.size A w')
        have z1 := cell_regrown q1
        have z2 := cell_regrown q2
        have z3 := cell_regrown ma
        have z6 := cell_regrown v6
        have z7 := cell_regrown v7
        have HDZ := Lib.hid hDZ
        have Hre := Lib.hid hrest
        clear hDZ hjl hge ha hte hrest hbr hIp hIq hTD hpr hpa hpv hpn hpo hov hb0 hb1 hbl2 h3 q1 q2 v8 hDw hnD HN
        go_upto_region 6 with fail
        clear c0 c1 ma v5 v6 v7
        refine wp_region_quiet_below (by kernel_rfl) (by kernel_rfl) ?_
        repeat (go_big_quiet_step (first | exact hOv _))
        refine wpQuiet_nil ?_
        intro Y hw'
        obtain ⟨⟨dq, osq⟩, hw''⟩ := hw'
        have HN2 : Hid (Below Z.heap.size Z Y ∧ useRow f P Q T (k : Int) d.op (j + 1) (d.args.drop (j + 1)) = true) := Lib.hid ⟨by rw [hw'']; exact HDZ.out.trans ((below_regrown D dq osq).mono HDZ.out.size), Hre.out⟩
        clear hw'' hOv z1 z2 z3 z6 z7 HDZ
        go_wp2_with fail
        go_roundw
        case rel => exact ⟨j + 1, by omega, by go_num, HN2⟩
        case measure => simp [intOf]; omega
      · simp only [if_neg h3] at hu
        have e3 : (d.op == 3) = false := by simpa using h3
        have HDZ := Lib.hid hDZ
        have HDw := Lib.hid hDw
        have Hre := Lib.hid hrest
        by_cases hq : pa = b
        · simp only [if_pos hq, decide_eq_true_eq] at hu
          have e4 : (pa == b) = true := by simpa using hq
          have ca := hIq.cell (j := a) (by have := HL.out.lq; omega)
          have ck := hIq.cell (j := k) (by have := HL.out.lq; omega)
          obtain ⟨qa, hqa⟩ : ∃ qa, qa = Q.getD a 0 := ⟨_, rfl⟩
          obtain ⟨qk, hqk⟩ : ∃ qk, qk = Q.getD k 0 := ⟨_, rfl⟩
          rw [← hqa] at ca
          rw [← hqk] at ck
          simp only [← hqa, ← hqk] at hu
          have e5 : decide (qa ≥ qk) = false := decide_eq_false (by omega)
          have za := cell_regrown ca
          have zk := cell_regrown ck
          have z8 := cell_regrown v8
          clear hDZ hDw hjl hge ha hte hrest hbr hIp hIq hTD hpa h3 hnD HN hbe hu hqa hqk hq ca ck
          go_upto_region 9 with fail
          clear c0 c1 ma v5 v6 v7 v8
          refine wp_region_quiet_below (by kernel_rfl) (by kernel_rfl) ?_
          repeat (go_big_quiet_step (fail))
          refine wpQuiet_nil ?_
          intro Y hw'
          obtain ⟨⟨dq, osq⟩, hw''⟩ := hw'
          have HN2 : Hid (Below Z.heap.size Z Y ∧ useRow f P Q T (k : Int) d.op (j + 1) (d.args.drop (j + 1)) = true) := Lib.hid ⟨by rw [hw'']; exact HDZ.out.trans ((below_regrown D dq osq).mono HDZ.out.size), Hre.out⟩
          clear hw'' za zk z8 HDZ
          go_wp2_with fail
          go_roundw
          case rel => exact ⟨j + 1, by omega, by go_num, HN2⟩
          case measure => simp [intOf]; omega
        · simp only [if_neg hq] at hu
          have e4 : (pa == b) = false := by simpa using hq
          have hOv : Calls Try.prog 43 #[.pointer (some ⟨tp, 0, none⟩), .int .i64 pa, .int .i64 b] D fun e w' => e = .returned (.bool true) ∧ Below D.heap.size D w' := (over_g tp tn T pa b D hTD).mono fun e w' hh => by
            obtain ⟨h1, q, h2⟩ := hh
            rw [hu] at h1
            exact ⟨h1, by rw [h2]; exact so_drewN _ q⟩
          clear hDZ hDw hjl hge ha hte hrest hbr hIp hIq hTD hpa h3 hnD HN hbe hu hq v8
          go_wp2_with (first | (go_at_call 43; refine hOv.mono ?_; rintro e w7 ⟨rfl, hb7⟩; have HN2 : Hid (Below Z.heap.size Z w7 ∧ useRow f P Q T (k : Int) d.op (j + 1) (d.args.drop (j + 1)) = true) := Lib.hid ⟨HDZ.out.trans (hb7.mono HDZ.out.size), Hre.out⟩; clear hb7 hOv))
          go_roundw
          case rel => exact ⟨j + 1, by omega, by go_num, HN2⟩
          case measure => simp [intOf]; omega
    · obtain rfl : an = j := by omega
      have HE : Hid (Below w.heap.size w D) := Lib.hid (HX.out D HN.out.1).2.2
      go_wp2_with fail
      go_ret
      exact ⟨rfl, HE.out⟩
end Go.Proofs.Ytglobeajmdieaaa
