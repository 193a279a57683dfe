/-
  Programs that may be: fits where it says yes: what joins ways.
  Programs that may be: fits in one piece; typed, where it says yes.
  Programs that may be: slices.Index, slices.Contains over numbers.
-/
import Derived.Test.YtagagpappjkgbaaJx8
import Derived.Test.YtagagpappjkgbaaJx31
import Derived.Deep.RegionHeld
namespace Go.Proofs.Ytagagpappjkgbaa
set_option linter.unusedVariables false
set_option linter.unusedSimpArgs false
open Go.RowKit Go.Sort

theorem IRow.gns {w : World} {b : Nat} {l : List Int} {n : Nat} (h : IRow w b l) (hn : n = l.length) : GNs w.heap.size w (.slice (some ⟨b, 0, none⟩) n n) l := by
  subst hn
  refine ⟨_, _, rfl, fun _ => ⟨b, 0, rfl, gr_in h, fun j x hx => ?_⟩⟩
  obtain ⟨hj, rfl⟩ := List.getElem?_eq_some_iff.mp hx
  rw [Nat.zero_add, h.cell hj]
  simp [List.getD, hj]
set_option maxRecDepth 100000 in
set_option maxHeartbeats 1000000 in
theorem fits_3 (n0 sb : Nat) (V : SV) (fs : List SF) (f : SF) (vi va : Value) (d : SIn) (aA : Option Addr) (an ac : Nat) (w : World) (h : Sbj n0 sb V fs f vi va w) (ha : GNs w.heap.size w (.slice aA an ac) d.args) (hab : an ≤ 1048576) (hin : inI f.ins d.args) (hop : d.op = 3) (hty : d.ty ≠ 0) (hn1 : 1 ≤ an) (ho : ofP f.ins d.args (List.replicate an d.ty) = true) :
    Calls Try.prog 120 #[.pointer (some ⟨sb, 0, none⟩), insV d aA an ac] w fun e w' => e = .returned (.bool true) ∧ Below w.heap.size w w' := by
  obtain ⟨W, hW, hbW, hzW, h0W⟩ := gr_one w #[.int .i64 d.op, .int .i64 d.ty, .slice aA an ac, .int .i64 d.n, .int .i64 d.to_] 71
  have HK : Hid (∀ A, Below W.heap.size W A → A.cell? ⟨w.heap.size, 0, none⟩ = some (.int .i64 d.op) ∧ A.cell? ⟨w.heap.size, 1, none⟩ = some (.int .i64 d.ty) ∧ A.cell? ⟨w.heap.size, 2, none⟩ = some (.slice aA an ac) ∧ A.cell? ⟨w.heap.size, 3, none⟩ = some (.int .i64 d.n) ∧ A.cell? ⟨w.heap.size, 4, none⟩ = some (.int .i64 d.to_)) := Lib.hid fun A hA => by
    obtain ⟨x0, x1, x2, x3, x4, -⟩ := gr_five ((hA.block w.heap.size (by omega)).trans h0W)
    exact ⟨x0, x1, x2, x3, x4⟩
  obtain ⟨x0, x1, x2, x3, x4⟩ := HK.out W (Below.refl _ _)
  obtain ⟨Z, hZ, hbZ, hzZ, h0Z⟩ := gr_one W.drew #[.int .i64 d.ty] 3
  have hbWd : Below W.heap.size W W.drew := (Below.refl _ _).drew
  have hbWZ : Below W.heap.size W Z := hbWd.trans hbZ
  have hRp := repeat_g W.drew.heap.size 0 d.ty an Z (Lib.cell_of_heap h0Z 0) hn1 hab
  have HO : Hid (∀ Y nb, Below Z.heap.size Z Y → IRow Y nb (List.replicate an d.ty) → Calls Try.prog 138 #[.pointer (some ⟨sb, 0, none⟩), insV d aA an ac, .slice (some ⟨nb, 0, none⟩) an an] Y fun e w' => e = .returned (.bool true) ∧ Below w.heap.size w w' ∧ Below W.heap.size W w') := Lib.hid fun Y nb hY hI => by
    have hb1 : Below W.heap.size W Y := hbWZ.trans (hY.mono hbWZ.size)
    refine (of_t n0 sb V fs f vi va d aA an ac _ an an (List.replicate an d.ty) Y ((h.keep hbW).keep hb1) ((ha.ltr hbW).ltr hb1) hab (hI.gns (by simp)) hab hin ho).mono ?_
    rintro e w' ⟨rfl, hb2⟩
    have hb3 : Below W.heap.size W w' := hb1.trans (hb2.mono hb1.size)
    exact ⟨rfl, hbW.trans (hb3.mono (by omega)), hb3⟩
  have HY : Hid (∀ Y, Below Z.heap.size Z Y → Below W.heap.size W Y) := Lib.hid fun Y hY => hbWZ.trans (hY.mono hbWZ.size)
  have e1 : (d.ty != 0) = true := by simpa using hty
  unfold insV at HO ⊢
  have HW : Hid (W = _) := Lib.hid hW
  rw [hop] at HO HW HK ⊢
  have hs0 := HK.out _ hbWd
  have hs1 := HK.out _ hbWZ
  rw [hZ] at hRp hs1
  have HZ : Hid (Z = _) := Lib.hid hZ
  clear hW hbW hzW h0W h ha hin ho hop hty hZ hbZ hzZ h0Z hbWd hbWZ x0 x1 x2 x3 x4
  go_enter Try.func120, Try.ntmps120
  go_upto_region 7 with fail
  rw [← HW.out]
  refine wp_region_noPanic ?_
  refine wp_region_held_drew (S := fun A : World => A.cell? ⟨w.heap.size, 0, none⟩ = some (.int .i64 3) ∧ A.cell? ⟨w.heap.size, 1, none⟩ = some (.int .i64 d.ty) ∧ A.cell? ⟨w.heap.size, 2, none⟩ = some (.slice aA an ac) ∧ A.cell? ⟨w.heap.size, 3, none⟩ = some (.int .i64 d.n) ∧ A.cell? ⟨w.heap.size, 4, none⟩ = some (.int .i64 d.to_)) (by kernel_rfl) hs0 (fun hHeld => ?_)
  refine wpAnyH_take (i := 0) (v := ?_) rfl (by kernel_rfl) (by kernel_rfl) (by kernel_rfl) (fun _ _ _ h => h) (Or.inl ⟨by kernel_rfl, ?_⟩) (by assumption) ?_
  rotate_left
  · (intro w hSw; (try dsimp only at hSw); first | (go_simp; done) | (go_simp; with_reducible rfl))
  try simp only [Act.put, List.setIfInBounds_toArray, List.set_cons_zero, List.set_cons_succ]
  refine wpAnyH_take (i := 1) (v := ?_) rfl (by kernel_rfl) (by kernel_rfl) (by kernel_rfl) (fun _ _ _ h => h) (Or.inl ⟨by kernel_rfl, ?_⟩) (by assumption) ?_
  rotate_left
  · (intro w hSw; (try dsimp only at hSw); first | (go_simp; done) | (go_simp; with_reducible rfl))
  try simp only [Act.put, List.setIfInBounds_toArray, List.set_cons_zero, List.set_cons_succ]
  refine wpAnyH_take (i := 2) (v := ?_) rfl (by kernel_rfl) (by kernel_rfl) (by kernel_rfl) (fun _ _ _ h => h) (Or.inl ⟨by kernel_rfl, ?_⟩) (by assumption) ?_
  rotate_left
  · (intro w hSw; (try dsimp only at hSw); first | (go_simp; done) | (go_simp; with_reducible rfl))
  try simp only [Act.put, List.setIfInBounds_toArray, List.set_cons_zero, List.set_cons_succ]
  refine wpAnyH_take (i := 3) (v := ?_) rfl (by kernel_rfl) (by kernel_rfl) (by kernel_rfl) (fun _ _ _ h => h) (Or.inl ⟨by kernel_rfl, ?_⟩) (by assumption) ?_
  rotate_left
  · (intro w hSw; (try dsimp only at hSw); first | (go_simp; done) | (go_simp; with_reducible rfl))
  try simp only [Act.put, List.setIfInBounds_toArray, List.set_cons_zero, List.set_cons_succ]
  refine wpAnyH_take (i := 4) (v := ?_) rfl (by kernel_rfl) (by kernel_rfl) (by kernel_rfl) (fun _ _ _ h => h) (Or.inl ⟨by kernel_rfl, ?_⟩) (by assumption) ?_
  rotate_left
  · (intro w hSw; (try dsimp only at hSw); first | (go_simp; done) | (go_simp; with_reducible rfl))
  try simp only [Act.put, List.setIfInBounds_toArray, List.set_cons_zero, List.set_cons_succ]
  refine wpAnyH_take (i := 5) (v := ?_) rfl (by kernel_rfl) (by kernel_rfl) (by kernel_rfl) (fun _ _ _ h => h) (Or.inl ⟨by kernel_rfl, ?_⟩) (by assumption) ?_
  rotate_left
  · (intro w hSw; (try dsimp only at hSw); first | (go_simp; done) | (go_simp; with_reducible rfl))
  try simp only [Act.put, List.setIfInBounds_toArray, List.set_cons_zero, List.set_cons_succ]
  refine wpAnyH_take (i := 6) (v := ?_) rfl (by kernel_rfl) (by kernel_rfl) (by kernel_rfl) (fun _ _ _ h => h) (Or.inl ⟨by kernel_rfl, ?_⟩) (by assumption) ?_
  rotate_left
  · (intro w hSw; (try dsimp only at hSw); first | (go_simp; done) | (go_simp; with_reducible rfl))
  try simp only [Act.put, List.setIfInBounds_toArray, List.set_cons_zero, List.set_cons_succ]
  refine wpAnyH_take (i := 7) (v := ?_) rfl (by kernel_rfl) (by kernel_rfl) (by kernel_rfl) (fun _ _ _ h => h) (Or.inl ⟨by kernel_rfl, ?_⟩) (by assumption) ?_
  rotate_left
  · (intro w hSw; (try dsimp only at hSw); first | (go_simp; done) | (go_simp; with_reducible rfl))
  try simp only [Act.put, List.setIfInBounds_toArray, List.set_cons_zero, List.set_cons_succ]
  refine wpAnyH_take (i := 9) (v := ?_) rfl (by kernel_rfl) (by kernel_rfl) (by kernel_rfl) (fun _ _ _ h => h) (Or.inl ⟨by kernel_rfl, ?_⟩) (by assumption) ?_
  rotate_left
  · (intro w hSw; (try dsimp only at hSw); first | (go_simp; done) | (go_simp; with_reducible rfl))
  try simp only [Act.put, List.setIfInBounds_toArray, List.set_cons_zero, List.set_cons_succ]
  refine wpAnyH_take (i := 10) (v := ?_) rfl (by kernel_rfl) (by kernel_rfl) (by kernel_rfl) (fun _ _ _ h => h) (Or.inl ⟨by kernel_rfl, ?_⟩) (by assumption) ?_
  rotate_left
  · (intro w hSw; (try dsimp only at hSw); first | (go_simp; done) | (go_simp; with_reducible rfl))
  try simp only [Act.put, List.setIfInBounds_toArray, List.set_cons_zero, List.set_cons_succ]
  refine wpAnyH_take (i := 11) (v := ?_) rfl (by kernel_rfl) (by kernel_rfl) (by kernel_rfl) (fun _ _ _ h => h) (Or.inl ⟨by kernel_rfl, ?_⟩) (by assumption) ?_
  rotate_left
  · (intro w hSw; (try dsimp only at hSw); first | (go_simp; done) | (go_simp; with_reducible rfl))
  try simp only [Act.put, List.setIfInBounds_toArray, List.set_cons_zero, List.set_cons_succ]
  refine wpAnyH_ready (rs := [8]) (by kernel_rfl) (by simp) ?_
  refine AllReadyH.cons rfl (fun K hK => ?_) (AllReadyH.nil)
  go_simp
  refine hK.out _ _ ?_ (fun hHeld => ?_)
  · ((try dsimp only); first | with_reducible assumption | exact hs1 | exact hs2 | exact hs3)
  clear hK K
  try simp only [Act.put, List.setIfInBounds_toArray, List.set_cons_zero, List.set_cons_succ]
  refine wpAnyH_ready (rs := [12]) (by kernel_rfl) (by simp) ?_
  refine AllReadyH.cons rfl (fun K hK => ?_) (AllReadyH.nil)
  go_simp
  refine hRp.mono ?_
  rintro e Y ⟨nb, rfl, hnb, hI, hbY⟩
  rw [← HZ.out] at hbY
  have hs2 := HK.out _ (HY.out Y hbY)
  have hOc := HO.out Y nb hbY hI
  clear hRp hI hbY hnb
  try dsimp only
  refine hK.out _ _ ?_ (fun hHeld => ?_)
  · ((try dsimp only); first | with_reducible assumption | exact hs1 | exact hs2 | exact hs3)
  clear hK K
  try simp only [Act.put, List.setIfInBounds_toArray, List.set_cons_zero, List.set_cons_succ]
  refine wpAnyH_ready (rs := [13]) (by kernel_rfl) (by simp) ?_
  refine AllReadyH.cons rfl (fun K hK => ?_) (AllReadyH.nil)
  go_simp
  refine hOc.mono ?_
  rintro e X ⟨rfl, hbX, hbX2⟩
  have hs3 := HK.out _ hbX2
  have HE := Lib.hid hbX
  clear hOc hbX hbX2
  try dsimp only
  refine hK.out _ _ ?_ (fun hHeld => ?_)
  · ((try dsimp only); first | with_reducible assumption | exact hs1 | exact hs2 | exact hs3)
  clear hK K
  try simp only [Act.put, List.setIfInBounds_toArray, List.set_cons_zero, List.set_cons_succ]
  refine wpAnyH_take (i := 14) (v := ?_) rfl (by kernel_rfl) (by kernel_rfl) (by kernel_rfl) (fun _ _ _ h => h) (Or.inl ⟨by kernel_rfl, ?_⟩) (by assumption) ?_
  rotate_left
  · (intro w hSw; (try dsimp only at hSw); first | (go_simp; done) | (go_simp; with_reducible rfl))
  try simp only [Act.put, List.setIfInBounds_toArray, List.set_cons_zero, List.set_cons_succ]
  refine wpAnyH_ready (rs := [15]) (by kernel_rfl) (by simp) ?_
  refine AllReadyH.cons rfl (fun K hK => ?_) (AllReadyH.nil)
  go_simp
  refine hK.out _ _ ?_ (fun hHeld => ?_)
  · ((try dsimp only); first | with_reducible assumption | exact hs1 | exact hs2 | exact hs3)
  clear hK K
  try simp only [Act.put, List.setIfInBounds_toArray, List.set_cons_zero, List.set_cons_succ]
  refine wpAnyH_done (by kernel_rfl) ?_ _
  refine NoPanic.normal ?_
  go_wp2
  go_ret
  exact ⟨rfl, HE.out⟩
end Go.Proofs.Ytagagpappjkgbaa
namespace Go.Proofs.Ytagagpappjkgbaa
set_option linter.unusedVariables false
set_option linter.unusedSimpArgs false
open Go.RowKit Go.Sort

/-- An instruction is of its types (those operations that are met). -/
def fitB (fs : List SF) (f : SF) (x : SIn) : Bool :=
  if x.op = 1 then decide (x.ty = 1) && ofP f.ins x.args []
  else if x.op = 2 then decide (0 ≤ x.n) && (decide (x.n.toNat < f.params.length) && (decide (x.ty = f.params.getD x.n.toNat 0) && ofP f.ins x.args []))
  else if x.op = 3 then decide (x.ty ≠ 0) && (decide (1 ≤ x.args.length) && ofP f.ins x.args (List.replicate x.args.length x.ty))
  else if 4 ≤ x.op ∧ x.op ≤ 14 then decide (x.ty = 1) && ofP f.ins x.args [1, 1]
  else if x.op = 15 ∨ x.op = 16 then decide (x.ty = 1) && ofP f.ins x.args [1]
  else if 19 ≤ x.op ∧ x.op ≤ 23 then decide (x.ty = 2) && ofP f.ins x.args [1, 1]
  else if x.op = 25 then decide (x.ty ≠ 0) && ofP f.ins x.args [2, x.ty, x.ty]
  else if x.op = 26 then decide (x.ty = 1) && ofP f.ins x.args [3]
  else if x.op = 29 then decide (x.ty = 1) && ofP f.ins x.args [3, 1]
  else if x.op = 30 then decide (x.ty = 3) && ofP f.ins x.args [1]
  else if x.op = 32 then decide (x.ty = 0) && ofP f.ins x.args [3, 1, 1]
  else if x.op = 33 then decide (x.ty = 0) && ofP f.ins x.args [1]
  else if x.op = 34 then decide (x.ty = 1) && ofP f.ins x.args []
  else if x.op = 35 then decide (x.ty = 0) && (decide (1 ≤ x.n ∧ x.n ≤ 3) && ofP f.ins x.args [2])
  else if x.op = 36 then decide (0 ≤ x.to_) && (match fs[x.to_.toNat]? with
    | some g => decide (g.params.length ≤ 1048576) && (decide (x.ty = g.ret) && ofP f.ins x.args g.params)
    | none => false)
  else false
theorem GNs.lenS {n0 n c : Nat} {w : World} {A : Option Addr} {l : List Int} (h : GNs n0 w (.slice A n c) l) : n = l.length := by
  obtain ⟨A', c', e, -⟩ := h
  injection e
theorem fits_ok (n0 sb : Nat) (V : SV) (fs : List SF) (f : SF) (vi va : Value) (d : SIn) (aA : Option Addr) (an ac : Nat) (w : World) (h : Sbj n0 sb V fs f vi va w) (ha : GNs w.heap.size w (.slice aA an ac) d.args) (hab : an ≤ 1048576) (hin : inI f.ins d.args) (hb : fitB fs f d = true) :
    Calls Try.prog 120 #[.pointer (some ⟨sb, 0, none⟩), insV d aA an ac] w fun e w' => e = .returned (.bool true) ∧ Below w.heap.size w w' := by
  unfold fitB at hb
  by_cases h00 : d.op = 1
  · rw [if_pos h00] at hb
    simp only [Bool.and_eq_true, decide_eq_true_eq] at hb
    exact fits_1 n0 sb V fs f vi va d aA an ac w h ha hab hin h00 hb.1 hb.2
  rw [if_neg h00] at hb
  by_cases h01 : d.op = 2
  · rw [if_pos h01] at hb
    simp only [Bool.and_eq_true, decide_eq_true_eq] at hb
    exact fits_2 n0 sb V fs f vi va d aA an ac w h ha hab hin h01 d.n.toNat (by omega) hb.2.1 hb.2.2.1 hb.2.2.2
  rw [if_neg h01] at hb
  by_cases h02 : d.op = 3
  · rw [if_pos h02] at hb
    simp only [Bool.and_eq_true, decide_eq_true_eq] at hb
    exact fits_3 n0 sb V fs f vi va d aA an ac w h ha hab hin h02 hb.1 (by rw [ha.lenS]; exact hb.2.1) (by rw [ha.lenS]; exact hb.2.2)
  rw [if_neg h02] at hb
  by_cases h03 : 4 ≤ d.op ∧ d.op ≤ 14
  · rw [if_pos h03] at hb
    simp only [Bool.and_eq_true, decide_eq_true_eq] at hb
    exact fits_reck n0 sb V fs f vi va d aA an ac w h ha hab hin (by omega) (fun A hA => reck_two n0 sb V fs f vi va d aA an ac A (h.keep hA) (ha.ltr hA) hab hin (by omega) hb.1 hb.2)
  rw [if_neg h03] at hb
  by_cases h04 : d.op = 15 ∨ d.op = 16
  · rw [if_pos h04] at hb
    simp only [Bool.and_eq_true, decide_eq_true_eq] at hb
    exact fits_reck n0 sb V fs f vi va d aA an ac w h ha hab hin (by omega) (fun A hA => reck_one n0 sb V fs f vi va d aA an ac A (h.keep hA) (ha.ltr hA) hab hin (by omega) hb.1 hb.2)
  rw [if_neg h04] at hb
  by_cases h05 : 19 ≤ d.op ∧ d.op ≤ 23
  · rw [if_pos h05] at hb
    simp only [Bool.and_eq_true, decide_eq_true_eq] at hb
    exact fits_reck n0 sb V fs f vi va d aA an ac w h ha hab hin (by omega) (fun A hA => reck_cmp n0 sb V fs f vi va d aA an ac A (h.keep hA) (ha.ltr hA) hab hin (by omega) hb.1 hb.2)
  rw [if_neg h05] at hb
  by_cases h06 : d.op = 25
  · rw [if_pos h06] at hb
    simp only [Bool.and_eq_true, decide_eq_true_eq] at hb
    exact fits_25 n0 sb V fs f vi va d aA an ac w h ha hab hin h06 hb.1 hb.2
  rw [if_neg h06] at hb
  by_cases h07 : d.op = 26
  · rw [if_pos h07] at hb
    simp only [Bool.and_eq_true, decide_eq_true_eq] at hb
    exact fits_hand n0 sb V fs f vi va d aA an ac w h ha hab hin (by omega) (fun A hA => hand_26 n0 sb V fs f vi va d aA an ac A (h.keep hA) (ha.ltr hA) hab hin (by omega) hb.1 hb.2)
  rw [if_neg h07] at hb
  by_cases h08 : d.op = 29
  · rw [if_pos h08] at hb
    simp only [Bool.and_eq_true, decide_eq_true_eq] at hb
    exact fits_hand n0 sb V fs f vi va d aA an ac w h ha hab hin (by omega) (fun A hA => hand_29 n0 sb V fs f vi va d aA an ac A (h.keep hA) (ha.ltr hA) hab hin (by omega) hb.1 hb.2)
  rw [if_neg h08] at hb
  by_cases h09 : d.op = 30
  · rw [if_pos h09] at hb
    simp only [Bool.and_eq_true, decide_eq_true_eq] at hb
    exact fits_hand n0 sb V fs f vi va d aA an ac w h ha hab hin (by omega) (fun A hA => hand_30 n0 sb V fs f vi va d aA an ac A (h.keep hA) (ha.ltr hA) hab hin (by omega) hb.1 hb.2)
  rw [if_neg h09] at hb
  by_cases h010 : d.op = 32
  · rw [if_pos h010] at hb
    simp only [Bool.and_eq_true, decide_eq_true_eq] at hb
    exact fits_hand n0 sb V fs f vi va d aA an ac w h ha hab hin (by omega) (fun A hA => hand_32 n0 sb V fs f vi va d aA an ac A (h.keep hA) (ha.ltr hA) hab hin (by omega) hb.1 hb.2)
  rw [if_neg h010] at hb
  by_cases h011 : d.op = 33
  · rw [if_pos h011] at hb
    simp only [Bool.and_eq_true, decide_eq_true_eq] at hb
    exact fits_hand n0 sb V fs f vi va d aA an ac w h ha hab hin (by omega) (fun A hA => hand_33 n0 sb V fs f vi va d aA an ac A (h.keep hA) (ha.ltr hA) hab hin (by omega) hb.1 hb.2)
  rw [if_neg h011] at hb
  by_cases h012 : d.op = 34
  · rw [if_pos h012] at hb
    simp only [Bool.and_eq_true, decide_eq_true_eq] at hb
    exact fits_hand n0 sb V fs f vi va d aA an ac w h ha hab hin (by omega) (fun A hA => hand_34 n0 sb V fs f vi va d aA an ac A (h.keep hA) (ha.ltr hA) hab hin (by omega) hb.1 hb.2)
  rw [if_neg h012] at hb
  by_cases h013 : d.op = 35
  · rw [if_pos h013] at hb
    simp only [Bool.and_eq_true, decide_eq_true_eq] at hb
    exact fits_35 n0 sb V fs f vi va d aA an ac w h ha hab hin h013 hb.1 hb.2.1.1 hb.2.1.2 hb.2.2
  rw [if_neg h013] at hb
  by_cases h36 : d.op = 36
  · rw [if_pos h36] at hb
    simp only [Bool.and_eq_true, decide_eq_true_eq] at hb
    obtain ⟨h1, h2⟩ := hb
    cases hg : fs[d.to_.toNat]? with
    | none => rw [hg] at h2; cases h2
    | some g =>
      rw [hg] at h2
      simp only [Bool.and_eq_true, decide_eq_true_eq] at h2
      exact fits_36 n0 sb V fs f vi va d aA an ac w h ha hab hin h36 d.to_.toNat (by omega) g hg h2.1 h2.2.1 h2.2.2
  · rw [if_neg h36] at hb
    cases hb

/-- All that typed asks of an instruction. -/
def insB (fs : List SF) (f : SF) (x : SIn) : Bool := (x.op != 0) && (bareP x.op x.n x.to_ && (namedP f.ins x.args && (decide (x.args.length ≤ 1048576) && fitB fs f x)))
/-- .. of an end. -/
def endB (f : SF) (k : SB) : Bool := !(hasArgP f.ret k.kind) || (decide (0 ≤ k.arg ∧ k.arg < f.ins.length) && (tyOf f.ins k.arg == askedP f.ret k.kind))
theorem inI_named {ins : List SIn} {args : List Int} (h : namedP ins args = true) : inI ins args := fun a ha => by
  have := List.all_eq_true.1 h a ha
  unfold nmP at this
  simp only [Bool.and_eq_true, decide_eq_true_eq] at this
  exact ⟨this.1, this.2.1⟩
set_option maxRecDepth 100000 in
set_option maxHeartbeats 4000000 in
theorem typed_t (n0 sb : Nat) (V : SV) (fs : List SF) (f : SF) (vi va : Value) (w : World) (h : Sbj n0 sb V fs f vi va w) (hT1 : ∀ x ∈ f.ins, insB fs f x = true) (hT2 : ∀ k ∈ f.blocks, endB f k = true) :
    Calls Try.prog 99 #[.pointer (some ⟨sb, 0, none⟩)] w fun e w' => e = .returned (.bool true) ∧ Below w.heap.size w w' := by
  have HS : Hid (∀ A, Below w.heap.size w A → Sbj n0 sb V fs f vi va A) := Lib.hid fun A hA => h.keep hA
  obtain ⟨iA, hiA⟩ : ∃ iA, V.iA = iA := ⟨_, rfl⟩
  obtain ⟨inn, hin⟩ : ∃ inn, V.in_ = inn := ⟨_, rfl⟩
  obtain ⟨ic, hic⟩ : ∃ ic, V.ic = ic := ⟨_, rfl⟩
  obtain ⟨bA, hbA⟩ : ∃ bA, V.bA = bA := ⟨_, rfl⟩
  obtain ⟨bn, hbn⟩ : ∃ bn, V.bn = bn := ⟨_, rfl⟩
  obtain ⟨bc, hbc⟩ : ∃ bc, V.bc = bc := ⟨_, rfl⟩
  have HX5 : Hid (∀ A, Below w.heap.size w A → A.cell? ⟨sb, 5, none⟩ = some (.slice iA inn ic) ∧ A.cell? ⟨sb, 6, none⟩ = some (.slice bA bn bc)) := Lib.hid fun A hA => by
    rw [← hiA, ← hin, ← hic, ← hbA, ← hbn, ← hbc]
    exact ⟨Lib.cell_of_heap (h.keep hA).c 5, Lib.cell_of_heap (h.keep hA).c 6⟩
  have HI : Hid (∀ A, Below w.heap.size w A → SIs n0 A (.slice iA inn ic) f.ins ∧ SBs n0 A (.slice bA bn bc) f.blocks ∧ n0 ≤ A.heap.size) := Lib.hid fun A hA => by
    rw [← hiA, ← hin, ← hic, ← hbA, ← hbn, ← hbc]
    exact ⟨(h.keep hA).ir, (h.keep hA).br, (h.keep hA).hn⟩
  have Hil : Hid (inn = f.ins.length ∧ bn = f.blocks.length) := Lib.hid ⟨hin ▸ h.il, hbn ▸ h.bl⟩
  have hib : inn ≤ 1048576 := hin ▸ h.ib
  have hbb : bn ≤ 1048576 := hbn ▸ h.bb
  have HT1 := Lib.hid hT1
  have HT2 := Lib.hid hT2
  have HN0 : Hid (Below w.heap.size w w) := Lib.hid (Below.refl _ _)
  have x5 := (HX5.out w (Below.refl _ _)).1
  have HiA : Hid (V.iA = iA ∧ V.in_ = inn ∧ V.ic = ic ∧ V.bA = bA ∧ V.bn = bn ∧ V.bc = bc) := Lib.hid ⟨hiA, hin, hic, hbA, hbn, hbc⟩
  clear h hT1 hT2 hiA hin hic hbA hbn hbc
  go_enter Try.func99, Try.ntmps99
  go_upto_block 0 with fail
  clear x5
  go_wp2_with fail
  go_loopw [13] (fun u13 wr => ∃ i : Nat, i ≤ inn ∧ u13 = .int .i64 i ∧ Hid (Below w.heap.size w wr)) (fun u13 _ => inn - (intOf u13).toNat)
  case atStart => exact ⟨0, Nat.zero_le _, rfl, HN0⟩
  case round =>
    clear HN0
    obtain ⟨i, hi, rfl, HN⟩ := hrel
    obtain ⟨C, hC⟩ : ∃ C, C = wr := ⟨_, rfl⟩
    rw [← hC] at HN ⊢
    clear hC
    by_cases hli : i < inn
    · have hil : i < f.ins.length := by rw [← Hil.out.1]; exact hli
      obtain ⟨gb, o, aA, ac, rfl, hgb, k0, k1, k2, k3, k4, hg⟩ := (HI.out C HN.out).1.at hil
      obtain ⟨d, hd⟩ : ∃ d, d = f.ins[i] := ⟨_, rfl⟩
      have hdo := HT1.out d (by rw [hd]; exact List.getElem_mem hil)
      rw [← hd] at k0 k1 k2 k3 k4 hg
      unfold insB at hdo
      simp only [Bool.and_eq_true, decide_eq_true_eq] at hdo
      obtain ⟨d1, d2, d3, d4, d5⟩ := hdo
      obtain ⟨Z, hZ, hbZ, hzZ, h0Z⟩ := gr_one C #[.int .i64 d.op, .int .i64 d.ty, .slice aA d.args.length ac, .int .i64 d.n, .int .i64 d.to_] 71
      have hZw : Below w.heap.size w Z := HN.out.trans (hbZ.mono HN.out.size)
      have hnZ := (HI.out C HN.out).2.2
      have hB := bare_g sb d.op d.ty d.n d.to_ aA d.args.length ac Z
      rw [d2] at hB
      have HNm : Hid (∀ Y, Below Z.heap.size Z Y → Calls Try.prog 119 #[.pointer (some ⟨sb, 0, none⟩), .agg #[.int .i64 d.op, .int .i64 d.ty, .slice aA d.args.length ac, .int .i64 d.n, .int .i64 d.to_]] Y fun e w' => e = .returned (.bool true) ∧ Below Y.heap.size Y w') := Lib.hid fun Y hY => by
        have hY2 : Below w.heap.size w Y := hZw.trans (hY.mono hZw.size)
        have s := HS.out Y hY2
        have := named_g n0 sb V.fA V.fn V.fc V.mn V.s V.pA V.pn V.pc V.r V.iA V.in_ V.ic V.bA V.bn V.bc vi va f.ins d.op d.ty d.n d.to_ aA d.args.length ac d.args Y s.c s.hn s.ir s.il ((((hg.keep (hbZ.mono hnZ)).keep (hY.mono (by omega)))).mono s.hn) d4 s.ib
        rw [d3] at this
        exact this
      have HFt : Hid (∀ Y, Below Z.heap.size Z Y → Calls Try.prog 120 #[.pointer (some ⟨sb, 0, none⟩), .agg #[.int .i64 d.op, .int .i64 d.ty, .slice aA d.args.length ac, .int .i64 d.n, .int .i64 d.to_]] Y fun e w' => e = .returned (.bool true) ∧ Below Y.heap.size Y w') := Lib.hid fun Y hY => by
        have hY2 : Below w.heap.size w Y := hZw.trans (hY.mono hZw.size)
        have s := HS.out Y hY2
        exact fits_ok n0 sb V fs f vi va d aA d.args.length ac Y s ((((hg.keep (hbZ.mono hnZ)).keep (hY.mono (by omega)))).mono s.hn) d4 (inI_named d3) d5
      have HX : Hid (∀ Y, Below Z.heap.size Z Y → Y.cell? ⟨C.heap.size, 0, none⟩ = some (.int .i64 d.op) ∧ Y.cell? ⟨C.heap.size, 1, none⟩ = some (.int .i64 d.ty) ∧ Y.cell? ⟨C.heap.size, 2, none⟩ = some (.slice aA d.args.length ac) ∧ Y.cell? ⟨C.heap.size, 3, none⟩ = some (.int .i64 d.n) ∧ Y.cell? ⟨C.heap.size, 4, none⟩ = some (.int .i64 d.to_)) := Lib.hid fun Y hY => by
        obtain ⟨x0, x1, x2, x3, x4, -⟩ := gr_five ((hY.block C.heap.size (by omega)).trans h0Z)
        exact ⟨x0, x1, x2, x3, x4⟩
      obtain ⟨y0, y1, y2, y3, y4⟩ := HX.out Z (Below.refl _ _)
      have HZ := Lib.hid hZ
      have HZw := Lib.hid hZw
      have hzc : C.heap.size < Z.heap.size := by omega
      clear hZ hbZ hzZ h0Z hZw hg hd hil HN hgb hnZ d2 d3 d4 d5
      go_upto_region 4 with fail
      rw [← HZ.out]
      clear k0 k1 k2 k3 k4
      go_wp2_with (first
        | (go_at_call 118; refine hB.mono ?_; rintro e w5 ⟨rfl, hb5⟩; have hN5 := HNm.out w5 hb5; obtain ⟨z0, z1, z2, z3, z4⟩ := HX.out w5 hb5; have Hb5 := Lib.hid hb5; clear hb5 hB)
        | (go_at_call 119; refine hN5.mono ?_; rintro e w6 ⟨rfl, hb6⟩; have hb62 := Hb5.out.trans (hb6.mono Hb5.out.size); have hF6 := HFt.out w6 hb62; obtain ⟨v0, v1, v2, v3, v4⟩ := HX.out w6 hb62; have Hb6 := Lib.hid hb62; clear hb6 hb62 hN5)
        | (go_at_call 120; refine hF6.mono ?_; rintro e w7 ⟨rfl, hb7⟩; have HN7 : Hid (Below w.heap.size w w7) := Lib.hid (HZw.out.trans ((Hb6.out.trans (hb7.mono Hb6.out.size)).mono HZw.out.size)); clear hb7 hF6))
      go_roundw
      case rel => exact ⟨i + 1, by omega, by go_num, HN7⟩
      case measure => simp [intOf]; omega
    · obtain rfl : inn = i := by omega
      have x6 := (HX5.out C HN.out).2
      go_upto_block 2 with fail
      clear x6
      go_wp2_with fail
      go_loopw [43] (fun u43 wr => ∃ j : Nat, j ≤ bn ∧ u43 = .int .i64 j ∧ Hid (Below w.heap.size w wr)) (fun u43 _ => bn - (intOf u43).toNat)
      case atStart => exact ⟨0, Nat.zero_le _, rfl, HN⟩
      case round =>
        clear HN
        obtain ⟨j, hj, rfl, HN⟩ := hrel
        obtain ⟨D, hD⟩ : ∃ D, D = wr := ⟨_, rfl⟩
        rw [← hD] at HN ⊢
        clear hD
        by_cases hlj : j < bn
        · have hjl : j < f.blocks.length := by rw [← Hil.out.2]; exact hlj
          obtain ⟨gb, o, lA, lc, pA', pc', tA, tc, rfl, hgb, k0, k1, k2, k3, k4, -, -, -⟩ := (HI.out D HN.out).2.1.at hjl
          obtain ⟨d, hd⟩ : ∃ d, d = f.blocks[j] := ⟨_, rfl⟩
          have hdo := HT2.out d (by rw [hd]; exact List.getElem_mem hjl)
          rw [← hd] at k0 k1 k2 k3 k4
          obtain ⟨Z, hZ, hbZ, hzZ, h0Z⟩ := gr_one D #[.slice lA d.list.length lc, .slice pA' d.preds.length pc', .int .i64 d.kind, .int .i64 d.arg, .slice tA d.to_.length tc] 76
          have hZw : Below w.heap.size w Z := HN.out.trans (hbZ.mono HN.out.size)
          have hzc : D.heap.size < Z.heap.size := by omega
          have hH := so_call Z fun A hA => hasArg_g sb V.fA V.fn V.fc V.mn V.s V.pA V.pn V.pc V.r V.iA V.in_ V.ic V.bA V.bn V.bc vi va d.kind d.arg tA d.to_.length tc A (HS.out A (hZw.trans (hA.mono hZw.size))).c
          have hQ := so_call Z fun A hA => asked_g sb V.fA V.fn V.fc V.mn V.s V.pA V.pn V.pc V.r V.iA V.in_ V.ic V.bA V.bn V.bc vi va d.kind d.arg tA d.to_.length tc A (HS.out A (hZw.trans (hA.mono hZw.size))).c
          have hrr : V.r = f.ret := (HS.out Z hZw).rr
          rw [hrr] at hH hQ
          have z2 := cell_regrown (Lib.cell_of_heap h0Z 2)
          have z3 := cell_regrown (Lib.cell_of_heap h0Z 3)
          have z4 := cell_regrown (Lib.cell_of_heap h0Z 4)
          have z5 := cell_regrown (HX5.out Z hZw).1
          have HZ := Lib.hid hZ
          have HZw := Lib.hid hZw
          unfold endB at hdo
          cases hq : hasArgP f.ret d.kind with
          | false =>
            rw [hq] at hH
            clear hZ hbZ hzZ h0Z hZw hd hjl HN hgb hdo hq hQ hrr z5
            go_upto_region 10 with fail
            rw [← HZ.out]
            clear k0 k1 k2 k3 k4
            refine wp_region_quiet_below (by kernel_rfl) (by kernel_rfl) ?_
            repeat (go_big_quiet_step (first | exact hH _))
            refine wpQuiet_nil ?_
            intro D2 hw'
            obtain ⟨⟨dq, osq⟩, hw''⟩ := hw'
            have HN2 : Hid (Below w.heap.size w D2) := Lib.hid (by rw [hw'']; exact HZw.out.trans ((below_regrown Z dq osq).mono HZw.out.size))
            clear hw'' hH z2 z3 z4
            go_wp2_with fail
            go_roundw
            case rel => exact ⟨j + 1, by omega, by go_num, HN2⟩
            case measure => simp [intOf]; omega
          | true =>
            rw [hq] at hH hdo
            simp only [Bool.not_true, Bool.false_or, Bool.and_eq_true, decide_eq_true_eq, beq_iff_eq] at hdo
            obtain ⟨⟨ha0, ha1⟩, hat⟩ := hdo
            obtain ⟨a, haa⟩ : ∃ a : Nat, d.arg = a := ⟨d.arg.toNat, by omega⟩
            rw [haa] at ha1 hat hH hQ z3 HZ
            rw [← hat] at hQ
            have hal : a < f.ins.length := by omega
            have hai : a < inn := by rw [Hil.out.1]; exact hal
            obtain ⟨ib, io, aA, ac, rfl, -, -, m1, -, -, -, -⟩ := (HI.out Z hZw).1.at hal
            rw [← tyOf_at hal] at m1
            generalize tyOf f.ins (a : Int) = t at *
            have q1 := cell_regrown m1
            rw [haa] at k3
            clear hZ hbZ hzZ h0Z hZw hd hjl HN hgb hq hrr hat haa ha0 ha1 hal m1
            go_upto_region 10 with fail
            rw [← HZ.out]
            clear k0 k1 k2 k3 k4
            refine wp_region_quiet_below (by kernel_rfl) (by kernel_rfl) ?_
            repeat (go_big_quiet_step (first | exact hH _ | exact hQ _))
            refine wpQuiet_nil ?_
            intro D2 hw'
            obtain ⟨⟨dq, osq⟩, hw''⟩ := hw'
            have HN2 : Hid (Below w.heap.size w D2) := Lib.hid (by rw [hw'']; exact HZw.out.trans ((below_regrown Z dq osq).mono HZw.out.size))
            clear hw'' hH hQ z2 z3 z4 z5 q1
            go_wp2_with fail
            go_roundw
            case rel => exact ⟨j + 1, by omega, by go_num, HN2⟩
            case measure => simp [intOf]; omega
        · obtain rfl : bn = j := by omega
          go_wp2_with fail
          go_ret
          exact ⟨rfl, HN.out⟩
end Go.Proofs.Ytagagpappjkgbaa
namespace Go.Proofs.Ytagagpappjkgbaa
set_option linter.unusedVariables false
set_option linter.unusedSimpArgs false
open Go.RowKit Go.Sort

set_option maxRecDepth 100000 in
set_option maxHeartbeats 1000000 in
theorem index_g (aA : Option Addr) (an ac : Nat) (l : List Int) (v : Int) (n0 : Nat) (w : World) (ha : GNs n0 w (.slice aA an ac) l) (hab : an ≤ 1048576) :
    Calls Try.prog 135 #[.slice aA an ac, .int .i64 v] w fun e w' => ∃ k : Int, e = .returned (.int .i64 k) ∧ decide (k ≥ 0) = decide (v ∈ l) ∧ w' = w := by
  have hal := ha.len
  have Hrd : Hid (∀ j, j < an → ∃ g o, aA = some ⟨g, o, none⟩ ∧ w.cell? ⟨g, o + j, none⟩ = some (.int .i64 (l.getD j 0))) := Lib.hid fun j hj => ha.rd hj
  have Hal := Lib.hid hal
  clear ha hal
  go_enter Try.func135, Try.ntmps135
  go_upto_block 0 with fail
  go_wp2_with fail
  go_loopw [8] (fun u8 wr => ∃ i : Nat, i ≤ an ∧ u8 = .int .i64 i ∧ Hid (∀ j, j < i → l.getD j 0 ≠ v) ∧ wr = w) (fun u8 _ => an - (intOf u8).toNat)
  case atStart => exact ⟨0, Nat.zero_le _, rfl, Lib.hid (fun j hj => by omega), by trivial⟩
  case round =>
    obtain ⟨i, hi, rfl, HA, rfl⟩ := hrel
    by_cases hli : i < an
    · obtain ⟨g, o, rfl, k1⟩ := Hrd.out i hli
      obtain ⟨a, hta⟩ : ∃ a, l.getD i 0 = a := ⟨_, rfl⟩
      rw [hta] at k1
      by_cases hv : v = a
      · have d1 : (v == a) = true := by simpa using hv
        have hm : v ∈ l := by
          rw [hv, ← hta]
          have hil : i < l.length := by rw [← Hal.out]; exact hli
          simp [List.getD, hil]
        have hd : decide ((i : Int) ≥ 0) = decide (v ∈ l) := by rw [decide_eq_true hm]; exact decide_eq_true (by omega)
        have Hd := Lib.hid hd
        clear hv hta hm hd
        go_wp2_with fail
        go_ret
        exact ⟨_, rfl, Hd.out, rfl⟩
      · have d1 : (v == a) = false := by simpa using hv
        have HA2 : Hid (∀ j, j < i + 1 → l.getD j 0 ≠ v) := Lib.hid fun j hj => by
          rcases Nat.lt_or_ge j i with h | h
          · exact HA.out j h
          · obtain rfl : j = i := by omega
            rw [hta]; exact fun e => hv e.symm
        clear hv hta HA
        go_wp2_with fail
        go_roundw
        case rel => exact ⟨i + 1, by omega, by go_num, HA2, by trivial⟩
        case measure => simp [intOf]; omega
    · obtain rfl : an = i := by omega
      have hd : decide ((-1 : Int) ≥ 0) = decide (v ∈ l) := by
        rw [decide_eq_false (by omega)]
        refine (decide_eq_false fun hm => ?_).symm
        obtain ⟨j, hj, e⟩ := List.getElem_of_mem hm
        exact HA.out j (by rw [Hal.out]; exact hj) (by simp [List.getD, hj, e])
      have Hd := Lib.hid hd
      clear hd
      go_wp2_with fail
      go_ret
      exact ⟨_, rfl, Hd.out, rfl⟩
set_option maxHeartbeats 1000000 in
theorem contains_g (aA : Option Addr) (an ac : Nat) (l : List Int) (v : Int) (n0 : Nat) (w : World) (ha : GNs n0 w (.slice aA an ac) l) (hab : an ≤ 1048576) :
    Calls Try.prog 116 #[.slice aA an ac, .int .i64 v] w fun e w' => e = .returned (.bool (decide (v ∈ l))) ∧ w' = w := by
  have hX := index_g aA an ac l v n0 w ha hab
  clear ha
  go_enter Try.func116, Try.ntmps116
  go_wp2_with (go_at_call 135; refine hX.mono ?_; rintro e w1 ⟨k, rfl, hk, hw1⟩; rw [hw1]; have Hk := Lib.hid hk; clear hw1 hk w1 hX)
  go_ret
  exact ⟨congrArg (fun x => Ending.returned (Value.bool x)) Hk.out, rfl⟩
end Go.Proofs.Ytagagpappjkgbaa
