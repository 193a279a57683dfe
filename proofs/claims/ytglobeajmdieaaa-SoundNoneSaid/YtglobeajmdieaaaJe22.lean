/-
  Programs that may be: fits where it says yes: what joins ways.
-/
import Derived.Test.YtglobeajmdieaaaJe9
import Derived.Test.YtglobeajmdieaaaJe21
import Derived.Deep.RegionHeld
namespace Go.Proofs.Ytglobeajmdieaaa
set_option linter.unusedVariables false
set_option linter.unusedSimpArgs false
open Go.RowKit Go.Sort

theorem IRow.gns {w : World} {b : Nat} {l : List Int} {n : Nat} (h : IRow w b l) (hn : n = l.length) : GNs w.heap.size w (.slice (some ⟨b, 0, none⟩) n n) l := by
  subst hn
  refine ⟨_, _, rfl, fun _ => ⟨b, 0, rfl, gr_in h, fun j x hx => ?_⟩⟩
  obtain ⟨hj, rfl⟩ := List.getElem?_eq_some_iff.mp hx
  rw [Nat.zero_add, h.cell hj]
  simp [List.getD, hj]
set_option maxRecDepth 100000 in
set_option maxHeartbeats 1000000 in
theorem fits_3 (n0 sb : Nat) (V : SV) (fs : List SF) (f : SF) (vi va : Value) (d : SIn) (aA : Option Addr) (an ac : Nat) (w : World) (h : Sbj n0 sb V fs f vi va w) (ha : GNs w.heap.size w (.slice aA an ac) d.args) (hab : an ≤ 1048576) (hin : inI f.ins d.args) (hop : d.op = 3) (hty : d.ty ≠ 0) (hn1 : 1 ≤ an) (ho : ofP f.ins d.args (List.replicate an d.ty) = true) :
    Calls Try.prog 38 #[.pointer (some ⟨sb, 0, none⟩), insV d aA an ac] w fun e w' => e = .returned (.bool true) ∧ Below w.heap.size w w' := by
  obtain ⟨W, hW, hbW, hzW, h0W⟩ := gr_one w #[.int .i64 d.op, .int .i64 d.ty, .slice aA an ac, .int .i64 d.n, .int .i64 d.to_] 57
  have HK : Hid (∀ A, Below W.heap.size W A → A.cell? ⟨w.heap.size, 0, none⟩ = some (.int .i64 d.op) ∧ A.cell? ⟨w.heap.size, 1, none⟩ = some (.int .i64 d.ty) ∧ A.cell? ⟨w.heap.size, 2, none⟩ = some (.slice aA an ac) ∧ A.cell? ⟨w.heap.size, 3, none⟩ = some (.int .i64 d.n) ∧ A.cell? ⟨w.heap.size, 4, none⟩ = some (.int .i64 d.to_)) := Lib.hid fun A hA => by
    obtain ⟨x0, x1, x2, x3, x4, -⟩ := gr_five ((hA.block w.heap.size (by omega)).trans h0W)
    exact ⟨x0, x1, x2, x3, x4⟩
  obtain ⟨x0, x1, x2, x3, x4⟩ := HK.out W (Below.refl _ _)
  obtain ⟨Z, hZ, hbZ, hzZ, h0Z⟩ := gr_one W.drew #[.int .i64 d.ty] 3
  have hbWd : Below W.heap.size W W.drew := (Below.refl _ _).drew
  have hbWZ : Below W.heap.size W Z := hbWd.trans hbZ
  have hRp := repeat_g W.drew.heap.size 0 d.ty an Z (Lib.cell_of_heap h0Z 0) hn1 hab
  have HO : Hid (∀ Y nb, Below Z.heap.size Z Y → IRow Y nb (List.replicate an d.ty) → Calls Try.prog 52 #[.pointer (some ⟨sb, 0, none⟩), insV d aA an ac, .slice (some ⟨nb, 0, none⟩) an an] Y fun e w' => e = .returned (.bool true) ∧ Below w.heap.size w w' ∧ Below W.heap.size W w') := Lib.hid fun Y nb hY hI => by
    have hb1 : Below W.heap.size W Y := hbWZ.trans (hY.mono hbWZ.size)
    refine (of_t n0 sb V fs f vi va d aA an ac _ an an (List.replicate an d.ty) Y ((h.keep hbW).keep hb1) ((ha.ltr hbW).ltr hb1) hab (hI.gns (by simp)) hab hin ho).mono ?_
    rintro e w' ⟨rfl, hb2⟩
    have hb3 : Below W.heap.size W w' := hb1.trans (hb2.mono hb1.size)
    exact ⟨rfl, hbW.trans (hb3.mono (by omega)), hb3⟩
  have HY : Hid (∀ Y, Below Z.heap.size Z Y → Below W.heap.size W Y) := Lib.hid fun Y hY => hbWZ.trans (hY.mono hbWZ.size)
  have e1 : (d.ty != 0) = true := by simpa using hty
  unfold insV at HO ⊢
  have HW : Hid (W = _) := Lib.hid hW
  rw [hop] at HO HW HK ⊢
  have hs0 := HK.out _ hbWd
  have hs1 := HK.out _ hbWZ
  rw [hZ] at hRp hs1
  have HZ : Hid (Z = _) := Lib.hid hZ
  clear hW hbW hzW h0W h ha hin ho hop hty hZ hbZ hzZ h0Z hbWd hbWZ x0 x1 x2 x3 x4
  go_enter Try.func38, Try.ntmps38
  go_upto_region 7 with fail
  rw [← HW.out]
  refine wp_region_noPanic ?_
  refine wp_region_held_drew (S := fun A : World => A.cell? ⟨w.heap.size, 0, none⟩ = some (.int .i64 3) ∧ A.cell? ⟨w.heap.size, 1, none⟩ = some (.int .i64 d.ty) ∧ A.cell? ⟨w.heap.size, 2, none⟩ = some (.slice aA an ac) ∧ A.cell? ⟨w.heap.size, 3, none⟩ = some (.int .i64 d.n) ∧ A.cell? ⟨w.heap.size, 4, none⟩ = some (.int .i64 d.to_)) (by kernel_rfl) hs0 (fun hHeld => ?_)
  refine wpAnyH_take (i := 0) (v := ?_) rfl (by kernel_rfl) (by kernel_rfl) (by kernel_rfl) (fun _ _ _ h => h) (Or.inl ⟨by kernel_rfl, ?_⟩) (by assumption) ?_
  rotate_left
  · (intro w hSw; (try dsimp only at hSw); first | (go_simp; done) | (go_simp; with_reducible rfl))
  try simp only [Act.put, List.setIfInBounds_toArray, List.set_cons_zero, List.set_cons_succ]
  refine wpAnyH_take (i := 1) (v := ?_) rfl (by kernel_rfl) (by kernel_rfl) (by kernel_rfl) (fun _ _ _ h => h) (Or.inl ⟨by kernel_rfl, ?_⟩) (by assumption) ?_
  rotate_left
  · (intro w hSw; (try dsimp only at hSw); first | (go_simp; done) | (go_simp; with_reducible rfl))
  try simp only [Act.put, List.setIfInBounds_toArray, List.set_cons_zero, List.set_cons_succ]
  refine wpAnyH_take (i := 2) (v := ?_) rfl (by kernel_rfl) (by kernel_rfl) (by kernel_rfl) (fun _ _ _ h => h) (Or.inl ⟨by kernel_rfl, ?_⟩) (by assumption) ?_
  rotate_left
  · (intro w hSw; (try dsimp only at hSw); first | (go_simp; done) | (go_simp; with_reducible rfl))
  try simp only [Act.put, List.setIfInBounds_toArray, List.set_cons_zero, List.set_cons_succ]
  refine wpAnyH_take (i := 3) (v := ?_) rfl (by kernel_rfl) (by kernel_rfl) (by kernel_rfl) (fun _ _ _ h => h) (Or.inl ⟨by kernel_rfl, ?_⟩) (by assumption) ?_
  rotate_left
  · (intro w hSw; (try dsimp only at hSw); first | (go_simp; done) | (go_simp; with_reducible rfl))
  try simp only [Act.put, List.setIfInBounds_toArray, List.set_cons_zero, List.set_cons_succ]
  refine wpAnyH_take (i := 4) (v := ?_) rfl (by kernel_rfl) (by kernel_rfl) (by kernel_rfl) (fun _ _ _ h => h) (Or.inl ⟨by kernel_rfl, ?_⟩) (by assumption) ?_
  rotate_left
  · (intro w hSw; (try dsimp only at hSw); first | (go_simp; done) | (go_simp; with_reducible rfl))
  try simp only [Act.put, List.setIfInBounds_toArray, List.set_cons_zero, List.set_cons_succ]
  refine wpAnyH_take (i := 5) (v := ?_) rfl (by kernel_rfl) (by kernel_rfl) (by kernel_rfl) (fun _ _ _ h => h) (Or.inl ⟨by kernel_rfl, ?_⟩) (by assumption) ?_
  rotate_left
  · (intro w hSw; (try dsimp only at hSw); first | (go_simp; done) | (go_simp; with_reducible rfl))
  try simp only [Act.put, List.setIfInBounds_toArray, List.set_cons_zero, List.set_cons_succ]
  refine wpAnyH_take (i := 6) (v := ?_) rfl (by kernel_rfl) (by kernel_rfl) (by kernel_rfl) (fun _ _ _ h => h) (Or.inl ⟨by kernel_rfl, ?_⟩) (by assumption) ?_
  rotate_left
  · (intro w hSw; (try dsimp only at hSw); first | (go_simp; done) | (go_simp; with_reducible rfl))
  try simp only [Act.put, List.setIfInBounds_toArray, List.set_cons_zero, List.set_cons_succ]
  refine wpAnyH_take (i := 7) (v := ?_) rfl (by kernel_rfl) (by kernel_rfl) (by kernel_rfl) (fun _ _ _ h => h) (Or.inl ⟨by kernel_rfl, ?_⟩) (by assumption) ?_
  rotate_left
  · (intro w hSw; (try dsimp only at hSw); first | (go_simp; done) | (go_simp; with_reducible rfl))
  try simp only [Act.put, List.setIfInBounds_toArray, List.set_cons_zero, List.set_cons_succ]
  refine wpAnyH_take (i := 9) (v := ?_) rfl (by kernel_rfl) (by kernel_rfl) (by kernel_rfl) (fun _ _ _ h => h) (Or.inl ⟨by kernel_rfl, ?_⟩) (by assumption) ?_
  rotate_left
  · (intro w hSw; (try dsimp only at hSw); first | (go_simp; done) | (go_simp; with_reducible rfl))
  try simp only [Act.put, List.setIfInBounds_toArray, List.set_cons_zero, List.set_cons_succ]
  refine wpAnyH_take (i := 10) (v := ?_) rfl (by kernel_rfl) (by kernel_rfl) (by kernel_rfl) (fun _ _ _ h => h) (Or.inl ⟨by kernel_rfl, ?_⟩) (by assumption) ?_
  rotate_left
  · (intro w hSw; (try dsimp only at hSw); first | (go_simp; done) | (go_simp; with_reducible rfl))
  try simp only [Act.put, List.setIfInBounds_toArray, List.set_cons_zero, List.set_cons_succ]
  refine wpAnyH_take (i := 11) (v := ?_) rfl (by kernel_rfl) (by kernel_rfl) (by kernel_rfl) (fun _ _ _ h => h) (Or.inl ⟨by kernel_rfl, ?_⟩) (by assumption) ?_
  rotate_left
  · (intro w hSw; (try dsimp only at hSw); first | (go_simp; done) | (go_simp; with_reducible rfl))
  try simp only [Act.put, List.setIfInBounds_toArray, List.set_cons_zero, List.set_cons_succ]
  refine wpAnyH_ready (rs := [8]) (by kernel_rfl) (by simp) ?_
  refine AllReadyH.cons rfl (fun K hK => ?_) (AllReadyH.nil)
  go_simp
  refine hK.out _ _ ?_ (fun hHeld => ?_)
  · ((try dsimp only); first | with_reducible assumption | exact hs1 | exact hs2 | exact hs3)
  clear hK K
  try simp only [Act.put, List.setIfInBounds_toArray, List.set_cons_zero, List.set_cons_succ]
  refine wpAnyH_ready (rs := [12]) (by kernel_rfl) (by simp) ?_
  refine AllReadyH.cons rfl (fun K hK => ?_) (AllReadyH.nil)
  go_simp
  refine hRp.mono ?_
  rintro e Y ⟨nb, rfl, hnb, hI, hbY⟩
  rw [← HZ.out] at hbY
  have hs2 := HK.out _ (HY.out Y hbY)
  have hOc := HO.out Y nb hbY hI
  clear hRp hI hbY hnb
  try dsimp only
  refine hK.out _ _ ?_ (fun hHeld => ?_)
  · ((try dsimp only); first | with_reducible assumption | exact hs1 | exact hs2 | exact hs3)
  clear hK K
  try simp only [Act.put, List.setIfInBounds_toArray, List.set_cons_zero, List.set_cons_succ]
  refine wpAnyH_ready (rs := [13]) (by kernel_rfl) (by simp) ?_
  refine AllReadyH.cons rfl (fun K hK => ?_) (AllReadyH.nil)
  go_simp
  refine hOc.mono ?_
  rintro e X ⟨rfl, hbX, hbX2⟩
  have hs3 := HK.out _ hbX2
  have HE := Lib.hid hbX
  clear hOc hbX hbX2
  try dsimp only
  refine hK.out _ _ ?_ (fun hHeld => ?_)
  · ((try dsimp only); first | with_reducible assumption | exact hs1 | exact hs2 | exact hs3)
  clear hK K
  try simp only [Act.put, List.setIfInBounds_toArray, List.set_cons_zero, List.set_cons_succ]
  refine wpAnyH_take (i := 14) (v := ?_) rfl (by kernel_rfl) (by kernel_rfl) (by kernel_rfl) (fun _ _ _ h => h) (Or.inl ⟨by kernel_rfl, ?_⟩) (by assumption) ?_
  rotate_left
  · (intro w hSw; (try dsimp only at hSw); first | (go_simp; done) | (go_simp; with_reducible rfl))
  try simp only [Act.put, List.setIfInBounds_toArray, List.set_cons_zero, List.set_cons_succ]
  refine wpAnyH_ready (rs := [15]) (by kernel_rfl) (by simp) ?_
  refine AllReadyH.cons rfl (fun K hK => ?_) (AllReadyH.nil)
  go_simp
  refine hK.out _ _ ?_ (fun hHeld => ?_)
  · ((try dsimp only); first | with_reducible assumption | exact hs1 | exact hs2 | exact hs3)
  clear hK K
  try simp only [Act.put, List.setIfInBounds_toArray, List.set_cons_zero, List.set_cons_succ]
  refine wpAnyH_done (by kernel_rfl) ?_ _
  refine NoPanic.normal ?_
  go_wp2
  go_ret
  exact ⟨rfl, HE.out⟩
end Go.Proofs.Ytglobeajmdieaaa
