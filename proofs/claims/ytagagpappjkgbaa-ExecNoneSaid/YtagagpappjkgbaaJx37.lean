/-
  Programs that may be: blocks as package graph reads them; reached, where it says yes.
-/
import Derived.Test.YtagagpappjkgbaaJx36
namespace Go.Proofs.Ytagagpappjkgbaa
set_option linter.unusedVariables false
set_option linter.unusedSimpArgs false
open Go.RowKit Go.Sort

theorem so_slice {w : World} {base : Nat} {T : TypeId} {z : Nat} {v : Value} {n : Nat} {xs : List Value} (h : w.ownsRow base T z v n xs) : ∃ A c, v = .slice A n c := by
  rcases h.2 with ⟨rfl, h0⟩ | ⟨g, cap, cur, hv, _⟩
  · subst h0; exact ⟨none, 0, rfl⟩
  · exact ⟨_, _, hv⟩
def gOf (bl : List SB) (lvs : List Value) : List GB := List.zipWith (fun d lv => ⟨lv, d.preds, d.kind, d.arg, d.to_⟩) bl lvs
def okB (d : SB) : Prop := d.preds.length ≤ 1048576 ∧ (∀ x ∈ d.preds, InG x) ∧ d.to_.length ≤ 1048576 ∧ (∀ x ∈ d.to_, InG x)
theorem gOf_len {bl : List SB} {lvs : List Value} (h : lvs.length = bl.length) : (gOf bl lvs).length = bl.length := by simp [gOf, h]
theorem SBs.gbs {n0 : Nat} {w : World} {v : Value} {bl : List SB} (h : SBs n0 w v bl) (hl : bl.length ≤ 1048576) (hok : ∀ d ∈ bl, okB d) : ∃ lvs, lvs.length = bl.length ∧ GBs n0 w v (gOf bl lvs) := by
  obtain ⟨A, c, hv, hr⟩ := h
  rcases Nat.eq_zero_or_pos bl.length with h0 | h0
  · have : bl = [] := List.eq_nil_of_length_eq_zero h0
    subst this
    exact ⟨[], rfl, A, c, hv, by simp [gOf], by simp [gOf], fun hp => by simp [gOf] at hp⟩
  · obtain ⟨b, o, hA, hbn, hc⟩ := hr h0
    have hlen : ((List.range bl.length).map fun j => (w.cell? ⟨b, o + j * 5, none⟩).getD undef).length = bl.length := by simp
    refine ⟨_, hlen, A, c, by rw [gOf_len hlen]; exact hv, by rw [gOf_len hlen]; exact hl, fun e he => ?_, fun _ => ⟨b, o, hA, hbn, fun j e he => ?_⟩⟩
    · unfold gOf at he
      obtain ⟨j, hj, rfl⟩ := List.getElem_of_mem he
      simp only [List.length_zipWith] at hj
      have hjb : j < bl.length := by omega
      rw [List.getElem_zipWith]
      exact hok _ (List.getElem_mem hjb)
    · unfold gOf at he
      obtain ⟨hj, rfl⟩ := List.getElem?_eq_some_iff.mp he
      simp only [List.length_zipWith] at hj
      have hjb : j < bl.length := by omega
      obtain ⟨lv, pv, tv, h0, h1, h2, h3, h4, h5, h6, h7⟩ := hc j _ (List.getElem?_eq_getElem hjb)
      rw [List.getElem_zipWith]
      obtain ⟨lA, lc, elv, -⟩ := id h5
      refine ⟨pv, tv, ?_, h1, h2, h3, h4, h6, h7, ?_⟩
      · simp [h0]
      · exact ⟨lA, bl[j].list.length, lc, by simp [h0, elv]⟩
theorem GF.keep2 {n0 : Nat} {w w' : World} {f : Value} {g : List GB} (h : GF n0 w f g) (hb : Below n0 w w') : GF n0 w' f g := by
  obtain ⟨s, pA, pn, pc, r, iA, in_, ic, bA, bn, bc, hf, hg, hn⟩ := h
  exact ⟨s, pA, pn, pc, r, iA, in_, ic, bA, bn, bc, hf, hg.keep hb, hn⟩
/-- The subject's function, as a value. -/
def fnV (V : SV) : Value := .agg #[.string V.s, .slice V.pA V.pn V.pc, .int .i64 V.r, .slice V.iA V.in_ V.ic, .slice V.bA V.bn V.bc]
theorem Sbj.gf {n0 sb : Nat} {V : SV} {fs : List SF} {f : SF} {vi va : Value} {w : World} (h : Sbj n0 sb V fs f vi va w) (hok : ∀ d ∈ f.blocks, okB d) : ∃ lvs, lvs.length = f.blocks.length ∧ GF n0 w (fnV V) (gOf f.blocks lvs) := by
  obtain ⟨lvs, h1, h2⟩ := h.br.gbs (by rw [← h.bl]; exact h.bb) hok
  exact ⟨lvs, h1, V.s, V.pA, V.pn, V.pc, V.r, V.iA, V.in_, V.ic, V.bA, V.bn, V.bc, rfl, h2, by rw [gOf_len h1]; exact h.bl⟩

theorem Sbj.s7 {n0 sb : Nat} {V : SV} {fs : List SF} {f : SF} {vi va : Value} {A : World} (h : Sbj n0 sb V fs f vi va A) : A.cell? ⟨sb, 2, none⟩ = some (.string V.s) ∧ A.cell? ⟨sb, 3, none⟩ = some (.slice V.pA V.pn V.pc) ∧ A.cell? ⟨sb, 4, none⟩ = some (.int .i64 V.r) ∧ A.cell? ⟨sb, 5, none⟩ = some (.slice V.iA V.in_ V.ic) ∧ A.cell? ⟨sb, 6, none⟩ = some (.slice V.bA V.bn V.bc) :=
  ⟨Lib.cell_of_heap h.c 2, Lib.cell_of_heap h.c 3, Lib.cell_of_heap h.c 4, Lib.cell_of_heap h.c 5, Lib.cell_of_heap h.c 6⟩
set_option maxRecDepth 100000 in
set_option maxHeartbeats 1000000 in
theorem reached_t (n0 sb : Nat) (V : SV) (fs : List SF) (f : SF) (vi va : Value) (w : World) (h : Sbj n0 sb V fs f vi va w) (hok : ∀ d ∈ f.blocks, okB d) (hO : ∀ lvs : List Value, lvs.length = f.blocks.length → (orderP (gOf f.blocks lvs)).length = f.blocks.length) :
    Calls Try.prog 97 #[.pointer (some ⟨sb, 0, none⟩)] w fun e w' => e = .returned (.bool true) ∧ Below w.heap.size w w' := by
  obtain ⟨lvs, hlv, hgf⟩ := h.gf hok
  have hWd : Below w.heap.size w w.drew := (Below.refl _ _).drew
  have hol := hO lvs hlv
  have hbl : f.blocks.length = V.bn := h.bl.symm
  rw [hbl] at hol
  have hG := order_g n0 (fnV V) (gOf f.blocks lvs) w.drew (hgf.keep2 (hWd.mono h.hn)) h.hn
  rw [hol] at hG
  unfold fnV at hG
  have hs0 := (h.keep hWd).s7
  have HS : Hid (∀ A, Below w.heap.size w A → A.cell? ⟨sb, 2, none⟩ = some (.string V.s) ∧ A.cell? ⟨sb, 3, none⟩ = some (.slice V.pA V.pn V.pc) ∧ A.cell? ⟨sb, 4, none⟩ = some (.int .i64 V.r) ∧ A.cell? ⟨sb, 5, none⟩ = some (.slice V.iA V.in_ V.ic) ∧ A.cell? ⟨sb, 6, none⟩ = some (.slice V.bA V.bn V.bc)) := Lib.hid fun A hA => (h.keep hA).s7
  clear h hok hO hlv hgf hol hbl hWd
  go_enter Try.func97, Try.ntmps97
  go_upto_region 1 with fail
  refine wp_region_noPanic ?_
  refine wp_region_held_drew (S := fun A : World => A.cell? ⟨sb, 2, none⟩ = some (.string V.s) ∧ A.cell? ⟨sb, 3, none⟩ = some (.slice V.pA V.pn V.pc) ∧ A.cell? ⟨sb, 4, none⟩ = some (.int .i64 V.r) ∧ A.cell? ⟨sb, 5, none⟩ = some (.slice V.iA V.in_ V.ic) ∧ A.cell? ⟨sb, 6, none⟩ = some (.slice V.bA V.bn V.bc)) (by kernel_rfl) hs0 (fun hHeld => ?_)
  refine wpAnyH_take (i := 0) (v := ?_) rfl (by kernel_rfl) (by kernel_rfl) (by kernel_rfl) (fun _ _ _ h => h) (Or.inl ⟨by kernel_rfl, ?_⟩) (by assumption) ?_
  rotate_left
  · (intro w hSw; (try dsimp only at hSw); first | (go_simp; done) | (go_simp; with_reducible rfl))
  try simp only [Act.put, List.setIfInBounds_toArray, List.set_cons_zero, List.set_cons_succ]
  refine wpAnyH_take (i := 1) (v := ?_) rfl (by kernel_rfl) (by kernel_rfl) (by kernel_rfl) (fun _ _ _ h => h) (Or.inl ⟨by kernel_rfl, ?_⟩) (by assumption) ?_
  rotate_left
  · (intro w hSw; (try dsimp only at hSw); first | (go_simp; done) | (go_simp; with_reducible rfl))
  try simp only [Act.put, List.setIfInBounds_toArray, List.set_cons_zero, List.set_cons_succ]
  refine wpAnyH_take (i := 2) (v := ?_) rfl (by kernel_rfl) (by kernel_rfl) (by kernel_rfl) (fun _ _ _ h => h) (Or.inl ⟨by kernel_rfl, ?_⟩) (by assumption) ?_
  rotate_left
  · (intro w hSw; (try dsimp only at hSw); first | (go_simp; done) | (go_simp; with_reducible rfl))
  try simp only [Act.put, List.setIfInBounds_toArray, List.set_cons_zero, List.set_cons_succ]
  refine wpAnyH_take (i := 3) (v := ?_) rfl (by kernel_rfl) (by kernel_rfl) (by kernel_rfl) (fun _ _ _ h => h) (Or.inl ⟨by kernel_rfl, ?_⟩) (by assumption) ?_
  rotate_left
  · (intro w hSw; (try dsimp only at hSw); first | (go_simp; done) | (go_simp; with_reducible rfl))
  try simp only [Act.put, List.setIfInBounds_toArray, List.set_cons_zero, List.set_cons_succ]
  refine wpAnyH_take (i := 6) (v := ?_) rfl (by kernel_rfl) (by kernel_rfl) (by kernel_rfl) (fun _ _ _ h => h) (Or.inl ⟨by kernel_rfl, ?_⟩) (by assumption) ?_
  rotate_left
  · (intro w hSw; (try dsimp only at hSw); first | (go_simp; done) | (go_simp; with_reducible rfl))
  try simp only [Act.put, List.setIfInBounds_toArray, List.set_cons_zero, List.set_cons_succ]
  refine wpAnyH_take (i := 7) (v := ?_) rfl (by kernel_rfl) (by kernel_rfl) (by kernel_rfl) (fun _ _ _ h => h) (Or.inl ⟨by kernel_rfl, ?_⟩) (by assumption) ?_
  rotate_left
  · (intro w hSw; (try dsimp only at hSw); first | (go_simp; done) | (go_simp; with_reducible rfl))
  try simp only [Act.put, List.setIfInBounds_toArray, List.set_cons_zero, List.set_cons_succ]
  refine wpAnyH_take (i := 8) (v := ?_) rfl (by kernel_rfl) (by kernel_rfl) (by kernel_rfl) (fun _ _ _ h => h) (Or.inl ⟨by kernel_rfl, ?_⟩) (by assumption) ?_
  rotate_left
  · (intro w hSw; (try dsimp only at hSw); first | (go_simp; done) | (go_simp; with_reducible rfl))
  try simp only [Act.put, List.setIfInBounds_toArray, List.set_cons_zero, List.set_cons_succ]
  refine wpAnyH_take (i := 9) (v := ?_) rfl (by kernel_rfl) (by kernel_rfl) (by kernel_rfl) (fun _ _ _ h => h) (Or.inl ⟨by kernel_rfl, ?_⟩) (by assumption) ?_
  rotate_left
  · (intro w hSw; (try dsimp only at hSw); first | (go_simp; done) | (go_simp; with_reducible rfl))
  try simp only [Act.put, List.setIfInBounds_toArray, List.set_cons_zero, List.set_cons_succ]
  refine wpAnyH_take (i := 10) (v := ?_) rfl (by kernel_rfl) (by kernel_rfl) (by kernel_rfl) (fun _ _ _ h => h) (Or.inl ⟨by kernel_rfl, ?_⟩) (by assumption) ?_
  rotate_left
  · (intro w hSw; (try dsimp only at hSw); first | (go_simp; done) | (go_simp; with_reducible rfl))
  try simp only [Act.put, List.setIfInBounds_toArray, List.set_cons_zero, List.set_cons_succ]
  refine wpAnyH_take (i := 11) (v := ?_) rfl (by kernel_rfl) (by kernel_rfl) (by kernel_rfl) (fun _ _ _ h => h) (Or.inl ⟨by kernel_rfl, ?_⟩) (by assumption) ?_
  rotate_left
  · (intro w hSw; (try dsimp only at hSw); first | (go_simp; done) | (go_simp; with_reducible rfl))
  try simp only [Act.put, List.setIfInBounds_toArray, List.set_cons_zero, List.set_cons_succ]
  refine wpAnyH_ready (rs := [4]) (by kernel_rfl) (by simp) ?_
  refine AllReadyH.cons rfl (fun K hK => ?_) (AllReadyH.nil)
  go_simp
  refine hG.mono ?_
  rintro e Y ⟨v, rfl, hv, hbY⟩
  obtain ⟨A, c, rfl⟩ := so_slice hv
  have hbw : Below w.heap.size w Y := (Below.refl w.heap.size w).drew.trans hbY
  have hs1 := HS.out Y hbw
  have HE := Lib.hid hbw
  clear hG hv hbY hbw
  try dsimp only
  refine hK.out _ _ ?_ (fun hHeld => ?_)
  · ((try dsimp only); first | with_reducible assumption | exact hs1)
  clear hK K
  try simp only [Act.put, List.setIfInBounds_toArray, List.set_cons_zero, List.set_cons_succ]
  refine wpAnyH_take (i := 5) (v := ?_) rfl (by kernel_rfl) (by kernel_rfl) (by kernel_rfl) (fun _ _ _ h => h) (Or.inl ⟨by kernel_rfl, ?_⟩) (by assumption) ?_
  rotate_left
  · (intro w hSw; (try dsimp only at hSw); first | (go_simp; done) | (go_simp; with_reducible rfl))
  try simp only [Act.put, List.setIfInBounds_toArray, List.set_cons_zero, List.set_cons_succ]
  refine wpAnyH_take (i := 12) (v := ?_) rfl (by kernel_rfl) (by kernel_rfl) (by kernel_rfl) (fun _ _ _ h => h) (Or.inl ⟨by kernel_rfl, ?_⟩) (by assumption) ?_
  rotate_left
  · (intro w hSw; (try dsimp only at hSw); first | (go_simp; done) | (go_simp; with_reducible rfl))
  try simp only [Act.put, List.setIfInBounds_toArray, List.set_cons_zero, List.set_cons_succ]
  refine wpAnyH_ready (rs := [13]) (by kernel_rfl) (by simp) ?_
  refine AllReadyH.cons rfl (fun K hK => ?_) (AllReadyH.nil)
  go_simp
  refine hK.out _ _ ?_ (fun hHeld => ?_)
  · ((try dsimp only); first | with_reducible assumption | exact hs1)
  clear hK K
  try simp only [Act.put, List.setIfInBounds_toArray, List.set_cons_zero, List.set_cons_succ]
  refine wpAnyH_done (by kernel_rfl) ?_ _
  refine NoPanic.normal ?_
  go_wp2
  go_ret
  exact ⟨rfl, HE.out⟩
end Go.Proofs.Ytagagpappjkgbaa
