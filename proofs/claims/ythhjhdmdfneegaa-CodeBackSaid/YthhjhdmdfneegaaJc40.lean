/-
  Which programs may be, by the reference: what is reached.
-/
import Derived.Test.YthhjhdmdfneegaaJc31
import Derived.Test.YthhjhdmdfneegaaJc39
namespace Go.Proofs.Ythhjhdmdfneegaa
set_option linter.unusedVariables false
set_option linter.unusedSimpArgs false
open Go.RowKit Go.Shelf

def gOf (bl : List SB) (lvs : List Value) : List GB := List.zipWith (fun d lv => ⟨lv, d.preds, d.kind, d.arg, d.to_⟩) bl lvs
def okB (d : SB) : Prop := d.preds.length ≤ 1048576 ∧ (∀ x ∈ d.preds, InG x) ∧ d.to_.length ≤ 1048576 ∧ (∀ x ∈ d.to_, InG x)
theorem gOf_len {bl : List SB} {lvs : List Value} (h : lvs.length = bl.length) : (gOf bl lvs).length = bl.length := by simp [gOf, h]
theorem SBs.gbs {n0 : Nat} {w : World} {v : Value} {bl : List SB} (h : SBs n0 w v bl) (hl : bl.length ≤ 1048576) (hok : ∀ d ∈ bl, okB d) : ∃ lvs, lvs.length = bl.length ∧ GBs n0 w v (gOf bl lvs) := by
  obtain ⟨A, c, hv, hr⟩ := h
  rcases Nat.eq_zero_or_pos bl.length with h0 | h0
  · have : bl = [] := List.eq_nil_of_length_eq_zero h0
    subst this
    exact ⟨[], rfl, A, c, hv, by simp [gOf], by simp [gOf], fun hp => by simp [gOf] at hp⟩
  · obtain ⟨b, o, hA, hbn, hc⟩ := hr h0
    have hlen : ((List.range bl.length).map fun j => (w.cell? ⟨b, o + j * 5, none⟩).getD undef).length = bl.length := by simp
    refine ⟨_, hlen, A, c, by rw [gOf_len hlen]; exact hv, by rw [gOf_len hlen]; exact hl, fun e he => ?_, fun _ => ⟨b, o, hA, hbn, fun j e he => ?_⟩⟩
    · unfold gOf at he
      obtain ⟨j, hj, rfl⟩ := List.getElem_of_mem he
      simp only [List.length_zipWith] at hj
      have hjb : j < bl.length := by omega
      rw [List.getElem_zipWith]
      exact hok _ (List.getElem_mem hjb)
    · unfold gOf at he
      obtain ⟨hj, rfl⟩ := List.getElem?_eq_some_iff.mp he
      simp only [List.length_zipWith] at hj
      have hjb : j < bl.length := by omega
      obtain ⟨lv, pv, tv, h0, h1, h2, h3, h4, h5, h6, h7⟩ := hc j _ (List.getElem?_eq_getElem hjb)
      rw [List.getElem_zipWith]
      obtain ⟨lA, lc, elv, -⟩ := id h5
      refine ⟨pv, tv, ?_, h1, h2, h3, h4, h6, h7, ?_⟩
      · simp [h0]
      · exact ⟨lA, bl[j].list.length, lc, by simp [h0, elv]⟩
theorem GF.keep2 {n0 : Nat} {w w' : World} {f : Value} {g : List GB} (h : GF n0 w f g) (hb : Below n0 w w') : GF n0 w' f g := by
  obtain ⟨s, pA, pn, pc, r, iA, in_, ic, bA, bn, bc, hf, hg, hn⟩ := h
  exact ⟨s, pA, pn, pc, r, iA, in_, ic, bA, bn, bc, hf, hg.keep hb, hn⟩
theorem gOf_mem : ∀ (bl : List SB) (lvs : List Value) (d : GB), d ∈ gOf bl lvs → ∃ k ∈ bl, d.to_ = k.to_
  | [], _, d, h => by simp [gOf] at h
  | _ :: _, [], d, h => by simp [gOf] at h
  | k :: bl, v :: lvs, d, h => by
    have h' : d = ⟨v, k.preds, k.kind, k.arg, k.to_⟩ ∨ d ∈ gOf bl lvs := by simpa [gOf] using h
    rcases h' with rfl | h'
    · exact ⟨k, by simp, rfl⟩
    · obtain ⟨k', h1, h2⟩ := gOf_mem bl lvs d h'
      exact ⟨k', by simp [h1], h2⟩
theorem gOf_tos {bl : List SB} {lvs : List Value} (hl : lvs.length = bl.length) (h : ∀ k ∈ bl, ∀ x ∈ k.to_, 1 ≤ x ∧ x < (bl.length : Int)) : tosOk (gOf bl lvs) := by
  intro b t ht
  unfold tosG at ht
  rw [gOf_len hl]
  cases hb : (gOf bl lvs)[b]? with
  | none => rw [hb] at ht; simp at ht
  | some d =>
    rw [hb] at ht
    simp only [Option.map_some, Option.getD_some] at ht
    obtain ⟨k, hk, e⟩ := gOf_mem bl lvs d (List.mem_of_getElem? hb)
    rw [e] at ht
    have := h k hk t ht
    omega
/-- A function as package graph's reference reads it. -/
theorem FA.gf {n0 : Nat} {V : RV} {f : SF} {w : World} (h : FA n0 V f w) (hs : FS f) (hto : ∀ k ∈ f.blocks, ∀ x ∈ k.to_, 1 ≤ x ∧ x < (f.blocks.length : Int)) : ∃ g, GF n0 w (.agg V.cs) g ∧ g.length = V.bn ∧ tosOk g := by
  obtain ⟨lvs, h1, h2⟩ := h.b.gbs (Nat.le_trans hs.b (by decide)) (fun d hd => ⟨Nat.le_trans (hs.preds d hd) (by decide), hs.gp d hd, Nat.le_trans (hs.tos d hd) (by decide), hs.gt d hd⟩)
  exact ⟨gOf f.blocks lvs, ⟨V.nm, V.pA, V.pn, V.pc, V.r, V.iA, V.in_, V.ic, V.bA, V.bn, V.bc, rfl, h2, by rw [gOf_len h1]; exact h.bl⟩, by rw [gOf_len h1]; exact h.bl.symm, gOf_tos h1 hto⟩
set_option maxRecDepth 100000 in
set_option maxHeartbeats 16000000 in
theorem reach_c (n0 : Nat) (V : RV) (f : SF) (w : World) (h : FA n0 V f w) (hs : FS f) (hn : n0 ≤ w.heap.size) (hto : ∀ k ∈ f.blocks, ∀ x ∈ k.to_, 1 ≤ x ∧ x < (f.blocks.length : Int)) :
    Calls Try.prog 29 #[.agg V.cs] w (BP True w) := by
  obtain ⟨g, hg, hgl, htg⟩ := h.gf hs hto
  obtain ⟨W, hW, hbW, hzW, h0W⟩ := gr_one w V.cs 43
  have hbl := h.bl
  have hil := h.il
  have hFW := h.keep (hbW.mono hn)
  have HFA : Hid (∀ X, Below W.heap.size W X → FA n0 V f X) := Lib.hid fun X hX => h.keep ((hbW.trans (hX.mono (by omega))).mono hn)
  have hS := hFW.b
  have hI := hFW.i
  obtain ⟨nm, pA, pn, pc, rt, iA, in_, ic, bA, bn, bc⟩ := V
  simp only at hbl hil hS hI
  unfold RV.cs at h0W hW ⊢
  simp only at h0W hW ⊢
  have HC : Hid (∀ X, Below W.heap.size W X → X.cell? ⟨w.heap.size, 0, none⟩ = some (.string nm) ∧ X.cell? ⟨w.heap.size, 1, none⟩ = some (.slice pA pn pc) ∧ X.cell? ⟨w.heap.size, 2, none⟩ = some (.int .i64 rt) ∧ X.cell? ⟨w.heap.size, 3, none⟩ = some (.slice iA in_ ic) ∧ X.cell? ⟨w.heap.size, 4, none⟩ = some (.slice bA bn bc)) := Lib.hid fun X hX => by
    obtain ⟨a, b, c, d, e, -⟩ := gr_five ((hX.block w.heap.size (by omega)).trans h0W)
    exact ⟨a, b, c, d, e⟩
  have HB0 : Hid (∀ X, Below W.heap.size W X → Below w.heap.size w X) := Lib.hid fun X hX => hbW.trans (hX.mono (by omega))
  have HW := Lib.hid hW
  have Hbl := Lib.hid hbl
  have Hil := Lib.hid hil
  have HS := Lib.hid hS
  have HI := Lib.hid hI
  have hn1 : n0 ≤ W.heap.size := by omega
  have hbb : bn ≤ 1000 := by rw [hbl]; exact hs.b
  have hib : in_ ≤ 1000 := by rw [hil]; exact hs.i
  have Hs := Lib.hid hs
  obtain ⟨c0, c1, c2, c3, c4⟩ := HC.out W (Below.refl _ _)
  clear hW hbW h0W hbl hil h hS hI hs hFW
  clear HS HI HFA Hs
  have hg : GF n0 w (.agg #[.string nm, .slice pA pn pc, .int .i64 rt, .slice iA in_ ic, .slice bA bn bc]) g := hg
  have hgl : g.length = bn := hgl
  have hF : ∀ X, Below W.heap.size W X → Calls Try.prog 54 #[.agg #[.string nm, .slice pA pn pc, .int .i64 rt, .slice iA in_ ic, .slice bA bn bc], .int .i64 0, .int .i64 (-1)] X fun e w' => ∃ v, e = .returned v ∧ w'.ownsRow X.heap.size 4 1 v bn (boolsV (fromP g 0 (-1))) ∧ Below X.heap.size X w' := fun X hX => by
    have := from_g n0 _ g 0 (-1) X (hg.keep2 ((HB0.out X hX).mono hn)) (Nat.le_trans hn1 hX.size) htg (by omega) (by unfold InG; omega) (by unfold InG; omega)
    rw [hgl] at this
    exact this
  have HF := Lib.hid hF
  have HRl : Hid ((fromP g 0 (-1)).length = bn) := Lib.hid (by rw [fromP_len, hgl])
  obtain ⟨R, hR⟩ : ∃ R, R = fromP g 0 (-1) := ⟨_, rfl⟩
  have hF0 := hF W (Below.refl _ _)
  rw [← hR] at hF0 HRl
  clear hF HF hg hgl htg hR hto
  go_enter Try.func29, Try.ntmps29
  go_upto_region 1 with fail
  rw [← HW.out]
  go_wp2_with (go_at_call 54; refine hF0.mono ?_; rintro e w2 ⟨v, rfl, ho, hb⟩; obtain ⟨A2, q2, rfl⟩ := gr_slice ho; have HO := Lib.hid ho; have HB2 := Lib.hid (HB0.out _ hb); clear hF0 ho hb c0 c1 c2 c3 c4)
  go_loopw [4] (fun u4 wr => ∃ i : Nat, i ≤ bn ∧ u4 = .int .i64 (i : Int) ∧ wr = w2) (fun u4 _ => bn - (intOf u4).toNat)
  case atStart => exact ⟨0, Nat.zero_le _, rfl, rfl⟩
  case round =>
    obtain ⟨i, hi, rfl, hw⟩ := hrel
    rw [hw]
    clear hw
    by_cases hlt : i < bn
    · have hil : i < R.length := by rw [HRl.out]; exact hlt
      obtain ⟨gb, rfl, -, -, -⟩ := gr_some HO.out (by omega)
      have hx : w2.cell? ⟨gb, i, none⟩ = some (.bool R[i]) := (HO.out.cellAt i (by omega)).trans (by simp [boolsV, List.getElem?_eq_getElem hil])
      obtain ⟨x, hxx⟩ : ∃ x, x = R[i] := ⟨_, rfl⟩
      rw [← hxx] at hx
      clear hxx hil
      cases x
      · go_wp2_with fail
        go_ret
        exact BP.no HB2.out
      · go_wp2_with fail
        go_roundw
        case rel => exact ⟨i + 1, by omega, by go_num, trivial⟩
        case measure => simp [intOf]; omega
    · go_wp2_with fail
      go_ret
      exact BP.yes _ HB2.out trivial
end Go.Proofs.Ythhjhdmdfneegaa
