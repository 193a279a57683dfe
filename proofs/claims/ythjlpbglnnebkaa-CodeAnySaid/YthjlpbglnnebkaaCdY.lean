/-
  Programs as bytes: the base there and back; awake.
-/
import Derived.Test.YthjlpbglnnebkaaCdW
import Derived.Test.YthjlpbglnnebkaaCdX
import Derived.Test.YthjlpbglnnebkaaSoY
import Derived.Deep.RegionWith
namespace Go.Proofs.Ythjlpbglnnebkaa
open Go.RowKit Go.Shelf
set_option linter.unusedVariables false
set_option linter.unusedSimpArgs false

def baseN : List (List UInt8 × SF) := [([109, 97, 105, 110], baseM), ([102], baseF)]
theorem CFs.mono {n0 n1 : Nat} {w : World} {v : Value} {l : List (List UInt8 × SF)} (h : CFs n0 w v l) (hn : n0 ≤ n1) : CFs n1 w v l := by
  obtain ⟨A, c, hv, hr⟩ := h
  refine ⟨A, c, hv, fun hp => ?_⟩
  obtain ⟨b, o, hA, hbn, hc⟩ := hr hp
  refine ⟨b, o, hA, by omega, fun j d hd => ?_⟩
  obtain ⟨pv, iv, bv, h0, h1, h2, h3, h4, h5, h6, h7⟩ := hc j d hd
  exact ⟨pv, iv, bv, h0, h1, h2, h3, h4, h5.mono hn, h6.mono hn, h7.mono hn⟩
theorem below_undrew {Y Z : World} (h : Below Y.drew.heap.size Y.drew Z) : Below Y.heap.size Y Z := ⟨h.os, h.tape, h.output, h.size, h.block⟩
theorem base_cfs {w w' : World} {fb bb : Nat} {v0 v1 : FV} (h : BaseAt w w' fb bb v0 v1) : CFs w'.heap.size w' (.slice (some ⟨fb, 0, none⟩) 2 2) baseN := by
  refine ⟨some ⟨fb, 0, none⟩, 2, rfl, fun _ => ⟨fb, 0, rfl, h.hi, fun j d hd => ?_⟩⟩
  have c : ∀ q, w'.cell? ⟨fb, 0 + q, none⟩ = (funRow [(baseM, v0), (baseF, v1)])[q]? := fun q => by rw [Nat.zero_add, Lib.cell_of_heap h.row q, List.getElem?_toArray]
  have hlt := Nat.le_of_lt h.hi
  match j, hd with
  | 0, hd =>
    injection hd with hd
    subst hd
    refine ⟨v0.p, v0.i, v0.b, ?_, (c 1).trans rfl, (c 2).trans rfl, (c 3).trans rfl, (c 4).trans rfl, h.has.1.1.mono hlt, h.has.1.2.1.mono hlt, h.has.1.2.2.mono hlt⟩
    rw [c 0]
    show some (Value.string v0.s) = _
    rw [h.s0]
  | 1, hd =>
    injection hd with hd
    subst hd
    refine ⟨v1.p, v1.i, v1.b, ?_, (c 6).trans rfl, (c 7).trans rfl, (c 8).trans rfl, (c 9).trans rfl, h.has.2.1.1.mono hlt, h.has.2.1.2.1.mono hlt, h.has.2.1.2.2.mono hlt⟩
    rw [show 0 + 1 * 5 = 0 + 5 from rfl, c 5]
    show some (Value.string v1.s) = _
    rw [h.s1]
  | j + 2, hd => cases hd
theorem base_back : decodeQ (cdProg 0 baseN) = some (0, baseN) := by kernel_rfl
theorem base_len : (cdProg 0 baseN).length ≤ 2000 := Nat.le_of_ble_eq_true (by kernel_rfl)
theorem base_funL : ∀ d ∈ baseN, FunL d.2 := by
  intro d hd
  unfold baseN at hd
  rcases List.mem_cons.mp hd with rfl | hd
  · exact ⟨by decide, by decide, by decide⟩
  · rcases List.mem_cons.mp hd with rfl | hd
    · exact ⟨by decide, by decide, by decide⟩
    · cases hd
theorem base_fits : ∀ d ∈ baseN, (d.2.params.length ≤ 1048576 ∧ d.2.ins.length ≤ 1048576 ∧ d.2.blocks.length ≤ 1048576) ∧ (∀ x ∈ d.2.ins, InG x.n ∧ x.args.length ≤ 1048576) ∧ (∀ k ∈ d.2.blocks, k.list.length ≤ 1048576 ∧ k.preds.length ≤ 1048576 ∧ k.to_.length ≤ 1048576) := by
  intro d hd
  unfold baseN at hd
  unfold InG
  rcases List.mem_cons.mp hd with rfl | hd
  · exact ⟨by decide, by decide, by decide⟩
  · rcases List.mem_cons.mp hd with rfl | hd
    · exact ⟨by decide, by decide, by decide⟩
    · cases hd
theorem num_300 (w : World) : Calls Try.prog 8 #[.int .u64 300] w fun e w' => e = .returned (.string ⟨#[172, 2]⟩) ∧ Below w.heap.size w w' := by
  have h := num_c 300 (by decide) w
  rw [show cdN 300 = [172, 2] from by kernel_rfl] at h
  exact h
set_option maxRecDepth 100000 in
set_option maxHeartbeats 8000000 in
theorem awake12_any (w : World) : Calls Try.prog 12 #[] w fun e w' => e = .returned (.bool true) ∧ Below w.heap.size w w' := by
  have hB0 := base_any w
  obtain ⟨bl, hbl⟩ : ∃ bl, bl = cdProg 0 baseN := ⟨_, rfl⟩
  have hbk : decodeQ bl = some (0, baseN) := by rw [hbl]; exact base_back
  have hlen : bl.length ≤ 1099511627776 := by rw [hbl]; exact Nat.le_trans base_len (by decide)
  have hE : ∀ (X : World) (fb : Nat), CFs X.heap.size X (.slice (some ⟨fb, 0, none⟩) 2 2) baseN → Calls Try.prog 21 #[.agg #[.slice (some ⟨fb, 0, none⟩) 2 2, .int .i64 0]] X fun e w' => e = .returned (.string ⟨bl.toArray⟩) ∧ Below X.heap.size X w' := fun X fb h => by
    rw [hbl]
    exact encode_c 0 baseN _ 2 2 X h (by decide) base_fits (Nat.le_trans base_len (by decide))
  have hD := fun X => decode_c bl hlen X
  rw [hbk] at hD
  clear hbk hlen hbl
  go_enter Try.func12, Try.ntmps12
  go_upto_region 2 with (first
    | (go_at_call 31; refine hB0.mono ?_; rintro e w1 ⟨fb, bb, v0, v1, rfl, hB⟩; have hE1 := hE w1 fb (base_cfs hB); have B1 := Lib.hid hB.below; clear hB hB0 hE)
    | (go_at_call 21; refine hE1.mono ?_; rintro e w2 ⟨rfl, hb⟩; have B2 := Lib.hid (B1.out.trans (hb.mono B1.out.size)); clear hb hE1)
    | (go_at_call 22; refine (hD _).mono ?_; rintro e w3 ⟨hd, hb⟩; obtain ⟨v, rfl, hf⟩ := hd; obtain ⟨A3, c3, hv⟩ := hf.slice; rw [show baseN.length = 2 from rfl] at hv; subst hv; have F3 := Lib.hid hf.cfs; have B3 := Lib.hid (B2.out.trans (hb.mono B2.out.size)); clear hb hf hD))
  generalize hY : World.alloc _ _ = Y
  have h0Y : Y.heap[w3.heap.size]? = some (.cells #[.slice A3 2 c3, .int .i64 0] 36 (0, 0)) := by rw [← hY]; exact heap_alloc_new w3 _
  have hbY : Below w3.heap.size w3 Y := by rw [← hY]; exact (Below.refl _ _).alloc (Nat.le_refl _) _
  have hzY : w3.heap.size < Y.heap.size := gr_in h0Y
  have HY : Hid (∀ X, Below Y.heap.size Y X → X.cell? ⟨w3.heap.size, 0, none⟩ = some (.slice A3 2 c3) ∧ X.cell? ⟨w3.heap.size, 1, none⟩ = some (.int .i64 0) ∧ CFs X.heap.size X (.slice A3 2 c3) baseN) := Lib.hid fun X hX => by
    have h0 := (hX.block _ hzY).trans h0Y
    exact ⟨Lib.cell_of_heap h0 0, Lib.cell_of_heap h0 1, ((F3.out.keep hbY).keep (hX.mono (Nat.le_of_lt hzY))).mono (Nat.le_trans (Nat.le_of_lt hzY) hX.size)⟩
  have HBY : Hid (Below w.heap.size w Y) := Lib.hid (B3.out.trans (hbY.mono B3.out.size))
  obtain ⟨y0, y1, -⟩ := HY.out Y (Below.refl _ _)
  have hB := fun X => base_any X
  have hN := fun X => num_300 X
  clear hY h0Y hbY hzY
  obtain ⟨pb, hpb⟩ : ∃ pb, pb = w3.heap.size := ⟨_, rfl⟩
  rw [← hpb] at HY y0 y1 ⊢
  clear hpb
  go_region_with (first
    | (go_at_call 31; refine (hB _).mono ?_; rintro e w5 ⟨fb, bb, v0, v1, rfl, hBA⟩; have b5 : Below Y.heap.size Y w5 := below_undrew hBA.below; obtain ⟨z0, z1, zf⟩ := HY.out w5 b5; have hS : Calls Try.prog 24 #[.agg #[.slice A3 2 c3, .int .i64 0], .agg #[.slice (some ⟨fb, 0, none⟩) 2 2, .int .i64 0]] w5 fun e w' => e = .returned (.bool true) ∧ Below w5.heap.size w5 w' := sameProg_t w5.heap.size 0 baseN A3 (some ⟨fb, 0, none⟩) c3 2 w5 zf (base_cfs hBA) ⟨by decide, base_funL⟩ (Nat.le_refl _); have B5 := Lib.hid b5; clear b5 hBA zf hB)
    | (go_at_call 24; refine hS.mono ?_; rintro e w6 ⟨rfl, hb⟩; have B6 := Lib.hid (B5.out.trans (hb.mono B5.out.size)); clear hb hS)
    | (go_at_call 8; refine (hN _).mono ?_; rintro e w7 ⟨rfl, hb⟩; have B7 := Lib.hid (B6.out.trans (hb.mono B6.out.size)); clear hb hN))
  all_goals
    go_wp2
    go_ret
    exact ⟨rfl, HBY.out.trans (B7.out.mono HBY.out.size)⟩
end Go.Proofs.Ythjlpbglnnebkaa
