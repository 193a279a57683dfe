/-
  Programs that may be: where Prog and Func say no at once.
-/
import Derived.Test.YtglobeajmdieaaaJe21
import Derived.Test.YtglobeajmdieaaaJe48
import Derived.StillTailTactics
namespace Go.Proofs.Ytglobeajmdieaaa
set_option linter.unusedVariables false
set_option linter.unusedSimpArgs false
open Go.RowKit

set_option maxRecDepth 100000 in
set_option maxHeartbeats 8000000 in
theorem prog_no (fA : Option Addr) (fn fc : Nat) (mn : Int) (fs : List SF) (w : World) (hf : SFs w.heap.size w (.slice fA fn fc) fs) (hl : fn = fs.length) (hfb : fn ≤ 1048576) (hb : beginsP fs mn = false) :
    Calls Try.prog 6 #[.agg #[.slice fA fn fc, .int .i64 mn]] w fun e w' => e = .returned (.tuple #[.int .i64 8, .int .i64 0]) ∧ Below w.heap.size w w' := by
  obtain ⟨W, hW, hbW, hzW, h0W⟩ := gr_one w #[.slice fA fn fc, .int .i64 mn] 26
  have hB := begins_g fA fn fc mn fs W ((hf.keep hbW).mono (by omega)) hl hfb
  rw [hb] at hB
  have u0 := Lib.cell_of_heap h0W 0
  have u1 := Lib.cell_of_heap h0W 1
  have HbW := Lib.hid hbW
  have HW := Lib.hid hW
  clear hf hl hfb hb hW hbW hzW h0W
  go_enter Try.func6, Try.ntmps6
  go_upto_region 1 with fail
  rw [← HW.out]
  go_wp2_with (go_at_call 15; refine hB.mono ?_; rintro e X ⟨rfl, hbX⟩; have HbX := Lib.hid (HbW.out.trans (hbX.mono HbW.out.size)); clear hbX hB)
  go_ret2
  exact ⟨rfl, HbX.out⟩
set_option maxRecDepth 100000 in
set_option maxHeartbeats 8000000 in
theorem func_no (fA : Option Addr) (fn fc : Nat) (mn k : Int) (w : World) (hk : hasG fn k = false) :
    Calls Try.prog 8 #[.agg #[.slice fA fn fc, .int .i64 mn], .int .i64 k] w fun e w' => e = .returned (.int .i64 8) ∧ Below w.heap.size w w' := by
  obtain ⟨W, hW, hbW, hzW, h0W⟩ := gr_one w #[.slice fA fn fc, .int .i64 mn] 26
  have hH := sound_has_g fA fn fc mn k W
  rw [hk] at hH
  have u0 := Lib.cell_of_heap h0W 0
  have u1 := Lib.cell_of_heap h0W 1
  have HbW := Lib.hid hbW
  have HW := Lib.hid hW
  clear hk hW hbW hzW h0W
  go_enter Try.func8, Try.ntmps8
  go_upto_region 1 with fail
  rw [← HW.out]
  go_wp2_with (go_at_call 17; refine hH.mono ?_; rintro e X ⟨rfl, hbX⟩; have HbX := Lib.hid (HbW.out.trans (hbX.mono HbW.out.size)); clear hbX hH)
  go_ret
  exact ⟨rfl, HbX.out⟩
set_option maxRecDepth 100000 in
set_option maxHeartbeats 8000000 in
theorem func_shape (n0 : Nat) (fA : Option Addr) (fn fc : Nat) (mn : Int) (fs : List SF) (k : Nat) (f : SF) (hf : fs[k]? = some f) (w : World) (hn : n0 ≤ w.heap.size) (hF : SFs n0 w (.slice fA fn fc) fs) (hfl : fn = fs.length) (hfb : fn ≤ 1048576) (hbb : f.blocks.length ≤ 1048576) (htb : ∀ d ∈ f.blocks, d.to_.length ≤ 1048576) (hs : shapedP f.ret f.ins.length f.blocks = false) :
    Calls Try.prog 8 #[.agg #[.slice fA fn fc, .int .i64 mn], .int .i64 (k : Int)] w fun e w' => e = .returned (.int .i64 1) ∧ Below w.heap.size w w' := by
  obtain ⟨hkl, hfk⟩ := List.getElem?_eq_some_iff.mp hf
  obtain ⟨W, hW, hbW, hzW, h0W⟩ := gr_one w #[.slice fA fn fc, .int .i64 mn] 26
  have hH := sound_has_g fA fn fc mn (k : Int) W
  have ehas : hasG fn (k : Int) = true := by unfold hasG; simp; omega
  rw [ehas] at hH
  have HW := Lib.hid hW
  obtain ⟨b, o, s, pA, pc, iA, ic, bA, bc, efA, hbn, hc0, hc1, hc2, hc3, hc4, hgp, hgi, hgb⟩ := hF.at hkl
  subst efA
  rw [hfk] at hc1 hc2 hc3 hc4 hgp hgi hgb
  have HK : Hid (∀ A, Below W.heap.size W A → Below w.heap.size w A ∧ A.cell? ⟨w.heap.size, 0, none⟩ = some (.slice (some ⟨b, o, none⟩) fn fc) ∧ A.cell? ⟨w.heap.size, 1, none⟩ = some (.int .i64 mn) ∧ A.cell? ⟨b, o + k * 5, none⟩ = some (.string s) ∧ A.cell? ⟨b, o + k * 5 + 1, none⟩ = some (.slice pA f.params.length pc) ∧ A.cell? ⟨b, o + k * 5 + 2, none⟩ = some (.int .i64 f.ret) ∧ A.cell? ⟨b, o + k * 5 + 3, none⟩ = some (.slice iA f.ins.length ic) ∧ A.cell? ⟨b, o + k * 5 + 4, none⟩ = some (.slice bA f.blocks.length bc)) := Lib.hid fun A hA => by
    have hb := hbW.trans (hA.mono hbW.size)
    have e := (hA.block w.heap.size (by omega)).trans h0W
    have Kc : ∀ {x : Addr} {v : Value}, w.cell? x = some v → A.cell? x = some v := fun {x v} hx => (hb.cell (gr_clt hx)).trans hx
    exact ⟨hb, Lib.cell_of_heap e 0, Lib.cell_of_heap e 1, Kc hc0, Kc hc1, Kc hc2, Kc hc3, Kc hc4⟩
  have HR : Hid (∀ A, Below w.heap.size w A → SBs n0 A (.slice bA f.blocks.length bc) f.blocks) := Lib.hid fun A hA => hgb.keep (hA.mono hn)
  have hkn : k < fn := by omega
  obtain ⟨-, u0, u1, -⟩ := HK.out W (Below.refl _ _)
  have Hfl := Lib.hid hfl
  have Hbb := Lib.hid hbb
  have Htb := Lib.hid htb
  have Hs := Lib.hid hs
  clear hW hbW hzW h0W ehas hF hbn hc0 hc1 hc2 hc3 hc4 hgp hgi hgb hf hfk hkl hfl hbb htb hs
  go_enter Try.func8, Try.ntmps8
  go_upto_region 1 with fail
  rw [← HW.out]
  go_upto_region 3 with (first | (go_at_call 17; refine hH.mono ?_; rintro e X ⟨rfl, hbX⟩; have HbX := Lib.hid hbX; clear hbX hH))
  clear u0 u1
  obtain ⟨hXw, v0, v1, c0, c1, c2, c3, c4⟩ := HK.out X.drew HbX.out.drew
  obtain ⟨B, hB⟩ : ∃ B, B = X.drew.alloc (.cells #[.slice (some ⟨b, o, none⟩) fn fc, .int .i64 mn, .string s, .slice pA f.params.length pc, .int .i64 f.ret, .slice iA f.ins.length ic, .slice bA f.blocks.length bc, .slice none 0 0, .slice none 0 0] 51) := ⟨_, rfl⟩
  have hXB : Below X.drew.heap.size X.drew B := by rw [hB]; exact (Below.refl _ _).alloc (Nat.le_refl _) _
  have h0B : B.heap[X.heap.size]? = some (.cells #[.slice (some ⟨b, o, none⟩) fn fc, .int .i64 mn, .string s, .slice pA f.params.length pc, .int .i64 f.ret, .slice iA f.ins.length ic, .slice bA f.blocks.length bc, .slice none 0 0, .slice none 0 0] 51 (0, 0)) := by rw [hB]; exact heap_alloc_new X.drew _
  have hBw : Below w.heap.size w B := hXw.trans (hXB.mono hXw.size)
  have hSh := shaped_g n0 X.heap.size (some ⟨b, o, none⟩) fn fc mn s pA f.params.length pc f.ret iA f.ins.length ic bA f.blocks.length bc (.slice none 0 0) (.slice none 0 0) f.blocks B h0B (Nat.le_trans hn hBw.size) (HR.out B hBw) rfl Hbb.out Htb.out
  rw [Hs.out] at hSh
  have HBw := Lib.hid hBw
  rw [hB] at hSh
  have HB := Lib.hid hB
  clear hB hXB h0B hBw hXw
  go_still_tail 7, (by kernel_rfl)
  change wpList _ _ _ _ _ X.drew
  go_wp2_with (go_at_call 18; refine hSh.mono ?_; rintro e w1 ⟨rfl, hb1⟩; rw [← HB.out] at hb1; have Hb1 := Lib.hid (HBw.out.trans (hb1.mono HBw.out.size)); clear hSh hb1)
  go_ret
  exact ⟨rfl, Hb1.out⟩
end Go.Proofs.Ytglobeajmdieaaa
