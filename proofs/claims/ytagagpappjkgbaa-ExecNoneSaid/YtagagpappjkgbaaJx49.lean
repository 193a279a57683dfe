/-
  Programs that may be: where Prog and Func say no at once.
  Programs that may be: the base is one, and is none without its last block.
-/
import Derived.Test.YtagagpappjkgbaaJx8
import Derived.Test.YtagagpappjkgbaaJx27
import Derived.Test.YtagagpappjkgbaaJx47
import Derived.Test.YtagagpappjkgbaaJx48
import Derived.StillTailTactics
namespace Go.Proofs.Ytagagpappjkgbaa
set_option linter.unusedVariables false
set_option linter.unusedSimpArgs false
open Go.RowKit

set_option maxRecDepth 100000 in
set_option maxHeartbeats 8000000 in
theorem prog_no (fA : Option Addr) (fn fc : Nat) (mn : Int) (fs : List SF) (w : World) (hf : SFs w.heap.size w (.slice fA fn fc) fs) (hl : fn = fs.length) (hfb : fn ≤ 1048576) (hb : beginsP fs mn = false) :
    Calls Try.prog 46 #[.agg #[.slice fA fn fc, .int .i64 mn]] w fun e w' => e = .returned (.tuple #[.int .i64 8, .int .i64 0]) ∧ Below w.heap.size w w' := by
  obtain ⟨W, hW, hbW, hzW, h0W⟩ := gr_one w #[.slice fA fn fc, .int .i64 mn] 36
  have hB := begins_g fA fn fc mn fs W ((hf.keep hbW).mono (by omega)) hl hfb
  rw [hb] at hB
  have u0 := Lib.cell_of_heap h0W 0
  have u1 := Lib.cell_of_heap h0W 1
  have HbW := Lib.hid hbW
  have HW := Lib.hid hW
  clear hf hl hfb hb hW hbW hzW h0W
  go_enter Try.func46, Try.ntmps46
  go_upto_region 1 with fail
  rw [← HW.out]
  go_wp2_with (go_at_call 74; refine hB.mono ?_; rintro e X ⟨rfl, hbX⟩; have HbX := Lib.hid (HbW.out.trans (hbX.mono HbW.out.size)); clear hbX hB)
  go_ret2
  exact ⟨rfl, HbX.out⟩
end Go.Proofs.Ytagagpappjkgbaa
namespace Go.Proofs.Ytagagpappjkgbaa
set_option linter.unusedVariables false
set_option linter.unusedSimpArgs false
open Go.RowKit

theorem fs2_params (f g : SF) (hf : f.params.length ≤ 1048576) (hg : g.params.length ≤ 1048576) : ∀ x ∈ [f, g], x.params.length ≤ 1048576 := fun x hx => by
  rcases List.mem_cons.1 hx with rfl | hx
  · exact hf
  · rcases List.mem_cons.1 hx with rfl | hx
    · exact hg
    · cases hx
theorem fs2_decl (f g : SF) (hf : declaredP f.params f.ret = true) (hg : declaredP g.params g.ret = true) : ∀ x ∈ [f, g], declaredP x.params x.ret = true := fun x hx => by
  rcases List.mem_cons.1 hx with rfl | hx
  · exact hf
  · rcases List.mem_cons.1 hx with rfl | hx
    · exact hg
    · cases hx
/-- The base may be. -/
theorem prog_base (fb : Nat) (v0 v1 : FV) (w : World) (hr : w.heap[fb]? = some (.cells (funRow [(baseM, v0), (baseF, v1)]).toArray 68 (0, 0))) (hh : funHas fb w [(baseM, v0), (baseF, v1)]) :
    Calls Try.prog 46 #[.agg #[.slice (some ⟨fb, 0, none⟩) 2 2, .int .i64 0]] w fun e w' => e = .returned (.tuple #[.int .i64 0, .int .i64 0]) ∧ Below w.heap.size w w' := by
  have hlt : fb < w.heap.size := gr_in hr
  have hF : SFs w.heap.size w (.slice (some ⟨fb, 0, none⟩) 2 2) baseFs := SFs.of _ hr hlt (Nat.le_of_lt hlt) hh
  refine prog_t (some ⟨fb, 0, none⟩) 2 2 0 baseFs [0, 0] w hF rfl (by decide) (fs2_params _ _ (by decide) (by decide)) (by decide) (fs2_decl _ _ (by decide) (by decide)) rfl ?_
  intro k a hk _ A hA
  have hFA : SFs w.heap.size A (.slice (some ⟨fb, 0, none⟩) 2 2) baseFs := hF.keep hA
  rcases k with _ | _ | k
  · injection hk with hk
    subst hk
    exact func_t w.heap.size _ 2 2 0 baseFs 0 baseM rfl _ _ _ _ A hA.size hFA rfl (by decide) baseM_ok
  · injection hk with hk
    subst hk
    exact func_t w.heap.size _ 2 2 0 baseFs 1 baseF rfl _ _ _ _ A hA.size hFA rfl (by decide) baseF_ok
  · cases hk
end Go.Proofs.Ytagagpappjkgbaa
