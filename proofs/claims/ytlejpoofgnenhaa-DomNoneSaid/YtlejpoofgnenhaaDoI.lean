/-
  slices.Backward over a row of numbers.
-/
import Derived.Test.YtlejpoofgnenhaaDoH
namespace Go.Proofs.Ytlejpoofgnenhaa
open Go.RowKit Go.Shelf
set_option linter.unusedVariables false
set_option linter.unusedSimpArgs false

attribute [local go_sem] Oper.semAt_some

def backL (l : List Int) : List (Nat × Int) := (List.range l.length).reverse.map fun i => (i, l.getD i 0)
theorem backL_len (l : List Int) : (backL l).length = l.length := by simp [backL]
theorem backL_at (l : List Int) (j : Nat) (hj : 0 < j) (hl : j ≤ l.length) : (backL l)[l.length - j]? = some (j - 1, l.getD (j - 1) 0) := by
  unfold backL
  rw [List.getElem?_map, List.getElem?_reverse (by simp; omega), List.length_range, List.getElem?_range (by omega)]
  have e : l.length - 1 - (l.length - j) = j - 1 := by omega
  rw [e]
  rfl
theorem backL_snd (l : List Int) : (backL l).map (·.2) = l.reverse := by
  unfold backL
  rw [List.map_map, List.map_reverse]
  congr 1
  refine List.ext_getElem? fun i => ?_
  rw [List.getElem?_map]
  by_cases h : i < l.length
  · rw [List.getElem?_range h]
    simp [List.getD, h]
  · rw [List.getElem?_eq_none (by simp; omega), List.getElem?_eq_none (by omega)]
    rfl
def encB (p : Nat × Int) : Array Value := #[.int .i64 (p.1 : Int), .int .i64 p.2]
theorem enters_backward : ∀ args w, (callFunc 61 args).run Try.prog w = .ok (.enter 61 args) w := enters_of Try.func61 (by kernel_rfl) rfl

set_option maxRecDepth 100000 in
theorem backward_g (A : Option Addr) (n c : Nat) (w : World) :
    Calls Try.prog 51 #[.slice A n c] w fun e w' => e = .returned (.func (.func 61) #[] #[.pointer (some ⟨w.heap.size, 0, none⟩)]) ∧ Below w.heap.size w w' ∧ w'.heap.size = w.heap.size + 1 ∧ w'.heap[w.heap.size]? = some (.cells #[.slice A n c] 23 (0, 0)) := by
  obtain ⟨W, hW, hbW, hzW, h0W⟩ := gr_one w #[.slice A n c] 23
  have hmf : ∀ (fn : Fn) (first cap : Array Value) (w : World), (Instr.makeFunc fn first cap).run Try.prog w = .ok (.func fn first cap) w := fun _ _ _ _ => rfl
  have H := Lib.hid (And.intro hbW (And.intro hzW h0W))
  have HW := Lib.hid hW
  clear hbW hzW h0W hW
  go_enter Try.func51, Try.ntmps51
  go_upto_region 1 with fail
  rw [← HW.out]
  go_wp2
  go_ret
  exact ⟨rfl, H.out⟩

set_option maxRecDepth 100000 in
set_option maxHeartbeats 4000000 in
theorem backward_sep (bx : Nat) (A : Option Addr) (m c : Nat) (l : List Int) (S : Nat → Prop) (W : World) (hbx : W.cell? ⟨bx, 0, none⟩ = some (.slice A m c)) (hml : m = l.length) (hm : m ≤ 1048576)
    (hrow : 0 < m → ∃ rb, A = some ⟨rb, 0, none⟩ ∧ S rb ∧ ∀ j, j < m → W.cell? ⟨rb, j, none⟩ = some (.int .i64 (l.getD j 0))) (hsx : S bx) (hSl : ∀ k, S k → k < W.heap.size) :
    SepGivs Try.prog 61 #[.pointer (some ⟨bx, 0, none⟩)] encB (backL l) S NoW (fun _ => True) W := by
  intro y J F0 hJoff hJlt hJ hF0 h0
  have hS0 : ∀ k, S k → ¬ F0 k := fun k hk e => hF0 k e hk
  have Hml := Lib.hid hml
  have Hbx := Lib.hid hbx
  have Hsx := Lib.hid hsx
  have Hrow := Lib.hid hrow
  have HJ := Lib.hid hJ
  have HS0 := Lib.hid hS0
  have HSl := Lib.hid hSl
  have H0 : Hid (J ((backL l).take (m - m)) F0 W) := Lib.hid (by rw [Nat.sub_self]; exact h0)
  clear hml hrow hJ hJlt hJoff hS0 hF0 h0 hSl hsx
  have HR0 : Hid (Framed F0 F0 NoW W W) := Lib.hid (Framed.refl _ _ _)
  change Calls _ _ #[.func (.yield y) #[] #[], .pointer (some ⟨bx, 0, none⟩)] _ _
  go_enter Try.func61, Try.ntmps61
  go_upto_region 1 with fail
  clear hbx
  go_loopw [3] (fun u3 wr => ∃ (j : Nat) (F : Nat → Prop), j ≤ m ∧ u3 = .int .i64 ((j : Int) - 1) ∧ Hid (J ((backL l).take (m - j)) F wr) ∧ Hid (Framed F0 F NoW W wr) ∧ Hid (∀ k, S k → ¬ F k)) (fun u3 _ => (intOf u3 + 1).toNat)
  case atStart => exact ⟨m, F0, Nat.le_refl _, rfl, H0, HR0, HS0⟩
  case round =>
    clear H0 HR0
    obtain ⟨j, F, hj, rfl, HJi, HR, HF⟩ := hrel
    cases j with
    | zero =>
      go_wp2
      go_end0
      refine ⟨⟨_, rfl⟩, F, ?_, trivial, HR.out⟩
      have := HJi.out
      rw [Nat.sub_zero, Hml.out, ← backL_len l, List.take_length] at this
      exact this
    | succ j =>
      obtain ⟨rb, rfl, hSr, hcell⟩ := Hrow.out (by omega)
      have hj1 : (((j + 1 : Nat) : Int) - 1) = (j : Int) := by omega
      have hb := HR.out.cell Hsx.out HS0.out HSl.out Hbx.out
      have hc := HR.out.cell hSr HS0.out HSl.out (hcell j (by omega))
      have hat := backL_at l (j + 1) (by omega) (by rw [← Hml.out]; exact hj)
      rw [← Hml.out, Nat.add_sub_cancel] at hat
      obtain ⟨x, hx⟩ : ∃ x, x = l.getD j 0 := ⟨_, rfl⟩
      rw [← hx] at hc hat
      have hst : (backL l).take (m - j) = (backL l).take (m - (j + 1)) ++ [(j, x)] := by
        have h1 : m - j = (m - (j + 1)) + 1 := by omega
        have hlt := (List.getElem?_eq_some_iff.1 hat).1
        have he := (List.getElem?_eq_some_iff.1 hat).2
        rw [h1, List.take_succ_eq_append_getElem hlt, he]
      obtain ⟨fn, tmps, assign, body, hy, hR⟩ := HJ.out ((backL l).take (m - (j + 1))) (j, x) F wr HJi.out (by rw [← hst]; exact List.take_prefix _ _)
      have Hst := Lib.hid hst
      have HR2 := Lib.hid hR
      rw [hj1]
      clear hx hst hR hat hcell hj1
      go_upto_region 3 with fail
      refine (wpIn_wide (n := 0)).1 ?_
      unfold encB at hy
      dsimp only at hy
      gi_wp2
      refine ⟨rfl, HR2.out.mono ?_⟩
      rintro e W3 ⟨rfl, F', hJ3, hon⟩
      have HJ3 := Lib.hid hJ3
      have HR3 := Lib.hid (HR.out.on hon)
      have HF3 := Lib.hid (apart_on HF.out (fun k hk => Nat.lt_of_lt_of_le (HSl.out k hk) HR.out.size) hon)
      clear hJ3 hon hy HR2 hb hc
      dsimp only
      gi_wp2
      go_wp2
      go_roundw
      case rel => exact ⟨j, F', by omega, by go_num, Lib.hid (by rw [Hst.out]; exact HJ3.out), HR3, HF3⟩
      case measure => first | (simp [intOf]; done) | (simp [intOf]; omega)
end Go.Proofs.Ytlejpoofgnenhaa
