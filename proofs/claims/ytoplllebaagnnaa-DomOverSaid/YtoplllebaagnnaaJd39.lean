/-
  The law's awake: two ways that meet.
-/
import Derived.Test.YtoplllebaagnnaaJd28
import Derived.Test.YtoplllebaagnnaaJd38
namespace Go.Proofs.Ytoplllebaagnnaa
set_option linter.unusedVariables false
set_option linter.unusedSimpArgs false
open Go.RowKit Go.Shelf

def meetL : List (Int × Int) := [(1, 2), (3, 3), (3, 3), (-1, 0)]
def meetT : TrP := ⟨[0, 2, 1, 3], [-1, 0, 0, 0], [[2, 1, 3], [], [], []], [0, 1, 1, 1], [0, 2, 1, 3], [4, 3, 2, 4], [1, 2, 3, 3], [4, 4, 4, 4], [0, 2, 3, 4, 4]⟩
theorem meet_eq : TrEq (graphP meetL true) meetT where
  ex := ⟨20, 10, 10, 4, ⟨[0, 2, 3, 1], [0, 3, 1, 2], [-1, 0, 1, 0]⟩, [[], [0], [1, 3], [0]], ⟨[-1, 0, 0, 0], [0, 0, 0, 0], [-1, 0, 0, 0], [0, 1, 2, 3], [[], [], [], []]⟩, [-1, 0, 0, 0], [4, 1, 1, 1], [0, 2, 1, 3],
    by decide, by decide, by decide, by kernel_rfl, rfl, rfl, by decide, by kernel_rfl, (fun t => by
      rcases t with _ | _ | _ | _ | t <;> simp [List.getD]), by kernel_rfl, by kernel_rfl, rfl, by kernel_rfl, by kernel_rfl, by kernel_rfl, by kernel_rfl, by kernel_rfl, by kernel_rfl, by kernel_rfl⟩
  ord := by kernel_rfl
  ordl := by decide
  ord1 := by decide
  upl := by kernel_rfl
  pos := by
    have : (graphP meetL true).length = 4 := by kernel_rfl
    omega
theorem meet_up : upT meetT 3 = 0 := by kernel_rfl
theorem meet_over : overT meetT 0 3 = true := by kernel_rfl
theorem meet_not : overT meetT 1 3 = false := by kernel_rfl
theorem meet_fr : Lib.compact ((sortN [3]).map fun (x : Nat) => (x : Int)) = [3] := by first | kernel_rfl | simp [sortN, Lib.compact]

theorem one_int (w : World) (v : Int) : ∃ Z, Z = w.alloc (.cells #[.int .i64 v] 3) ∧ Below w.heap.size w Z ∧ Z.heap.size = w.heap.size + 1 ∧ GNs Z.heap.size Z (.slice (some ⟨w.heap.size, 0, none⟩) 1 1) [v] := by
  obtain ⟨Z, hZ, hbZ, hzZ, h0Z⟩ := gr_one w #[.int .i64 v] 3
  refine ⟨Z, hZ, hbZ, hzZ, ⟨_, 1, rfl, fun _ => ⟨w.heap.size, 0, rfl, by omega, fun j x hx => ?_⟩⟩⟩
  rcases j with _ | j
  · injection hx with hx; subst hx; exact Lib.cell_of_heap h0Z 0
  · cases hx
set_option maxRecDepth 100000 in
set_option maxHeartbeats 8000000 in
theorem awake9_any (w : World) : Calls Try.prog 13 #[] w fun e w' => e = .returned (.bool true) ∧ Below w.heap.size w w' := by
  obtain ⟨W, hW, hbW, hzW, h0W⟩ := gr_one w #[.int .i64 1, .int .i64 2, .int .i64 3, .int .i64 3, .int .i64 3, .int .i64 3, .int .i64 (-1), .int .i64 0] 54
  have hv : GPr W.heap.size W (.slice (some ⟨w.heap.size, 0, none⟩) 4 4) meetL := by
    refine ⟨_, 4, rfl, fun _ => ⟨w.heap.size, 0, rfl, by omega, fun j x hx => ?_⟩⟩
    rcases j with _ | _ | _ | _ | j
    · injection hx with hx; subst hx; exact ⟨Lib.cell_of_heap h0W 0, Lib.cell_of_heap h0W 1⟩
    · injection hx with hx; subst hx; exact ⟨Lib.cell_of_heap h0W 2, Lib.cell_of_heap h0W 3⟩
    · injection hx with hx; subst hx; exact ⟨Lib.cell_of_heap h0W 4, Lib.cell_of_heap h0W 5⟩
    · injection hx with hx; subst hx; exact ⟨Lib.cell_of_heap h0W 6, Lib.cell_of_heap h0W 7⟩
    · cases hx
  have hGr := graph_true W.heap.size _ meetL W hv (Nat.le_refl _) (by decide) (by unfold meetL InG; decide)
  have HW := Lib.hid hW
  have HbW := Lib.hid hbW
  clear hW hbW hzW h0W hv
  go_enter Try.func13, Try.ntmps13
  go_upto_region 2 with (first
    | (go_at_call 9; rw [← HW.out]; refine hGr.mono ?_; rintro e w1 ⟨f, rfl, hf1, hb1⟩; have hN := new_g w1.heap.size f (graphP meetL true) meetT w1 hf1 (Nat.le_refl _) meet_eq; have Hb1 := Lib.hid hb1; clear hf1 hb1 hGr)
    | (go_at_call 10; refine hN.mono ?_; rintro e w2 ⟨tp, rfl, hta, hb2⟩; have Hta := Lib.hid hta; have Hb2 := Lib.hid hb2; clear hta hb2 hN))
  obtain ⟨gl, hgl⟩ : ∃ gl, gl = (graphP meetL true).length := ⟨_, rfl⟩
  rw [← hgl] at Hta
  have hU := upt_g tp gl meetT 3 w2 Hta.out
  rw [meet_up] at hU
  have hO1 := over_g tp gl meetT 0 3 w2 Hta.out
  rw [meet_over] at hO1
  have hO2 : ∀ q, Calls Try.prog 12 #[.pointer (some ⟨tp, 0, none⟩), .int .i64 1, .int .i64 3] (w2.drewN q) fun e w' => e = .returned (.bool false) ∧ ∃ q', w' = (w2.drewN q).drewN q' := fun q => by
    have := over_g tp gl meetT 1 3 (w2.drewN q) (Hta.out.keep (below_drewN _ _))
    rw [meet_not] at this
    exact this
  have hF : ∀ q, Calls Try.prog 21 #[.pointer (some ⟨tp, 0, none⟩), .int .i64 1] (w2.drewN q) fun e w' => ∃ v, e = .returned v ∧ GNs w'.heap.size w' v [3] ∧ Below (w2.drewN q).heap.size (w2.drewN q) w' := fun q => by
    have := frontier_g tp gl meetT 1 2 3 3 4 5 [3] (w2.drewN q) (Hta.out.keep (below_drewN _ _)) (by kernel_rfl) (by kernel_rfl) (by kernel_rfl) (by kernel_rfl) (by kernel_rfl) (by decide) (by kernel_rfl) (by decide)
    rw [meet_fr] at this
    exact this
  have HU := Lib.hid hU
  have HO1 := Lib.hid hO1
  have HO2 := Lib.hid hO2
  have HF := Lib.hid hF
  clear hgl hU hO1 hO2 hF
  go_wp2_with (first
    | (go_at_call 14; refine HU.out.mono ?_; rintro e w3 ⟨rfl, hw3⟩; rw [hw3]; clear hw3 w3)
    | (go_at_call 12; (with_reducible refine HO1.out.mono ?_); rintro e w3 ⟨rfl, q1, rfl⟩)
    | (go_at_call 12; (with_reducible refine (HO2.out _).mono ?_); rintro e w3 ⟨rfl, q2, rfl⟩; rw [drewN_add])
    | (go_at_call 21; (with_reducible refine (HF.out _).mono ?_); rintro e w4 ⟨v4, rfl, hg4, hb4⟩;
        obtain ⟨Z, hZ, hbZ, hzZ, hu⟩ := one_int w4 3;
        have hI := ints_g Z.heap.size _ _ [3] [3] Z ((hg4.keep hbZ).mono (by omega)) hu (by decide) (by decide) (Nat.le_refl _);
        rw [decide_eq_true rfl] at hI;
        have Hb4 := Lib.hid (hb4.trans (hbZ.mono hb4.size)); have HZ := Lib.hid hZ; clear hg4 hb4 hZ hbZ hzZ hu)
    | (go_at_call 17; rw [← HZ.out]; refine hI.mono ?_; rintro e w5 ⟨rfl, hb5⟩; have Hb5 := Lib.hid hb5; clear hb5 hI))
  go_ret
  refine ⟨rfl, HbW.out.trans ((Hb1.out.trans ((Hb2.out.trans ?_).mono Hb1.out.size)).mono HbW.out.size)⟩
  exact ((below_drewN w2 _).trans (Hb4.out.trans (Hb5.out.mono Hb4.out.size))).mono Hb2.out.size
end Go.Proofs.Ytoplllebaagnnaa
