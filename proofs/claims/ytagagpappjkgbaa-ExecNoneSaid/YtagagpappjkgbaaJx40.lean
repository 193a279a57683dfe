/-
  Blocks on all ways: dom.newSearch.
-/
import Derived.Test.YtagagpappjkgbaaJx35
namespace Go.Proofs.Ytagagpappjkgbaa
set_option linter.unusedVariables false
set_option linter.unusedSimpArgs false
open Go.RowKit Go.Shelf

theorem Sq.rebox {T T' : TypeId} {w : World} {base E : Nat} {F : Nat → GRw} {cs cs' : List Value} (h : Sq T w base E F cs) : Sq T' (w.alloc (.cells cs'.toArray T')) base w.heap.size F cs' := by
  have hb : Below w.heap.size w (w.alloc (.cells cs'.toArray T')) := (Below.refl _ _).alloc (Nat.le_refl _) _
  have hk := h.fam.keep hb
  refine ⟨⟨by simp, fun k e => ?_, hk.own, hk.ne⟩, heap_alloc_new w _, h.hb, by have := h.hb; simp; omega⟩
  have := ((h.fam.own k).lt _ e).2
  omega
theorem start6 {P : Program} {ops : Array Oper} {Q : Exit → Act → World → Prop} {S : World → Prop} {n : Nat} {listed : Array Bool} (hchk : chk6 ops = true) (hn : n = 9) (hl : listed = L6 false false false false false false) (pa : Value → Value → Value → Value → Value → Value → Act) (a0 : Act) (w : World) (T : TypeId) (base E m : Nat) (cs : List Value) (w0 : World) (y0 y4 y8 y9 y13 y17 : Value) (F0 : Nat → GRw)
    (hself : a0 = pa y0 y4 y8 y9 y13 y17) (hJ : J6 T base E m cs w0 false false false false false false y0 y4 y8 y9 y13 y17 F0 w) (hS : S w)
    (h0 : ∀ b8 b9 b17 x0 x4 x8 x9 x13 x17 F w, J6 T base E m cs w0 false false b8 b9 false b17 x0 x4 x8 x9 x13 x17 F w → S w → wpOp P ops Q 0 (fun a' w' => S w' ∧ I6 pa T base E m cs w0 true false b8 b9 false b17 a' w') (pa x0 x4 x8 x9 x13 x17) w)
    (h4 : ∀ b8 b9 b17 x0 x4 x8 x9 x13 x17 F w, J6 T base E m cs w0 true false b8 b9 false b17 x0 x4 x8 x9 x13 x17 F w → S w → wpOp P ops Q 4 (fun a' w' => S w' ∧ I6 pa T base E m cs w0 true true b8 b9 false b17 a' w') (pa x0 x4 x8 x9 x13 x17) w)
    (h8 : ∀ b0 b4 b9 b13 b17 x0 x4 x8 x9 x13 x17 F w, J6 T base E m cs w0 b0 b4 false b9 b13 b17 x0 x4 x8 x9 x13 x17 F w → S w → wpOp P ops Q 8 (fun a' w' => S w' ∧ I6 pa T base E m cs w0 b0 b4 true b9 b13 b17 a' w') (pa x0 x4 x8 x9 x13 x17) w)
    (h9 : ∀ b0 b4 b8 b17 x0 x4 x8 x9 x13 x17 F w, J6 T base E m cs w0 b0 b4 b8 false false b17 x0 x4 x8 x9 x13 x17 F w → S w → wpOp P ops Q 9 (fun a' w' => S w' ∧ I6 pa T base E m cs w0 b0 b4 b8 true false b17 a' w') (pa x0 x4 x8 x9 x13 x17) w)
    (h13 : ∀ b8 b17 x0 x4 x8 x9 x13 x17 F w, J6 T base E m cs w0 true true b8 true false b17 x0 x4 x8 x9 x13 x17 F w → S w → wpOp P ops Q 13 (fun a' w' => S w' ∧ I6 pa T base E m cs w0 true true b8 true true b17 a' w') (pa x0 x4 x8 x9 x13 x17) w)
    (h17 : ∀ b0 b4 b8 b9 b13 x0 x4 x8 x9 x13 x17 F w, J6 T base E m cs w0 b0 b4 b8 b9 b13 false x0 x4 x8 x9 x13 x17 F w → S w → wpOp P ops Q 17 (fun a' w' => S w' ∧ I6 pa T base E m cs w0 b0 b4 b8 b9 b13 true a' w') (pa x0 x4 x8 x9 x13 x17) w)
    (hend : ∀ x0 x4 x8 x9 x13 x17 F w, J6 T base E m cs w0 true true true true true true x0 x4 x8 x9 x13 x17 F w → S w → wpAnyH P .any ops Q S 3 (L6 true true true true true true) (pa x0 x4 x8 x9 x13 x17) w) :
    wpAnyH P .any ops Q S n listed a0 w := by
  subst hn hl
  exact bits6 hchk (I6 pa T base E m cs w0)
    (by rintro b8 b9 b17 a w ⟨x0, x4, x8, x9, x13, x17, F, rfl, hJ⟩ hS; exact h0 _ _ _ _ _ _ _ _ _ _ _ hJ hS)
    (by rintro b8 b9 b17 a w ⟨x0, x4, x8, x9, x13, x17, F, rfl, hJ⟩ hS; exact h4 _ _ _ _ _ _ _ _ _ _ _ hJ hS)
    (by rintro b0 b4 b9 b13 b17 a w ⟨x0, x4, x8, x9, x13, x17, F, rfl, hJ⟩ hS; exact h8 _ _ _ _ _ _ _ _ _ _ _ _ _ hJ hS)
    (by rintro b0 b4 b8 b17 a w ⟨x0, x4, x8, x9, x13, x17, F, rfl, hJ⟩ hS; exact h9 _ _ _ _ _ _ _ _ _ _ _ _ hJ hS)
    (by rintro b8 b17 a w ⟨x0, x4, x8, x9, x13, x17, F, rfl, hJ⟩ hS; exact h13 _ _ _ _ _ _ _ _ _ _ hJ hS)
    (by rintro b0 b4 b8 b9 b13 a w ⟨x0, x4, x8, x9, x13, x17, F, rfl, hJ⟩ hS; exact h17 _ _ _ _ _ _ _ _ _ _ _ _ _ hJ hS)
    (by rintro a w ⟨x0, x4, x8, x9, x13, x17, F, rfl, hJ⟩ hS; exact hend _ _ _ _ _ _ _ _ hJ hS)
    6 false false false false false false a0 w rfl rfl ⟨_, _, _, _, _, _, _, hself, hJ⟩ hS
theorem LsS.set0 {base sp m : Nat} {w : World} {bu be ba bb : Nat} {PV : Value} {path up early above best : List Int} {F : Nat → GRw} (h : LsS base sp m w bu be ba bb PV path up early above best F) (j : Nat) (x : Int) :
    LsS base sp m (w.setCell ⟨bu, j, none⟩ (.int .i64 x)) bu be ba bb PV path (up.set j x) early above best (upG F 0 (wholeR bu (up.set j x))) ∧ Below base w (w.setCell ⟨bu, j, none⟩ (.int .i64 x)) :=
  ⟨⟨h.sq.set h.f0 j x, upG_at _ _ _, by rw [upG_off _ _ _ _ (by omega)]; exact h.f1, by rw [upG_off _ _ _ _ (by omega)]; exact h.f2, by rw [upG_off _ _ _ _ (by omega)]; exact h.f3, by rw [upG_off _ _ _ _ (by omega)]; exact h.f4, by simpa using h.l0, h.l1, h.l2, h.l3, h.mb⟩, h.sq.b_put h.f0 j _⟩
theorem LsS.set1 {base sp m : Nat} {w : World} {bu be ba bb : Nat} {PV : Value} {path up early above best : List Int} {F : Nat → GRw} (h : LsS base sp m w bu be ba bb PV path up early above best F) (j : Nat) (x : Int) :
    LsS base sp m (w.setCell ⟨be, j, none⟩ (.int .i64 x)) bu be ba bb PV path up (early.set j x) above best (upG F 1 (wholeR be (early.set j x))) ∧ Below base w (w.setCell ⟨be, j, none⟩ (.int .i64 x)) :=
  ⟨⟨h.sq.set h.f1 j x, by rw [upG_off _ _ _ _ (by omega)]; exact h.f0, upG_at _ _ _, by rw [upG_off _ _ _ _ (by omega)]; exact h.f2, by rw [upG_off _ _ _ _ (by omega)]; exact h.f3, by rw [upG_off _ _ _ _ (by omega)]; exact h.f4, h.l0, by simpa using h.l1, h.l2, h.l3, h.mb⟩, h.sq.b_put h.f1 j _⟩
theorem LsS.set2 {base sp m : Nat} {w : World} {bu be ba bb : Nat} {PV : Value} {path up early above best : List Int} {F : Nat → GRw} (h : LsS base sp m w bu be ba bb PV path up early above best F) (j : Nat) (x : Int) :
    LsS base sp m (w.setCell ⟨ba, j, none⟩ (.int .i64 x)) bu be ba bb PV path up early (above.set j x) best (upG F 2 (wholeR ba (above.set j x))) ∧ Below base w (w.setCell ⟨ba, j, none⟩ (.int .i64 x)) :=
  ⟨⟨h.sq.set h.f2 j x, by rw [upG_off _ _ _ _ (by omega)]; exact h.f0, by rw [upG_off _ _ _ _ (by omega)]; exact h.f1, upG_at _ _ _, by rw [upG_off _ _ _ _ (by omega)]; exact h.f3, by rw [upG_off _ _ _ _ (by omega)]; exact h.f4, h.l0, h.l1, by simpa using h.l2, h.l3, h.mb⟩, h.sq.b_put h.f2 j _⟩
theorem LsS.set3 {base sp m : Nat} {w : World} {bu be ba bb : Nat} {PV : Value} {path up early above best : List Int} {F : Nat → GRw} (h : LsS base sp m w bu be ba bb PV path up early above best F) (j : Nat) (x : Int) :
    LsS base sp m (w.setCell ⟨bb, j, none⟩ (.int .i64 x)) bu be ba bb PV path up early above (best.set j x) (upG F 3 (wholeR bb (best.set j x))) ∧ Below base w (w.setCell ⟨bb, j, none⟩ (.int .i64 x)) :=
  ⟨⟨h.sq.set h.f3 j x, by rw [upG_off _ _ _ _ (by omega)]; exact h.f0, by rw [upG_off _ _ _ _ (by omega)]; exact h.f1, by rw [upG_off _ _ _ _ (by omega)]; exact h.f2, upG_at _ _ _, by rw [upG_off _ _ _ _ (by omega)]; exact h.f4, h.l0, h.l1, h.l2, by simpa using h.l3, h.mb⟩, h.sq.b_put h.f3 j _⟩
/-- The numbers below m, as far as they are laid. -/
def upTo (m i : Nat) : List Int := (List.range m).map fun k => if k < i then (k : Int) else 0
theorem upTo_len (m i : Nat) : (upTo m i).length = m := by simp [upTo]
theorem upTo_zero (m : Nat) : upTo m 0 = List.replicate m 0 := by
  unfold upTo
  refine List.ext_getElem (by simp) fun i h1 h2 => by simp
theorem upTo_set (m i : Nat) : (upTo m i).set i (i : Int) = upTo m (i + 1) := by
  refine List.ext_getElem (by simp [upTo]) fun k h1 h2 => ?_
  simp only [upTo, List.getElem_set, List.getElem_map, List.getElem_range]
  by_cases h : i = k
  · subst h; simp
  · rw [if_neg h]
    by_cases h' : k < i
    · rw [if_pos h', if_pos (by omega)]
    · rw [if_neg h', if_neg (by omega)]

set_option maxRecDepth 100000 in
set_option maxHeartbeats 16000000 in
theorem newSearch_g (Ab At Af : Option Addr) (cb nt ct nf cf m : Nat) (w : World) (h1 : 1 ≤ m) (hm : m ≤ 1048576) :
    Calls Try.prog 159 #[.agg #[.slice Ab m cb, .slice At nt ct, .slice Af nf cf]] w fun e w' => ∃ sp bu be ba bb F, e = .returned (.pointer (some ⟨sp, 0, none⟩)) ∧
      LsS w.heap.size sp m w' bu be ba bb (.slice none 0 0) [] (List.replicate m (-1)) (upTo m m) (List.replicate m (-1)) (upTo m m) F ∧ (∀ i, 4 < i → F i = noRow) ∧ Below w.heap.size w w' := by
  obtain ⟨W, hW, hbW, hzW, h0W⟩ := gr_one w #[.slice Ab m cb, .slice At nt ct, .slice Af nf cf] 211
  have hsq0 := Sq.start (base := w.heap.size) (cs := [.slice Ab m cb, .slice At nt ct, .slice Af nf cf]) h0W (Nat.le_refl _)
  have hJ0 : J6 211 w.heap.size w.heap.size m [.slice Ab m cb, .slice At nt ct, .slice Af nf cf] w false false false false false false undef undef undef undef undef undef (fun _ => noRow) W.drew := ⟨hsq0.keep ((Below.refl _ _).drew), hbW.drew, rfl, rfl, rfl, rfl, rfl, rfl, fun _ _ => rfl⟩
  have g0 : W.drew.cell? ⟨w.heap.size, 0, none⟩ = some (.slice Ab m cb) := hsq0.cell 0 _ rfl
  have hRp := fun xb (A : World) (hx : A.cell? ⟨xb, 0, none⟩ = some (.int .i64 (-1))) => repeat_g xb 0 (-1) m A hx h1 hm
  have hmk := makeZ m hm
  have HRp := Lib.hid hRp
  have HW := Lib.hid hW
  have HJ0 := Lib.hid hJ0
  clear hRp hW hbW hzW h0W hsq0 hJ0
  go_enter Try.func159, Try.ntmps159
  go_upto_region 1 with fail
  rw [← HW.out]
  refine wp_region_noPanic ?_
  refine wp_region_held_drew (S := fun w' => w'.cell? ⟨w.heap.size, 0, none⟩ = some (.slice Ab m cb)) (by kernel_rfl) g0 (fun hHeld => ?_)
  refine wpAnyH_take (i := 1) (v := ?_) rfl (by kernel_rfl) (by kernel_rfl) (by kernel_rfl) (fun _ _ _ h => h) (Or.inl ⟨by rfl, ?_⟩) (by assumption) ?_
  rotate_left
  · (intro w hSw; (try dsimp only at hSw); first | (go_simp; done) | (go_simp; with_reducible rfl))
  try simp only [Act.put, List.setIfInBounds_toArray, List.set_cons_zero, List.set_cons_succ]
  refine wpAnyH_take (i := 2) (v := ?_) rfl (by kernel_rfl) (by kernel_rfl) (by kernel_rfl) (fun _ _ _ h => h) (Or.inl ⟨by rfl, ?_⟩) (by assumption) ?_
  rotate_left
  · (intro w hSw; (try dsimp only at hSw); first | (go_simp; done) | (go_simp; with_reducible rfl))
  try simp only [Act.put, List.setIfInBounds_toArray, List.set_cons_zero, List.set_cons_succ]
  refine wpAnyH_take (i := 3) (v := ?_) rfl (by kernel_rfl) (by kernel_rfl) (by kernel_rfl) (fun _ _ _ h => h) (Or.inl ⟨by rfl, ?_⟩) (by assumption) ?_
  rotate_left
  · (intro w hSw; (try dsimp only at hSw); first | (go_simp; done) | (go_simp; with_reducible rfl))
  try simp only [Act.put, List.setIfInBounds_toArray, List.set_cons_zero, List.set_cons_succ]
  refine wpAnyH_take (i := 5) (v := ?_) rfl (by kernel_rfl) (by kernel_rfl) (by kernel_rfl) (fun _ _ _ h => h) (Or.inl ⟨by rfl, ?_⟩) (by assumption) ?_
  rotate_left
  · (intro w hSw; (try dsimp only at hSw); first | (go_simp; done) | (go_simp; with_reducible rfl))
  try simp only [Act.put, List.setIfInBounds_toArray, List.set_cons_zero, List.set_cons_succ]
  refine wpAnyH_take (i := 6) (v := ?_) rfl (by kernel_rfl) (by kernel_rfl) (by kernel_rfl) (fun _ _ _ h => h) (Or.inl ⟨by rfl, ?_⟩) (by assumption) ?_
  rotate_left
  · (intro w hSw; (try dsimp only at hSw); first | (go_simp; done) | (go_simp; with_reducible rfl))
  try simp only [Act.put, List.setIfInBounds_toArray, List.set_cons_zero, List.set_cons_succ]
  refine wpAnyH_take (i := 7) (v := ?_) rfl (by kernel_rfl) (by kernel_rfl) (by kernel_rfl) (fun _ _ _ h => h) (Or.inl ⟨by rfl, ?_⟩) (by assumption) ?_
  rotate_left
  · (intro w hSw; (try dsimp only at hSw); first | (go_simp; done) | (go_simp; with_reducible rfl))
  try simp only [Act.put, List.setIfInBounds_toArray, List.set_cons_zero, List.set_cons_succ]
  refine wpAnyH_take (i := 10) (v := ?_) rfl (by kernel_rfl) (by kernel_rfl) (by kernel_rfl) (fun _ _ _ h => h) (Or.inl ⟨by rfl, ?_⟩) (by assumption) ?_
  rotate_left
  · (intro w hSw; (try dsimp only at hSw); first | (go_simp; done) | (go_simp; with_reducible rfl))
  try simp only [Act.put, List.setIfInBounds_toArray, List.set_cons_zero, List.set_cons_succ]
  refine wpAnyH_take (i := 11) (v := ?_) rfl (by kernel_rfl) (by kernel_rfl) (by kernel_rfl) (fun _ _ _ h => h) (Or.inl ⟨by rfl, ?_⟩) (by assumption) ?_
  rotate_left
  · (intro w hSw; (try dsimp only at hSw); first | (go_simp; done) | (go_simp; with_reducible rfl))
  try simp only [Act.put, List.setIfInBounds_toArray, List.set_cons_zero, List.set_cons_succ]
  refine wpAnyH_take (i := 12) (v := ?_) rfl (by kernel_rfl) (by kernel_rfl) (by kernel_rfl) (fun _ _ _ h => h) (Or.inl ⟨by rfl, ?_⟩) (by assumption) ?_
  rotate_left
  · (intro w hSw; (try dsimp only at hSw); first | (go_simp; done) | (go_simp; with_reducible rfl))
  try simp only [Act.put, List.setIfInBounds_toArray, List.set_cons_zero, List.set_cons_succ]
  refine wpAnyH_take (i := 14) (v := ?_) rfl (by kernel_rfl) (by kernel_rfl) (by kernel_rfl) (fun _ _ _ h => h) (Or.inl ⟨by rfl, ?_⟩) (by assumption) ?_
  rotate_left
  · (intro w hSw; (try dsimp only at hSw); first | (go_simp; done) | (go_simp; with_reducible rfl))
  try simp only [Act.put, List.setIfInBounds_toArray, List.set_cons_zero, List.set_cons_succ]
  refine wpAnyH_take (i := 15) (v := ?_) rfl (by kernel_rfl) (by kernel_rfl) (by kernel_rfl) (fun _ _ _ h => h) (Or.inl ⟨by rfl, ?_⟩) (by assumption) ?_
  rotate_left
  · (intro w hSw; (try dsimp only at hSw); first | (go_simp; done) | (go_simp; with_reducible rfl))
  try simp only [Act.put, List.setIfInBounds_toArray, List.set_cons_zero, List.set_cons_succ]
  refine wpAnyH_take (i := 16) (v := ?_) rfl (by kernel_rfl) (by kernel_rfl) (by kernel_rfl) (fun _ _ _ h => h) (Or.inl ⟨by rfl, ?_⟩) (by assumption) ?_
  rotate_left
  · (intro w hSw; (try dsimp only at hSw); first | (go_simp; done) | (go_simp; with_reducible rfl))
  try simp only [Act.put, List.setIfInBounds_toArray, List.set_cons_zero, List.set_cons_succ]
  refine start6 (by kernel_rfl) (by kernel_rfl) (by kernel_rfl) (fun x0 x4 x8 x9 x13 x17 => { tmps := #[.agg #[.slice Ab m cb, .slice At nt ct, .slice Af nf cf], .pointer (some ⟨w.heap.size, 0, none⟩), .pointer none, undef, undef, x0, .pointer (some ⟨w.heap.size, 0, none⟩), .slice Ab m cb, .int .i64 (m : Int), x4, .pointer (some ⟨w.heap.size, 0, none⟩), .slice Ab m cb, .int .i64 (m : Int), x8, x9, .pointer (some ⟨w.heap.size, 0, none⟩), .slice Ab m cb, .int .i64 (m : Int), x13, .pointer (some ⟨w.heap.size, 0, none⟩), .slice Ab m cb, .int .i64 (m : Int), x17, undef, undef, undef, undef, undef, undef, undef, undef, undef, undef, undef, undef, undef, undef, undef, undef, undef, undef, undef, undef, undef, undef, undef, undef], defers := [] }) _ _ 211 w.heap.size w.heap.size m [.slice Ab m cb, .slice At nt ct, .slice Af nf cf] w undef undef undef undef undef undef (fun _ => noRow) (by kernel_rfl) HJ0.out g0 ?h0 ?h4 ?h8 ?h9 ?h13 ?h17 ?hend
  case h0 =>
    intro b8 b9 b17 x0 x4 x8 x9 x13 x17 F w1 hJ hS
    have HJ := Lib.hid hJ
    clear HJ0 g0 hHeld
    refine one_step rfl (fun K hK => ?_)
    dsimp only
    have hb1 : Below w1.heap.size w1 (w1.alloc (.cells #[.int .i64 (-1)] 3)) := (Below.refl _ _).alloc (Nat.le_refl _) _
    have hN := HJ.out.n0 hb1 (Nat.le_refl _) (heap_alloc_new w1 _)
    go_simp
    refine hK.out _ _ (hN.sq.cell 0 _ rfl) (fun _ => ⟨_, _, _, _, _, _, _, rfl, hN⟩)
  case h9 =>
    intro b0 b4 b8 b17 x0 x4 x8 x9 x13 x17 F w1 hJ hS
    have HJ := Lib.hid hJ
    clear HJ0 g0 hHeld
    refine one_step rfl (fun K hK => ?_)
    dsimp only
    have hb1 : Below w1.heap.size w1 (w1.alloc (.cells #[.int .i64 (-1)] 3)) := (Below.refl _ _).alloc (Nat.le_refl _) _
    have hN := HJ.out.n9 hb1 (Nat.le_refl _) (heap_alloc_new w1 _)
    go_simp
    refine hK.out _ _ (hN.sq.cell 0 _ rfl) (fun _ => ⟨_, _, _, _, _, _, _, rfl, hN⟩)
  case h8 =>
    intro b0 b4 b9 b13 b17 x0 x4 x8 x9 x13 x17 F w1 hJ hS
    have HJ := Lib.hid hJ
    clear HJ0 g0 hHeld
    refine one_step rfl (fun K hK => ?_)
    dsimp only
    have hb1 : Below w1.heap.size w1 (w1.alloc (.cells (intsV (List.replicate m 0)).toArray 3)) := (Below.refl _ _).alloc (Nat.le_refl _) _
    have hN := HJ.out.n8 hb1 (Nat.le_refl _) (heap_alloc_new w1 _) hm
    go_simp
    refine hK.out _ _ (hN.sq.cell 0 _ rfl) (fun _ => ⟨_, _, _, _, _, _, _, rfl, hN⟩)
  case h17 =>
    intro b0 b4 b8 b9 b13 x0 x4 x8 x9 x13 x17 F w1 hJ hS
    have HJ := Lib.hid hJ
    clear HJ0 g0 hHeld
    refine one_step rfl (fun K hK => ?_)
    dsimp only
    have hb1 : Below w1.heap.size w1 (w1.alloc (.cells (intsV (List.replicate m 0)).toArray 3)) := (Below.refl _ _).alloc (Nat.le_refl _) _
    have hN := HJ.out.n17 hb1 (Nat.le_refl _) (heap_alloc_new w1 _) hm
    go_simp
    refine hK.out _ _ (hN.sq.cell 0 _ rfl) (fun _ => ⟨_, _, _, _, _, _, _, rfl, hN⟩)
  case h4 =>
    intro b8 b9 b17 x0 x4 x8 x9 x13 x17 F w1 hJ hS
    have HJ := Lib.hid hJ
    clear HJ0 g0 hHeld
    refine one_step rfl (fun K hK => ?_)
    dsimp only
    obtain ⟨gx, rfl, hfx⟩ := HJ.out.f5
    have hc := HRp.out gx w1 ((HJ.out.sq.whole hfx).cell (j := 0) (by simp))
    have Hc := Lib.hid hc
    clear hc hJ hfx
    simp only [sl, List.length_cons, List.length_nil, Nat.zero_add]
    go_simp
    refine Hc.out.mono ?_
    rintro e w2 ⟨nb, rfl, hge, hrow, hb⟩
    have hN := HJ.out.n4 hb hge hrow hm
    simp only [sl, List.length_cons, List.length_nil, Nat.zero_add] at hN
    try dsimp only
    refine hK.out _ _ (hN.sq.cell 0 _ rfl) (fun _ => ⟨_, _, _, _, _, _, _, rfl, hN⟩)
  case h13 =>
    intro b8 b17 x0 x4 x8 x9 x13 x17 F w1 hJ hS
    have HJ := Lib.hid hJ
    clear HJ0 g0 hHeld
    refine one_step rfl (fun K hK => ?_)
    dsimp only
    obtain ⟨gx, rfl, hfx⟩ := HJ.out.f6
    have hc := HRp.out gx w1 ((HJ.out.sq.whole hfx).cell (j := 0) (by simp))
    have Hc := Lib.hid hc
    clear hc hJ hfx
    simp only [sl, List.length_cons, List.length_nil, Nat.zero_add]
    go_simp
    refine Hc.out.mono ?_
    rintro e w2 ⟨nb, rfl, hge, hrow, hb⟩
    have hN := HJ.out.n13 hb hge hrow hm
    simp only [sl, List.length_cons, List.length_nil, Nat.zero_add] at hN
    try dsimp only
    refine hK.out _ _ (hN.sq.cell 0 _ rfl) (fun _ => ⟨_, _, _, _, _, _, _, rfl, hN⟩)
  case hend =>
    intro x0 x4 x8 x9 x13 x17 F w1 hJ hS
    obtain ⟨bu, rfl, f0⟩ := hJ.f0
    obtain ⟨be, rfl, f1⟩ := hJ.f1
    obtain ⟨ba, rfl, f2⟩ := hJ.f2
    obtain ⟨bb, rfl, f3⟩ := hJ.f3
    simp only [List.length_replicate, sl, List.setIfInBounds_toArray, List.set_cons_zero, List.set_cons_succ]
    have HJ := Lib.hid hJ
    have hb1 : Below w1.heap.size w1 (w1.alloc (.cells #[.slice (some ⟨bu, 0, none⟩) m m, .slice (some ⟨be, 0, none⟩) m m, .slice (some ⟨ba, 0, none⟩) m m, .slice (some ⟨bb, 0, none⟩) m m, .slice none 0 0] 225)) := (Below.refl _ _).alloc (Nat.le_refl _) _
    have gb : (w1.alloc (.cells #[.slice (some ⟨bu, 0, none⟩) m m, .slice (some ⟨be, 0, none⟩) m m, .slice (some ⟨ba, 0, none⟩) m m, .slice (some ⟨bb, 0, none⟩) m m, .slice none 0 0] 225)).cell? ⟨w.heap.size, 0, none⟩ = some (.slice Ab m cb) := (hJ.sq.keep hb1).cell 0 _ rfl
    have hsq := hJ.sq.rebox (T' := 225) (cs' := [.slice (some ⟨bu, 0, none⟩) m m, .slice (some ⟨be, 0, none⟩) m m, .slice (some ⟨ba, 0, none⟩) m m, .slice (some ⟨bb, 0, none⟩) m m, .slice none 0 0])
    have hsq2 := (hsq.grown 5 (World.grownBy.refl _ _) noRow (World.ownsRow_nil _ _ _ _) (fun g e => by simp [noRow, Value.ownBlock] at e)).grown 6 (World.grownBy.refl _ _) noRow (World.ownsRow_nil _ _ _ _) (fun g e => by simp [noRow, Value.ownBlock] at e)
    have hoff : ∀ i, 4 < i → (upG (upG F 5 noRow) 6 noRow) i = noRow := fun i hi => by
      by_cases e6 : i = 6
      · subst e6; exact upG_at _ _ _
      · rw [upG_off _ _ _ _ e6]
        by_cases e5 : i = 5
        · subst e5; exact upG_at _ _ _
        · rw [upG_off _ _ _ _ e5]; exact hJ.off i (by omega)
    have hk : ∀ j r, j < 5 → F j = r → (upG (upG F 5 noRow) 6 noRow) j = r := fun j r hj hr => by rw [upG_off _ _ _ _ (by omega), upG_off _ _ _ _ (by omega)]; exact hr
    have hLs : LsS w.heap.size w1.heap.size m (w1.alloc (.cells #[.slice (some ⟨bu, 0, none⟩) m m, .slice (some ⟨be, 0, none⟩) m m, .slice (some ⟨ba, 0, none⟩) m m, .slice (some ⟨bb, 0, none⟩) m m, .slice none 0 0] 225)) bu be ba bb (.slice none 0 0) [] (List.replicate m (-1)) (upTo m 0) (List.replicate m (-1)) (upTo m 0) (upG (upG F 5 noRow) 6 noRow) :=
      ⟨hsq2, hk 0 _ (by omega) f0, hk 1 _ (by omega) (by rw [upTo_zero]; exact f1), hk 2 _ (by omega) f2, hk 3 _ (by omega) (by rw [upTo_zero]; exact f3), hk 4 _ (by omega) (hJ.off 4 (.inl rfl)), by simp, upTo_len _ _, by simp, upTo_len _ _, hm⟩
    have HLs := Lib.hid hLs
    have Hoff := Lib.hid hoff
    have HB := Lib.hid (hJ.bw.trans (hb1.mono hJ.sq.hb))
    have gw : w1.cell? ⟨w.heap.size, 0, none⟩ = some (.slice Ab m cb) := hJ.sq.cell 0 _ rfl
    clear hJ hsq hsq2 hoff hk hLs f0 f1 f2 f3 hb1 HJ0 HRp g0 hHeld hmk
    refine wpAnyH_take (i := 18) (v := ?_) rfl (by kernel_rfl) (by kernel_rfl) (by kernel_rfl) (fun _ _ _ h => h) (Or.inl ⟨by rfl, ?_⟩) (by assumption) ?_
    rotate_left
    · (intro w hSw; (try dsimp only at hSw); first | (go_simp; done) | (go_simp; with_reducible rfl))
    try simp only [Act.put, List.setIfInBounds_toArray, List.set_cons_zero, List.set_cons_succ]
    refine wpAnyH_ready (rs := [19]) (by kernel_rfl) (by simp) ?_
    refine AllReadyH.cons rfl (fun K hK => ?_) (AllReadyH.nil)
    go_simp
    refine hK.out _ _ ?_ (fun hHeld => ?_)
    · ((try dsimp only); first | with_reducible exact gw | with_reducible exact gb)
    clear hK K
    try simp only [Act.put, List.setIfInBounds_toArray, List.set_cons_zero, List.set_cons_succ]
    refine wpAnyH_ready (rs := [20]) (by kernel_rfl) (by simp) ?_
    refine AllReadyH.cons rfl (fun K hK => ?_) (AllReadyH.nil)
    go_simp
    refine hK.out _ _ ?_ (fun hHeld => ?_)
    · ((try dsimp only); first | with_reducible exact gw | with_reducible exact gb)
    clear hK K
    try simp only [Act.put, List.setIfInBounds_toArray, List.set_cons_zero, List.set_cons_succ]
    refine wpAnyH_done (by kernel_rfl) ?_ _
    refine NoPanic.normal ?_
    obtain ⟨X, hX⟩ : ∃ X, X = w1.alloc (.cells #[.slice (some ⟨bu, 0, none⟩) m m, .slice (some ⟨be, 0, none⟩) m m, .slice (some ⟨ba, 0, none⟩) m m, .slice (some ⟨bb, 0, none⟩) m m, .slice none 0 0] 225) := ⟨_, rfl⟩
    obtain ⟨sp, hsp⟩ : ∃ sp, sp = w1.heap.size := ⟨_, rfl⟩
    rw [← hX] at HLs HB ⊢
    rw [← hsp] at HLs ⊢
    rw [← hX] at gb
    clear hX hsp gw
    have HI0 : Hid (∃ F, LsS w.heap.size sp m X bu be ba bb (.slice none 0 0) [] (List.replicate m (-1)) (upTo m 0) (List.replicate m (-1)) (upTo m 0) F ∧ ∀ i, 4 < i → F i = noRow) := Lib.hid ⟨_, HLs.out, Hoff.out⟩
    clear HLs Hoff
    go_upto_region 2 with fail
    go_upto_block 0 with fail
    clear gb
    go_wp2_with fail
    go_loopw [28] (fun u28 wr => ∃ i : Nat, i ≤ m ∧ u28 = .int .i64 i ∧ Hid (Below w.heap.size w wr) ∧ Hid (∃ F, LsS w.heap.size sp m wr bu be ba bb (.slice none 0 0) [] (List.replicate m (-1)) (upTo m i) (List.replicate m (-1)) (upTo m i) F ∧ ∀ i, 4 < i → F i = noRow)) (fun u28 _ => m - (intOf u28).toNat)
    case atStart => exact ⟨0, Nat.zero_le _, rfl, HB, HI0⟩
    case round =>
      clear HB HI0
      obtain ⟨i, hi, rfl, HB, HI⟩ := hrel
      by_cases hlt : i < m
      · obtain ⟨Fi, hL, hoff⟩ := HI.out
        have gd : wr.drew.cell? ⟨sp, 1, none⟩ = some (.slice (some ⟨be, 0, none⟩) m m) ∧ wr.drew.cell? ⟨sp, 3, none⟩ = some (.slice (some ⟨bb, 0, none⟩) m m) := ⟨hL.sq.cell 1 _ rfl, hL.sq.cell 3 _ rfl⟩
        have cb1 : ∃ v, wr.drew.cell? ⟨be, i, none⟩ = some v := ⟨_, hL.r0.2.1.cell (by rw [hL.l1]; exact hlt)⟩
        obtain ⟨v1, cb1⟩ := cb1
        have cf1 : wr.drew.frozen? ⟨be, i, none⟩ = false := hL.r0.2.1.fro i
        obtain ⟨hL1, hb1⟩ := hL.set1 i (i : Int)
        have hD1 := hL1.keep (Below.refl _ _).drew
        have g1 : (wr.setCell ⟨be, i, none⟩ (.int .i64 (i : Int))).drew.cell? ⟨sp, 1, none⟩ = some (.slice (some ⟨be, 0, none⟩) m m) ∧ (wr.setCell ⟨be, i, none⟩ (.int .i64 (i : Int))).drew.cell? ⟨sp, 3, none⟩ = some (.slice (some ⟨bb, 0, none⟩) m m) := ⟨hD1.sq.cell 1 _ rfl, hD1.sq.cell 3 _ rfl⟩
        have cb3 : ∃ v, (wr.setCell ⟨be, i, none⟩ (.int .i64 (i : Int))).drew.cell? ⟨bb, i, none⟩ = some v := ⟨_, hD1.r0.2.2.2.cell (by rw [hL1.l3]; exact hlt)⟩
        obtain ⟨v3, cb3⟩ := cb3
        have cf3 := hD1.r0.2.2.2.fro i
        obtain ⟨hL2, hb2⟩ := hL1.set3 i (i : Int)
        rw [upTo_set] at hL2
        have hD2 := hL2.keep (Below.refl _ _).drew
        have g2 : ((wr.setCell ⟨be, i, none⟩ (.int .i64 (i : Int))).setCell ⟨bb, i, none⟩ (.int .i64 (i : Int))).drew.cell? ⟨sp, 1, none⟩ = some (.slice (some ⟨be, 0, none⟩) m m) ∧ ((wr.setCell ⟨be, i, none⟩ (.int .i64 (i : Int))).setCell ⟨bb, i, none⟩ (.int .i64 (i : Int))).drew.cell? ⟨sp, 3, none⟩ = some (.slice (some ⟨bb, 0, none⟩) m m) := ⟨hD2.sq.cell 1 _ rfl, hD2.sq.cell 3 _ rfl⟩
        have HN : Hid (∃ F, LsS w.heap.size sp m ((wr.setCell ⟨be, i, none⟩ (.int .i64 (i : Int))).setCell ⟨bb, i, none⟩ (.int .i64 (i : Int))).drew bu be ba bb (.slice none 0 0) [] (List.replicate m (-1)) (upTo m (i + 1)) (List.replicate m (-1)) (upTo m (i + 1)) F ∧ ∀ i, 4 < i → F i = noRow) := Lib.hid ⟨_, hD2, fun i hi => by rw [upG_off _ _ _ _ (by omega), upG_off _ _ _ _ (by omega)]; exact hoff i hi⟩
        have HBN := Lib.hid (((HB.out.trans hb1).trans hb2).drew)
        clear hL hoff hL1 hL2 hD1 hD2 hb1 hb2 HI HB
        go_upto_region 5 with fail
        refine wp_region_noPanic ?_
        refine wp_region_held_drew (S := fun w' => w'.cell? ⟨sp, 1, none⟩ = some (.slice (some ⟨be, 0, none⟩) m m) ∧ w'.cell? ⟨sp, 3, none⟩ = some (.slice (some ⟨bb, 0, none⟩) m m)) (by kernel_rfl) gd (fun hHeld => ?_)
        refine wpAnyH_take (i := 0) (v := ?_) rfl (by kernel_rfl) (by kernel_rfl) (by kernel_rfl) (fun _ _ _ h => h) (Or.inl ⟨by rfl, ?_⟩) (by assumption) ?_
        rotate_left
        · (intro w hSw; (try dsimp only at hSw); first | (go_simp; done) | (go_simp; with_reducible rfl))
        try simp only [Act.put, List.setIfInBounds_toArray, List.set_cons_zero, List.set_cons_succ]
        refine wpAnyH_take (i := 1) (v := ?_) rfl (by kernel_rfl) (by kernel_rfl) (by kernel_rfl) (fun _ _ _ h => h) (Or.inl ⟨by rfl, ?_⟩) (by assumption) ?_
        rotate_left
        · (intro w hSw; (try dsimp only at hSw); first | (go_simp; done) | (go_simp; with_reducible rfl))
        try simp only [Act.put, List.setIfInBounds_toArray, List.set_cons_zero, List.set_cons_succ]
        refine wpAnyH_take (i := 2) (v := ?_) rfl (by kernel_rfl) (by kernel_rfl) (by kernel_rfl) (fun _ _ _ h => h) (Or.inl ⟨by rfl, ?_⟩) (by assumption) ?_
        rotate_left
        · (intro w hSw; (try dsimp only at hSw); first | (go_simp; done) | (go_simp; with_reducible rfl))
        try simp only [Act.put, List.setIfInBounds_toArray, List.set_cons_zero, List.set_cons_succ]
        refine wpAnyH_take (i := 3) (v := ?_) rfl (by kernel_rfl) (by kernel_rfl) (by kernel_rfl) (fun _ _ _ h => h) (Or.inl ⟨by rfl, ?_⟩) (by assumption) ?_
        rotate_left
        · (intro w hSw; (try dsimp only at hSw); first | (go_simp; done) | (go_simp; with_reducible rfl))
        try simp only [Act.put, List.setIfInBounds_toArray, List.set_cons_zero, List.set_cons_succ]
        refine wpAnyH_take (i := 4) (v := ?_) rfl (by kernel_rfl) (by kernel_rfl) (by kernel_rfl) (fun _ _ _ h => h) (Or.inl ⟨by rfl, ?_⟩) (by assumption) ?_
        rotate_left
        · (intro w hSw; (try dsimp only at hSw); first | (go_simp; done) | (go_simp; with_reducible rfl))
        try simp only [Act.put, List.setIfInBounds_toArray, List.set_cons_zero, List.set_cons_succ]
        refine wpAnyH_take (i := 5) (v := ?_) rfl (by kernel_rfl) (by kernel_rfl) (by kernel_rfl) (fun _ _ _ h => h) (Or.inl ⟨by rfl, ?_⟩) (by assumption) ?_
        rotate_left
        · (intro w hSw; (try dsimp only at hSw); first | (go_simp; done) | (go_simp; with_reducible rfl))
        try simp only [Act.put, List.setIfInBounds_toArray, List.set_cons_zero, List.set_cons_succ]
        refine wpAnyH_take (i := 6) (v := ?_) rfl (by kernel_rfl) (by kernel_rfl) (by kernel_rfl) (fun _ _ _ h => h) (Or.inl ⟨by rfl, ?_⟩) (by assumption) ?_
        rotate_left
        · (intro w hSw; (try dsimp only at hSw); first | (go_simp; done) | (go_simp; with_reducible rfl))
        try simp only [Act.put, List.setIfInBounds_toArray, List.set_cons_zero, List.set_cons_succ]
        refine wpAnyH_take (i := 7) (v := ?_) rfl (by kernel_rfl) (by kernel_rfl) (by kernel_rfl) (fun _ _ _ h => h) (Or.inl ⟨by rfl, ?_⟩) (by assumption) ?_
        rotate_left
        · (intro w hSw; (try dsimp only at hSw); first | (go_simp; done) | (go_simp; with_reducible rfl))
        try simp only [Act.put, List.setIfInBounds_toArray, List.set_cons_zero, List.set_cons_succ]
        refine wpAnyH_take (i := 8) (v := ?_) rfl (by kernel_rfl) (by kernel_rfl) (by kernel_rfl) (fun _ _ _ h => h) (Or.inl ⟨by rfl, ?_⟩) (by assumption) ?_
        rotate_left
        · (intro w hSw; (try dsimp only at hSw); first | (go_simp; done) | (go_simp; with_reducible rfl))
        try simp only [Act.put, List.setIfInBounds_toArray, List.set_cons_zero, List.set_cons_succ]
        refine wpAnyH_take (i := 9) (v := ?_) rfl (by kernel_rfl) (by kernel_rfl) (by kernel_rfl) (fun _ _ _ h => h) (Or.inl ⟨by rfl, ?_⟩) (by assumption) ?_
        rotate_left
        · (intro w hSw; (try dsimp only at hSw); first | (go_simp; done) | (go_simp; with_reducible rfl))
        try simp only [Act.put, List.setIfInBounds_toArray, List.set_cons_zero, List.set_cons_succ]
        refine wpAnyH_take (i := 10) (v := ?_) rfl (by kernel_rfl) (by kernel_rfl) (by kernel_rfl) (fun _ _ _ h => h) (Or.inl ⟨by rfl, ?_⟩) (by assumption) ?_
        rotate_left
        · (intro w hSw; (try dsimp only at hSw); first | (go_simp; done) | (go_simp; with_reducible rfl))
        try simp only [Act.put, List.setIfInBounds_toArray, List.set_cons_zero, List.set_cons_succ]
        refine wpAnyH_take (i := 11) (v := ?_) rfl (by kernel_rfl) (by kernel_rfl) (by kernel_rfl) (fun _ _ _ h => h) (Or.inl ⟨by rfl, ?_⟩) (by assumption) ?_
        rotate_left
        · (intro w hSw; (try dsimp only at hSw); first | (go_simp; done) | (go_simp; with_reducible rfl))
        try simp only [Act.put, List.setIfInBounds_toArray, List.set_cons_zero, List.set_cons_succ]
        refine wpAnyH_take (i := 12) (v := ?_) rfl (by kernel_rfl) (by kernel_rfl) (by kernel_rfl) (fun _ _ _ h => h) (Or.inl ⟨by rfl, ?_⟩) (by assumption) ?_
        rotate_left
        · (intro w hSw; (try dsimp only at hSw); first | (go_simp; done) | (go_simp; with_reducible rfl))
        try simp only [Act.put, List.setIfInBounds_toArray, List.set_cons_zero, List.set_cons_succ]
        refine wpAnyH_ready (rs := [13]) (by kernel_rfl) (by simp) ?_
        refine AllReadyH.cons rfl (fun K hK => ?_) (AllReadyH.nil)
        go_simp
        refine hK.out _ _ ?_ (fun hHeld => ?_)
        · ((try dsimp only); first | with_reducible exact gd | with_reducible exact g1 | with_reducible exact g2)
        clear hK K
        try simp only [Act.put, List.setIfInBounds_toArray, List.set_cons_zero, List.set_cons_succ]
        refine wpAnyH_take (i := 14) (v := ?_) rfl (by kernel_rfl) (by kernel_rfl) (by kernel_rfl) (fun _ _ _ h => h) (Or.inl ⟨by rfl, ?_⟩) (by assumption) ?_
        rotate_left
        · (intro w hSw; (try dsimp only at hSw); first | (go_simp; done) | (go_simp; with_reducible rfl))
        try simp only [Act.put, List.setIfInBounds_toArray, List.set_cons_zero, List.set_cons_succ]
        refine wpAnyH_ready (rs := [15]) (by kernel_rfl) (by simp) ?_
        refine AllReadyH.cons rfl (fun K hK => ?_) (AllReadyH.nil)
        go_simp
        refine hK.out _ _ ?_ (fun hHeld => ?_)
        · ((try dsimp only); first | with_reducible exact gd | with_reducible exact g1 | with_reducible exact g2)
        clear hK K
        try simp only [Act.put, List.setIfInBounds_toArray, List.set_cons_zero, List.set_cons_succ]
        refine wpAnyH_done (by kernel_rfl) ?_ _
        refine NoPanic.normal ?_
        clear gd g1 g2 cb1 cf1 cb3 cf3
        go_wp2
        go_roundw
        case rel => exact ⟨i + 1, by omega, by go_num, HBN, HN⟩
        case measure => simp [intOf]; omega
      · obtain rfl : i = m := by omega
        obtain ⟨Fi, hL, hoff⟩ := HI.out
        have HL := Lib.hid hL
        have Hoff := Lib.hid hoff
        clear hL hoff HI
        go_wp2
        go_ret
        exact ⟨_, _, _, _, _, _, rfl, HL.out, Hoff.out, HB.out⟩
end Go.Proofs.Ytagagpappjkgbaa
