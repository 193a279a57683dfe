/-
  Run, of a program that may be.
-/
import Derived.Test.YtagagpappjkgbaaJx21
import Derived.Test.YtagagpappjkgbaaJx22
import Derived.Test.YtagagpappjkgbaaJx23
import Derived.Lib.MinMax
import Derived.Deep.WholeRow
namespace Go.Proofs.Ytagagpappjkgbaa
set_option linter.unusedVariables false
set_option linter.unusedSimpArgs false
open Go.RowKit Go.Shelf Go.Sort

/-- A new runner's cells. -/
def rcL (A : Option Addr) (n c : Nat) (fuel : Int) : Array Value := #[.slice A n c, .int .i64 fuel, .slice none 0 0, .int .i64 0, .int .i64 0, .int .i64 0, .int .i64 0, .int .i64 0, .int .i64 0, .bool false, .slice none 0 0, .int .i64 0, .int .i64 0, .int .i64 0, .int .i64 0, .int .i64 0, .slice none 0 0, .slice none 0 0, .slice none 0 0, .slice none 0 0]
theorem rcL_eq (inA : Option Addr) (inL inC : Nat) (fuel : Int) (inn : List Int) (h : inL = inn.length) : rcL inA inL inC fuel = (xCells (rst inn fuel []) 0 (M0 inA inC)).toArray := by subst h; rfl
theorem builtR (A : Option Addr) (n c : Nat) (fuel : Int) : Try.prog.built 102 [(0, .slice A n c), (1, .int .i64 fuel)] = some (rcL A n c fuel) := by kernel_rfl
theorem infR : (Try.prog.info? 102).map (fun i => (i.zero, i.size)) = some (some (.agg (rcL none 0 0 0)), 20) := by kernel_rfl
theorem sizR : (Try.prog.info? 102).map (·.size) = some 20 := by
  exact (zero_of_info infR).2
theorem rcL_one (A : Option Addr) (n c : Nat) (fuel : Int) : (rcL A n c fuel).all (·.oneCell') = true := by simp [rcL, Value.oneCell']
theorem wpList_buildR {ops : Array Oper} {rest : List Oper} {o : Oper} {a : Act} {w : World} {Q : Exit → Act → World → Prop} (hg : o.guard = none) (parts : Array (Nat × Operand)) (ho : o.op = .build 102 parts) (A : Option Addr) (n c : Nat) (fuel : Int)
    (hp : (parts.map fun (i, x) => (i, a.eval x)).toList = [(0, .slice A n c), (1, .int .i64 fuel)])
    (h : wpList Try.prog ops Q rest (a.put o.dst (.agg (rcL A n c fuel))) w) : wpList Try.prog ops Q (o :: rest) a w :=
  wpList_build hg 102 parts ho (by rw [hp, builtR]; rfl) (by rw [hp, builtR]; exact h)
theorem wpList_allocR {ops : Array Oper} {rest : List Oper} {o : Oper} {a : Act} {w : World} {Q : Exit → Act → World → Prop} (hg : o.guard = none) (ho : o.op = .alloc 102)
    (h : wpList Try.prog ops Q rest (a.put o.dst (.pointer (some ⟨w.heap.size, 0, none⟩))) (w.alloc (.cells (rcL none 0 0 0) 102))) : wpList Try.prog ops Q (o :: rest) a w :=
  wpList_plain hg fun K hK => by
    unfold Oper.wp execOp
    simp only [ho, Instr.alloc, Sem.run_bind, (zero_of_info infR).1, Result.andThen_ok]
    exact hK _ _ h
theorem wpList_storeR {ops : Array Oper} {rest : List Oper} {o : Oper} {a : Act} {w : World} {Q : Exit → Act → World → Prop} (hg : o.guard = none) (x y : Operand) (ho : o.op = .store 102 x y) (A : Option Addr) (n c : Nat) (fuel : Int)
    (hx : a.eval x = .pointer (some ⟨w.heap.size, 0, none⟩)) (hy : a.eval y = .agg (rcL A n c fuel))
    (h : wpList Try.prog ops Q rest (a.put o.dst undef) (w.alloc (.cells (rcL A n c fuel) 102))) : wpList Try.prog ops Q (o :: rest) a (w.alloc (.cells (rcL none 0 0 0) 102)) :=
  wpList_store_row hg 102 x y ho w.heap.size (rcL A n c fuel) hx hy 102 (rcL none 0 0 0) (heap_alloc_last w _) (by rw [sizR]; rfl) rfl (rcL_one _ _ _ _) (by rw [World.setRow_alloc_new]; exact h)
/-- While functions are laid out. -/
def RunL (fs : List SF) (cm : List (List (Int × Int))) (inn : List Int) (fuel : Int) (n0 E : Nat) (W5 : World) (i : Nat) (wr : World) : Prop := ∃ (M : XM) (F : Nat → GRw),
  XOk n0 E E (fs.take i) (cm.take i) (rst inn fuel (fs.take i)) M F wr ∧ (∀ j, (fs.take i).length ≤ j → (F (6 + 4 * j)).v.ownBlock = none ∧ (F (7 + 4 * j)).v.ownBlock = none) ∧ Below E W5 wr
/-- While it runs. -/
def RunI (fs : List SF) (cm : List (List (Int × Int))) (n0 E : Nat) (W5 : World) (rE : XR) (k : Nat) (wr : World) : Prop := ∃ (r : XR) (M : XM) (F : Nat → GRw),
  XOk n0 E E fs cm r M F wr ∧ RefsOk r ∧ TabsOk r ∧ runX fs cm k r = some rE ∧ Below E W5 wr
theorem take_more {α : Type} (l : List α) (i : Nat) (h : i < l.length) : l.take (i + 1) = l.take i ++ [l[i]] := by
  rw [List.take_add_one, List.getElem?_eq_getElem h]; rfl
theorem runX_end {fs : List SF} {cm : List (List (Int × Int))} : ∀ {k : Nat} {r rE : XR}, r.stop.isSome = true → runX fs cm k r = some rE → rE = r
  | 0, r, rE, h, hx => by unfold runX at hx; rw [if_pos h] at hx; injection hx with hx; exact hx.symm
  | k + 1, r, rE, h, hx => by unfold runX at hx; rw [if_pos h] at hx; injection hx with hx; exact hx.symm
theorem runX_on {fs : List SF} {cm : List (List (Int × Int))} : ∀ {k : Nat} {r rE : XR}, r.stop.isSome = false → runX fs cm k r = some rE → ∃ k' r', k = k' + 1 ∧ stepX fs cm r = some r' ∧ runX fs cm k' r' = some rE
  | 0, r, rE, h, hx => by unfold runX at hx; rw [if_neg (by simp [h])] at hx; cases hx
  | k + 1, r, rE, h, hx => by
    unfold runX at hx
    rw [if_neg (by simp [h]), Option.bind_eq_some_iff] at hx
    obtain ⟨r', h1, h2⟩ := hx
    exact ⟨k, r', rfl, h1, h2⟩
set_option maxRecDepth 100000 in
set_option maxHeartbeats 32000000 in
theorem run_c (fs : List SF) (cm : List (List (Int × Int))) (main : Nat) (fA : Option Addr) (fn fc : Nat) (w : World) (hF : SFs w.heap.size w (.slice fA fn fc) fs) (hfn : fn = fs.length) (hfb : fn ≤ 1048575)
    (hP : ∀ A, Below w.heap.size w A → Calls Try.prog 46 #[.agg #[.slice fA fn fc, .int .i64 (main : Int)]] A fun e w' => (∃ k : Int, e = .returned (.tuple #[.int .i64 0, .int .i64 k])) ∧ Below A.heap.size A w')
    (hcl : cm.length = fs.length) (hcm : ∀ (i : Nat) (f : SF) (L : List (Int × Int)), fs[i]? = some f → cm[i]? = some L → layX f = some L ∧ L.length = f.blocks.length)
    (hbd : ∀ f ∈ fs, f.ins.length ≤ 1048576 ∧ f.blocks.length ≤ 1048576 ∧ ∀ k ∈ f.blocks, k.list.length ≤ 1048576 ∧ k.preds.length ≤ 1048576 ∧ k.to_.length ≤ 1048576)
    (inn : List Int) (inA : Option Addr) (inL inC : Nat) (hi : GNs w.heap.size w (.slice inA inL inC) inn) (hil : inL = inn.length) (hic : inL ≤ inC ∧ inC ≤ 9223372036854775807)
    (fuel0 fuel : Int) (hmax : max fuel0 0 = fuel) (hfu : 0 ≤ fuel ∧ fuel ≤ 1152921504606846976) (K : Nat) (rE : XR) (hrun : runX fs cm K (beginX fs inn fuel main) = some rE) :
    Calls Try.prog 28 #[.agg #[.slice fA fn fc, .int .i64 (main : Int)], .slice inA inL inC, .int .i64 fuel0] w fun e w' => ∃ A c, e = .returned (.agg #[.slice A rE.events.length c, .int .i64 (endX' rE), .int .i64 (valX rE), .int .i64 (fuel - rE.left), .int .i64 0, .int .i64 0, .int .i64 0]) ∧ w'.ownsRow w.heap.size 2 1 (.slice A rE.events.length c) rE.events.length (intsV rE.events) ∧ Below w.heap.size w w' := by
  obtain ⟨W1, hW1, hbW1, hzW1, h0W1⟩ := gr_one w #[.slice fA fn fc, .int .i64 (main : Int)] 36
  obtain ⟨W2, hW2, hbW2, hzW2, h0W2⟩ := gr_one W1 #[.slice none 0 0, .int .i64 0, .int .i64 0, .int .i64 0, .int .i64 0, .int .i64 0, .int .i64 0] 50
  have hbw2 : Below w.heap.size w W2 := hbW1.trans (hbW2.mono hbW1.size)
  have hP2 := hP W2 hbw2
  have h1W2 : W2.heap[w.heap.size]? = some (.cells #[.slice fA fn fc, .int .i64 (main : Int)] 36 (0, 0)) := (hbW2.block _ (by omega)).trans h0W1
  have HK : Hid (∀ A, Below W2.heap.size W2 A → A.heap[w.heap.size]? = some (.cells #[.slice fA fn fc, .int .i64 (main : Int)] 36 (0, 0)) ∧ A.heap[w.heap.size + 1]? = some (.cells #[.slice none 0 0, .int .i64 0, .int .i64 0, .int .i64 0, .int .i64 0, .int .i64 0, .int .i64 0] 50 (0, 0)) ∧ w.heap.size + 2 ≤ A.heap.size ∧ Below w.heap.size w A) := Lib.hid fun A hA => by
    have hs := hA.size
    refine ⟨(hA.block _ (by omega)).trans h1W2, ?_, by omega, hbw2.trans (hA.mono hbw2.size)⟩
    have := (hA.block W1.heap.size (by omega)).trans h0W2
    rw [hzW1] at this
    exact this
  have c0 := Lib.cell_of_heap h1W2 0
  have c1 := Lib.cell_of_heap h1W2 1
  have HW1 := Lib.hid hW1
  have HW2 := Lib.hid hW2
  have HF := Lib.hid hF
  have Hfn := Lib.hid hfn
  have Hcl := Lib.hid hcl
  have Hcm := Lib.hid hcm
  have Hbd := Lib.hid hbd
  have Hi := Lib.hid hi
  have Hil := Lib.hid hil
  have Hic := Lib.hid hic
  have Hfu := Lib.hid hfu
  have Hrun := Lib.hid hrun
  have Hz1 := Lib.hid hzW1
  clear hF hfn hP hcl hcm hbd hi hil hic hfu hrun hW1 hW2 hbW1 hbW2 hzW1 hzW2 h0W1 h0W2 hbw2 h1W2
  go_enter Try.func28, Try.ntmps28
  go_upto_region 1 with fail
  rw [← HW1.out, ← HW2.out]
  go_upto_region 5 with (go_at_call 46; refine hP2.mono ?_; rintro e W3 ⟨⟨kz, rfl⟩, hb3⟩; have Hb3 := Lib.hid hb3; clear hb3 hP2)
  clear c0 c1
  obtain ⟨k0, k1, hsz, hbw3⟩ := HK.out W3 Hb3.out
  obtain ⟨E, hE⟩ : ∃ E, E = W3.heap.size := ⟨_, rfl⟩
  obtain ⟨W5, hW5, hbW5, hzW5, h0W5⟩ := gr_one W3 (xCells (rst inn fuel []) 0 (M0 inA inC)).toArray 102
  have k0' := (hbW5.block _ (by omega)).trans k0
  have k1' := (hbW5.block _ (by omega)).trans k1
  have hbw5 : Below w.heap.size w W5 := hbw3.trans (hbW5.mono (by omega))
  have hst := XOk.start (n0 := w.heap.size) (E := W3.heap.size) (inn := inn) (fuel := fuel) (inA := inA) (inC := inC) h0W5 (by omega) (by rw [← Hil.out]; exact Hi.out.keep hbw5) (by rw [← Hil.out]; exact Hic.out) Hfu.out
  have c0 := Lib.cell_of_heap k0' 0
  have HL0 : Hid (RunL fs cm inn fuel w.heap.size E W5 0 W5) := Lib.hid (by rw [hE]; exact ⟨_, _, hst.1, fun j _ => hst.2 j, Below.refl _ _⟩)
  have HW5 : Hid (W5 = W3.alloc (.cells (rcL inA inL inC fuel) 102)) := Lib.hid (by rw [hW5, rcL_eq inA inL inC fuel inn Hil.out])
  have Hk0 := Lib.hid k0'
  have Hk1 := Lib.hid k1'
  have Hbw5 := Lib.hid hbw5
  have HEs : Hid (w.heap.size + 2 ≤ E ∧ W5.heap.size = E + 1) := Lib.hid ⟨by omega, by omega⟩
  clear k0 k1 hbw3 hW5 hbW5 hzW5 h0W5 k0' k1' hbw5 hst hsz
  go_upto_region 6 with (first | (refine wpList_buildR rfl _ rfl inA inL inC fuel rfl ?_) | (refine wpList_allocR rfl rfl ?_) | (refine wpList_storeR rfl _ _ rfl inA inL inC fuel rfl rfl ?_))
  rw [← HW5.out, ← hE]
  clear hE
  go_wp2_with fail
  clear c0
  go_loopw [28] (fun u28 wr => ∃ i : Nat, i ≤ fn ∧ u28 = .int .i64 (i : Int) ∧ Hid (RunL fs cm inn fuel w.heap.size E W5 i wr)) (fun u28 _ => fn - (intOf u28).toNat)
  case atStart => exact ⟨0, Nat.zero_le _, rfl, HL0⟩
  case round =>
    clear HL0
    obtain ⟨i, hi, rfl, HL⟩ := hrel
    obtain ⟨wo, hwo⟩ : ∃ x, x = wr := ⟨_, rfl⟩
    rw [← hwo] at HL ⊢
    clear hwo
    obtain ⟨M, F, hX, hfree, hbo⟩ := HL.out
    by_cases hlt : i < fn
    · have hfl : i < fs.length := by rw [← Hfn.out]; exact hlt
      have hFo := HF.out.keep Hbw5.out
      obtain ⟨gb, o, s, pA, pc, iA, ic, bA, bc, hfA, hgb, k0, k1, k2, k3, k4, hpg, his, hbs⟩ := HF.out.at hfl
      subst hfA
      obtain ⟨f, hf⟩ : ∃ f, f = fs[i] := ⟨_, rfl⟩
      rw [← hf] at k1 k2 k3 k4 hpg his hbs
      have hgw : gb < E := Nat.lt_of_lt_of_le hgb (Nat.le_trans (Nat.le_add_right _ _) HEs.out.1)
      have hbwo : Below w.heap.size w wo := Hbw5.out.trans (hbo.mono (Nat.le_trans (Nat.le_add_right _ _) HEs.out.1))
      obtain ⟨pn, hpn⟩ : ∃ pn, pn = f.params.length := ⟨_, rfl⟩
      obtain ⟨im, him⟩ : ∃ im, im = f.ins.length := ⟨_, rfl⟩
      obtain ⟨bn, hbn⟩ : ∃ bn, bn = f.blocks.length := ⟨_, rfl⟩
      obtain ⟨rt, hrt⟩ : ∃ rt, rt = f.ret := ⟨_, rfl⟩
      have y0 := (hbwo.cell (p := ⟨gb, o + i * 5, none⟩) hgb).trans k0
      have y1 := (hbwo.cell (p := ⟨gb, o + i * 5 + 1, none⟩) hgb).trans k1
      have y2 := (hbwo.cell (p := ⟨gb, o + i * 5 + 2, none⟩) hgb).trans k2
      have y3 := (hbwo.cell (p := ⟨gb, o + i * 5 + 3, none⟩) hgb).trans k3
      have y4 := (hbwo.cell (p := ⟨gb, o + i * 5 + 4, none⟩) hgb).trans k4
      rw [← hpn] at y1
      rw [← hrt] at y2
      rw [← him] at y3
      rw [← hbn] at y4
      obtain ⟨X, hX', hbX, hzX, h0X⟩ := gr_one wo #[.string s, .slice pA pn pc, .int .i64 rt, .slice iA im ic, .slice bA bn bc] 68
      obtain ⟨kb, hkb⟩ : ∃ kb, kb = wo.heap.size := ⟨_, rfl⟩
      rw [← hkb] at h0X
      have hfm : f ∈ fs := by rw [hf]; exact List.getElem_mem hfl
      have hfb := Hbd.out f hfm
      have hcl : i < cm.length := by rw [Hcl.out]; exact hfl
      obtain ⟨hLL, hLn⟩ := Hcm.out i f cm[i] (by rw [hf]; exact List.getElem?_eq_getElem hfl) (List.getElem?_eq_getElem hcl)
      obtain ⟨L, hL⟩ : ∃ L, L = cm[i] := ⟨_, rfl⟩
      rw [← hL] at hLL hLn
      have hXd := hX.keep (hbX.drew)
      have hbwX : Below w.heap.size w X.drew := (hbwo.trans (hbX.mono hbwo.size)).drew
      have hisX := his.keep hbwX
      have hbsX := hbs.keep hbwX
      have hLay := lay_c w.heap.size f s pA iA bA pn pc ic bc X.drew hisX hbsX hfb.1 hfb.2.1 (fun k hk => ((hfb.2.2 k hk).2)) hbwX.size L hLL
      rw [← him, ← hbn, ← hrt] at hLay
      rw [← him] at hisX
      rw [← hbn] at hbsX
      have Hin : Hid (i = (fs.take i).length) := Lib.hid (by rw [List.length_take]; omega)
      have x10 : X.drew.cell? ⟨E, 10, none⟩ = some (.slice M.fA i M.fC) := by rw [Hin.out]; exact hXd.sq.cell 10 _ rfl
      have HXd := Lib.hid hXd
      have HX0 := Lib.hid h0X
      have HX' := Lib.hid hX'
      have HS : Hid (∀ A : World, A.heap[kb]? = some (.cells #[.string s, .slice pA pn pc, .int .i64 rt, .slice iA im ic, .slice bA bn bc] 68 (0, 0)) → A.cell? ⟨kb, 0, none⟩ = some (.string s) ∧ A.cell? ⟨kb, 1, none⟩ = some (.slice pA pn pc) ∧ A.cell? ⟨kb, 2, none⟩ = some (.int .i64 rt) ∧ A.cell? ⟨kb, 3, none⟩ = some (.slice iA im ic) ∧ A.cell? ⟨kb, 4, none⟩ = some (.slice bA bn bc)) := Lib.hid fun A h => ⟨Lib.cell_of_heap h 0, Lib.cell_of_heap h 1, Lib.cell_of_heap h 2, Lib.cell_of_heap h 3, Lib.cell_of_heap h 4⟩
      have Hkb : Hid (kb < X.drew.heap.size) := Lib.hid (gr_in h0X)
      have HkE : Hid (E ≠ kb) := Lib.hid (by have := hX.sq.fam.el; omega)
      have Hkr : Hid ((F 5).v.ownBlock ≠ some kb) := Lib.hid (fun e => by have := ((hX.sq.fam.own 5).lt kb e).2; omega)
      have Hfree := Lib.hid hfree
      have HLl := Lib.hid hLn
      have Hfb := Lib.hid hfb
      have HIs := Lib.hid hisX
      have HBs := Lib.hid hbsX
      have Him := Lib.hid him
      have Hbn := Lib.hid hbn
      have Hrt := Lib.hid hrt
      have HBX : Hid (Below E W5 X.drew) := Lib.hid (hbo.trans ((hbX.drew).mono hX.sq.hb))
      have Htk : Hid (fs.take (i + 1) = fs.take i ++ [f]) := Lib.hid (by rw [hf]; exact take_more fs i hfl)
      have Htc : Hid (cm.take (i + 1) = cm.take i ++ [L]) := Lib.hid (by rw [hL]; exact take_more cm i hcl)
      obtain ⟨i0, zv, hi0, hzv, hzc, hs0, hy0⟩ := info_cells infoFun
      have Hi0 := Lib.hid hi0
      have Hzv := Lib.hid hzv
      have Hzc := Lib.hid hzc
      have Hs0 := Lib.hid hs0
      have Hy0 := Lib.hid hy0
      have hkb' : wo.heap.size = kb := hkb.symm
      have Hkbe := Lib.hid hkb'
      clear hX hfree hbo HL hfl hFo k0 k1 k2 k3 k4 hpg his hbs hgb hf hgw hbwo hpn him hbn hrt hX' hbX hzX h0X hfm hfb hcl hLL hLn hL hXd hbwX hisX hbsX hi0 hzv hzc hs0 hy0 hkb hkb'
      go_upto_region 9 with fail
      rw [← HX'.out, Hkbe.out]
      clear y0 y1 y2 y3 y4
      refine wp_region_held_drew (S := fun u : World => u.cell? ⟨kb, 0, none⟩ = some (.string s) ∧ u.cell? ⟨kb, 1, none⟩ = some (.slice pA pn pc) ∧ u.cell? ⟨kb, 2, none⟩ = some (.int .i64 rt) ∧ u.cell? ⟨kb, 3, none⟩ = some (.slice iA im ic) ∧ u.cell? ⟨kb, 4, none⟩ = some (.slice bA bn bc)) (by kernel_rfl) (HS.out X HX0.out) (fun hHeld => ?_)
      refine wpAnyH_take (i := 0) (v := ?_) rfl (by kernel_rfl) (by kernel_rfl) (by kernel_rfl) (fun _ _ _ h => h) (Or.inl ⟨by kernel_rfl, ?_⟩) (by assumption) ?_
      rotate_left
      · (intro w hSw; (try dsimp only at hSw); first | (go_simp; done) | (go_simp; with_reducible rfl))
      try simp only [Act.put, List.setIfInBounds_toArray, List.set_cons_zero, List.set_cons_succ]
      refine wpAnyH_take (i := 2) (v := ?_) rfl (by kernel_rfl) (by kernel_rfl) (by kernel_rfl) (fun _ _ _ h => h) (Or.inl ⟨by kernel_rfl, ?_⟩) (by assumption) ?_
      rotate_left
      · (intro w hSw; (try dsimp only at hSw); first | (go_simp; done) | (go_simp; with_reducible rfl))
      try simp only [Act.put, List.setIfInBounds_toArray, List.set_cons_zero, List.set_cons_succ]
      refine wpAnyH_ready (rs := [1, 3]) (by kernel_rfl) (by simp) ?_
      refine AllReadyH.cons rfl (fun K hK => ?_) (AllReadyH.cons rfl (fun K hK => ?_) (AllReadyH.nil))
      · have hs0 : X.drew.cell? ⟨kb, 0, none⟩ = some (.string s) ∧ X.drew.cell? ⟨kb, 1, none⟩ = some (.slice pA pn pc) ∧ X.drew.cell? ⟨kb, 2, none⟩ = some (.int .i64 rt) ∧ X.drew.cell? ⟨kb, 3, none⟩ = some (.slice iA im ic) ∧ X.drew.cell? ⟨kb, 4, none⟩ = some (.slice bA bn bc) := HS.out _ HX0.out
        have s10 : X.drew.cell? ⟨E, 10, none⟩ = some (.slice M.fA i M.fC) := by first | exact x10 | (rw [Hin.out]; exact x10)
        go_simp
        refine hK.out _ _ ?_ (fun hHeld => ?_)
        · ((try dsimp only); first | with_reducible assumption | exact hs0 | exact hs1 | exact hs2 | exact hs3 | exact hs4 | exact hs5)
        clear hK K
        try simp only [Act.put, List.setIfInBounds_toArray, List.set_cons_zero, List.set_cons_succ]
        refine wpAnyH_ready (rs := [3]) (by kernel_rfl) (by simp) ?_
        refine AllReadyH.cons rfl (fun K hK => ?_) (AllReadyH.nil)
        have hs1 : X.drew.cell? ⟨kb, 0, none⟩ = some (.string s) ∧ X.drew.cell? ⟨kb, 1, none⟩ = some (.slice pA pn pc) ∧ X.drew.cell? ⟨kb, 2, none⟩ = some (.int .i64 rt) ∧ X.drew.cell? ⟨kb, 3, none⟩ = some (.slice iA im ic) ∧ X.drew.cell? ⟨kb, 4, none⟩ = some (.slice bA bn bc) := HS.out _ HX0.out
        go_simp
        refine hLay.mono ?_
        rintro e w1 ⟨cb, pb, rfl, hc, hp, hcb, hpb, hne, hb1⟩
        have hs2 : w1.cell? ⟨kb, 0, none⟩ = some (.string s) ∧ w1.cell? ⟨kb, 1, none⟩ = some (.slice pA pn pc) ∧ w1.cell? ⟨kb, 2, none⟩ = some (.int .i64 rt) ∧ w1.cell? ⟨kb, 3, none⟩ = some (.slice iA im ic) ∧ w1.cell? ⟨kb, 4, none⟩ = some (.slice bA bn bc) := HS.out w1 ((hb1.block kb Hkb.out).trans HX0.out)
        have HX1 := Lib.hid (HXd.out.keep hb1)
        have Hw1 := Lib.hid hb1
        have Hlay := Lib.hid (show _ ∧ _ ∧ _ ∧ _ ∧ _ from ⟨hc, hp, hcb, hpb, hne⟩)
        clear hc hp hcb hpb hne hb1 hLay
        try dsimp only
        refine hK.out _ _ ?_ (fun hHeld => ?_)
        · ((try dsimp only); first | with_reducible assumption | exact hs0 | exact hs1 | exact hs2 | exact hs3 | exact hs4 | exact hs5)
        clear hK K
        try simp only [Act.put, List.setIfInBounds_toArray, List.set_cons_zero, List.set_cons_succ]
        refine wpAnyH_ready (rs := [4]) (by kernel_rfl) (by simp) ?_
        refine AllReadyH.cons rfl (fun K hK => ?_) (AllReadyH.nil)
        go_simp
        have hbZ : Below w1.heap.size w1 (w1.alloc (.cells #[.string s, .slice pA pn pc, .int .i64 rt, .slice iA im ic, .slice bA bn bc, .slice (some ⟨cb, 0, none⟩) bn bn, .slice (some ⟨pb, 0, none⟩) im im] 106)) := (Below.refl _ _).alloc (Nat.le_refl _) _
        have hs3 : (w1.alloc (.cells #[.string s, .slice pA pn pc, .int .i64 rt, .slice iA im ic, .slice bA bn bc, .slice (some ⟨cb, 0, none⟩) bn bn, .slice (some ⟨pb, 0, none⟩) im im] 106)).cell? ⟨kb, 0, none⟩ = some (.string s) ∧ (w1.alloc (.cells #[.string s, .slice pA pn pc, .int .i64 rt, .slice iA im ic, .slice bA bn bc, .slice (some ⟨cb, 0, none⟩) bn bn, .slice (some ⟨pb, 0, none⟩) im im] 106)).cell? ⟨kb, 1, none⟩ = some (.slice pA pn pc) ∧ (w1.alloc (.cells #[.string s, .slice pA pn pc, .int .i64 rt, .slice iA im ic, .slice bA bn bc, .slice (some ⟨cb, 0, none⟩) bn bn, .slice (some ⟨pb, 0, none⟩) im im] 106)).cell? ⟨kb, 2, none⟩ = some (.int .i64 rt) ∧ (w1.alloc (.cells #[.string s, .slice pA pn pc, .int .i64 rt, .slice iA im ic, .slice bA bn bc, .slice (some ⟨cb, 0, none⟩) bn bn, .slice (some ⟨pb, 0, none⟩) im im] 106)).cell? ⟨kb, 3, none⟩ = some (.slice iA im ic) ∧ (w1.alloc (.cells #[.string s, .slice pA pn pc, .int .i64 rt, .slice iA im ic, .slice bA bn bc, .slice (some ⟨cb, 0, none⟩) bn bn, .slice (some ⟨pb, 0, none⟩) im im] 106)).cell? ⟨kb, 4, none⟩ = some (.slice bA bn bc) := HS.out _ ((hbZ.block kb (Nat.lt_of_lt_of_le Hkb.out Hw1.out.size)).trans ((Hw1.out.block kb Hkb.out).trans HX0.out))
        have HXZ := Lib.hid (HX1.out.keep hbZ)
        have HbZ := Lib.hid hbZ
        clear hbZ
        refine hK.out _ _ ?_ (fun hHeld => ?_)
        · ((try dsimp only); first | with_reducible assumption | exact hs0 | exact hs1 | exact hs2 | exact hs3 | exact hs4 | exact hs5)
        clear hK K
        try simp only [Act.put, List.setIfInBounds_toArray, List.set_cons_zero, List.set_cons_succ]
        refine wpAnyH_ready (rs := [5]) (by kernel_rfl) (by simp) ?_
        refine AllReadyH.cons rfl (fun K hK => ?_) (AllReadyH.nil)
        have hown := HXZ.out.sq.at HXZ.out.f5
        rw [← Hin.out] at hown
        have HNW := Lib.hid (World.news_of_block (w := (w1.alloc (.cells #[.string s, .slice pA pn pc, .int .i64 rt, .slice iA im ic, .slice bA bn bc, .slice (some ⟨cb, 0, none⟩) bn bn, .slice (some ⟨pb, 0, none⟩) im im] 106))) (heap_alloc_new w1 (.cells #[.string s, .slice pA pn pc, .int .i64 rt, .slice iA im ic, .slice bA bn bc, .slice (some ⟨cb, 0, none⟩) bn bn, .slice (some ⟨pb, 0, none⟩) im im] 106)))
        refine step_append_lies _ rfl (.tmp 33) (.tmp 36) 95 rfl E 106 i0 zv 7 144 Try.underlying95 Hi0.out Hzv.out Hs0.out Hy0.out (by rw [Hzc.out]; rfl) (by decide) (.slice M.fA i M.fC) i (fRow M 0 ((fs.take i).zip M.fv)) (by simp [Act.eval, Act.put]) hown ⟨w1.heap.size, 0, none⟩ 1 1 [.string s, .slice pA pn pc, .int .i64 rt, .slice iA im ic, .slice bA bn bc, .slice (some ⟨cb, 0, none⟩) bn bn, .slice (some ⟨pb, 0, none⟩) im im] (by simp [Act.eval, Act.put]) rfl HNW.out (by intro u hu; simp at hu; rcases hu with rfl | rfl | rfl | rfl | rfl | rfl | rfl <;> rfl) (by decide) (by unfold maxLen; omega) (by omega) HXZ.out.sq.hb _ rfl ?_
        intro g cap w5 hown5 hgrow hat hlt5
        have hgr : (w1.alloc (.cells #[.string s, .slice pA pn pc, .int .i64 rt, .slice iA im ic, .slice bA bn bc, .slice (some ⟨cb, 0, none⟩) bn bn, .slice (some ⟨pb, 0, none⟩) im im] 106)).grownBy w5 (F 5).v.ownBlock := by
          rw [HXZ.out.f5]
          exact (own_any M.fA (fs.take i).length i M.fC) ▸ hgrow
        have hat2 : (F 5).v.ownBlock = some g ∨ (w1.alloc (.cells #[.string s, .slice pA pn pc, .int .i64 rt, .slice iA im ic, .slice bA bn bc, .slice (some ⟨cb, 0, none⟩) bn bn, .slice (some ⟨pb, 0, none⟩) im im] 106)).heap.size ≤ g := by
          rw [HXZ.out.f5]
          rcases hat with h | h
          · exact .inl ((own_any M.fA (fs.take i).length i M.fC).trans h)
          · exact .inr (by rw [h]; exact Nat.le_refl _)
        have hA := HXd.out.addF Hfree.out f ⟨s, .slice pA pn pc, .slice iA im ic, .slice bA bn bc⟩ L cb pb g cap (by rw [← Hin.out]; omega) HLl.out (fun k hk => ((Hfb.out.2.2 k hk).1)) HIs.out HBs.out Hfb.out.1 Hfb.out.2.1 Hw1.out Hlay.out.1 (by rw [← Him.out]; exact Hlay.out.2.1) Hlay.out.2.2.1 Hlay.out.2.2.2.1 Hlay.out.2.2.2.2 HbZ.out hgr (by rw [← Hin.out, ← Him.out, ← Hbn.out, ← Hrt.out]; exact hown5) hat2
        rw [← Hin.out] at hA
        obtain ⟨hA1, hA2, hA3, hA4⟩ := hA
        have y10 : w5.cell? ⟨E, 10, none⟩ = some (.slice M.fA i M.fC) := hA3 10 _ rfl
        have yf5 := hA4 10
        have hkz : kb < (w1.alloc (.cells #[.string s, .slice pA pn pc, .int .i64 rt, .slice iA im ic, .slice bA bn bc, .slice (some ⟨cb, 0, none⟩) bn bn, .slice (some ⟨pb, 0, none⟩) im im] 106)).heap.size := Nat.lt_of_lt_of_le Hkb.out (Nat.le_trans Hw1.out.size HbZ.out.size)
        have hk5 : w5.heap[kb]? = some (.cells #[.string s, .slice pA pn pc, .int .i64 rt, .slice iA im ic, .slice bA bn bc] 68 (0, 0)) := (hgr.block kb hkz (fun e => Hkr.out e.symm)).trans ((HbZ.out.block kb (Nat.lt_of_lt_of_le Hkb.out Hw1.out.size)).trans ((Hw1.out.block kb Hkb.out).trans HX0.out))
        have hs4 : w5.cell? ⟨kb, 0, none⟩ = some (.string s) ∧ w5.cell? ⟨kb, 1, none⟩ = some (.slice pA pn pc) ∧ w5.cell? ⟨kb, 2, none⟩ = some (.int .i64 rt) ∧ w5.cell? ⟨kb, 3, none⟩ = some (.slice iA im ic) ∧ w5.cell? ⟨kb, 4, none⟩ = some (.slice bA bn bc) := HS.out _ hk5
        have Hk5 := Lib.hid hk5
        have HA1 := Lib.hid hA1
        have HA2 := Lib.hid hA2
        clear hown hown5 hgrow hat hlt5 hgr hat2 hA1 hA2 hA3 hA4 HNW hkz hk5
        refine hK.out _ _ ?_ (fun hHeld => ?_)
        · ((try dsimp only); first | with_reducible assumption | exact hs0 | exact hs1 | exact hs2 | exact hs3 | exact hs4 | exact hs5)
        clear hK K
        try simp only [Act.put, List.setIfInBounds_toArray, List.set_cons_zero, List.set_cons_succ]
        refine wpAnyH_take (i := 6) (v := ?_) rfl (by kernel_rfl) (by kernel_rfl) (by kernel_rfl) (fun _ _ _ h => h) (Or.inl ⟨by kernel_rfl, ?_⟩) (by assumption) ?_
        rotate_left
        · (intro w hSw; (try dsimp only at hSw); first | (go_simp; done) | (go_simp; with_reducible rfl))
        try simp only [Act.put, List.setIfInBounds_toArray, List.set_cons_zero, List.set_cons_succ]
        refine wpAnyH_ready (rs := [7]) (by kernel_rfl) (by simp) ?_
        refine AllReadyH.cons rfl (fun K hK => ?_) (AllReadyH.nil)
        have hs5 : (w5.setCell ⟨E, 10, none⟩ (.slice (some ⟨g, 0, none⟩) (i + 1) cap)).cell? ⟨kb, 0, none⟩ = some (.string s) ∧ (w5.setCell ⟨E, 10, none⟩ (.slice (some ⟨g, 0, none⟩) (i + 1) cap)).cell? ⟨kb, 1, none⟩ = some (.slice pA pn pc) ∧ (w5.setCell ⟨E, 10, none⟩ (.slice (some ⟨g, 0, none⟩) (i + 1) cap)).cell? ⟨kb, 2, none⟩ = some (.int .i64 rt) ∧ (w5.setCell ⟨E, 10, none⟩ (.slice (some ⟨g, 0, none⟩) (i + 1) cap)).cell? ⟨kb, 3, none⟩ = some (.slice iA im ic) ∧ (w5.setCell ⟨E, 10, none⟩ (.slice (some ⟨g, 0, none⟩) (i + 1) cap)).cell? ⟨kb, 4, none⟩ = some (.slice bA bn bc) := HS.out _ (cells_off Hk5.out HkE.out)
        go_simp
        refine hK.out _ _ ?_ (fun hHeld => ?_)
        · ((try dsimp only); first | with_reducible assumption | exact hs0 | exact hs1 | exact hs2 | exact hs3 | exact hs4 | exact hs5)
        clear hK K
        try simp only [Act.put, List.setIfInBounds_toArray, List.set_cons_zero, List.set_cons_succ]
        refine wpAnyH_done (by kernel_rfl) ?_ _
        obtain ⟨V, hV⟩ : ∃ V, V = w5.setCell ⟨E, 10, none⟩ (.slice (some ⟨g, 0, none⟩) (i + 1) cap) := ⟨_, rfl⟩
        rw [← hV] at HA1 HA2 ⊢
        clear hV y10 yf5 hs4 hs5
        go_wp2_with fail
        go_roundw
        case rel => exact ⟨i + 1, by omega, by go_num, Lib.hid (by
          obtain ⟨F', hF', hfr⟩ := HA1.out
          exact ⟨_, F', by rw [Htk.out, Htc.out]; exact hF', by rw [Htk.out]; exact hfr, HBX.out.trans HA2.out⟩)⟩
        case measure => simp [intOf]; omega
      · have hs1 : X.drew.cell? ⟨kb, 0, none⟩ = some (.string s) ∧ X.drew.cell? ⟨kb, 1, none⟩ = some (.slice pA pn pc) ∧ X.drew.cell? ⟨kb, 2, none⟩ = some (.int .i64 rt) ∧ X.drew.cell? ⟨kb, 3, none⟩ = some (.slice iA im ic) ∧ X.drew.cell? ⟨kb, 4, none⟩ = some (.slice bA bn bc) := HS.out _ HX0.out
        go_simp
        refine hLay.mono ?_
        rintro e w1 ⟨cb, pb, rfl, hc, hp, hcb, hpb, hne, hb1⟩
        have hs2 : w1.cell? ⟨kb, 0, none⟩ = some (.string s) ∧ w1.cell? ⟨kb, 1, none⟩ = some (.slice pA pn pc) ∧ w1.cell? ⟨kb, 2, none⟩ = some (.int .i64 rt) ∧ w1.cell? ⟨kb, 3, none⟩ = some (.slice iA im ic) ∧ w1.cell? ⟨kb, 4, none⟩ = some (.slice bA bn bc) := HS.out w1 ((hb1.block kb Hkb.out).trans HX0.out)
        have HX1 := Lib.hid (HXd.out.keep hb1)
        have Hw1 := Lib.hid hb1
        have Hlay := Lib.hid (show _ ∧ _ ∧ _ ∧ _ ∧ _ from ⟨hc, hp, hcb, hpb, hne⟩)
        clear hc hp hcb hpb hne hb1 hLay
        try dsimp only
        refine hK.out _ _ ?_ (fun hHeld => ?_)
        · ((try dsimp only); first | with_reducible assumption | exact hs0 | exact hs1 | exact hs2 | exact hs3 | exact hs4 | exact hs5)
        clear hK K
        try simp only [Act.put, List.setIfInBounds_toArray, List.set_cons_zero, List.set_cons_succ]
        refine wpAnyH_ready (rs := [1, 4]) (by kernel_rfl) (by simp) ?_
        refine AllReadyH.cons rfl (fun K hK => ?_) (AllReadyH.cons rfl (fun K hK => ?_) (AllReadyH.nil))
        · have s10 : w1.cell? ⟨E, 10, none⟩ = some (.slice M.fA i M.fC) := by first | exact x10 | (rw [Hin.out]; exact (HX1.out.sq.cell 10 _ rfl))
          go_simp
          refine hK.out _ _ ?_ (fun hHeld => ?_)
          · ((try dsimp only); first | with_reducible assumption | exact hs0 | exact hs1 | exact hs2 | exact hs3 | exact hs4 | exact hs5)
          clear hK K
          try simp only [Act.put, List.setIfInBounds_toArray, List.set_cons_zero, List.set_cons_succ]
          refine wpAnyH_ready (rs := [4]) (by kernel_rfl) (by simp) ?_
          refine AllReadyH.cons rfl (fun K hK => ?_) (AllReadyH.nil)
          go_simp
          have hbZ : Below w1.heap.size w1 (w1.alloc (.cells #[.string s, .slice pA pn pc, .int .i64 rt, .slice iA im ic, .slice bA bn bc, .slice (some ⟨cb, 0, none⟩) bn bn, .slice (some ⟨pb, 0, none⟩) im im] 106)) := (Below.refl _ _).alloc (Nat.le_refl _) _
          have hs3 : (w1.alloc (.cells #[.string s, .slice pA pn pc, .int .i64 rt, .slice iA im ic, .slice bA bn bc, .slice (some ⟨cb, 0, none⟩) bn bn, .slice (some ⟨pb, 0, none⟩) im im] 106)).cell? ⟨kb, 0, none⟩ = some (.string s) ∧ (w1.alloc (.cells #[.string s, .slice pA pn pc, .int .i64 rt, .slice iA im ic, .slice bA bn bc, .slice (some ⟨cb, 0, none⟩) bn bn, .slice (some ⟨pb, 0, none⟩) im im] 106)).cell? ⟨kb, 1, none⟩ = some (.slice pA pn pc) ∧ (w1.alloc (.cells #[.string s, .slice pA pn pc, .int .i64 rt, .slice iA im ic, .slice bA bn bc, .slice (some ⟨cb, 0, none⟩) bn bn, .slice (some ⟨pb, 0, none⟩) im im] 106)).cell? ⟨kb, 2, none⟩ = some (.int .i64 rt) ∧ (w1.alloc (.cells #[.string s, .slice pA pn pc, .int .i64 rt, .slice iA im ic, .slice bA bn bc, .slice (some ⟨cb, 0, none⟩) bn bn, .slice (some ⟨pb, 0, none⟩) im im] 106)).cell? ⟨kb, 3, none⟩ = some (.slice iA im ic) ∧ (w1.alloc (.cells #[.string s, .slice pA pn pc, .int .i64 rt, .slice iA im ic, .slice bA bn bc, .slice (some ⟨cb, 0, none⟩) bn bn, .slice (some ⟨pb, 0, none⟩) im im] 106)).cell? ⟨kb, 4, none⟩ = some (.slice bA bn bc) := HS.out _ ((hbZ.block kb (Nat.lt_of_lt_of_le Hkb.out Hw1.out.size)).trans ((Hw1.out.block kb Hkb.out).trans HX0.out))
          have HXZ := Lib.hid (HX1.out.keep hbZ)
          have HbZ := Lib.hid hbZ
          clear hbZ
          refine hK.out _ _ ?_ (fun hHeld => ?_)
          · ((try dsimp only); first | with_reducible assumption | exact hs0 | exact hs1 | exact hs2 | exact hs3 | exact hs4 | exact hs5)
          clear hK K
          try simp only [Act.put, List.setIfInBounds_toArray, List.set_cons_zero, List.set_cons_succ]
          refine wpAnyH_ready (rs := [5]) (by kernel_rfl) (by simp) ?_
          refine AllReadyH.cons rfl (fun K hK => ?_) (AllReadyH.nil)
          have hown := HXZ.out.sq.at HXZ.out.f5
          rw [← Hin.out] at hown
          have HNW := Lib.hid (World.news_of_block (w := (w1.alloc (.cells #[.string s, .slice pA pn pc, .int .i64 rt, .slice iA im ic, .slice bA bn bc, .slice (some ⟨cb, 0, none⟩) bn bn, .slice (some ⟨pb, 0, none⟩) im im] 106))) (heap_alloc_new w1 (.cells #[.string s, .slice pA pn pc, .int .i64 rt, .slice iA im ic, .slice bA bn bc, .slice (some ⟨cb, 0, none⟩) bn bn, .slice (some ⟨pb, 0, none⟩) im im] 106)))
          refine step_append_lies _ rfl (.tmp 33) (.tmp 36) 95 rfl E 106 i0 zv 7 144 Try.underlying95 Hi0.out Hzv.out Hs0.out Hy0.out (by rw [Hzc.out]; rfl) (by decide) (.slice M.fA i M.fC) i (fRow M 0 ((fs.take i).zip M.fv)) (by simp [Act.eval, Act.put]) hown ⟨w1.heap.size, 0, none⟩ 1 1 [.string s, .slice pA pn pc, .int .i64 rt, .slice iA im ic, .slice bA bn bc, .slice (some ⟨cb, 0, none⟩) bn bn, .slice (some ⟨pb, 0, none⟩) im im] (by simp [Act.eval, Act.put]) rfl HNW.out (by intro u hu; simp at hu; rcases hu with rfl | rfl | rfl | rfl | rfl | rfl | rfl <;> rfl) (by decide) (by unfold maxLen; omega) (by omega) HXZ.out.sq.hb _ rfl ?_
          intro g cap w5 hown5 hgrow hat hlt5
          have hgr : (w1.alloc (.cells #[.string s, .slice pA pn pc, .int .i64 rt, .slice iA im ic, .slice bA bn bc, .slice (some ⟨cb, 0, none⟩) bn bn, .slice (some ⟨pb, 0, none⟩) im im] 106)).grownBy w5 (F 5).v.ownBlock := by
            rw [HXZ.out.f5]
            exact (own_any M.fA (fs.take i).length i M.fC) ▸ hgrow
          have hat2 : (F 5).v.ownBlock = some g ∨ (w1.alloc (.cells #[.string s, .slice pA pn pc, .int .i64 rt, .slice iA im ic, .slice bA bn bc, .slice (some ⟨cb, 0, none⟩) bn bn, .slice (some ⟨pb, 0, none⟩) im im] 106)).heap.size ≤ g := by
            rw [HXZ.out.f5]
            rcases hat with h | h
            · exact .inl ((own_any M.fA (fs.take i).length i M.fC).trans h)
            · exact .inr (by rw [h]; exact Nat.le_refl _)
          have hA := HXd.out.addF Hfree.out f ⟨s, .slice pA pn pc, .slice iA im ic, .slice bA bn bc⟩ L cb pb g cap (by rw [← Hin.out]; omega) HLl.out (fun k hk => ((Hfb.out.2.2 k hk).1)) HIs.out HBs.out Hfb.out.1 Hfb.out.2.1 Hw1.out Hlay.out.1 (by rw [← Him.out]; exact Hlay.out.2.1) Hlay.out.2.2.1 Hlay.out.2.2.2.1 Hlay.out.2.2.2.2 HbZ.out hgr (by rw [← Hin.out, ← Him.out, ← Hbn.out, ← Hrt.out]; exact hown5) hat2
          rw [← Hin.out] at hA
          obtain ⟨hA1, hA2, hA3, hA4⟩ := hA
          have y10 : w5.cell? ⟨E, 10, none⟩ = some (.slice M.fA i M.fC) := hA3 10 _ rfl
          have yf5 := hA4 10
          have hkz : kb < (w1.alloc (.cells #[.string s, .slice pA pn pc, .int .i64 rt, .slice iA im ic, .slice bA bn bc, .slice (some ⟨cb, 0, none⟩) bn bn, .slice (some ⟨pb, 0, none⟩) im im] 106)).heap.size := Nat.lt_of_lt_of_le Hkb.out (Nat.le_trans Hw1.out.size HbZ.out.size)
          have hk5 : w5.heap[kb]? = some (.cells #[.string s, .slice pA pn pc, .int .i64 rt, .slice iA im ic, .slice bA bn bc] 68 (0, 0)) := (hgr.block kb hkz (fun e => Hkr.out e.symm)).trans ((HbZ.out.block kb (Nat.lt_of_lt_of_le Hkb.out Hw1.out.size)).trans ((Hw1.out.block kb Hkb.out).trans HX0.out))
          have hs4 : w5.cell? ⟨kb, 0, none⟩ = some (.string s) ∧ w5.cell? ⟨kb, 1, none⟩ = some (.slice pA pn pc) ∧ w5.cell? ⟨kb, 2, none⟩ = some (.int .i64 rt) ∧ w5.cell? ⟨kb, 3, none⟩ = some (.slice iA im ic) ∧ w5.cell? ⟨kb, 4, none⟩ = some (.slice bA bn bc) := HS.out _ hk5
          have Hk5 := Lib.hid hk5
          have HA1 := Lib.hid hA1
          have HA2 := Lib.hid hA2
          clear hown hown5 hgrow hat hlt5 hgr hat2 hA1 hA2 hA3 hA4 HNW hkz hk5
          refine hK.out _ _ ?_ (fun hHeld => ?_)
          · ((try dsimp only); first | with_reducible assumption | exact hs0 | exact hs1 | exact hs2 | exact hs3 | exact hs4 | exact hs5)
          clear hK K
          try simp only [Act.put, List.setIfInBounds_toArray, List.set_cons_zero, List.set_cons_succ]
          refine wpAnyH_take (i := 6) (v := ?_) rfl (by kernel_rfl) (by kernel_rfl) (by kernel_rfl) (fun _ _ _ h => h) (Or.inl ⟨by kernel_rfl, ?_⟩) (by assumption) ?_
          rotate_left
          · (intro w hSw; (try dsimp only at hSw); first | (go_simp; done) | (go_simp; with_reducible rfl))
          try simp only [Act.put, List.setIfInBounds_toArray, List.set_cons_zero, List.set_cons_succ]
          refine wpAnyH_ready (rs := [7]) (by kernel_rfl) (by simp) ?_
          refine AllReadyH.cons rfl (fun K hK => ?_) (AllReadyH.nil)
          have hs5 : (w5.setCell ⟨E, 10, none⟩ (.slice (some ⟨g, 0, none⟩) (i + 1) cap)).cell? ⟨kb, 0, none⟩ = some (.string s) ∧ (w5.setCell ⟨E, 10, none⟩ (.slice (some ⟨g, 0, none⟩) (i + 1) cap)).cell? ⟨kb, 1, none⟩ = some (.slice pA pn pc) ∧ (w5.setCell ⟨E, 10, none⟩ (.slice (some ⟨g, 0, none⟩) (i + 1) cap)).cell? ⟨kb, 2, none⟩ = some (.int .i64 rt) ∧ (w5.setCell ⟨E, 10, none⟩ (.slice (some ⟨g, 0, none⟩) (i + 1) cap)).cell? ⟨kb, 3, none⟩ = some (.slice iA im ic) ∧ (w5.setCell ⟨E, 10, none⟩ (.slice (some ⟨g, 0, none⟩) (i + 1) cap)).cell? ⟨kb, 4, none⟩ = some (.slice bA bn bc) := HS.out _ (cells_off Hk5.out HkE.out)
          go_simp
          refine hK.out _ _ ?_ (fun hHeld => ?_)
          · ((try dsimp only); first | with_reducible assumption | exact hs0 | exact hs1 | exact hs2 | exact hs3 | exact hs4 | exact hs5)
          clear hK K
          try simp only [Act.put, List.setIfInBounds_toArray, List.set_cons_zero, List.set_cons_succ]
          refine wpAnyH_done (by kernel_rfl) ?_ _
          obtain ⟨V, hV⟩ : ∃ V, V = w5.setCell ⟨E, 10, none⟩ (.slice (some ⟨g, 0, none⟩) (i + 1) cap) := ⟨_, rfl⟩
          rw [← hV] at HA1 HA2 ⊢
          clear hV y10 yf5 hs4 hs5
          go_wp2_with fail
          go_roundw
          case rel => exact ⟨i + 1, by omega, by go_num, Lib.hid (by
            obtain ⟨F', hF', hfr⟩ := HA1.out
            exact ⟨_, F', by rw [Htk.out, Htc.out]; exact hF', by rw [Htk.out]; exact hfr, HBX.out.trans HA2.out⟩)⟩
          case measure => simp [intOf]; omega
        · go_simp
          have hbZ : Below w1.heap.size w1 (w1.alloc (.cells #[.string s, .slice pA pn pc, .int .i64 rt, .slice iA im ic, .slice bA bn bc, .slice (some ⟨cb, 0, none⟩) bn bn, .slice (some ⟨pb, 0, none⟩) im im] 106)) := (Below.refl _ _).alloc (Nat.le_refl _) _
          have hs3 : (w1.alloc (.cells #[.string s, .slice pA pn pc, .int .i64 rt, .slice iA im ic, .slice bA bn bc, .slice (some ⟨cb, 0, none⟩) bn bn, .slice (some ⟨pb, 0, none⟩) im im] 106)).cell? ⟨kb, 0, none⟩ = some (.string s) ∧ (w1.alloc (.cells #[.string s, .slice pA pn pc, .int .i64 rt, .slice iA im ic, .slice bA bn bc, .slice (some ⟨cb, 0, none⟩) bn bn, .slice (some ⟨pb, 0, none⟩) im im] 106)).cell? ⟨kb, 1, none⟩ = some (.slice pA pn pc) ∧ (w1.alloc (.cells #[.string s, .slice pA pn pc, .int .i64 rt, .slice iA im ic, .slice bA bn bc, .slice (some ⟨cb, 0, none⟩) bn bn, .slice (some ⟨pb, 0, none⟩) im im] 106)).cell? ⟨kb, 2, none⟩ = some (.int .i64 rt) ∧ (w1.alloc (.cells #[.string s, .slice pA pn pc, .int .i64 rt, .slice iA im ic, .slice bA bn bc, .slice (some ⟨cb, 0, none⟩) bn bn, .slice (some ⟨pb, 0, none⟩) im im] 106)).cell? ⟨kb, 3, none⟩ = some (.slice iA im ic) ∧ (w1.alloc (.cells #[.string s, .slice pA pn pc, .int .i64 rt, .slice iA im ic, .slice bA bn bc, .slice (some ⟨cb, 0, none⟩) bn bn, .slice (some ⟨pb, 0, none⟩) im im] 106)).cell? ⟨kb, 4, none⟩ = some (.slice bA bn bc) := HS.out _ ((hbZ.block kb (Nat.lt_of_lt_of_le Hkb.out Hw1.out.size)).trans ((Hw1.out.block kb Hkb.out).trans HX0.out))
          have HXZ := Lib.hid (HX1.out.keep hbZ)
          have HbZ := Lib.hid hbZ
          clear hbZ
          refine hK.out _ _ ?_ (fun hHeld => ?_)
          · ((try dsimp only); first | with_reducible assumption | exact hs0 | exact hs1 | exact hs2 | exact hs3 | exact hs4 | exact hs5)
          clear hK K
          try simp only [Act.put, List.setIfInBounds_toArray, List.set_cons_zero, List.set_cons_succ]
          refine wpAnyH_ready (rs := [1]) (by kernel_rfl) (by simp) ?_
          refine AllReadyH.cons rfl (fun K hK => ?_) (AllReadyH.nil)
          have s10 : (w1.alloc (.cells #[.string s, .slice pA pn pc, .int .i64 rt, .slice iA im ic, .slice bA bn bc, .slice (some ⟨cb, 0, none⟩) bn bn, .slice (some ⟨pb, 0, none⟩) im im] 106)).cell? ⟨E, 10, none⟩ = some (.slice M.fA i M.fC) := by first | exact x10 | (rw [Hin.out]; exact (HXZ.out.sq.cell 10 _ rfl))
          go_simp
          refine hK.out _ _ ?_ (fun hHeld => ?_)
          · ((try dsimp only); first | with_reducible assumption | exact hs0 | exact hs1 | exact hs2 | exact hs3 | exact hs4 | exact hs5)
          clear hK K
          try simp only [Act.put, List.setIfInBounds_toArray, List.set_cons_zero, List.set_cons_succ]
          refine wpAnyH_ready (rs := [5]) (by kernel_rfl) (by simp) ?_
          refine AllReadyH.cons rfl (fun K hK => ?_) (AllReadyH.nil)
          have hown := HXZ.out.sq.at HXZ.out.f5
          rw [← Hin.out] at hown
          have HNW := Lib.hid (World.news_of_block (w := (w1.alloc (.cells #[.string s, .slice pA pn pc, .int .i64 rt, .slice iA im ic, .slice bA bn bc, .slice (some ⟨cb, 0, none⟩) bn bn, .slice (some ⟨pb, 0, none⟩) im im] 106))) (heap_alloc_new w1 (.cells #[.string s, .slice pA pn pc, .int .i64 rt, .slice iA im ic, .slice bA bn bc, .slice (some ⟨cb, 0, none⟩) bn bn, .slice (some ⟨pb, 0, none⟩) im im] 106)))
          refine step_append_lies _ rfl (.tmp 33) (.tmp 36) 95 rfl E 106 i0 zv 7 144 Try.underlying95 Hi0.out Hzv.out Hs0.out Hy0.out (by rw [Hzc.out]; rfl) (by decide) (.slice M.fA i M.fC) i (fRow M 0 ((fs.take i).zip M.fv)) (by simp [Act.eval, Act.put]) hown ⟨w1.heap.size, 0, none⟩ 1 1 [.string s, .slice pA pn pc, .int .i64 rt, .slice iA im ic, .slice bA bn bc, .slice (some ⟨cb, 0, none⟩) bn bn, .slice (some ⟨pb, 0, none⟩) im im] (by simp [Act.eval, Act.put]) rfl HNW.out (by intro u hu; simp at hu; rcases hu with rfl | rfl | rfl | rfl | rfl | rfl | rfl <;> rfl) (by decide) (by unfold maxLen; omega) (by omega) HXZ.out.sq.hb _ rfl ?_
          intro g cap w5 hown5 hgrow hat hlt5
          have hgr : (w1.alloc (.cells #[.string s, .slice pA pn pc, .int .i64 rt, .slice iA im ic, .slice bA bn bc, .slice (some ⟨cb, 0, none⟩) bn bn, .slice (some ⟨pb, 0, none⟩) im im] 106)).grownBy w5 (F 5).v.ownBlock := by
            rw [HXZ.out.f5]
            exact (own_any M.fA (fs.take i).length i M.fC) ▸ hgrow
          have hat2 : (F 5).v.ownBlock = some g ∨ (w1.alloc (.cells #[.string s, .slice pA pn pc, .int .i64 rt, .slice iA im ic, .slice bA bn bc, .slice (some ⟨cb, 0, none⟩) bn bn, .slice (some ⟨pb, 0, none⟩) im im] 106)).heap.size ≤ g := by
            rw [HXZ.out.f5]
            rcases hat with h | h
            · exact .inl ((own_any M.fA (fs.take i).length i M.fC).trans h)
            · exact .inr (by rw [h]; exact Nat.le_refl _)
          have hA := HXd.out.addF Hfree.out f ⟨s, .slice pA pn pc, .slice iA im ic, .slice bA bn bc⟩ L cb pb g cap (by rw [← Hin.out]; omega) HLl.out (fun k hk => ((Hfb.out.2.2 k hk).1)) HIs.out HBs.out Hfb.out.1 Hfb.out.2.1 Hw1.out Hlay.out.1 (by rw [← Him.out]; exact Hlay.out.2.1) Hlay.out.2.2.1 Hlay.out.2.2.2.1 Hlay.out.2.2.2.2 HbZ.out hgr (by rw [← Hin.out, ← Him.out, ← Hbn.out, ← Hrt.out]; exact hown5) hat2
          rw [← Hin.out] at hA
          obtain ⟨hA1, hA2, hA3, hA4⟩ := hA
          have y10 : w5.cell? ⟨E, 10, none⟩ = some (.slice M.fA i M.fC) := hA3 10 _ rfl
          have yf5 := hA4 10
          have hkz : kb < (w1.alloc (.cells #[.string s, .slice pA pn pc, .int .i64 rt, .slice iA im ic, .slice bA bn bc, .slice (some ⟨cb, 0, none⟩) bn bn, .slice (some ⟨pb, 0, none⟩) im im] 106)).heap.size := Nat.lt_of_lt_of_le Hkb.out (Nat.le_trans Hw1.out.size HbZ.out.size)
          have hk5 : w5.heap[kb]? = some (.cells #[.string s, .slice pA pn pc, .int .i64 rt, .slice iA im ic, .slice bA bn bc] 68 (0, 0)) := (hgr.block kb hkz (fun e => Hkr.out e.symm)).trans ((HbZ.out.block kb (Nat.lt_of_lt_of_le Hkb.out Hw1.out.size)).trans ((Hw1.out.block kb Hkb.out).trans HX0.out))
          have hs4 : w5.cell? ⟨kb, 0, none⟩ = some (.string s) ∧ w5.cell? ⟨kb, 1, none⟩ = some (.slice pA pn pc) ∧ w5.cell? ⟨kb, 2, none⟩ = some (.int .i64 rt) ∧ w5.cell? ⟨kb, 3, none⟩ = some (.slice iA im ic) ∧ w5.cell? ⟨kb, 4, none⟩ = some (.slice bA bn bc) := HS.out _ hk5
          have Hk5 := Lib.hid hk5
          have HA1 := Lib.hid hA1
          have HA2 := Lib.hid hA2
          clear hown hown5 hgrow hat hlt5 hgr hat2 hA1 hA2 hA3 hA4 HNW hkz hk5
          refine hK.out _ _ ?_ (fun hHeld => ?_)
          · ((try dsimp only); first | with_reducible assumption | exact hs0 | exact hs1 | exact hs2 | exact hs3 | exact hs4 | exact hs5)
          clear hK K
          try simp only [Act.put, List.setIfInBounds_toArray, List.set_cons_zero, List.set_cons_succ]
          refine wpAnyH_take (i := 6) (v := ?_) rfl (by kernel_rfl) (by kernel_rfl) (by kernel_rfl) (fun _ _ _ h => h) (Or.inl ⟨by kernel_rfl, ?_⟩) (by assumption) ?_
          rotate_left
          · (intro w hSw; (try dsimp only at hSw); first | (go_simp; done) | (go_simp; with_reducible rfl))
          try simp only [Act.put, List.setIfInBounds_toArray, List.set_cons_zero, List.set_cons_succ]
          refine wpAnyH_ready (rs := [7]) (by kernel_rfl) (by simp) ?_
          refine AllReadyH.cons rfl (fun K hK => ?_) (AllReadyH.nil)
          have hs5 : (w5.setCell ⟨E, 10, none⟩ (.slice (some ⟨g, 0, none⟩) (i + 1) cap)).cell? ⟨kb, 0, none⟩ = some (.string s) ∧ (w5.setCell ⟨E, 10, none⟩ (.slice (some ⟨g, 0, none⟩) (i + 1) cap)).cell? ⟨kb, 1, none⟩ = some (.slice pA pn pc) ∧ (w5.setCell ⟨E, 10, none⟩ (.slice (some ⟨g, 0, none⟩) (i + 1) cap)).cell? ⟨kb, 2, none⟩ = some (.int .i64 rt) ∧ (w5.setCell ⟨E, 10, none⟩ (.slice (some ⟨g, 0, none⟩) (i + 1) cap)).cell? ⟨kb, 3, none⟩ = some (.slice iA im ic) ∧ (w5.setCell ⟨E, 10, none⟩ (.slice (some ⟨g, 0, none⟩) (i + 1) cap)).cell? ⟨kb, 4, none⟩ = some (.slice bA bn bc) := HS.out _ (cells_off Hk5.out HkE.out)
          go_simp
          refine hK.out _ _ ?_ (fun hHeld => ?_)
          · ((try dsimp only); first | with_reducible assumption | exact hs0 | exact hs1 | exact hs2 | exact hs3 | exact hs4 | exact hs5)
          clear hK K
          try simp only [Act.put, List.setIfInBounds_toArray, List.set_cons_zero, List.set_cons_succ]
          refine wpAnyH_done (by kernel_rfl) ?_ _
          obtain ⟨V, hV⟩ : ∃ V, V = w5.setCell ⟨E, 10, none⟩ (.slice (some ⟨g, 0, none⟩) (i + 1) cap) := ⟨_, rfl⟩
          rw [← hV] at HA1 HA2 ⊢
          clear hV y10 yf5 hs4 hs5
          go_wp2_with fail
          go_roundw
          case rel => exact ⟨i + 1, by omega, by go_num, Lib.hid (by
            obtain ⟨F', hF', hfr⟩ := HA1.out
            exact ⟨_, F', by rw [Htk.out, Htc.out]; exact hF', by rw [Htk.out]; exact hfr, HBX.out.trans HA2.out⟩)⟩
          case measure => simp [intOf]; omega
    · have htk : fs.take i = fs := List.take_of_length_le (by rw [← Hfn.out]; omega)
      have htc : cm.take i = cm := List.take_of_length_le (by rw [Hcl.out, ← Hfn.out]; omega)
      rw [htk, htc] at hX
      have hwE : w.heap.size < E := by have := HEs.out.1; omega
      have c1 : wo.cell? ⟨w.heap.size, 1, none⟩ = some (.int .i64 (main : Int)) := (hbo.cell (p := ⟨w.heap.size, 1, none⟩) hwE).trans (Lib.cell_of_heap Hk0.out 1)
      have hEn : Calls Try.prog 48 #[.pointer (some ⟨E, 0, none⟩), .int .i64 (main : Int), .int .i64 0] wo fun e w' => e = .returned (.tuple #[]) ∧ XOk w.heap.size E E fs cm (beginX fs inn fuel main) M F w' ∧ Below E wo w' := enter_c hX main 0
      have Hbo := Lib.hid hbo
      clear hX hfree hbo htk htc HL
      go_wp2_with (go_at_call 48; refine hEn.mono ?_; rintro e w6 ⟨rfl, hX6, hb6⟩; have HR0 : Hid (RunI fs cm w.heap.size E W5 rE K w6) := Lib.hid ⟨_, M, F, hX6, refs_begin fs inn fuel main, fun T hT => (by cases hT), Hrun.out, Hbo.out.trans hb6⟩; clear hX6 hb6 hEn)
      clear c1
      go_loopw [45] (fun u45 wr => ∃ k, RunI fs cm w.heap.size E W5 rE k wr) (fun u45 wr => leastN (fun k => RunI fs cm w.heap.size E W5 rE k wr))
      case atStart => exact ⟨K, HR0.out⟩
      case round =>
        clear HR0
        obtain ⟨q, hq⟩ : ∃ q, q = leastN (fun k => RunI fs cm w.heap.size E W5 rE k wr) := ⟨_, rfl⟩
        have hk : RunI fs cm w.heap.size E W5 rE q wr := by rw [hq]; exact leastN_spec hrel
        have HQ := Lib.hid hq
        clear hq hrel
        obtain ⟨r, M2, F2, h2, hrf, htb, hrx, hb2⟩ := hk
        cases hst : r.stop.isSome with
        | true =>
          have hre := runX_end hst hrx
          have x9 : wr.cell? ⟨E, 9, none⟩ = some (.bool true) := by rw [← hst]; exact h2.sq.cell 9 _ rfl
          obtain ⟨lf, hlf⟩ : ∃ lf, lf = r.left := ⟨_, rfl⟩
          obtain ⟨en, hen⟩ : ∃ en, en = r.events.length := ⟨_, rfl⟩
          obtain ⟨eh, heh⟩ : ∃ eh, eh = endX' r := ⟨_, rfl⟩
          obtain ⟨ev, hev⟩ : ∃ ev, ev = valX r := ⟨_, rfl⟩
          have x1 : wr.cell? ⟨E, 1, none⟩ = some (.int .i64 lf) := by rw [hlf]; exact h2.sq.cell 1 _ rfl
          have x5 : wr.cell? ⟨E, 5, none⟩ = some (.int .i64 0) := h2.sq.cell 5 _ rfl
          have xf5 := h2.sq.fro 5
          obtain ⟨us, hus⟩ : ∃ us, us = fuel - lf := ⟨_, rfl⟩
          have hw64 : wrap64 (fuel - lf) = us := by rw [hus]; exact IntWalk.wrap64_in _ (by have := Hfu.out; have := h2.lf; rw [hlf]; omega)
          have hwi : IntKind.i64.wrap (fuel - lf) = us := by rw [IntKind.wrap_i64, hus]; have := Hfu.out; have := h2.lf; rw [hlf]; omega
          have s5 := h2.sq.field 5 (.int .i64 us)
          have b5 := h2.sq.b_field 5 (.int .i64 us)
          obtain ⟨V, hV⟩ : ∃ V, V = wr.setCell ⟨E, 5, none⟩ (.int .i64 us) := ⟨_, rfl⟩
          rw [← hV] at s5 b5
          have v2 : V.cell? ⟨E, 2, none⟩ = some (.slice (M2.sa 0) en (M2.sc 0)) := by rw [hen]; exact s5.cell 2 _ rfl
          have v3 : V.cell? ⟨E, 3, none⟩ = some (.int .i64 eh) := by rw [heh]; exact s5.cell 3 _ rfl
          have v4 : V.cell? ⟨E, 4, none⟩ = some (.int .i64 ev) := by rw [hev]; exact s5.cell 4 _ rfl
          have v5 : V.cell? ⟨E, 5, none⟩ = some (.int .i64 us) := s5.cell 5 _ rfl
          have v6 : V.cell? ⟨E, 6, none⟩ = some (.int .i64 0) := s5.cell 6 _ rfl
          have v7 : V.cell? ⟨E, 7, none⟩ = some (.int .i64 0) := s5.cell 7 _ rfl
          have v8 : V.cell? ⟨E, 8, none⟩ = some (.int .i64 0) := s5.cell 8 _ rfl
          have hEs := HEs.out.1
          have hbV : Below w.heap.size w V := Hbw5.out.trans ((hb2.trans b5).mono (by omega))
          have hk1V : V.heap[w.heap.size + 1]? = some (.cells #[.slice none 0 0, .int .i64 0, .int .i64 0, .int .i64 0, .int .i64 0, .int .i64 0, .int .i64 0] 50 (0, 0)) := ((hb2.trans b5).block _ (by omega)).trans Hk1.out
          have u0 := Lib.cell_of_heap hk1V 0
          have u1 := Lib.cell_of_heap hk1V 1
          have u2 := Lib.cell_of_heap hk1V 2
          have u3 := Lib.cell_of_heap hk1V 3
          have u4 := Lib.cell_of_heap hk1V 4
          have u5 := Lib.cell_of_heap hk1V 5
          have u6 := Lib.cell_of_heap hk1V 6
          have uf := Lib.frozen_of_heap hk1V
          obtain ⟨Z, hZ⟩ : ∃ Z, Z = (((((((V.setCell ⟨w.heap.size + 1, 0, none⟩ (.slice (M2.sa 0) en (M2.sc 0))).setCell ⟨w.heap.size + 1, 1, none⟩ (.int .i64 eh)).setCell ⟨w.heap.size + 1, 2, none⟩ (.int .i64 ev)).setCell ⟨w.heap.size + 1, 3, none⟩ (.int .i64 us)).setCell ⟨w.heap.size + 1, 4, none⟩ (.int .i64 0)).setCell ⟨w.heap.size + 1, 5, none⟩ (.int .i64 0)).setCell ⟨w.heap.size + 1, 6, none⟩ (.int .i64 0)) := ⟨_, rfl⟩
          have hqZ : Z.heap[w.heap.size + 1]? = some (.cells #[.slice (M2.sa 0) en (M2.sc 0), .int .i64 eh, .int .i64 ev, .int .i64 us, .int .i64 0, .int .i64 0, .int .i64 0] 50 (0, 0)) := by
            rw [hZ]
            exact (gr_put (gr_put (gr_put (gr_put (gr_put (gr_put (gr_put hk1V 0 _) 1 _) 2 _) 3 _) 4 _) 5 _) 6 _)
          have hgZ : GBu (w.heap.size + 1) V Z := by
            rw [hZ]
            exact (GBu.setCell (p := ⟨w.heap.size + 1, 6, none⟩) (GBu.setCell (p := ⟨w.heap.size + 1, 5, none⟩) (GBu.setCell (p := ⟨w.heap.size + 1, 4, none⟩) (GBu.setCell (p := ⟨w.heap.size + 1, 3, none⟩) (GBu.setCell (p := ⟨w.heap.size + 1, 2, none⟩) (GBu.setCell (p := ⟨w.heap.size + 1, 1, none⟩) (GBu.setCell (p := ⟨w.heap.size + 1, 0, none⟩) (GBu.refl (w.heap.size + 1) V) (.inl rfl) _) (.inl rfl) _) (.inl rfl) _) (.inl rfl) _) (.inl rfl) _) (.inl rfl) _) (.inl rfl) _)
          have hbZ : Below w.heap.size w Z := by
            rw [hZ]
            exact (((((((hbV.setCell (p := ⟨w.heap.size + 1, 0, none⟩) (Nat.le_succ _) _).setCell (p := ⟨w.heap.size + 1, 1, none⟩) (Nat.le_succ _) _).setCell (p := ⟨w.heap.size + 1, 2, none⟩) (Nat.le_succ _) _).setCell (p := ⟨w.heap.size + 1, 3, none⟩) (Nat.le_succ _) _).setCell (p := ⟨w.heap.size + 1, 4, none⟩) (Nat.le_succ _) _).setCell (p := ⟨w.heap.size + 1, 5, none⟩) (Nat.le_succ _) _).setCell (p := ⟨w.heap.size + 1, 6, none⟩) (Nat.le_succ _) _)
          have hown : Z.ownsRow w.heap.size 2 1 (.slice (M2.sa 0) en (M2.sc 0)) en (intsV r.events) := by
            have o := s5.at (h2.fr 0 (by omega))
            have hne : (rowX r M2 0).v.ownBlock = none ∨ (rowX r M2 0).v.ownBlock ≠ some (w.heap.size + 1) := by
              cases ho : (rowX r M2 0).v.ownBlock with
              | none => exact .inl rfl
              | some g =>
                refine .inr (fun e => ?_)
                injection e with e
                have := (o.lt g ho).1
                omega
            have o2 := gr_mono (World.ownsRow.kept (row := some (w.heap.size + 1)) o ⟨hgZ.os, hgZ.tape, hgZ.output, hgZ.size, fun j hj hne => hgZ.block j hj (fun e => hne (by rw [e]))⟩ hne) (show w.heap.size ≤ E by omega)
            rw [hen]
            exact o2
          have HV := Lib.hid hV
          have HZ := Lib.hid hZ
          have HqZ := Lib.hid hqZ
          have HbZ := Lib.hid hbZ
          have Hown := Lib.hid hown
          have Hre := Lib.hid hre
          have Hend := Lib.hid (show en = r.events.length ∧ eh = endX' r ∧ ev = valX r ∧ us = fuel - r.left from ⟨hen, heh, hev, by rw [hus, hlf]⟩)
          clear h2 hrf htb hrx hb2 hst hre hlf hen heh hev hus s5 b5 hV hEs hbV hk1V hZ hqZ hgZ hbZ hown HQ
          go_upto_region 15 with fail
          first | rw [← HV.out] | (rw [hw64, ← HV.out]) | (rw [hwi, ← HV.out])
          clear x9 x1 x5 xf5
          go_wp2_with fail
          rw [← HZ.out]
          try simp only [Exit.inBlock, Exit.then]
          refine bodyPost_ret (results_cell_row rfl _ _ (w.heap.size + 1) _ _ _ _ rfl HqZ.out Try.underlying50 rfl (by kernel_rfl)) rfl ?_
          obtain ⟨e1, e2, e3, e4⟩ := Hend.out
          rw [Hre.out]
          refine ⟨M2.sa 0, M2.sc 0, ?_, ?_, HbZ.out⟩
          · rw [← e1, ← e2, ← e3, ← e4]
          · rw [← e1]; exact Hown.out
        | false =>
          obtain ⟨q', r', rfl, hstep, hrx'⟩ := runX_on hst hrx
          have x9 : wr.cell? ⟨E, 9, none⟩ = some (.bool false) := by rw [← hst]; exact h2.sq.cell 9 _ rfl
          have hS := step_c leave_c do_c h2 hrf htb r' hstep
          have Hrf := Lib.hid (refs_step hrf hstep)
          have Htb := Lib.hid (tabs_step hrf htb hstep)
          have Hrx := Lib.hid hrx'
          have Hb2 := Lib.hid hb2
          clear h2 hrf htb hrx hb2 hst hstep hrx'
          go_wp2_with (go_at_call 49; refine hS.mono ?_; rintro e w7 ⟨rfl, hN⟩; have HN : Hid (RunI fs cm w.heap.size E W5 rE q' w7) := Lib.hid (by obtain ⟨⟨M3, F3, h3⟩, hb3⟩ := hN; exact ⟨r', M3, F3, h3, Hrf.out, Htb.out, Hrx.out, Hb2.out.trans hb3⟩); clear hN hS)
          go_roundw
          case rel => exact ⟨q', HN.out⟩
          case measure => rw [← HQ.out]; exact Nat.lt_succ_of_le (leastN_le HN.out)
end Go.Proofs.Ytagagpappjkgbaa
