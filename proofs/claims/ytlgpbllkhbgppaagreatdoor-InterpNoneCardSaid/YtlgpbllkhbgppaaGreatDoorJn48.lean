/-
  The runner: a run of main alone.
  The runner between two steps; the two runs of the law that nothing comes of nothing.
  The two texts of the law that nothing comes of nothing, and their runs.
-/
import Derived.Test.YtlgpbllkhbgppaaGreatDoorJn47
namespace Go.Proofs.YtlgpbllkhbgppaaGreatDoor
set_option linter.unusedVariables false
set_option linter.unusedSimpArgs false
open Go.RowKit

/-- What the runner's block says of what was seen. -/
def SeenAt (x : World) (p : Nat) (left : Int) (A : Option Addr) (n c : Nat) (e1 e2 e3 e4 e5 e6 : Int) : Prop :=
  ∃ v0 v9 v10 v11 v12 v13 v14, x.heap[p]? = some (.cells #[v0, .int .i64 left, .slice A n c, .int .i64 e1, .int .i64 e2, .int .i64 e3, .int .i64 e4, .int .i64 e5, .int .i64 e6, v9, v10, v11, v12, v13, v14] 43 (0, 0))
/-- A run that ended: in a world of which Sm holds. -/
def RunP (w : World) (mx how val : Int) (Sm : World → World → Prop) (e : Ending) (w' : World) : Prop :=
  ∃ W x left A n c e1 e2 e3 e4 e5 e6, Sm W x ∧ SeenAt x (w.heap.size + 3) left A n c e1 e2 e3 e4 e5 e6 ∧ e = .returned (.agg #[.slice A n c, .int .i64 how, .int .i64 val, .int .i64 (IntKind.i64.wrap (mx - left)), .int .i64 e4, .int .i64 e5, .int .i64 e6]) ∧ Below w.heap.size w w' ∧ But (w.heap.size + 2) x w' ∧ w.heap.size + 3 < x.heap.size
set_option maxRecDepth 100000 in
set_option maxHeartbeats 8000000 in
theorem run_0 (fb fo c : Nat) (fuel mx how val : Int) (hmx : max fuel 0 = mx) (w : World) (S0 S1 : World → World → Prop)
    (hB : ∀ W : World, W.heap[w.heap.size + 3]? = some (.cells #[.slice none 0 0, .int .i64 mx, .slice none 0 0, .int .i64 0, .int .i64 0, .int .i64 0, .int .i64 0, .int .i64 0, .int .i64 0, .slice none 0 0, .slice none 0 0, .int .i64 0, .slice none 0 0, .slice none 0 0, .int .i64 0] 43 (0, 0)) → Below w.heap.size w W → W.heap.size = w.heap.size + 4 → Calls Tryz.prog 10 #[.pointer (some ⟨w.heap.size + 3, 0, none⟩), .agg #[.slice (some ⟨fb, fo, none⟩) 1 c]] W fun e w' => e = .returned (.tuple #[]) ∧ S0 W w')
    (hh0 : ∀ W x, S0 W x → Calls Tryz.prog 11 #[.pointer (some ⟨w.heap.size + 3, 0, none⟩)] x fun e w' => e = endE how val ∧ S1 W w')
    (hF : ∀ W x, S1 W x → But (w.heap.size + 3) W x ∧ ∃ left A n c e1 e2 e3 e4 e5 e6, SeenAt x (w.heap.size + 3) left A n c e1 e2 e3 e4 e5 e6) :
    Calls Tryz.prog 5 #[.agg #[.slice (some ⟨fb, fo, none⟩) 1 c], .slice none 0 0, .int .i64 fuel] w (RunP w mx how val S1) := by
  have hmf : ∀ (fn : Fn) (first cap : Array Value) (w : World), (Instr.makeFunc fn first cap).run Tryz.prog w = .ok (.func fn first cap) w := fun _ _ _ _ => rfl
  obtain ⟨W, hW, hbW, hzW, h0, h1, h2, h3⟩ := four_al w #[.slice (some ⟨fb, fo, none⟩) 1 c] #[.int .i64 fuel] #[.slice none 0 0, .int .i64 0, .int .i64 0, .int .i64 0, .int .i64 0, .int .i64 0, .int .i64 0] #[.slice none 0 0, .int .i64 mx, .slice none 0 0, .int .i64 0, .int .i64 0, .int .i64 0, .int .i64 0, .int .i64 0, .int .i64 0, .slice none 0 0, .slice none 0 0, .int .i64 0, .slice none 0 0, .slice none 0 0, .int .i64 0] 24 2 29 43
  have hBW := hB W h3 hbW hzW
  have c0 := Lib.cell_of_heap h0 0
  have HW := Lib.hid hW
  have HF := Lib.hid hF
  have HbW := Lib.hid hbW
  have HzW := Lib.hid hzW
  have G1 := Lib.hid h1
  have G2 := Lib.hid h2
  have H10 := Lib.hid hh0
  clear hW hF hbW hzW h1 h2 h3 h0 hB 
  clear hh0
  go_enter_defers Tryz.func5, Tryz.ntmps5
  go_upto_region 3 with fail
  rw [← HW.out]
  go_wp2_with (go_at_call 10; refine hBW.mono ?_; rintro e x0 ⟨rfl, k0⟩; have K0 := Lib.hid k0; clear k0 hBW)
  refine wp_loop_rounds 1 ?_
  rw [rounds_succ]
  have g0 := H10.out W x0 K0.out
  go_wp2_with (go_at_call 11; refine g0.mono ?_; rintro e x1 ⟨rfl, k1⟩; have K1 := Lib.hid k1; clear k1 g0; unfold endE)
  obtain ⟨hbx, left, A, n, cc, e1, e2, e3, e4, e5, e6, hs⟩ := HF.out W x1 K1.out
  have Hs := Lib.hid hs
  obtain ⟨v0, v9, v10, v11, v12, v13, v14, g3⟩ := hs
  have zW := HzW.out
  have g1 : x1.heap[w.heap.size + 1]? = _ := (hbx.block _ (by omega) (by omega)).trans G1.out
  have g2 : x1.heap[w.heap.size + 2]? = _ := (hbx.block _ (by omega) (by omega)).trans G2.out
  have hwx : Below w.heap.size w x1 := hbx.below HbW.out (by omega) (by omega)
  have zx := hbx.size
  refine leaves_cons (f := 9) (args := #[.pointer (some ⟨w.heap.size + 2, 0, none⟩), .pointer (some ⟨w.heap.size + 3, 0, none⟩), .pointer (some ⟨w.heap.size + 1, 0, none⟩)]) (by simp) (by simp [go_sem]) ?_
  refine (taken_up (w.heap.size + 2) (w.heap.size + 3) (w.heap.size + 1) how val left fuel mx A n cc e1 e2 e3 e4 e5 e6 [] x1 hmx g2 (Lib.cell_of_heap g3 1) (Lib.cell_of_heap g1 0) (by omega) (by omega) (Lib.cell_of_heap g3 2) (Lib.cell_of_heap g3 3) (Lib.cell_of_heap g3 4) (Lib.cell_of_heap g3 5) (Lib.cell_of_heap g3 6) (Lib.cell_of_heap g3 7) (Lib.cell_of_heap g3 8) (by omega) (by omega)).mono ?_
  rintro r u' wz ⟨rfl, rfl, hb2, ho2⟩
  have hbe : Below w.heap.size w wz := hb2.below hwx (by omega) (by omega)
  have ho3 : wz.heap[w.heap.size + 1 + 1]? = _ := ho2
  obtain ⟨s0, s1, s2, s3, s4, s5, s6, -⟩ := cells7 ho3
  have hP : RunP w mx how val S1 (.returned (.agg #[.slice A n cc, .int .i64 how, .int .i64 val, .int .i64 (IntKind.i64.wrap (mx - left)), .int .i64 e4, .int .i64 e5, .int .i64 e6])) wz := ⟨W, x1, left, A, n, cc, e1, e2, e3, e4, e5, e6, K1.out, Hs.out, rfl, hbe, hb2, by omega⟩
  clear ho2 ho3 hb2 hwx g1 g2 g3 hbe hbx zW zx
  simp [Leaves, settle, results, Tryz.results5, go_sem, s0, s1, s2, s3, s4, s5, s6]
  exact hP
set_option maxRecDepth 100000 in
set_option maxHeartbeats 8000000 in
theorem run_4 (fb fo c : Nat) (fuel mx how val : Int) (hmx : max fuel 0 = mx) (w : World) (S0 S1 S2 S3 S4 S5 : World → World → Prop)
    (hB : ∀ W : World, W.heap[w.heap.size + 3]? = some (.cells #[.slice none 0 0, .int .i64 mx, .slice none 0 0, .int .i64 0, .int .i64 0, .int .i64 0, .int .i64 0, .int .i64 0, .int .i64 0, .slice none 0 0, .slice none 0 0, .int .i64 0, .slice none 0 0, .slice none 0 0, .int .i64 0] 43 (0, 0)) → Below w.heap.size w W → W.heap.size = w.heap.size + 4 → Calls Tryz.prog 10 #[.pointer (some ⟨w.heap.size + 3, 0, none⟩), .agg #[.slice (some ⟨fb, fo, none⟩) 1 c]] W fun e w' => e = .returned (.tuple #[]) ∧ S0 W w')
    (hh0 : ∀ W x, S0 W x → Calls Tryz.prog 11 #[.pointer (some ⟨w.heap.size + 3, 0, none⟩)] x fun e w' => e = .returned (.tuple #[]) ∧ S1 W w')
    (hh1 : ∀ W x, S1 W x → Calls Tryz.prog 11 #[.pointer (some ⟨w.heap.size + 3, 0, none⟩)] x fun e w' => e = .returned (.tuple #[]) ∧ S2 W w')
    (hh2 : ∀ W x, S2 W x → Calls Tryz.prog 11 #[.pointer (some ⟨w.heap.size + 3, 0, none⟩)] x fun e w' => e = .returned (.tuple #[]) ∧ S3 W w')
    (hh3 : ∀ W x, S3 W x → Calls Tryz.prog 11 #[.pointer (some ⟨w.heap.size + 3, 0, none⟩)] x fun e w' => e = .returned (.tuple #[]) ∧ S4 W w')
    (h4 : ∀ W x, S4 W x → Calls Tryz.prog 11 #[.pointer (some ⟨w.heap.size + 3, 0, none⟩)] x fun e w' => e = endE how val ∧ S5 W w')
    (hF : ∀ W x, S5 W x → But (w.heap.size + 3) W x ∧ ∃ left A n c e1 e2 e3 e4 e5 e6, SeenAt x (w.heap.size + 3) left A n c e1 e2 e3 e4 e5 e6) :
    Calls Tryz.prog 5 #[.agg #[.slice (some ⟨fb, fo, none⟩) 1 c], .slice none 0 0, .int .i64 fuel] w (RunP w mx how val S5) := by
  have hmf : ∀ (fn : Fn) (first cap : Array Value) (w : World), (Instr.makeFunc fn first cap).run Tryz.prog w = .ok (.func fn first cap) w := fun _ _ _ _ => rfl
  obtain ⟨W, hW, hbW, hzW, h0, h1, h2, h3⟩ := four_al w #[.slice (some ⟨fb, fo, none⟩) 1 c] #[.int .i64 fuel] #[.slice none 0 0, .int .i64 0, .int .i64 0, .int .i64 0, .int .i64 0, .int .i64 0, .int .i64 0] #[.slice none 0 0, .int .i64 mx, .slice none 0 0, .int .i64 0, .int .i64 0, .int .i64 0, .int .i64 0, .int .i64 0, .int .i64 0, .slice none 0 0, .slice none 0 0, .int .i64 0, .slice none 0 0, .slice none 0 0, .int .i64 0] 24 2 29 43
  have hBW := hB W h3 hbW hzW
  have c0 := Lib.cell_of_heap h0 0
  have HW := Lib.hid hW
  have HF := Lib.hid hF
  have HbW := Lib.hid hbW
  have HzW := Lib.hid hzW
  have G1 := Lib.hid h1
  have G2 := Lib.hid h2
  have H10 := Lib.hid hh0
  have H11 := Lib.hid hh1
  have H12 := Lib.hid hh2
  have H13 := Lib.hid hh3
  have H14 := Lib.hid h4
  clear hW hF hbW hzW h1 h2 h3 h0 hB h4
  clear hh0 hh1 hh2 hh3
  go_enter_defers Tryz.func5, Tryz.ntmps5
  go_upto_region 3 with fail
  rw [← HW.out]
  go_wp2_with (go_at_call 10; refine hBW.mono ?_; rintro e x0 ⟨rfl, k0⟩; have K0 := Lib.hid k0; clear k0 hBW)
  refine wp_loop_rounds 5 ?_
  rw [rounds_succ]
  have g0 := H10.out W x0 K0.out
  go_wp2_with (go_at_call 11; refine g0.mono ?_; rintro e x1 ⟨rfl, k1⟩; have K1 := Lib.hid k1; clear k1 g0)
  rw [rounds_succ]
  have g1 := H11.out W x1 K1.out
  go_wp2_with (go_at_call 11; refine g1.mono ?_; rintro e x2 ⟨rfl, k2⟩; have K2 := Lib.hid k2; clear k2 g1)
  rw [rounds_succ]
  have g2 := H12.out W x2 K2.out
  go_wp2_with (go_at_call 11; refine g2.mono ?_; rintro e x3 ⟨rfl, k3⟩; have K3 := Lib.hid k3; clear k3 g2)
  rw [rounds_succ]
  have g3 := H13.out W x3 K3.out
  go_wp2_with (go_at_call 11; refine g3.mono ?_; rintro e x4 ⟨rfl, k4⟩; have K4 := Lib.hid k4; clear k4 g3)
  rw [rounds_succ]
  have g4 := H14.out W x4 K4.out
  go_wp2_with (go_at_call 11; refine g4.mono ?_; rintro e x5 ⟨rfl, k5⟩; have K5 := Lib.hid k5; clear k5 g4; unfold endE)
  obtain ⟨hbx, left, A, n, cc, e1, e2, e3, e4, e5, e6, hs⟩ := HF.out W x5 K5.out
  have Hs := Lib.hid hs
  obtain ⟨v0, v9, v10, v11, v12, v13, v14, g3⟩ := hs
  have zW := HzW.out
  have g1 : x5.heap[w.heap.size + 1]? = _ := (hbx.block _ (by omega) (by omega)).trans G1.out
  have g2 : x5.heap[w.heap.size + 2]? = _ := (hbx.block _ (by omega) (by omega)).trans G2.out
  have hwx : Below w.heap.size w x5 := hbx.below HbW.out (by omega) (by omega)
  have zx := hbx.size
  refine leaves_cons (f := 9) (args := #[.pointer (some ⟨w.heap.size + 2, 0, none⟩), .pointer (some ⟨w.heap.size + 3, 0, none⟩), .pointer (some ⟨w.heap.size + 1, 0, none⟩)]) (by simp) (by simp [go_sem]) ?_
  refine (taken_up (w.heap.size + 2) (w.heap.size + 3) (w.heap.size + 1) how val left fuel mx A n cc e1 e2 e3 e4 e5 e6 [] x5 hmx g2 (Lib.cell_of_heap g3 1) (Lib.cell_of_heap g1 0) (by omega) (by omega) (Lib.cell_of_heap g3 2) (Lib.cell_of_heap g3 3) (Lib.cell_of_heap g3 4) (Lib.cell_of_heap g3 5) (Lib.cell_of_heap g3 6) (Lib.cell_of_heap g3 7) (Lib.cell_of_heap g3 8) (by omega) (by omega)).mono ?_
  rintro r u' wz ⟨rfl, rfl, hb2, ho2⟩
  have hbe : Below w.heap.size w wz := hb2.below hwx (by omega) (by omega)
  have ho3 : wz.heap[w.heap.size + 1 + 1]? = _ := ho2
  obtain ⟨s0, s1, s2, s3, s4, s5, s6, -⟩ := cells7 ho3
  have hP : RunP w mx how val S5 (.returned (.agg #[.slice A n cc, .int .i64 how, .int .i64 val, .int .i64 (IntKind.i64.wrap (mx - left)), .int .i64 e4, .int .i64 e5, .int .i64 e6])) wz := ⟨W, x5, left, A, n, cc, e1, e2, e3, e4, e5, e6, K5.out, Hs.out, rfl, hbe, hb2, by omega⟩
  clear ho2 ho3 hb2 hwx g1 g2 g3 hbe hbx zW zx
  simp [Leaves, settle, results, Tryz.results5, go_sem, s0, s1, s2, s3, s4, s5, s6]
  exact hP
end Go.Proofs.YtlgpbllkhbgppaaGreatDoor
namespace Go.Proofs.YtlgpbllkhbgppaaGreatDoor
set_option linter.unusedVariables false
set_option linter.unusedSimpArgs false
open Go.RowKit

/-- The row of what was printed. -/
def evV : Option (Nat × Nat) → Value
  | none => .slice none 0 0
  | some q => .slice (some ⟨q.1, 0, none⟩) 1 q.2
/-- The runner ahead of its step i: so much fuel, this on its stack; what was printed is nothing, or 7. -/
def At (W : World) (p : Nat) (l : List Value) (N : Nat) (left : Int) (ev : Option (Nat × Nat)) (i : Nat) (st : List Value) (n : Nat) (x : World) : Prop :=
  ∃ sp C SS CA A c base, x.heap[p]? = some (.cells #[.slice none 0 0, .int .i64 left, evV ev, .int .i64 0, .int .i64 0, .int .i64 0, .int .i64 0, .int .i64 0, .int .i64 1, .slice (some ⟨sp, 0, none⟩) N C, SS, .int .i64 (i : Int), CA, .slice A n c, .int .i64 0] 43 (0, 0)) ∧ (∀ j u, l[j]? = some u → x.cell? ⟨sp, j, none⟩ = some u) ∧ sp ≠ p ∧ sp < base ∧ p < base ∧ W.heap.size ≤ base ∧ base ≤ x.heap.size ∧ x.ownsRow base 82 2 (.slice A n c) n st ∧ But p W x ∧ (∀ q, ev = some q → x.cell? ⟨q.1, 0, none⟩ = some (.int .i64 7) ∧ base ≤ q.1 ∧ (Value.slice A n c).ownBlock ≠ some q.1)
theorem RK.but {p : Nat} {row : Option Nat} {W x x' : World} (h : But p W x) (k : RK p row x x') (hr : ∀ g, row = some g → W.heap.size ≤ g) : But p W x' :=
  ⟨k.os.trans h.os, k.tape.trans h.tape, k.output.trans h.output, Nat.le_trans h.size k.size, fun b h1 h2 => (k.block b (Nat.lt_of_lt_of_le h1 h.size) h2 (fun e => by have := hr b e; omega)).trans (h.block b h1 h2)⟩
set_option maxRecDepth 100000 in
set_option maxHeartbeats 4000000 in
theorem number_at (W : World) (p : Nat) (l : List Value) (N : Nat) (left f v u0 : Int) (ev : Option (Nat × Nat)) (i : Nat) (st : List Value) (n : Nat) (x : World) (h : At W p l N left ev i st n x) (hi : i < N) (hN : N ≤ 1000000) (x0 : l[i * 4]? = some (.int .i64 1)) (x1 : l[i * 4 + 1]? = some (.int .i64 f)) (x2 : l[i * 4 + 2]? = some (.int .i64 v)) (hf : 0 ≤ f) (hfl : f ≤ left) (hl : left ≤ 1000000) (hn : n ≤ 1000) (hu : (st ++ [.int .i64 v, .pointer none])[0]? = some (.int .i64 u0)) (hu7 : ev = none ∨ u0 ≠ 7) (hst : st.length = n * 2) :
    Calls Tryz.prog 11 #[.pointer (some ⟨p, 0, none⟩)] x fun e w' => e = .returned (.tuple #[]) ∧ At W p l N (left - f) ev (i + 1) (st ++ [.int .i64 v, .pointer none]) (n + 1) w' := by
  obtain ⟨sp, C, SS, CA, A, c, base, hp, hc, hsp, hsb, hpb, hWb, hb, ho, hbut, hev⟩ := h
  refine (step_number p base sp N C i n c left f v 0 0 0 0 0 1 0 A st (.slice none 0 0) (evV ev) SS CA x hp hi hN hsp (by omega) (hc _ _ x0) (hc _ _ x1) (hc _ _ x2) hf hfl hl ho hpb hb hn).mono ?_
  rintro e w' ⟨rfl, g, c', h1, h2, h3⟩
  have hnb : ∀ k, (Value.slice A n c).ownBlock = some k → base ≤ k := fun k e => (ho.lt k e).1
  have hspk : ∀ j, w'.cell? ⟨sp, j, none⟩ = x.cell? ⟨sp, j, none⟩ := fun j => h3.cell (a := ⟨sp, j, none⟩) (by show sp < _; omega) hsp (fun e => by have := hnb _ e; simp at this; omega)
  refine ⟨rfl, sp, C, SS, CA, some ⟨g, 0, none⟩, c', base, h1, fun j u hj => (hspk j).trans (hc j u hj), hsp, hsb, hpb, hWb, Nat.le_trans hb h3.size, h2, RK.but hbut h3 (fun k e => by have := hnb k e; omega), fun q hq => ?_⟩
  obtain ⟨k1, k2, k3⟩ := hev q hq
  have kq : w'.cell? ⟨q.1, 0, none⟩ = some (.int .i64 7) := (h3.cell (a := ⟨q.1, 0, none⟩) (World.block_lt_of_cell? x _ k1) (by show q.1 ≠ p; omega) k3).trans k1
  refine ⟨kq, k2, fun e => ?_⟩
  have e1 : g = q.1 := by simpa [Value.ownBlock] using e
  have k4 := h2.cellAt 0 (by omega)
  rw [e1] at k4
  have k5 := k4.symm.trans kq
  rw [hu] at k5
  rcases hu7 with h | h
  · rw [h] at hq; cases hq
  · simp at k5; exact h k5
theorem in_cut {w : World} {base : Nat} {T : TypeId} {z g n c : Nat} {xs : List Value} (h : w.ownsRow base T z (.slice (some ⟨g, 0, none⟩) n c) n xs) (m : Nat) (hm : m ≤ n) : w.ownsRow base T z (.slice (some ⟨g, 0, none⟩) m c) m (xs.take (m * z)) := by
  rcases h.2 with ⟨h', _⟩ | ⟨g', cap, cur, h', hb, hg, hnc, hcm, hcs, ht⟩
  · simp at h'
  · simp only [Value.slice.injEq, Option.some.injEq, Addr.mk.injEq, and_true, true_and] at h'
    obtain ⟨rfl, rfl⟩ := h'
    have hle : m * z ≤ n * z := Nat.mul_le_mul_right z hm
    refine ⟨by rw [List.length_take, h.1]; omega, .inr ⟨g, c, cur, rfl, hb, hg, by omega, hcm, hcs, ?_⟩⟩
    rw [← ht, List.take_take, Nat.min_eq_left hle]
theorem own_none {w : World} {base : Nat} {T : TypeId} {z n c g : Nat} {xs : List Value} (ho : w.ownsRow base T z (.slice (some ⟨g, 0, none⟩) n c) n xs) : w.ownsRow base T z (.slice (some ⟨g, 0, none⟩) 0 c) 0 [] := by
  have := in_cut ho 0 (Nat.zero_le _)
  simpa using this
theorem own_len {w : World} {base : Nat} {T : TypeId} {z n c g : Nat} {xs : List Value} (ho : w.ownsRow base T z (.slice (some ⟨g, 0, none⟩) n c) n xs) : n ≤ c := by
  rcases ho.2 with ⟨e, e0⟩ | ⟨g, cap, cur, e, _, _, h1, h2, _⟩
  · injection e with e1 e2 e3
    omega
  · injection e with e1 e2 e3
    omega
set_option maxRecDepth 100000 in
set_option maxHeartbeats 4000000 in
theorem print_at (W : World) (p : Nat) (l : List Value) (N : Nat) (left f : Int) (i : Nat) (x : World) (h : At W p l N left none i [.int .i64 7, .pointer none] 1 x) (hi : i < N) (hN : N ≤ 1000000) (x0 : l[i * 4]? = some (.int .i64 19)) (x1 : l[i * 4 + 1]? = some (.int .i64 f)) (hf : 0 ≤ f) (hfl : f ≤ left) (hl : left ≤ 1000000) :
    Calls Tryz.prog 11 #[.pointer (some ⟨p, 0, none⟩)] x fun e w' => e = .returned (.tuple #[]) ∧ ∃ q, At W p l N (left - f) (some q) (i + 1) [] 0 w' := by
  obtain ⟨sp, C, SS, CA, A, c, base, hp, hc, hsp, hsb, hpb, hWb, hb, ho, hbut, hev⟩ := h
  obtain ⟨sb, c2, e, h1, h2⟩ := ho.form (by omega)
  injection e with e1 _ e3
  subst e1
  subst e3
  have hcc := own_len ho
  refine (step_print p sb sp N C i 0 c left f 7 0 0 0 0 0 1 0 (.slice none 0 0) SS CA x hp hi hN hsp (by omega) (hc _ _ x0) (hc _ _ x1) hf hfl hl hcc (by omega) h2 (by omega) (ho.cellAt 0 (by omega)) (ho.cellAt 1 (by omega))).mono ?_
  rintro e w' ⟨rfl, g, c', k1, k2, k3, k4⟩
  refine ⟨rfl, (g, c'), sp, C, SS, CA, some ⟨sb, 0, none⟩, c, base, k1, fun j u hj => (k4.cell (p := ⟨sp, j, none⟩) (by show sp < _; omega) hsp).trans (hc j u hj), hsp, hsb, hpb, hWb, Nat.le_trans hb k4.size, own_but (own_none ho) k4 hpb, hbut.trans k4, fun q hq => ?_⟩
  obtain rfl : (g, c') = q := Option.some.inj hq
  exact ⟨k3, by show base ≤ g; omega, fun e => by simp [Value.ownBlock] at e; omega⟩
set_option maxRecDepth 100000 in
set_option maxHeartbeats 4000000 in
theorem two_at (W : World) (p : Nat) (l : List Value) (N : Nat) (left f : Int) (q : Nat × Nat) (i : Nat) (x : World) (h : At W p l N left (some q) i [.int .i64 1, .pointer none, .int .i64 0, .pointer none] 2 x) (hi : i < N) (hN : N ≤ 1000000) (x0 : l[i * 4]? = some (.int .i64 12)) (x1 : l[i * 4 + 1]? = some (.int .i64 f)) (x2 : l[i * 4 + 2]? = some (.int .i64 7)) (hf : 0 ≤ f) (hfl : f ≤ left) (hl : left ≤ 1000000) :
    Calls Tryz.prog 11 #[.pointer (some ⟨p, 0, none⟩)] x fun e w' => e = endE 2 2 ∧ But p W w' ∧ SeenAt w' p (left - f) (some ⟨q.1, 0, none⟩) 1 q.2 0 0 0 0 0 1 ∧ w'.cell? ⟨q.1, 0, none⟩ = some (.int .i64 7) ∧ W.heap.size ≤ q.1 := by
  obtain ⟨sp, C, SS, CA, A, c, base, hp, hc, hsp, hsb, hpb, hWb, hb, ho, hbut, hev⟩ := h
  obtain ⟨sb, c2, e, h1, h2⟩ := ho.form (by omega)
  injection e with e1 _ e3
  subst e1
  subst e3
  have hcc := own_len ho
  refine (step_two p sb sp N C i 0 c left f 1 0 0 0 0 0 1 0 (.slice none 0 0) (evV (some q)) SS CA x hp hi hN hsp (by omega) (hc _ _ x0) (hc _ _ x1) (hc _ _ x2) hf hfl hl hcc (by omega) h2 (by omega) (ho.cellAt 2 (by omega)) (ho.cellAt 3 (by omega)) (ho.cellAt 0 (by omega)) (ho.cellAt 1 (by omega))).mono ?_
  rintro e w' ⟨rfl, k1, k4⟩
  obtain ⟨j1, j2, j3⟩ := hev q rfl
  exact ⟨rfl, hbut.trans k4, ⟨_, _, _, _, _, _, _, k1⟩, (k4.cell (p := ⟨q.1, 0, none⟩) (World.block_lt_of_cell? x _ j1) (by show q.1 ≠ p; omega)).trans j1, by omega⟩
set_option maxRecDepth 100000 in
set_option maxHeartbeats 4000000 in
theorem short_at (W : World) (p : Nat) (l : List Value) (N : Nat) (left f d : Int) (i : Nat) (st : List Value) (n : Nat) (x : World) (h : At W p l N left none i st n x) (hi : i < N) (hN : N ≤ 1000000) (x0 : l[i * 4]? = some (.int .i64 d)) (x1 : l[i * 4 + 1]? = some (.int .i64 f)) (hfl : left < f) :
    Calls Tryz.prog 11 #[.pointer (some ⟨p, 0, none⟩)] x fun e w' => e = endE 0 0 ∧ But p W w' ∧ SeenAt w' p 0 none 0 0 0 0 0 0 0 1 := by
  obtain ⟨sp, C, SS, CA, A, c, base, hp, hc, hsp, hsb, hpb, hWb, hb, ho, hbut, hev⟩ := h
  refine (step_short p sp N C i left f 0 0 0 0 0 1 0 (.slice none 0 0) SS CA x _ _ d hp hi hN hsp (by omega) (hc _ _ x0) (hc _ _ x1) hfl).mono ?_
  rintro e w' ⟨rfl, k1, k4⟩
  exact ⟨rfl, hbut.trans k4, ⟨_, _, _, _, _, _, _, k1⟩⟩
/-- Begun. -/
theorem begin_at (l : List St) (hl : ∀ x ∈ l, inS x) (hlen : l.length ≤ 1099511627776) (hn : wSNs l ≤ 800000) (p fb fo c : Nat) (left a r v : Int) (PA BA : Option Addr) (pc bc : Nat) (S : Nat → Prop) (w : World) (hp : w.heap[p]? = some (.cells #[.slice none 0 0, .int .i64 left, .slice none 0 0, .int .i64 0, .int .i64 0, .int .i64 0, .int .i64 0, .int .i64 0, .int .i64 0, .slice none 0 0, .slice none 0 0, .int .i64 0, .slice none 0 0, .slice none 0 0, .int .i64 0] 43 (0, 0))) (c0 : w.cell? ⟨fb, fo, none⟩ = some (.string mainB)) (c1 : w.cell? ⟨fb, fo + 1, none⟩ = some (.int .i64 a)) (c2 : w.cell? ⟨fb, fo + 2, none⟩ = some (.slice PA 0 pc)) (c3 : w.cell? ⟨fb, fo + 3, none⟩ = some (.int .i64 r)) (c4 : w.cell? ⟨fb, fo + 4, none⟩ = some (.slice BA l.length bc)) (c5 : w.cell? ⟨fb, fo + 5, none⟩ = some (.int .i64 v)) (hR : RdSs w S BA 0 l) (hS : ∀ x, S x → x < w.heap.size) :
    Calls Tryz.prog 10 #[.pointer (some ⟨p, 0, none⟩), .agg #[.slice (some ⟨fb, fo, none⟩) 1 c]] w fun e w' => e = .returned (.tuple #[]) ∧ At w p (wSs l ++ [.int .i64 1, .int .i64 0, .int .i64 0, .int .i64 0] ++ [.int .i64 10, .int .i64 0, .int .i64 0, .int .i64 0]) (wSNs l + 2) left none 0 [] 0 w' := by
  have hpl := heap_lt hp
  refine (begin_main l hl hlen hn p fb fo c left a r v PA BA pc bc S w hp c0 c1 c2 c3 c4 c5 hR hS).mono ?_
  rintro e w' ⟨rfl, sp, C, gp, cp, g, c', k1, k2, k3, k4, k5⟩
  exact ⟨rfl, sp, C, _, _, none, 0, w'.heap.size, k1, k2, k3, k4, heap_lt k1, k5.size, Nat.le_refl _, World.ownsRow_nil _ _ _ _, k5, fun q hq => by cases hq⟩
end Go.Proofs.YtlgpbllkhbgppaaGreatDoor
namespace Go.Proofs.YtlgpbllkhbgppaaGreatDoor
set_option linter.unusedVariables false
set_option linter.unusedSimpArgs false
open Go.RowKit

def inB1 : ByteArray := ⟨#[102, 110, 32, 109, 97, 105, 110, 40, 41, 58, 32, 105, 110, 116, 32, 123, 32, 112, 114, 105, 110, 116, 32, 55, 59, 32, 114, 101, 116, 117, 114, 110, 32, 49, 32, 47, 32, 48, 59, 32, 125]⟩
def inB2 : ByteArray := ⟨#[102, 110, 32, 109, 97, 105, 110, 40, 41, 58, 32, 105, 110, 116, 32, 123, 32, 114, 101, 116, 117, 114, 110, 32, 49, 59, 32, 125]⟩
def inS1 : List St := [.mk 10 17 0 ⟨#[]⟩ 0 [.mk 1 23 0 0 7 ⟨#[]⟩ []] [] [], .mk 9 26 0 ⟨#[]⟩ 0 [.mk 5 35 0 7 0 ⟨#[]⟩ [.mk 1 33 0 0 1 ⟨#[]⟩ [], .mk 1 37 0 0 0 ⟨#[]⟩ []]] [] []]
def inS2 : List St := [.mk 9 17 0 ⟨#[]⟩ 0 [.mk 1 24 0 0 1 ⟨#[]⟩ []] [] []]
def inR1 : List Tk := (lexS inB1.data.toList).1
def inR2 : List Tk := (lexS inB2.data.toList).1
set_option maxRecDepth 100000 in
theorem in_lex1 : lexS inB1.data.toList = (inR1, none) := by kernel_rfl
set_option maxRecDepth 100000 in
theorem in_lex2 : lexS inB2.data.toList = (inR2, none) := by kernel_rfl
def inP1 : PS := match progK 60 [] (begin0 inB1 inR1) with | some (_, s) => s | none => begin0 inB1 inR1
def inP2 : PS := match progK 60 [] (begin0 inB2 inR2) with | some (_, s) => s | none => begin0 inB2 inR2
set_option maxRecDepth 100000 in
theorem in_prog1 : progK 60 [] (begin0 inB1 inR1) = some ([⟨mainB, 0, [], 1, inS1, 0⟩], inP1) := by kernel_rfl
set_option maxRecDepth 100000 in
theorem in_prog2 : progK 60 [] (begin0 inB2 inR2) = some ([⟨mainB, 0, [], 1, inS2, 0⟩], inP2) := by kernel_rfl
theorem in_fk1 : (inP1.fk != 0) = false := by kernel_rfl
theorem in_fk2 : (inP2.fk != 0) = false := by kernel_rfl
theorem em_size : (⟨#[]⟩ : ByteArray).size = 0 := rfl
theorem in_in1 : ∀ x ∈ inS1, inS x := by
  intro x hx
  simp only [inS1, List.mem_cons, List.not_mem_nil, or_false] at hx
  rcases hx with rfl | rfl <;> simp [inS, inEs, inE, em_size]
theorem in_in2 : ∀ x ∈ inS2, inS x := by
  intro x hx
  simp only [inS2, List.mem_cons, List.not_mem_nil, or_false] at hx
  rcases hx with rfl <;> simp [inS, inEs, inE, em_size]
theorem in_ty1 : ∀ x ∈ inS1.map tyS, inS x := by
  intro x hx
  simp only [inS1, List.map_cons, List.map_nil, tyS, tyEs, tyE, List.mem_cons, List.not_mem_nil, or_false] at hx
  rcases hx with rfl | rfl <;> simp [inS, inEs, inE, em_size]
theorem in_ty2 : ∀ x ∈ inS2.map tyS, inS x := by
  intro x hx
  simp only [inS2, List.map_cons, List.map_nil, tyS, tyEs, tyE, List.mem_cons, List.not_mem_nil, or_false] at hx
  rcases hx with rfl <;> simp [inS, inEs, inE, em_size]
theorem in_steps1 : wSs (inS1.map tyS) ++ [.int .i64 1, .int .i64 0, .int .i64 0, .int .i64 0] ++ [.int .i64 10, .int .i64 0, .int .i64 0, .int .i64 0] = [.int .i64 1, .int .i64 2, .int .i64 7, .int .i64 0, .int .i64 19, .int .i64 0, .int .i64 0, .int .i64 0, .int .i64 1, .int .i64 3, .int .i64 1, .int .i64 0, .int .i64 1, .int .i64 1, .int .i64 0, .int .i64 0, .int .i64 12, .int .i64 0, .int .i64 7, .int .i64 0, .int .i64 10, .int .i64 0, .int .i64 0, .int .i64 0, .int .i64 1, .int .i64 0, .int .i64 0, .int .i64 0, .int .i64 10, .int .i64 0, .int .i64 0, .int .i64 0] := by simp [inS1, tyS, tyEs, tyE, wSs, wS, wEs, wE, wLeft]
theorem in_steps2 : wSs (inS2.map tyS) ++ [.int .i64 1, .int .i64 0, .int .i64 0, .int .i64 0] ++ [.int .i64 10, .int .i64 0, .int .i64 0, .int .i64 0] = [.int .i64 1, .int .i64 2, .int .i64 1, .int .i64 0, .int .i64 10, .int .i64 0, .int .i64 0, .int .i64 0, .int .i64 1, .int .i64 0, .int .i64 0, .int .i64 0, .int .i64 10, .int .i64 0, .int .i64 0, .int .i64 0] := by simp [inS2, tyS, tyEs, tyE, wSs, wS, wEs, wE, wLeft]
theorem in_n1 : wSNs (inS1.map tyS) = 6 := by simp [inS1, tyS, tyEs, tyE, wSNs, wSN, wNs, wN]
theorem in_n2 : wSNs (inS2.map tyS) = 2 := by simp [inS2, tyS, tyEs, tyE, wSNs, wSN, wNs, wN]
theorem seen_same {x : World} {p : Nat} {l l' : Int} {A A' : Option Addr} {n n' c c' : Nat} {e1 e2 e3 e4 e5 e6 f1 f2 f3 f4 f5 f6 : Int} (h : SeenAt x p l A n c e1 e2 e3 e4 e5 e6) (k : SeenAt x p l' A' n' c' f1 f2 f3 f4 f5 f6) : l = l' ∧ A = A' ∧ n = n' ∧ c = c' ∧ e4 = f4 ∧ e5 = f5 ∧ e6 = f6 := by
  obtain ⟨v0, v9, v10, v11, v12, v13, v14, h⟩ := h
  obtain ⟨u0, u9, u10, u11, u12, u13, u14, k⟩ := k
  have e := h.symm.trans k
  simp at e
  obtain ⟨-, h1, ⟨h2, h3, h4⟩, -, -, -, h5, h6, h7, -⟩ := e
  exact ⟨h1, h2, h3, h4, h5, h6, h7⟩
set_option maxRecDepth 100000 in
set_option maxHeartbeats 4000000 in
theorem run_seven (K : Option Addr) (c lo : Nat) (w : World) (hF : RdFs w (From lo w) K [fuT 0 inS1]) :
    Calls Tryz.prog 5 #[.agg #[.slice K 1 c], .slice none 0 0, .int .i64 100] w fun e w' => ∃ g cg us d4 d5 d6, e = .returned (.agg #[.slice (some ⟨g, 0, none⟩) 1 cg, .int .i64 2, .int .i64 2, .int .i64 us, .int .i64 d4, .int .i64 d5, .int .i64 d6]) ∧ w'.cell? ⟨g, 0, none⟩ = some (.int .i64 7) ∧ Below w.heap.size w w' := by
  obtain ⟨r, o, rfl, hro, hx⟩ := hF (by simp)
  obtain ⟨q0, q1, ⟨PA, pc, q2, -⟩, q3, ⟨BA, bc, q4, q4r⟩, q5⟩ := hx 0 _ rfl
  simp only [Nat.zero_mul, Nat.add_zero] at q0 q1 q2 q3 q4 q5
  have hrl : r < w.heap.size := hro.2
  refine (run_4 r o c 100 100 2 2 (by first | decide | assumption) w (fun W x => W.heap.size = w.heap.size + 4 ∧ At W (w.heap.size + 3) [.int .i64 1, .int .i64 2, .int .i64 7, .int .i64 0, .int .i64 19, .int .i64 0, .int .i64 0, .int .i64 0, .int .i64 1, .int .i64 3, .int .i64 1, .int .i64 0, .int .i64 1, .int .i64 1, .int .i64 0, .int .i64 0, .int .i64 12, .int .i64 0, .int .i64 7, .int .i64 0, .int .i64 10, .int .i64 0, .int .i64 0, .int .i64 0, .int .i64 1, .int .i64 0, .int .i64 0, .int .i64 0, .int .i64 10, .int .i64 0, .int .i64 0, .int .i64 0] 8 100 none 0 [] 0 x) (fun W x => W.heap.size = w.heap.size + 4 ∧ At W (w.heap.size + 3) [.int .i64 1, .int .i64 2, .int .i64 7, .int .i64 0, .int .i64 19, .int .i64 0, .int .i64 0, .int .i64 0, .int .i64 1, .int .i64 3, .int .i64 1, .int .i64 0, .int .i64 1, .int .i64 1, .int .i64 0, .int .i64 0, .int .i64 12, .int .i64 0, .int .i64 7, .int .i64 0, .int .i64 10, .int .i64 0, .int .i64 0, .int .i64 0, .int .i64 1, .int .i64 0, .int .i64 0, .int .i64 0, .int .i64 10, .int .i64 0, .int .i64 0, .int .i64 0] 8 98 none 1 [.int .i64 7, .pointer none] 1 x) (fun W x => W.heap.size = w.heap.size + 4 ∧ ∃ q, At W (w.heap.size + 3) [.int .i64 1, .int .i64 2, .int .i64 7, .int .i64 0, .int .i64 19, .int .i64 0, .int .i64 0, .int .i64 0, .int .i64 1, .int .i64 3, .int .i64 1, .int .i64 0, .int .i64 1, .int .i64 1, .int .i64 0, .int .i64 0, .int .i64 12, .int .i64 0, .int .i64 7, .int .i64 0, .int .i64 10, .int .i64 0, .int .i64 0, .int .i64 0, .int .i64 1, .int .i64 0, .int .i64 0, .int .i64 0, .int .i64 10, .int .i64 0, .int .i64 0, .int .i64 0] 8 98 (some q) 2 [] 0 x) (fun W x => W.heap.size = w.heap.size + 4 ∧ ∃ q, At W (w.heap.size + 3) [.int .i64 1, .int .i64 2, .int .i64 7, .int .i64 0, .int .i64 19, .int .i64 0, .int .i64 0, .int .i64 0, .int .i64 1, .int .i64 3, .int .i64 1, .int .i64 0, .int .i64 1, .int .i64 1, .int .i64 0, .int .i64 0, .int .i64 12, .int .i64 0, .int .i64 7, .int .i64 0, .int .i64 10, .int .i64 0, .int .i64 0, .int .i64 0, .int .i64 1, .int .i64 0, .int .i64 0, .int .i64 0, .int .i64 10, .int .i64 0, .int .i64 0, .int .i64 0] 8 95 (some q) 3 [.int .i64 1, .pointer none] 1 x) (fun W x => W.heap.size = w.heap.size + 4 ∧ ∃ q, At W (w.heap.size + 3) [.int .i64 1, .int .i64 2, .int .i64 7, .int .i64 0, .int .i64 19, .int .i64 0, .int .i64 0, .int .i64 0, .int .i64 1, .int .i64 3, .int .i64 1, .int .i64 0, .int .i64 1, .int .i64 1, .int .i64 0, .int .i64 0, .int .i64 12, .int .i64 0, .int .i64 7, .int .i64 0, .int .i64 10, .int .i64 0, .int .i64 0, .int .i64 0, .int .i64 1, .int .i64 0, .int .i64 0, .int .i64 0, .int .i64 10, .int .i64 0, .int .i64 0, .int .i64 0] 8 94 (some q) 4 [.int .i64 1, .pointer none, .int .i64 0, .pointer none] 2 x) (fun W x => W.heap.size = w.heap.size + 4 ∧ (But (w.heap.size + 3) W x ∧ ∃ q : Nat × Nat, SeenAt x (w.heap.size + 3) 94 (some ⟨q.1, 0, none⟩) 1 q.2 0 0 0 0 0 1 ∧ x.cell? ⟨q.1, 0, none⟩ = some (.int .i64 7) ∧ W.heap.size ≤ q.1)) ?_ ?_ ?_ ?_ ?_ ?_ ?_).mono ?_
  · intro W hW hbW hzW
    have kk : ∀ b j, b < w.heap.size → W.cell? ⟨b, j, none⟩ = w.cell? ⟨b, j, none⟩ := fun b j hb => hbW.cell (p := ⟨b, j, none⟩) hb
    have hBg := begin_at (inS1.map tyS) in_ty1 (by decide) (by rw [in_n1]; decide) (w.heap.size + 3) r o c 100 0 1 0 PA BA pc bc (From lo w) W hW ((kk _ _ hrl).trans q0) ((kk _ _ hrl).trans q1) ((kk _ _ hrl).trans q2) ((kk _ _ hrl).trans q3) ((kk _ _ hrl).trans q4) ((kk _ _ hrl).trans q5) (RdSs.keep (w' := W) (fun q hq => hbW.cell hq.2) _ _ _ q4r) (fun x hx => by have := hx.2; omega)
    rw [in_steps1, in_n1] at hBg
    exact hBg.mono (fun e w' ⟨a, b⟩ => ⟨a, hzW, b⟩)
  · exact fun W x ⟨hz, h⟩ => (number_at W _ _ 8 100 2 7 7 none 0 _ 0 x h (by decide) (by decide) rfl rfl rfl (by decide) (by decide) (by decide) (by decide) rfl (Or.inl rfl) rfl).mono (fun e w' ⟨a, b⟩ => ⟨a, hz, b⟩)
  · exact fun W x ⟨hz, h⟩ => (print_at W _ _ 8 98 0 1 x h (by decide) (by decide) rfl rfl (by decide) (by decide) (by decide)).mono (fun e w' ⟨a, b⟩ => ⟨a, hz, b⟩)
  · exact fun W x ⟨hz, q, h⟩ => (number_at W _ _ 8 98 3 1 1 (some q) 2 _ 0 x h (by decide) (by decide) rfl rfl rfl (by decide) (by decide) (by decide) (by decide) rfl (Or.inr (by decide)) rfl).mono (fun e w' ⟨a, b⟩ => ⟨a, hz, q, b⟩)
  · exact fun W x ⟨hz, q, h⟩ => (number_at W _ _ 8 95 1 0 1 (some q) 3 _ 1 x h (by decide) (by decide) rfl rfl rfl (by decide) (by decide) (by decide) (by decide) rfl (Or.inr (by decide)) rfl).mono (fun e w' ⟨a, b⟩ => ⟨a, hz, q, b⟩)
  · exact fun W x ⟨hz, q, h⟩ => (two_at W _ _ 8 94 0 q 4 x h (by decide) (by decide) rfl rfl rfl (by decide) (by decide) (by decide)).mono (fun e w' ⟨a, b, c1, c2, c3⟩ => ⟨a, hz, b, q, c1, c2, c3⟩)
  · exact fun W x ⟨hz, h, q, k, _⟩ => ⟨h, _, _, _, _, _, _, _, _, _, _, k⟩
  · rintro e w' ⟨W, x, left, A, n, c9, e1, e2, e3, e4, e5, e6, ⟨hz, hb, q, hs, hc, hg⟩, hs2, rfl, hbe, hbut, hxp⟩
    obtain ⟨rfl, rfl, rfl, rfl, rfl, rfl, rfl⟩ := seen_same hs2 hs
    exact ⟨q.1, q.2, _, _, _, _, rfl, (hbut.cell (p := ⟨q.1, 0, none⟩) (World.block_lt_of_cell? x _ hc) (by show q.1 ≠ w.heap.size + 2; omega)).trans hc, hbe⟩
set_option maxRecDepth 100000 in
set_option maxHeartbeats 4000000 in
theorem run_short (K : Option Addr) (c lo : Nat) (f : Int) (hf : max f 0 = 0) (w : World) (hF : RdFs w (From lo w) K [fuT 0 inS2]) :
    Calls Tryz.prog 5 #[.agg #[.slice K 1 c], .slice none 0 0, .int .i64 f] w fun e w' => e = .returned (.agg #[.slice none 0 0, .int .i64 0, .int .i64 0, .int .i64 0, .int .i64 0, .int .i64 0, .int .i64 1]) ∧ Below w.heap.size w w' := by
  obtain ⟨r, o, rfl, hro, hx⟩ := hF (by simp)
  obtain ⟨q0, q1, ⟨PA, pc, q2, -⟩, q3, ⟨BA, bc, q4, q4r⟩, q5⟩ := hx 0 _ rfl
  simp only [Nat.zero_mul, Nat.add_zero] at q0 q1 q2 q3 q4 q5
  have hrl : r < w.heap.size := hro.2
  refine (run_0 r o c f 0 0 0 (by first | decide | assumption) w (fun W x => W.heap.size = w.heap.size + 4 ∧ At W (w.heap.size + 3) [.int .i64 1, .int .i64 2, .int .i64 1, .int .i64 0, .int .i64 10, .int .i64 0, .int .i64 0, .int .i64 0, .int .i64 1, .int .i64 0, .int .i64 0, .int .i64 0, .int .i64 10, .int .i64 0, .int .i64 0, .int .i64 0] 4 0 none 0 [] 0 x) (fun W x => W.heap.size = w.heap.size + 4 ∧ (But (w.heap.size + 3) W x ∧ SeenAt x (w.heap.size + 3) 0 none 0 0 0 0 0 0 0 1)) ?_ ?_ ?_).mono ?_
  · intro W hW hbW hzW
    have kk : ∀ b j, b < w.heap.size → W.cell? ⟨b, j, none⟩ = w.cell? ⟨b, j, none⟩ := fun b j hb => hbW.cell (p := ⟨b, j, none⟩) hb
    have hBg := begin_at (inS2.map tyS) in_ty2 (by decide) (by rw [in_n2]; decide) (w.heap.size + 3) r o c 0 0 1 0 PA BA pc bc (From lo w) W hW ((kk _ _ hrl).trans q0) ((kk _ _ hrl).trans q1) ((kk _ _ hrl).trans q2) ((kk _ _ hrl).trans q3) ((kk _ _ hrl).trans q4) ((kk _ _ hrl).trans q5) (RdSs.keep (w' := W) (fun q hq => hbW.cell hq.2) _ _ _ q4r) (fun x hx => by have := hx.2; omega)
    rw [in_steps2, in_n2] at hBg
    exact hBg.mono (fun e w' ⟨a, b⟩ => ⟨a, hzW, b⟩)
  · exact fun W x ⟨hz, h⟩ => (short_at W _ _ 4 0 2 1 0 [] 0 x h (by decide) (by decide) rfl rfl (by decide)).mono (fun e w' ⟨a, b, c1⟩ => ⟨a, hz, b, c1⟩)
  · exact fun W x ⟨hz, h, k⟩ => ⟨h, _, _, _, _, _, _, _, _, _, _, k⟩
  · rintro e w' ⟨W, x, left, A, n, c9, e1, e2, e3, e4, e5, e6, ⟨hz, hb, hs⟩, hs2, rfl, hbe, hbut, hxp⟩
    obtain ⟨rfl, rfl, rfl, rfl, rfl, rfl, rfl⟩ := seen_same hs2 hs
    exact ⟨rfl, hbe⟩
end Go.Proofs.YtlgpbllkhbgppaaGreatDoor
