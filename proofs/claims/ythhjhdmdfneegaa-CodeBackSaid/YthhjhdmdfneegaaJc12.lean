/-
  Programs as bytes: a block and an instruction, read.
  Programs as bytes: an instruction, read.
-/
import Derived.Test.YthhjhdmdfneegaaJc4
import Derived.Test.YthhjhdmdfneegaaJc11
namespace Go.Proofs.Ythhjhdmdfneegaa
set_option linter.unusedVariables false
set_option linter.unusedSimpArgs false
open Go.RowKit Go.Shelf

theorem manyQ_left {α : Type} {item : Option (List UInt8) → α × Option (List UInt8)} (hi : ∀ s, ((item s).2.getD []).length ≤ (s.getD []).length) : ∀ (k : Nat) (acc : List α) (s : Option (List UInt8)), ((manyQ item k acc s).2.getD []).length ≤ (s.getD []).length
  | 0, acc, s => by simp [manyQ]
  | k + 1, acc, none => by simp [manyQ]
  | k + 1, acc, some l => by
    unfold manyQ
    exact Nat.le_trans (manyQ_left hi k _ _) (hi _)
theorem itemsQ_left {α : Type} {item : Option (List UInt8) → α × Option (List UInt8)} (hi : ∀ s, ((item s).2.getD []).length ≤ (s.getD []).length) (most : Nat) (s : Option (List UInt8)) : ((itemsQ most item s).2.getD []).length ≤ (s.getD []).length :=
  Nat.le_trans (manyQ_left hi _ _ _) (numS_len most s)
theorem rowQ_left (most : Nat) (s : Option (List UInt8)) : ((rowQ most s).2.getD []).length ≤ (s.getD []).length := itemsQ_left oneQ_len most s
theorem endQ_left (s : Option (List UInt8)) : ((endQ s).2.getD []).length ≤ (s.getD []).length :=
  Nat.le_trans (rowQ_left _ _) (Nat.le_trans (oneQ_len _) (numS_len _ _))
def blockQ (s : Option (List UInt8)) : SB × Option (List UInt8) :=
  let a := rowQ 131072 s
  let b := rowQ 65536 a.2
  let c := endQ b.2
  (⟨a.1, b.1, c.1.1, c.1.2.1, c.1.2.2⟩, c.2)
def insQ (s : Option (List UInt8)) : SIn × Option (List UInt8) :=
  let a := numS 36 s
  let b := numS 4 a.2
  let c := rowQ 65536 b.2
  let d := numS 18446744073709551615 c.2
  let e := numS 256 d.2
  (⟨a.1, b.1, c.1, unsQ d.1, e.1⟩, e.2)
theorem blockQ_left (s : Option (List UInt8)) : ((blockQ s).2.getD []).length ≤ (s.getD []).length :=
  Nat.le_trans (endQ_left _) (Nat.le_trans (rowQ_left _ _) (rowQ_left _ _))
theorem insQ_left (s : Option (List UInt8)) : ((insQ s).2.getD []).length ≤ (s.getD []).length :=
  Nat.le_trans (numS_len _ _) (Nat.le_trans (numS_len _ _) (Nat.le_trans (rowQ_left _ _) (Nat.le_trans (numS_len _ _) (numS_len _ _))))
set_option maxRecDepth 100000 in
theorem block_r (E : Nat) (s : Option (List UInt8)) (w : World) (h : RdAt E s w) (hl : (s.getD []).length ≤ 1099511627776) : Calls Try.prog 44 #[.pointer (some ⟨E, 0, none⟩)] w fun e w' => ∃ v1 v2 v3, e = .returned (.agg #[v1, v2, .int .i64 (blockQ s).1.kind, .int .i64 (blockQ s).1.arg, v3]) ∧ w'.ownsRow w.heap.size 3 1 v1 (blockQ s).1.list.length (intsV (blockQ s).1.list) ∧ w'.ownsRow w.heap.size 3 1 v2 (blockQ s).1.preds.length (intsV (blockQ s).1.preds) ∧ w'.ownsRow w.heap.size 3 1 v3 (blockQ s).1.to_.length (intsV (blockQ s).1.to_) ∧ RdAt E (blockQ s).2 w' ∧ GBu E w w' := by
  obtain ⟨W, hW, hbW, hzW, h0W⟩ := gr_one w #[.slice none 0 0, .slice none 0 0, .int .i64 0, .int .i64 0, .slice none 0 0] 51
  have hA : Calls Try.prog 40 #[.pointer (some ⟨E, 0, none⟩), .int .u64 131072] W fun e w' => ∃ v, e = .returned v ∧ w'.ownsRow W.heap.size 3 1 v (rowQ 131072 s).1.length (intsV (rowQ 131072 s).1) ∧ RdAt E (rowQ 131072 s).2 w' ∧ GBu E W w' := row_r E 131072 (by decide) s W (h.keep hbW) hl
  have hl1 := Nat.le_trans (rowQ_left 131072 s) hl
  unfold blockQ
  obtain ⟨xs, hxs⟩ : ∃ xs, xs = (rowQ 131072 s).1 := ⟨_, rfl⟩
  obtain ⟨s1, hs1⟩ : ∃ s1, s1 = (rowQ 131072 s).2 := ⟨_, rfl⟩
  rw [← hs1] at hl1
  rw [← hxs, ← hs1] at hA
  simp only [← hxs, ← hs1]
  have hB : ∀ w2, RdAt E s1 w2 → Calls Try.prog 40 #[.pointer (some ⟨E, 0, none⟩), .int .u64 65536] w2 fun e w' => ∃ v, e = .returned v ∧ w'.ownsRow w2.heap.size 3 1 v (rowQ 65536 s1).1.length (intsV (rowQ 65536 s1).1) ∧ RdAt E (rowQ 65536 s1).2 w' ∧ GBu E w2 w' := fun w2 h2 => row_r E 65536 (by decide) s1 w2 h2 hl1
  have hl2 := Nat.le_trans (rowQ_left 65536 s1) hl1
  obtain ⟨ys, hys⟩ : ∃ ys, ys = (rowQ 65536 s1).1 := ⟨_, rfl⟩
  obtain ⟨s2, hs2⟩ : ∃ s2, s2 = (rowQ 65536 s1).2 := ⟨_, rfl⟩
  rw [← hs2] at hl2
  rw [← hys, ← hs2] at hB
  simp only [← hys, ← hs2]
  have hC := fun w3 (h3 : RdAt E s2 w3) => end_r E s2 w3 h3 hl2
  obtain ⟨k, hk⟩ : ∃ k, k = (endQ s2).1.1 := ⟨_, rfl⟩
  obtain ⟨a, ha⟩ : ∃ a, a = (endQ s2).1.2.1 := ⟨_, rfl⟩
  obtain ⟨zs, hzs⟩ : ∃ zs, zs = (endQ s2).1.2.2 := ⟨_, rfl⟩
  obtain ⟨s3, hs3⟩ : ∃ s3, s3 = (endQ s2).2 := ⟨_, rfl⟩
  rw [← hk, ← ha, ← hzs, ← hs3] at hC
  simp only [← hk, ← ha, ← hzs, ← hs3]
  have hEw : E < w.heap.size := gr_in h
  have HE := Lib.hid hEw
  have HW := Lib.hid hW
  have HbW := Lib.hid hbW
  have HzW := Lib.hid hzW
  have H0 := Lib.hid h0W
  clear h hl hk hs1 ha hs2 hxs hys hzs hs3 hl1 hl2 hW hbW hzW h0W hEw
  go_enter Try.func44, Try.ntmps44
  go_upto_region 1 with fail
  rw [← HW.out]
  go_wp2_with (first
    | (go_at_call 40; first
        | (refine hA.mono ?_; rintro e w1 ⟨v, rfl, o1, h1, g1⟩; have H1 := Lib.hid h1; have G1 := Lib.hid g1; obtain ⟨A1, c1, rfl⟩ := gr_slice o1; have O1 := Lib.hid o1; clear h1 g1 o1 hA)
        | (refine (hB _ H1.out).mono ?_; rintro e w2 ⟨v, rfl, o2, h2, g2⟩; have H2 := Lib.hid h2; have G2 := Lib.hid (G1.out.trans g2); obtain ⟨A2, c2, rfl⟩ := gr_slice o2; have O2 := Lib.hid o2; have P1 := Lib.hid (own_gbu O1.out H1.out (by decide) g2); clear h2 g2 o2 hB))
    | (go_at_call 66; refine (hC _ H2.out).mono ?_; rintro e w3 ⟨v, rfl, o3, h3, g3⟩; have Q1 := Lib.hid (own_gbu P1.out H2.out (by decide) g3); have Q2 := Lib.hid (own_gbu O2.out H2.out (by decide) g3); have H3 := Lib.hid h3; have G3 := Lib.hid (G2.out.trans g3); obtain ⟨A3, c3, rfl⟩ := gr_slice o3; have O3 := Lib.hid o3; have h03 := (G3.out.block w.heap.size (gr_in H0.out) (Nat.ne_of_gt HE.out)).trans H0.out; have t0 := Lib.cell_of_heap h03 0; have t1 := Lib.cell_of_heap h03 1; have t2 := Lib.cell_of_heap h03 2; have t3 := Lib.cell_of_heap h03 3; have t4 := Lib.cell_of_heap h03 4; have tf0 := Lib.frozen_of_heap h03 0; have tf1 := Lib.frozen_of_heap h03 1; have tf2 := Lib.frozen_of_heap h03 2; have tf3 := Lib.frozen_of_heap h03 3; have tf4 := Lib.frozen_of_heap h03 4; have HH := Lib.hid h03; clear o3 h3 g3 hC h03))
  obtain ⟨Z, hZ⟩ : ∃ Z, Z = ((((w3.setCell ⟨w.heap.size, 0, none⟩ (.slice A1 xs.length c1)).setCell ⟨w.heap.size, 1, none⟩ (.slice A2 ys.length c2)).setCell ⟨w.heap.size, 2, none⟩ (.int .i64 (k : Int))).setCell ⟨w.heap.size, 3, none⟩ (.int .i64 a)).setCell ⟨w.heap.size, 4, none⟩ (.slice A3 zs.length c3) := ⟨_, rfl⟩
  have hqZ : Z.heap[w.heap.size]? = some (.cells #[.slice A1 xs.length c1, .slice A2 ys.length c2, .int .i64 (k : Int), .int .i64 a, .slice A3 zs.length c3] 51 (0, 0)) := by
    rw [hZ]
    exact gr_put (gr_put (gr_put (gr_put (gr_put HH.out 0 _) 1 _) 2 _) 3 _) 4 _
  have hbZ : Below w.heap.size w3 Z := by
    rw [hZ]
    exact (((((Below.refl _ _).setCell (p := ⟨w.heap.size, 0, none⟩) (Nat.le_refl _) _).setCell (p := ⟨w.heap.size, 1, none⟩) (Nat.le_refl _) _).setCell (p := ⟨w.heap.size, 2, none⟩) (Nat.le_refl _) _).setCell (p := ⟨w.heap.size, 3, none⟩) (Nat.le_refl _) _).setCell (p := ⟨w.heap.size, 4, none⟩) (Nat.le_refl _) _
  have hlt : w.heap.size < W.heap.size := by have := HzW.out; omega
  have hlt1 : w.heap.size < w1.heap.size := by have := G1.out.size; omega
  have hlt2 : w.heap.size < w2.heap.size := by have := G2.out.size; omega
  have hoZ : ∀ (B : Nat) (v : Value) (n : Nat) (l : List Value), w.heap.size < B → w3.ownsRow B 3 1 v n l → Z.ownsRow w.heap.size 3 1 v n l := by
    intro B v n l hB ho
    rw [hZ]
    exact own_low (own_lay (own_lay (own_lay (own_lay (own_lay ho hB) hB) hB) hB) hB) (Nat.le_of_lt hB)
  rw [← hZ]
  refine bodyPost_ret (results_cell_row rfl _ _ w.heap.size _ _ _ _ rfl hqZ Try.underlying51 rfl (by kernel_rfl)) rfl ?_
  exact ⟨_, _, _, rfl, hoZ _ _ _ _ hlt Q1.out, hoZ _ _ _ _ hlt1 Q2.out, hoZ _ _ _ _ hlt2 O3.out, (hbZ.block _ HE.out).trans H3.out, ((GBu.of_below HbW.out).trans G3.out).then_new hbZ⟩
end Go.Proofs.Ythhjhdmdfneegaa
namespace Go.Proofs.Ythhjhdmdfneegaa
set_option linter.unusedVariables false
set_option linter.unusedSimpArgs false
open Go.RowKit Go.Shelf

set_option maxRecDepth 100000 in
theorem ins_r (E : Nat) (s : Option (List UInt8)) (w : World) (h : RdAt E s w) (hl : (s.getD []).length ≤ 1099511627776) : Calls Try.prog 42 #[.pointer (some ⟨E, 0, none⟩)] w fun e w' => ∃ v, e = .returned (.agg #[.int .i64 (insQ s).1.op, .int .i64 (insQ s).1.ty, v, .int .i64 (insQ s).1.n, .int .i64 (insQ s).1.to_]) ∧ w'.ownsRow w.heap.size 3 1 v (insQ s).1.args.length (intsV (insQ s).1.args) ∧ RdAt E (insQ s).2 w' ∧ GBu E w w' := by
  obtain ⟨W, hW, hbW, hzW, h0W⟩ := gr_one w #[.int .i64 0, .int .i64 0, .slice none 0 0, .int .i64 0, .int .i64 0] 46
  have hR0 := h.keep hbW
  unfold insQ
  have hU1 : ∀ w2, RdAt E s w2 → Calls Try.prog 17 #[.pointer (some ⟨E, 0, none⟩), .int .u64 36] w2 fun e w' => e = .returned (.int .i64 ((numS 36 s).1 : Int)) ∧ RdAt E (numS 36 s).2 w' ∧ GBu E w2 w' := fun w2 h2 => up_r E 36 (by decide) s w2 h2 hl
  have hl1 := Nat.le_trans (numS_len 36 s) hl
  obtain ⟨k1, hk1⟩ : ∃ k1, k1 = (numS 36 s).1 := ⟨_, rfl⟩
  obtain ⟨s1, hs1⟩ : ∃ s1, s1 = (numS 36 s).2 := ⟨_, rfl⟩
  rw [← hs1] at hl1
  rw [← hk1, ← hs1] at hU1
  simp only [← hk1, ← hs1]
  have hU2 : ∀ w2, RdAt E s1 w2 → Calls Try.prog 17 #[.pointer (some ⟨E, 0, none⟩), .int .u64 4] w2 fun e w' => e = .returned (.int .i64 ((numS 4 s1).1 : Int)) ∧ RdAt E (numS 4 s1).2 w' ∧ GBu E w2 w' := fun w2 h2 => up_r E 4 (by decide) s1 w2 h2 hl1
  have hl2 := Nat.le_trans (numS_len 4 s1) hl1
  obtain ⟨k2, hk2⟩ : ∃ k2, k2 = (numS 4 s1).1 := ⟨_, rfl⟩
  obtain ⟨s2, hs2⟩ : ∃ s2, s2 = (numS 4 s1).2 := ⟨_, rfl⟩
  rw [← hs2] at hl2
  rw [← hk2, ← hs2] at hU2
  simp only [← hk2, ← hs2]
  have hA : ∀ w2, RdAt E s2 w2 → Calls Try.prog 40 #[.pointer (some ⟨E, 0, none⟩), .int .u64 65536] w2 fun e w' => ∃ v, e = .returned v ∧ w'.ownsRow w2.heap.size 3 1 v (rowQ 65536 s2).1.length (intsV (rowQ 65536 s2).1) ∧ RdAt E (rowQ 65536 s2).2 w' ∧ GBu E w2 w' := fun w2 h2 => row_r E 65536 (by decide) s2 w2 h2 hl2
  have hl3 := Nat.le_trans (rowQ_left 65536 s2) hl2
  obtain ⟨xs, hxs⟩ : ∃ xs, xs = (rowQ 65536 s2).1 := ⟨_, rfl⟩
  obtain ⟨s3, hs3⟩ : ∃ s3, s3 = (rowQ 65536 s2).2 := ⟨_, rfl⟩
  rw [← hs3] at hl3
  rw [← hxs, ← hs3] at hA
  simp only [← hxs, ← hs3]
  have hI := fun w4 (h4 : RdAt E s3 w4) => int_r E s3 w4 h4 hl3
  have hl4 := Nat.le_trans (numS_len 18446744073709551615 s3) hl3
  obtain ⟨k4, hk4⟩ : ∃ k4, k4 = (numS 18446744073709551615 s3).1 := ⟨_, rfl⟩
  obtain ⟨s4, hs4⟩ : ∃ s4, s4 = (numS 18446744073709551615 s3).2 := ⟨_, rfl⟩
  rw [← hs4] at hl4
  rw [← hk4, ← hs4] at hI
  simp only [← hk4, ← hs4]
  have hU5 : ∀ w2, RdAt E s4 w2 → Calls Try.prog 17 #[.pointer (some ⟨E, 0, none⟩), .int .u64 256] w2 fun e w' => e = .returned (.int .i64 ((numS 256 s4).1 : Int)) ∧ RdAt E (numS 256 s4).2 w' ∧ GBu E w2 w' := fun w2 h2 => up_r E 256 (by decide) s4 w2 h2 hl4
  have hl5 := Nat.le_trans (numS_len 256 s4) hl4
  obtain ⟨k5, hk5⟩ : ∃ k5, k5 = (numS 256 s4).1 := ⟨_, rfl⟩
  obtain ⟨s5, hs5⟩ : ∃ s5, s5 = (numS 256 s4).2 := ⟨_, rfl⟩
  rw [← hs5] at hl5
  rw [← hk5, ← hs5] at hU5
  simp only [← hk5, ← hs5]
  have hEw : E < w.heap.size := gr_in h
  have HE := Lib.hid hEw
  have HW := Lib.hid hW
  have HbW := Lib.hid hbW
  have HzW := Lib.hid hzW
  have H0 := Lib.hid h0W
  have HR0 := Lib.hid hR0
  obtain ⟨n4, hn4⟩ : ∃ n4, n4 = unsQ k4 := ⟨_, rfl⟩
  rw [← hn4] at hI
  simp only [← hn4]
  clear h hl hk1 hs1 hk2 hs2 hxs hs3 hk4 hs4 hk5 hs5 hl1 hl2 hl3 hl4 hl5 hW hbW hzW h0W hEw hR0 hn4
  go_enter Try.func42, Try.ntmps42
  go_upto_region 1 with fail
  rw [← HW.out]
  go_wp2_with (first
    | (go_at_call 17; first
        | (refine (hU1 _ HR0.out).mono ?_; rintro e w1 ⟨rfl, h1, g1⟩; have H1 := Lib.hid h1; have G1 := Lib.hid g1; clear h1 g1 hU1)
        | (refine (hU2 _ H1.out).mono ?_; rintro e w2 ⟨rfl, h2, g2⟩; have H2 := Lib.hid h2; have G2 := Lib.hid (G1.out.trans g2); clear h2 g2 hU2)
        | (refine (hU5 _ H4.out).mono ?_; rintro e w5 ⟨rfl, h5, g5⟩; have O5 := Lib.hid (own_gbu O4.out H4.out (by decide) g5); have H5 := Lib.hid h5; have G5 := Lib.hid (G4.out.trans g5); have h03 := (G5.out.block w.heap.size (gr_in H0.out) (Nat.ne_of_gt HE.out)).trans H0.out; have t0 := Lib.cell_of_heap h03 0; have t1 := Lib.cell_of_heap h03 1; have t2 := Lib.cell_of_heap h03 2; have t3 := Lib.cell_of_heap h03 3; have t4 := Lib.cell_of_heap h03 4; have tf0 := Lib.frozen_of_heap h03 0; have tf1 := Lib.frozen_of_heap h03 1; have tf2 := Lib.frozen_of_heap h03 2; have tf3 := Lib.frozen_of_heap h03 3; have tf4 := Lib.frozen_of_heap h03 4; have HH := Lib.hid h03; clear h5 g5 hU5 h03))
    | (go_at_call 40; refine (hA _ H2.out).mono ?_; rintro e w3 ⟨v, rfl, o3, h3, g3⟩; have H3 := Lib.hid h3; have G3 := Lib.hid (G2.out.trans g3); obtain ⟨A3, c3, rfl⟩ := gr_slice o3; have O3 := Lib.hid o3; clear h3 g3 o3 hA)
    | (go_at_call 65; refine (hI _ H3.out).mono ?_; rintro e w4 ⟨rfl, h4, g4⟩; have O4 := Lib.hid (own_gbu O3.out H3.out (by decide) g4); have H4 := Lib.hid h4; have G4 := Lib.hid (G3.out.trans g4); clear h4 g4 hI))
  obtain ⟨Z, hZ⟩ : ∃ Z, Z = ((((w5.setCell ⟨w.heap.size, 0, none⟩ (.int .i64 (k1 : Int))).setCell ⟨w.heap.size, 1, none⟩ (.int .i64 (k2 : Int))).setCell ⟨w.heap.size, 2, none⟩ (.slice A3 xs.length c3)).setCell ⟨w.heap.size, 3, none⟩ (.int .i64 n4)).setCell ⟨w.heap.size, 4, none⟩ (.int .i64 (k5 : Int)) := ⟨_, rfl⟩
  have hqZ : Z.heap[w.heap.size]? = some (.cells #[.int .i64 (k1 : Int), .int .i64 (k2 : Int), .slice A3 xs.length c3, .int .i64 n4, .int .i64 (k5 : Int)] 46 (0, 0)) := by
    rw [hZ]
    exact gr_put (gr_put (gr_put (gr_put (gr_put HH.out 0 _) 1 _) 2 _) 3 _) 4 _
  have hbZ : Below w.heap.size w5 Z := by
    rw [hZ]
    exact (((((Below.refl _ _).setCell (p := ⟨w.heap.size, 0, none⟩) (Nat.le_refl _) _).setCell (p := ⟨w.heap.size, 1, none⟩) (Nat.le_refl _) _).setCell (p := ⟨w.heap.size, 2, none⟩) (Nat.le_refl _) _).setCell (p := ⟨w.heap.size, 3, none⟩) (Nat.le_refl _) _).setCell (p := ⟨w.heap.size, 4, none⟩) (Nat.le_refl _) _
  have hB : w.heap.size < w2.heap.size := by have := G2.out.size; have := HzW.out; omega
  have hoZ : Z.ownsRow w.heap.size 3 1 (.slice A3 xs.length c3) xs.length (intsV xs) := by
    rw [hZ]
    exact own_low (own_lay (own_lay (own_lay (own_lay (own_lay O5.out hB) hB) hB) hB) hB) (Nat.le_of_lt hB)
  rw [← hZ]
  refine bodyPost_ret (results_cell_row rfl _ _ w.heap.size _ _ _ _ rfl hqZ Try.underlying46 rfl (by kernel_rfl)) rfl ?_
  exact ⟨_, rfl, hoZ, (hbZ.block _ HE.out).trans H5.out, ((GBu.of_below HbW.out).trans G5.out).then_new hbZ⟩
end Go.Proofs.Ythhjhdmdfneegaa
