/-
  Programs as bytes: a function, read.
-/
import Derived.Test.YthjlpbglnnebkaaCdS
namespace Go.Proofs.Ythjlpbglnnebkaa
open Go.RowKit Go.Shelf
set_option linter.unusedVariables false
set_option linter.unusedSimpArgs false

theorem textS_left (n : Int) (s : Option (List UInt8)) : ((textS n s).2.getD []).length ≤ (s.getD []).length := by
  cases s with
  | none => simp [textS]
  | some l =>
    show ((if n < 0 ∨ (l.length : Int) < n then (([] : List UInt8), (none : Option (List UInt8))) else (l.take n.toNat, some (l.drop n.toNat))).2.getD []).length ≤ _
    by_cases h : n < 0 ∨ (l.length : Int) < n
    · rw [if_pos h]; exact Nat.zero_le _
    · rw [if_neg h]; simp
def funQ (s : Option (List UInt8)) : (List UInt8 × SF) × Option (List UInt8) :=
  let a := numS 1048576 s
  let b := textS a.1 a.2
  let c := rowQ 16 b.2
  let d := numS 4 c.2
  let e := itemsQ 131072 insQ d.2
  let f := itemsQ 65536 blockQ e.2
  ((b.1, ⟨c.1, d.1, e.1, f.1⟩), f.2)
theorem funQ_left (s : Option (List UInt8)) : ((funQ s).2.getD []).length ≤ (s.getD []).length :=
  Nat.le_trans (itemsQ_left blockQ_left _ _) (Nat.le_trans (itemsQ_left insQ_left _ _) (Nat.le_trans (numS_len _ _) (Nat.le_trans (rowQ_left _ _) (Nat.le_trans (textS_left _ _) (numS_len _ _)))))
set_option maxRecDepth 100000 in
set_option maxHeartbeats 4000000 in
theorem fun_r (E : Nat) (s : Option (List UInt8)) (w : World) (h : RdAt E s w) (hl : (s.getD []).length ≤ 1099511627776) : Calls Try.prog 37 #[.pointer (some ⟨E, 0, none⟩)] w fun e w' => ∃ v1 v2 v3, e = .returned (.agg #[.string ⟨(funQ s).1.1.toArray⟩, v1, .int .i64 (funQ s).1.2.ret, v2, v3]) ∧ w'.ownsRow w.heap.size 3 1 v1 (funQ s).1.2.params.length (intsV (funQ s).1.2.params) ∧ InsO w.heap.size w' v2 (funQ s).1.2.ins ∧ BlkO w.heap.size w' v3 (funQ s).1.2.blocks ∧ RdAt E (funQ s).2 w' ∧ GBu E w w' := by
  obtain ⟨W, hW, hbW, hzW, h0W⟩ := gr_one w #[.string ⟨#[]⟩, .slice none 0 0, .int .i64 0, .slice none 0 0, .slice none 0 0] 63
  have hR0 := h.keep hbW
  unfold funQ
  have hU1 : ∀ w2, RdAt E s w2 → Calls Try.prog 35 #[.pointer (some ⟨E, 0, none⟩), .int .u64 1048576] w2 fun e w' => e = .returned (.int .i64 ((numS 1048576 s).1 : Int)) ∧ RdAt E (numS 1048576 s).2 w' ∧ GBu E w2 w' := fun w2 h2 => up_r E 1048576 (by decide) s w2 h2 hl
  have hl1 := Nat.le_trans (numS_len 1048576 s) hl
  obtain ⟨k1, hk1⟩ : ∃ k1, k1 = (numS 1048576 s).1 := ⟨_, rfl⟩
  obtain ⟨s1, hs1⟩ : ∃ s1, s1 = (numS 1048576 s).2 := ⟨_, rfl⟩
  rw [← hs1] at hl1
  rw [← hk1, ← hs1] at hU1
  simp only [← hk1, ← hs1]
  have hT := fun w2 (h2 : RdAt E s1 w2) => text_r E (k1 : Int) s1 w2 h2 hl1
  have hl2 := Nat.le_trans (textS_left (k1 : Int) s1) hl1
  obtain ⟨nm, hnm⟩ : ∃ nm, nm = (textS (k1 : Int) s1).1 := ⟨_, rfl⟩
  obtain ⟨s2, hs2⟩ : ∃ s2, s2 = (textS (k1 : Int) s1).2 := ⟨_, rfl⟩
  rw [← hs2] at hl2
  rw [← hnm, ← hs2] at hT
  simp only [← hnm, ← hs2]
  have hA : ∀ w2, RdAt E s2 w2 → Calls Try.prog 54 #[.pointer (some ⟨E, 0, none⟩), .int .u64 16] w2 fun e w' => ∃ v, e = .returned v ∧ w'.ownsRow w2.heap.size 3 1 v (rowQ 16 s2).1.length (intsV (rowQ 16 s2).1) ∧ RdAt E (rowQ 16 s2).2 w' ∧ GBu E w2 w' := fun w2 h2 => row_r E 16 (by decide) s2 w2 h2 hl2
  have hl3 := Nat.le_trans (rowQ_left 16 s2) hl2
  obtain ⟨xs, hxs⟩ : ∃ xs, xs = (rowQ 16 s2).1 := ⟨_, rfl⟩
  obtain ⟨s3, hs3⟩ : ∃ s3, s3 = (rowQ 16 s2).2 := ⟨_, rfl⟩
  rw [← hs3] at hl3
  rw [← hxs, ← hs3] at hA
  simp only [← hxs, ← hs3]
  have hU4 : ∀ w2, RdAt E s3 w2 → Calls Try.prog 35 #[.pointer (some ⟨E, 0, none⟩), .int .u64 4] w2 fun e w' => e = .returned (.int .i64 ((numS 4 s3).1 : Int)) ∧ RdAt E (numS 4 s3).2 w' ∧ GBu E w2 w' := fun w2 h2 => up_r E 4 (by decide) s3 w2 h2 hl3
  have hl4 := Nat.le_trans (numS_len 4 s3) hl3
  obtain ⟨k4, hk4⟩ : ∃ k4, k4 = (numS 4 s3).1 := ⟨_, rfl⟩
  obtain ⟨s4, hs4⟩ : ∃ s4, s4 = (numS 4 s3).2 := ⟨_, rfl⟩
  rw [← hs4] at hl4
  rw [← hk4, ← hs4] at hU4
  simp only [← hk4, ← hs4]
  have hI : ∀ w2, RdAt E s4 w2 → Calls Try.prog 55 #[.pointer (some ⟨E, 0, none⟩), .int .u64 131072, .func (.func 56) #[] #[]] w2 fun e w' => ∃ v, e = .returned v ∧ InsO w2.heap.size w' v (itemsQ 131072 insQ s4).1 ∧ RdAt E (itemsQ 131072 insQ s4).2 w' ∧ GBu E w2 w' := fun w2 h2 => items_ins E 131072 (by decide) s4 w2 h2 hl4
  have hl5 := Nat.le_trans (itemsQ_left insQ_left 131072 s4) hl4
  obtain ⟨qi, hqi⟩ : ∃ qi, qi = (itemsQ 131072 insQ s4).1 := ⟨_, rfl⟩
  obtain ⟨s5, hs5⟩ : ∃ s5, s5 = (itemsQ 131072 insQ s4).2 := ⟨_, rfl⟩
  rw [← hs5] at hl5
  rw [← hqi, ← hs5] at hI
  simp only [← hqi, ← hs5]
  have hB : ∀ w2, RdAt E s5 w2 → Calls Try.prog 57 #[.pointer (some ⟨E, 0, none⟩), .int .u64 65536, .func (.func 58) #[] #[]] w2 fun e w' => ∃ v, e = .returned v ∧ BlkO w2.heap.size w' v (itemsQ 65536 blockQ s5).1 ∧ RdAt E (itemsQ 65536 blockQ s5).2 w' ∧ GBu E w2 w' := fun w2 h2 => items_blk E 65536 (by decide) s5 w2 h2 hl5
  have hl6 := Nat.le_trans (itemsQ_left blockQ_left 65536 s5) hl5
  obtain ⟨qb, hqb⟩ : ∃ qb, qb = (itemsQ 65536 blockQ s5).1 := ⟨_, rfl⟩
  obtain ⟨s6, hs6⟩ : ∃ s6, s6 = (itemsQ 65536 blockQ s5).2 := ⟨_, rfl⟩
  rw [← hs6] at hl6
  rw [← hqb, ← hs6] at hB
  simp only [← hqb, ← hs6]
  have hEw : E < w.heap.size := gr_in h
  have HE := Lib.hid hEw
  have HW := Lib.hid hW
  have HbW := Lib.hid hbW
  have HzW := Lib.hid hzW
  have H0 := Lib.hid h0W
  have HR0 := Lib.hid hR0
  clear h hl hk1 hs1 hnm hs2 hxs hs3 hk4 hs4 hqi hs5 hqb hs6 hl1 hl2 hl3 hl4 hl5 hl6 hW hbW hzW h0W hEw hR0
  go_enter Try.func37, Try.ntmps37
  go_upto_region 1 with fail
  rw [← HW.out]
  go_wp2_with (first
    | (go_at_call 35; first
        | (refine (hU1 _ HR0.out).mono ?_; rintro e w1 ⟨rfl, h1, g1⟩; have H1 := Lib.hid h1; have G1 := Lib.hid g1; clear h1 g1 hU1)
        | (refine (hU4 _ H3.out).mono ?_; rintro e w4 ⟨rfl, h4, g4⟩; have H4 := Lib.hid h4; have G4 := Lib.hid (G3.out.trans g4); have P3 := Lib.hid (own_kp O3.out (Kp.of_reader H3.out g4) (by decide)); clear h4 g4 hU4))
    | (go_at_call 26; refine (hT _ H1.out).mono ?_; rintro e w2 ⟨rfl, h2, g2⟩; have H2 := Lib.hid h2; have G2 := Lib.hid (G1.out.trans g2); clear h2 g2 hT)
    | (go_at_call 54; refine (hA _ H2.out).mono ?_; rintro e w3 ⟨v, rfl, o3, h3, g3⟩; have H3 := Lib.hid h3; have G3 := Lib.hid (G2.out.trans g3); obtain ⟨A3, c3, rfl⟩ := gr_slice o3; have O3 := Lib.hid o3; clear h3 g3 o3 hA)
    | (go_at_call 55; refine (hI _ H4.out).mono ?_; rintro e w5 ⟨v, rfl, o5, h5, g5⟩; have H5 := Lib.hid h5; have G5 := Lib.hid (G4.out.trans g5); obtain ⟨A5, c5, rfl⟩ := o5.slice; have O5 := Lib.hid o5; have Q3 := Lib.hid (own_kp P3.out (Kp.of_reader H4.out g5) (by decide)); clear h5 g5 o5 hI)
    | (go_at_call 57; refine (hB _ H5.out).mono ?_; rintro e w6 ⟨v, rfl, o6, h6, g6⟩; have H6 := Lib.hid h6; have G6 := Lib.hid (G5.out.trans g6); obtain ⟨A6, c6, rfl⟩ := o6.slice; have O6 := Lib.hid o6; have R3 := Lib.hid (own_kp Q3.out (Kp.of_reader H5.out g6) (by decide)); have Q5 := Lib.hid (O5.out.kp (Kp.of_reader H5.out g6) (by decide) (by decide)); have h03 := (G6.out.block w.heap.size (gr_in H0.out) (Nat.ne_of_gt HE.out)).trans H0.out; have t0 := Lib.cell_of_heap h03 0; have t1 := Lib.cell_of_heap h03 1; have t2 := Lib.cell_of_heap h03 2; have t3 := Lib.cell_of_heap h03 3; have t4 := Lib.cell_of_heap h03 4; have tf0 := Lib.frozen_of_heap h03 0; have tf1 := Lib.frozen_of_heap h03 1; have tf2 := Lib.frozen_of_heap h03 2; have tf3 := Lib.frozen_of_heap h03 3; have tf4 := Lib.frozen_of_heap h03 4; have HH := Lib.hid h03; clear h6 g6 o6 hB h03))
  obtain ⟨Z, hZ⟩ : ∃ Z, Z = ((((w6.setCell ⟨w.heap.size, 0, none⟩ (.string ⟨nm.toArray⟩)).setCell ⟨w.heap.size, 1, none⟩ (.slice A3 xs.length c3)).setCell ⟨w.heap.size, 2, none⟩ (.int .i64 (k4 : Int))).setCell ⟨w.heap.size, 3, none⟩ (.slice A5 qi.length c5)).setCell ⟨w.heap.size, 4, none⟩ (.slice A6 qb.length c6) := ⟨_, rfl⟩
  have hqZ : Z.heap[w.heap.size]? = some (.cells #[.string ⟨nm.toArray⟩, .slice A3 xs.length c3, .int .i64 (k4 : Int), .slice A5 qi.length c5, .slice A6 qb.length c6] 63 (0, 0)) := by
    rw [hZ]
    exact gr_put (gr_put (gr_put (gr_put (gr_put HH.out 0 _) 1 _) 2 _) 3 _) 4 _
  have hbZ : Below w.heap.size w6 Z := by
    rw [hZ]
    exact (((((Below.refl _ _).setCell (p := ⟨w.heap.size, 0, none⟩) (Nat.le_refl _) _).setCell (p := ⟨w.heap.size, 1, none⟩) (Nat.le_refl _) _).setCell (p := ⟨w.heap.size, 2, none⟩) (Nat.le_refl _) _).setCell (p := ⟨w.heap.size, 3, none⟩) (Nat.le_refl _) _).setCell (p := ⟨w.heap.size, 4, none⟩) (Nat.le_refl _) _
  have hlt2 : w.heap.size < w2.heap.size := by have := G2.out.size; have := HzW.out; omega
  have hlt4 : w.heap.size < w4.heap.size := by have := G4.out.size; have := HzW.out; omega
  have hlt5 : w.heap.size < w5.heap.size := by have := G5.out.size; have := HzW.out; omega
  have hkZ : ∀ B, w.heap.size < B → Kp B 50 w6 Z := by
    intro B hB
    rw [hZ]
    exact ((((Kp.of_lay _ hB).trans (Kp.of_lay _ hB)).trans (Kp.of_lay _ hB)).trans (Kp.of_lay _ hB)).trans (Kp.of_lay _ hB)
  rw [← hZ]
  refine bodyPost_ret (results_cell_row rfl _ _ w.heap.size _ _ _ _ rfl hqZ Try.underlying63 rfl (by kernel_rfl)) rfl ?_
  exact ⟨_, _, _, rfl, own_low (own_kp R3.out (hkZ _ hlt2) (by decide)) (Nat.le_of_lt hlt2), (Q5.out.kp (hkZ _ hlt4) (by decide) (by decide)).low (Nat.le_of_lt hlt4), (O6.out.kp (hkZ _ hlt5) (by decide) (by decide)).low (Nat.le_of_lt hlt5), (hbZ.block _ HE.out).trans H6.out, ((GBu.of_below HbW.out).trans G6.out).then_new hbZ⟩
end Go.Proofs.Ythjlpbglnnebkaa
