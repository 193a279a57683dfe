/-
  Programs as bytes: a block's end, read.
-/
import Derived.Test.YthjlpbglnnebkaaCdN
namespace Go.Proofs.Ythjlpbglnnebkaa
open Go.RowKit Go.Shelf
set_option linter.unusedVariables false
set_option linter.unusedSimpArgs false

/-- What is owned stays, where a cell below it is laid. -/
theorem own_lay {w : World} {B c j : Nat} {T : TypeId} {z n : Nat} {v x : Value} {xs : List Value} (ho : w.ownsRow B T z v n xs) (hc : c < B) : (w.setCell ⟨c, j, none⟩ x).ownsRow B T z v n xs := by
  refine ho.kept (row := some c) ⟨rfl, rfl, rfl, by simp [World.setCell], fun k hk hne => Below.heap_setCell _ _ _ _ (fun e => hne (congrArg some e))⟩ ?_
  rcases ho.2 with ⟨rfl, -⟩ | ⟨g, cap, cur, rfl, hb, -⟩
  · exact .inl rfl
  · refine .inr (fun e => ?_)
    have e' : g = c := by simpa [Value.ownBlock] using e
    omega
theorem own_low {w : World} {B B' : Nat} {T : TypeId} {z n : Nat} {v : Value} {xs : List Value} (ho : w.ownsRow B T z v n xs) (hB : B' ≤ B) : w.ownsRow B' T z v n xs := by
  refine ⟨ho.1, ?_⟩
  rcases ho.2 with h | ⟨g, cap, cur, hv, hb, h⟩
  · exact .inl h
  · exact .inr ⟨g, cap, cur, hv, Nat.le_trans hB hb, h⟩
/-- The reader went on, and then what is new was laid. -/
theorem GBu.then_new {E : Nat} {w w1 w2 : World} (h : GBu E w w1) (hb : Below w.heap.size w1 w2) : GBu E w w2 :=
  ⟨hb.os.trans h.os, hb.tape.trans h.tape, hb.output.trans h.output, Nat.le_trans h.size hb.size, fun k hk hg => (hb.block k hk).trans (h.block k hk hg)⟩
def endQ (s : Option (List UInt8)) : (Nat × Int × List Int) × Option (List UInt8) := (((numS 3 s).1, (oneQ (numS 3 s).2).1, (rowQ 2 (oneQ (numS 3 s).2).2).1), (rowQ 2 (oneQ (numS 3 s).2).2).2)
set_option maxRecDepth 100000 in
theorem end_r (E : Nat) (s : Option (List UInt8)) (w : World) (h : RdAt E s w) (hl : (s.getD []).length ≤ 1099511627776) : Calls Try.prog 76 #[.pointer (some ⟨E, 0, none⟩)] w fun e w' => ∃ v, e = .returned (.agg #[.int .i64 ((endQ s).1.1 : Int), .int .i64 (endQ s).1.2.1, v]) ∧ w'.ownsRow w.heap.size 3 1 v (endQ s).1.2.2.length (intsV (endQ s).1.2.2) ∧ RdAt E (endQ s).2 w' ∧ GBu E w w' := by
  obtain ⟨W, hW, hbW, hzW, h0W⟩ := gr_one w #[.int .i64 0, .int .i64 0, .slice none 0 0] 69
  have hU : Calls Try.prog 35 #[.pointer (some ⟨E, 0, none⟩), .int .u64 3] W fun e w' => e = .returned (.int .i64 ((numS 3 s).1 : Int)) ∧ RdAt E (numS 3 s).2 w' ∧ GBu E W w' := up_r E 3 (by decide) s W (h.keep hbW) hl
  have hl1 := Nat.le_trans (numS_len 3 s) hl
  unfold endQ
  obtain ⟨k, hk⟩ : ∃ k, k = (numS 3 s).1 := ⟨_, rfl⟩
  obtain ⟨s1, hs1⟩ : ∃ s1, s1 = (numS 3 s).2 := ⟨_, rfl⟩
  rw [← hs1] at hl1
  rw [← hk, ← hs1] at hU
  simp only [← hk, ← hs1]
  have hO := fun w1 (h1 : RdAt E s1 w1) => one_r E s1 w1 h1 hl1
  have hl2 := Nat.le_trans (oneQ_len s1) hl1
  obtain ⟨a, ha⟩ : ∃ a, a = (oneQ s1).1 := ⟨_, rfl⟩
  obtain ⟨s2, hs2⟩ : ∃ s2, s2 = (oneQ s1).2 := ⟨_, rfl⟩
  rw [← hs2] at hl2
  rw [← ha, ← hs2] at hO
  simp only [← ha, ← hs2]
  have hR : ∀ w2, RdAt E s2 w2 → Calls Try.prog 54 #[.pointer (some ⟨E, 0, none⟩), .int .u64 2] w2 fun e w' => ∃ v, e = .returned v ∧ w'.ownsRow w2.heap.size 3 1 v (rowQ 2 s2).1.length (intsV (rowQ 2 s2).1) ∧ RdAt E (rowQ 2 s2).2 w' ∧ GBu E w2 w' := fun w2 h2 => row_r E 2 (by decide) s2 w2 h2 hl2
  obtain ⟨xs, hxs⟩ : ∃ xs, xs = (rowQ 2 s2).1 := ⟨_, rfl⟩
  obtain ⟨s3, hs3⟩ : ∃ s3, s3 = (rowQ 2 s2).2 := ⟨_, rfl⟩
  rw [← hxs, ← hs3] at hR
  simp only [← hxs, ← hs3]
  have hEw : E < w.heap.size := gr_in h
  have HE := Lib.hid hEw
  have HW := Lib.hid hW
  have HbW := Lib.hid hbW
  have HzW := Lib.hid hzW
  have H0 := Lib.hid h0W
  clear h hl hk hs1 ha hs2 hxs hs3 hl1 hl2 hW hbW hzW h0W hEw
  go_enter Try.func76, Try.ntmps76
  go_upto_region 1 with fail
  rw [← HW.out]
  go_wp2_with (first
    | (go_at_call 35; refine hU.mono ?_; rintro e w1 ⟨rfl, h1, g1⟩; have H1 := Lib.hid h1; have G1 := Lib.hid g1; clear h1 g1 hU)
    | (go_at_call 75; refine (hO _ H1.out).mono ?_; rintro e w2 ⟨rfl, h2, g2⟩; have H2 := Lib.hid h2; have G2 := Lib.hid (G1.out.trans g2); clear h2 g2 hO)
    | (go_at_call 54; refine (hR _ H2.out).mono ?_; rintro e w3 ⟨v, rfl, o3, h3, g3⟩; have O3 := Lib.hid o3; have H3 := Lib.hid h3; have G3 := Lib.hid (G2.out.trans g3); have h03 := (G3.out.block w.heap.size (gr_in H0.out) (Nat.ne_of_gt HE.out)).trans H0.out; have t0 := Lib.cell_of_heap h03 0; have t1 := Lib.cell_of_heap h03 1; have t2 := Lib.cell_of_heap h03 2; have tf0 := Lib.frozen_of_heap h03 0; have tf1 := Lib.frozen_of_heap h03 1; have tf2 := Lib.frozen_of_heap h03 2; obtain ⟨A0, c0, rfl⟩ := gr_slice O3.out; have HH := Lib.hid h03; clear o3 h3 g3 hR h03))
  obtain ⟨Z, hZ⟩ : ∃ Z, Z = ((w3.setCell ⟨w.heap.size, 0, none⟩ (.int .i64 (k : Int))).setCell ⟨w.heap.size, 1, none⟩ (.int .i64 a)).setCell ⟨w.heap.size, 2, none⟩ (.slice A0 xs.length c0) := ⟨_, rfl⟩
  have hqZ : Z.heap[w.heap.size]? = some (.cells #[.int .i64 (k : Int), .int .i64 a, .slice A0 xs.length c0] 69 (0, 0)) := by
    rw [hZ]
    exact gr_put (gr_put (gr_put HH.out 0 _) 1 _) 2 _
  have hbZ : Below w.heap.size w3 Z := by
    rw [hZ]
    exact (((Below.refl _ _).setCell (p := ⟨w.heap.size, 0, none⟩) (Nat.le_refl _) _).setCell (p := ⟨w.heap.size, 1, none⟩) (Nat.le_refl _) _).setCell (p := ⟨w.heap.size, 2, none⟩) (Nat.le_refl _) _
  have hlt : w.heap.size < w2.heap.size := by have := G2.out.size; have := HzW.out; omega
  have hoZ : Z.ownsRow w.heap.size 3 1 (.slice A0 xs.length c0) xs.length (intsV xs) := by
    rw [hZ]
    exact own_low (own_lay (own_lay (own_lay O3.out hlt) hlt) hlt) (Nat.le_of_lt hlt)
  rw [← hZ]
  refine bodyPost_ret (results_cell_row rfl _ _ w.heap.size _ _ _ _ rfl hqZ Try.underlying69 rfl (by kernel_rfl)) rfl ?_
  exact ⟨_, rfl, hoZ, (hbZ.block _ HE.out).trans H3.out, ((GBu.of_below HbW.out).trans G3.out).then_new hbZ⟩
end Go.Proofs.Ythjlpbglnnebkaa
