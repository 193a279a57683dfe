/-
  Programs as bytes: Decode.
-/
import Derived.Test.YthhjhdmdfneegaaJc27
import Derived.Laws.ResultCell
namespace Go.Proofs.Ythhjhdmdfneegaa
set_option linter.unusedVariables false
set_option linter.unusedSimpArgs false
open Go.RowKit Go.Shelf

theorem results_cell_row2 {fn : Func} {p u : Tmp} {ty : TypeId} (h : fn.results = #[.cell p ty, .tmp u]) (tmps : Array Value) (w : World) (g : Nat) (cs : Array Value)
    (hp : tmps.getD p undef = .pointer (some ⟨g, 0, none⟩)) (hr : (loadVar ty ⟨g, 0, none⟩).run Try.prog w = .ok (.agg cs) w) :
    (results fn tmps).run Try.prog w = .ok (.tuple #[.agg cs, tmps.getD u undef]) w := by
  have hp' : tmps[p]?.getD undef = .pointer (some ⟨g, 0, none⟩) := by simpa using hp
  rw [results_cell_tmp h]
  simp [hp', asAddr, hr, Result.andThen]
theorem FnsO.low {base base' : Nat} {w : World} {v : Value} {l : List (List UInt8 × SF)} (h : FnsO base w v l) (hb : base' ≤ base) : FnsO base' w v l := by
  obtain ⟨a, ha, ho, hi⟩ := h
  exact ⟨a, ha, own_low ho hb, fun p hp => ⟨own_low (hi p hp).1 hb, (hi p hp).2.1.low hb, (hi p hp).2.2.low hb⟩⟩
def DecP (base : Nat) (o : Option (Int × List (List UInt8 × SF))) (e : Ending) (w' : World) : Prop :=
  match o with
  | none => e = .returned (.tuple #[.agg #[.slice none 0 0, .int .i64 0], .bool false])
  | some p => ∃ v, e = .returned (.tuple #[.agg #[v, .int .i64 p.1], .bool true]) ∧ FnsO base w' v p.2
set_option maxRecDepth 100000 in
set_option maxHeartbeats 8000000 in
theorem decode_c (l : List UInt8) (hl : l.length ≤ 1099511627776) (w : World) : Calls Try.prog 8 #[.string ⟨l.toArray⟩] w fun e w' => DecP w.heap.size (decodeQ l) e w' ∧ Below w.heap.size w w' := by
  have hsz : (⟨l.toArray⟩ : ByteArray).size = l.length := by simp [ByteArray.size]
  obtain ⟨W, hW, hbW, hzW, h0W⟩ := gr_one w #[.slice none 0 0, .int .i64 0] 25
  have x0 := Lib.cell_of_heap h0W 0
  have x1 := Lib.cell_of_heap h0W 1
  have f0 := Lib.frozen_of_heap h0W 0
  have f1 := Lib.frozen_of_heap h0W 1
  by_cases hlong : 1048576 < l.length
  · have hq : decodeQ l = none := by unfold decodeQ; rw [if_pos hlong]
    rw [hq]
    have d1 : decide ((l.length : Int) > 1048576) = true := decide_eq_true (by omega)
    obtain ⟨Z, hZ⟩ : ∃ Z, Z = (W.setCell ⟨w.heap.size, 0, none⟩ (.slice none 0 0)).setCell ⟨w.heap.size, 1, none⟩ (.int .i64 0) := ⟨_, rfl⟩
    have hqZ : Z.heap[w.heap.size]? = some (.cells #[.slice none 0 0, .int .i64 0] 25 (0, 0)) := by
      rw [hZ]
      exact gr_put (gr_put h0W 0 _) 1 _
    have hbZ : Below w.heap.size w Z := by
      rw [hZ]
      exact (hbW.setCell (p := ⟨w.heap.size, 0, none⟩) (Nat.le_refl _) _).setCell (p := ⟨w.heap.size, 1, none⟩) (Nat.le_refl _) _
    have HW := Lib.hid hW
    have HqZ := Lib.hid hqZ
    have HbZ := Lib.hid hbZ
    have HZ := Lib.hid hZ
    clear hW hbW hzW h0W hq hlong hqZ hbZ hZ
    go_enter Try.func8, Try.ntmps8
    go_upto_region 1 with fail
    rw [← HW.out]
    go_wp2_with fail
    rw [← HZ.out]
    try simp only [Exit.inBlock, Exit.then]
    refine bodyPost_ret (results_cell_row2 rfl _ _ w.heap.size _ rfl (run_loadVar_row _ w.heap.size _ _ _ _ _ HqZ.out Try.underlying25 rfl (by kernel_rfl))) rfl ?_
    exact ⟨rfl, HbZ.out⟩
  · have d1 : decide ((l.length : Int) > 1048576) = false := decide_eq_false (by omega)
    have hq : decodeQ l = if (itemsQ 256 funQ (numS 256 (some l)).2).2 = some [] then some (((numS 256 (some l)).1 : Int), (itemsQ 256 funQ (numS 256 (some l)).2).1) else none := by unfold decodeQ; rw [if_neg hlong]
    have hN := new_c l W hl
    have hl1 := Nat.le_trans (numS_len 256 (some l)) hl
    have hU : ∀ (E : Nat) (w2 : World), RdAt E (some l) w2 → Calls Try.prog 17 #[.pointer (some ⟨E, 0, none⟩), .int .u64 256] w2 fun e w' => e = .returned (.int .i64 ((numS 256 (some l)).1 : Int)) ∧ RdAt E (numS 256 (some l)).2 w' ∧ GBu E w2 w' := fun E w2 h2 => up_r E 256 (by decide) (some l) w2 h2 hl
    obtain ⟨k, hk⟩ : ∃ k, k = (numS 256 (some l)).1 := ⟨_, rfl⟩
    obtain ⟨s1, hs1⟩ : ∃ s1, s1 = (numS 256 (some l)).2 := ⟨_, rfl⟩
    rw [← hs1] at hl1
    rw [← hk, ← hs1] at hU hq
    have hI : ∀ (E : Nat) (w2 : World), RdAt E s1 w2 → Calls Try.prog 18 #[.pointer (some ⟨E, 0, none⟩), .int .u64 256, .func (.func 19) #[] #[]] w2 fun e w' => ∃ v, e = .returned v ∧ FnsO w2.heap.size w' v (itemsQ 256 funQ s1).1 ∧ RdAt E (itemsQ 256 funQ s1).2 w' ∧ GBu E w2 w' := fun E w2 h2 => items_fns E 256 (by decide) s1 w2 h2 hl1
    have hl2 := Nat.le_trans (itemsQ_left funQ_left 256 s1) hl1
    obtain ⟨fs, hfs⟩ : ∃ fs, fs = (itemsQ 256 funQ s1).1 := ⟨_, rfl⟩
    obtain ⟨s2, hs2⟩ : ∃ s2, s2 = (itemsQ 256 funQ s1).2 := ⟨_, rfl⟩
    rw [← hs2] at hl2
    rw [← hfs, ← hs2] at hI hq
    obtain ⟨o, ho⟩ : ∃ o, o = decodeQ l := ⟨_, rfl⟩
    rw [← ho] at hq ⊢
    have HO := Lib.hid hq
    clear ho
    have HW := Lib.hid hW
    have HbW := Lib.hid hbW
    have HzW := Lib.hid hzW
    have H0 := Lib.hid h0W
    have Hl2 := Lib.hid hl2
    clear hW hbW hzW h0W hq hlong hk hs1 hfs hs2 hl1 hl2 x0 x1 f0 f1
    go_enter Try.func8, Try.ntmps8
    go_upto_region 1 with fail
    rw [← HW.out]
    go_upto_region 4 with (go_at_call 16; refine hN.mono ?_; rintro e w1 ⟨E, rfl, h1, hE, hb1⟩; have H1 := Lib.hid h1; have HE := Lib.hid hE; have B1 := Lib.hid hb1; clear h1 hE hb1 hN)
    go_upto_region 5 with (first
      | (go_at_call 17; refine (hU _ _ H1.out).mono ?_; rintro e w2 ⟨rfl, h2, g2⟩; have H2 := Lib.hid h2; have G2 := Lib.hid g2; clear h2 g2 hU)
      | (go_at_call 18; refine (hI _ _ H2.out).mono ?_; rintro e w3 ⟨v, rfl, o3, h3, g3⟩; have H3 := Lib.hid h3; have G3 := Lib.hid (G2.out.trans g3); obtain ⟨A3, c3, rfl⟩ := o3.slice; have O3 := Lib.hid o3; clear h3 g3 o3 hI))
    generalize hY : World.alloc _ _ = Y
    have h0Y : Y.heap[w3.heap.size]? = some (.cells #[.slice A3 fs.length c3, .int .i64 (k : Int)] 25 (0, 0)) := by rw [← hY]; exact heap_alloc_new w3 _
    have hbY : Below w3.heap.size w3 Y := by rw [← hY]; exact (Below.refl _ _).alloc (Nat.le_refl _) _
    have hzY : w3.heap.size < Y.heap.size := gr_in h0Y
    have hEY := H3.out.keep hbY
    have hsW := HzW.out
    have hsz1 : w.heap.size < w1.heap.size := by have := B1.out.size; have := HzW.out; omega
    have hsz2 : w.heap.size < w2.heap.size := by have := G2.out.size; omega
    have hsz3 : w.heap.size < w3.heap.size := by have := G3.out.size; omega
    have hwE : w.heap.size < E := by have := HE.out; have := HzW.out; omega
    have hBel : Below w.heap.size w Y := (G3.out.below (HbW.out.trans (B1.out.mono (by omega))) (by omega) (by omega)).trans (hbY.mono (by omega))
    have h0Y2 : Y.heap[w.heap.size]? = some (.cells #[.slice none 0 0, .int .i64 0] 25 (0, 0)) := (hbY.block _ hsz3).trans ((G3.out.block _ hsz1 (by omega)).trans ((B1.out.block _ (by have := HzW.out; omega)).trans H0.out))
    have y0 := Lib.cell_of_heap h0Y 0
    have y1 := Lib.cell_of_heap h0Y 1
    have x0 := Lib.cell_of_heap h0Y2 0
    have x1 := Lib.cell_of_heap h0Y2 1
    have f0 := Lib.frozen_of_heap h0Y2 0
    have f1 := Lib.frozen_of_heap h0Y2 1
    have hO := ok_r E s2 Y hEY
    have hLf := left_r E s2 Y hEY
    have HO2 := Lib.hid h0Y2
    have HBel := Lib.hid hBel
    have HB2 := Lib.hid hsz2
    have HF : Hid (FnsO w2.heap.size Y (.slice A3 fs.length c3) fs) := Lib.hid (O3.out.kp (Kp.of_below 78 hbY) (by decide) (by decide) (by decide) (by decide))
    have HB3 : Hid (w.heap.size ≠ w3.heap.size) := Lib.hid (by omega)
    have hxne : ∀ q j, (⟨w3.heap.size, q, none⟩ : Addr) ≠ ⟨w.heap.size, j, none⟩ := fun q j e => by injection e; omega
    clear hsW hY h0Y hbY hzY hEY hsz1 hsz2 hsz3 hwE hBel h0Y2
    obtain ⟨b5, hb5⟩ : ∃ b5, b5 = w3.heap.size := ⟨_, rfl⟩
    rw [← hb5] at y0 y1 hxne HB3 ⊢
    have Hb5 := Lib.hid hb5
    clear hb5
    have hno : ∀ (Q : Ending → World → Prop), True := fun _ => trivial
    clear hno
    rcases s2 with _ | _ | ⟨c, r⟩
    · have HO1 : Hid (o = none) := Lib.hid (by rw [HO.out, if_neg (by simp)])
      clear HO
      obtain ⟨Z, hZ⟩ : ∃ Z, Z = (Y.setCell ⟨w.heap.size, 0, none⟩ (.slice none 0 0)).setCell ⟨w.heap.size, 1, none⟩ (.int .i64 0) := ⟨_, rfl⟩
      have hqZ : Z.heap[w.heap.size]? = some (.cells #[.slice none 0 0, .int .i64 0] 25 (0, 0)) := by
        rw [hZ]
        exact gr_put (gr_put HO2.out 0 _) 1 _
      have hbZ : Below w.heap.size w Z := by
        rw [hZ]
        exact (HBel.out.setCell (p := ⟨w.heap.size, 0, none⟩) (Nat.le_refl _) _).setCell (p := ⟨w.heap.size, 1, none⟩) (Nat.le_refl _) _
      have HqZ := Lib.hid hqZ
      have HbZ := Lib.hid hbZ
      have HZ := Lib.hid hZ
      clear hqZ hbZ hZ hLf y0 y1
      go_wp2_with (go_at_call 20; refine hO.mono ?_; rintro e w5 ⟨rfl, rfl⟩; clear hO)
      rw [← HZ.out]
      try simp only [Exit.inBlock, Exit.then]
      refine bodyPost_ret (results_cell_row2 rfl _ _ w.heap.size _ rfl (run_loadVar_row _ w.heap.size _ _ _ _ _ HqZ.out Try.underlying25 rfl (by kernel_rfl))) rfl ?_
      rw [HO1.out]
      exact ⟨rfl, HbZ.out⟩
    · have HO1 : Hid (o = some ((k : Int), fs)) := Lib.hid (by rw [HO.out, if_pos rfl])
      clear HO
      obtain ⟨Z, hZ⟩ : ∃ Z, Z = (Y.setCell ⟨w.heap.size, 0, none⟩ (.slice A3 fs.length c3)).setCell ⟨w.heap.size, 1, none⟩ (.int .i64 (k : Int)) := ⟨_, rfl⟩
      have hqZ : Z.heap[w.heap.size]? = some (.cells #[.slice A3 fs.length c3, .int .i64 (k : Int)] 25 (0, 0)) := by
        rw [hZ]
        exact gr_put (gr_put HO2.out 0 _) 1 _
      have hbZ : Below w.heap.size w Z := by
        rw [hZ]
        exact (HBel.out.setCell (p := ⟨w.heap.size, 0, none⟩) (Nat.le_refl _) _).setCell (p := ⟨w.heap.size, 1, none⟩) (Nat.le_refl _) _
      have hFZ : FnsO w.heap.size Z (.slice A3 fs.length c3) fs := by
        rw [hZ]
        exact (HF.out.kp ((Kp.of_lay 78 HB2.out).trans (Kp.of_lay _ HB2.out)) (by decide) (by decide) (by decide) (by decide)).low (Nat.le_of_lt HB2.out)
      have HqZ := Lib.hid hqZ
      have HbZ := Lib.hid hbZ
      have HZ := Lib.hid hZ
      have HFZ := Lib.hid hFZ
      clear hqZ hbZ hZ hFZ
      go_wp2_with (first
        | (go_at_call 20; refine hO.mono ?_; rintro e w5 ⟨rfl, rfl⟩; clear hO)
        | (go_at_call 21; refine hLf.mono ?_; rintro e w5 ⟨rfl, rfl⟩; clear hLf))
      rw [← HZ.out]
      try simp only [Exit.inBlock, Exit.then]
      refine bodyPost_ret (results_cell_row2 rfl _ _ w.heap.size _ rfl (run_loadVar_row _ w.heap.size _ _ _ _ _ HqZ.out Try.underlying25 rfl (by kernel_rfl))) rfl ?_
      rw [HO1.out]
      exact ⟨⟨_, rfl, HFZ.out⟩, HbZ.out⟩
    · have HO1 : Hid (o = none) := Lib.hid (by rw [HO.out, if_neg (by simp)])
      clear HO
      obtain ⟨Z, hZ⟩ : ∃ Z, Z = (Y.setCell ⟨w.heap.size, 0, none⟩ (.slice none 0 0)).setCell ⟨w.heap.size, 1, none⟩ (.int .i64 0) := ⟨_, rfl⟩
      have hqZ : Z.heap[w.heap.size]? = some (.cells #[.slice none 0 0, .int .i64 0] 25 (0, 0)) := by
        rw [hZ]
        exact gr_put (gr_put HO2.out 0 _) 1 _
      have hbZ : Below w.heap.size w Z := by
        rw [hZ]
        exact (HBel.out.setCell (p := ⟨w.heap.size, 0, none⟩) (Nat.le_refl _) _).setCell (p := ⟨w.heap.size, 1, none⟩) (Nat.le_refl _) _
      have HqZ := Lib.hid hqZ
      have HbZ := Lib.hid hbZ
      have HZ := Lib.hid hZ
      obtain ⟨m, hm⟩ : ∃ m, m = ((some (c :: r)).getD []).length := ⟨_, rfl⟩
      have hm0 : 0 < m := by rw [hm]; simp
      rw [← hm] at hLf
      clear hqZ hbZ hZ y0 y1 hm
      go_wp2_with (first
        | (go_at_call 20; refine hO.mono ?_; rintro e w5 ⟨rfl, rfl⟩; clear hO)
        | (go_at_call 21; refine hLf.mono ?_; rintro e w5 ⟨rfl, rfl⟩; clear hLf))
      rw [← HZ.out]
      try simp only [Exit.inBlock, Exit.then]
      refine bodyPost_ret (results_cell_row2 rfl _ _ w.heap.size _ rfl (run_loadVar_row _ w.heap.size _ _ _ _ _ HqZ.out Try.underlying25 rfl (by kernel_rfl))) rfl ?_
      rw [HO1.out]
      exact ⟨rfl, HbZ.out⟩
end Go.Proofs.Ythhjhdmdfneegaa
