/-
  Programs as bytes: the reference's numbers, read.
-/
import Derived.Test.YthjlpbglnnebkaaCeA
namespace Go.Proofs.Ythjlpbglnnebkaa
open Go.RowKit Go.Shelf
set_option linter.unusedVariables false
set_option linter.unusedSimpArgs false

/-- What is left to the reference's reader: nothing, behind something bad. -/
def rR (l : List UInt8) (b : Bool) : Option (List UInt8) := if b then none else some l
def RNP (l : List UInt8) (o : Nat × Option (List UInt8)) (w : World) (e : Ending) (w' : World) : Prop :=
  ∃ (l' : List UInt8) (b' : Bool), e = .returned (.tuple #[.agg #[.string ⟨l'.toArray⟩, .bool b'], .int .u64 (o.1 : Int)]) ∧ rR l' b' = o.2 ∧ l'.length ≤ l.length ∧ Below w.heap.size w w'
theorem numS_bad (most : Nat) {l : List UInt8} (h : cdRd 10 0 l = none) : numS most (some l) = (0, none) := by
  show (if (numQ l).2 = 0 ∨ most < (numQ l).1 then ((0 : Nat), (none : Option (List UInt8))) else ((numQ l).1, some (l.drop (numQ l).2))) = _
  rw [numQ_none h, if_pos (.inl rfl)]
theorem numS_big {most n i : Nat} {l : List UInt8} (hi : i < l.length) (h : cdRd 10 0 l = some (n, l.drop (i + 1))) (hm : most < n) : numS most (some l) = (0, none) := by
  show (if (numQ l).2 = 0 ∨ most < (numQ l).1 then ((0 : Nat), (none : Option (List UInt8))) else ((numQ l).1, some (l.drop (numQ l).2))) = _
  rw [numQ_some hi h, if_pos (.inr hm)]
theorem numS_good {most n i : Nat} {l : List UInt8} (hi : i < l.length) (h : cdRd 10 0 l = some (n, l.drop (i + 1))) (hm : n ≤ most) : numS most (some l) = (n, some (l.drop (i + 1))) := by
  show (if (numQ l).2 = 0 ∨ most < (numQ l).1 then ((0 : Nat), (none : Option (List UInt8))) else ((numQ l).1, some (l.drop (numQ l).2))) = _
  rw [numQ_some hi h, if_neg (by simp; omega)]
set_option maxRecDepth 100000 in
set_option maxHeartbeats 16000000 in
theorem rnum_r (l : List UInt8) (b : Bool) (most : Nat) (hm : most < 18446744073709551616) (hl : l.length ≤ 1099511627776) (w : World) : Calls Try.prog 41 #[.agg #[.string ⟨l.toArray⟩, .bool b], .int .u64 (most : Int)] w (RNP l (numS most (rR l b)) w) := by
  obtain ⟨W1, hW1, hbW1, hzW1, h0W1⟩ := gr_one w #[.string ⟨l.toArray⟩, .bool b] 85
  obtain ⟨W2, hW2, hbW2, hzW2, h0W2⟩ := gr_one W1 #[.string ⟨#[]⟩, .bool false] 85
  rw [hzW1] at h0W2
  have h1W2 := (hbW2.block w.heap.size (by omega)).trans h0W1
  have hbw : Below w.heap.size w W2 := hbW1.trans (hbW2.mono hbW1.size)
  have x0 := Lib.cell_of_heap h1W2 0
  have x1 := Lib.cell_of_heap h1W2 1
  have f0 := Lib.frozen_of_heap h0W2 0
  have f1 := Lib.frozen_of_heap h0W2 1
  have y0 := Lib.cell_of_heap h0W2 0
  have y1 := Lib.cell_of_heap h0W2 1
  have HZ : Hid (∀ (s : ByteArray) (c : Bool), ∃ Z, Z = (W2.setCell ⟨w.heap.size + 1, 0, none⟩ (.string s)).setCell ⟨w.heap.size + 1, 1, none⟩ (.bool c) ∧ Z.heap[w.heap.size + 1]? = some (.cells #[.string s, .bool c] 85 (0, 0)) ∧ Below w.heap.size w Z) := Lib.hid fun s c => ⟨_, rfl, gr_put (gr_put h0W2 0 _) 1 _, (hbw.setCell (p := ⟨w.heap.size + 1, 0, none⟩) (Nat.le_succ _) _).setCell (p := ⟨w.heap.size + 1, 1, none⟩) (Nat.le_succ _) _⟩
  have hsz : (⟨l.toArray⟩ : ByteArray).size = l.length := by simp [ByteArray.size]
  have HW1 := Lib.hid hW1
  have HW2 := Lib.hid hW2
  have Hbw := Lib.hid hbw
  clear hW1 hW2 hbW1 hbW2 hzW1 hzW2 h0W1 h0W2 h1W2 hbw
  cases b with
  | true =>
    obtain ⟨Z, hZe, hZq, hZb⟩ := HZ.out ⟨l.toArray⟩ true
    have HZe := Lib.hid hZe
    have HZq := Lib.hid hZq
    have HZb := Lib.hid hZb
    clear hZe hZq hZb
    go_enter Try.func41, Try.ntmps41
    go_upto_region 1 with fail
    rw [← HW1.out, ← HW2.out]
    go_wp2_with fail
    rw [← HZe.out]
    try simp only [Exit.inBlock, Exit.then]
    refine bodyPost_ret (results_cell_row2 rfl _ _ (w.heap.size + 1) _ rfl (run_loadVar_row _ (w.heap.size + 1) _ _ _ _ _ HZq.out Try.underlying85 rfl (by kernel_rfl))) rfl ?_
    exact ⟨l, true, rfl, rfl, Nat.le_refl _, HZb.out⟩
  | false =>
    obtain ⟨o, ho⟩ : ∃ o, o = numS most (rR l false) := ⟨_, rfl⟩
    rw [← ho]
    have Ho : Hid (o = numS most (some l)) := Lib.hid ho
    have Hsz := Lib.hid hsz
    clear ho
    go_enter Try.func41, Try.ntmps41
    go_upto_region 1 with fail
    rw [← HW1.out, ← HW2.out]
    go_wp2_with fail
    go_loopw [6, 7] (fun u6 u7 wr => ∃ (i n : Nat), i ≤ 10 ∧ i ≤ l.length ∧ u7 = .int .i64 (i : Int) ∧ u6 = .int .u64 (n : Int) ∧ wr = W2 ∧ Hid (n < 128 ^ i ∧ cdRd 10 0 l = (cdRd (10 - i) i (l.drop i)).map fun p => (n + 128 ^ i * p.1, p.2))) (fun _ u7 _ => 10 - (intOf u7).toNat)
    case atStart => exact ⟨0, 0, Nat.zero_le _, Nat.zero_le _, rfl, rfl, rfl, Lib.hid ⟨by simp, by simp⟩⟩
    case round =>
      obtain ⟨i, n, hi, hil0, rfl, rfl, rfl, HI⟩ := hrel
      by_cases hlt : i < l.length ∧ i < 10
      · obtain ⟨hil, hi10⟩ := hlt
        have dl1 : decide ((i : Int) < (l.length : Int)) = true := decide_eq_true (by omega)
        have dl2 : decide ((i : Int) < 10) = true := decide_eq_true (by omega)
        obtain ⟨c, hc⟩ : ∃ c, c = l[i] := ⟨_, rfl⟩
        have hgt : ∀ h : i < (⟨l.toArray⟩ : ByteArray).size, (⟨l.toArray⟩ : ByteArray)[i]'h = c := fun h => by rw [hc]; rfl
        obtain ⟨cn, hcn⟩ : ∃ cn, cn = c.toNat := ⟨_, rfl⟩
        have hc256 : cn < 256 := by rw [hcn]; exact c.toNat_lt
        have hcn' : c.toNat = cn := hcn.symm
        have hwc : IntKind.u64.wrap (cn : Int) = (cn : Int) := by rw [IntKind.wrap_u64]; omega
        obtain ⟨dg, hdg⟩ : ∃ dg, dg = cn % 128 := ⟨_, rfl⟩
        have htm : (cn : Int).tmod 128 = (dg : Int) := by rw [Int.tmod_eq_emod_of_nonneg (by omega), hdg]; omega
        have htm2 : (cn : Int) % 128 = (dg : Int) := by rw [hdg]; omega
        have hdr : l.drop i = c :: l.drop (i + 1) := by rw [List.drop_eq_getElem_cons hil, hc]
        have hst := HI.out.2
        rw [hdr, cdRd_step i hi10 c, hcn'] at hst
        have hnp := HI.out.1
        by_cases hbad : i = 9 ∧ 1 < cn
        · obtain ⟨h9, hd1⟩ := hbad
          have hnone : cdRd 10 0 l = none := by rw [hst, if_pos ⟨h9, hd1⟩]; rfl
          have HQ := Lib.hid (numS_bad most hnone)
          have e9 : ((i : Int) == 9) = true := by rw [h9]; rfl
          have e1 : decide ((cn : Int) > 1) = true := decide_eq_true (by omega)
          clear hdg hcn hdr hst hnp hnone HI h9 hd1 hc
          obtain ⟨Z, hZe, hZq, hZb⟩ := HZ.out ⟨l.toArray⟩ true
          have HZe := Lib.hid hZe
          have HZq := Lib.hid hZq
          have HZb := Lib.hid hZb
          clear hZe hZq hZb
          go_wp2_with fail
          rw [← HZe.out]
          try simp only [Exit.inBlock, Exit.then]
          refine bodyPost_ret (results_cell_row2 rfl _ _ (w.heap.size + 1) _ rfl (run_loadVar_row _ (w.heap.size + 1) _ _ _ _ _ HZq.out Try.underlying85 rfl (by kernel_rfl))) rfl ?_
          rw [Ho.out, HQ.out]
          exact ⟨l, true, rfl, rfl, Nat.le_refl _, HZb.out⟩
        · have hcond : ((i : Int) == 9) = false ∨ (((i : Int) == 9) = true ∧ decide ((cn : Int) > 1) = false) := by
            by_cases h9 : i = 9
            · refine .inr ⟨by rw [h9]; rfl, decide_eq_false (fun h => hbad ⟨h9, by omega⟩)⟩
            · exact .inl (by simp; omega)
          obtain ⟨sh, hshd⟩ : ∃ sh, sh = dg * 128 ^ i := ⟨_, rfl⟩
          have hpow : ((2 : Int) ^ (7 * i)) = ((128 ^ i : Nat) : Int) := pow7i i
          have hpp : 0 < 128 ^ i := Nat.pow_pos (by decide)
          have hb64 : sh + n < 18446744073709551616 := by
            rw [hshd]
            rcases Nat.lt_or_ge i 9 with h8 | h9
            · have h1 : 128 ^ i ≤ 128 ^ 8 := Nat.pow_le_pow_right (by decide) (by omega)
              have h2 : dg * 128 ^ i ≤ 127 * 128 ^ 8 := Nat.mul_le_mul (by omega) h1
              exact Nat.lt_of_lt_of_le (Nat.add_lt_add_of_le_of_lt h2 (Nat.lt_of_lt_of_le hnp h1)) (by decide)
            · have h9' : i = 9 := by omega
              have hd1 : dg ≤ 1 := by
                rcases Nat.lt_or_ge 1 cn with h | h
                · exact absurd ⟨h9', h⟩ hbad
                · omega
              rw [h9'] at hnp ⊢
              have h2 : dg * 128 ^ 9 ≤ 1 * 128 ^ 9 := Nat.mul_le_mul hd1 (Nat.le_refl _)
              exact Nat.lt_of_lt_of_le (Nat.add_lt_add_of_le_of_lt h2 hnp) (by decide)
          have hshi : (dg : Int) * 2 ^ (7 * i) = (sh : Int) := by rw [hpow, hshd, Int.natCast_mul]
          have hsw : IntKind.u64.wrap (sh : Int) = (sh : Int) := by rw [IntKind.wrap_u64]; omega
          have hns : n + sh < 128 ^ (i + 1) := by
            rw [hshd, Nat.pow_succ]
            have h1 : dg * 128 ^ i ≤ 127 * 128 ^ i := Nat.mul_le_mul (by omega) (Nat.le_refl _)
            omega
          obtain ⟨ns, hnsd⟩ : ∃ ns, ns = n + sh := ⟨_, rfl⟩
          have hnsi : (n : Int) + (sh : Int) = (ns : Int) := by omega
          have hnw : IntKind.u64.wrap (ns : Int) = (ns : Int) := by rw [IntKind.wrap_u64]; omega
          rw [← hnsd] at hns
          have hmul : 128 ^ i * dg = sh := by rw [hshd, Nat.mul_comm]
          have h7w : IntKind.i64.wrap (7 * (i : Int)) = 7 * (i : Int) := by rw [IntKind.wrap_i64]; omega
          have h7u : IntKind.u64.wrap (7 * (i : Int)) = 7 * (i : Int) := by rw [IntKind.wrap_u64]; omega
          by_cases hbig : 128 ≤ cn
          · have hnext : cdRd 10 0 l = (cdRd (10 - (i + 1)) (i + 1) (l.drop (i + 1))).map fun p => (ns + 128 ^ (i + 1) * p.1, p.2) := by
              rw [hst, if_neg hbad, if_neg (by omega), Option.map_map]
              congr 1
              funext p
              simp only [Function.comp]
              congr 1
              rw [Nat.mul_add, ← hdg, hmul, hnsd, Nat.pow_succ, Nat.mul_assoc, Nat.add_assoc]
            have HN : Hid (ns < 128 ^ (i + 1) ∧ cdRd 10 0 l = (cdRd (10 - (i + 1)) (i + 1) (l.drop (i + 1))).map fun p => (ns + 128 ^ (i + 1) * p.1, p.2)) := Lib.hid ⟨hns, hnext⟩
            have d128 : decide ((cn : Int) < 128) = false := decide_eq_false (by omega)
            clear hpow hpp hdg hcn hdr hbad hst hnp hshd hns hnsd hmul hnext HI hc hb64
            rcases hcond with e9 | ⟨e9, e1⟩
            all_goals
              go_wp2_with fail
              go_roundw
              case rel => refine ⟨i + 1, ns, by omega, by omega, by go_num, ?_, ?_, HN⟩ <;> first | rfl | trivial
              case measure => simp [intOf]; omega
          · have d128 : decide ((cn : Int) < 128) = true := decide_eq_true (by omega)
            have hcd : cn = dg := by omega
            by_cases hz : cn = 0 ∧ 0 < i
            · have hnone : cdRd 10 0 l = none := by
                rw [hst, if_neg hbad, if_pos (by omega), if_pos hz]; rfl
              have HQ := Lib.hid (numS_bad most hnone)
              obtain ⟨hz1, hz2⟩ := hz
              have dz : ((cn : Int) == 0) = true := by rw [hz1]; rfl
              have di : decide ((i : Int) + 1 > 1) = true := decide_eq_true (by omega)
              have di2 : decide (0 < (i : Int)) = true := decide_eq_true (by omega)
              have di3 : 0 < i := hz2
              clear hpow hpp hdg hcn hdr hbad hst hnp hshd hns hnsd hmul HI hnone hcd hz1 hc hb64
              obtain ⟨Z, hZe, hZq, hZb⟩ := HZ.out ⟨l.toArray⟩ true
              have HZe := Lib.hid hZe
              have HZq := Lib.hid hZq
              have HZb := Lib.hid hZb
              clear hZe hZq hZb
              by_cases hgm : most < ns
              · have dm : decide ((ns : Int) > (most : Int)) = true := decide_eq_true (by omega)
                have dm2 : decide (most < ns) = true := decide_eq_true hgm
                rcases hcond with e9 | ⟨e9, e1⟩
                all_goals
                  go_wp2_with fail
                  rw [← HZe.out]
                  try simp only [Exit.inBlock, Exit.then]
                  refine bodyPost_ret (results_cell_row2 rfl _ _ (w.heap.size + 1) _ rfl (run_loadVar_row _ (w.heap.size + 1) _ _ _ _ _ HZq.out Try.underlying85 rfl (by kernel_rfl))) rfl ?_
                  rw [Ho.out, HQ.out]
                  exact ⟨l, true, rfl, rfl, Nat.le_refl _, HZb.out⟩
              · have dm : decide ((ns : Int) > (most : Int)) = false := decide_eq_false (by omega)
                have dm2 : decide (most < ns) = false := decide_eq_false hgm
                rcases hcond with e9 | ⟨e9, e1⟩
                all_goals
                  go_wp2_with fail
                  rw [← HZe.out]
                  try simp only [Exit.inBlock, Exit.then]
                  refine bodyPost_ret (results_cell_row2 rfl _ _ (w.heap.size + 1) _ rfl (run_loadVar_row _ (w.heap.size + 1) _ _ _ _ _ HZq.out Try.underlying85 rfl (by kernel_rfl))) rfl ?_
                  rw [Ho.out, HQ.out]
                  exact ⟨l, true, rfl, rfl, Nat.le_refl _, HZb.out⟩
            · have hsome : cdRd 10 0 l = some (ns, l.drop (i + 1)) := by
                rw [hst, if_neg hbad, if_pos (by omega), if_neg hz, hcd, Option.map_some, hmul, hnsd]
              have hdz : ((cn : Int) == 0) = false ∨ (((cn : Int) == 0) = true ∧ i = 0) := by
                by_cases h0 : cn = 0
                · exact .inr ⟨by rw [h0]; rfl, by omega⟩
                · exact .inl (by simp; omega)
              by_cases hgm : most < ns
              · have HQ := Lib.hid (numS_big hil hsome hgm)
                have dm : decide ((ns : Int) > (most : Int)) = true := decide_eq_true (by omega)
                have dm2 : decide (most < ns) = true := decide_eq_true hgm
                clear hpow hpp hdg hcn hdr hbad hst hnp hshd hns hnsd hmul HI hsome hcd hc hb64 hdz hz
                obtain ⟨Z, hZe, hZq, hZb⟩ := HZ.out ⟨l.toArray⟩ true
                have HZe := Lib.hid hZe
                have HZq := Lib.hid hZq
                have HZb := Lib.hid hZb
                clear hZe hZq hZb
                rcases hcond with e9 | ⟨e9, e1⟩
                all_goals
                  go_wp2_with fail
                  rw [← HZe.out]
                  try simp only [Exit.inBlock, Exit.then]
                  refine bodyPost_ret (results_cell_row2 rfl _ _ (w.heap.size + 1) _ rfl (run_loadVar_row _ (w.heap.size + 1) _ _ _ _ _ HZq.out Try.underlying85 rfl (by kernel_rfl))) rfl ?_
                  rw [Ho.out, HQ.out]
                  exact ⟨l, true, rfl, rfl, Nat.le_refl _, HZb.out⟩
              · have HQ := Lib.hid (numS_good hil hsome (Nat.le_of_not_lt hgm))
                have dm : decide ((ns : Int) > (most : Int)) = false := decide_eq_false (by omega)
                have dm2 : decide (most < ns) = false := decide_eq_false hgm
                have dcut : decide (l.length < i + 1) = false := decide_eq_false (by omega)
                have Hdl : Hid ((l.drop (i + 1)).length ≤ l.length) := Lib.hid (by simp)
                clear hpow hpp hdg hcn hdr hbad hst hnp hshd hns hnsd hmul HI hsome hcd hc hb64 hz
                obtain ⟨Z, hZe, hZq, hZb⟩ := HZ.out (ByteArray.extract ⟨l.toArray⟩ (i + 1) l.length) false
                have HZe := Lib.hid hZe
                have HZq := Lib.hid hZq
                have HZb := Lib.hid hZb
                clear hZe hZq hZb
                rcases hdz with dz | ⟨dz, hi0⟩
                · rcases hcond with e9 | ⟨e9, e1⟩
                  all_goals
                    go_wp2_with fail
                    rw [← HZe.out]
                    try simp only [Exit.inBlock, Exit.then]
                    refine bodyPost_ret (results_cell_row2 rfl _ _ (w.heap.size + 1) _ rfl (run_loadVar_row _ (w.heap.size + 1) _ _ _ _ _ HZq.out Try.underlying85 rfl (by kernel_rfl))) rfl ?_
                    rw [Ho.out, HQ.out, ext_drop]
                    exact ⟨l.drop (i + 1), false, rfl, rfl, Hdl.out, HZb.out⟩
                · have di2 : decide (0 < (i : Int)) = false := decide_eq_false (by omega)
                  have di1 : decide ((i : Int) + 1 > 1) = false := decide_eq_false (by omega)
                  have di4 : decide (0 < i) = false := decide_eq_false (by omega)
                  have di3 : ¬ 0 < i := by omega
                  clear hi0
                  rcases hcond with e9 | ⟨e9, e1⟩
                  all_goals
                    go_wp2_with fail
                    rw [← HZe.out]
                    try simp only [Exit.inBlock, Exit.then]
                    refine bodyPost_ret (results_cell_row2 rfl _ _ (w.heap.size + 1) _ rfl (run_loadVar_row _ (w.heap.size + 1) _ _ _ _ _ HZq.out Try.underlying85 rfl (by kernel_rfl))) rfl ?_
                    rw [Ho.out, HQ.out, ext_drop]
                    exact ⟨l.drop (i + 1), false, rfl, rfl, Hdl.out, HZb.out⟩
      · have hnone : cdRd 10 0 l = none := by
          rw [HI.out.2]
          by_cases h10 : i = 10
          · rw [h10]; rfl
          · have : l.length ≤ i := by omega
            rw [List.drop_eq_nil_of_le this, show 10 - i = (9 - i) + 1 by omega]
            rfl
        have HQ := Lib.hid (numS_bad most hnone)
        have hend : decide (i < l.length) = false ∨ (decide (i < l.length) = true ∧ decide ((i : Int) < 10) = false) := by
          by_cases h1 : i < l.length
          · exact .inr ⟨decide_eq_true h1, decide_eq_false (by omega)⟩
          · exact .inl (decide_eq_false h1)
        clear hnone HI
        obtain ⟨Z, hZe, hZq, hZb⟩ := HZ.out ⟨l.toArray⟩ true
        have HZe := Lib.hid hZe
        have HZq := Lib.hid hZq
        have HZb := Lib.hid hZb
        clear hZe hZq hZb
        rcases hend with e1 | ⟨e1, e2⟩
        · have e3 : ¬ i < l.length := of_decide_eq_false e1
          go_wp2_with fail
          rw [← HZe.out]
          try simp only [Exit.inBlock, Exit.then]
          refine bodyPost_ret (results_cell_row2 rfl _ _ (w.heap.size + 1) _ rfl (run_loadVar_row _ (w.heap.size + 1) _ _ _ _ _ HZq.out Try.underlying85 rfl (by kernel_rfl))) rfl ?_
          rw [Ho.out, HQ.out]
          exact ⟨l, true, rfl, rfl, Nat.le_refl _, HZb.out⟩
        · have e3 : i < l.length := of_decide_eq_true e1
          go_wp2_with fail
          rw [← HZe.out]
          try simp only [Exit.inBlock, Exit.then]
          refine bodyPost_ret (results_cell_row2 rfl _ _ (w.heap.size + 1) _ rfl (run_loadVar_row _ (w.heap.size + 1) _ _ _ _ _ HZq.out Try.underlying85 rfl (by kernel_rfl))) rfl ?_
          rw [Ho.out, HQ.out]
          exact ⟨l, true, rfl, rfl, Nat.le_refl _, HZb.out⟩
end Go.Proofs.Ythjlpbglnnebkaa
