/-
  The runner's end of a block (leave's contract is a premise here).
  The runner's list, where it is called in a region that draws its order.
  Which rows are spoken of are there: steps keep it.
  Which rows are spoken of are there: calls, ways, leaving, a step.
  The runner's step (do's and leave's contracts are premises here).
  New rows of pairs, of places.
  The runner's stacks, cut; a place is put back.
-/
import Derived.Test.YtagagpappjkgbaaJx16
import Derived.Test.YtagagpappjkgbaaJx17
namespace Go.Proofs.Ytagagpappjkgbaa
set_option linter.unusedVariables false
set_option linter.unusedSimpArgs false
open Go.RowKit Go.Shelf Go.Sort

/-- What leave does. -/
def LeaveC (n0 base E : Nat) (fs : List SF) (cm : List (List (Int × Int))) : Prop := ∀ (r : XR) (M : XM) (F : Nat → GRw) (w : World) (v : XV) (r' : XR), XOk n0 base E fs cm r M F w → leaveX fs r v = some r' →
    Calls Try.prog 104 #[.pointer (some ⟨E, 0, none⟩), .agg #[.int .i64 v.n, .pointer (v.of_.map fun t => ⟨M.tb t, 0, none⟩)]] w fun e w' => e = .returned (.tuple #[]) ∧ XNow n0 base E fs cm r' w w'
section
variable {n0 base E : Nat} {fs : List SF} {cm : List (List (Int × Int))} {r : XR} {M : XM} {F : Nat → GRw} {w : World}
set_option maxRecDepth 100000 in
set_option maxHeartbeats 8000000 in
theorem end_c (hLv : LeaveC n0 base E fs cm) (h : XOk n0 base E fs cm r M F w) (r' : XR) (hx : endX fs cm r = some r') :
    Calls Try.prog 79 #[.pointer (some ⟨E, 0, none⟩)] w fun e w' => e = .returned (.tuple #[]) ∧ XNow n0 base E fs cm r' w w' := by
  unfold endX at hx
  rw [Option.bind_eq_some_iff] at hx
  obtain ⟨k, hk, hx⟩ := hx
  obtain ⟨f, hf, hkb⟩ := blkX_some hk
  obtain ⟨fb, fv, hfA, hi, -, c4, -, -, -, hbs, -, hbb⟩ := h.fn_at hf
  have hbl : r.now.block < f.blocks.length := (List.getElem?_eq_some_iff.mp hkb).1
  have hke : f.blocks[r.now.block] = k := (List.getElem?_eq_some_iff.mp hkb).2
  obtain ⟨bA, bc, hbv, -⟩ := id hbs
  rw [hbv] at hbs c4
  obtain ⟨gb, o, lA, lc, pA, pc, tA, tc, rfl, hgn, -, -, k2, k3, -, -, -, -⟩ := hbs.at hbl
  rw [hke] at k2 k3
  have x10 := h.sq.cell 10 _ rfl
  have x11 := h.sq.cell 11 _ rfl
  have x12 := h.sq.cell 12 _ rfl
  rw [hfA] at x10
  have hfb := h.lb
  obtain ⟨D2, hD2⟩ : ∃ D2, D2 = w.drew.drew := ⟨_, rfl⟩
  have hbD : Below w.heap.size w D2 := by rw [hD2]; exact (Below.refl _ _).drew.drew
  have HX := Lib.hid (h.keep hbD)
  have HB := Lib.hid (hbD.mono h.sq.hb)
  obtain ⟨wi, hwi⟩ : ∃ wi, wi = r.now.which := ⟨_, rfl⟩
  obtain ⟨bi, hbi⟩ : ∃ bi, bi = r.now.block := ⟨_, rfl⟩
  obtain ⟨bn, hbn⟩ : ∃ bn, bn = f.blocks.length := ⟨_, rfl⟩
  obtain ⟨fn, hfn⟩ : ∃ fn, fn = fs.length := ⟨_, rfl⟩
  obtain ⟨kd, hkd⟩ : ∃ kd, kd = k.kind := ⟨_, rfl⟩
  obtain ⟨ka, hka⟩ : ∃ ka, ka = k.arg := ⟨_, rfl⟩
  rw [← hwi] at hi c4 x11
  rw [← hbi] at hbl k2 k3 x12
  rw [← hbn] at hbl c4 hbb
  rw [← hfn] at hi hfb x10
  rw [← hkd] at k2 hx
  rw [← hka] at k3 hx
  have Hx := Lib.hid hx
  have HLv := Lib.hid hLv
  have HD2 := Lib.hid hD2
  clear h hf hfA hkb hk hke hbs hbv hbD hD2 hwi hbi hbn hfn hkd hka hx hLv
  go_enter Try.func79, Try.ntmps79
  go_upto_region 0 with fail
  go_still_tail 10, (by kernel_rfl)
  change wpList _ _ _ _ _ w.drew
  obtain ⟨D, hD⟩ : ∃ D, D = w.drew := ⟨_, rfl⟩
  change w.drew.cell? _ = _ at c4
  change w.drew.cell? _ = _ at k2
  change w.drew.cell? _ = _ at k3
  change w.drew.cell? _ = _ at x12
  rw [← hD] at c4 k2 k3 x12 ⊢
  clear x10 x11
  have HD := Lib.hid hD
  clear hD
  go_upto_region 1 with fail
  go_still_tail 12, (by kernel_rfl)
  change wpList _ _ _ _ _ D.drew
  change D.drew.cell? _ = _ at k2
  change D.drew.cell? _ = _ at k3
  have hDe : D.drew = D2 := by rw [HD2.out, HD.out]
  rw [hDe] at k2 k3 ⊢
  clear c4 x12 hDe
  have hx := Hx.out
  by_cases h1 : kd = 1
  · rw [if_pos h1] at hx
    have d1 : (kd == 1) = true := by rw [h1]; rfl
    have hT := turn_c HX.out 0 (by omega) r' hx
    clear hx h1
    go_wp2_with (go_at_call 102; refine hT.mono ?_; rintro e w1 ⟨rfl, hN⟩; have HN := Lib.hid hN; clear hN hT)
    try simp only [Exit.inBlock, Exit.then]
    first
      | refine bodyPost_ret (results_none rfl _ _ _) rfl ?_
      | refine bodyPost_end (results_none rfl _ _ _) rfl ?_
    exact ⟨rfl, HN.out.1, HB.out.trans HN.out.2⟩
  · rw [if_neg h1] at hx
    have d1 : (kd == 1) = false := by simpa using h1
    by_cases h2 : kd = 2
    · rw [if_pos h2, Option.bind_eq_some_iff] at hx
      obtain ⟨v, hv, hx⟩ := hx
      have d2 : (kd == 2) = true := by rw [h2]; rfl
      have hG := get_c HX.out ka v hv
      obtain ⟨pv, hpv⟩ : ∃ pv : Option Addr, pv = v.of_.map fun t => ⟨M.tb t, 0, none⟩ := ⟨_, rfl⟩
      rw [← hpv] at hG
      obtain ⟨vn, hvn⟩ : ∃ vn, vn = v.n := ⟨_, rfl⟩
      rw [← hvn] at hG hx
      have fd := field0 vn (.pointer pv)
      by_cases h0 : vn = 0
      · rw [if_pos h0] at hx
        have d3 : (vn == 0) = true := by rw [h0]; rfl
        have HT : Hid (∀ A, Below D2.heap.size D2 A → Calls Try.prog 102 #[.pointer (some ⟨E, 0, none⟩), .int .i64 ((1 : Nat) : Int)] A fun e w' => e = .returned (.tuple #[]) ∧ XNow n0 base E fs cm r' A w') := Lib.hid fun A hA => turn_c (HX.out.keep hA) 1 (by omega) r' hx
        have Hb0 : Hid (base ≤ D2.heap.size) := Lib.hid HX.out.sq.hb
        clear hx h0 h1 h2 hv hpv hvn
        go_wp2_with (first
          | (go_at_call 103; refine hG.mono ?_; rintro e w1 ⟨rfl, hb1⟩; have hT := HT.out w1 hb1; have Hb1 := Lib.hid hb1; clear hb1 hG)
          | (go_at_call 102; refine hT.mono ?_; rintro e w2 ⟨rfl, hN⟩; have HN := Lib.hid hN; clear hN hT))
        try simp only [Exit.inBlock, Exit.then]
        first
          | refine bodyPost_ret (results_none rfl _ _ _) rfl ?_
          | refine bodyPost_end (results_none rfl _ _ _) rfl ?_
        exact ⟨rfl, HN.out.1, (HB.out.trans (Hb1.out.mono Hb0.out)).trans HN.out.2⟩
      · rw [if_neg h0] at hx
        have d3 : (vn == 0) = false := by simpa using h0
        have HT : Hid (∀ A, Below D2.heap.size D2 A → Calls Try.prog 102 #[.pointer (some ⟨E, 0, none⟩), .int .i64 ((0 : Nat) : Int)] A fun e w' => e = .returned (.tuple #[]) ∧ XNow n0 base E fs cm r' A w') := Lib.hid fun A hA => turn_c (HX.out.keep hA) 0 (by omega) r' hx
        have Hb0 : Hid (base ≤ D2.heap.size) := Lib.hid HX.out.sq.hb
        clear hx h0 h1 h2 hv hpv hvn
        go_wp2_with (first
          | (go_at_call 103; refine hG.mono ?_; rintro e w1 ⟨rfl, hb1⟩; have hT := HT.out w1 hb1; have Hb1 := Lib.hid hb1; clear hb1 hG)
          | (go_at_call 102; refine hT.mono ?_; rintro e w2 ⟨rfl, hN⟩; have HN := Lib.hid hN; clear hN hT))
        try simp only [Exit.inBlock, Exit.then]
        first
          | refine bodyPost_ret (results_none rfl _ _ _) rfl ?_
          | refine bodyPost_end (results_none rfl _ _ _) rfl ?_
        exact ⟨rfl, HN.out.1, (HB.out.trans (Hb1.out.mono Hb0.out)).trans HN.out.2⟩
    · rw [if_neg h2] at hx
      have d2 : (kd == 2) = false := by simpa using h2
      by_cases h3 : kd = 3
      case neg => rw [if_neg h3] at hx; cases hx
      rw [if_pos h3] at hx
      have d3 : (kd == 3) = true := by rw [h3]; rfl
      by_cases h0 : ka < 0
      · rw [if_pos h0] at hx
        have d4 : decide (ka < 0) = true := decide_eq_true h0
        have hL := HLv.out _ _ _ _ ⟨0, none⟩ r' HX.out hx
        clear hx h0 h1 h2 h3
        go_wp2_with (go_at_call 104; refine hL.mono ?_; rintro e w1 ⟨rfl, hN⟩; have HN := Lib.hid hN; clear hN hL)
        try simp only [Exit.inBlock, Exit.then]
        first
          | refine bodyPost_ret (results_none rfl _ _ _) rfl ?_
          | refine bodyPost_end (results_none rfl _ _ _) rfl ?_
        exact ⟨rfl, HN.out.1, HB.out.trans HN.out.2⟩
      · rw [if_neg h0, Option.bind_eq_some_iff] at hx
        obtain ⟨v, hv, hx⟩ := hx
        have d4 : decide (ka < 0) = false := decide_eq_false h0
        have hG := get_c HX.out ka v hv
        have HL : Hid (∀ A, Below D2.heap.size D2 A → Calls Try.prog 104 #[.pointer (some ⟨E, 0, none⟩), .agg #[.int .i64 v.n, .pointer (v.of_.map fun t => ⟨M.tb t, 0, none⟩)]] A fun e w' => e = .returned (.tuple #[]) ∧ XNow n0 base E fs cm r' A w') := Lib.hid fun A hA => HLv.out _ _ _ _ v r' (HX.out.keep hA) hx
        have Hb0 : Hid (base ≤ D2.heap.size) := Lib.hid HX.out.sq.hb
        clear hx h0 h1 h2 h3 hv
        go_wp2_with (first
          | (go_at_call 103; refine hG.mono ?_; rintro e w1 ⟨rfl, hb1⟩; have hL := HL.out w1 hb1; have Hb1 := Lib.hid hb1; clear hb1 hG)
          | (go_at_call 104; refine hL.mono ?_; rintro e w2 ⟨rfl, hN⟩; have HN := Lib.hid hN; clear hN hL))
        try simp only [Exit.inBlock, Exit.then]
        first
          | refine bodyPost_ret (results_none rfl _ _ _) rfl ?_
          | refine bodyPost_end (results_none rfl _ _ _) rfl ?_
        exact ⟨rfl, HN.out.1, (HB.out.trans (Hb1.out.mono Hb0.out)).trans HN.out.2⟩
end
end Go.Proofs.Ytagagpappjkgbaa
namespace Go.Proofs.Ytagagpappjkgbaa
set_option linter.unusedVariables false
set_option linter.unusedSimpArgs false
open Go.RowKit Go.Shelf Go.Sort

section
variable {n0 base E : Nat} {fs : List SF} {cm : List (List (Int × Int))} {r : XR} {M : XM} {F : Nat → GRw} {w : World}
set_option maxRecDepth 100000 in
set_option maxHeartbeats 4000000 in
theorem list_v (h : XOk n0 base E fs cm r M F w) (k : SB) (hk : blkX fs r.now = some k) : ∃ lA lc, GNs n0 w (.slice lA k.list.length lc) k.list ∧ ∀ A, Below w.heap.size w A →
    Calls Try.prog 78 #[.pointer (some ⟨E, 0, none⟩)] A fun e w' => e = .returned (.slice lA k.list.length lc) ∧ Below A.heap.size A w' := by
  obtain ⟨f, hf, hkb⟩ := blkX_some hk
  obtain ⟨fb, fv, hfA, hi, -, c4, -, -, -, hbs, -, hbb⟩ := h.fn_at hf
  have hfl : fb < w.heap.size := by
    have ho := h.sq.at h.f5
    rw [hfA] at ho
    exact (ho.lt fb rfl).2
  have hbl : r.now.block < f.blocks.length := (List.getElem?_eq_some_iff.mp hkb).1
  have hke : f.blocks[r.now.block] = k := (List.getElem?_eq_some_iff.mp hkb).2
  obtain ⟨bA, bc, hbv, -⟩ := id hbs
  rw [hbv] at hbs c4
  obtain ⟨gb, o, lA, lc, pA, pc, tA, tc, rfl, hgn, k0, -, -, -, -, hg, -, -⟩ := hbs.at hbl
  rw [hke] at k0 hg
  refine ⟨lA, lc, hg, fun A hA => ?_⟩
  have hgl : gb < w.heap.size := Nat.lt_of_lt_of_le hgn (Nat.le_trans h.n0b h.sq.hb)
  have a4 := (hA.cell (p := ⟨fb, r.now.which * 7 + 4, none⟩) hfl).trans c4
  have a0 := (hA.cell (p := ⟨gb, o + r.now.block * 5, none⟩) hgl).trans k0
  have x10 := (h.keep hA).sq.cell 10 _ rfl
  have x11 := (h.keep hA).sq.cell 11 _ rfl
  have x12 := (h.keep hA).sq.cell 12 _ rfl
  rw [hfA] at x10
  have hfb := h.lb
  have hb : Below A.heap.size A A.drew := (Below.refl _ _).drew
  have Hb := Lib.hid hb
  clear h hk hf hfA hkb hke hbv hbs hg hb c4 k0 hA
  generalize r.now.which = i at *
  generalize r.now.block = b at *
  generalize fs.length = fn at *
  generalize k.list.length = ln at *
  generalize f.blocks.length = bn at *
  go_enter Try.func78, Try.ntmps78
  go_upto_region 1 with fail
  go_still_tail 21, (by kernel_rfl)
  change wpList _ _ _ _ _ A.drew
  go_wp2
  go_ret
  exact ⟨rfl, Hb.out⟩
end
end Go.Proofs.Ytagagpappjkgbaa
namespace Go.Proofs.Ytagagpappjkgbaa
set_option linter.unusedVariables false
set_option linter.unusedSimpArgs false
open Go.RowKit

/-- A value whose rows are there. -/
def RefOk (r : XR) (v : XV) : Prop := ∀ t, v.of_ = some t → t < r.tabs.length
theorem RefsOk.get {r : XR} (h : RefsOk r) {id : Int} {v : XV} (hg : getX r id = some v) : RefOk r v := by
  obtain ⟨k, ps, p, rfl, hp, hq, rfl⟩ := getX_some hg
  exact h p.v (.inr (.inr (.inr ⟨ps, List.mem_of_getElem? hp, p, List.mem_of_getElem? hq, rfl⟩)))
theorem RefsOk.arg {r : XR} (h : RefsOk r) {x : SIn} {i : Nat} {v : XV} (hg : argX r x i = some v) : RefOk r v := by
  obtain ⟨a, -, hg⟩ := argX_some hg
  exact h.get hg
theorem RefsOk.set {r r' : XR} (h : RefsOk r) {id : Int} {v : XV} (hv : RefOk r v) (hs : setX r id v = some r') : RefsOk r' := by
  obtain ⟨k, ps, p, rfl, -, hp, hq, rfl⟩ := setX_some hs
  have hpp : RefOk r p.v := h p.v (.inr (.inr (.inr ⟨ps, List.mem_of_getElem? hp, p, List.mem_of_getElem? hq, rfl⟩)))
  intro u hu t ht
  show t < r.tabs.length
  rcases hu with hu | hu | ⟨q, hq1, hq2⟩ | ⟨l, hl, q, hq1, hq2⟩
  · exact h u (.inl hu) t ht
  · exact h u (.inr (.inl hu)) t ht
  · have hq1' : q ∈ (if p.deep = (deepX r : Int) then r.kept else r.kept ++ [⟨r.now.which, k, p⟩]) := hq1
    split at hq1'
    · exact h u (.inr (.inr (.inl ⟨q, hq1', hq2⟩))) t ht
    · rcases List.mem_append.mp hq1' with h1 | h1
      · exact h u (.inr (.inr (.inl ⟨q, h1, hq2⟩))) t ht
      · rw [List.mem_singleton] at h1
        subst h1
        subst hq2
        exact hpp t ht
  · have hl' : l ∈ r.places.set r.now.which (ps.set k ⟨v, (deepX r : Int)⟩) := hl
    rcases List.mem_or_eq_of_mem_set hl' with h1 | h1
    · exact h u (.inr (.inr (.inr ⟨l, h1, q, hq1, hq2⟩))) t ht
    · subst h1
      rcases List.mem_or_eq_of_mem_set hq1 with h2 | h2
      · exact h u (.inr (.inr (.inr ⟨ps, List.mem_of_getElem? hp, q, h2, hq2⟩))) t ht
      · subst h2
        subst hq2
        exact hv t ht
/-- Nothing but what is not spoken of is another. -/
theorem RefsOk.same {r r' : XR} (h : RefsOk r) (h1 : r'.args = r.args) (h2 : r'.coming = r.coming) (h3 : r'.kept = r.kept) (h4 : r'.places = r.places) (h5 : r'.tabs.length = r.tabs.length) : RefsOk r' := by
  intro u hu t ht
  rw [h5]
  rw [h1, h2, h3, h4] at hu
  exact h u hu t ht
theorem RefsOk.stop {r : XR} (h : RefsOk r) (how v : Int) : RefsOk (stopX r how v) := h.same rfl rfl rfl rfl rfl
theorem RefsOk.enter {r : XR} (h : RefsOk r) (which args : Nat) : RefsOk (enterX r which args) := h.same rfl rfl rfl rfl rfl
theorem RefOk.none {r : XR} (n : Int) : RefOk r ⟨n, none⟩ := fun t ht => by cases ht
theorem refs_create {r r' : XR} {id : Int} {x : SIn} (h : RefsOk r) (hx : createX r id x = some r') : RefsOk r' := by
  unfold createX at hx
  rw [Option.bind_eq_some_iff] at hx
  obtain ⟨n, hn, hx⟩ := hx
  rw [Option.bind_eq_some_iff] at hx
  obtain ⟨m, hm, hx⟩ := hx
  split at hx
  · injection hx with hx
    subst hx
    exact h.stop _ _
  · split at hx
    · injection hx with hx
      subst hx
      unfold takeX
      split
      · exact (h.same (r' := { r with left := 0 }) rfl rfl rfl rfl rfl).stop _ _
      · exact h.same rfl rfl rfl rfl rfl
    · have ht : RefsOk (takeX r (n.n * m)) := by
        unfold takeX
        split
        · exact (h.same (r' := { r with left := 0 }) rfl rfl rfl rfl rfl).stop _ _
        · exact h.same rfl rfl rfl rfl rfl
      refine RefsOk.set (r := { takeX r (n.n * m) with tabs := (takeX r (n.n * m)).tabs ++ [⟨n.n, m, List.replicate (n.n * m).toNat 0⟩] }) ?_ ?_ hx
      · intro u hu t htt
        have := ht u hu t htt
        show t < ((takeX r (n.n * m)).tabs ++ [_]).length
        rw [List.length_append]
        omega
      · intro t htt
        injection htt with htt
        show t < ((takeX r (n.n * m)).tabs ++ [_]).length
        rw [List.length_append, ← htt]
        simp
theorem refs_cell {r r' : XR} {id : Int} {x : SIn} (h : RefsOk r) (hx : cellX r id x = some r') : RefsOk r' := by
  unfold cellX at hx
  rw [Option.bind_eq_some_iff] at hx
  obtain ⟨v, hv, hx⟩ := hx
  rw [Option.bind_eq_some_iff] at hx
  obtain ⟨t, ht, hx⟩ := hx
  rw [Option.bind_eq_some_iff] at hx
  obtain ⟨T, hT, hx⟩ := hx
  rw [Option.bind_eq_some_iff] at hx
  obtain ⟨i, hi, hx⟩ := hx
  split at hx
  · injection hx with hx
    subst hx
    exact h.stop _ _
  · split at hx
    · rw [Option.map_eq_some_iff] at hx
      obtain ⟨u, -, rfl⟩ := hx
      exact h.same rfl rfl rfl rfl (by show (r.tabs.set _ _).length = _; rw [List.length_set])
    · rw [Option.bind_eq_some_iff] at hx
      obtain ⟨c, -, hx⟩ := hx
      exact h.set (RefOk.none _) hx
theorem refs_input {r r' : XR} {id : Int} (h : RefsOk r) (hx : inputX r id = some r') : RefsOk r' := by
  unfold inputX at hx
  split at hx
  · injection hx with hx
    subst hx
    exact h.stop _ _
  · rw [Option.map_eq_some_iff] at hx
    obtain ⟨r1, h1, rfl⟩ := hx
    exact (h.set (RefOk.none _) h1).same rfl rfl rfl rfl rfl
theorem refs_reckon {r r' : XR} {id : Int} {x : SIn} (h : RefsOk r) (hx : reckonX r id x = some r') : RefsOk r' := by
  unfold reckonX at hx
  rw [Option.bind_eq_some_iff] at hx
  obtain ⟨a, -, hx⟩ := hx
  split at hx
  · exact h.set (RefOk.none _) hx
  · rw [Option.bind_eq_some_iff] at hx
    obtain ⟨b, -, hx⟩ := hx
    split at hx
    · exact h.set (RefOk.none _) hx
    · injection hx with hx
      subst hx
      exact h.stop _ _
end Go.Proofs.Ytagagpappjkgbaa
namespace Go.Proofs.Ytagagpappjkgbaa
set_option linter.unusedVariables false
set_option linter.unusedSimpArgs false
open Go.RowKit

theorem refs_puts {r : XR} (h : RefsOk r) : ∀ (l : List Int) (acc res : List XV), putsX r l acc = some res → (∀ v ∈ acc, RefOk r v) → ∀ v ∈ res, RefOk r v
  | [], acc, res, he, ha => by
    injection he with he
    subst he
    exact ha
  | a :: l, acc, res, he, ha => by
    unfold putsX at he
    split at he
    · rw [Option.bind_eq_some_iff] at he
      obtain ⟨v, hv, he⟩ := he
      refine refs_puts h l _ res he fun u hu => ?_
      rcases List.mem_append.mp hu with h1 | h1
      · exact ha u h1
      · rw [List.mem_singleton] at h1
        subst h1
        exact h.get hv
    · cases he
theorem refs_com {r : XR} (h : RefsOk r) (ins : List SIn) (frm : Int) : ∀ (l : List Int) (acc res : List XV), comX ins frm r l acc = some res → (∀ v ∈ acc, RefOk r v) → ∀ v ∈ res, RefOk r v
  | [], acc, res, he, ha => by
    injection he with he
    subst he
    exact ha
  | id :: l, acc, res, he, ha => by
    unfold comX at he
    split at he
    · rw [Option.bind_eq_some_iff] at he
      obtain ⟨x, hx, he⟩ := he
      split at he
      · split at he
        · rw [Option.bind_eq_some_iff] at he
          obtain ⟨a, hxa, he⟩ := he
          rw [Option.bind_eq_some_iff] at he
          obtain ⟨v, hv, he⟩ := he
          refine refs_com h ins frm l _ res he fun u hu => ?_
          rcases List.mem_append.mp hu with h1 | h1
          · exact ha u h1
          · rw [List.mem_singleton] at h1
            subst h1
            exact h.get hv
        · cases he
      · injection he with he
        subst he
        exact ha
    · cases he
theorem refs_call {r r' : XR} {x : SIn} (h : RefsOk r) (hx : callX r x = some r') : RefsOk r' := by
  unfold callX at hx
  split at hx
  · rw [Option.map_eq_some_iff] at hx
    obtain ⟨l, hl, rfl⟩ := hx
    have hr := refs_puts h _ _ _ hl fun v hv => h v (.inl hv)
    refine RefsOk.enter ?_ _ _
    intro u hu t ht
    show t < r.tabs.length
    rcases hu with hu | hu | hu | hu
    · exact hr u hu t ht
    · exact h u (.inr (.inl hu)) t ht
    · exact h u (.inr (.inr (.inl hu))) t ht
    · exact h u (.inr (.inr (.inr hu))) t ht
  · cases hx
theorem refs_turn {fs : List SF} {cm : List (List (Int × Int))} {r r' : XR} {way : Nat} (h : RefsOk r) (hx : turnX fs cm r way = some r') : RefsOk r' := by
  unfold turnX at hx
  rw [Option.bind_eq_some_iff] at hx
  obtain ⟨f, hf, hx⟩ := hx
  rw [Option.bind_eq_some_iff] at hx
  obtain ⟨L, hL, hx⟩ := hx
  rw [Option.bind_eq_some_iff] at hx
  obtain ⟨c, hc, hx⟩ := hx
  rw [Option.bind_eq_some_iff] at hx
  obtain ⟨k, hk, hx⟩ := hx
  rw [Option.bind_eq_some_iff] at hx
  obtain ⟨t, ht, hx⟩ := hx
  split at hx
  case isFalse => cases hx
  case isTrue ht0 =>
  rw [Option.bind_eq_some_iff] at hx
  obtain ⟨k2, hk2, hx⟩ := hx
  rw [Option.map_eq_some_iff] at hx
  obtain ⟨l, hl, rfl⟩ := hx
  have h2 : RefsOk { r with now := { r.now with block := t.toNat, at_ := 0 } } := h.same rfl rfl rfl rfl rfl
  have hr := refs_com h2 _ _ _ _ _ hl fun v hv => by cases hv
  intro u hu s hs
  show s < r.tabs.length
  rcases hu with hu | hu | hu | hu
  · exact h u (.inl hu) s hs
  · exact hr u hu s hs
  · exact h u (.inr (.inr (.inl hu))) s hs
  · exact h u (.inr (.inr (.inr hu))) s hs
theorem refs_back (lo : Nat) : ∀ (k : Nat) (r r' : XR), RefsOk r → backX lo k r = some r' → RefsOk r' ∧ r'.tabs = r.tabs
  | 0, r, r', h, he => by
    unfold backX at he
    split at he
    · injection he with he
      subst he
      exact ⟨h, rfl⟩
    · cases he
  | k + 1, r, r', h, he => by
    unfold backX at he
    split at he
    · injection he with he
      subst he
      exact ⟨h, rfl⟩
    · rw [Option.bind_eq_some_iff] at he
      obtain ⟨q, hq, he⟩ := he
      rw [Option.bind_eq_some_iff] at he
      obtain ⟨ps, hps, he⟩ := he
      split at he
      · have hqm : q ∈ r.kept := List.mem_of_getLast? hq
        refine (fun h2 => ⟨(refs_back lo k _ r' h2 he).1, (refs_back lo k _ r' h2 he).2⟩ : RefsOk _ → _) ?_
        intro u hu t ht
        show t < r.tabs.length
        rcases hu with hu | hu | ⟨p, hp1, hp2⟩ | ⟨l, hl, p, hp1, hp2⟩
        · exact h u (.inl hu) t ht
        · exact h u (.inr (.inl hu)) t ht
        · exact h u (.inr (.inr (.inl ⟨p, List.dropLast_subset _ hp1, hp2⟩))) t ht
        · have hl' : l ∈ r.places.set q.fn (ps.set q.id q.was) := hl
          rcases List.mem_or_eq_of_mem_set hl' with h1 | h1
          · exact h u (.inr (.inr (.inr ⟨l, h1, p, hp1, hp2⟩))) t ht
          · subst h1
            rcases List.mem_or_eq_of_mem_set hp1 with h2 | h2
            · exact h u (.inr (.inr (.inr ⟨ps, List.mem_of_getElem? hps, p, h2, hp2⟩))) t ht
            · subst h2
              exact h u (.inr (.inr (.inl ⟨q, hqm, hp2⟩))) t ht
      · cases he
theorem refs_leave {fs : List SF} {r r' : XR} {v : XV} (h : RefsOk r) (hv : RefOk r v) (hx : leaveX fs r v = some r') : RefsOk r' := by
  unfold leaveX at hx
  rw [Option.bind_eq_some_iff] at hx
  obtain ⟨r1, h1, hx⟩ := hx
  obtain ⟨hr1, ht1⟩ := refs_back _ _ _ _ h h1
  split at hx
  · have hr2 : RefsOk { r1 with args := r1.args.take r1.now.args } := by
      intro u hu t ht
      show t < r1.tabs.length
      rcases hu with hu | hu | hu | hu
      · exact hr1 u (.inl (List.mem_of_mem_take hu)) t ht
      · exact hr1 u (.inr (.inl hu)) t ht
      · exact hr1 u (.inr (.inr (.inl hu))) t ht
      · exact hr1 u (.inr (.inr (.inr hu))) t ht
    have hv2 : ∀ t, v.of_ = some t → t < r1.tabs.length := fun t ht => by rw [ht1]; exact hv t ht
    dsimp only at hx
    split at hx
    · injection hx with hx
      subst hx
      exact hr2.stop _ _
    · rw [Option.bind_eq_some_iff] at hx
      obtain ⟨k, hk, hx⟩ := hx
      split at hx
      · rw [Option.bind_eq_some_iff] at hx
        obtain ⟨id, hid, hx⟩ := hx
        refine RefsOk.set ?_ ?_ hx
        · exact hr2.same rfl rfl rfl rfl rfl
        · exact fun t ht => hv2 t ht
      · cases hx
  · cases hx
theorem refs_end {fs : List SF} {cm : List (List (Int × Int))} {r r' : XR} (h : RefsOk r) (hx : endX fs cm r = some r') : RefsOk r' := by
  unfold endX at hx
  rw [Option.bind_eq_some_iff] at hx
  obtain ⟨k, hk, hx⟩ := hx
  split at hx
  · exact refs_turn h hx
  · split at hx
    · rw [Option.bind_eq_some_iff] at hx
      obtain ⟨v, hv, hx⟩ := hx
      exact refs_turn h hx
    · split at hx
      · split at hx
        · exact refs_leave h (RefOk.none _) hx
        · rw [Option.bind_eq_some_iff] at hx
          obtain ⟨v, hv, hx⟩ := hx
          exact refs_leave h (h.get hv) hx
      · cases hx
theorem refs_do {fs : List SF} {r r' : XR} {id : Int} {at_ : Nat} (h : RefsOk r) (hx : doX fs r id at_ = some r') : RefsOk r' := by
  unfold doX at hx
  rw [Option.bind_eq_some_iff] at hx
  obtain ⟨f, hf, hx⟩ := hx
  by_cases h0 : 0 ≤ id
  case neg => rw [if_neg h0] at hx; cases hx
  rw [if_pos h0] at hx
  rw [Option.bind_eq_some_iff] at hx
  obtain ⟨x, hxx, hx⟩ := hx
  by_cases c0 : x.op = 1
  · rw [if_pos c0] at hx
    exact h.set (RefOk.none _) hx
  rw [if_neg c0] at hx
  by_cases c1 : x.op = 2
  · rw [if_pos c1] at hx
    split at hx
    · rw [Option.bind_eq_some_iff] at hx
      obtain ⟨v, hv, hx⟩ := hx
      exact h.set (h v (.inl (List.mem_of_getElem? hv))) hx
    · cases hx
  rw [if_neg c1] at hx
  by_cases c2 : x.op = 3
  · rw [if_pos c2] at hx
    rw [Option.bind_eq_some_iff] at hx
    obtain ⟨v, hv, hx⟩ := hx
    exact h.set (h v (.inr (.inl (List.mem_of_getElem? hv)))) hx
  rw [if_neg c2] at hx
  by_cases c3 : x.op = 25
  · rw [if_pos c3] at hx
    rw [Option.bind_eq_some_iff] at hx
    obtain ⟨c, hc, hx⟩ := hx
    rw [Option.bind_eq_some_iff] at hx
    obtain ⟨v, hv, hx⟩ := hx
    exact h.set (h.arg hv) hx
  rw [if_neg c3] at hx
  by_cases c4 : x.op = 26 ∨ x.op = 27
  · rw [if_pos c4] at hx
    rw [Option.bind_eq_some_iff] at hx
    obtain ⟨c, hc, hx⟩ := hx
    rw [Option.bind_eq_some_iff] at hx
    obtain ⟨T, hT, hx⟩ := hx
    exact h.set (RefOk.none _) hx
  rw [if_neg c4] at hx
  by_cases c5 : x.op = 28
  · rw [if_pos c5] at hx
    rw [Option.bind_eq_some_iff] at hx
    obtain ⟨c, hc, hx⟩ := hx
    rw [Option.bind_eq_some_iff] at hx
    obtain ⟨T, hT, hx⟩ := hx
    exact h.set (RefOk.none _) hx
  rw [if_neg c5] at hx
  by_cases c6 : x.op = 30 ∨ x.op = 31
  · rw [if_pos c6] at hx
    exact refs_create h hx
  rw [if_neg c6] at hx
  by_cases c7 : x.op = 29 ∨ x.op = 32
  · rw [if_pos c7] at hx
    exact refs_cell h hx
  rw [if_neg c7] at hx
  by_cases c8 : x.op = 33
  · rw [if_pos c8] at hx
    split at hx
    · rw [Option.map_eq_some_iff] at hx
      obtain ⟨v, hv, rfl⟩ := hx
      exact h.same rfl rfl rfl rfl rfl
    · cases hx
  rw [if_neg c8] at hx
  by_cases c9 : x.op = 34
  · rw [if_pos c9] at hx
    exact refs_input h hx
  rw [if_neg c9] at hx
  by_cases c10 : x.op = 35
  · rw [if_pos c10] at hx
    rw [Option.map_eq_some_iff] at hx
    obtain ⟨v, hv, rfl⟩ := hx
    split
    · exact h.stop _ _
    · exact h
  rw [if_neg c10] at hx
  by_cases c11 : x.op = 36
  · rw [if_pos c11] at hx
    exact refs_call h hx
  rw [if_neg c11] at hx
  exact refs_reckon h hx
theorem refs_take' {r : XR} (h : RefsOk r) (k : Int) : RefsOk (takeX r k) := by
  unfold takeX
  split
  · exact (h.same (r' := { r with left := 0 }) rfl rfl rfl rfl rfl).stop _ _
  · exact h.same rfl rfl rfl rfl rfl
theorem refs_step {fs : List SF} {cm : List (List (Int × Int))} {r r' : XR} (h : RefsOk r) (hx : stepX fs cm r = some r') : RefsOk r' := by
  unfold stepX at hx
  split at hx
  · injection hx with hx
    subst hx
    exact refs_take' h _
  · dsimp only at hx
    rw [Option.bind_eq_some_iff] at hx
    obtain ⟨k, hk, hx⟩ := hx
    split at hx
    · exact refs_end (refs_take' h _) hx
    · rw [Option.bind_eq_some_iff] at hx
      obtain ⟨id, hid, hx⟩ := hx
      refine refs_do ?_ hx
      exact (refs_take' h 1).same rfl rfl rfl rfl rfl
theorem refs_begin (fs : List SF) (inn : List Int) (fuel : Int) (main : Nat) : RefsOk (beginX fs inn fuel main) := by
  intro u hu t ht
  rcases hu with hu | hu | ⟨q, hq, -⟩ | ⟨l, hl, p, hp, e⟩
  · cases hu
  · cases hu
  · cases hq
  · have hl' : l ∈ fs.map zeroP := hl
    rw [List.mem_map] at hl'
    obtain ⟨f, -, rfl⟩ := hl'
    have := List.eq_of_mem_replicate hp
    rw [this] at e
    subst e
    cases ht
end Go.Proofs.Ytagagpappjkgbaa
namespace Go.Proofs.Ytagagpappjkgbaa
set_option linter.unusedVariables false
set_option linter.unusedSimpArgs false
open Go.RowKit Go.Shelf Go.Sort

/-- No table has too many cells. -/
def TabsOk (r : XR) : Prop := ∀ T ∈ r.tabs, T.cells.length ≤ 1048576
/-- What do does. -/
def DoC (n0 base E : Nat) (fs : List SF) (cm : List (List (Int × Int))) : Prop := ∀ (r : XR) (M : XM) (F : Nat → GRw) (w : World) (id : Int) (at_ : Nat) (r' : XR), XOk n0 base E fs cm r M F w → RefsOk r → TabsOk r → doX fs r id at_ = some r' →
    Calls Try.prog 80 #[.pointer (some ⟨E, 0, none⟩), .int .i64 id, .int .i64 (at_ : Int)] w fun e w' => e = .returned (.tuple #[]) ∧ XNow n0 base E fs cm r' w w'
section
variable {n0 base E : Nat} {fs : List SF} {cm : List (List (Int × Int))} {r : XR} {M : XM} {F : Nat → GRw} {w : World}
theorem tabs_take (h : TabsOk r) (k : Int) : TabsOk (takeX r k) := by
  unfold takeX
  split
  · exact h
  · exact h
theorem XOk.at_set (h : XOk n0 base E fs cm r M F w) : XOk n0 base E fs cm { r with now := { r.now with at_ := r.now.at_ + 1 } } M F (w.setCell ⟨E, 13, none⟩ (.int .i64 ((r.now.at_ : Int) + 1))) ∧ Below base w (w.setCell ⟨E, 13, none⟩ (.int .i64 ((r.now.at_ : Int) + 1))) :=
  ⟨h.re (h.sq.field 13 _) (h.sq.b_field 13 _) h.lf rfl rfl rfl rfl rfl rfl rfl rfl, h.sq.b_field 13 _⟩
set_option maxRecDepth 100000 in
set_option maxHeartbeats 8000000 in
theorem step_c (hLv : LeaveC n0 base E fs cm) (hDo : DoC n0 base E fs cm) (h : XOk n0 base E fs cm r M F w) (hr : RefsOk r) (ht : TabsOk r) (r' : XR) (hx : stepX fs cm r = some r') :
    Calls Try.prog 49 #[.pointer (some ⟨E, 0, none⟩)] w fun e w' => e = .returned (.tuple #[]) ∧ XNow n0 base E fs cm r' w w' := by
  have hT := take_c h 1 (by omega)
  unfold stepX at hx
  by_cases hl : r.left < 1
  · rw [if_pos hl] at hx
    injection hx with hx
    rw [decide_eq_false (show ¬ ((1 : Int) ≤ r.left) by omega), hx] at hT
    clear h hr ht hx hl hLv hDo
    go_enter Try.func49, Try.ntmps49
    go_wp2_with (go_at_call 77; refine hT.mono ?_; rintro e w3 ⟨rfl, hN, hb⟩; have HN := Lib.hid hN; have Hb := Lib.hid hb; clear hN hb hT)
    try simp only [Exit.inBlock, Exit.then]
    first
      | refine bodyPost_ret (results_none rfl _ _ _) rfl ?_
      | refine bodyPost_end (results_none rfl _ _ _) rfl ?_
    exact ⟨rfl, ⟨_, _, HN.out⟩, Hb.out⟩
  · rw [if_neg hl] at hx
    rw [decide_eq_true (show ((1 : Int) ≤ r.left) by omega)] at hT
    dsimp only at hx
    obtain ⟨r1, hr1⟩ : ∃ r1, r1 = takeX r 1 := ⟨_, rfl⟩
    rw [← hr1] at hx hT
    have Hr1 : Hid (RefsOk r1 ∧ TabsOk r1) := Lib.hid ⟨by rw [hr1]; exact refs_take' hr 1, by rw [hr1]; exact tabs_take ht 1⟩
    rw [Option.bind_eq_some_iff] at hx
    obtain ⟨k, hk, hx⟩ := hx
    have HLv := Lib.hid hLv
    have HDo := Lib.hid hDo
    have Hx := Lib.hid hx
    have Hk := Lib.hid hk
    clear h hr ht hl hr1 hx hk hLv hDo
    go_enter Try.func49, Try.ntmps49
    go_upto_region 1 with (go_at_call 77; refine hT.mono ?_; rintro e A ⟨rfl, hN, hb⟩; have HN := Lib.hid hN; have Hb := Lib.hid hb; clear hN hb hT)
    obtain ⟨lA, lc, hg, hL⟩ := list_v HN.out k Hk.out
    obtain ⟨ln, hln⟩ : ∃ ln, ln = k.list.length := ⟨_, rfl⟩
    have hlnb : ln ≤ 1048576 := by
      obtain ⟨f, hf, hkb⟩ := blkX_some Hk.out
      rw [hln]
      exact HN.out.ls f (List.mem_of_getElem? hf) k (List.mem_of_getElem? hkb)
    rw [← hln] at hg hL
    have hL' : ∀ p : Regrown, Calls Try.prog 78 #[.pointer (some ⟨E, 0, none⟩)] (grow (redrawn A p.d) p.os) fun e w' => e = .returned (.slice lA ln lc) ∧ ∃ q : Regrown, w' = grow (redrawn A q.d) q.os := ex_call A hL
    obtain ⟨an, han⟩ : ∃ an, an = r1.now.at_ := ⟨_, rfl⟩
    have x13 : A.cell? ⟨E, 13, none⟩ = some (.int .i64 (an : Int)) := by rw [han]; exact HN.out.sq.cell 13 _ rfl
    have z13 := cell_regrown x13
    have Hg := Lib.hid hg
    have Hln := Lib.hid hln
    have Han := Lib.hid han
    clear hg hL hln han x13
    refine wp_region_quiet_below (by kernel_rfl) (by kernel_rfl) ?_
    repeat (go_big_quiet_step (exact hL' _))
    refine wpQuiet_nil ?_
    intro X hw'
    obtain ⟨⟨dq, osq⟩, hw''⟩ := hw'
    have HbX : Hid (Below A.heap.size A X) := Lib.hid (by rw [hw'']; exact below_regrown A dq osq)
    clear hw'' hL' z13
    have HXX := Lib.hid (HN.out.keep HbX.out)
    have HBX : Hid (Below base w X) := Lib.hid (Hb.out.trans (HbX.out.mono HN.out.sq.hb))
    have hx := Hx.out
    rw [← Han.out, ← Hln.out] at hx
    by_cases he : an = ln
    · rw [if_pos he] at hx
      have d1 : ((an : Int) == (ln : Int)) = true := by rw [he]; simp
      have hE := end_c HLv.out HXX.out r' hx
      clear hx he
      go_wp2_with (go_at_call 79; refine hE.mono ?_; rintro e w3 ⟨rfl, hN⟩; have HN2 := Lib.hid hN; clear hN hE)
      try simp only [Exit.inBlock, Exit.then]
      first
        | refine bodyPost_ret (results_none rfl _ _ _) rfl ?_
        | refine bodyPost_end (results_none rfl _ _ _) rfl ?_
      exact ⟨rfl, HN2.out.1, HBX.out.trans HN2.out.2⟩
    · rw [if_neg he, Option.bind_eq_some_iff] at hx
      obtain ⟨id, hid, hx⟩ := hx
      have d1 : ((an : Int) == (ln : Int)) = false := by simp; omega
      have hal : an < k.list.length := (List.getElem?_eq_some_iff.mp hid).1
      obtain ⟨lb, lo, rfl, hlb, kl⟩ := (Hg.out.keep (HbX.out.mono (Nat.le_trans HN.out.n0b HN.out.sq.hb))).at hal
      rw [(List.getElem?_eq_some_iff.mp hid).2] at kl
      rw [← Hln.out] at hal
      have hAt := HXX.out.at_set
      rw [← Han.out] at hAt
      have y13 : X.cell? ⟨E, 13, none⟩ = some (.int .i64 (an : Int)) := by rw [Han.out]; exact HXX.out.sq.cell 13 _ rfl
      have yf := HXX.out.sq.fro 13
      have hwr : IntKind.i64.wrap ((an : Int) + 1) = (an : Int) + 1 := by rw [IntKind.wrap_i64]; omega
      have hne : E ≠ lb := by have := HXX.out.sq.bE; have := HXX.out.n0b; omega
      have HAt := Lib.hid hAt
      have kl2 : (X.setCell ⟨E, 13, none⟩ (.int .i64 ((an : Int) + 1))).cell? ⟨lb, lo + an, none⟩ = some (.int .i64 id) := (World.cell?_setCell_other _ _ _ _ (fun e => hne (congrArg Addr.block e))).trans kl
      have hD := HDo.out _ _ _ _ id an r' hAt.1 (Hr1.out.1.same rfl rfl rfl rfl rfl) (fun T hT => Hr1.out.2 T hT) hx
      obtain ⟨Y, hY⟩ : ∃ Y, Y = X.setCell ⟨E, 13, none⟩ (.int .i64 ((an : Int) + 1)) := ⟨_, rfl⟩
      have HY := Lib.hid hY
      rw [← hY] at HAt kl2 hD
      clear hAt hx he hid hY hne kl
      go_upto_region 5 with fail
      rw [← HY.out]
      clear y13 yf hwr
      go_wp2_with (go_at_call 80; refine hD.mono ?_; rintro e w3 ⟨rfl, hN⟩; have HN2 := Lib.hid hN; clear hN hD)
      try simp only [Exit.inBlock, Exit.then]
      first
        | refine bodyPost_ret (results_none rfl _ _ _) rfl ?_
        | refine bodyPost_end (results_none rfl _ _ _) rfl ?_
      exact ⟨rfl, HN2.out.1, (HBX.out.trans HAt.out.2).trans HN2.out.2⟩
end
end Go.Proofs.Ytagagpappjkgbaa
namespace Go.Proofs.Ytagagpappjkgbaa
set_option linter.unusedVariables false
set_option linter.unusedSimpArgs false
open Go.RowKit Go.Shelf Go.Sort

theorem rep_at (l : List Value) (hl : 0 < l.length) : ∀ (n j : Nat), (List.replicate n l).flatten[j]? = if j < n * l.length then l[j % l.length]? else none
  | 0, j => by simp
  | n + 1, j => by
    rw [List.replicate_succ, List.flatten_cons]
    by_cases h : j < l.length
    · rw [List.getElem?_append_left h, Nat.mod_eq_of_lt h, if_pos (by rw [Nat.add_mul]; omega)]
    · rw [List.getElem?_append_right (by omega), rep_at l hl n (j - l.length), ← Nat.mod_eq_sub_mod (by omega)]
      by_cases h2 : j < (n + 1) * l.length
      · rw [if_pos h2, if_pos (by rw [Nat.add_mul] at h2; omega)]
      · rw [if_neg h2, if_neg (by rw [Nat.add_mul] at h2; omega)]
theorem made_flat (z : Array Value) (hz : 0 < z.size) (n : Nat) : (madeCells z (n * z.size)).toList = (List.replicate n z.toList).flatten := by
  apply List.ext_getElem?
  intro j
  rw [rep_at z.toList (by simpa using hz)]
  simp only [Array.length_toList]
  by_cases h : j < n * z.size
  · rw [if_pos h]
    have hm : j % z.size < z.size := Nat.mod_lt _ hz
    simp [madeCells, h, hm]
  · rw [if_neg h]
    simp [madeCells]
    omega
theorem info_cells {P : Program} {e : TypeId} {z : Array Value} {s b : Nat} (h : (P.info? e).map (fun i => (i.zero.map Value.cells, i.size, i.bytes)) = some (some z, s, b)) : ∃ i v, P.info? e = some i ∧ i.zero = some v ∧ v.cells = z ∧ i.size = s ∧ i.bytes = b := by
  cases hI : P.info? e with
  | none => rw [hI] at h; cases h
  | some i0 =>
    rw [hI] at h
    injection h with h
    injection h with hz0 h
    injection h with hz1 hz2
    rw [Option.map_eq_some_iff] at hz0
    obtain ⟨v, hz, hzc⟩ := hz0
    exact ⟨i0, v, rfl, hz, hzc, hz1, hz2⟩
theorem infoPair : (Try.prog.info? 131).map (fun i => (i.zero, i.size, i.bytes)) = some (some (.agg #[.int .i64 0, .int .i64 0]), 2, 16) := by kernel_rfl
theorem infoPlace : (Try.prog.info? 176).map (fun i => (i.zero.map Value.cells, i.size, i.bytes)) = some (some #[.int .i64 0, .pointer none, .int .i64 0], 3, 24) := by kernel_rfl
theorem infoFun : (Try.prog.info? 106).map (fun i => (i.zero.map Value.cells, i.size, i.bytes)) = some (some #[.string ⟨#[]⟩, .slice none 0 0, .int .i64 0, .slice none 0 0, .slice none 0 0, .slice none 0 0, .slice none 0 0], 7, 144) := by kernel_rfl
theorem makeP (n : Nat) (hn : n ≤ 1048576) (W : World) : (Instr.makeSlice 103 (.int .i64 (n : Int)) (.int .i64 (n : Int))).run Try.prog W = .ok (.slice (some ⟨W.heap.size, 0, none⟩) n n) (W.alloc (.cells ((List.replicate n ((0 : Int), (0 : Int))).flatMap wCell).toArray 131)) := by
  obtain ⟨i0, hi0, hz0, hz1, hz2⟩ := info_parts infoPair
  have h := run_make (w := W) (P := Try.prog) 103 131 i0 (.agg #[.int .i64 0, .int .i64 0]) Try.underlying103 hi0 hz0 .i64 .i64 (n : Int) (n : Int) (by omega) (by omega) (by rw [hz2]; omega) (by omega)
  have e : ((List.replicate n ((0 : Int), (0 : Int))).flatMap wCell) = (madeCells #[Value.int .i64 0, Value.int .i64 0] (n * 2)).toList := by
    rw [show (2 : Nat) = (#[Value.int .i64 0, Value.int .i64 0] : Array Value).size from rfl, made_flat _ (by decide), List.flatMap_replicate]
    rfl
  rw [h, Int.toNat_natCast, hz1, e, Array.toArray_toList]
  rfl
theorem makePl (n : Nat) (hn : n ≤ 1048576) (W : World) : (Instr.makeSlice 104 (.int .i64 (n : Int)) (.int .i64 (n : Int))).run Try.prog W = .ok (.slice (some ⟨W.heap.size, 0, none⟩) n n) (W.alloc (.cells ((List.replicate n (⟨⟨0, none⟩, 0⟩ : XPl)).flatMap (pCell fun _ => 0)).toArray 176)) := by
  obtain ⟨i0, z, hI, hz, hzc, hz1, hz2⟩ := info_cells infoPlace
  have h := run_make (w := W) (P := Try.prog) 104 176 i0 z Try.underlying104 hI hz .i64 .i64 (n : Int) (n : Int) (by omega) (by omega) (by rw [hz2]; omega) (by omega)
  have e : ((List.replicate n (⟨⟨0, none⟩, 0⟩ : XPl)).flatMap (pCell fun _ => 0)) = (madeCells #[Value.int .i64 0, Value.pointer none, Value.int .i64 0] (n * 3)).toList := by
    rw [show (3 : Nat) = (#[Value.int .i64 0, Value.pointer none, Value.int .i64 0] : Array Value).size from rfl, made_flat _ (by decide), List.flatMap_replicate]
    rfl
  rw [h, Int.toNat_natCast, hz1, hzc, e, Array.toArray_toList]
theorem zeroP_cells (tb : Nat → Nat) (f : SF) : (zeroP f).flatMap (pCell tb) = (List.replicate f.ins.length (⟨⟨0, none⟩, 0⟩ : XPl)).flatMap (pCell fun _ => 0) := by
  unfold zeroP
  rw [List.flatMap_replicate, List.flatMap_replicate]
  rfl
theorem own_lit {T : TypeId} (w W : World) (cs : List Value) (n z b : Nat) (hb : w.heap[b]? = some (.cells cs.toArray T (0, 0))) (hc : cs.length = n * z) (hn : n ≤ 1048576) (base : Nat) (hB : base ≤ b) : w.ownsRow base T z (.slice (some ⟨b, 0, none⟩) n n) n cs := by
  refine ⟨hc, .inr ⟨b, n, cs.toArray, rfl, hB, hb, Nat.le_refl _, Nat.le_trans hn (by decide), by simpa using hc, ?_⟩⟩
  simp [← hc]
end Go.Proofs.Ytagagpappjkgbaa
namespace Go.Proofs.Ytagagpappjkgbaa
set_option linter.unusedVariables false
set_option linter.unusedSimpArgs false
open Go.RowKit Go.Shelf Go.Sort

theorem own_cut {w : World} {base : Nat} {T : TypeId} {z n c : Nat} {A : Option Addr} {xs : List Value} (ho : w.ownsRow base T z (.slice A n c) n xs) (m : Nat) (hm : m ≤ n) : w.ownsRow base T z (.slice A m c) m (xs.take (m * z)) := by
  rcases id ho.2 with ⟨e, e0⟩ | ⟨g, cap, cur, e, -⟩
  · injection e with e1 e2 e3
    have hm0 : m = 0 := by omega
    subst hm0
    rw [e1, e3, Nat.zero_mul, List.take_zero]
    exact World.ownsRow_nil _ _ _ _
  · injection e with e1 e2 e3
    subst e1
    exact gr_cut ho m hm
theorem own_cap {w : World} {base : Nat} {T : TypeId} {z n c : Nat} {A : Option Addr} {xs : List Value} (ho : w.ownsRow base T z (.slice A n c) n xs) : n ≤ c ∧ c ≤ 9223372036854775807 := by
  rcases ho.2 with ⟨e, e0⟩ | ⟨g, cap, cur, e, _, _, h1, h2, _⟩
  · injection e with e1 e2 e3
    rw [e2, e3]
    exact ⟨Nat.le_refl _, by omega⟩
  · injection e with e1 e2 e3
    rw [e3]
    exact ⟨h1, Nat.le_trans h2 (by decide)⟩
theorem flat_take {α : Type} (f : α → List Value) (z : Nat) (hz : ∀ a, (f a).length = z) : ∀ (l : List α) (m : Nat), m ≤ l.length → (l.flatMap f).take (m * z) = (l.take m).flatMap f
  | l, 0, _ => by simp
  | [], m + 1, h => by simp at h
  | b :: l, m + 1, h => by
    rw [List.flatMap_cons, List.take_succ_cons, List.flatMap_cons, ← flat_take f z hz l m (by simpa using h), Nat.add_mul, Nat.one_mul, List.take_append, hz, List.take_of_length_le (by rw [hz]; omega), Nat.add_sub_cancel]
theorem cut_run (T el : TypeId) (hT : Try.prog.elem T = el) (hu : Try.prog.underlying T = some (.slice el)) {A : Option Addr} {n c : Nat} (m : Nat) (hm : m ≤ n) (hn : n ≤ c) (s : Nat) (hs : ∀ W, (sizeOf el).run Try.prog W = .ok s W) (W : World) :
    (Instr.slice T (.slice A n c) none (some (.int .i64 (m : Int))) none).run Try.prog W = .ok (.slice A m c) W := by
  rw [run_slice_h W T A n c (by rw [hT]; exact hu) .i64 (m : Int) (by omega) (by omega), hT, hs]
  cases A <;> simp [Result.andThen, sliced, Addr.add]
theorem cutK_run {A : Option Addr} {n c : Nat} (m : Nat) (hm : m ≤ n) (hn : n ≤ c) (W : World) : (Instr.slice 100 (.slice A n c) none (some (.int .i64 (m : Int))) none).run Try.prog W = .ok (.slice A m c) W :=
  cut_run _ 179 (by simp [Program.elem, Try.underlying100]) (by simp [Try.underlying100]) m hm hn 4 (fun W => by go_simp) W
theorem cutA_run {A : Option Addr} {n c : Nat} (m : Nat) (hm : m ≤ n) (hn : n ≤ c) (W : World) : (Instr.slice 99 (.slice A n c) none (some (.int .i64 (m : Int))) none).run Try.prog W = .ok (.slice A m c) W :=
  cut_run _ 156 (by simp [Program.elem, Try.underlying99]) (by simp [Try.underlying99]) m hm hn 2 (fun W => by go_simp) W
theorem cutO_run {A : Option Addr} {n c : Nat} (m : Nat) (hm : m ≤ n) (hn : n ≤ c) (W : World) : (Instr.slice 98 (.slice A n c) none (some (.int .i64 (m : Int))) none).run Try.prog W = .ok (.slice A m c) W :=
  cut_run _ 97 (by simp [Program.elem, Try.underlying98]) (by simp [Try.underlying98]) m hm hn 5 (fun W => by go_simp) W
section
variable {n0 base E : Nat} {fs : List SF} {cm : List (List (Int × Int))} {r r' : XR} {M : XM} {F : Nat → GRw} {w : World}
theorem XOk.shrink (h : XOk n0 base E fs cm r M F w) (k : Nat) (hk : k < 5)
    (hown : w.ownsRow base (rowX r' M k).T (rowX r' M k).z (rowX r' M k).v (rowX r' M k).n (rowX r' M k).xs)
    (hv : (rowX r' M k).v.ownBlock = (F k).v.ownBlock) (hrows : ∀ l, l < 5 → l ≠ k → rowX r' M l = rowX r M l)
    (j : Nat) (u : Value) (hcells : (xCells r fs.length M).set j u = xCells r' fs.length M)
    (ho : r'.outer.length ≤ 1048576) (hl : r'.left = r.left) (h5 : r'.places = r.places) (h6 : r'.tabs = r.tabs) (h7 : r'.inn = r.inn) :
    (∃ F', XOk n0 base E fs cm r' M F' (w.setCell ⟨E, j, none⟩ u)) ∧ Below base w (w.setCell ⟨E, j, none⟩ u) := by
  have s2 := h.sq.grown k (World.grownBy.refl _ _) (rowX r' M k) hown (fun g e => .inl (hv ▸ e))
  have s3 := s2.field j u
  rw [hcells] at s3
  have hb := s2.b_field j u
  have hn := hb.mono h.n0b
  refine ⟨⟨_, ⟨s3, fun l hl => ?_, ho, ?_, fun i' L hL => ?_, fun i' ps' hps => ?_, fun t' T' hT' => ?_, fun t' ht' => ?_, h.lv, h.lb, by rw [h5]; exact h.pn, h.cn, by rw [h5]; exact h.lp, h.lc, fun i f v hf hv => ⟨(h.sr i f v hf hv).1.keep hn, (h.sr i f v hf hv).2.1.keep hn, (h.sr i f v hf hv).2.2⟩, h.ls, by rw [h7]; exact h.inn.keep hn, by rw [h7]; exact h.ic, h.n0b, by rw [hl]; exact h.lf⟩⟩, hb⟩
  · by_cases e : l = k
    · subst e; rw [upG_at]
    · rw [upG_off _ _ _ _ e, hrows l hl e]; exact h.fr l hl
  · rw [upG_off _ _ _ _ (by omega)]; exact h.f5
  · rw [upG_off _ _ _ _ (by omega)]; exact h.fc i' L hL
  · rw [upG_off _ _ _ _ (by omega)]; rw [h5] at hps; exact h.fp i' ps' hps
  · rw [upG_off _ _ _ _ (by omega), upG_off _ _ _ _ (by omega)]; rw [h6] at hT'; exact h.ft t' T' hT'
  · rw [upG_off _ _ _ _ (by omega), upG_off _ _ _ _ (by omega)]; rw [h6] at ht'; exact h.fn t' ht'
/-- What was kept, cut. -/
theorem XOk.cutK (h : XOk n0 base E fs cm r M F w) (m : Nat) (hm : m ≤ r.kept.length) :
    (∃ F', XOk n0 base E fs cm { r with kept := r.kept.take m } M F' (w.setCell ⟨E, 18, none⟩ (.slice (M.sa 3) m (M.sc 3)))) ∧ Below base w (w.setCell ⟨E, 18, none⟩ (.slice (M.sa 3) m (M.sc 3))) := by
  have hf := h.fr 3 (by omega)
  have ho := own_cut (h.sq.at hf) m hm
  have hft := flat_take (kCell M.tb M.pb) 4 (fun _ => rfl) r.kept m hm
  have hl : (r.kept.take m).length = m := by rw [List.length_take]; omega
  refine h.shrink (r' := { r with kept := r.kept.take m }) 3 (by omega) ?_ ?_ (fun l hl hne => by rcases l with _ | _ | _ | _ | _ | l <;> first | rfl | omega) 18 _ ?_ h.ol rfl rfl rfl rfl
  · show w.ownsRow base 179 4 (.slice (M.sa 3) (r.kept.take m).length (M.sc 3)) (r.kept.take m).length ((r.kept.take m).flatMap (kCell M.tb M.pb))
    rw [hl, ← hft]
    exact ho
  · rw [hf]
    exact own_any _ _ _ _
  · show _ = xCells { r with kept := r.kept.take m } fs.length M
    unfold xCells
    rw [show ({ r with kept := r.kept.take m } : XR).kept.length = m from hl]
    rfl
/-- Arguments, cut. -/
theorem XOk.cutA (h : XOk n0 base E fs cm r M F w) (m : Nat) (hm : m ≤ r.args.length) :
    (∃ F', XOk n0 base E fs cm { r with args := r.args.take m } M F' (w.setCell ⟨E, 17, none⟩ (.slice (M.sa 2) m (M.sc 2)))) ∧ Below base w (w.setCell ⟨E, 17, none⟩ (.slice (M.sa 2) m (M.sc 2))) := by
  have hf := h.fr 2 (by omega)
  have ho := own_cut (h.sq.at hf) m hm
  have hft := flat_take (vCell M.tb) 2 (fun _ => rfl) r.args m hm
  have hl : (r.args.take m).length = m := by rw [List.length_take]; omega
  refine h.shrink (r' := { r with args := r.args.take m }) 2 (by omega) ?_ ?_ (fun l hl hne => by rcases l with _ | _ | _ | _ | _ | l <;> first | rfl | omega) 17 _ ?_ h.ol rfl rfl rfl rfl
  · show w.ownsRow base 156 2 (.slice (M.sa 2) (r.args.take m).length (M.sc 2)) (r.args.take m).length ((r.args.take m).flatMap (vCell M.tb))
    rw [hl, ← hft]
    exact ho
  · rw [hf]
    exact own_any _ _ _ _
  · show _ = xCells { r with args := r.args.take m } fs.length M
    unfold xCells
    rw [show ({ r with args := r.args.take m } : XR).args.length = m from hl]
    rfl
/-- The last outer call goes on. -/
theorem XOk.popO (h : XOk n0 base E fs cm r M F w) (c : XC) (m : Nat) (hm : m ≤ r.outer.length) :
    (∃ F', XOk n0 base E fs cm { r with now := c, outer := r.outer.take m } M F' ((((((w.setCell ⟨E, 11, none⟩ (.int .i64 (c.which : Int))).setCell ⟨E, 12, none⟩ (.int .i64 (c.block : Int))).setCell ⟨E, 13, none⟩ (.int .i64 (c.at_ : Int))).setCell ⟨E, 14, none⟩ (.int .i64 (c.args : Int))).setCell ⟨E, 15, none⟩ (.int .i64 (c.kept : Int))).setCell ⟨E, 16, none⟩ (.slice (M.sa 1) m (M.sc 1)))) ∧ Below base w ((((((w.setCell ⟨E, 11, none⟩ (.int .i64 (c.which : Int))).setCell ⟨E, 12, none⟩ (.int .i64 (c.block : Int))).setCell ⟨E, 13, none⟩ (.int .i64 (c.at_ : Int))).setCell ⟨E, 14, none⟩ (.int .i64 (c.args : Int))).setCell ⟨E, 15, none⟩ (.int .i64 (c.kept : Int))).setCell ⟨E, 16, none⟩ (.slice (M.sa 1) m (M.sc 1))) := by
  have s5 := ((((h.sq.field 11 (.int .i64 (c.which : Int))).field 12 (.int .i64 (c.block : Int))).field 13 (.int .i64 (c.at_ : Int))).field 14 (.int .i64 (c.args : Int))).field 15 (.int .i64 (c.kept : Int))
  obtain ⟨X, hX⟩ : ∃ X, X = (((((w.setCell ⟨E, 11, none⟩ (.int .i64 (c.which : Int))).setCell ⟨E, 12, none⟩ (.int .i64 (c.block : Int))).setCell ⟨E, 13, none⟩ (.int .i64 (c.at_ : Int))).setCell ⟨E, 14, none⟩ (.int .i64 (c.args : Int))).setCell ⟨E, 15, none⟩ (.int .i64 (c.kept : Int))) := ⟨_, rfl⟩
  have hb : Below base w X := by
    rw [hX]
    exact (((((Below.refl base w).setCell (p := ⟨E, 11, none⟩) h.sq.bE _).setCell (p := ⟨E, 12, none⟩) h.sq.bE _).setCell (p := ⟨E, 13, none⟩) h.sq.bE _).setCell (p := ⟨E, 14, none⟩) h.sq.bE _).setCell (p := ⟨E, 15, none⟩) h.sq.bE _
  rw [← hX] at s5
  have hx : XOk n0 base E fs cm { r with now := c } M F X := h.re s5 hb h.lf rfl rfl rfl rfl rfl rfl rfl rfl
  rw [← hX]
  clear hX s5
  have hf := hx.fr 1 (by omega)
  have ho := own_cut (hx.sq.at hf) m hm
  have hft := flat_take cCell 5 (fun _ => rfl) r.outer m hm
  have hl : (r.outer.take m).length = m := by rw [List.length_take]; omega
  have := hx.shrink (r' := { r with now := c, outer := r.outer.take m }) 1 (by omega) (by
      show X.ownsRow base 97 5 (.slice (M.sa 1) (r.outer.take m).length (M.sc 1)) (r.outer.take m).length ((r.outer.take m).flatMap cCell)
      rw [hl, ← hft]
      exact ho) (by rw [hf]; exact own_any _ _ _ _) (fun l hl hne => by rcases l with _ | _ | _ | _ | _ | l <;> first | rfl | omega) 16 (.slice (M.sa 1) m (M.sc 1)) (by
      show _ = xCells { r with now := c, outer := r.outer.take m } fs.length M
      unfold xCells
      rw [show ({ r with now := c, outer := r.outer.take m } : XR).outer.length = m from hl]
      rfl) (by show (r.outer.take m).length ≤ _; rw [hl]; exact Nat.le_trans hm h.ol) rfl rfl rfl rfl
  exact ⟨this.1, hb.trans this.2⟩
/-- What was kept last, as it lies. -/
theorem XOk.kept_at (h : XOk n0 base E fs cm r M F w) {i : Nat} {q : XK} (hq : r.kept[i]? = some q) : ∃ g, M.sa 3 = some ⟨g, 0, none⟩ ∧
    w.cell? ⟨g, i * 4, none⟩ = some (.pointer (some ⟨M.pb q.fn, q.id * 3, none⟩)) ∧ w.cell? ⟨g, i * 4 + 1, none⟩ = some (.int .i64 q.was.v.n) ∧ w.cell? ⟨g, i * 4 + 2, none⟩ = some (.pointer (q.was.v.of_.map fun t => ⟨M.tb t, 0, none⟩)) ∧ w.cell? ⟨g, i * 4 + 3, none⟩ = some (.int .i64 q.was.deep) := by
  have hi : i < r.kept.length := (List.getElem?_eq_some_iff.mp hq).1
  have ho := h.sq.at (h.fr 3 (by omega))
  rcases id ho.2 with ⟨e, e0⟩ | ⟨g, cap, cur, e, -⟩
  · exact absurd e0 (by show r.kept.length ≠ 0; omega)
  · have e' : (Value.slice (M.sa 3) r.kept.length (M.sc 3)) = .slice (some ⟨g, 0, none⟩) r.kept.length cap := e
    injection e' with e1 e2 e3
    refine ⟨g, e1, ?_⟩
    have ho' : w.ownsRow base 179 4 (.slice (some ⟨g, 0, none⟩) r.kept.length (M.sc 3)) r.kept.length (r.kept.flatMap (kCell M.tb M.pb)) := by rw [← e1]; exact ho
    have c : ∀ q, q < r.kept.length * 4 → w.cell? ⟨g, q, none⟩ = (r.kept.flatMap (kCell M.tb M.pb))[q]? := fun q hq => ho'.cellAt q hq
    have a := flat_at (kCell M.tb M.pb) 4 (fun _ => rfl) r.kept i q hq
    exact ⟨(c _ (by omega)).trans (a 0 (by omega)), (c _ (by omega)).trans (a 1 (by omega)), (c _ (by omega)).trans (a 2 (by omega)), (c _ (by omega)).trans (a 3 (by omega))⟩
/-- The outer call, as it lies. -/
theorem XOk.outer_at (h : XOk n0 base E fs cm r M F w) {i : Nat} {q : XC} (hq : r.outer[i]? = some q) : ∃ g, M.sa 1 = some ⟨g, 0, none⟩ ∧
    w.cell? ⟨g, i * 5, none⟩ = some (.int .i64 q.which) ∧ w.cell? ⟨g, i * 5 + 1, none⟩ = some (.int .i64 q.block) ∧ w.cell? ⟨g, i * 5 + 2, none⟩ = some (.int .i64 q.at_) ∧ w.cell? ⟨g, i * 5 + 3, none⟩ = some (.int .i64 q.args) ∧ w.cell? ⟨g, i * 5 + 4, none⟩ = some (.int .i64 q.kept) := by
  have hi : i < r.outer.length := (List.getElem?_eq_some_iff.mp hq).1
  have ho := h.sq.at (h.fr 1 (by omega))
  rcases id ho.2 with ⟨e, e0⟩ | ⟨g, cap, cur, e, -⟩
  · exact absurd e0 (by show r.outer.length ≠ 0; omega)
  · have e' : (Value.slice (M.sa 1) r.outer.length (M.sc 1)) = .slice (some ⟨g, 0, none⟩) r.outer.length cap := e
    injection e' with e1 e2 e3
    refine ⟨g, e1, ?_⟩
    have ho' : w.ownsRow base 97 5 (.slice (some ⟨g, 0, none⟩) r.outer.length (M.sc 1)) r.outer.length (r.outer.flatMap cCell) := by rw [← e1]; exact ho
    have c : ∀ q, q < r.outer.length * 5 → w.cell? ⟨g, q, none⟩ = (r.outer.flatMap cCell)[q]? := fun q hq => ho'.cellAt q hq
    have a := flat_at cCell 5 (fun _ => rfl) r.outer i q hq
    exact ⟨(c _ (by omega)).trans (a 0 (by omega)), (c _ (by omega)).trans (a 1 (by omega)), (c _ (by omega)).trans (a 2 (by omega)), (c _ (by omega)).trans (a 3 (by omega)), (c _ (by omega)).trans (a 4 (by omega))⟩
/-- An argument, as it lies. -/
theorem XOk.args_at (h : XOk n0 base E fs cm r M F w) {i : Nat} {v : XV} (hq : r.args[i]? = some v) : ∃ g, M.sa 2 = some ⟨g, 0, none⟩ ∧
    w.cell? ⟨g, i * 2, none⟩ = some (.int .i64 v.n) ∧ w.cell? ⟨g, i * 2 + 1, none⟩ = some (.pointer (v.of_.map fun t => ⟨M.tb t, 0, none⟩)) := by
  have hi : i < r.args.length := (List.getElem?_eq_some_iff.mp hq).1
  have ho := h.sq.at (h.fr 2 (by omega))
  rcases id ho.2 with ⟨e, e0⟩ | ⟨g, cap, cur, e, -⟩
  · exact absurd e0 (by show r.args.length ≠ 0; omega)
  · have e' : (Value.slice (M.sa 2) r.args.length (M.sc 2)) = .slice (some ⟨g, 0, none⟩) r.args.length cap := e
    injection e' with e1 e2 e3
    refine ⟨g, e1, ?_⟩
    have ho' : w.ownsRow base 156 2 (.slice (some ⟨g, 0, none⟩) r.args.length (M.sc 2)) r.args.length (r.args.flatMap (vCell M.tb)) := by rw [← e1]; exact ho
    have c : ∀ q, q < r.args.length * 2 → w.cell? ⟨g, q, none⟩ = (r.args.flatMap (vCell M.tb))[q]? := fun q hq => ho'.cellAt q hq
    have a := flat_at (vCell M.tb) 2 (fun _ => rfl) r.args i v hq
    exact ⟨(c _ (by omega)).trans (a 0 (by omega)), (c _ (by omega)).trans (a 1 (by omega))⟩
/-- What came, as it lies. -/
theorem XOk.coming_at (h : XOk n0 base E fs cm r M F w) {i : Nat} {v : XV} (hq : r.coming[i]? = some v) : ∃ g, M.sa 4 = some ⟨g, 0, none⟩ ∧
    w.cell? ⟨g, i * 2, none⟩ = some (.int .i64 v.n) ∧ w.cell? ⟨g, i * 2 + 1, none⟩ = some (.pointer (v.of_.map fun t => ⟨M.tb t, 0, none⟩)) := by
  have hi : i < r.coming.length := (List.getElem?_eq_some_iff.mp hq).1
  have ho := h.sq.at (h.fr 4 (by omega))
  rcases id ho.2 with ⟨e, e0⟩ | ⟨g, cap, cur, e, -⟩
  · exact absurd e0 (by show r.coming.length ≠ 0; omega)
  · have e' : (Value.slice (M.sa 4) r.coming.length (M.sc 4)) = .slice (some ⟨g, 0, none⟩) r.coming.length cap := e
    injection e' with e1 e2 e3
    refine ⟨g, e1, ?_⟩
    have ho' : w.ownsRow base 156 2 (.slice (some ⟨g, 0, none⟩) r.coming.length (M.sc 4)) r.coming.length (r.coming.flatMap (vCell M.tb)) := by rw [← e1]; exact ho
    have c : ∀ q, q < r.coming.length * 2 → w.cell? ⟨g, q, none⟩ = (r.coming.flatMap (vCell M.tb))[q]? := fun q hq => ho'.cellAt q hq
    have a := flat_at (vCell M.tb) 2 (fun _ => rfl) r.coming i v hq
    exact ⟨(c _ (by omega)).trans (a 0 (by omega)), (c _ (by omega)).trans (a 1 (by omega))⟩
end
end Go.Proofs.Ytagagpappjkgbaa
