/-
  The runner's leave.
-/
import Derived.Test.YtagagpappjkgbaaJx18
import Derived.Deep.RegionHeld
import Derived.BigRegion
namespace Go.Proofs.Ytagagpappjkgbaa
set_option linter.unusedVariables false
set_option linter.unusedSimpArgs false
open Go.RowKit Go.Shelf Go.Sort

theorem backX_le {lo : Nat} : ∀ {k : Nat} {r rb : XR}, r.kept.length ≤ lo → backX lo k r = some rb → rb = r
  | 0, r, rb, hl, h => by unfold backX at h; rw [if_pos hl] at h; injection h with h; exact h.symm
  | k + 1, r, rb, hl, h => by unfold backX at h; rw [if_pos hl] at h; injection h with h; exact h.symm
theorem backX_gt {lo : Nat} : ∀ {k : Nat} {r rb : XR}, ¬ r.kept.length ≤ lo → backX lo k r = some rb → ∃ (k' j : Nat) (q : XK) (ps : List XPl), k = k' + 1 ∧ r.kept.length = j + 1 ∧ r.kept[j]? = some q ∧ r.places[q.fn]? = some ps ∧ q.id < ps.length ∧ backX lo k' { r with kept := r.kept.take j, places := r.places.set q.fn (ps.set q.id q.was) } = some rb
  | 0, r, rb, hl, h => by unfold backX at h; rw [if_neg hl] at h; cases h
  | k + 1, r, rb, hl, h => by
    unfold backX at h
    rw [if_neg hl, Option.bind_eq_some_iff] at h
    obtain ⟨q, hq, h⟩ := h
    rw [Option.bind_eq_some_iff] at h
    obtain ⟨ps, hps, h⟩ := h
    split at h
    case isFalse => cases h
    case isTrue hid =>
    have hj : r.kept.length = (r.kept.length - 1) + 1 := by omega
    refine ⟨k, r.kept.length - 1, q, ps, rfl, hj, ?_, hps, hid, ?_⟩
    · rw [← List.getLast?_eq_getElem?]; exact hq
    · rw [← List.dropLast_eq_take]; exact h
section
variable {n0 base E : Nat} {fs : List SF} {cm : List (List (Int × Int))}
/-- The runner while what was kept is put back. -/
def LvI (n0 base E : Nat) (fs : List SF) (cm : List (List (Int × Int))) (r rb : XR) (M : XM) (B : Nat) (w0 : World) (vn : Int) (pv : Option Addr) (k : Nat) (wr : World) : Prop := ∃ (r1 : XR) (F1 : Nat → GRw),
  XOk n0 base E fs cm r1 M F1 wr ∧ backX r.now.kept k r1 = some rb ∧ r1.now = r.now ∧ wr.heap[B]? = some (.cells #[.int .i64 vn, .pointer pv] 156 (0, 0)) ∧ Below base w0 wr
theorem setC_drew (w : World) (a : Addr) (u : Value) : w.drew.setCell a u = (w.setCell a u).drew := rfl
theorem cells_off {w : World} {b B j : Nat} {cs : Array Value} {T : TypeId} {u : Value} (h : w.heap[B]? = some (.cells cs T (0, 0))) (hne : b ≠ B) : (w.setCell ⟨b, j, none⟩ u).heap[B]? = some (.cells cs T (0, 0)) := (Below.heap_setCell w ⟨b, j, none⟩ u B (fun e => hne e.symm)).trans h
set_option maxRecDepth 100000 in
set_option maxHeartbeats 16000000 in
theorem leave_c : LeaveC n0 base E fs cm := by
  intro r M F w v r' h hx
  unfold leaveX at hx
  rw [Option.bind_eq_some_iff] at hx
  obtain ⟨rb, hback, hx⟩ := hx
  obtain ⟨pv, hpv⟩ : ∃ pv : Option Addr, pv = v.of_.map (fun t => ⟨M.tb t, 0, none⟩) := ⟨_, rfl⟩
  rw [← hpv]
  obtain ⟨vn, hvn⟩ : ∃ vn, vn = v.n := ⟨_, rfl⟩
  rw [← hvn]
  obtain ⟨W, hW, hbW, hzW, h0W⟩ := gr_one w #[.int .i64 vn, .pointer pv] 156
  obtain ⟨B, hB⟩ : ∃ B, B = w.heap.size := ⟨_, rfl⟩
  rw [← hB] at h0W
  have H0 : Hid (LvI n0 base E fs cm r rb M B w vn pv r.kept.length W) := Lib.hid ⟨r, F, h.keep hbW, hback, rfl, h0W, hbW.mono h.sq.hb⟩
  have HpB : Hid (∀ (i : Nat) (ps : List XPl), r.places[i]? = some ps → M.pb i < B) := Lib.hid fun i ps hp => by
    have := (h.sq.at (h.fp i ps hp)).lt (M.pb i) rfl
    rw [hB]; exact this.2
  have HEB : Hid (E < B) := Lib.hid (by rw [hB]; exact h.sq.fam.el)
  have Hpn : Hid (r.places.length = fs.length) := Lib.hid h.pn
  have HW := Lib.hid hW
  have Hpv := Lib.hid hpv
  have Hvn := Lib.hid hvn
  have Hx := Lib.hid hx
  clear h hx hback hpv hvn hW hbW hzW h0W
  go_enter Try.func104, Try.ntmps104
  go_wp2_with fail
  rw [← HW.out, ← hB]
  clear hB HW
  go_loopw [4] (fun u4 wr => ∃ k, LvI n0 base E fs cm r rb M B w vn pv k wr) (fun u4 wr => leastN (fun k => LvI n0 base E fs cm r rb M B w vn pv k wr))
  case atStart => exact ⟨_, H0.out⟩
  case round =>
    clear H0
    obtain ⟨K, hK⟩ : ∃ K, K = leastN (fun k => LvI n0 base E fs cm r rb M B w vn pv k wr) := ⟨_, rfl⟩
    have hk : LvI n0 base E fs cm r rb M B w vn pv K wr := by rw [hK]; exact leastN_spec hrel
    have HK2 := Lib.hid hK
    clear hK hrel
    obtain ⟨r1, F1, h1, hb1, hn1, hB1, hw1⟩ := hk
    obtain ⟨kn, hkn⟩ : ∃ kn, kn = r1.kept.length := ⟨_, rfl⟩
    obtain ⟨lo0, hlo⟩ : ∃ lo0, lo0 = r.now.kept := ⟨_, rfl⟩
    have x18 : wr.cell? ⟨E, 18, none⟩ = some (.slice (M.sa 3) kn (M.sc 3)) := by rw [hkn]; exact h1.sq.cell 18 _ rfl
    have x15 : wr.cell? ⟨E, 15, none⟩ = some (.int .i64 (lo0 : Int)) := by rw [hlo, ← hn1]; exact h1.sq.cell 15 _ rfl
    have H1 := Lib.hid h1
    have Hn1 := Lib.hid hn1
    have HB1 := Lib.hid hB1
    have Hw1 := Lib.hid hw1
    rw [← hlo] at hb1
    by_cases hle : kn ≤ lo0
    · have d1 : decide ((kn : Int) > (lo0 : Int)) = false := decide_eq_false (by omega)
      have d2 : decide (lo0 < kn) = false := decide_eq_false (by omega)
      have hrb := backX_le (by rw [← hkn]; exact hle) hb1
      have hx := Hx.out
      rw [hrb] at hx
      split at hx
      case isFalse => cases hx
      case isTrue ham =>
      try dsimp only at hx
      have hcapA := own_cap (h1.sq.at (h1.fr 2 (by omega)))
      have hcapO := own_cap (h1.sq.at (h1.fr 1 (by omega)))
      have hD0 := h1.keep ((Below.refl wr.heap.size wr).drew.drew)
      obtain ⟨⟨F2, hA2⟩, hAb⟩ := hD0.cutA r1.now.args ham
      obtain ⟨am0, ham0⟩ : ∃ am0, am0 = r1.now.args := ⟨_, rfl⟩
      obtain ⟨al, hal⟩ : ∃ al, al = r1.args.length := ⟨_, rfl⟩
      have x17 : wr.cell? ⟨E, 17, none⟩ = some (.slice (M.sa 2) al (M.sc 2)) := by rw [hal]; exact h1.sq.cell 17 _ rfl
      have x14 : wr.cell? ⟨E, 14, none⟩ = some (.int .i64 (am0 : Int)) := by rw [ham0]; exact h1.sq.cell 14 _ rfl
      have xf17 := h1.sq.fro 17
      have hal1 : am0 ≤ al := by rw [hal, ham0]; exact ham
      have hal2 : al ≤ M.sc 2 := by rw [hal]; exact hcapA.1
      have hal3 : am0 ≤ M.sc 2 := Nat.le_trans hal1 hal2
      have hcut := cutA_run (A := M.sa 2) am0 hal1 hal2
      rw [← ham0] at hA2 hAb hx
      obtain ⟨V, hV⟩ : ∃ V, V = (wr.drew.setCell ⟨E, 17, none⟩ (.slice (M.sa 2) am0 (M.sc 2))).drew := ⟨_, rfl⟩
      have hV2 : wr.drew.drew.setCell ⟨E, 17, none⟩ (.slice (M.sa 2) am0 (M.sc 2)) = V := hV.symm
      rw [hV2] at hA2 hAb
      have hVB : V.heap[B]? = some (.cells #[.int .i64 vn, .pointer pv] 156 (0, 0)) := by
        rw [← hV2]
        exact cells_off HB1.out (Nat.ne_of_lt HEB.out)
      have HBV : Hid (Below base w V) := Lib.hid ((Hw1.out.trans ((Below.refl base wr).drew.drew)).trans hAb)
      obtain ⟨D, hDD⟩ : ∃ D, D = wr.drew := ⟨_, rfl⟩
      have y17 : D.cell? ⟨E, 17, none⟩ = some (.slice (M.sa 2) al (M.sc 2)) := by rw [hDD]; exact x17
      have y14 : D.cell? ⟨E, 14, none⟩ = some (.int .i64 (am0 : Int)) := by rw [hDD]; exact x14
      have yf17 : D.frozen? ⟨E, 17, none⟩ = false := by rw [hDD]; exact xf17
      rw [← hDD] at hV
      have HDD := Lib.hid hDD
      have HV := Lib.hid hV
      have HVB := Lib.hid hVB
      have HA2 := Lib.hid hA2
      have HcapO := Lib.hid hcapO
      have Hx2 := Lib.hid hx
      clear h1 hb1 hn1 hB1 hw1 hkn hlo HK2 hx Hx hrb ham hcapA hcapO hD0 hA2 hAb ham0 hal hV hV2 hVB hDD x17 x14 xf17 H1 Hn1 HB1 Hw1
      go_upto_region 1 with fail
      go_still_tail 10, (by kernel_rfl)
      change wpList _ _ _ _ _ wr.drew
      rw [← HDD.out]
      clear x18 x15
      go_upto_region 5 with fail
      go_still_tail 11, (by kernel_rfl)
      change wpList _ _ _ _ _ D.drew
      go_upto_region 6 with fail
      rw [← HV.out]
      clear y17 y14 yf17 hcut hal1 hal2 hal3 hle d1 d2
      have hx := Hx2.out
      obtain ⟨on1, hon1⟩ : ∃ on1, on1 = r1.outer.length := ⟨_, rfl⟩
      have y16 : V.cell? ⟨E, 16, none⟩ = some (.slice (M.sa 1) on1 (M.sc 1)) := by rw [hon1]; exact HA2.out.sq.cell 16 _ rfl
      have yB0 := Lib.cell_of_heap HVB.out 0
      have yB1 := Lib.cell_of_heap HVB.out 1
      cases hgl : r1.outer.getLast? with
      | none =>
        rw [hgl] at hx
        injection hx with hx
        have hon0 : on1 = 0 := by
          rw [hon1]
          have := List.getLast?_eq_none_iff.mp hgl
          rw [this]; rfl
        rw [hon0] at y16
        have hS := stop_c HA2.out 1 vn
        rw [Hvn.out] at hS
        rw [hx] at hS
        rw [← Hvn.out] at hS
        clear hx hgl hon1 hon0 yB1
        go_wp2_with (go_at_call 101; refine hS.mono ?_; rintro e Z ⟨rfl, hN, hb⟩; have HN := Lib.hid hN; have Hb := Lib.hid hb; clear hN hb hS)
        try simp only [Exit.inBlock, Exit.then]
        first
          | refine bodyPost_ret (results_none rfl _ _ _) rfl ?_
          | refine bodyPost_end (results_none rfl _ _ _) rfl ?_
        exact ⟨rfl, ⟨M, _, HN.out⟩, HBV.out.trans Hb.out⟩
      | some c =>
        rw [hgl] at hx
        dsimp only at hx
        rw [Option.bind_eq_some_iff] at hx
        obtain ⟨kb, hkb, hx⟩ := hx
        split at hx
        case isFalse => cases hx
        case isTrue hat1 =>
        rw [Option.bind_eq_some_iff] at hx
        obtain ⟨id, hid, hset⟩ := hx
        have hon : 0 < on1 := by
          rw [hon1]
          cases ho : r1.outer with
          | nil => rw [ho] at hgl; cases hgl
          | cons a l => simp
        obtain ⟨on, hone⟩ : ∃ on, on1 = on + 1 := ⟨on1 - 1, by omega⟩
        have hgo : r1.outer[on]? = some c := by
          rw [List.getLast?_eq_getElem?, ← hon1, hone, Nat.add_sub_cancel] at hgl
          exact hgl
        rw [List.dropLast_eq_take, ← hon1, hone, Nat.add_sub_cancel] at hset
        have hVd := HA2.out.keep ((Below.refl V.heap.size V).drew)
        obtain ⟨⟨F3, hP⟩, hPb⟩ := hVd.popO c on (by show on ≤ r1.outer.length; omega)
        obtain ⟨g, hg, c0, c1, c2, c3, c4⟩ := HA2.out.outer_at hgo
        have y11 := HA2.out.sq.cell 11 _ rfl
        have y12 := HA2.out.sq.cell 12 _ rfl
        have y13 := HA2.out.sq.cell 13 _ rfl
        have y14 := HA2.out.sq.cell 14 _ rfl
        have y15 := HA2.out.sq.cell 15 _ rfl
        have yf := HA2.out.sq.fro
        have hoc : on1 ≤ M.sc 1 := by rw [hon1]; exact HcapO.out.1
        have hoc1 : on ≤ M.sc 1 := by omega
        have hoc2 : M.sc 1 ≤ 9223372036854775807 := HcapO.out.2
        have hcut := cutO_run (A := M.sa 1) (n := on1) on (by omega) hoc
        have hon64 : IntKind.i64.wrap ((on1 : Int) - 1) = (on : Int) := by rw [IntKind.wrap_i64]; omega
        have don : decide ((on : Int) < 0) = false := decide_eq_false (by omega)
        have hlt : on < on1 := by omega
        obtain ⟨X, hX⟩ : ∃ X, X = ((((((V.setCell ⟨E, 11, none⟩ (.int .i64 (c.which : Int))).setCell ⟨E, 12, none⟩ (.int .i64 (c.block : Int))).setCell ⟨E, 13, none⟩ (.int .i64 (c.at_ : Int))).setCell ⟨E, 14, none⟩ (.int .i64 (c.args : Int))).setCell ⟨E, 15, none⟩ (.int .i64 (c.kept : Int))).setCell ⟨E, 16, none⟩ (.slice (M.sa 1) on (M.sc 1))).drew := ⟨_, rfl⟩
        have hX2 : (((((V.drew.setCell ⟨E, 11, none⟩ (.int .i64 (c.which : Int))).setCell ⟨E, 12, none⟩ (.int .i64 (c.block : Int))).setCell ⟨E, 13, none⟩ (.int .i64 (c.at_ : Int))).setCell ⟨E, 14, none⟩ (.int .i64 (c.args : Int))).setCell ⟨E, 15, none⟩ (.int .i64 (c.kept : Int))).setCell ⟨E, 16, none⟩ (.slice (M.sa 1) on (M.sc 1)) = X := by rw [hX]; simp only [setC_drew]
        rw [hX2] at hP hPb
        have hXB : X.heap[B]? = some (.cells #[.int .i64 vn, .pointer pv] 156 (0, 0)) := by
          rw [← hX2]
          have hne := Nat.ne_of_lt HEB.out
          exact cells_off (cells_off (cells_off (cells_off (cells_off (cells_off HVB.out hne) hne) hne) hne) hne) hne
        have HBX : Hid (Below base w X) := Lib.hid ((HBV.out.trans ((Below.refl base V).drew)).trans hPb)
        have HXb : Hid (base ≤ X.heap.size) := Lib.hid hP.sq.hb
        rw [hg] at y16 hcut hX
        obtain ⟨an, han⟩ : ∃ an, an = c.at_ := ⟨_, rfl⟩
        obtain ⟨am, ham⟩ : ∃ am, am = c.at_ - 1 := ⟨_, rfl⟩
        rw [← han] at c2 hX hat1 ham
        have ex13 : X.cell? ⟨E, 13, none⟩ = some (.int .i64 (an : Int)) := by rw [han]; exact hP.sq.cell 13 _ rfl
        obtain ⟨lA, lc, hgns, hL⟩ := list_v hP kb hkb
        have hidl : am < kb.list.length := by rw [ham, han]; exact (List.getElem?_eq_some_iff.mp hid).1
        obtain ⟨lb, lo, rfl, hlb, kl⟩ := hgns.at hidl
        have hide : kb.list[am] = id := by
          have e : kb.list[am]? = some id := by rw [ham, han]; exact hid
          exact (List.getElem?_eq_some_iff.mp e).2
        rw [hide] at kl
        have hlbE : lb < X.heap.size := Nat.lt_of_lt_of_le hlb (Nat.le_trans hP.n0b hP.sq.hb)
        have hnow : r'.now = c := by
          obtain ⟨_, _, _, _, _, _, _, e⟩ := setX_some hset
          rw [e]
        have HS1 : Hid (∀ A, Below X.heap.size X A → A.cell? ⟨E, 13, none⟩ = some (.int .i64 (an : Int)) ∧ A.cell? ⟨lb, lo + am, none⟩ = some (.int .i64 id)) := Lib.hid fun A hA => ⟨(hA.cell (p := ⟨E, 13, none⟩) hP.sq.fam.el).trans ex13, (hA.cell (p := ⟨lb, lo + am, none⟩) hlbE).trans kl⟩
        have HS2 : Hid (∀ Z A, Below X.heap.size X A → XTo n0 base E fs cm r' M A Z → Z.cell? ⟨E, 13, none⟩ = some (.int .i64 (an : Int)) ∧ Z.cell? ⟨lb, lo + am, none⟩ = some (.int .i64 id)) := Lib.hid fun Z A hA hN => by
          obtain ⟨⟨M', F', hZ, -⟩, hAZ⟩ := hN
          have e := hZ.sq.cell 13 _ rfl
          rw [hnow] at e
          have hlb2 : lb < base := Nat.lt_of_lt_of_le hlb hP.n0b
          exact ⟨by rw [han]; exact e, (hAZ.cell (p := ⟨lb, lo + am, none⟩) hlb2).trans ((hA.cell (p := ⟨lb, lo + am, none⟩) hlbE).trans kl)⟩
        have HBc : Hid (∀ A, Below X.heap.size X A → A.cell? ⟨B, 0, none⟩ = some (.int .i64 vn) ∧ A.cell? ⟨B, 1, none⟩ = some (.pointer pv)) := Lib.hid fun A hA => by
          have e := (hA.block B (gr_in hXB)).trans hXB
          exact ⟨Lib.cell_of_heap e 0, Lib.cell_of_heap e 1⟩
        have HSt : Hid (∀ A, Below X.heap.size X A → Calls Try.prog 105 #[.pointer (some ⟨E, 0, none⟩), .int .i64 id, .agg #[.int .i64 vn, .pointer pv]] A fun e w' => e = .returned (.tuple #[]) ∧ XTo n0 base E fs cm r' M A w') := Lib.hid fun A hA => by
          rw [Hvn.out, Hpv.out]
          exact set_c (hP.keep hA) id v r' hset
        obtain ⟨ln, hln⟩ : ∃ ln, ln = kb.list.length := ⟨_, rfl⟩
        rw [← hln] at hL hidl
        have hlnb : ln ≤ 1048576 := by
          obtain ⟨f, hf, hkb'⟩ := blkX_some hkb
          rw [hln]
          exact hP.ls f (List.mem_of_getElem? hf) kb (List.mem_of_getElem? hkb')
        have han64 : IntKind.i64.wrap ((an : Int) - 1) = (am : Int) := by rw [IntKind.wrap_i64]; omega
        have HX := Lib.hid hX
        have Hyl := Lib.hid kl
        have Hy13 := Lib.hid ex13
        have HXB := Lib.hid hXB
        clear hgl hkb hid hset hgo hVd hP hPb hg hX hX2 hXB hgns hide hnow hln kl ex13 han hon1 hone ham hat1 hlb hlbE
        go_upto_region 9 with fail
        go_region
        rw [← HX.out]
        go_upto_region 10 with fail
        clear y16 y11 y12 y13 y14 y15 yf c0 c1 c2 c3 c4 yB0 yB1 hcut
        have y13 := Hy13.out
        have yl := Hyl.out
        have yB0 := Lib.cell_of_heap HXB.out 0
        have yB1 := Lib.cell_of_heap HXB.out 1
        refine wp_region_held_drew (S := fun u => u.cell? ⟨E, 13, none⟩ = some (.int .i64 (an : Int)) ∧ u.cell? ⟨lb, lo + am, none⟩ = some (.int .i64 id)) (by kernel_rfl) ⟨y13, yl⟩ (fun hHeld => ?_)
        refine wpAnyH_take (i := 0) (v := ?_) rfl (by kernel_rfl) (by kernel_rfl) (by kernel_rfl) (fun _ _ _ h => h) (Or.inl ⟨by kernel_rfl, ?_⟩) (by assumption) ?_
        rotate_left
        · (intro w hSw; (try dsimp only at hSw); first | (go_simp; done) | (go_simp; with_reducible rfl))
        try simp only [Act.put, List.setIfInBounds_toArray, List.set_cons_zero, List.set_cons_succ]
        refine wpAnyH_take (i := 1) (v := ?_) rfl (by kernel_rfl) (by kernel_rfl) (by kernel_rfl) (fun _ _ _ h => h) (Or.inl ⟨by kernel_rfl, ?_⟩) (by assumption) ?_
        rotate_left
        · (intro w hSw; (try dsimp only at hSw); first | (go_simp; done) | (go_simp; with_reducible rfl))
        try simp only [Act.put, List.setIfInBounds_toArray, List.set_cons_zero, List.set_cons_succ]
        refine wpAnyH_take (i := 3) (v := ?_) rfl (by kernel_rfl) (by kernel_rfl) (by kernel_rfl) (fun _ _ _ h => h) (Or.inl ⟨by kernel_rfl, ?_⟩) (by assumption) ?_
        rotate_left
        · (intro w hSw; (try dsimp only at hSw); first | (go_simp; done) | (go_simp; with_reducible rfl))
        try simp only [Act.put, List.setIfInBounds_toArray, List.set_cons_zero, List.set_cons_succ]
        refine wpAnyH_take (i := 4) (v := ?_) rfl (by kernel_rfl) (by kernel_rfl) (by kernel_rfl) (fun _ _ _ h => h) (Or.inl ⟨by kernel_rfl, ?_⟩) (by assumption) ?_
        rotate_left
        · (intro w hSw; (try dsimp only at hSw); first | (go_simp; done) | (go_simp; with_reducible rfl))
        try simp only [Act.put, List.setIfInBounds_toArray, List.set_cons_zero, List.set_cons_succ]
        refine wpAnyH_take (i := 5) (v := ?_) rfl (by kernel_rfl) (by kernel_rfl) (by kernel_rfl) (fun _ _ _ h => h) (Or.inl ⟨by kernel_rfl, ?_⟩) (by assumption) ?_
        rotate_left
        · (intro w hSw; (try dsimp only at hSw); first | (go_simp; done) | (go_simp; with_reducible rfl))
        try simp only [Act.put, List.setIfInBounds_toArray, List.set_cons_zero, List.set_cons_succ]
        refine wpAnyH_take (i := 6) (v := ?_) rfl (by kernel_rfl) (by kernel_rfl) (by kernel_rfl) (fun _ _ _ h => h) (Or.inl ⟨by kernel_rfl, ?_⟩) (by assumption) ?_
        rotate_left
        · (intro w hSw; (try dsimp only at hSw); first | (go_simp; done) | (go_simp; with_reducible rfl))
        try simp only [Act.put, List.setIfInBounds_toArray, List.set_cons_zero, List.set_cons_succ]
        refine wpAnyH_take (i := 7) (v := ?_) rfl (by kernel_rfl) (by kernel_rfl) (by kernel_rfl) (fun _ _ _ h => h) (Or.inl ⟨by kernel_rfl, ?_⟩) (by assumption) ?_
        rotate_left
        · (intro w hSw; (try dsimp only at hSw); first | (go_simp; done) | (go_simp; with_reducible rfl))
        try simp only [Act.put, List.setIfInBounds_toArray, List.set_cons_zero, List.set_cons_succ]
        refine wpAnyH_take (i := 8) (v := ?_) rfl (by kernel_rfl) (by kernel_rfl) (by kernel_rfl) (fun _ _ _ h => h) (Or.inl ⟨by kernel_rfl, ?_⟩) (by assumption) ?_
        rotate_left
        · (intro w hSw; (try dsimp only at hSw); first | (go_simp; done) | (go_simp; with_reducible rfl))
        try simp only [Act.put, List.setIfInBounds_toArray, List.set_cons_zero, List.set_cons_succ]
        refine wpAnyH_ready (rs := [2, 11]) (by kernel_rfl) (by simp) ?_
        refine AllReadyH.cons rfl (fun K hK => ?_) (AllReadyH.cons rfl (fun K hK => ?_) (AllReadyH.nil))
        · have hs0 : X.drew.cell? ⟨E, 13, none⟩ = some (.int .i64 (an : Int)) ∧ X.drew.cell? ⟨lb, lo + am, none⟩ = some (.int .i64 id) := ⟨y13, yl⟩
          go_simp
          refine (hL _ (Below.refl X.heap.size X).drew).mono ?_
          rintro e A ⟨rfl, hbA⟩
          have hbXA : Below X.heap.size X A := (Below.refl X.heap.size X).drew.trans hbA
          have hs1 := HS1.out A hbXA
          obtain ⟨z0, z1⟩ := HBc.out A hbXA
          have hSt := HSt.out A hbXA
          have HbXA := Lib.hid hbXA
          clear hbA hbXA hL
          try dsimp only
          refine hK.out _ _ ?_ (fun hHeld => ?_)
          · ((try dsimp only); first | with_reducible assumption | exact hs1 | exact hs2 | exact hs0)
          clear hK K
          try simp only [Act.put, List.setIfInBounds_toArray, List.set_cons_zero, List.set_cons_succ]
          refine wpAnyH_take (i := 9) (v := ?_) rfl (by kernel_rfl) (by kernel_rfl) (by kernel_rfl) (fun _ _ _ h => h) (Or.inl ⟨by kernel_rfl, ?_⟩) (by assumption) ?_
          rotate_left
          · (intro w hSw; (try dsimp only at hSw); first | (go_simp; done) | (go_simp; with_reducible rfl))
          try simp only [Act.put, List.setIfInBounds_toArray, List.set_cons_zero, List.set_cons_succ]
          refine wpAnyH_take (i := 10) (v := ?_) rfl (by kernel_rfl) (by kernel_rfl) (by kernel_rfl) (fun _ _ _ h => h) (Or.inl ⟨by kernel_rfl, ?_⟩) (by assumption) ?_
          rotate_left
          · (intro w hSw; (try dsimp only at hSw); first | (go_simp; done) | (go_simp; with_reducible rfl))
          try simp only [Act.put, List.setIfInBounds_toArray, List.set_cons_zero, List.set_cons_succ]
          refine wpAnyH_ready (rs := [11]) (by kernel_rfl) (by simp) ?_
          refine AllReadyH.cons rfl (fun K hK => ?_) (AllReadyH.nil)
          go_simp
          refine hK.out _ _ ?_ (fun hHeld => ?_)
          · ((try dsimp only); first | with_reducible assumption | exact hs1 | exact hs2 | exact hs0)
          clear hK K
          try simp only [Act.put, List.setIfInBounds_toArray, List.set_cons_zero, List.set_cons_succ]
          refine wpAnyH_ready (rs := [12]) (by kernel_rfl) (by simp) ?_
          refine AllReadyH.cons rfl (fun K hK => ?_) (AllReadyH.nil)
          go_simp
          refine hSt.mono ?_
          rintro e Z ⟨rfl, hN⟩
          have HN := Lib.hid hN
          have hs2 := HS2.out Z A HbXA.out hN
          clear hN hSt
          try dsimp only
          refine hK.out _ _ ?_ (fun hHeld => ?_)
          · ((try dsimp only); first | with_reducible assumption | exact hs1 | exact hs2 | exact hs0)
          clear hK K
          try simp only [Act.put, List.setIfInBounds_toArray, List.set_cons_zero, List.set_cons_succ]
          refine wpAnyH_done (by kernel_rfl) ?_ _
          skip
          try simp only [Exit.inBlock, Exit.then]
          first
            | refine bodyPost_ret (results_none rfl _ _ _) rfl ?_
            | refine bodyPost_end (results_none rfl _ _ _) rfl ?_
          exact ⟨rfl, HN.out.now (HBX.out.trans (HbXA.out.mono HXb.out))⟩
        · have hs0 : X.drew.cell? ⟨E, 13, none⟩ = some (.int .i64 (an : Int)) ∧ X.drew.cell? ⟨lb, lo + am, none⟩ = some (.int .i64 id) := ⟨y13, yl⟩
          have b0 : X.drew.cell? ⟨B, 0, none⟩ = some (.int .i64 vn) := yB0
          have b1 : X.drew.cell? ⟨B, 1, none⟩ = some (.pointer pv) := yB1
          go_simp
          refine hK.out _ _ ?_ (fun hHeld => ?_)
          · ((try dsimp only); first | with_reducible assumption | exact hs1 | exact hs2 | exact hs0)
          clear hK K
          try simp only [Act.put, List.setIfInBounds_toArray, List.set_cons_zero, List.set_cons_succ]
          refine wpAnyH_ready (rs := [2]) (by kernel_rfl) (by simp) ?_
          refine AllReadyH.cons rfl (fun K hK => ?_) (AllReadyH.nil)
          go_simp
          refine (hL _ (Below.refl X.heap.size X).drew).mono ?_
          rintro e A ⟨rfl, hbA⟩
          have hbXA : Below X.heap.size X A := (Below.refl X.heap.size X).drew.trans hbA
          have hs1 := HS1.out A hbXA
          obtain ⟨z0, z1⟩ := HBc.out A hbXA
          have hSt := HSt.out A hbXA
          have HbXA := Lib.hid hbXA
          clear hbA hbXA hL
          try dsimp only
          refine hK.out _ _ ?_ (fun hHeld => ?_)
          · ((try dsimp only); first | with_reducible assumption | exact hs1 | exact hs2 | exact hs0)
          clear hK K
          try simp only [Act.put, List.setIfInBounds_toArray, List.set_cons_zero, List.set_cons_succ]
          refine wpAnyH_take (i := 9) (v := ?_) rfl (by kernel_rfl) (by kernel_rfl) (by kernel_rfl) (fun _ _ _ h => h) (Or.inl ⟨by kernel_rfl, ?_⟩) (by assumption) ?_
          rotate_left
          · (intro w hSw; (try dsimp only at hSw); first | (go_simp; done) | (go_simp; with_reducible rfl))
          try simp only [Act.put, List.setIfInBounds_toArray, List.set_cons_zero, List.set_cons_succ]
          refine wpAnyH_take (i := 10) (v := ?_) rfl (by kernel_rfl) (by kernel_rfl) (by kernel_rfl) (fun _ _ _ h => h) (Or.inl ⟨by kernel_rfl, ?_⟩) (by assumption) ?_
          rotate_left
          · (intro w hSw; (try dsimp only at hSw); first | (go_simp; done) | (go_simp; with_reducible rfl))
          try simp only [Act.put, List.setIfInBounds_toArray, List.set_cons_zero, List.set_cons_succ]
          refine wpAnyH_ready (rs := [12]) (by kernel_rfl) (by simp) ?_
          refine AllReadyH.cons rfl (fun K hK => ?_) (AllReadyH.nil)
          go_simp
          refine hSt.mono ?_
          rintro e Z ⟨rfl, hN⟩
          have HN := Lib.hid hN
          have hs2 := HS2.out Z A HbXA.out hN
          clear hN hSt
          try dsimp only
          refine hK.out _ _ ?_ (fun hHeld => ?_)
          · ((try dsimp only); first | with_reducible assumption | exact hs1 | exact hs2 | exact hs0)
          clear hK K
          try simp only [Act.put, List.setIfInBounds_toArray, List.set_cons_zero, List.set_cons_succ]
          refine wpAnyH_done (by kernel_rfl) ?_ _
          skip
          try simp only [Exit.inBlock, Exit.then]
          first
            | refine bodyPost_ret (results_none rfl _ _ _) rfl ?_
            | refine bodyPost_end (results_none rfl _ _ _) rfl ?_
          exact ⟨rfl, HN.out.now (HBX.out.trans (HbXA.out.mono HXb.out))⟩
    · have d1 : decide ((kn : Int) > (lo0 : Int)) = true := decide_eq_true (by omega)
      have d2 : decide (lo0 < kn) = true := decide_eq_true (by omega)
      have hlk : lo0 < kn := by omega
      obtain ⟨k', j, q, ps, rfl, hj, hq, hps, hqid, hb2⟩ := backX_gt (by rw [← hkn]; exact hle) hb1
      have hkj : kn = j + 1 := by rw [hkn]; exact hj
      have hD := h1.keep ((Below.refl wr.heap.size wr).drew)
      obtain ⟨g, hg, q0, q1, q2, q3⟩ := hD.kept_at hq
      obtain ⟨po, hpo⟩ : ∃ po, ps[q.id]? = some po := ⟨_, List.getElem?_eq_getElem hqid⟩
      obtain ⟨o0, o1, o2⟩ := hD.place_at hps hpo
      obtain ⟨ppo, hppo⟩ : ∃ pp : Option Addr, pp = po.v.of_.map (fun t => ⟨M.tb t, 0, none⟩) := ⟨_, rfl⟩
      rw [← hppo] at o1
      have of : ∀ i, wr.drew.frozen? ⟨M.pb q.fn, i, none⟩ = false := fun i => by
        have := hD.sq.at (hD.fp _ _ hps)
        rcases this.2 with ⟨e, -⟩ | ⟨g, cap, cur, e, -, hg, -⟩
        · cases e
        · injection e with e1
          have e2 : M.pb q.fn = g := by injection e1 with e1; injection e1
          rw [e2]
          exact Lib.frozen_of_heap hg i
      obtain ⟨⟨F2, hP⟩, hPb⟩ := (hD.keep ((Below.refl wr.drew.heap.size wr.drew).drew)).place_set hps hqid q.was
      obtain ⟨pq, hpq⟩ : ∃ pq : Option Addr, pq = q.was.v.of_.map (fun t => ⟨M.tb t, 0, none⟩) := ⟨_, rfl⟩
      rw [← hpq] at q2 hP hPb
      have hcap := own_cap (h1.sq.at (h1.fr 3 (by omega)))
      have hcut := cutK_run (A := M.sa 3) j (by rw [← hkn, hkj]; omega) hcap.1
      have hj64 : IntKind.i64.wrap ((kn : Int) - 1) = (j : Int) := by rw [IntKind.wrap_i64, hkj]; omega
      have hpl : M.pb q.fn < B := by
        have : q.fn < r.places.length := by rw [Hpn.out, ← h1.pn]; exact (List.getElem?_eq_some_iff.mp hps).1
        exact HpB.out q.fn _ (List.getElem?_eq_getElem this)
      obtain ⟨D, hDD⟩ : ∃ D, D = wr.drew := ⟨_, rfl⟩
      have hne : M.pb q.fn ≠ E := fun e => by
        have hav := hD.sq.fam.av (7 + 4 * q.fn)
        rw [hD.fp _ _ hps] at hav
        exact hav (by show some (M.pb q.fn) = some E; rw [e])
      rw [← hDD] at q0 q1 q2 q3 o0 o1 o2 of hP hPb
      rw [hg] at x18 hcut
      have x18D : D.cell? ⟨E, 18, none⟩ = some (.slice (some ⟨g, 0, none⟩) kn (M.sc 3)) := by rw [hDD]; exact x18
      obtain ⟨Z, hZ⟩ : ∃ Z, Z = (((D.setCell ⟨M.pb q.fn, q.id * 3, none⟩ (.int .i64 q.was.v.n)).setCell ⟨M.pb q.fn, q.id * 3 + 1, none⟩ (.pointer pq)).setCell ⟨M.pb q.fn, q.id * 3 + 2, none⟩ (.int .i64 q.was.deep)).drew := ⟨_, rfl⟩
      have hZ2 : (((D.drew.setCell ⟨M.pb q.fn, q.id * 3, none⟩ (.int .i64 q.was.v.n)).setCell ⟨M.pb q.fn, q.id * 3 + 1, none⟩ (.pointer pq)).setCell ⟨M.pb q.fn, q.id * 3 + 2, none⟩ (.int .i64 q.was.deep)) = Z := hZ.symm
      rw [hZ2] at hP hPb
      have hZB : Z.heap[B]? = some (.cells #[.int .i64 vn, .pointer pv] 156 (0, 0)) := by
        rw [← hZ2]
        exact cells_off (cells_off (cells_off (by rw [hDD]; exact HB1.out) (Nat.ne_of_lt hpl)) (Nat.ne_of_lt hpl)) (Nat.ne_of_lt hpl)
      have z18 : Z.cell? ⟨E, 18, none⟩ = some (.slice (some ⟨g, 0, none⟩) kn (M.sc 3)) := by rw [hkn, ← hg]; exact hP.sq.cell 18 _ rfl
      have zf := hP.sq.fro 18
      obtain ⟨⟨F3, hC⟩, hCb⟩ := hP.cutK j (by show j ≤ r1.kept.length; omega)
      obtain ⟨V, hV⟩ : ∃ V, V = Z.setCell ⟨E, 18, none⟩ (.slice (M.sa 3) j (M.sc 3)) := ⟨_, rfl⟩
      rw [← hV] at hC hCb
      have hVB : V.heap[B]? = some (.cells #[.int .i64 vn, .pointer pv] 156 (0, 0)) := by
        rw [hV]
        exact cells_off hZB (Nat.ne_of_lt HEB.out)
      rw [hg] at hV
      have HN : Hid (LvI n0 base E fs cm r rb M B w vn pv k' V) := Lib.hid ⟨_, F3, hC, by rw [← hlo]; exact hb2, Hn1.out, hVB, (Hw1.out.trans (by
        have e : Below base wr D := by rw [hDD]; exact (Below.refl base wr).drew
        exact e.trans ((Below.refl base D).drew.trans hPb))).trans hCb⟩
      have HV := Lib.hid hV
      have HZ := Lib.hid hZ
      have HDD := Lib.hid hDD
      have Hkj := Lib.hid hkj
      have hjl : j < kn := by rw [hkj]; exact Nat.lt_succ_self j
      have hksc : kn ≤ M.sc 3 := by rw [hkn]; exact hcap.1
      have hjsc : j ≤ M.sc 3 := Nat.le_trans (Nat.le_of_lt hjl) hksc
      have hkb : kn ≤ 9223372036854775807 := by have := hcap.1; rw [← hkn] at this; omega
      obtain ⟨psl, hpsl⟩ : ∃ psl, psl = ps.length := ⟨_, rfl⟩
      clear h1 hb1 hn1 hB1 hw1 hkn hlo hle hj hq hps hb2 hD hg hP hPb hcap hpl hne hZ hZ2 hZB hC hCb hV hVB hpq hDD hkj hpsl hqid hpo hppo
      go_upto_region 1 with fail
      go_still_tail 10, (by kernel_rfl)
      change wpList _ _ _ _ _ wr.drew
      rw [← HDD.out]
      clear x15
      have x18 := x18D
      clear x18D
      go_upto_region 3 with fail
      go_still_tail 16, (by kernel_rfl)
      change wpList _ _ _ _ _ D.drew
      clear x18
      go_upto_region 4 with fail
      rw [← HZ.out]
      clear q0 q1 q2 q3 o0 o1 o2 of
      go_wp2
      rw [← HV.out]
      go_roundw
      case rel => exact ⟨k', HN.out⟩
      case measure => rw [← HK2.out]; exact Nat.lt_succ_of_le (leastN_le HN.out)
end
end Go.Proofs.Ytagagpappjkgbaa
