/-
  Programs that may be: predsRight, where it says yes.
-/
import Derived.Test.YtagagpappjkgbaaJx32
import Derived.Test.YtagagpappjkgbaaJx35
namespace Go.Proofs.Ytagagpappjkgbaa
set_option linter.unusedVariables false
set_option linter.unusedSimpArgs false
open Go.RowKit Go.Sort

def manyRow : List Int → List Int → Option (List Int)
  | [], m => some m
  | t :: ts, m => if 0 ≤ t ∧ t < m.length ∧ 0 ≤ m.getD t.toNat 0 ∧ m.getD t.toNat 0 ≤ 1048576 then manyRow ts (m.set t.toNat (m.getD t.toNat 0 + 1)) else none
def manyFrom : List SB → List Int → Option (List Int)
  | [], m => some m
  | k :: ks, m => match manyRow k.to_ m with
    | some m' => manyFrom ks m'
    | none => none
def predRow (bl : List SB) (b : Int) : List Int → List Int → Option (List Int)
  | [], l => some l
  | a :: rs, l => if 0 ≤ a ∧ a < l.length ∧ a < bl.length ∧ l.getD a.toNat 0 ≠ b ∧ b ∈ ((bl[a.toNat]?).map SB.to_).getD [] then predRow bl b rs (l.set a.toNat b) else none
def predsFrom (bl : List SB) (many : List Int) : Nat → List SB → List Int → Bool
  | _, [], _ => true
  | i, k :: ks, l => decide (many.getD i 0 = k.preds.length) && (match predRow bl i k.preds l with
    | some l' => predsFrom bl many (i + 1) ks l'
    | none => false)

set_option maxRecDepth 100000 in
set_option maxHeartbeats 8000000 in
theorem preds_t (n0 sb : Nat) (V : SV) (fs : List SF) (f : SF) (vi va : Value) (w : World) (h : Sbj n0 sb V fs f vi va w) (h1 : 1 ≤ f.blocks.length) (hlen : ∀ k ∈ f.blocks, k.to_.length ≤ 1048576 ∧ k.preds.length ≤ 1048576) (many : List Int) (hm : manyFrom f.blocks (List.replicate f.blocks.length 0) = some many) (hp : predsFrom f.blocks many 0 f.blocks (List.replicate f.blocks.length (-1)) = true) :
    Calls Try.prog 95 #[.pointer (some ⟨sb, 0, none⟩)] w fun e w' => e = .returned (.bool true) ∧ Below w.heap.size w w' := by
  obtain ⟨bA, hbA⟩ : ∃ bA, V.bA = bA := ⟨_, rfl⟩
  obtain ⟨bn, hbn⟩ : ∃ bn, V.bn = bn := ⟨_, rfl⟩
  obtain ⟨bc, hbc⟩ : ∃ bc, V.bc = bc := ⟨_, rfl⟩
  have hbl : bn = f.blocks.length := hbn ▸ h.bl
  have HX6 : Hid (∀ A, Below w.heap.size w A → A.cell? ⟨sb, 6, none⟩ = some (.slice bA bn bc)) := Lib.hid fun A hA => by
    rw [← hbA, ← hbn, ← hbc]
    exact Lib.cell_of_heap (h.keep hA).c 6
  have HI : Hid (∀ A, Below w.heap.size w A → SBs n0 A (.slice bA bn bc) f.blocks ∧ n0 ≤ A.heap.size) := Lib.hid fun A hA => by
    rw [← hbA, ← hbn, ← hbc]
    exact ⟨(h.keep hA).br, (h.keep hA).hn⟩
  have hbb : bn ≤ 1048576 := hbn ▸ h.bb
  have h1n : 1 ≤ bn := by omega
  have hn0w : n0 ≤ w.heap.size := h.hn
  have Hbl := Lib.hid hbl
  have Hlen := Lib.hid hlen
  have Hp := Lib.hid hp
  have hmk := makeZ bn hbb
  obtain ⟨W1, hW1, hbW1, hzW1, h0W1⟩ := gr_one w (intsV (List.replicate bn 0)).toArray 3
  obtain ⟨mb, hmb⟩ : ∃ mb, mb = w.heap.size := ⟨_, rfl⟩
  have HN0 : Hid (IRow W1 mb (List.replicate bn 0) ∧ Below w.heap.size w W1 ∧ (List.replicate bn (0 : Int)).length = bn ∧ manyFrom (f.blocks.drop 0) (List.replicate bn 0) = some many) := Lib.hid ⟨by rw [hmb]; exact h0W1, hbW1, by simp, by rw [hbl]; exact hm⟩
  have Hmb := Lib.hid hmb
  have HW1 := Lib.hid hW1
  have x6 := HX6.out w (Below.refl _ _)
  have x6' := HX6.out W1 hbW1
  clear h hbl h1 hlen hm hp hbA hbn hbc hbW1 hzW1 h0W1 hW1
  go_enter Try.func95, Try.ntmps95
  go_upto_region 2 with fail
  rw [← HW1.out]
  rw [← hmb]
  clear hmk x6 hmb
  go_upto_block 0 with fail
  clear x6'
  go_wp2_with fail
  go_loopw [26] (fun u26 wr => ∃ (i : Nat) (m : List Int), i ≤ bn ∧ u26 = .int .i64 i ∧ Hid (IRow wr mb m ∧ Below w.heap.size w wr ∧ m.length = bn ∧ manyFrom (f.blocks.drop i) m = some many)) (fun u26 _ => bn - (intOf u26).toNat)
  case atStart => exact ⟨0, _, Nat.zero_le _, rfl, HN0⟩
  case round =>
    clear HN0
    obtain ⟨i, m, hi, rfl, HN⟩ := hrel
    obtain ⟨C, hC⟩ : ∃ C, C = wr := ⟨_, rfl⟩
    rw [← hC] at HN ⊢
    clear hC
    by_cases hli : i < bn
    · have hil : i < f.blocks.length := by rw [← Hbl.out]; exact hli
      have hnC := (HI.out C HN.out.2.1).2
      obtain ⟨gb, o, lA, lc, pA', pc', tA, tc, rfl, hgb, k0, k1, k2, k3, k4, -, -, ht⟩ := (HI.out C HN.out.2.1).1.at hil
      obtain ⟨d, hd⟩ : ∃ d, d = f.blocks[i] := ⟨_, rfl⟩
      have htb := (Hlen.out d (by rw [hd]; exact List.getElem_mem hil)).1
      rw [← hd] at k0 k1 k2 k3 k4 ht
      have hmf := HN.out.2.2.2
      rw [List.drop_eq_getElem_cons hil, ← hd] at hmf
      unfold manyFrom at hmf
      obtain ⟨Z, hZ, hbZ, hzZ, h0Z⟩ := gr_one C #[.slice lA d.list.length lc, .slice pA' d.preds.length pc', .int .i64 d.kind, .int .i64 d.arg, .slice tA d.to_.length tc] 76
      have hIZ : IRow Z mb m := HN.out.1.keep (hbZ.block mb HN.out.1.lt)
      have hZw : Below w.heap.size w Z := HN.out.2.1.trans (hbZ.mono HN.out.2.1.size)
      have HNj : Hid (IRow Z mb m ∧ Below w.heap.size w Z ∧ Below n0 C Z ∧ m.length = bn ∧ (match manyRow (d.to_.drop 0) m with | some m' => manyFrom (f.blocks.drop (i + 1)) m' | none => none) = some many) := Lib.hid ⟨hIZ, hZw, hbZ.mono hnC, HN.out.2.2.1, hmf⟩
      have Hgt : Hid (∀ A, Below n0 C A → GNs n0 A (.slice tA d.to_.length tc) d.to_) := Lib.hid fun A hA => ht.keep hA
      have y4 := Lib.cell_of_heap h0Z 4
      have HZ := Lib.hid hZ
      have hmC : Hid (mb < C.heap.size ∧ n0 ≤ C.heap.size) := Lib.hid ⟨HN.out.1.lt, hnC⟩
      obtain ⟨tn, htn⟩ : ∃ tn, tn = d.to_.length := ⟨_, rfl⟩
      rw [← htn] at y4 htb HZ Hgt k4
      have Htn := Lib.hid htn
      clear htn hZ hbZ hzZ h0Z hIZ hZw ht hd hil HN hgb hmf hnC
      go_upto_region 5 with fail
      rw [← HZ.out]
      clear k0 k1 k2 k3 k4
      go_upto_block 2 with fail
      clear y4
      go_wp2_with fail
      go_loopw [34] (fun u34 wr => ∃ (j : Nat) (m : List Int), j ≤ tn ∧ u34 = .int .i64 j ∧ Hid (IRow wr mb m ∧ Below w.heap.size w wr ∧ Below n0 C wr ∧ m.length = bn ∧ (match manyRow (d.to_.drop j) m with | some m' => manyFrom (f.blocks.drop (i + 1)) m' | none => none) = some many)) (fun u34 _ => tn - (intOf u34).toNat)
      case atStart => exact ⟨0, _, Nat.zero_le _, rfl, HNj⟩
      case round =>
        clear HNj m
        obtain ⟨j, m, hj, rfl, HN⟩ := hrel
        obtain ⟨D, hD⟩ : ∃ D, D = wr := ⟨_, rfl⟩
        rw [← hD] at HN ⊢
        clear hD
        by_cases hlj : j < tn
        · obtain ⟨hIm, hDw, hDC, hml, hmr⟩ := HN.out
          have hjl : j < d.to_.length := by rw [← Htn.out]; exact hlj
          obtain ⟨tb, tq, rfl, c1⟩ := (Hgt.out D hDC).rd hlj
          rw [List.drop_eq_getElem_cons hjl] at hmr
          unfold manyRow at hmr
          have hge : d.to_.getD j 0 = d.to_[j] := by simp [List.getD, hjl]
          rw [hge] at c1
          by_cases hc : 0 ≤ d.to_[j] ∧ d.to_[j] < m.length ∧ 0 ≤ m.getD d.to_[j].toNat 0 ∧ m.getD d.to_[j].toNat 0 ≤ 1048576
          · rw [if_pos hc] at hmr
            obtain ⟨t, hte⟩ : ∃ t : Nat, d.to_[j] = t := ⟨d.to_[j].toNat, by omega⟩
            rw [hte] at hmr c1 hc
            simp only [Int.toNat_natCast] at hmr hc
            obtain ⟨x, hx⟩ : ∃ x, x = m.getD t 0 := ⟨_, rfl⟩
            have htm : t < m.length := by omega
            have c2 := hIm.cell htm
            rw [← hx] at hmr c2 hc
            have c3 := hIm.fro t
            have htbn : t < bn := by omega
            have hx0 : 0 ≤ x := hc.2.2.1
            have hx1 : x ≤ 1048576 := hc.2.2.2
            have hI2 := hIm.put t (x + 1)
            have HN2 : Hid (IRow (D.setCell ⟨mb, t, none⟩ (.int .i64 (x + 1))) mb (m.set t (x + 1)) ∧ Below w.heap.size w (D.setCell ⟨mb, t, none⟩ (.int .i64 (x + 1))) ∧ Below n0 C (D.setCell ⟨mb, t, none⟩ (.int .i64 (x + 1))) ∧ (m.set t (x + 1)).length = bn ∧ (match manyRow (d.to_.drop (j + 1)) (m.set t (x + 1)) with | some m' => manyFrom (f.blocks.drop (i + 1)) m' | none => none) = some many) := Lib.hid ⟨hI2, hDw.setCell (by rw [Hmb.out]; exact Nat.le_refl _) _, hDC.setCell (by rw [Hmb.out]; exact hn0w) _, by simpa using hml, hmr⟩
            clear hIm hDw hDC hml hmr hjl hge hc hte hx htm hI2 HN
            go_wp2_with fail
            go_roundw
            case rel => exact ⟨j + 1, _, by omega, by go_num, HN2⟩
            case measure => simp [intOf]; omega
          · rw [if_neg hc] at hmr
            cases hmr
        · obtain rfl : tn = j := by omega
          have HN2 : Hid (IRow D mb m ∧ Below w.heap.size w D ∧ m.length = bn ∧ manyFrom (f.blocks.drop (i + 1)) m = some many) := by
            obtain ⟨hIm, hDw, hDC, hml, hmr⟩ := HN.out
            rw [Htn.out, List.drop_length] at hmr
            exact Lib.hid ⟨hIm, hDw, hml, hmr⟩
          clear HN
          go_wp2_with fail
          go_roundw
          case rel => exact ⟨i + 1, _, by omega, by go_num, HN2⟩
          case measure => simp [intOf]; omega
    · obtain rfl : bn = i := by omega
      obtain ⟨hIm, hCw, hml, hmf⟩ := HN.out
      rw [Hbl.out, List.drop_length] at hmf
      have hmm : m = many := by unfold manyFrom at hmf; exact Option.some.inj hmf
      rw [hmm] at hIm hml
      obtain ⟨Z, hZ, hbZ, hzZ, h0Z⟩ := gr_one C #[.int .i64 (-1)] 3
      have hRp := repeat_g C.heap.size 0 (-1) bn Z (Lib.cell_of_heap h0Z 0) h1n hbb
      have HB5 : Hid (∀ w5 nb, Z.heap.size ≤ nb → Below Z.heap.size Z w5 → IRow w5 mb many ∧ Below w.heap.size w w5 ∧ mb < nb ∧ w.heap.size ≤ nb) := Lib.hid fun w5 nb hnb hb5 => by
        have hZw : Below w.heap.size w Z := hCw.trans (hbZ.mono hCw.size)
        have := hIm.lt
        exact ⟨(hIm.keep (hbZ.block mb hIm.lt)).keep (hb5.block mb (by omega)), hZw.trans (hb5.mono hZw.size), by omega, by have := hZw.size; omega⟩
      have x6 := HX6.out Z (hCw.trans (hbZ.mono hCw.size))
      rw [hZ] at hRp x6
      have HZ := Lib.hid hZ
      clear hZ hbZ hzZ h0Z hIm hCw hmf hmm HN m
      go_upto_region 12 with (first | (go_at_call 115; refine hRp.mono ?_; rintro e w5 ⟨nb, rfl, hnb, hI5, hb5⟩; rw [← HZ.out] at hnb hb5; have HM := Lib.hid (HB5.out w5 nb hnb hb5); have HI5 := Lib.hid hI5; clear hnb hb5 hI5 hRp))
      have HN0 : Hid (IRow w5 nb (List.replicate bn (-1)) ∧ IRow w5 mb many ∧ Below w.heap.size w w5 ∧ (List.replicate bn (-1 : Int)).length = bn ∧ predsFrom f.blocks many 0 (f.blocks.drop 0) (List.replicate bn (-1)) = true) := Lib.hid ⟨HI5.out, HM.out.1, HM.out.2.1, by simp, by rw [Hbl.out]; exact Hp.out⟩
      have hmn : mb < nb := HM.out.2.2.1
      have hwn : w.heap.size ≤ nb := HM.out.2.2.2
      have x6' := HX6.out w5 HM.out.2.1
      clear x6 HB5 HI5 HM HZ
      go_upto_block 4 with fail
      clear x6'
      go_wp2_with fail
      go_loopw [60] (fun u60 wr => ∃ (i : Nat) (l : List Int), i ≤ bn ∧ u60 = .int .i64 i ∧ Hid (IRow wr nb l ∧ IRow wr mb many ∧ Below w.heap.size w wr ∧ l.length = bn ∧ predsFrom f.blocks many i (f.blocks.drop i) l = true)) (fun u60 _ => bn - (intOf u60).toNat)
      case atStart => exact ⟨0, _, Nat.zero_le _, rfl, HN0⟩
      case round =>
        clear HN0
        obtain ⟨i, l, hi, rfl, HN⟩ := hrel
        obtain ⟨C2, hC⟩ : ∃ C2, C2 = wr := ⟨_, rfl⟩
        rw [← hC] at HN ⊢
        clear hC
        by_cases hli : i < bn
        · have hil : i < f.blocks.length := by rw [← Hbl.out]; exact hli
          have hnC := (HI.out C2 HN.out.2.2.1).2
          obtain ⟨gb, o, lA, lc, pA', pc', tA, tc, rfl, hgb, k0, k1, k2, k3, k4, -, hpr, -⟩ := (HI.out C2 HN.out.2.2.1).1.at hil
          obtain ⟨d, hd⟩ : ∃ d, d = f.blocks[i] := ⟨_, rfl⟩
          have hpb := (Hlen.out d (by rw [hd]; exact List.getElem_mem hil)).2
          rw [← hd] at k0 k1 k2 k3 k4 hpr
          have hpf := HN.out.2.2.2.2
          rw [List.drop_eq_getElem_cons hil, ← hd] at hpf
          unfold predsFrom at hpf
          simp only [Bool.and_eq_true, decide_eq_true_eq] at hpf
          obtain ⟨hpm, hpf⟩ := hpf
          obtain ⟨Z, hZ, hbZ, hzZ, h0Z⟩ := gr_one C2 #[.slice lA d.list.length lc, .slice pA' d.preds.length pc', .int .i64 d.kind, .int .i64 d.arg, .slice tA d.to_.length tc] 76
          have hlC := HN.out.1.lt
          have hmC := HN.out.2.1.lt
          have hZw : Below w.heap.size w Z := HN.out.2.2.1.trans (hbZ.mono HN.out.2.2.1.size)
          have hImZ : IRow Z mb many := HN.out.2.1.keep (hbZ.block mb hmC)
          have HY : Hid (∀ Y, Below Z.heap.size Z Y → IRow Y nb l ∧ IRow Y mb many ∧ Below w.heap.size w Y ∧ Below n0 C2 Y ∧ l.length = bn ∧ (match predRow f.blocks i (d.preds.drop 0) l with | some l' => predsFrom f.blocks many (i + 1) (f.blocks.drop (i + 1)) l' | none => false) = true) := Lib.hid fun Y hY =>
            ⟨(HN.out.1.keep (hbZ.block nb hlC)).keep (hY.block nb (by omega)), hImZ.keep (hY.block mb (by omega)), hZw.trans (hY.mono hZw.size), (hbZ.trans (hY.mono hbZ.size)).mono hnC, HN.out.2.2.2.1, hpf⟩
          have HC1 : Hid (∀ Y, Below Z.heap.size Z Y → Y.cell? ⟨C2.heap.size, 1, none⟩ = some (.slice pA' d.preds.length pc')) := Lib.hid fun Y hY => Lib.cell_of_heap ((hY.block C2.heap.size (by omega)).trans h0Z) 1
          have Hgp : Hid (∀ A, Below n0 C2 A → GNs n0 A (.slice pA' d.preds.length pc') d.preds) := Lib.hid fun A hA => hpr.keep hA
          have q1 := cell_regrown (Lib.cell_of_heap h0Z 1)
          have q2 := cell_regrown (hImZ.cell (j := i) (by rw [hml]; exact hli))
          rw [hpm] at q2
          have HZ := Lib.hid hZ
          obtain ⟨pn, hpn⟩ : ∃ pn, pn = d.preds.length := ⟨_, rfl⟩
          rw [← hpn] at q1 q2 hpb HZ Hgp HC1 k1
          have Hpn := Lib.hid hpn
          clear hpn hZ hbZ hzZ h0Z hZw hImZ hpr hd hil HN hgb hpm hpf hnC hlC hmC
          go_upto_region 15 with fail
          rw [← HZ.out]
          clear k0 k1 k2 k3 k4
          refine wp_region_quiet_below (by kernel_rfl) (by kernel_rfl) ?_
          repeat (go_big_quiet_step (fail))
          refine wpQuiet_nil ?_
          intro Y hw'
          obtain ⟨⟨dq, osq⟩, hw''⟩ := hw'
          have hYZ : Below Z.heap.size Z Y := by rw [hw'']; exact below_regrown Z dq osq
          have HNj := Lib.hid (HY.out Y hYZ)
          have y1 := HC1.out Y hYZ
          clear hw'' hYZ q1 q2 HY HC1 HZ
          go_upto_block 6 with fail
          clear y1
          go_wp2_with fail
          go_loopw [76] (fun u76 wr => ∃ (j : Nat) (l : List Int), j ≤ pn ∧ u76 = .int .i64 j ∧ Hid (IRow wr nb l ∧ IRow wr mb many ∧ Below w.heap.size w wr ∧ Below n0 C2 wr ∧ l.length = bn ∧ (match predRow f.blocks i (d.preds.drop j) l with | some l' => predsFrom f.blocks many (i + 1) (f.blocks.drop (i + 1)) l' | none => false) = true)) (fun u76 _ => pn - (intOf u76).toNat)
          case atStart => exact ⟨0, _, Nat.zero_le _, rfl, HNj⟩
          case round =>
            clear HNj l
            obtain ⟨j, l, hj, rfl, HN⟩ := hrel
            obtain ⟨D, hD⟩ : ∃ D, D = wr := ⟨_, rfl⟩
            rw [← hD] at HN ⊢
            clear hD
            by_cases hlj : j < pn
            · obtain ⟨hIl, hIm, hDw, hDC, hll, hmr⟩ := HN.out
              have hjl : j < d.preds.length := by rw [← Hpn.out]; exact hlj
              obtain ⟨tb, tq, rfl, c1⟩ := (Hgp.out D hDC).rd hlj
              rw [List.drop_eq_getElem_cons hjl] at hmr
              unfold predRow at hmr
              have hge : d.preds.getD j 0 = d.preds[j] := by simp [List.getD, hjl]
              rw [hge] at c1
              by_cases hc : 0 ≤ d.preds[j] ∧ d.preds[j] < l.length ∧ d.preds[j] < f.blocks.length ∧ l.getD d.preds[j].toNat 0 ≠ (i : Int) ∧ (i : Int) ∈ ((f.blocks[d.preds[j].toNat]?).map SB.to_).getD []
              · rw [if_pos hc] at hmr
                obtain ⟨a, hte⟩ : ∃ a : Nat, d.preds[j] = a := ⟨d.preds[j].toNat, by omega⟩
                rw [hte] at hmr c1 hc
                simp only [Int.toNat_natCast] at hmr hc
                obtain ⟨-, hal, hab, hax, hac⟩ := hc
                obtain ⟨x, hx⟩ : ∃ x, x = l.getD a 0 := ⟨_, rfl⟩
                have hal2 : a < l.length := by omega
                have hab2 : a < f.blocks.length := by omega
                have c2 := hIl.cell hal2
                rw [← hx] at c2 hax
                have c3 := hIl.fro a
                have habn : a < bn := by omega
                have d1 : decide ((a : Int) < 0) = false := decide_eq_false (by omega)
                have d2 : decide ((a : Int) ≥ (bn : Int)) = false := decide_eq_false (by omega)
                have d3 : (x == (i : Int)) = false := by simpa using hax
                obtain ⟨gb', o', lA2, lc2, pA2, pc2, tA2, tc2, eg, -, -, -, -, -, m4, -, -, ht2⟩ := (HI.out D hDw).1.at hab2
                have e2 := Option.some.inj eg
                injection e2 with e3 e4
                subst e3
                subst e4
                have hCt := contains_g tA2 _ tc2 _ (i : Int) n0 D ht2 (Hlen.out _ (List.getElem_mem hab2)).1
                rw [List.getElem?_eq_getElem hab2] at hac
                have hac2 : (i : Int) ∈ f.blocks[a].to_ := by simpa using hac
                rw [decide_eq_true hac2] at hCt
                have x6 := HX6.out D hDw
                have hI2 := hIl.put a (i : Int)
                have HN2 : Hid (IRow (D.setCell ⟨nb, a, none⟩ (.int .i64 (i : Int))) nb (l.set a (i : Int)) ∧ IRow (D.setCell ⟨nb, a, none⟩ (.int .i64 (i : Int))) mb many ∧ Below w.heap.size w (D.setCell ⟨nb, a, none⟩ (.int .i64 (i : Int))) ∧ Below n0 C2 (D.setCell ⟨nb, a, none⟩ (.int .i64 (i : Int))) ∧ (l.set a (i : Int)).length = bn ∧ (match predRow f.blocks i (d.preds.drop (j + 1)) (l.set a (i : Int)) with | some l' => predsFrom f.blocks many (i + 1) (f.blocks.drop (i + 1)) l' | none => false) = true) := Lib.hid ⟨hI2, hIm.keep (Below.heap_setCell _ _ _ _ (by show mb ≠ nb; omega)), hDw.setCell hwn _, hDC.setCell (by show n0 ≤ nb; omega) _, by simpa using hll, hmr⟩
                generalize f.blocks[a].to_.length = qn at *
                clear hIl hIm hDw hDC hll hmr hjl hge hte hx hal2 hI2 HN ht2 hac hac2 hab2 hal hab hax eg
                go_wp2_with (first | (go_at_call 116; refine hCt.mono ?_; rintro e w7 ⟨rfl, hw7⟩; rw [hw7]; clear hw7 w7 hCt))
                go_roundw
                case rel => exact ⟨j + 1, _, by omega, by go_num, HN2⟩
                case measure => simp [intOf]; omega
              · rw [if_neg hc] at hmr
                cases hmr
            · obtain rfl : pn = j := by omega
              have HN2 : Hid (IRow D nb l ∧ IRow D mb many ∧ Below w.heap.size w D ∧ l.length = bn ∧ predsFrom f.blocks many (i + 1) (f.blocks.drop (i + 1)) l = true) := by
                obtain ⟨hIl, hIm, hDw, hDC, hll, hmr⟩ := HN.out
                rw [Hpn.out, List.drop_length] at hmr
                exact Lib.hid ⟨hIl, hIm, hDw, hll, hmr⟩
              clear HN
              go_wp2_with fail
              go_roundw
              case rel => exact ⟨i + 1, _, by omega, by go_num, HN2⟩
              case measure => simp [intOf]; omega
        · obtain rfl : bn = i := by omega
          go_wp2_with fail
          go_ret
          exact ⟨rfl, HN.out.2.2.1⟩
end Go.Proofs.Ytagagpappjkgbaa
