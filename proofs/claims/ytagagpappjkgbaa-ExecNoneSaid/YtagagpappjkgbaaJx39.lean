/-
  Programs that may be: placed, where it says yes.
-/
import Derived.Test.YtagagpappjkgbaaJx38
namespace Go.Proofs.Ytagagpappjkgbaa
set_option linter.unusedVariables false
set_option linter.unusedSimpArgs false
open Go.RowKit Go.Sort

def arOf (ins : List SIn) (a : Int) : Nat := ((ins[a.toNat]?).map fun x => x.args.length).getD 0
def placeOne (ins : List SIn) (b pn : Nat) (g : Bool) (a : Int) : Bool :=
  decide (0 ≤ a ∧ a < ins.length) && (decide (1 ≤ opOf ins a ∧ opOf ins a ≤ 36) && (decide (opOf ins a = 2 → b = 0) && decide (opOf ins a = 3 → g = true ∧ arOf ins a ≠ 0 ∧ arOf ins a = pn)))
def placeRow (ins : List SIn) (b pn : Nat) : Bool → List Int → Bool
  | _, [] => true
  | g, a :: rs => placeOne ins b pn g a && placeRow ins b pn (g && decide (opOf ins a = 3)) rs
def placedFrom (ins : List SIn) : Nat → List SB → Bool
  | _, [] => true
  | i, k :: ks => placeRow ins i k.preds.length true k.list && placedFrom ins (i + 1) ks

set_option maxRecDepth 100000 in
set_option maxHeartbeats 8000000 in
theorem placed_t (n0 sb : Nat) (V : SV) (fs : List SF) (f : SF) (vi va : Value) (w : World) (h : Sbj n0 sb V fs f vi va w) (hlen : ∀ k ∈ f.blocks, k.list.length ≤ 1048576) (hm : placedFrom f.ins 0 f.blocks = true) :
    Calls Try.prog 98 #[.pointer (some ⟨sb, 0, none⟩)] w fun e w' => e = .returned (.bool true) ∧ Below w.heap.size w w' := by
  obtain ⟨inn, hin⟩ : ∃ inn, V.in_ = inn := ⟨_, rfl⟩
  obtain ⟨bA, hbA⟩ : ∃ bA, V.bA = bA := ⟨_, rfl⟩
  obtain ⟨bn, hbn⟩ : ∃ bn, V.bn = bn := ⟨_, rfl⟩
  obtain ⟨bc, hbc⟩ : ∃ bc, V.bc = bc := ⟨_, rfl⟩
  obtain ⟨iA, hiA⟩ : ∃ iA, V.iA = iA := ⟨_, rfl⟩
  obtain ⟨ic, hic⟩ : ∃ ic, V.ic = ic := ⟨_, rfl⟩
  have hil : inn = f.ins.length := hin ▸ h.il
  have hib : inn ≤ 1048576 := hin ▸ h.ib
  have hbb : bn ≤ 1048576 := hbn ▸ h.bb
  have hbl : bn = f.blocks.length := hbn ▸ h.bl
  have HV : Hid (∀ A, Below w.heap.size w A → A.cell? ⟨sb, 5, none⟩ = some (.slice iA inn ic) ∧ A.cell? ⟨sb, 6, none⟩ = some (.slice bA bn bc) ∧ SBs n0 A (.slice bA bn bc) f.blocks ∧ SIs n0 A (.slice iA inn ic) f.ins ∧ n0 ≤ A.heap.size) := Lib.hid fun A hA => by
    rw [← hbA, ← hbn, ← hbc, ← hiA, ← hin, ← hic]
    exact ⟨Lib.cell_of_heap (h.keep hA).c 5, Lib.cell_of_heap (h.keep hA).c 6, (h.keep hA).br, (h.keep hA).ir, (h.keep hA).hn⟩
  have Hil := Lib.hid hil
  have Hbl := Lib.hid hbl
  have Hlen := Lib.hid hlen
  have HN0 : Hid (Below w.heap.size w w ∧ placedFrom f.ins 0 (f.blocks.drop 0) = true) := Lib.hid ⟨Below.refl _ _, hm⟩
  have x6 := (HV.out w (Below.refl _ _)).2.1
  clear h hil hbl hlen hm hin hbA hbn hbc hiA hic
  go_enter Try.func98, Try.ntmps98
  go_upto_block 0 with fail
  clear x6
  go_wp2_with fail
  go_loopw [15] (fun u15 wr => ∃ i : Nat, i ≤ bn ∧ u15 = .int .i64 i ∧ Hid (Below w.heap.size w wr ∧ placedFrom f.ins i (f.blocks.drop i) = true)) (fun u15 _ => bn - (intOf u15).toNat)
  case atStart => exact ⟨0, Nat.zero_le _, rfl, HN0⟩
  case round =>
    clear HN0
    obtain ⟨i, hi, rfl, HN⟩ := hrel
    obtain ⟨C, hC⟩ : ∃ C, C = wr := ⟨_, rfl⟩
    rw [← hC] at HN ⊢
    clear hC
    by_cases hli : i < bn
    · have hil : i < f.blocks.length := by rw [← Hbl.out]; exact hli
      obtain ⟨-, -, hbr, -, hnC⟩ := HV.out C HN.out.1
      obtain ⟨gb, o, lA, lc, pA', pc', tA, tc, rfl, hgb, k0, k1, k2, k3, k4, hlr, -, -⟩ := hbr.at hil
      obtain ⟨d, hd⟩ : ∃ d, d = f.blocks[i] := ⟨_, rfl⟩
      have hlb := Hlen.out d (by rw [hd]; exact List.getElem_mem hil)
      rw [← hd] at k0 k1 k2 k3 k4 hlr
      have hmf := HN.out.2
      rw [List.drop_eq_getElem_cons hil, ← hd] at hmf
      unfold placedFrom at hmf
      simp only [Bool.and_eq_true] at hmf
      have Hnx := Lib.hid hmf.2
      obtain ⟨pn, hpn⟩ : ∃ pn, pn = d.preds.length := ⟨_, rfl⟩
      rw [← hpn] at hmf k1
      obtain ⟨Z, hZ, hbZ, hzZ, h0Z⟩ := gr_one C #[.slice lA d.list.length lc, .slice pA' pn pc', .int .i64 d.kind, .int .i64 d.arg, .slice tA d.to_.length tc] 76
      have HNj : Hid (Below w.heap.size w Z ∧ Below n0 C Z ∧ Below Z.heap.size Z Z ∧ placeRow f.ins i pn true (d.list.drop 0) = true) := Lib.hid ⟨HN.out.1.trans (hbZ.mono HN.out.1.size), hbZ.mono hnC, Below.refl _ _, hmf.1⟩
      have Hgl : Hid (∀ A, Below n0 C A → GNs n0 A (.slice lA d.list.length lc) d.list) := Lib.hid fun A hA => hlr.keep hA
      have H1 : Hid (∀ Y, Below Z.heap.size Z Y → Y.cell? ⟨C.heap.size, 1, none⟩ = some (.slice pA' pn pc')) := Lib.hid fun Y hY => Lib.cell_of_heap ((hY.block C.heap.size (by omega)).trans h0Z) 1
      have y0 := Lib.cell_of_heap h0Z 0
      have HZ := Lib.hid hZ
      obtain ⟨ln, hln⟩ : ∃ ln, ln = d.list.length := ⟨_, rfl⟩
      rw [← hln] at y0 hlb HZ Hgl k0
      have Hln := Lib.hid hln
      clear hpn hln hZ hbZ hzZ h0Z hlr hd hil HN hgb hmf hnC hbr
      go_upto_region 5 with fail
      rw [← HZ.out]
      clear k0 k1 k2 k3 k4
      go_upto_block 2 with fail
      clear y0
      go_wp2_with fail
      go_loopw [5, 23] (fun u5 u23 wr => ∃ (j : Nat) (g : Bool), j ≤ ln ∧ u5 = .bool g ∧ u23 = .int .i64 j ∧ Hid (Below w.heap.size w wr ∧ Below n0 C wr ∧ Below Z.heap.size Z wr ∧ placeRow f.ins i pn g (d.list.drop j) = true)) (fun _ u23 _ => ln - (intOf u23).toNat)
      case atStart => exact ⟨0, true, Nat.zero_le _, rfl, rfl, HNj⟩
      case round =>
        clear HNj
        obtain ⟨j, g, hj, rfl, rfl, HN⟩ := hrel
        obtain ⟨D, hD⟩ : ∃ D, D = wr := ⟨_, rfl⟩
        rw [← hD] at HN ⊢
        clear hD
        by_cases hlj : j < ln
        · obtain ⟨hDw, hDC, hDZ, hmr⟩ := HN.out
          have hjl : j < d.list.length := by rw [← Hln.out]; exact hlj
          obtain ⟨tb, tq, rfl, c1⟩ := (Hgl.out D hDC).rd hlj
          rw [List.drop_eq_getElem_cons hjl] at hmr
          unfold placeRow placeOne at hmr
          simp only [Bool.and_eq_true, decide_eq_true_eq] at hmr
          have hge : d.list.getD j 0 = d.list[j] := by simp [List.getD, hjl]
          rw [hge] at c1
          obtain ⟨⟨ha, hop, hp2, hp3⟩, hrest⟩ := hmr
          obtain ⟨a, hte⟩ : ∃ a : Nat, d.list[j] = a := ⟨d.list[j].toNat, by omega⟩
          rw [hte] at hop hp2 hp3 hrest c1 ha
          have hal : a < f.ins.length := by omega
          have hai : a < inn := by rw [Hil.out]; exact hal
          have x5 := (HV.out D hDw).1
          obtain ⟨ib, io, aA, ac, rfl, -, n0', n1, n2, n3, n4, -⟩ := (HV.out D hDw).2.2.2.1.at hal
          have har : arOf f.ins (a : Int) = f.ins[a].args.length := by unfold arOf; rw [Int.toNat_natCast, List.getElem?_eq_getElem hal]; rfl
          rw [← opOf_at hal] at n0'
          rw [← har] at n2
          obtain ⟨op, hope⟩ : ∃ op, op = opOf f.ins (a : Int) := ⟨_, rfl⟩
          obtain ⟨an, hane⟩ : ∃ an, an = arOf f.ins (a : Int) := ⟨_, rfl⟩
          rw [← hope] at n0' hop hp2 hp3 hrest
          rw [← hane] at n2 hp3
          obtain ⟨ty, hty⟩ : ∃ ty, ty = f.ins[a].ty := ⟨_, rfl⟩
          obtain ⟨nn, hnn⟩ : ∃ nn, nn = f.ins[a].n := ⟨_, rfl⟩
          obtain ⟨t2, ht2⟩ : ∃ t2, t2 = f.ins[a].to_ := ⟨_, rfl⟩
          rw [← hty] at n1
          rw [← hnn] at n3
          rw [← ht2] at n4
          obtain ⟨E, hE, hbE, hzE, h0E⟩ := gr_one D #[.int .i64 op, .int .i64 ty, .slice aA an ac, .int .i64 nn, .int .i64 t2] 71
          have v0 := Lib.cell_of_heap h0E 0
          have v2 := Lib.cell_of_heap h0E 2
          have v9 := H1.out E (hDZ.trans (hbE.mono hDZ.size))
          have e1 : decide (op < 1) = false := decide_eq_false (by omega)
          have e2 : decide (op > 36) = false := decide_eq_false (by omega)
          have HN2 : Hid (Below w.heap.size w E ∧ Below n0 C E ∧ Below Z.heap.size Z E ∧ placeRow f.ins i pn (g && decide (op = 3)) (d.list.drop (j + 1)) = true) := Lib.hid ⟨hDw.trans (hbE.mono hDw.size), hDC.trans (hbE.mono (by have := (HV.out D hDw).2.2.2.2; omega)), hDZ.trans (hbE.mono hDZ.size), hrest⟩
          have HE := Lib.hid hE
          clear hDw hDC hDZ hjl hge ha hrest hte hal har hope hane hty hnn ht2 hE hbE hzE h0E HN hop
          go_upto_region 9 with fail
          rw [← HE.out]
          clear x5 c1 n0' n1 n2 n3 n4
          by_cases h3 : op = 3
          · obtain ⟨hg, hz, hpa⟩ := hp3 h3
            have e3 : ((pn : Int) == 0) = false := by simp; omega
            clear hp2 hp3 hz
            subst hg h3 hpa
            go_wp2_with fail
            go_roundw
            case rel => exact ⟨j + 1, _, by omega, rfl, by go_num, HN2⟩
            case measure => simp [intOf]; omega
          · have e5 : (op == 3) = false := by simpa using h3
            have HN3 : Hid (Below w.heap.size w E ∧ Below n0 C E ∧ Below Z.heap.size Z E ∧ placeRow f.ins i pn false (d.list.drop (j + 1)) = true) := Lib.hid (by have := HN2.out; rw [decide_eq_false h3, Bool.and_false] at this; exact this)
            clear HN2 hp3 h3
            by_cases h2 : op = 2
            · have e6 : ((i : Int) != 0) = false := by have := hp2 h2; simp; omega
              clear hp2
              subst h2
              cases g
              all_goals
                go_wp2_with fail
                go_roundw
                case rel => exact ⟨j + 1, _, by omega, rfl, by go_num, HN3⟩
                case measure => simp [intOf]; omega
            · have e6 : (op == 2) = false := by simpa using h2
              clear h2 hp2
              cases g
              all_goals
                go_wp2_with fail
                go_roundw
                case rel => exact ⟨j + 1, _, by omega, rfl, by go_num, HN3⟩
                case measure => simp [intOf]; omega
        · obtain rfl : ln = j := by omega
          have HN2 : Hid (Below w.heap.size w D ∧ placedFrom f.ins (i + 1) (f.blocks.drop (i + 1)) = true) := Lib.hid ⟨HN.out.1, Hnx.out⟩
          clear HN
          go_wp2_with fail
          go_roundw
          case rel => exact ⟨i + 1, by omega, by go_num, HN2⟩
          case measure => simp [intOf]; omega
    · obtain rfl : bn = i := by omega
      go_wp2_with fail
      go_ret
      exact ⟨rfl, HN.out.1⟩
end Go.Proofs.Ytagagpappjkgbaa
