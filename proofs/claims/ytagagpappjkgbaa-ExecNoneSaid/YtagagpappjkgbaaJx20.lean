/-
  A function is laid out for its runs.
-/
import Derived.Test.YtagagpappjkgbaaJx1
import Derived.Test.YtagagpappjkgbaaJx18
import Derived.Test.YtagagpappjkgbaaJx19
import Derived.Deep.CutBlock
import Derived.Deep.DeepCutAuto
import Derived.BigRegion
namespace Go.Proofs.Ytagagpappjkgbaa
set_option linter.unusedVariables false
set_option linter.unusedSimpArgs false
open Go.RowKit Go.Shelf Go.Sort

/-- What is laid out, as it lies. -/
structure LayM (w : World) (fc : List Value) (bn im : Nat) (L : List (Int × Int)) (lb cb pb : Nat) (wx : World) : Prop where
  h0 : wx.heap[w.heap.size]? = some (.cells fc.toArray 68 (0, 0))
  h1 : wx.heap[w.heap.size + 1]? = some (.cells #[.string ⟨#[]⟩, .slice none 0 0, .int .i64 0, .slice none 0 0, .slice none 0 0, .slice none 0 0, .slice none 0 0] 106 (0, 0))
  hl : wx.heap[lb]? = some (.cells (fc ++ ([.slice (some ⟨cb, 0, none⟩) bn bn, .slice (some ⟨pb, 0, none⟩) im im] : List Value)).toArray 106 (0, 0))
  hc : wx.heap[cb]? = some (.cells (L.flatMap wCell).toArray 131 (0, 0))
  hp : wx.heap[pb]? = some (.cells ((List.replicate im (⟨⟨0, none⟩, 0⟩ : XPl)).flatMap (pCell fun _ => 0)).toArray 176 (0, 0))
  bl : w.heap.size + 2 ≤ lb
  bc : w.heap.size + 2 ≤ cb
  bp : w.heap.size + 2 ≤ pb
  lc : lb ≠ cb
  lp : lb ≠ pb
  cp : cb ≠ pb
  bel : Below w.heap.size w wx
section
variable {w wx wy : World} {fc : List Value} {bn im lb cb pb : Nat} {L : List (Int × Int)}
theorem LayM.keep (h : LayM w fc bn im L lb cb pb wx) (hb : Below wx.heap.size wx wy) : LayM w fc bn im L lb cb pb wy :=
  ⟨(hb.block _ (gr_in h.h0)).trans h.h0, (hb.block _ (gr_in h.h1)).trans h.h1, (hb.block _ (gr_in h.hl)).trans h.hl, (hb.block _ (gr_in h.hc)).trans h.hc, (hb.block _ (gr_in h.hp)).trans h.hp, h.bl, h.bc, h.bp, h.lc, h.lp, h.cp, h.bel.trans (hb.mono h.bel.size)⟩
theorem wc_set (c : Int × Int) (u : Int) : ∀ (L : List (Int × Int)) (k way : Nat), L[k]? = some c → way ≤ 1 → (L.flatMap wCell).set (k * 2 + way) (.int .i64 u) = (L.set k (if way = 0 then (u, c.2) else (c.1, u))).flatMap wCell
  | [], k, way, h, hw => by cases h
  | d :: L, 0, way, h, hw => by
    injection h with h
    subst h
    rcases (show way = 0 ∨ way = 1 by omega) with rfl | rfl <;> rfl
  | d :: L, k + 1, way, h, hw => by
    have := wc_set c u L k way h hw
    rw [show (k + 1) * 2 + way = (k * 2 + way) + 2 by omega, List.set_cons_succ, List.flatMap_cons, List.flatMap_cons, ← this]
    rfl
theorem LayM.put (h : LayM w fc bn im L lb cb pb wx) {k way : Nat} {c : Int × Int} (hk : L[k]? = some c) (hw : way ≤ 1) (u : Int) : LayM w fc bn im (L.set k (if way = 0 then (u, c.2) else (c.1, u))) lb cb pb (wx.setCell ⟨cb, k * 2 + way, none⟩ (.int .i64 u)) := by
  refine ⟨cells_off h.h0 (by have := h.bc; omega), cells_off h.h1 (by have := h.bc; omega), cells_off h.hl (fun e => h.lc e.symm), ?_, cells_off h.hp h.cp, h.bl, h.bc, h.bp, h.lc, h.lp, h.cp, h.bel.trans ((Below.refl _ _).setCell (p := ⟨cb, k * 2 + way, none⟩) (by have := h.bc; show w.heap.size ≤ cb; omega) _)⟩
  rw [gr_put h.hc, ← wc_set c u L k way hk hw]
  simp
theorem layM_of (w : World) (fc : List Value) (bn im : Nat) (L : List (Int × Int)) (os : List Obj) (l c p : Nat)
    (hl : os[l]? = some (.cells (fc ++ ([.slice (some ⟨w.heap.size + 2 + c, 0, none⟩) bn bn, .slice (some ⟨w.heap.size + 2 + p, 0, none⟩) im im] : List Value)).toArray 106))
    (hc : os[c]? = some (.cells (L.flatMap wCell).toArray 131)) (hp : os[p]? = some (.cells ((List.replicate im (⟨⟨0, none⟩, 0⟩ : XPl)).flatMap (pCell fun _ => 0)).toArray 176)) (h1 : l ≠ c) (h2 : l ≠ p) (h3 : c ≠ p) :
    LayM w fc bn im L (w.heap.size + 2 + l) (w.heap.size + 2 + c) (w.heap.size + 2 + p) (allocs w (.cells fc.toArray 68 :: .cells #[.string ⟨#[]⟩, .slice none 0 0, .int .i64 0, .slice none 0 0, .slice none 0 0, .slice none 0 0, .slice none 0 0] 106 :: os)) := by
  obtain ⟨OS, hOS⟩ : ∃ OS : List Obj, OS = (.cells fc.toArray 68 :: .cells #[.string ⟨#[]⟩, .slice none 0 0, .int .i64 0, .slice none 0 0, .slice none 0 0, .slice none 0 0, .slice none 0 0] 106 :: os) := ⟨_, rfl⟩
  rw [← hOS]
  have at_ : ∀ k x T, OS[k]? = some (.cells x T) → (allocs w OS).heap[w.heap.size + k]? = some (.cells x T (0, 0)) := allocs_at OS w
  have sh : ∀ k, OS[2 + k]? = os[k]? := fun k => by rw [hOS, Nat.add_comm]; rfl
  refine ⟨at_ 0 _ _ (by rw [hOS]; rfl), at_ 1 _ _ (by rw [hOS]; rfl), ?_, ?_, ?_, by omega, by omega, by omega, by omega, by omega, by omega, allocs_below OS w.heap.size w (Nat.le_refl _)⟩
  · rw [Nat.add_assoc]; exact at_ _ _ _ ((sh l).trans hl)
  · rw [Nat.add_assoc]; exact at_ _ _ _ ((sh c).trans hc)
  · rw [Nat.add_assoc]; exact at_ _ _ _ ((sh p).trans hp)
end
theorem set_itself {α : Type} {l : List α} {k : Nat} {c : α} (h : l[k]? = some c) : l.set k c = l := by
  obtain ⟨h1, h2⟩ := List.getElem?_eq_some_iff.mp h
  rw [← h2]
  exact List.set_getElem_self h1
theorem comeWay_step {b at_ : Int} {way : Nat} {t : Int} {ts : List Int} {c c' : Int × Int} (h : comeWay b at_ way (t :: ts) c = some c') : (t = b → way ≤ 1 ∧ comeWay b at_ (way + 1) ts (if way = 0 then (at_, c.2) else (c.1, at_)) = some c') ∧ (t ≠ b → comeWay b at_ (way + 1) ts c = some c') := by
  unfold comeWay at h
  refine ⟨fun e => ?_, fun e => ?_⟩
  · rw [if_pos e] at h
    by_cases h0 : way = 0
    · subst h0; rw [if_pos rfl] at h; exact ⟨by omega, h⟩
    · rw [if_neg h0] at h
      by_cases h1 : way = 1
      · subst h1; rw [if_pos rfl] at h; exact ⟨by omega, h⟩
      · rw [if_neg h1] at h; cases h
  · rw [if_neg e] at h; exact h
set_option maxRecDepth 100000 in
set_option maxHeartbeats 16000000 in
theorem lay_c (n0 : Nat) (f : SF) (s : ByteArray) (pA iA bA : Option Addr) (pn pc ic bc : Nat) (w : World) (hi : SIs n0 w (.slice iA f.ins.length ic) f.ins) (hb : SBs n0 w (.slice bA f.blocks.length bc) f.blocks)
    (hil : f.ins.length ≤ 1048576) (hbl : f.blocks.length ≤ 1048576) (hpl : ∀ k ∈ f.blocks, k.preds.length ≤ 1048576 ∧ k.to_.length ≤ 1048576) (hn0 : n0 ≤ w.heap.size) (L : List (Int × Int)) (hL : layX f = some L) :
    Calls Try.prog 47 #[.agg #[.string s, .slice pA pn pc, .int .i64 f.ret, .slice iA f.ins.length ic, .slice bA f.blocks.length bc]] w fun e w' => ∃ cb pb, e = .returned (.agg #[.string s, .slice pA pn pc, .int .i64 f.ret, .slice iA f.ins.length ic, .slice bA f.blocks.length bc, .slice (some ⟨cb, 0, none⟩) f.blocks.length f.blocks.length, .slice (some ⟨pb, 0, none⟩) f.ins.length f.ins.length]) ∧
      w'.heap[cb]? = some (.cells (L.flatMap wCell).toArray 131 (0, 0)) ∧ w'.heap[pb]? = some (.cells ((List.replicate f.ins.length (⟨⟨0, none⟩, 0⟩ : XPl)).flatMap (pCell fun _ => 0)).toArray 176 (0, 0)) ∧ w.heap.size ≤ cb ∧ w.heap.size ≤ pb ∧ cb ≠ pb ∧ Below w.heap.size w w' := by
  obtain ⟨bn, hbn⟩ : ∃ bn, bn = f.blocks.length := ⟨_, rfl⟩
  obtain ⟨im, him⟩ : ∃ im, im = f.ins.length := ⟨_, rfl⟩
  obtain ⟨rt, hrt⟩ : ∃ rt, rt = f.ret := ⟨_, rfl⟩
  have hLx : comeFrom f.blocks 0 (f.blocks.drop 0) (List.replicate bn (0, 0)) = some L := by rw [hbn]; exact hL
  rw [← hbn] at hb hbl ⊢
  rw [← him] at hi hil ⊢
  rw [← hrt]
  have Hbn := Lib.hid hbn
  have HLx := Lib.hid hLx
  have Hpl := Lib.hid hpl
  have HB := Lib.hid hb
  have Hn0 := Lib.hid hn0
  clear hbn him hrt hL hLx hpl hi hb hn0
  have mkC := makeP bn hbl
  have mkP := makePl im hil
  go_enter Try.func47, Try.ntmps47
  go_upto_region 1 with fail
  obtain ⟨fc, hfc⟩ : ∃ fc : List Value, fc = [.string s, .slice pA pn pc, .int .i64 rt, .slice iA im ic, .slice bA bn bc] := ⟨_, rfl⟩
  have Hfc := Lib.hid hfc
  clear hfc
  go_cut [3] (fun u3 wx => ∃ lb cb pb, u3 = .pointer (some ⟨lb, 0, none⟩) ∧ LayM w fc bn im (List.replicate bn (0, 0)) lb cb pb wx)
  case first =>
    go_region
    all_goals (go_wp2_with fail; go_meet; rw [Hfc.out])
    all_goals first
      | exact ⟨_, _, _, rfl, (layM_of w [.string s, .slice pA pn pc, .int .i64 rt, .slice iA im ic, .slice bA bn bc] bn im (List.replicate bn (0, 0)) [_, _, _] 0 1 2 rfl rfl rfl (by decide) (by decide) (by decide)).keep (Below.refl _ _).drew⟩
      | exact ⟨_, _, _, rfl, (layM_of w [.string s, .slice pA pn pc, .int .i64 rt, .slice iA im ic, .slice bA bn bc] bn im (List.replicate bn (0, 0)) [_, _, _] 0 2 1 rfl rfl rfl (by decide) (by decide) (by decide)).keep (Below.refl _ _).drew⟩
      | exact ⟨_, _, _, rfl, (layM_of w [.string s, .slice pA pn pc, .int .i64 rt, .slice iA im ic, .slice bA bn bc] bn im (List.replicate bn (0, 0)) [_, _, _] 1 0 2 rfl rfl rfl (by decide) (by decide) (by decide)).keep (Below.refl _ _).drew⟩
      | exact ⟨_, _, _, rfl, (layM_of w [.string s, .slice pA pn pc, .int .i64 rt, .slice iA im ic, .slice bA bn bc] bn im (List.replicate bn (0, 0)) [_, _, _] 1 2 0 rfl rfl rfl (by decide) (by decide) (by decide)).keep (Below.refl _ _).drew⟩
      | exact ⟨_, _, _, rfl, (layM_of w [.string s, .slice pA pn pc, .int .i64 rt, .slice iA im ic, .slice bA bn bc] bn im (List.replicate bn (0, 0)) [_, _, _] 2 0 1 rfl rfl rfl (by decide) (by decide) (by decide)).keep (Below.refl _ _).drew⟩
      | exact ⟨_, _, _, rfl, (layM_of w [.string s, .slice pA pn pc, .int .i64 rt, .slice iA im ic, .slice bA bn bc] bn im (List.replicate bn (0, 0)) [_, _, _] 2 1 0 rfl rfl rfl (by decide) (by decide) (by decide)).keep (Below.refl _ _).drew⟩
  case rest =>
    obtain ⟨WC, hWC⟩ : ∃ W, W = wc := ⟨_, rfl⟩
    subst hWC
    obtain ⟨lb, cb, pb, rfl, hM⟩ := hcut
    clear mkC mkP
    have HM := Lib.hid hM
    have z4 : WC.cell? ⟨w.heap.size, 4, none⟩ = some (.slice bA bn bc) := by rw [Lib.cell_of_heap hM.h0 4, Hfc.out]; rfl
    clear hM
    go_wp2_with fail
    clear z4
    go_loopw [23] (fun u23 wr => ∃ (b : Nat) (Lb : List (Int × Int)), b ≤ bn ∧ u23 = .int .i64 (b : Int) ∧ Hid (LayM w fc bn im Lb lb cb pb wr) ∧ Hid (comeFrom f.blocks b (f.blocks.drop b) Lb = some L)) (fun u23 _ => bn - (intOf u23).toNat)
    case atStart => exact ⟨0, _, Nat.zero_le _, rfl, HM, HLx⟩
    case round =>
      clear HM HLx
      obtain ⟨b, Lb, hbb, rfl, HM, HLb⟩ := hrel
      obtain ⟨wo, hwo⟩ : ∃ x, x = wr := ⟨_, rfl⟩
      rw [← hwo] at HM ⊢
      clear hwo
      by_cases hlt : b < bn
      · have hblt : b < f.blocks.length := by rw [← Hbn.out]; exact hlt
        have hcf := HLb.out
        rw [List.drop_eq_getElem_cons hblt] at hcf
        unfold comeFrom at hcf
        rw [Option.bind_eq_some_iff] at hcf
        obtain ⟨L1, hL1, hcf⟩ := hcf
        obtain ⟨gb, o, lA, lc, qA, qc, tA, tc, hbA, hgb, k0, k1, k2, k3, k4, -, hgp, -⟩ := HB.out.at hblt
        subst hbA
        obtain ⟨k, hk⟩ : ∃ k, k = f.blocks[b] := ⟨_, rfl⟩
        rw [← hk] at k0 k1 k2 k3 k4 hgp hL1
        obtain ⟨ln, hln⟩ : ∃ ln, ln = k.list.length := ⟨_, rfl⟩
        obtain ⟨pl, hpl⟩ : ∃ pl, pl = k.preds.length := ⟨_, rfl⟩
        obtain ⟨tl, htl⟩ : ∃ tl, tl = k.to_.length := ⟨_, rfl⟩
        obtain ⟨kd, hkd⟩ : ∃ kd, kd = k.kind := ⟨_, rfl⟩
        obtain ⟨ka, hka⟩ : ∃ ka, ka = k.arg := ⟨_, rfl⟩
        rw [← hln] at k0
        rw [← hpl] at k1 hgp
        rw [← htl] at k4
        rw [← hkd] at k2
        rw [← hka] at k3
        have hplb : pl ≤ 1048576 := by rw [hpl, hk]; exact (Hpl.out _ (List.getElem_mem hblt)).1
        have hgw : gb < w.heap.size := Nat.lt_of_lt_of_le hgb Hn0.out
        have y0 := (HM.out.bel.cell (p := ⟨gb, o + b * 5, none⟩) hgw).trans k0
        have y1 := (HM.out.bel.cell (p := ⟨gb, o + b * 5 + 1, none⟩) hgw).trans k1
        have y2 := (HM.out.bel.cell (p := ⟨gb, o + b * 5 + 2, none⟩) hgw).trans k2
        have y3 := (HM.out.bel.cell (p := ⟨gb, o + b * 5 + 3, none⟩) hgw).trans k3
        have y4 := (HM.out.bel.cell (p := ⟨gb, o + b * 5 + 4, none⟩) hgw).trans k4
        obtain ⟨W1, hW1, hbW1, hzW1, h0W1⟩ := gr_one wo #[.slice lA ln lc, .slice qA pl qc, .int .i64 kd, .int .i64 ka, .slice tA tl tc] 76
        have y5 : W1.cell? ⟨wo.heap.size, 1, none⟩ = some (.slice qA pl qc) := Lib.cell_of_heap h0W1 1
        have HM1 := Lib.hid (HM.out.keep hbW1)
        have HW1 := Lib.hid hW1
        have HL1 := Lib.hid hL1
        have Hcf := Lib.hid hcf
        have Hgp := Lib.hid hgp
        have Hpll := Lib.hid hpl
        have Hgb := Lib.hid hgb
        clear hcf k0 k1 k2 k3 k4 hgp hk hln hpl htl hkd hka hgb hW1 hbW1 hzW1 h0W1 HLb hL1 hblt
        go_upto_region 5 with fail
        rw [← HW1.out]
        clear y0 y1 y2 y3 y4
        go_wp2_with fail
        clear y5
        go_loopw [31] (fun u31 wr => ∃ (a : Nat) (La : List (Int × Int)), a ≤ pl ∧ u31 = .int .i64 (a : Int) ∧ Hid (LayM w fc bn im La lb cb pb wr) ∧ Hid (comePreds f.blocks b a (k.preds.drop a) La = some L1)) (fun u31 _ => pl - (intOf u31).toNat)
        case atStart => exact ⟨0, _, Nat.zero_le _, rfl, HM1, HL1⟩
        case round =>
          clear HM1 HL1 HM
          obtain ⟨a, La, hab, rfl, HM, HLa⟩ := hrel
          obtain ⟨wm, hwm⟩ : ∃ x, x = wr := ⟨_, rfl⟩
          rw [← hwm] at HM ⊢
          clear hwm
          by_cases hlt2 : a < pl
          · have hpa : a < k.preds.length := by rw [← Hpll.out]; exact hlt2
            have hcp := HLa.out
            rw [List.drop_eq_getElem_cons hpa] at hcp
            unfold comePreds at hcp
            by_cases hf0 : 0 ≤ k.preds[a]
            case neg => rw [if_neg hf0] at hcp; cases hcp
            rw [if_pos hf0, Option.bind_eq_some_iff] at hcp
            obtain ⟨kf, hkf, hcp⟩ := hcp
            rw [Option.bind_eq_some_iff] at hcp
            obtain ⟨c, hc, hcp⟩ := hcp
            rw [Option.bind_eq_some_iff] at hcp
            obtain ⟨c', hc', hcp⟩ := hcp
            obtain ⟨fr, hfr⟩ : ∃ n : Nat, k.preds[a] = n := ⟨k.preds[a].toNat, by omega⟩
            obtain ⟨qb, qo, rfl, hqb, kq⟩ := Hgp.out.at hpa
            rw [hfr] at kq hkf hc hcp
            rw [Int.toNat_natCast] at hkf hc hcp
            have hfl : fr < f.blocks.length := (List.getElem?_eq_some_iff.mp hkf).1
            obtain ⟨gb', o', -, -, -, -, tA2, tc2, hbA2, -, -, -, -, -, k4, -, -, hgt⟩ := HB.out.at hfl
            injection hbA2 with hbA2
            injection hbA2 with e1 e2
            subst e1 e2
            rw [(List.getElem?_eq_some_iff.mp hkf).2] at k4 hgt
            obtain ⟨tl2, htl2⟩ : ∃ tl, tl = kf.to_.length := ⟨_, rfl⟩
            rw [← htl2] at k4 hgt
            have htb : tl2 ≤ 1048576 := by rw [htl2]; exact (Hpl.out _ (List.mem_of_getElem? hkf)).2
            have hfb : fr < bn := by rw [Hbn.out]; exact hfl
            have y0 := (HM.out.bel.cell (p := ⟨qb, qo + a, none⟩) (Nat.lt_of_lt_of_le hqb Hn0.out)).trans kq
            have y4 := (HM.out.bel.cell (p := ⟨gb, o + fr * 5 + 4, none⟩) hgw).trans k4
            have z4 : wm.cell? ⟨w.heap.size, 4, none⟩ = some (.slice (some ⟨gb, o, none⟩) bn bc) := by rw [Lib.cell_of_heap HM.out.h0 4, Hfc.out]; rfl
            have Hgt := Lib.hid hgt
            have Hcp := Lib.hid hcp
            have Hc' := Lib.hid hc'
            have Htl2 := Lib.hid htl2
            have Hc := Lib.hid hc
            have HM2 : Hid (LayM w fc bn im (La.set fr c) lb cb pb wm) := Lib.hid (by rw [set_itself hc]; exact HM.out)
            clear hcp hf0 hkf hc hc' hfr hqb kq hfl k4 hgt htl2 hpa HLa
            go_upto_region 8 with fail
            clear y0
            go_wp2_with fail
            clear y4 z4
            go_loopw [44] (fun u44 wr => ∃ (y : Nat) (cx : Int × Int), y ≤ tl2 ∧ u44 = .int .i64 (y : Int) ∧ Hid (LayM w fc bn im (La.set fr cx) lb cb pb wr) ∧ Hid (comeWay b a y (kf.to_.drop y) cx = some c')) (fun u44 _ => tl2 - (intOf u44).toNat)
            case atStart => exact ⟨0, c, Nat.zero_le _, rfl, HM2, Hc'⟩
            case round =>
              clear HM2 Hc' HM
              obtain ⟨y, cx, hyb, rfl, HM, HLy⟩ := hrel
              obtain ⟨wi, hwi⟩ : ∃ x, x = wr := ⟨_, rfl⟩
              rw [← hwi] at HM ⊢
              clear hwi
              by_cases hlt3 : y < tl2
              · have hyt : y < kf.to_.length := by rw [← Htl2.out]; exact hlt3
                have hcy := HLy.out
                rw [List.drop_eq_getElem_cons hyt] at hcy
                obtain ⟨hy1, hy2⟩ := comeWay_step hcy
                obtain ⟨tb, to', rfl, htb', kt⟩ := Hgt.out.at hyt
                obtain ⟨t, ht⟩ : ∃ t, t = kf.to_[y] := ⟨_, rfl⟩
                rw [← ht] at kt hy1 hy2
                have y0 := (HM.out.bel.cell (p := ⟨tb, to' + y, none⟩) (Nat.lt_of_lt_of_le htb' Hn0.out)).trans kt
                by_cases hte : t = (b : Int)
                · obtain ⟨hw1, hcy2⟩ := hy1 hte
                  have d1 : (t == (b : Int)) = true := by rw [hte]; simp
                  have z5 : wi.cell? ⟨lb, 5, none⟩ = some (.slice (some ⟨cb, 0, none⟩) bn bn) := by rw [Lib.cell_of_heap HM.out.hl 5, Hfc.out]; rfl
                  have hfrl : fr < La.length := (List.getElem?_eq_some_iff.mp Hc.out).1
                  have hgx : (La.set fr cx)[fr]? = some cx := List.getElem?_set_self hfrl
                  have zc : ∃ u, wi.cell? ⟨cb, fr * 2 + y, none⟩ = some u := by
                    have e := flat_at wCell 2 (fun _ => rfl) (La.set fr cx) fr cx hgx y (by omega)
                    rw [Lib.cell_of_heap HM.out.hc, List.getElem?_toArray, e]
                    rcases (show y = 0 ∨ y = 1 by omega) with rfl | rfl
                    · exact ⟨_, rfl⟩
                    · exact ⟨_, rfl⟩
                  obtain ⟨zu, zc⟩ := zc
                  have zf := Lib.frozen_of_heap HM.out.hc (fr * 2 + y)
                  have hP := HM.out.put hgx hw1 (a : Int)
                  rw [List.set_set] at hP
                  have hix := fun b o => pair_at b o y hw1
                  obtain ⟨V, hV⟩ : ∃ V, V = wi.setCell ⟨cb, fr * 2 + y, none⟩ (.int .i64 (a : Int)) := ⟨_, rfl⟩
                  rw [← hV] at hP
                  have HP := Lib.hid hP
                  have HV := Lib.hid hV
                  have Hcy2 := Lib.hid hcy2
                  clear hcy hy1 hy2 htb' kt ht hte hcy2 hgx hP hV hyt hfrl HLy
                  go_upto_region 13 with fail
                  rw [← HV.out]
                  go_wp2_with fail
                  go_roundw
                  case rel => exact ⟨y + 1, _, by omega, by go_num, HP, Hcy2⟩
                  case measure => simp [intOf]; omega
                · have hcy2 := hy2 hte
                  have d1 : (t == (b : Int)) = false := by simpa using hte
                  have Hcy2 := Lib.hid hcy2
                  clear hcy hy1 hy2 htb' kt ht hte hcy2 hyt HLy
                  go_wp2_with fail
                  go_roundw
                  case rel => exact ⟨y + 1, cx, by omega, by go_num, HM, Hcy2⟩
                  case measure => simp [intOf]; omega
              · have hye : y = kf.to_.length := by rw [← Htl2.out]; omega
                have hcy := HLy.out
                rw [hye, List.drop_length] at hcy
                have hce : cx = c' := by unfold comeWay at hcy; injection hcy
                rw [hce] at HM
                clear hye hcy hce HLy
                go_wp2_with fail
                go_roundw
                case rel => exact ⟨a + 1, _, by omega, by go_num, HM, Hcp⟩
                case measure => simp [intOf]; omega
          · have hae : a = k.preds.length := by rw [← Hpll.out]; omega
            have hcp := HLa.out
            rw [hae, List.drop_length] at hcp
            have hce : La = L1 := by unfold comePreds at hcp; injection hcp
            rw [hce] at HM
            clear hae hcp hce HLa
            go_wp2_with fail
            go_roundw
            case rel => exact ⟨b + 1, L1, by omega, by go_num, HM, Hcf⟩
            case measure => simp [intOf]; omega
      · have hbe : b = f.blocks.length := by rw [← Hbn.out]; omega
        have hcf := HLb.out
        rw [hbe, List.drop_length] at hcf
        have hce : Lb = L := by unfold comeFrom at hcf; injection hcf
        rw [hce] at HM
        clear hbe hcf hce HLb
        have g : ∀ j, wo.cell? ⟨lb, j, none⟩ = ([.string s, .slice pA pn pc, .int .i64 rt, .slice iA im ic, .slice bA bn bc, .slice (some ⟨cb, 0, none⟩) bn bn, .slice (some ⟨pb, 0, none⟩) im im] : List Value)[j]? := fun j => by rw [Lib.cell_of_heap HM.out.hl, Hfc.out, List.getElem?_toArray]; rfl
        have g0 := g 0
        have g1 := g 1
        have g2 := g 2
        have g3 := g 3
        have g4 := g 4
        have g5 := g 5
        have g6 := g 6
        have r0 := Lib.cell_of_heap HM.out.h1 0
        have r1 := Lib.cell_of_heap HM.out.h1 1
        have r2 := Lib.cell_of_heap HM.out.h1 2
        have r3 := Lib.cell_of_heap HM.out.h1 3
        have r4 := Lib.cell_of_heap HM.out.h1 4
        have r5 := Lib.cell_of_heap HM.out.h1 5
        have r6 := Lib.cell_of_heap HM.out.h1 6
        have rf := Lib.frozen_of_heap HM.out.h1
        have hnc : w.heap.size + 1 ≠ cb := by have := HM.out.bc; omega
        have hnp : w.heap.size + 1 ≠ pb := by have := HM.out.bp; omega
        obtain ⟨Z, hZ⟩ : ∃ Z, Z = (((((((wo.setCell ⟨w.heap.size + 1, 0, none⟩ (.string s)).setCell ⟨w.heap.size + 1, 1, none⟩ (.slice pA pn pc)).setCell ⟨w.heap.size + 1, 2, none⟩ (.int .i64 rt)).setCell ⟨w.heap.size + 1, 3, none⟩ (.slice iA im ic)).setCell ⟨w.heap.size + 1, 4, none⟩ (.slice bA bn bc)).setCell ⟨w.heap.size + 1, 5, none⟩ (.slice (some ⟨cb, 0, none⟩) bn bn)).setCell ⟨w.heap.size + 1, 6, none⟩ (.slice (some ⟨pb, 0, none⟩) im im)) := ⟨_, rfl⟩
        have hqZ : Z.heap[w.heap.size + 1]? = some (.cells #[.string s, .slice pA pn pc, .int .i64 rt, .slice iA im ic, .slice bA bn bc, .slice (some ⟨cb, 0, none⟩) bn bn, .slice (some ⟨pb, 0, none⟩) im im] 106 (0, 0)) := by
          rw [hZ]
          exact (gr_put (gr_put (gr_put (gr_put (gr_put (gr_put (gr_put HM.out.h1 0 _) 1 _) 2 _) 3 _) 4 _) 5 _) 6 _)
        have hbZ : Below w.heap.size w Z := by
          rw [hZ]
          exact (((((((HM.out.bel.setCell (p := ⟨w.heap.size + 1, 0, none⟩) (Nat.le_succ _) _).setCell (p := ⟨w.heap.size + 1, 1, none⟩) (Nat.le_succ _) _).setCell (p := ⟨w.heap.size + 1, 2, none⟩) (Nat.le_succ _) _).setCell (p := ⟨w.heap.size + 1, 3, none⟩) (Nat.le_succ _) _).setCell (p := ⟨w.heap.size + 1, 4, none⟩) (Nat.le_succ _) _).setCell (p := ⟨w.heap.size + 1, 5, none⟩) (Nat.le_succ _) _).setCell (p := ⟨w.heap.size + 1, 6, none⟩) (Nat.le_succ _) _)
        have hcZ : Z.heap[cb]? = some (.cells (L.flatMap wCell).toArray 131 (0, 0)) := by
          rw [hZ]
          exact (cells_off (cells_off (cells_off (cells_off (cells_off (cells_off (cells_off HM.out.hc hnc) hnc) hnc) hnc) hnc) hnc) hnc)
        have hpZ : Z.heap[pb]? = some (.cells ((List.replicate im (⟨⟨0, none⟩, 0⟩ : XPl)).flatMap (pCell fun _ => 0)).toArray 176 (0, 0)) := by
          rw [hZ]
          exact (cells_off (cells_off (cells_off (cells_off (cells_off (cells_off (cells_off HM.out.hp hnp) hnp) hnp) hnp) hnp) hnp) hnp)
        have HZ := Lib.hid hZ
        have HqZ := Lib.hid hqZ
        have HbZ := Lib.hid hbZ
        have HcZ := Lib.hid hcZ
        have HpZ := Lib.hid hpZ
        clear g hZ hqZ hbZ hcZ hpZ hnc hnp
        go_wp2_with fail
        rw [← HZ.out]
        try simp only [Exit.inBlock, Exit.then]
        refine bodyPost_ret (results_cell_row rfl _ _ (w.heap.size + 1) _ _ _ _ rfl HqZ.out Try.underlying106 rfl (by kernel_rfl)) rfl ?_
        exact ⟨cb, pb, rfl, HcZ.out, HpZ.out, by have := HM.out.bc; omega, by have := HM.out.bp; omega, HM.out.cp, HbZ.out⟩
end Go.Proofs.Ytagagpappjkgbaa
