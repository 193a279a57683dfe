/-
  Programs that may be: listed, where it says yes.
-/
import Derived.Test.YtagagpappjkgbaaJx37
namespace Go.Proofs.Ytagagpappjkgbaa
set_option linter.unusedVariables false
set_option linter.unusedSimpArgs false
open Go.RowKit Go.Sort

def listRow (b : Int) : Nat → List Int → List Int → List Int → Option (List Int × List Int)
  | _, [], p, q => some (p, q)
  | k, a :: rs, p, q => if 0 ≤ a ∧ a < p.length ∧ a < q.length ∧ p.getD a.toNat 0 = -1 then listRow b (k + 1) rs (p.set a.toNat b) (q.set a.toNat (k : Int)) else none
def listFrom : Nat → List SB → List Int → List Int → Option (List Int × List Int)
  | _, [], p, q => some (p, q)
  | i, k :: ks, p, q => match listRow (i : Int) 0 k.list p q with
    | some (p', q') => listFrom (i + 1) ks p' q'
    | none => none

/-- The subject, when it notes where its instructions stand. -/
structure Lst (n0 sb : Nat) (V : SV) (fs : List SF) (f : SF) (w : World) (ib ab n : Nat) (p q : List Int) (A : World) : Prop where
  s : Sbj n0 sb V fs f (.slice (some ⟨ib, 0, none⟩) n n) (.slice (some ⟨ab, 0, none⟩) n n) A
  ip : IRow A ib p
  iq : IRow A ab q
  lp : p.length = n
  lq : q.length = n
  b : Below sb w A
  n0s : n0 ≤ sb
  si : sb < ib
  sa : sb < ab
  ne : ib ≠ ab
theorem Lst.keep {n0 sb : Nat} {V : SV} {fs : List SF} {f : SF} {w : World} {ib ab n : Nat} {p q : List Int} {A A' : World} (h : Lst n0 sb V fs f w ib ab n p q A) (hb : Below A.heap.size A A') : Lst n0 sb V fs f w ib ab n p q A' :=
  ⟨h.s.keep hb, h.ip.keep (hb.block ib h.ip.lt), h.iq.keep (hb.block ab h.iq.lt), h.lp, h.lq, h.b.trans (hb.mono (Nat.le_of_lt (gr_in h.s.c))), h.n0s, h.si, h.sa, h.ne⟩
theorem Sbj.far {n0 sb : Nat} {V : SV} {fs : List SF} {f : SF} {vi va : Value} {A : World} (h : Sbj n0 sb V fs f vi va A) (p : Addr) (u : Value) (hp : n0 ≤ p.block) (hs : sb ≠ p.block) : Sbj n0 sb V fs f vi va (A.setCell p u) := by
  have hb : Below n0 A (A.setCell p u) := (Below.refl n0 A).setCell hp u
  exact ⟨(Below.heap_setCell A p u sb hs).trans h.c, Nat.le_trans h.hn hb.size, h.fsr.keep hb, h.fl, h.pr.keep hb, h.rr, h.ir.keep hb, h.il, h.br.keep hb, h.bl, h.ib, h.bb, h.fb⟩
theorem Lst.put {n0 sb : Nat} {V : SV} {fs : List SF} {f : SF} {w : World} {ib ab n : Nat} {p q : List Int} {A : World} (h : Lst n0 sb V fs f w ib ab n p q A) (j : Nat) (x : Int) : Lst n0 sb V fs f w ib ab n (p.set j x) q (A.setCell ⟨ib, j, none⟩ (.int .i64 x)) := by
  have h1 := h.si
  have h2 := h.n0s
  exact ⟨h.s.far _ _ (by show n0 ≤ ib; omega) (by show sb ≠ ib; omega), h.ip.put j x, h.iq.keep (Below.heap_setCell _ _ _ _ (by show ab ≠ ib; exact h.ne.symm)), by simpa using h.lp, h.lq, h.b.setCell (by show sb ≤ ib; omega) _, h2, h1, h.sa, h.ne⟩
theorem Lst.puq {n0 sb : Nat} {V : SV} {fs : List SF} {f : SF} {w : World} {ib ab n : Nat} {p q : List Int} {A : World} (h : Lst n0 sb V fs f w ib ab n p q A) (j : Nat) (x : Int) : Lst n0 sb V fs f w ib ab n p (q.set j x) (A.setCell ⟨ab, j, none⟩ (.int .i64 x)) := by
  have h1 := h.sa
  have h2 := h.n0s
  exact ⟨h.s.far _ _ (by show n0 ≤ ab; omega) (by show sb ≠ ab; omega), h.ip.keep (Below.heap_setCell _ _ _ _ (by show ib ≠ ab; exact h.ne)), h.iq.put j x, h.lp, by simpa using h.lq, h.b.setCell (by show sb ≤ ab; omega) _, h2, h.si, h1, h.ne⟩
theorem Lst.c7 {n0 sb : Nat} {V : SV} {fs : List SF} {f : SF} {w : World} {ib ab n : Nat} {p q : List Int} {A : World} (h : Lst n0 sb V fs f w ib ab n p q A) : A.cell? ⟨sb, 7, none⟩ = some (.slice (some ⟨ib, 0, none⟩) n n) := Lib.cell_of_heap h.s.c 7
theorem Lst.c8 {n0 sb : Nat} {V : SV} {fs : List SF} {f : SF} {w : World} {ib ab n : Nat} {p q : List Int} {A : World} (h : Lst n0 sb V fs f w ib ab n p q A) : A.cell? ⟨sb, 8, none⟩ = some (.slice (some ⟨ab, 0, none⟩) n n) := Lib.cell_of_heap h.s.c 8
theorem SubC.put7 {w : World} {sb : Nat} {fA : Option Addr} {fn fc : Nat} {mn : Int} {s : ByteArray} {pA : Option Addr} {pn pc : Nat} {r : Int} {iA : Option Addr} {in_ ic : Nat} {bA : Option Addr} {bn bc : Nat} {vi va : Value} (h : SubC w sb fA fn fc mn s pA pn pc r iA in_ ic bA bn bc vi va) (u : Value) : SubC (w.setCell ⟨sb, 7, none⟩ u) sb fA fn fc mn s pA pn pc r iA in_ ic bA bn bc u va := gr_put h 7 u
theorem SubC.put8 {w : World} {sb : Nat} {fA : Option Addr} {fn fc : Nat} {mn : Int} {s : ByteArray} {pA : Option Addr} {pn pc : Nat} {r : Int} {iA : Option Addr} {in_ ic : Nat} {bA : Option Addr} {bn bc : Nat} {vi va : Value} (h : SubC w sb fA fn fc mn s pA pn pc r iA in_ ic bA bn bc vi va) (u : Value) : SubC (w.setCell ⟨sb, 8, none⟩ u) sb fA fn fc mn s pA pn pc r iA in_ ic bA bn bc vi u := gr_put h 8 u
theorem Sbj.put7 {n0 sb : Nat} {V : SV} {fs : List SF} {f : SF} {vi va : Value} {A : World} (h : Sbj n0 sb V fs f vi va A) (hs : n0 ≤ sb) (u : Value) : Sbj n0 sb V fs f u va (A.setCell ⟨sb, 7, none⟩ u) := by
  have hb : Below n0 A (A.setCell ⟨sb, 7, none⟩ u) := (Below.refl n0 A).setCell hs u
  exact ⟨h.c.put7 u, Nat.le_trans h.hn hb.size, h.fsr.keep hb, h.fl, h.pr.keep hb, h.rr, h.ir.keep hb, h.il, h.br.keep hb, h.bl, h.ib, h.bb, h.fb⟩
theorem Sbj.put8 {n0 sb : Nat} {V : SV} {fs : List SF} {f : SF} {vi va : Value} {A : World} (h : Sbj n0 sb V fs f vi va A) (hs : n0 ≤ sb) (u : Value) : Sbj n0 sb V fs f vi u (A.setCell ⟨sb, 8, none⟩ u) := by
  have hb : Below n0 A (A.setCell ⟨sb, 8, none⟩ u) := (Below.refl n0 A).setCell hs u
  exact ⟨h.c.put8 u, Nat.le_trans h.hn hb.size, h.fsr.keep hb, h.fl, h.pr.keep hb, h.rr, h.ir.keep hb, h.il, h.br.keep hb, h.bl, h.ib, h.bb, h.fb⟩
set_option maxRecDepth 100000 in
set_option maxHeartbeats 8000000 in
theorem listed_t (n0 sb : Nat) (V : SV) (fs : List SF) (f : SF) (vi va : Value) (w : World) (h : Sbj n0 sb V fs f vi va w) (hs : n0 ≤ sb) (h1 : 1 ≤ f.ins.length) (hlen : ∀ k ∈ f.blocks, k.list.length ≤ 1048576) (P Q : List Int) (hm : listFrom 0 f.blocks (List.replicate f.ins.length (-1)) (List.replicate f.ins.length 0) = some (P, Q)) (hP : ∀ j, j < f.ins.length → P.getD j 0 ≠ -1) (hop : ∀ x ∈ f.ins, x.op ≠ 0) :
    Calls Try.prog 96 #[.pointer (some ⟨sb, 0, none⟩)] w fun e w' => e = .returned (.bool true) ∧ ∃ ib ab, Lst n0 sb V fs f w ib ab f.ins.length P Q w' := by
  obtain ⟨inn, hin⟩ : ∃ inn, V.in_ = inn := ⟨_, rfl⟩
  obtain ⟨bA, hbA⟩ : ∃ bA, V.bA = bA := ⟨_, rfl⟩
  obtain ⟨bn, hbn⟩ : ∃ bn, V.bn = bn := ⟨_, rfl⟩
  obtain ⟨bc, hbc⟩ : ∃ bc, V.bc = bc := ⟨_, rfl⟩
  obtain ⟨iA, hiA⟩ : ∃ iA, V.iA = iA := ⟨_, rfl⟩
  obtain ⟨ic, hic⟩ : ∃ ic, V.ic = ic := ⟨_, rfl⟩
  have hil : inn = f.ins.length := hin ▸ h.il
  have hib : inn ≤ 1048576 := hin ▸ h.ib
  have h1n : 1 ≤ inn := by omega
  have hbb : bn ≤ 1048576 := hbn ▸ h.bb
  have hbl : bn = f.blocks.length := hbn ▸ h.bl
  have Hbl := Lib.hid hbl
  have HV : Hid (∀ A vi va, Sbj n0 sb V fs f vi va A → A.cell? ⟨sb, 5, none⟩ = some (.slice iA inn ic) ∧ A.cell? ⟨sb, 6, none⟩ = some (.slice bA bn bc) ∧ SBs n0 A (.slice bA bn bc) f.blocks ∧ SIs n0 A (.slice iA inn ic) f.ins ∧ n0 ≤ A.heap.size) := Lib.hid fun A vi va hA => by
    rw [← hbA, ← hbn, ← hbc, ← hiA, ← hin, ← hic]
    exact ⟨Lib.cell_of_heap hA.c 5, Lib.cell_of_heap hA.c 6, hA.br, hA.ir, hA.hn⟩
  obtain ⟨Z, hZ, hbZ, hzZ, h0Z⟩ := gr_one w #[.int .i64 (-1)] 3
  have hRp := repeat_g w.heap.size 0 (-1) inn Z (Lib.cell_of_heap h0Z 0) h1n hib
  have hmk := makeZ inn hib
  have s0 := (HV.out _ _ _ h).1
  have sZ := (HV.out _ _ _ (h.keep hbZ)).1
  rw [hZ] at hRp sZ
  have HZ := Lib.hid hZ
  have Hil := Lib.hid hil
  have H : Hid (Sbj n0 sb V fs f vi va w) := Lib.hid h
  have HbZ := Lib.hid hbZ
  have Hin := Lib.hid hin
  have Hm := Lib.hid hm
  have HP := Lib.hid hP
  have Hop := Lib.hid hop
  have Hlen := Lib.hid hlen
  clear h hZ hbZ hzZ h0Z hil hin hm hP hop hlen h1 hbA hbn hbc hiA hic hbl
  go_enter Try.func96, Try.ntmps96
  go_upto_region 2 with (first | (go_at_call 115; refine hRp.mono ?_; rintro e w5 ⟨ib, rfl, hnb, hI5, hb5⟩; rw [← HZ.out] at hnb hb5; have HM : Hid (Z.heap.size ≤ ib ∧ Below Z.heap.size Z w5) := Lib.hid ⟨hnb, hb5⟩; have HI5 := Lib.hid hI5; have s5 : Sbj n0 sb V fs f vi va w5 := (H.out.keep HbZ.out).keep hb5; have c7 := Lib.cell_of_heap s5.c 7; have f7 := Lib.frozen_of_heap s5.c 7; have HS5 := Lib.hid s5; clear hnb hb5 hI5 hRp s5))
  have hIX : IRow (w5.setCell ⟨sb, 7, none⟩ (.slice (some ⟨ib, 0, none⟩) inn inn)) ib (List.replicate inn (-1)) := HI5.out.keep (Below.heap_setCell _ _ _ _ (by have := HM.out.1; have := gr_in H.out.c; have := HbZ.out.size; show ib ≠ sb; omega))
  have hsX := HS5.out.put7 hs (.slice (some ⟨ib, 0, none⟩) inn inn)
  have hbX : Below sb w (w5.setCell ⟨sb, 7, none⟩ (.slice (some ⟨ib, 0, none⟩) inn inn)) := ((HbZ.out.mono (Nat.le_of_lt (gr_in H.out.c))).trans (HM.out.2.mono (Nat.le_trans (Nat.le_of_lt (gr_in H.out.c)) HbZ.out.size))).setCell (Nat.le_refl _) _
  have hib0 : sb < ib := by have := HM.out.1; have := gr_in H.out.c; have := HbZ.out.size; omega
  obtain ⟨X, hX⟩ : ∃ X, X = w5.setCell ⟨sb, 7, none⟩ (.slice (some ⟨ib, 0, none⟩) inn inn) := ⟨_, rfl⟩
  rw [← hX] at hIX hsX hbX ⊢
  clear hX c7 f7 HS5 HI5 HM sZ HZ s0 HbZ H Z w5
  obtain ⟨U, hU, hbU, hzU, h0U⟩ := gr_one X (intsV (List.replicate inn 0)).toArray 3
  have sU := hsX.keep hbU
  have c8 := Lib.cell_of_heap sU.c 8
  have f8 := Lib.frozen_of_heap sU.c 8
  have x5 := (HV.out _ _ _ hsX).1
  have hL : Lst n0 sb V fs f w ib X.heap.size inn (List.replicate inn (-1)) (List.replicate inn 0) (U.setCell ⟨sb, 8, none⟩ (.slice (some ⟨X.heap.size, 0, none⟩) inn inn)) :=
    ⟨sU.put8 hs _, (hIX.keep (hbU.block ib hIX.lt)).keep (Below.heap_setCell _ _ _ _ (by show ib ≠ sb; omega)), IRow.keep (w := U) h0U (Below.heap_setCell _ _ _ _ (by have := gr_in hsX.c; show X.heap.size ≠ sb; omega)), by simp, by simp, (hbX.trans (hbU.mono (Nat.le_of_lt (gr_in hsX.c)))).setCell (Nat.le_refl _) _, hs, hib0, gr_in hsX.c, Nat.ne_of_lt hIX.lt⟩
  have HL := Lib.hid hL
  rw [hU] at c8 f8
  have HU := Lib.hid hU
  clear hL sU hbU hzU h0U hU hIX hsX hbX hib0
  go_upto_region 3 with fail
  rw [← HU.out]
  obtain ⟨G, hG⟩ : ∃ G, G = U.setCell ⟨sb, 8, none⟩ (.slice (some ⟨X.heap.size, 0, none⟩) inn inn) := ⟨_, rfl⟩
  rw [← hG] at HL ⊢
  clear hG c8 f8 x5 HU hmk
  obtain ⟨ab, hab⟩ : ∃ ab, ab = X.heap.size := ⟨_, rfl⟩
  rw [← hab] at HL
  have x6 := (HV.out _ _ _ HL.out.s).2.1
  have HN0 : Hid (Lst n0 sb V fs f w ib ab inn (List.replicate inn (-1)) (List.replicate inn 0) G ∧ listFrom 0 (f.blocks.drop 0) (List.replicate inn (-1)) (List.replicate inn 0) = some (P, Q)) := Lib.hid ⟨HL.out, by rw [Hil.out]; exact Hm.out⟩
  clear HL Hm
  go_upto_block 0 with fail
  clear x6
  go_wp2_with fail
  rw [← hab]
  clear hab
  go_loopw [36] (fun u36 wr => ∃ (i : Nat) (p q : List Int), i ≤ bn ∧ u36 = .int .i64 i ∧ Hid (Lst n0 sb V fs f w ib ab inn p q wr ∧ listFrom i (f.blocks.drop i) p q = some (P, Q))) (fun u36 _ => bn - (intOf u36).toNat)
  case atStart => exact ⟨0, _, _, Nat.zero_le _, rfl, HN0⟩
  case round =>
    clear HN0
    obtain ⟨i, p, q, hi, rfl, HN⟩ := hrel
    obtain ⟨C, hC⟩ : ∃ C, C = wr := ⟨_, rfl⟩
    rw [← hC] at HN ⊢
    clear hC
    by_cases hli : i < bn
    · have hil : i < f.blocks.length := by rw [← Hbl.out]; exact hli
      obtain ⟨-, -, hbr, -, hnC⟩ := HV.out _ _ _ HN.out.1.s
      obtain ⟨gb, o, lA, lc, pA', pc', tA, tc, rfl, hgb, k0, k1, k2, k3, k4, hlr, -, -⟩ := hbr.at hil
      obtain ⟨d, hd⟩ : ∃ d, d = f.blocks[i] := ⟨_, rfl⟩
      have hlb := Hlen.out d (by rw [hd]; exact List.getElem_mem hil)
      rw [← hd] at k0 k1 k2 k3 k4 hlr
      have hmf := HN.out.2
      rw [List.drop_eq_getElem_cons hil, ← hd] at hmf
      unfold listFrom at hmf
      obtain ⟨Z, hZ, hbZ, hzZ, h0Z⟩ := gr_one C #[.slice lA d.list.length lc, .slice pA' d.preds.length pc', .int .i64 d.kind, .int .i64 d.arg, .slice tA d.to_.length tc] 76
      have HNj : Hid (Lst n0 sb V fs f w ib ab inn p q Z ∧ Below n0 C Z ∧ (match listRow (i : Int) 0 (d.list.drop 0) p q with | some (p', q') => listFrom (i + 1) (f.blocks.drop (i + 1)) p' q' | none => none) = some (P, Q)) := Lib.hid ⟨HN.out.1.keep hbZ, hbZ.mono hnC, hmf⟩
      have Hgl : Hid (∀ A, Below n0 C A → GNs n0 A (.slice lA d.list.length lc) d.list) := Lib.hid fun A hA => hlr.keep hA
      have y0 := Lib.cell_of_heap h0Z 0
      have HZ := Lib.hid hZ
      obtain ⟨ln, hln⟩ : ∃ ln, ln = d.list.length := ⟨_, rfl⟩
      rw [← hln] at y0 hlb HZ Hgl k0
      have Hln := Lib.hid hln
      clear hln hZ hbZ hzZ h0Z hlr hd hil HN hgb hmf hnC hbr
      go_upto_region 6 with fail
      rw [← HZ.out]
      clear k0 k1 k2 k3 k4
      go_upto_block 2 with fail
      clear y0
      go_wp2_with fail
      go_loopw [44] (fun u44 wr => ∃ (j : Nat) (p q : List Int), j ≤ ln ∧ u44 = .int .i64 j ∧ Hid (Lst n0 sb V fs f w ib ab inn p q wr ∧ Below n0 C wr ∧ (match listRow (i : Int) j (d.list.drop j) p q with | some (p', q') => listFrom (i + 1) (f.blocks.drop (i + 1)) p' q' | none => none) = some (P, Q))) (fun u44 _ => ln - (intOf u44).toNat)
      case atStart => exact ⟨0, _, _, Nat.zero_le _, rfl, HNj⟩
      case round =>
        clear HNj p q
        obtain ⟨j, p, q, hj, rfl, HN⟩ := hrel
        obtain ⟨D, hD⟩ : ∃ D, D = wr := ⟨_, rfl⟩
        rw [← hD] at HN ⊢
        clear hD
        by_cases hlj : j < ln
        · obtain ⟨hL, hDC, hmr⟩ := HN.out
          have hjl : j < d.list.length := by rw [← Hln.out]; exact hlj
          obtain ⟨tb, tq, rfl, c1⟩ := (Hgl.out D hDC).rd hlj
          rw [List.drop_eq_getElem_cons hjl] at hmr
          unfold listRow at hmr
          have hge : d.list.getD j 0 = d.list[j] := by simp [List.getD, hjl]
          rw [hge] at c1
          by_cases hc : 0 ≤ d.list[j] ∧ d.list[j] < p.length ∧ d.list[j] < q.length ∧ p.getD d.list[j].toNat 0 = -1
          · rw [if_pos hc] at hmr
            obtain ⟨a, hte⟩ : ∃ a : Nat, d.list[j] = a := ⟨d.list[j].toNat, by omega⟩
            rw [hte] at hmr c1 hc
            simp only [Int.toNat_natCast] at hmr hc
            obtain ⟨-, hap, haq, hax⟩ := hc
            have hap2 : a < p.length := by omega
            have haq2 : a < q.length := by omega
            have han : a < inn := by have := hL.lp; omega
            have c2 := hL.ip.cell hap2
            rw [hax] at c2
            have d1 : decide ((a : Int) < 0) = false := decide_eq_false (by omega)
            have d2 : decide ((a : Int) ≥ (inn : Int)) = false := decide_eq_false (by omega)
            have c7 := hL.c7
            have Hab : Hid (n0 ≤ ib ∧ n0 ≤ ab) := Lib.hid ⟨by have := hL.n0s; have := hL.si; omega, by have := hL.n0s; have := hL.sa; omega⟩
            have HLD := Lib.hid hL
            have HDC := Lib.hid hDC
            have Hmr := Lib.hid hmr
            have Hax : Hid (a < p.length ∧ a < q.length) := Lib.hid ⟨hap2, haq2⟩
            clear hL hDC hmr hjl hge hte hap haq hap2 haq2 hax HN
            go_upto_region 11 with fail
            clear c1 c2 c7 d1 d2
            have hbd : Below D.heap.size D D.drew := (Below.refl _ _).drew
            have hLd := HLD.out.keep hbd
            have hL1 := hLd.put a (i : Int)
            have hL2 := hL1.puq a (j : Int)
            have hs0 : D.drew.cell? ⟨sb, 7, none⟩ = some (.slice (some ⟨ib, 0, none⟩) inn inn) ∧ D.drew.cell? ⟨sb, 8, none⟩ = some (.slice (some ⟨ab, 0, none⟩) inn inn) := ⟨hLd.c7, hLd.c8⟩
            have hs1 : (D.drew.setCell ⟨ib, a, none⟩ (.int .i64 (i : Int))).cell? ⟨sb, 7, none⟩ = some (.slice (some ⟨ib, 0, none⟩) inn inn) ∧ (D.drew.setCell ⟨ib, a, none⟩ (.int .i64 (i : Int))).cell? ⟨sb, 8, none⟩ = some (.slice (some ⟨ab, 0, none⟩) inn inn) := ⟨hL1.c7, hL1.c8⟩
            have hs2 : ((D.drew.setCell ⟨ib, a, none⟩ (.int .i64 (i : Int))).setCell ⟨ab, a, none⟩ (.int .i64 (j : Int))).cell? ⟨sb, 7, none⟩ = some (.slice (some ⟨ib, 0, none⟩) inn inn) ∧ ((D.drew.setCell ⟨ib, a, none⟩ (.int .i64 (i : Int))).setCell ⟨ab, a, none⟩ (.int .i64 (j : Int))).cell? ⟨sb, 8, none⟩ = some (.slice (some ⟨ab, 0, none⟩) inn inn) := ⟨hL2.c7, hL2.c8⟩
            have m1 := hLd.ip.cell Hax.out.1
            have m2 := hLd.ip.fro a
            have m3 := hL1.iq.cell Hax.out.2
            have m4 := hL1.iq.fro a
            have m5 : (D.setCell ⟨ib, a, none⟩ (.int .i64 (i : Int))).cell? ⟨ab, a, none⟩ = some (.int .i64 (q.getD a 0)) := m3
            have m6 : (D.setCell ⟨ib, a, none⟩ (.int .i64 (i : Int))).frozen? ⟨ab, a, none⟩ = false := m4
            have HN2 : Hid (Lst n0 sb V fs f w ib ab inn (p.set a (i : Int)) (q.set a (j : Int)) ((D.drew.setCell ⟨ib, a, none⟩ (.int .i64 (i : Int))).setCell ⟨ab, a, none⟩ (.int .i64 (j : Int))) ∧ Below n0 C ((D.drew.setCell ⟨ib, a, none⟩ (.int .i64 (i : Int))).setCell ⟨ab, a, none⟩ (.int .i64 (j : Int))) ∧ (match listRow (i : Int) (j + 1) (d.list.drop (j + 1)) (p.set a (i : Int)) (q.set a (j : Int)) with | some (p', q') => listFrom (i + 1) (f.blocks.drop (i + 1)) p' q' | none => none) = some (P, Q)) := Lib.hid ⟨hL2, ((HDC.out.drew).setCell (p := ⟨ib, a, none⟩) Hab.out.1 _).setCell (p := ⟨ab, a, none⟩) Hab.out.2 _, Hmr.out⟩
            clear hbd hLd hL1 hL2 HLD HDC Hmr Hax
            refine wp_region_noPanic ?_
            refine wp_region_held_drew (S := fun A : World => A.cell? ⟨sb, 7, none⟩ = some (.slice (some ⟨ib, 0, none⟩) inn inn) ∧ A.cell? ⟨sb, 8, none⟩ = some (.slice (some ⟨ab, 0, none⟩) inn inn)) (by kernel_rfl) hs0 (fun hHeld => ?_)
            refine wpAnyH_take (i := 0) (v := ?_) rfl (by kernel_rfl) (by kernel_rfl) (by kernel_rfl) (fun _ _ _ h => h) (Or.inl ⟨by kernel_rfl, ?_⟩) (by assumption) ?_
            rotate_left
            · (intro w hSw; (try dsimp only at hSw); first | (go_simp; done) | (go_simp; with_reducible rfl))
            try simp only [Act.put, List.setIfInBounds_toArray, List.set_cons_zero, List.set_cons_succ]
            refine wpAnyH_take (i := 1) (v := ?_) rfl (by kernel_rfl) (by kernel_rfl) (by kernel_rfl) (fun _ _ _ h => h) (Or.inl ⟨by kernel_rfl, ?_⟩) (by assumption) ?_
            rotate_left
            · (intro w hSw; (try dsimp only at hSw); first | (go_simp; done) | (go_simp; with_reducible rfl))
            try simp only [Act.put, List.setIfInBounds_toArray, List.set_cons_zero, List.set_cons_succ]
            refine wpAnyH_take (i := 2) (v := ?_) rfl (by kernel_rfl) (by kernel_rfl) (by kernel_rfl) (fun _ _ _ h => h) (Or.inl ⟨by kernel_rfl, ?_⟩) (by assumption) ?_
            rotate_left
            · (intro w hSw; (try dsimp only at hSw); first | (go_simp; done) | (go_simp; with_reducible rfl))
            try simp only [Act.put, List.setIfInBounds_toArray, List.set_cons_zero, List.set_cons_succ]
            refine wpAnyH_take (i := 3) (v := ?_) rfl (by kernel_rfl) (by kernel_rfl) (by kernel_rfl) (fun _ _ _ h => h) (Or.inl ⟨by kernel_rfl, ?_⟩) (by assumption) ?_
            rotate_left
            · (intro w hSw; (try dsimp only at hSw); first | (go_simp; done) | (go_simp; with_reducible rfl))
            try simp only [Act.put, List.setIfInBounds_toArray, List.set_cons_zero, List.set_cons_succ]
            refine wpAnyH_take (i := 4) (v := ?_) rfl (by kernel_rfl) (by kernel_rfl) (by kernel_rfl) (fun _ _ _ h => h) (Or.inl ⟨by kernel_rfl, ?_⟩) (by assumption) ?_
            rotate_left
            · (intro w hSw; (try dsimp only at hSw); first | (go_simp; done) | (go_simp; with_reducible rfl))
            try simp only [Act.put, List.setIfInBounds_toArray, List.set_cons_zero, List.set_cons_succ]
            refine wpAnyH_take (i := 5) (v := ?_) rfl (by kernel_rfl) (by kernel_rfl) (by kernel_rfl) (fun _ _ _ h => h) (Or.inl ⟨by kernel_rfl, ?_⟩) (by assumption) ?_
            rotate_left
            · (intro w hSw; (try dsimp only at hSw); first | (go_simp; done) | (go_simp; with_reducible rfl))
            try simp only [Act.put, List.setIfInBounds_toArray, List.set_cons_zero, List.set_cons_succ]
            refine wpAnyH_take (i := 6) (v := ?_) rfl (by kernel_rfl) (by kernel_rfl) (by kernel_rfl) (fun _ _ _ h => h) (Or.inl ⟨by kernel_rfl, ?_⟩) (by assumption) ?_
            rotate_left
            · (intro w hSw; (try dsimp only at hSw); first | (go_simp; done) | (go_simp; with_reducible rfl))
            try simp only [Act.put, List.setIfInBounds_toArray, List.set_cons_zero, List.set_cons_succ]
            refine wpAnyH_take (i := 7) (v := ?_) rfl (by kernel_rfl) (by kernel_rfl) (by kernel_rfl) (fun _ _ _ h => h) (Or.inl ⟨by kernel_rfl, ?_⟩) (by assumption) ?_
            rotate_left
            · (intro w hSw; (try dsimp only at hSw); first | (go_simp; done) | (go_simp; with_reducible rfl))
            try simp only [Act.put, List.setIfInBounds_toArray, List.set_cons_zero, List.set_cons_succ]
            refine wpAnyH_take (i := 8) (v := ?_) rfl (by kernel_rfl) (by kernel_rfl) (by kernel_rfl) (fun _ _ _ h => h) (Or.inl ⟨by kernel_rfl, ?_⟩) (by assumption) ?_
            rotate_left
            · (intro w hSw; (try dsimp only at hSw); first | (go_simp; done) | (go_simp; with_reducible rfl))
            try simp only [Act.put, List.setIfInBounds_toArray, List.set_cons_zero, List.set_cons_succ]
            refine wpAnyH_take (i := 9) (v := ?_) rfl (by kernel_rfl) (by kernel_rfl) (by kernel_rfl) (fun _ _ _ h => h) (Or.inl ⟨by kernel_rfl, ?_⟩) (by assumption) ?_
            rotate_left
            · (intro w hSw; (try dsimp only at hSw); first | (go_simp; done) | (go_simp; with_reducible rfl))
            try simp only [Act.put, List.setIfInBounds_toArray, List.set_cons_zero, List.set_cons_succ]
            refine wpAnyH_take (i := 10) (v := ?_) rfl (by kernel_rfl) (by kernel_rfl) (by kernel_rfl) (fun _ _ _ h => h) (Or.inl ⟨by kernel_rfl, ?_⟩) (by assumption) ?_
            rotate_left
            · (intro w hSw; (try dsimp only at hSw); first | (go_simp; done) | (go_simp; with_reducible rfl))
            try simp only [Act.put, List.setIfInBounds_toArray, List.set_cons_zero, List.set_cons_succ]
            refine wpAnyH_take (i := 11) (v := ?_) rfl (by kernel_rfl) (by kernel_rfl) (by kernel_rfl) (fun _ _ _ h => h) (Or.inl ⟨by kernel_rfl, ?_⟩) (by assumption) ?_
            rotate_left
            · (intro w hSw; (try dsimp only at hSw); first | (go_simp; done) | (go_simp; with_reducible rfl))
            try simp only [Act.put, List.setIfInBounds_toArray, List.set_cons_zero, List.set_cons_succ]
            refine wpAnyH_take (i := 12) (v := ?_) rfl (by kernel_rfl) (by kernel_rfl) (by kernel_rfl) (fun _ _ _ h => h) (Or.inl ⟨by kernel_rfl, ?_⟩) (by assumption) ?_
            rotate_left
            · (intro w hSw; (try dsimp only at hSw); first | (go_simp; done) | (go_simp; with_reducible rfl))
            try simp only [Act.put, List.setIfInBounds_toArray, List.set_cons_zero, List.set_cons_succ]
            refine wpAnyH_ready (rs := [13]) (by kernel_rfl) (by simp) ?_
            refine AllReadyH.cons rfl (fun K hK => ?_) (AllReadyH.nil)
            go_simp
            refine hK.out _ _ ?_ (fun hHeld => ?_)
            · ((try dsimp only); first | with_reducible assumption | exact hs1 | exact hs2)
            clear hK K
            try simp only [Act.put, List.setIfInBounds_toArray, List.set_cons_zero, List.set_cons_succ]
            refine wpAnyH_take (i := 14) (v := ?_) rfl (by kernel_rfl) (by kernel_rfl) (by kernel_rfl) (fun _ _ _ h => h) (Or.inl ⟨by kernel_rfl, ?_⟩) (by assumption) ?_
            rotate_left
            · (intro w hSw; (try dsimp only at hSw); first | (go_simp; done) | (go_simp; with_reducible rfl))
            try simp only [Act.put, List.setIfInBounds_toArray, List.set_cons_zero, List.set_cons_succ]
            refine wpAnyH_ready (rs := [15]) (by kernel_rfl) (by simp) ?_
            refine AllReadyH.cons rfl (fun K hK => ?_) (AllReadyH.nil)
            go_simp
            refine hK.out _ _ ?_ (fun hHeld => ?_)
            · ((try dsimp only); first | with_reducible assumption | exact hs1 | exact hs2)
            clear hK K
            try simp only [Act.put, List.setIfInBounds_toArray, List.set_cons_zero, List.set_cons_succ]
            refine wpAnyH_done (by kernel_rfl) ?_ _
            refine NoPanic.normal ?_
            clear hs0 hs1 hs2 m1 m2 m3 m4 m5 m6
            go_wp2_with fail
            go_roundw
            case rel => exact ⟨j + 1, _, _, by omega, by go_num, HN2⟩
            case measure => simp [intOf]; omega
          · rw [if_neg hc] at hmr
            cases hmr
        · obtain rfl : ln = j := by omega
          have HN2 : Hid (Lst n0 sb V fs f w ib ab inn p q D ∧ listFrom (i + 1) (f.blocks.drop (i + 1)) p q = some (P, Q)) := by
            obtain ⟨hL, hDC, hmr⟩ := HN.out
            rw [Hln.out, List.drop_length] at hmr
            exact Lib.hid ⟨hL, hmr⟩
          clear HN
          go_wp2_with fail
          go_roundw
          case rel => exact ⟨i + 1, _, _, by omega, by go_num, HN2⟩
          case measure => simp [intOf]; omega
    · obtain rfl : bn = i := by omega
      obtain ⟨hL, hmf⟩ := HN.out
      rw [Hbl.out, List.drop_length] at hmf
      have hpq : p = P ∧ q = Q := by unfold listFrom at hmf; exact Prod.mk.inj (Option.some.inj hmf)
      rw [hpq.1, hpq.2] at hL
      have HN0 := Lib.hid hL
      have x5 := (HV.out _ _ _ hL.s).1
      clear hL hmf hpq HN p q
      go_upto_block 4 with fail
      clear x5
      go_wp2_with fail
      go_loopw [92] (fun u92 wr => ∃ i : Nat, i ≤ inn ∧ u92 = .int .i64 i ∧ Hid (Lst n0 sb V fs f w ib ab inn P Q wr)) (fun u92 _ => inn - (intOf u92).toNat)
      case atStart => exact ⟨0, Nat.zero_le _, rfl, HN0⟩
      case round =>
        clear HN0
        obtain ⟨i, hi, rfl, HN⟩ := hrel
        obtain ⟨D, hD⟩ : ∃ D, D = wr := ⟨_, rfl⟩
        rw [← hD] at HN ⊢
        clear hD
        by_cases hli : i < inn
        · have hil : i < f.ins.length := by rw [← Hil.out]; exact hli
          obtain ⟨-, -, -, hir, hnC⟩ := HV.out _ _ _ HN.out.s
          obtain ⟨gb, o, aA, ac, rfl, hgb, k0, k1, k2, k3, k4, hg⟩ := hir.at hil
          obtain ⟨d, hd⟩ : ∃ d, d = f.ins[i] := ⟨_, rfl⟩
          have hdo := Hop.out d (by rw [hd]; exact List.getElem_mem hil)
          rw [← hd] at k0 k1 k2 k3 k4
          have hPi := HP.out i hil
          obtain ⟨x, hx⟩ : ∃ x, x = P.getD i 0 := ⟨_, rfl⟩
          obtain ⟨Z, hZ, hbZ, hzZ, h0Z⟩ := gr_one D #[.int .i64 d.op, .int .i64 d.ty, .slice aA d.args.length ac, .int .i64 d.n, .int .i64 d.to_] 71
          have hLZ := HN.out.keep hbZ
          have c0 := cell_regrown (Lib.cell_of_heap h0Z 0)
          have c7 := cell_regrown hLZ.c7
          have m1 := hLZ.ip.cell (j := i) (by rw [hLZ.lp]; exact hli)
          rw [← hx] at m1 hPi
          have cm := cell_regrown m1
          have e1 : (d.op == 0) = false := by simpa using hdo
          have e2 : (x == -1) = false := by simpa using hPi
          have HZ := Lib.hid hZ
          have HLZ := Lib.hid hLZ
          clear hZ hbZ hzZ h0Z hLZ hd hil HN hgb hg hir hnC hdo hPi hx m1
          go_upto_region 17 with fail
          rw [← HZ.out]
          clear k0 k1 k2 k3 k4
          refine wp_region_quiet_below (by kernel_rfl) (by kernel_rfl) ?_
          repeat (go_big_quiet_step (fail))
          refine wpQuiet_nil ?_
          intro Y hw'
          obtain ⟨⟨dq, osq⟩, hw''⟩ := hw'
          have HN2 : Hid (Lst n0 sb V fs f w ib ab inn P Q Y) := Lib.hid (by rw [hw'']; exact HLZ.out.keep (below_regrown Z dq osq))
          clear hw'' c0 c7 cm HLZ HZ
          go_wp2_with fail
          go_roundw
          case rel => exact ⟨i + 1, by omega, by go_num, HN2⟩
          case measure => simp [intOf]; omega
        · obtain rfl : inn = i := by omega
          go_wp2_with fail
          go_ret
          exact ⟨rfl, ib, ab, by rw [← Hil.out]; exact HN.out⟩
end Go.Proofs.Ytagagpappjkgbaa
