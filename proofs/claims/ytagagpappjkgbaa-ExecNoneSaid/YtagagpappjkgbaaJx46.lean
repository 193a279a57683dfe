/-
  Blocks on all ways: where blocks lead to.
-/
import Derived.Test.YtagagpappjkgbaaJx44
import Derived.Test.YtagagpappjkgbaaJx45
namespace Go.Proofs.Ytagagpappjkgbaa
set_option linter.unusedVariables false
set_option linter.unusedSimpArgs false
open Go.RowKit Go.Shelf

def rwRun (place : List Int) : List Int → List Int → Option (List Int)
  | [], row => some row
  | b :: bs, row => (rdI place b).bind fun p => (wrI row p b).bind (rwRun place bs)
def toRun (g : List GB) : List Int → List Int → List Int → Option (List Int × List Int)
  | [], to_, st => some (to_, st)
  | b :: bs, to_, st => if 0 ≤ b ∧ b < g.length ∧ (to_ ++ tosG g b.toNat).length ≤ 1048576 ∧ st.length < 1048576 then toRun g bs (to_ ++ tosG g b.toNat) (st ++ [((to_ ++ tosG g b.toNat).length : Int)]) else none
def skNext (deep to_ skip : List Int) (at_ : Int) : Nat → Int → Option Int
  | 0, _ => none
  | k + 1, next => if next < to_.length then (rdI to_ next).bind fun x => (rdI deep x).bind fun dx => (rdI to_ at_).bind fun y => (rdI deep y).bind fun dy =>
      if dx ≥ dy then (rdI skip next).bind (skNext deep to_ skip at_ k) else some next
    else some next
def skRun (deep to_ : List Int) (kf : Nat) : Nat → List Int → Option (List Int)
  | 0, skip => some skip
  | i + 1, skip => (skNext deep to_ skip (i : Int) kf ((i + 1 : Nat) : Int)).bind fun nx => (wrI skip (i : Int) nx).bind (skRun deep to_ kf i)
theorem drewN_add (w : World) (a b : Nat) : (w.drewN a).drewN b = w.drewN (a + b) := by
  unfold World.drewN
  simp [Nat.add_assoc]
theorem Sq.mono_keep {T : TypeId} {w w' : World} {B B' E : Nat} {F : Nat → GRw} {cs : List Value} (h : Sq T w B E F cs) (hB : B' ≤ B) (hs : ∀ k, B ≤ k → w'.heap[k]? = w.heap[k]?) (hz : w'.heap.size = w.heap.size) : Sq T w' B' E F cs :=
  ⟨⟨by rw [hz]; exact h.fam.el, h.fam.av, fun k => gr_mono (own_same (h.fam.own k) (fun g hg => hs g ((h.fam.own k).lt g hg).1)) hB, h.fam.ne⟩, (hs E h.bE).trans h.box, Nat.le_trans hB h.bE, by rw [hz]; exact Nat.le_trans hB h.hb⟩
theorem run_append_zero {P : Program} (w : World) (t ty e : TypeId) (i : TypeInfo) (ht : P.underlying t = some (.slice e)) (hi : P.info? e = some i) (A B : Option Addr) (n c d : Nat) (hnc : n ≤ c) :
    (Builtin.append_ #[t, t] ty #[.slice A n c, .slice B 0 d]).run P w = .ok (.slice A n c) w := by
  cases B with
  | none =>
    have hfc : (Builtin.firstCells i.size 0 (.slice none 0 d)).run P w = .ok #[] w := rfl
    cases A with
    | none => simp [Builtin.append_, run_underlying ht, sizeOf, typeInfo, hi, Builtin.lenOf, hnc, hfc]
    | some a =>
      have hst : (storeCells (a.add (n * i.size)) []).run P w = .ok () w := rfl
      simp [Builtin.append_, run_underlying ht, sizeOf, typeInfo, hi, Builtin.lenOf, hnc, hfc, hst]
  | some b =>
    have hfc := run_firstCells_some (P := P) w i.size 0 b 0 d [] (by simp) (by intro j u h; simp at h)
    cases A with
    | none => simp [Builtin.append_, run_underlying ht, sizeOf, typeInfo, hi, Builtin.lenOf, hnc, hfc]
    | some a =>
      have hst : (storeCells (a.add (n * i.size)) []).run P w = .ok () w := rfl
      simp [Builtin.append_, run_underlying ht, sizeOf, typeInfo, hi, Builtin.lenOf, hnc, hfc, hst]
theorem wpList_append_zero {P : Program} {ops : Array Oper} {rest : List Oper} {o : Oper} {a : Act} {w : World} {Q : Exit → Act → World → Prop} (hgd : o.guard = none) (s x : Operand) (t : TypeId)
    (ho : o.op = .call { callee := .builtin .append, args := #[s, x], argTypes := #[t, t] }) (e : TypeId) (i : TypeInfo) (ht : P.underlying t = some (.slice e)) (hi : P.info? e = some i)
    (A B : Option Addr) (n c d : Nat) (hs : a.eval s = .slice A n c) (hx : a.eval x = .slice B 0 d) (hnc : n ≤ c) (h : wpList P ops Q rest (a.put o.dst (.slice A n c)) w) : wpList P ops Q (o :: rest) a w := by
  refine wpList_plain hgd fun _ hK => ?_
  have hr := run_append_zero (P := P) w t o.type e i ht hi A B n c d hnc
  unfold Oper.wp execOp
  simp only [ho, resolve, invoke, builtin, Sem.run_bind, Sem.run_pure, Result.andThen_ok, List.map_toArray, List.map_cons, List.map_nil, hs, hx, hr]
  exact hK _ _ h
set_option maxRecDepth 100000 in
set_option maxHeartbeats 32000000 in
theorem leads_g (n0 baseT tp n no ub gk db pb qb : Nat) (f : Value) (g : List GB) (A0 : Option Addr) (c0 : Nat) (order place deep row toE stE skE : List Int) (l0 l1 l2 : Value) (FT : Nat → GRw) (kf : Nat) (w : World)
    (hf : GF n0 w f g) (hn : n0 ≤ w.heap.size) (hT : Sq 194 w baseT tp FT [.slice A0 no c0, sl ub n, sl gk n, sl db n, sl pb n, sl qb n, l0, l1, l2]) (f0 : FT 0 = intR (.slice A0 no c0) order) (f3 : FT 3 = wholeR db deep) (f4 : FT 4 = wholeR pb place)
    (hno : order.length = no) (hnob : no ≤ 1048576) (hno1 : 1 ≤ no) (hpl : place.length = n) (hdl : deep.length = n) (hnb : n ≤ 1048576)
    (h1 : rwRun place order (List.replicate no 0) = some row) (h2 : toRun g row [] [0] = some (toE, stE)) (h3 : skRun deep toE kf toE.length (List.replicate toE.length 0) = some skE) :
    Calls Try.prog 145 #[f, .pointer (some ⟨tp, 0, none⟩)] w fun e w' => ∃ Vto Vst sb F lb, e = .returned (.agg #[Vto, sl sb toE.length, Vst]) ∧ Sq 192 w' w.heap.size lb F [Vto, sl sb toE.length, Vst] ∧ F 0 = intR Vto toE ∧ F 1 = wholeR sb skE ∧ F 2 = intR Vst stE ∧ skE.length = toE.length ∧ Below w.heap.size w w' := by
  obtain ⟨s, pA, pn, pc, r, iA, in_, ic, bA, bn, bc, rfl, hG, hbn⟩ := id hf
  obtain ⟨i0, hi0, hz0, hz1, hz2⟩ := info_parts infoIntG
  have Ji := Lib.hid hi0
  have Jz0 := Lib.hid hz0
  have Jz1 := Lib.hid hz1
  have Jz2 := Lib.hid hz2
  obtain ⟨W1, hW1, hbW1, hzW1, h0W1⟩ := gr_one w #[.string s, .slice pA pn pc, .int .i64 r, .slice iA in_ ic, .slice bA bn bc] 68
  obtain ⟨Y, hY, hbY, hzY, h0Y⟩ := gr_one W1 #[.slice none 0 0, .slice none 0 0, .slice none 0 0] 192
  have hwY : Below w.heap.size w Y := hbW1.trans (hbY.mono hbW1.size)
  have hYY : Y = (w.alloc (.cells #[.string s, .slice pA pn pc, .int .i64 r, .slice iA in_ ic, .slice bA bn bc] 68)).alloc (.cells #[.slice none 0 0, .slice none 0 0, .slice none 0 0] 192) := by rw [hY, hW1]
  have hfb := (hbY.block w.heap.size (gr_in h0W1)).trans h0W1
  have hTY := hT.keep hwY
  have c1 : Y.cell? ⟨tp, 0, none⟩ = some (.slice A0 no c0) := hTY.cell 0 _ rfl
  have htpl : tp < w.heap.size := hT.fam.el
  have HG : Hid (∀ A : World, Below w.heap.size w A → GBs n0 A (.slice bA bn bc) g) := Lib.hid fun A hA => hG.keep (hA.mono hn)
  have HYY := Lib.hid hYY
  have HT := Lib.hid hT
  have HwY := Lib.hid hwY
  have HzY : Hid (Y.heap.size = w.heap.size + 2) := Lib.hid (by omega)
  have Hfb := Lib.hid hfb
  have H0Y : Hid (Y.heap[w.heap.size + 1]? = some (.cells #[.slice none 0 0, .slice none 0 0, .slice none 0 0] 192 (0, 0))) := Lib.hid (by rw [← hzW1]; exact h0Y)
  have Hbn := Lib.hid hbn
  have HF0 := Lib.hid f0
  have HF3 := Lib.hid f3
  have HF4 := Lib.hid f4
  have Hno := Lib.hid hno
  have Hpl := Lib.hid hpl
  have Hdl := Lib.hid hdl
  have H1 := Lib.hid h1
  have H2 := Lib.hid h2
  have H3 := Lib.hid h3
  clear hf hG hbn hi0 hz0 hz1 hz2 hW1 hbW1 hzW1 h0W1 hY hbY hzY h0Y hwY hYY hfb hTY hT f0 f3 f4 hno hpl hdl h1 h2 h3
  go_enter Try.func145, Try.ntmps145
  go_upto_region 1 with fail
  rw [← HYY.out]
  go_wp2_with (at_make; refine wpList_make_full _ rfl (.tmp 17) (.tmp 17) 64 rfl Y.heap.size 3 i0 (.int .i64 0) 1 Try.underlying64 Ji.out Jz0.out Jz1.out _ _ _ _ no rfl rfl rfl rfl (by rw [Jz2.out]; omega) (by unfold maxLen; omega) (Nat.le_refl _) ?_)
  intro w3 ho3 hg3
  have hb3 : Below Y.heap.size Y w3 := (Below.refl _ _).grown hg3 (Nat.le_refl _) (fun k e => by cases e)
  rw [madeInt] at ho3
  have hr3 : IRow w3 Y.heap.size (List.replicate no 0) := by
    have := own_full ho3
    unfold IRow
    rw [this]
    simp [intsV]
  have hw3 : Below w.heap.size w w3 := HwY.out.trans (hb3.mono (by have := HzY.out; omega))
  obtain ⟨rb, hrb⟩ : ∃ rb, rb = Y.heap.size := ⟨_, rfl⟩
  rw [← hrb] at hr3 ⊢
  have hrbw : rb = w.heap.size + 2 := by rw [hrb]; exact HzY.out
  have hfb3 := (hb3.block w.heap.size (by have := HzY.out; omega)).trans Hfb.out
  have h0Y3 := (hb3.block (w.heap.size + 1) (by have := HzY.out; omega)).trans H0Y.out
  have c1 : w3.cell? ⟨tp, 0, none⟩ = some (.slice A0 no c0) := (HT.out.keep hw3).cell 0 _ rfl
  have HI0 : Hid (IRow w3 rb (List.replicate no 0) ∧ (∀ k, k ≠ rb → w3.heap[k]? = w3.heap[k]?) ∧ w3.heap.size = w3.heap.size ∧ Below w.heap.size w w3) := Lib.hid ⟨hr3, fun _ _ => rfl, rfl, hw3⟩
  have Hfb3 := Lib.hid hfb3
  have H0Y3 := Lib.hid h0Y3
  have HR0 : Hid (rwRun place (order.drop 0) (List.replicate no 0) = some row) := Lib.hid H1.out
  have Hrb := Lib.hid hrbw
  have hrbl : rb < w3.heap.size := hr3.lt
  clear ho3 hg3 hb3 hr3 hw3 hrb hfb3 h0Y3 H1 hrbw
  go_upto_block 0 with fail
  clear c1
  go_cut [24] (fun u24 wx => IRow wx rb row ∧ (∀ k, k ≠ rb → wx.heap[k]? = w3.heap[k]?) ∧ wx.heap.size = w3.heap.size ∧ Below w.heap.size w wx ∧ row.length = no)
  case first =>
    go_wp2_with fail
    go_loopw [24] (fun u24 wr => ∃ (j : Nat) (rw_ : List Int), j ≤ no ∧ u24 = .int .i64 j ∧ Hid (rw_.length = no) ∧ Hid (IRow wr rb rw_ ∧ (∀ k, k ≠ rb → wr.heap[k]? = w3.heap[k]?) ∧ wr.heap.size = w3.heap.size ∧ Below w.heap.size w wr) ∧ Hid (rwRun place (order.drop j) rw_ = some row)) (fun u24 _ => no - (intOf u24).toNat)
    case atStart => exact ⟨0, _, Nat.zero_le _, rfl, Lib.hid (by simp), Lib.hid ⟨HI0.out.1, fun _ _ => rfl, rfl, HI0.out.2.2.2⟩, HR0⟩
    case round =>
      clear HI0 HR0
      obtain ⟨j, rw_, hj, rfl, HL, HI, HR⟩ := hrel
      obtain ⟨hI, hk, hz, hb⟩ := HI.out
      by_cases hlt : j < no
      · have hR := HR.out
        have hjl : j < order.length := by rw [Hno.out]; exact hlt
        rw [List.drop_eq_getElem_cons hjl, rwRun, Option.bind_eq_some_iff] at hR
        obtain ⟨p, hp, hR⟩ := hR
        rw [Option.bind_eq_some_iff] at hR
        obtain ⟨rw2, hrw, hR⟩ := hR
        have hTr := HT.out.keep hb
        obtain ⟨go, rfl, co⟩ := hTr.read HF0.out hjl
        obtain ⟨bv, hbv⟩ : ∃ bv, bv = order[j] := ⟨_, rfl⟩
        rw [← hbv] at hp hrw co
        obtain ⟨bn1, rfl, hbl, hpe⟩ := rdI_some hp
        obtain ⟨pn1, rfl, hpl1, hrwe⟩ := wrI_some hrw
        have hbm : bn1 < n := by rw [← Hpl.out]; exact hbl
        have hpm : pn1 < no := by rw [← HL.out]; exact hpl1
        have k4 : wr.cell? ⟨tp, 4, none⟩ = some (.slice (some ⟨pb, 0, none⟩) n n) := hTr.cell 4 _ rfl
        have kp : wr.cell? ⟨pb, bn1, none⟩ = some (.int .i64 (pn1 : Int)) := by rw [hpe]; exact (hTr.whole HF4.out).cell hbl
        have kr : ∃ v, wr.cell? ⟨rb, pn1, none⟩ = some v := ⟨_, hI.cell hpl1⟩
        obtain ⟨vkr, kr⟩ := kr
        have krf := hI.fro pn1
        have hrbb : w.heap.size ≤ rb := by have := Hrb.out; omega
        have HI2 : Hid (IRow (wr.setCell ⟨rb, pn1, none⟩ (.int .i64 (bn1 : Int))) rb rw2 ∧ (∀ k, k ≠ rb → (wr.setCell ⟨rb, pn1, none⟩ (.int .i64 (bn1 : Int))).heap[k]? = w3.heap[k]?) ∧ (wr.setCell ⟨rb, pn1, none⟩ (.int .i64 (bn1 : Int))).heap.size = w3.heap.size ∧ Below w.heap.size w (wr.setCell ⟨rb, pn1, none⟩ (.int .i64 (bn1 : Int)))) := Lib.hid
          ⟨by rw [hrwe]; exact hI.put pn1 (bn1 : Int), fun k hk2 => (Below.heap_setCell wr ⟨rb, pn1, none⟩ _ k hk2).trans (hk k hk2), by simp [World.setCell]; exact hz, hb.setCell (p := ⟨rb, pn1, none⟩) hrbb _⟩
        have HL2 : Hid (rw2.length = no) := Lib.hid (by rw [hrwe]; simpa using HL.out)
        have HR2 := Lib.hid hR
        clear hR hp hrw hTr hbv hbl hpe hpl1 hrwe hI hk hz hb HI HL HR hjl
        go_wp2
        go_roundw
        case rel => exact ⟨j + 1, rw2, by omega, by go_num, HL2, HI2, HR2⟩
        case measure => simp [intOf]; omega
      · obtain rfl : j = no := by omega
        have hR := HR.out
        rw [← Hno.out, List.drop_length, rwRun] at hR
        injection hR with hR
        subst hR
        have HE := Lib.hid (show IRow wr rb rw_ ∧ (∀ k, k ≠ rb → wr.heap[k]? = w3.heap[k]?) ∧ wr.heap.size = w3.heap.size ∧ Below w.heap.size w wr ∧ rw_.length = j from ⟨hI, hk, hz, hb, HL.out⟩)
        clear hI hk hz hb HI HL HR
        go_wp2_with fail
        go_meet
        exact HE.out
  case rest =>
    obtain ⟨W, hW⟩ : ∃ W, W = wc := ⟨_, rfl⟩
    subst hW
    obtain ⟨hrow, hk, hzW, hbW, hrl⟩ := hcut
    have hne : ∀ k, k < w.heap.size + 2 → k ≠ rb := fun k hk e => by have := Hrb.out; omega
    have hfbW := (hk w.heap.size (hne _ (by omega))).trans Hfb3.out
    have hresW := (hk (w.heap.size + 1) (hne _ (by omega))).trans H0Y3.out
    obtain ⟨Z, hZ, hbZ, hzZ, h0Z⟩ := gr_one W #[.int .i64 0] 3
    obtain ⟨V, hV, hbV, hzV, h0V⟩ := gr_one Z #[.slice none 0 0, .slice none 0 0, .slice (some ⟨W.heap.size, 0, none⟩) 1 1] 192
    have hVV : V = (W.alloc (.cells #[.int .i64 0] 3)).alloc (.cells #[.slice none 0 0, .slice none 0 0, .slice (some ⟨W.heap.size, 0, none⟩) 1 1] 192) := by rw [hV, hZ]
    have hWV : Below W.heap.size W V := hbZ.trans (hbV.mono hbZ.size)
    have hst : IRow V W.heap.size [0] := (hbV.block W.heap.size (gr_in h0Z)).trans h0Z
    have hsq0 := Sq.start1 (base := W.heap.size) (cs := [.slice none 0 0, .slice none 0 0, .slice (some ⟨W.heap.size, 0, none⟩) 1 1]) h0V (by omega) 2 (intR (.slice (some ⟨W.heap.size, 0, none⟩) 1 1) [0]) (hst.own (by simp) (Nat.le_refl _) (by omega)) (by simp only [intR, Value.ownBlock, ne_eq, Option.some.injEq]; omega)
    obtain ⟨lb, hlb⟩ : ∃ lb, lb = Z.heap.size := ⟨_, rfl⟩
    rw [← hlb] at hsq0
    have hrw2 : rb < W.heap.size := hrow.lt
    have HW0 : Hid (∀ A : World, Below W.heap.size W A → IRow A rb row ∧ A.heap[w.heap.size]? = some (.cells #[.string s, .slice pA pn pc, .int .i64 r, .slice iA in_ ic, .slice bA bn bc] 68 (0, 0)) ∧ A.heap[w.heap.size + 1]? = some (.cells #[.slice none 0 0, .slice none 0 0, .slice none 0 0] 192 (0, 0)) ∧ Below w.heap.size w A) := Lib.hid fun A hA => by
      have := Hrb.out
      have hw := hbW.size
      exact ⟨hrow.keep (hA.block _ hrw2), (hA.block _ (by omega)).trans hfbW, (hA.block _ (by omega)).trans hresW, hbW.trans (hA.mono hbW.size)⟩
    have HVV := Lib.hid hVV
    have HJ0 : Hid (∃ (Vto Vst : Value) (F : Nat → GRw), Sq 192 V W.heap.size lb F [Vto, .slice none 0 0, Vst] ∧ F 0 = intR Vto [] ∧ F 1 = noRow ∧ F 2 = intR Vst [0]) := Lib.hid ⟨_, _, _, hsq0, by rw [upG_off _ _ _ _ (by omega)]; rfl, by rw [upG_off _ _ _ _ (by omega)], upG_at _ _ _⟩
    have HB0 := Lib.hid hWV
    have Hrl := Lib.hid hrl
    have hwW : w.heap.size + 2 ≤ W.heap.size := by have := Hrb.out; omega
    have Hlb : Hid (lb = W.heap.size + 1) := Lib.hid (by omega)
    clear hrow hk hzW hbW hrl hne hfbW hresW hZ hbZ hzZ h0Z hV hbV hzV h0V hVV hWV hst hsq0 hlb Hfb3 H0Y3 hrbl
    go_upto_region 8 with fail
    rw [← HVV.out, ← Hlb.out]
    clear HVV
    have HT0 : Hid (toRun g (row.drop 0) [] [0] = some (toE, stE)) := Lib.hid H2.out
    have HLB : Hid (lb = W.heap.size + 1) := Hlb
    clear H2 Hlb
    go_upto_block 2 with fail
    go_cut [43] (fun u43 wx => ∃ Vto Vst F, Sq 192 wx W.heap.size lb F [Vto, .slice none 0 0, Vst] ∧ F 0 = intR Vto toE ∧ F 1 = noRow ∧ F 2 = intR Vst stE ∧ Below W.heap.size W wx ∧ toE.length ≤ 1048576)
    case first =>
      go_wp2_with fail
      go_loopw [43] (fun u43 wr => ∃ (j : Nat) (to_ st : List Int), j ≤ no ∧ u43 = .int .i64 j ∧ Hid (to_.length ≤ 1048576 ∧ st.length ≤ 1048576) ∧ Hid (∃ Vto Vst F, Sq 192 wr W.heap.size lb F [Vto, .slice none 0 0, Vst] ∧ F 0 = intR Vto to_ ∧ F 1 = noRow ∧ F 2 = intR Vst st) ∧ Hid (Below W.heap.size W wr) ∧ Hid (toRun g (row.drop j) to_ st = some (toE, stE))) (fun u43 _ => no - (intOf u43).toNat)
      case atStart => exact ⟨0, _, _, Nat.zero_le _, rfl, Lib.hid (by simp), HJ0, HB0, HT0⟩
      case round =>
        clear HI0 HJ0 HB0 HT0
        obtain ⟨j, to_, st, hj, rfl, HL, HI, HB, HT2⟩ := hrel
        by_cases hlt : j < no
        · have hT2 := HT2.out
          have hjl : j < row.length := by rw [Hrl.out]; exact hlt
          rw [List.drop_eq_getElem_cons hjl, toRun] at hT2
          split at hT2
          case isFalse => cases hT2
          case isTrue hq =>
          obtain ⟨q1, q2, q3, q4⟩ := hq
          obtain ⟨bv, hbv⟩ : ∃ bv, bv = row[j] := ⟨_, rfl⟩
          rw [← hbv] at hT2 q1 q2 q3
          obtain ⟨b, rfl⟩ : ∃ b : Nat, bv = b := ⟨bv.toNat, by omega⟩
          rw [Int.toNat_natCast] at hT2 q3
          obtain ⟨hrow, hfb, -, hbw⟩ := HW0.out wr HB.out
          have cr : wr.cell? ⟨rb, j, none⟩ = some (.int .i64 (b : Int)) := by rw [hrow.cell hjl, hbv]; simp [List.getD, hjl]
          obtain ⟨x0, x1, x2, x3, x4, -⟩ := gr_five hfb
          have hbg : b < g.length := by omega
          have hbb : b < bn := by rw [Hbn.out]; exact hbg
          obtain ⟨qb2, o2, qA, qc, tA, tc, lA, ln, lc, rfl, hqb, z0, z1, z2, z3, z4, rp, rt, hok⟩ := (HG.out wr hbw).at hbg
          have hto : tosG g b = g[b].to_ := tosG_at hbg
          rw [hto] at hT2 q3
          obtain ⟨tos, htos⟩ : ∃ l, l = g[b].to_ := ⟨_, rfl⟩
          obtain ⟨mt, hmt⟩ : ∃ mt, mt = tos.length := ⟨_, rfl⟩
          rw [← htos] at hT2 q3 z4 rt
          rw [← hmt] at z4 rt
          obtain ⟨Vto, Vst, F, hS, f0, f1, f2⟩ := HI.out
          have hP := hS.at f0
          obtain ⟨PA, PC, hPV⟩ := gr_slice hP
          simp only [intR] at hPV hP
          subst hPV
          have hP2 := hS.at f2
          obtain ⟨SA, SC, hSV⟩ := gr_slice hP2
          simp only [intR] at hSV hP2
          subst hSV
          have l0 : wr.cell? ⟨lb, 0, none⟩ = some (.slice PA to_.length PC) := hS.cell 0 _ rfl
          by_cases hm0 : mt = 0
          · have htn : tos = [] := List.eq_nil_of_length_eq_zero (by omega)
            have HS := Lib.hid (hS.keep (Below.refl _ _).drew)
            have Hff := Lib.hid (And.intro f0 (And.intro f1 f2))
            have HBd := Lib.hid (HB.out.drew)
            have HTN := Lib.hid hT2
            have Hpc := Lib.hid (gr_len hP).1
            have HLm := HL
            have Htn := Lib.hid htn
            have hz4 : wr.cell? ⟨qb2, o2 + b * 5 + 4, none⟩ = some (.slice tA 0 tc) := by rw [← hm0]; exact z4
            clear hT2 hto htos hrow hfb hbw hS hP hP2 f0 f1 f2 HI HB HT2 hmt rp rt hok hqb q1 q2 q3 hbv HL hjl htn hm0 z4
            go_upto_region 11 with fail
            go_still_tail 9, (by kernel_rfl)
            change wpList _ _ _ _ _ wr.drew
            have hpc := Hpc.out
            have y0 : wr.drew.cell? ⟨lb, 0, none⟩ = some (.slice PA to_.length PC) := HS.out.cell 0 _ rfl
            have yf0 := HS.out.fro 0
            have hSG := HS.out.field 0 (.slice PA to_.length PC)
            simp only [List.set_cons_succ, List.set_cons_zero] at hSG
            have hBG := HBd.out.trans (HS.out.b_field 0 (.slice PA to_.length PC))
            obtain ⟨G, hG⟩ : ∃ G, G = wr.drew.setCell ⟨lb, 0, none⟩ (.slice PA to_.length PC) := ⟨_, rfl⟩
            rw [← hG] at hSG hBG
            obtain ⟨F5, hF5⟩ : ∃ F5, F5 = F := ⟨_, rfl⟩
            have hf5 : F5 0 = intR (.slice PA to_.length PC) to_ ∧ F5 1 = noRow ∧ F5 2 = intR (.slice SA st.length SC) st := by rw [hF5]; exact Hff.out
            rw [← hF5] at hSG
            have hG2 : G = (wr.setCell ⟨lb, 0, none⟩ (.slice PA to_.length PC)).drew := by rw [hG]; rfl
            have HGg := Lib.hid hG2
            have HLL := HLm.out
            obtain ⟨T2, hT2n⟩ : ∃ T2, T2 = to_.length := ⟨_, rfl⟩
            have hT2b : T2 ≤ 1048576 := by omega
            rw [Htn.out, List.append_nil, ← hT2n] at HTN
            have Htl2 := Lib.hid hT2n
            rw [← hT2n] at hSG hf5 hG hG2 HGg y0 hpc ⊢
            have g2 : G.cell? ⟨lb, 2, none⟩ = some (.slice SA st.length SC) := hSG.cell 2 _ rfl
            have g0 : G.cell? ⟨lb, 0, none⟩ = some (.slice PA T2 PC) := hSG.cell 0 _ rfl
            obtain ⟨Z, hZ, hbZ, hzZ, h0Z⟩ := gr_one G #[.int .i64 (T2 : Int)] 3
            have hSZ := hSG.keep hbZ
            have HOW := Lib.hid (hSZ.at hf5.2.2)
            simp only [intR] at HOW
            have HNW := Lib.hid (World.news_of_block h0Z)
            have HOn : Hid (∀ u ∈ ([.int .i64 (T2 : Int)] : List Value), u.oneCell' = true) := Lib.hid (by intro u hu; simp at hu; subst hu; rfl)
            have hsz2 : W.heap.size ≤ Z.heap.size := hSZ.hb
            rw [hZ] at HOW HNW hsz2
            have HZ := Lib.hid hZ
            have HzZ := Lib.hid hzZ
            have HSZ := Lib.hid hSZ
            have HBZ := Lib.hid (hBG.trans (hbZ.mono hSG.hb))
            have Hf5 := Lib.hid hf5
            clear hZ hbZ hzZ h0Z hSZ hSG hBG hf5
            clear hG hG2 hF5 HS Hff HBd hT2n
            go_upto_region 12 with (at_builtin; refine wpList_append_zero rfl (.tmp 48) (.tmp 55) 64 rfl 3 i0 Try.underlying64 Ji.out PA tA T2 PC tc rfl rfl hpc ?_)
            first | rw [← HGg.out] | skip
            clear y0 yf0 x0 x1 x2 x3 x4 z0 z1 z2 z3 hz4 l0 HGg
            go_wp2_with (at_builtin; refine wpList_append_lies _ rfl (.tmp 59) (.tmp 63) 64 rfl W.heap.size 3 i0 (.int .i64 0) 1 8 Try.underlying64 Ji.out Jz0.out Jz1.out Jz2.out rfl (by decide) (.slice SA st.length SC) st.length (intsV st) rfl HOW.out ⟨G.heap.size, 0, none⟩ 1 1 [.int .i64 (T2 : Int)] rfl rfl HNW.out HOn.out (by decide) (by unfold maxLen; omega) (by omega) hsz2 _ rfl ?_)
            intro gq cq w6 hown6 hgrow6 hat6 hlt6
            rw [← HZ.out] at hgrow6
            have hat' : ∀ g', (Value.slice (some ⟨gq, 0, none⟩) (st.length + 1) cq).ownBlock = some g' → (Value.slice SA st.length SC).ownBlock = some g' ∨ Z.heap.size ≤ g' := fun g' ee => by
              simp only [Value.ownBlock, Option.some.injEq] at ee
              subst ee
              rcases hat6 with h | h
              · exact .inl h
              · exact .inr (by rw [h, HzZ.out]; exact Nat.le_refl _)
            have hg0 : Z.grownBy w6 (F5 2).v.ownBlock := by rw [Hf5.out.2.2]; exact hgrow6
            have hS6 := HSZ.out.grown 2 hg0 (intR (.slice (some ⟨gq, 0, none⟩) (st.length + 1) cq) (st ++ [(T2 : Int)])) (by simpa [intR, intsV] using hown6) (fun g' ee => by rw [Hf5.out.2.2]; exact hat' g' ee)
            have y2 : w6.cell? ⟨lb, 2, none⟩ = some (.slice SA st.length SC) := hS6.cell 2 _ rfl
            have yf2 := hS6.fro 2
            have hS7 := hS6.field 2 (.slice (some ⟨gq, 0, none⟩) (st.length + 1) cq)
            simp only [List.set_cons_succ, List.set_cons_zero] at hS7
            have HI7 : Hid (∃ (Vto Vst : Value) (F : Nat → GRw), Sq 192 (w6.setCell ⟨lb, 2, none⟩ (.slice (some ⟨gq, 0, none⟩) (st.length + 1) cq)) W.heap.size lb F [Vto, .slice none 0 0, Vst] ∧ F 0 = intR Vto to_ ∧ F 1 = noRow ∧ F 2 = intR Vst (st ++ [(T2 : Int)])) := Lib.hid ⟨_, _, _, hS7, by rw [upG_off _ _ _ _ (by omega)]; exact Hf5.out.1, by rw [upG_off _ _ _ _ (by omega)]; exact Hf5.out.2.1, upG_at _ _ _⟩
            have HB7 := Lib.hid (HBZ.out.trans ((HSZ.out.b_grown 2 hg0).trans (hS6.b_field 2 (.slice (some ⟨gq, 0, none⟩) (st.length + 1) cq))))
            have HL7 : Hid (to_.length ≤ 1048576 ∧ (st ++ [(T2 : Int)]).length ≤ 1048576) := Lib.hid ⟨by rw [← Htl2.out]; omega, by simp; omega⟩
            clear hown6 hgrow6 hat6 hlt6 hat' hg0 hS6 hS7 HOW HNW HOn hsz2 HZ HSZ Hf5 HBZ
            go_wp2
            go_roundw
            case rel => exact ⟨j + 1, _, _, by omega, by go_num, HL7, HI7, HB7, HTN⟩
            case measure => simp [intOf]; omega
          obtain ⟨tb, to2, rfl, htb, htc⟩ : ∃ b o, tA = some ⟨b, o, none⟩ ∧ b < n0 ∧ ∀ i x, tos[i]? = some x → wr.cell? ⟨b, o + i, none⟩ = some (.int .i64 x) := by
            obtain ⟨A', c', hv', hr'⟩ := rt
            injection hv' with e1 e2 e3
            subst e1
            obtain ⟨b', o', h1', h2', h3'⟩ := hr' (by omega)
            exact ⟨b', o', h1', h2', h3'⟩
          have HOW0 := Lib.hid ((hS.keep (Below.refl _ _).drew).at f0)
          simp only [intR] at HOW0
          have HNW0 : Hid (∀ i u, (intsV tos)[i]? = some u → wr.drew.cell? ((⟨tb, to2, none⟩ : Addr).add i) = some u) := Lib.hid fun i u hu => by
            simp only [intsV, List.getElem?_map, Option.map_eq_some_iff] at hu
            obtain ⟨x, hx, rfl⟩ := hu
            rw [gr_add]
            exact htc i x hx
          have HOn0 : Hid (∀ u ∈ intsV tos, u.oneCell' = true) := Lib.hid (by intro u hu; simp only [intsV, List.mem_map] at hu; obtain ⟨x, -, rfl⟩ := hu; rfl)
          have hsz0 : W.heap.size ≤ wr.drew.heap.size := hS.hb
          have hml : (intsV tos).length = mt * 1 := by simp [intsV, hmt]
          have Hml := Lib.hid hml
          have hq3 : to_.length + mt ≤ 1048576 := by simpa [hmt] using q3
          have HS := Lib.hid (hS.keep (Below.refl _ _).drew)
          have Hff := Lib.hid (And.intro f0 (And.intro f1 f2))
          have HBd := Lib.hid (HB.out.drew)
          have Hmt := Lib.hid hmt
          have HTN := Lib.hid hT2
          clear hT2 hto htos hrow hfb hbw hS hP hP2 f0 f1 f2 HI HB HT2 hml hmt rp rt hok hqb q1 q2 q3 htc htb hbv HL hjl
          go_upto_region 11 with fail
          clear cr
          go_still_tail 9, (by kernel_rfl)
          change wpList _ _ _ _ _ wr.drew
          go_wp2_with (at_builtin; refine wpList_append_lies _ rfl (.tmp 48) (.tmp 55) 64 rfl W.heap.size 3 i0 (.int .i64 0) 1 8 Try.underlying64 Ji.out Jz0.out Jz1.out Jz2.out rfl (by decide) (.slice PA to_.length PC) to_.length (intsV to_) rfl HOW0.out ⟨tb, to2, none⟩ mt tc (intsV tos) rfl Hml.out HNW0.out HOn0.out (by omega) (by unfold maxLen; omega) (by omega) hsz0 _ rfl ?_)
          intro gp cp w5 hown5 hgrow5 hat5 hlt5
          obtain ⟨T2, hT2n⟩ : ∃ T2, T2 = to_.length + mt := ⟨_, rfl⟩
          have hT2b : T2 ≤ 1048576 := by omega
          rw [← hT2n] at hown5 ⊢
          have hg0 : wr.drew.grownBy w5 (F 0).v.ownBlock := by rw [Hff.out.1]; exact hgrow5
          have hat' : ∀ g', (Value.slice (some ⟨gp, 0, none⟩) T2 cp).ownBlock = some g' → (Value.slice PA to_.length PC).ownBlock = some g' ∨ wr.drew.heap.size ≤ g' := fun g' ee => by
            simp only [Value.ownBlock, Option.some.injEq] at ee
            subst ee
            rcases hat5 with h | h
            · exact .inl h
            · exact .inr (by rw [h]; exact Nat.le_refl _)
          have hS5 := HS.out.grown 0 hg0 (intR (.slice (some ⟨gp, 0, none⟩) T2 cp) (to_ ++ tos)) (by simpa [intR, intsV, ← Hmt.out, ← hT2n] using hown5) (fun g' ee => by rw [Hff.out.1]; exact hat' g' ee)
          have y0 : w5.cell? ⟨lb, 0, none⟩ = some (.slice PA to_.length PC) := hS5.cell 0 _ rfl
          have yf0 := hS5.fro 0
          have hSG := hS5.field 0 (.slice (some ⟨gp, 0, none⟩) T2 cp)
          simp only [List.set_cons_succ, List.set_cons_zero] at hSG
          have hBG := HBd.out.trans ((HS.out.b_grown 0 hg0).trans (hS5.b_field 0 (.slice (some ⟨gp, 0, none⟩) T2 cp)))
          obtain ⟨G, hG⟩ : ∃ G, G = w5.setCell ⟨lb, 0, none⟩ (.slice (some ⟨gp, 0, none⟩) T2 cp) := ⟨_, rfl⟩
          rw [← hG] at hSG hBG
          obtain ⟨F5, hF5⟩ : ∃ F5, F5 = upG F 0 (intR (.slice (some ⟨gp, 0, none⟩) T2 cp) (to_ ++ tos)) := ⟨_, rfl⟩
          have hf5 : F5 0 = intR (.slice (some ⟨gp, 0, none⟩) T2 cp) (to_ ++ tos) ∧ F5 1 = noRow ∧ F5 2 = intR (.slice SA st.length SC) st := by
            rw [hF5]
            exact ⟨upG_at _ _ _, by rw [upG_off _ _ _ _ (by omega)]; exact Hff.out.2.1, by rw [upG_off _ _ _ _ (by omega)]; exact Hff.out.2.2⟩
          rw [← hF5] at hSG
          have HGg := Lib.hid hG
          have htl2 : (to_ ++ tos).length = T2 := by rw [List.length_append, ← Hmt.out, hT2n]
          rw [htl2] at HTN
          have Htl2 := Lib.hid htl2
          have g2 : G.cell? ⟨lb, 2, none⟩ = some (.slice SA st.length SC) := hSG.cell 2 _ rfl
          have g0 : G.cell? ⟨lb, 0, none⟩ = some (.slice (some ⟨gp, 0, none⟩) T2 cp) := hSG.cell 0 _ rfl
          obtain ⟨Z, hZ, hbZ, hzZ, h0Z⟩ := gr_one G #[.int .i64 (T2 : Int)] 3
          have hSZ := hSG.keep hbZ
          have HOW := Lib.hid (hSZ.at hf5.2.2)
          simp only [intR] at HOW
          have HNW := Lib.hid (World.news_of_block h0Z)
          have HOn : Hid (∀ u ∈ ([.int .i64 (T2 : Int)] : List Value), u.oneCell' = true) := Lib.hid (by intro u hu; simp at hu; subst hu; rfl)
          have hsz2 : W.heap.size ≤ Z.heap.size := hSZ.hb
          rw [hZ] at HOW HNW hsz2
          have HZ := Lib.hid hZ
          have HzZ := Lib.hid hzZ
          have HSZ := Lib.hid hSZ
          have HBZ := Lib.hid (hBG.trans (hbZ.mono hSG.hb))
          have Hf5 := Lib.hid hf5
          clear hZ hbZ hzZ h0Z hSZ hSG hBG hf5
          clear hT2n hown5 hgrow5 hat5 hlt5 hat' hg0 hS5 hG hF5 htl2 HS Hff HBd HOW0 HNW0 HOn0 hsz0 Hml
          go_upto_region 12 with fail
          rw [← HGg.out]
          clear y0 yf0 x0 x1 x2 x3 x4 z0 z1 z2 z3 z4 l0 HGg
          go_wp2_with (at_builtin; refine wpList_append_lies _ rfl (.tmp 59) (.tmp 63) 64 rfl W.heap.size 3 i0 (.int .i64 0) 1 8 Try.underlying64 Ji.out Jz0.out Jz1.out Jz2.out rfl (by decide) (.slice SA st.length SC) st.length (intsV st) rfl HOW.out ⟨G.heap.size, 0, none⟩ 1 1 [.int .i64 (T2 : Int)] rfl rfl HNW.out HOn.out (by decide) (by unfold maxLen; omega) (by omega) hsz2 _ rfl ?_)
          intro gq cq w6 hown6 hgrow6 hat6 hlt6
          rw [← HZ.out] at hgrow6
          have hat' : ∀ g', (Value.slice (some ⟨gq, 0, none⟩) (st.length + 1) cq).ownBlock = some g' → (Value.slice SA st.length SC).ownBlock = some g' ∨ Z.heap.size ≤ g' := fun g' ee => by
            simp only [Value.ownBlock, Option.some.injEq] at ee
            subst ee
            rcases hat6 with h | h
            · exact .inl h
            · exact .inr (by rw [h, HzZ.out]; exact Nat.le_refl _)
          have hg0 : Z.grownBy w6 (F5 2).v.ownBlock := by rw [Hf5.out.2.2]; exact hgrow6
          have hS6 := HSZ.out.grown 2 hg0 (intR (.slice (some ⟨gq, 0, none⟩) (st.length + 1) cq) (st ++ [(T2 : Int)])) (by simpa [intR, intsV] using hown6) (fun g' ee => by rw [Hf5.out.2.2]; exact hat' g' ee)
          have y2 : w6.cell? ⟨lb, 2, none⟩ = some (.slice SA st.length SC) := hS6.cell 2 _ rfl
          have yf2 := hS6.fro 2
          have hS7 := hS6.field 2 (.slice (some ⟨gq, 0, none⟩) (st.length + 1) cq)
          simp only [List.set_cons_succ, List.set_cons_zero] at hS7
          have HI7 : Hid (∃ (Vto Vst : Value) (F : Nat → GRw), Sq 192 (w6.setCell ⟨lb, 2, none⟩ (.slice (some ⟨gq, 0, none⟩) (st.length + 1) cq)) W.heap.size lb F [Vto, .slice none 0 0, Vst] ∧ F 0 = intR Vto (to_ ++ tos) ∧ F 1 = noRow ∧ F 2 = intR Vst (st ++ [(T2 : Int)])) := Lib.hid ⟨_, _, _, hS7, by rw [upG_off _ _ _ _ (by omega)]; exact Hf5.out.1, by rw [upG_off _ _ _ _ (by omega)]; exact Hf5.out.2.1, upG_at _ _ _⟩
          have HB7 := Lib.hid (HBZ.out.trans ((HSZ.out.b_grown 2 hg0).trans (hS6.b_field 2 (.slice (some ⟨gq, 0, none⟩) (st.length + 1) cq))))
          have HL7 : Hid ((to_ ++ tos).length ≤ 1048576 ∧ (st ++ [(T2 : Int)]).length ≤ 1048576) := Lib.hid ⟨by rw [Htl2.out]; omega, by simp; omega⟩
          clear hown6 hgrow6 hat6 hlt6 hat' hg0 hS6 hS7 HOW HNW HOn hsz2 HZ HSZ Hf5 HBZ
          go_wp2
          go_roundw
          case rel => exact ⟨j + 1, _, _, by omega, by go_num, HL7, HI7, HB7, HTN⟩
          case measure => simp [intOf]; omega
        · obtain rfl : j = no := by omega
          have hT2 := HT2.out
          rw [← Hrl.out, List.drop_length, toRun] at hT2
          injection hT2 with hT2
          obtain ⟨rfl, rfl⟩ : to_ = toE ∧ st = stE := by simpa using hT2
          obtain ⟨Vto, Vst, F, hS, f0, f1, f2⟩ := HI.out
          have HE := Lib.hid (show ∃ Vto Vst F, Sq 192 wr W.heap.size lb F [Vto, .slice none 0 0, Vst] ∧ F 0 = intR Vto to_ ∧ F 1 = noRow ∧ F 2 = intR Vst st ∧ Below W.heap.size W wr ∧ to_.length ≤ 1048576 from ⟨Vto, Vst, F, hS, f0, f1, f2, HB.out, HL.out.1⟩)
          clear hS f0 f1 f2 hT2 HI HB HT2 HL
          go_wp2_with fail
          go_meet
          exact HE.out
    case rest =>
      obtain ⟨V3, hV3⟩ : ∃ V3, V3 = wc := ⟨_, rfl⟩
      subst hV3
      obtain ⟨Vto, Vst, F, hS, f0, f1, f2, hB, hLt⟩ := hcut
      obtain ⟨tn, htn⟩ : ∃ tn, tn = toE.length := ⟨_, rfl⟩
      rw [← htn] at hLt
      obtain ⟨PA, PC, hPV⟩ := gr_slice (hS.at f0)
      obtain ⟨SA, SC, hSV⟩ := gr_slice (hS.at f2)
      simp only [intR] at hPV hSV
      subst hPV hSV
      rw [← htn] at hS f0
      have l0c : V3.cell? ⟨lb, 0, none⟩ = some (.slice PA tn PC) := hS.cell 0 _ rfl
      have HS := Lib.hid hS
      have Hf := Lib.hid (And.intro f0 (And.intro f1 f2))
      have HB := Lib.hid hB
      have Htn := Lib.hid htn
      have H3' := H3.out
      rw [← htn] at H3'
      have H4 := Lib.hid H3'
      clear hS f0 f1 f2 hB H3 H3' htn HI0 HJ0 HB0 HT0
      go_wp2_with (at_make; refine wpList_make_full _ rfl (.tmp 69) (.tmp 69) 64 rfl V3.heap.size 3 i0 (.int .i64 0) 1 Try.underlying64 Ji.out Jz0.out Jz1.out _ _ _ _ tn rfl rfl rfl rfl (by rw [Jz2.out]; omega) (by unfold maxLen; omega) (Nat.le_refl _) ?_)
      intro w5 ho5 hg5
      have hb5 : Below V3.heap.size V3 w5 := (Below.refl _ _).grown hg5 (Nat.le_refl _) (fun k e => by cases e)
      rw [madeInt] at ho5
      have hs5 := HS.out.new 1 (by rw [Hf.out.2.1]; rfl) hb5 (wholeR V3.heap.size (List.replicate tn 0)) (by simpa [wholeR, intsV] using ho5)
      obtain ⟨sb, hsb⟩ : ∃ sb, sb = V3.heap.size := ⟨_, rfl⟩
      rw [← hsb] at hs5 ⊢
      have d1 : w5.cell? ⟨lb, 1, none⟩ = some (.slice none 0 0) := hs5.cell 1 _ rfl
      have df1 := hs5.fro 1
      have hs6 := hs5.field 1 (.slice (some ⟨sb, 0, none⟩) tn tn)
      simp only [List.set_cons_succ, List.set_cons_zero] at hs6
      obtain ⟨W6, hW6⟩ : ∃ W6, W6 = w5.setCell ⟨lb, 1, none⟩ (.slice (some ⟨sb, 0, none⟩) tn tn) := ⟨_, rfl⟩
      have hb6 : Below W.heap.size W W6 := by rw [hW6]; exact HB.out.trans ((hb5.mono HS.out.hb).trans (hs5.b_field 1 _))
      rw [← hW6] at hs6
      have HW6 := Lib.hid hW6
      have HB6 := Lib.hid hb6
      have hHI : ∃ F, Sq 192 W6 W.heap.size lb F [.slice PA tn PC, .slice (some ⟨sb, 0, none⟩) tn tn, .slice SA stE.length SC] ∧ F 0 = intR (.slice PA tn PC) toE ∧ F 1 = wholeR sb (List.replicate tn 0) ∧ F 2 = intR (.slice SA stE.length SC) stE :=
        ⟨_, hs6, by rw [upG_off _ _ _ _ (by omega)]; exact Hf.out.1, upG_at _ _ _, by rw [upG_off _ _ _ _ (by omega)]; exact Hf.out.2.2⟩
      have HK0 := Lib.hid hHI
      have d0 : W6.cell? ⟨lb, 0, none⟩ = some (.slice PA tn PC) := hs6.cell 0 _ rfl
      clear ho5 hg5 hb5 hs5 hs6 hW6 hb6 hHI hsb HS Hf HB
      go_upto_region 15 with fail
      rw [← HW6.out]
      clear l0c d1 df1 HW6
      have hw1 : IntKind.i64.wrap ((tn : Int) - 1) = (tn : Int) - 1 := by rw [IntKind.wrap_i64]; omega
      go_upto_block 4 with fail
      clear d0
      go_wp2_with fail
      go_loopw [11] (fun u11 wr => ∃ (i : Nat) (sk : List Int), i ≤ tn ∧ u11 = .int .i64 ((i : Int) - 1) ∧ Hid (sk.length = tn) ∧ Hid (∃ F, Sq 192 wr W.heap.size lb F [.slice PA tn PC, .slice (some ⟨sb, 0, none⟩) tn tn, .slice SA stE.length SC] ∧ F 0 = intR (.slice PA tn PC) toE ∧ F 1 = wholeR sb sk ∧ F 2 = intR (.slice SA stE.length SC) stE) ∧ Hid (Below W.heap.size W wr) ∧ Hid (skRun deep toE kf i sk = some skE)) (fun u11 _ => (intOf u11 + 1).toNat)
      case atStart => exact ⟨tn, _, Nat.le_refl _, rfl, Lib.hid (by simp), HK0, HB6, H4⟩
      case round =>
        clear HK0 HB6 H4 hw1
        obtain ⟨i, sk, hi, rfl, HL, HK, HB, HR⟩ := hrel
        cases i with
        | succ i =>
          have hR := HR.out
          rw [skRun, Option.bind_eq_some_iff] at hR
          obtain ⟨nx, hnx, hR⟩ := hR
          rw [Option.bind_eq_some_iff] at hR
          obtain ⟨sk2, hsk2, hR⟩ := hR
          obtain ⟨in_2, hin2, hil, hsk2e⟩ := wrI_some hsk2
          obtain rfl : i = in_2 := by omega
          have hj1 : (((i + 1 : Nat) : Int) - 1) = (i : Int) := by omega
          rw [hj1]
          have hge : decide ((i : Int) ≥ 0) = true := by simp
          have hw2 : IntKind.i64.wrap ((i : Int) + 1) = ((i + 1 : Nat) : Int) := by rw [IntKind.wrap_i64]; omega
          obtain ⟨F, hS, f0, f1, f2⟩ := HK.out
          have hitl : i < toE.length := by rw [← Htn.out]; omega
          obtain ⟨g0, rfl, -⟩ := hS.read f0 hitl
          have hT0 := HT.out.keep (HW0.out wr HB.out).2.2.2
          have hto : ∀ (q : Nat) (x : Nat) (y : Int), rdI toE (x : Int) = some y → (wr.drewN q).cell? ⟨g0, x, none⟩ = some (.int .i64 y) ∧ x < tn := fun q x y hxy => by
            obtain ⟨x', hx', hxl, hye⟩ := rdI_some hxy
            obtain rfl : x = x' := by omega
            obtain ⟨g1, hg1, hc⟩ := hS.read f0 hxl
            injection hg1 with hg1
            injection hg1 with hg1
            subst hg1
            refine ⟨?_, by rw [Htn.out]; exact hxl⟩
            rw [hye]
            refine Eq.trans (show (wr.drewN q).cell? ⟨g0, x, none⟩ = wr.cell? ⟨g0, x, none⟩ from rfl) ?_
            rw [hc]
            simp [List.getD, hxl]
          have hde : ∀ (q : Nat) (x y : Int), rdI deep x = some y → ∃ xn : Nat, x = xn ∧ xn < n ∧ (wr.drewN q).cell? ⟨db, xn, none⟩ = some (.int .i64 y) := fun q x y hxy => by
            obtain ⟨xn, rfl, hxl, hye⟩ := rdI_some hxy
            exact ⟨xn, rfl, by rw [← Hdl.out]; exact hxl, by rw [hye]; exact (hT0.whole HF3.out).cell hxl⟩
          have hskc : ∀ (q : Nat) (x : Nat) (y : Int), rdI sk (x : Int) = some y → (wr.drewN q).cell? ⟨sb, x, none⟩ = some (.int .i64 y) := fun q x y hxy => by
            obtain ⟨x', hx', hxl, hye⟩ := rdI_some hxy
            obtain rfl : x = x' := by omega
            rw [hye]
            exact (hS.whole f1).cell hxl
          have hc0 : ∀ q : Nat, (wr.drewN q).cell? ⟨lb, 0, none⟩ = some (.slice (some ⟨g0, 0, none⟩) tn PC) ∧ (wr.drewN q).cell? ⟨lb, 1, none⟩ = some (.slice (some ⟨sb, 0, none⟩) tn tn) ∧ (wr.drewN q).cell? ⟨tp, 3, none⟩ = some (.slice (some ⟨db, 0, none⟩) n n) := fun q => ⟨hS.cell 0 _ rfl, hS.cell 1 _ rfl, hT0.cell 3 _ rfl⟩
          have Hto := Lib.hid hto
          have Hde := Lib.hid hde
          have Hskc := Lib.hid hskc
          have Hc0 := Lib.hid hc0
          have Hnx := Lib.hid hnx
          have HR2 := Lib.hid hR
          have Hsk2 := Lib.hid (And.intro hsk2e hil)
          clear hR hnx hsk2 hsk2e hil hin2 hj1 hS f0 f1 f2 hitl hT0 hto hde hskc hc0 HR
          go_upto_block 6 with fail
          clear hge hw2
          obtain ⟨wo, hwo⟩ : ∃ wo, wo = wr := ⟨_, rfl⟩
          subst hwo
          have Hil : Hid (i < tn) := Lib.hid (by omega)
          go_cut [12] (fun u12 wx => u12 = .int .i64 nx ∧ ∃ q, wx = wo.drewN q)
          case first =>
            go_wp2_with fail
            go_loopw [12] (fun u12 wr => ∃ x : Int, u12 = .int .i64 x ∧ (∃ k, skNext deep toE sk (i : Int) k x = some nx) ∧ ∃ q, wr = wo.drewN q) (fun u12 _ => leastN (fun k => skNext deep toE sk (i : Int) k (intOf u12) = some nx))
            case atStart => exact ⟨_, rfl, ⟨kf, Hnx.out⟩, 0, rfl⟩
            case round =>
              obtain ⟨x, rfl, hex, q, rfl⟩ := hrel
              obtain ⟨K, hK⟩ : ∃ K, K = leastN (fun k => skNext deep toE sk (i : Int) k x = some nx) := ⟨_, rfl⟩
              have hk : skNext deep toE sk (i : Int) K x = some nx := by rw [hK]; exact leastN_spec hex
              have HK := Lib.hid hK
              clear hK hex
              obtain ⟨c0', c1', c3'⟩ := Hc0.out q
              cases K with
              | zero => simp [skNext] at hk
              | succ k =>
                rw [skNext] at hk
                split at hk
                · next hc =>
                  rw [Option.bind_eq_some_iff] at hk
                  obtain ⟨tx, htx, hk⟩ := hk
                  rw [Option.bind_eq_some_iff] at hk
                  obtain ⟨dx, hdx, hk⟩ := hk
                  rw [Option.bind_eq_some_iff] at hk
                  obtain ⟨ty, hty, hk⟩ := hk
                  rw [Option.bind_eq_some_iff] at hk
                  obtain ⟨dy, hdy, hk⟩ := hk
                  obtain ⟨xn, rfl, hxl, -⟩ := rdI_some htx
                  obtain ⟨e1, hxt⟩ := Hto.out q xn tx htx
                  obtain ⟨e2, hit⟩ := Hto.out q i ty hty
                  obtain ⟨txn, rfl, htxn, e3⟩ := Hde.out q tx dx hdx
                  obtain ⟨tyn, rfl, htyn, e4⟩ := Hde.out q ty dy hdy
                  have hlt : decide ((xn : Int) < (tn : Int)) = true := decide_eq_true (by omega)
                  by_cases hdd : dx ≥ dy
                  · have hdg : decide (dx ≥ dy) = true := decide_eq_true hdd
                    rw [if_pos hdd, Option.bind_eq_some_iff] at hk
                    obtain ⟨ny, hny, hk⟩ := hk
                    have HN := Lib.hid hk
                    have Hny := Lib.hid hny
                    clear hk hny htx hdx hty hdy hxl hc hdd
                    obtain ⟨V, hV⟩ : ∃ V, V = wo.drewN q := ⟨_, rfl⟩
                    rw [← hV] at c0' c1' c3' e1 e2 e3 e4 ⊢
                    have HVq := Lib.hid hV
                    clear hV
                    go_upto_region 19 with fail
                    go_quiet (fail)
                    rw [HVq.out, drewN_add]
                    clear e1 e2 e3 e4 c0' c1' c3'
                    obtain ⟨c0', c1', c3'⟩ := Hc0.out (q + nq)
                    have e5 := Hskc.out (q + nq) xn ny Hny.out
                    obtain ⟨V2, hV2⟩ : ∃ V2, V2 = wo.drewN (q + nq) := ⟨_, rfl⟩
                    rw [← hV2] at c0' c1' c3' e5 ⊢
                    have HV2 := Lib.hid hV2
                    clear hV2
                    go_wp2
                    rw [HV2.out]
                    go_roundw
                    case rel => exact ⟨ny, rfl, ⟨k, HN.out⟩, q + nq, rfl⟩
                    case measure =>
                      change leastN (fun k => skNext deep toE sk (i : Int) k ny = some nx) < leastN (fun k => skNext deep toE sk (i : Int) k (xn : Int) = some nx)
                      rw [← HK.out]
                      exact Nat.lt_succ_of_le (leastN_le HN.out)
                  · have hdg : decide (dx ≥ dy) = false := decide_eq_false hdd
                    rw [if_neg hdd] at hk
                    injection hk with hk
                    subst hk
                    clear htx hdx hty hdy hxl hc hdd
                    obtain ⟨V, hV⟩ : ∃ V, V = wo.drewN q := ⟨_, rfl⟩
                    rw [← hV] at c0' c1' c3' e1 e2 e3 e4 ⊢
                    have HVq := Lib.hid hV
                    clear hV
                    go_upto_region 19 with fail
                    go_quiet (fail)
                    rw [HVq.out, drewN_add]
                    go_wp2_with fail
                    go_meet
                    exact ⟨rfl, _, rfl⟩
                · next hc =>
                  injection hk with hk
                  subst hk
                  have hlt : decide (x < (tn : Int)) = false := decide_eq_false (by rw [Htn.out]; omega)
                  clear hc
                  obtain ⟨V, hV⟩ : ∃ V, V = wo.drewN q := ⟨_, rfl⟩
                  rw [← hV] at c0' c1' c3' ⊢
                  have HVq := Lib.hid hV
                  clear hV
                  go_upto_region 19 with fail
                  go_quiet (fail)
                  rw [HVq.out, drewN_add]
                  go_wp2_with fail
                  go_meet
                  exact ⟨rfl, _, rfl⟩
          case rest =>
            obtain ⟨rfl, q, hwq⟩ := hcut
            obtain ⟨Vq, hVq⟩ : ∃ Vq, Vq = wc := ⟨_, rfl⟩
            subst hVq
            have hbq : Below wo.heap.size wo Vq := by rw [hwq]; exact below_drewN wo q
            clear hwq
            obtain ⟨F, hS, f0, f1, f2⟩ := HK.out
            have hSq := hS.keep hbq
            have d1 : Vq.cell? ⟨lb, 1, none⟩ = some (.slice (some ⟨sb, 0, none⟩) tn tn) := hSq.cell 1 _ rfl
            have ds : ∃ v, Vq.cell? ⟨sb, i, none⟩ = some v := ⟨_, (hSq.whole f1).cell (by rw [HL.out]; exact Hil.out)⟩
            obtain ⟨vds, ds⟩ := ds
            have dsf := (hSq.whole f1).fro i
            have hS2 := hSq.set f1 i nx
            have HI2 : Hid (∃ F, Sq 192 (Vq.setCell ⟨sb, i, none⟩ (.int .i64 nx)) W.heap.size lb F [.slice (some ⟨g0, 0, none⟩) tn PC, .slice (some ⟨sb, 0, none⟩) tn tn, .slice SA stE.length SC] ∧ F 0 = intR (.slice (some ⟨g0, 0, none⟩) tn PC) toE ∧ F 1 = wholeR sb sk2 ∧ F 2 = intR (.slice SA stE.length SC) stE) := Lib.hid
              ⟨_, hS2, by rw [upG_off _ _ _ _ (by omega)]; exact f0, by rw [upG_at, Hsk2.out.1], by rw [upG_off _ _ _ _ (by omega)]; exact f2⟩
            have HB2 := Lib.hid ((HB.out.trans (hbq.mono hS.hb)).trans (hSq.b_put f1 i (.int .i64 nx)))
            have HL2 : Hid (sk2.length = tn) := Lib.hid (by rw [Hsk2.out.1]; simpa using HL.out)
            have hil := Hil.out
            have hw3 : IntKind.i64.wrap ((i : Int) - 1) = (i : Int) - 1 := by rw [IntKind.wrap_i64]; omega
            clear hS f0 f1 f2 hSq hS2 hbq HK HB HL Hto Hde Hskc Hc0
            go_wp2
            go_roundw
            case rel => exact ⟨i, sk2, by omega, rfl, HL2, HI2, HB2, HR2⟩
            case measure => simp [intOf] <;> omega
        | zero =>
          have hR := HR.out
          rw [skRun] at hR
          injection hR with hR
          subst hR
          obtain ⟨F, hS, f0, f1, f2⟩ := HK.out
          obtain ⟨-, -, hres, hbw⟩ := HW0.out wr HB.out
          have r0 : wr.cell? ⟨lb, 0, none⟩ = some (.slice PA tn PC) := hS.cell 0 _ rfl
          have r1 : wr.cell? ⟨lb, 1, none⟩ = some (.slice (some ⟨sb, 0, none⟩) tn tn) := hS.cell 1 _ rfl
          have r2 : wr.cell? ⟨lb, 2, none⟩ = some (.slice SA stE.length SC) := hS.cell 2 _ rfl
          have z0 := Lib.cell_of_heap hres 0
          have z1 := Lib.cell_of_heap hres 1
          have z2 := Lib.cell_of_heap hres 2
          have zf := fun j => Lib.frozen_of_heap hres j
          have zf0 := zf 0
          have zf1 := zf 1
          have zf2 := zf 2
          rw [show (((0 : Nat) : Int) - 1) = -1 from rfl]
          have HS := Lib.hid hS
          have Hf := Lib.hid (And.intro f0 (And.intro f1 f2))
          have Hbw := Lib.hid hbw
          have hszw := HB.out.size
          clear hS f0 f1 f2 hres hbw zf HK HR
          go_wp2
          refine bodyPost_ret (v := .agg #[.slice PA tn PC, .slice (some ⟨sb, 0, none⟩) tn tn, .slice SA stE.length SC]) (by simp [results, Try.results145, go_sem, z0, z1, z2]) rfl ?_
          have hk : ∀ k, k ≠ w.heap.size + 1 → (((wr.setCell ⟨w.heap.size + 1, 0, none⟩ (.slice PA tn PC)).setCell ⟨w.heap.size + 1, 1, none⟩ (.slice (some ⟨sb, 0, none⟩) tn tn)).setCell ⟨w.heap.size + 1, 2, none⟩ (.slice SA stE.length SC)).heap[k]? = wr.heap[k]? := fun k hne => by
            rw [Below.heap_setCell _ _ _ _ (by exact hne), Below.heap_setCell _ _ _ _ (by exact hne), Below.heap_setCell _ _ _ _ (by exact hne)]
          refine ⟨.slice PA tn PC, .slice SA stE.length SC, sb, F, lb, by rw [← Htn.out]; rfl, ?_, Hf.out.1, Hf.out.2.1, Hf.out.2.2, by rw [← Htn.out]; exact HL.out, ?_⟩
          · rw [← Htn.out]
            exact HS.out.mono_keep (by omega) (fun k hk2 => hk k (by omega)) (by simp [World.setCell])
          · refine ⟨Hbw.out.os, Hbw.out.tape, Hbw.out.output, by simp [World.setCell]; exact Hbw.out.size, fun k hk2 => (hk k (by omega)).trans (Hbw.out.block k hk2)⟩
end Go.Proofs.Ytagagpappjkgbaa
