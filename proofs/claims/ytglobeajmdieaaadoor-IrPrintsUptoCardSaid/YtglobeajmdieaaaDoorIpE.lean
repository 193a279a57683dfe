/-
  A function is printed: the head.
-/
import Derived.Test.YtglobeajmdieaaaDoorIpF
import Derived.Laws.IdiomStrings
namespace Go.Proofs.YtglobeajmdieaaaDoor
open Go.RowKit
set_option linter.unusedVariables false
set_option linter.unusedSimpArgs false

/-- A word and two numbers. -/
theorem sayX_two (B n : Nat) (xs : List Value) (w0 w : World) (sv : Value) (t : List UInt8) (word : ByteArray) (x y : Int) (h : TX B n xs w0 w sv t) (hBw : B ≤ w.heap.size) (hx : InR x) (hy : InR y) (hlim : n + t.length + word.size + 66 ≤ 140737488355328) (htab : Lib.TabBelow Tryd.prog B w "internal/strconv.uint64pow10" .u64 Lib.pow10Tab) :
    Calls Tryd.prog 11 #[sv, .string word, .slice (some ⟨w.heap.size, 0, none⟩) 2 2] (w.alloc (.cells #[.int .i64 x, .int .i64 y] 3)) fun e w' => ∃ v', e = .returned v' ∧ TX B n xs w0 w' v' (t ++ sayP word.data.toList [x, y]) := by
  obtain ⟨W, hW, hbW, hzW, h0⟩ := r_one_al w #[.int .i64 x, .int .i64 y] 3
  rw [← hW]
  refine sayX_tx B n xs w0 W sv _ t word [x, y] (h.up hBw hbW) (by omega) (by simp; exact ⟨hx, hy⟩) ⟨_, 2, rfl, fun _ => ⟨w.heap.size, 0, _, rfl, h0, .inr fun c fz e => ?_, fun j u hu => ?_⟩⟩ (by simp; omega) (htab.on (hbW.mono hBw))
  · injection e with _ e2 _
    exact absurd e2 (by decide)
  · rcases j with _ | _ | j
    · simp at hu
      subst hu
      exact Lib.cell_of_heap h0 0
    · simp at hu
      subst hu
      exact Lib.cell_of_heap h0 1
    · simp at hu

theorem tail_own {w5 : World} {B : Nat} {v5 : Value} {s : ByteArray} {t9 : List UInt8} (h : OwnX w5 B 5 v5 (s.size + 5 + t9.length + 1) (Lib.strCells (⟨#[102, 117, 110, 99, 32]⟩ ++ s) ++ Lib.byteCells t9 ++ [Value.int .u8 10])) :
    ∃ (g cap : Nat) (L : List UInt8), v5 = .slice (some ⟨g, 0, none⟩) L.length cap ∧ L = [102, 117, 110, 99, 32] ++ s.data.toList ++ (t9 ++ [10]) ∧ ∀ j (hj : j < L.length), w5.cell? ((⟨g, 0, none⟩ : Addr).add j) = some (.int .u8 (L[j].toNat : Int)) := by
  obtain ⟨hl5, g, cap, cur, fz, rfl, hB, hg, hnc, hcm, hcs, hfz, htk⟩ := h
  obtain ⟨L, hL⟩ : ∃ L : List UInt8, L = [102, 117, 110, 99, 32] ++ s.data.toList ++ (t9 ++ [10]) := ⟨_, rfl⟩
  have hxl : Lib.strCells (⟨#[102, 117, 110, 99, 32]⟩ ++ s) ++ Lib.byteCells t9 ++ [Value.int .u8 10] = Lib.byteCells L := by
    rw [hL]
    simp [Lib.strCells, Lib.byteCells, ByteArray.data_append]
  rw [hxl] at hl5 htk
  have hLl : s.size + 5 + t9.length + 1 = L.length := by rw [← hl5, Lib.byteCells_length]
  refine ⟨g, cap, L, by rw [hLl], hL, fun j hj => own_at hg htk j _ (by simp [Lib.byteCells, List.getElem?_eq_getElem hj])⟩

set_option maxRecDepth 100000 in
set_option maxHeartbeats 8000000 in
theorem print_any (s : ByteArray) (ps : List Int) (r : Int) (pv iv bv : Value) (is : List InD) (bs : List BkD) (w : World) (hs : s.size + 22 * ps.length + (blocksP is bs 0).length + 100000000 ≤ 140737488355328) (hri : RdI w.heap.size w iv is) (hrb : RdB w.heap.size w bv bs) (hio : ∀ d ∈ is, d.ok ∧ d.args.length ≤ 1048576) (hbo : ∀ d ∈ bs, d.ok) (hp : RdN w.heap.size w pv ps) (hpr : ∀ x ∈ ps, InR x) (hr : InR r) (htab : Lib.TabBelow Tryd.prog w.heap.size w "internal/strconv.uint64pow10" .u64 Lib.pow10Tab) :
    Calls Tryd.prog 6 #[.agg #[.string s, pv, .int .i64 r, iv, bv]] w fun e w' => e = .returned (.string ⟨([102, 117, 110, 99, 32] ++ s.data.toList ++ (sayP [] ps ++ (sayP [32, 58] [r] ++ (blocksP is bs 0 ++ [10])))).toArray⟩) ∧ Below w.heap.size w w' := by
  obtain ⟨VA, Vc, rfl, hlb, hrb'⟩ := hrb
  have hrb : RdB w.heap.size w (.slice VA bs.length Vc) bs := ⟨VA, Vc, rfl, hlb, hrb'⟩
  obtain ⟨VI, Vd, rfl, hli, hri'⟩ := hri
  have hri : RdI w.heap.size w (.slice VI is.length Vd) is := ⟨VI, Vd, rfl, hli, hri'⟩
  clear hrb' hri'
  obtain ⟨W, hW, hbW, hzW, h0W⟩ := r_one_al w #[.string s, pv, .int .i64 r, .slice VI is.length Vd, .slice VA bs.length Vc] 26
  have hcv := Lib.run_convert_string_bytes (P := Tryd.prog) W 9 37 5 (⟨#[102, 117, 110, 99, 32]⟩ ++ s) (u := .string) Tryd.underlying9 Tryd.underlying37 Tryd.underlying5
  have hsz : (⟨#[102, 117, 110, 99, 32]⟩ ++ s : ByteArray).size = s.size + 5 := by rw [ByteArray.size_append]; show 5 + s.size = _; omega
  have hbX := bytesX_below W 5 (⟨#[102, 117, 110, 99, 32]⟩ ++ s)
  have hoX := conv_own W w.heap.size (by omega) 5 (⟨#[102, 117, 110, 99, 32]⟩ ++ s) (by omega)
  obtain ⟨W1, hW1⟩ : ∃ W1, W1 = Lib.bytesWorld W 5 (⟨#[102, 117, 110, 99, 32]⟩ ++ s) := ⟨_, rfl⟩
  rw [← hW1] at hcv hbX hoX
  obtain ⟨v1, hv1⟩ : ∃ v1, v1 = Value.slice (some ⟨W.heap.size, 0, none⟩) (⟨#[102, 117, 110, 99, 32]⟩ ++ s : ByteArray).size (grownCap W (⟨#[102, 117, 110, 99, 32]⟩ ++ s : ByteArray).size 0 5) := ⟨_, rfl⟩
  rw [← hv1] at hcv hoX
  clear hW1 hv1
  have hb1 : Below w.heap.size w W1 := hbW.trans (hbX.mono (by omega))
  have h1F : W1.heap[w.heap.size]? = some (.cells #[.string s, pv, .int .i64 r, .slice VI is.length Vd, .slice VA bs.length Vc] 26 (0, 0)) := (hbX.block _ (by omega)).trans h0W
  have hT1 : TX w.heap.size (s.size + 5) (Lib.strCells (⟨#[102, 117, 110, 99, 32]⟩ ++ s)) W1 W1 v1 [] := ⟨by simpa [Lib.byteCells, hsz] using hoX, Below.refl _ _, Lib.OthersKept.refl _ _ _⟩
  have hp1 : RdN w.heap.size W1 pv ps := hp.keep hb1 (kept_below hb1)
  have ht1 := htab.on hb1
  have hri1 : RdI w.heap.size W1 (.slice VI is.length Vd) is := hri.keep hb1 (kept_below hb1)
  have hrb1 : RdB w.heap.size W1 (.slice VA bs.length Vc) bs := hrb.keep hb1 (kept_below hb1)
  have Hri := Lib.hid hri1
  have Hrb := Lib.hid hrb1
  have Hio := Lib.hid hio
  have Hbo := Lib.hid hbo
  have Hr := Lib.hid hr
  have hkX : ∀ w', Lib.OthersKept 5 none W1 w' → w'.heap[w.heap.size]? = some (.cells #[.string s, pv, .int .i64 r, .slice VI is.length Vd, .slice VA bs.length Vc] 26 (0, 0)) := fun w' hk => hk _ _ h1F (by simp) (fun c fz e => by injection e with _ e2 _; exact absurd e2 (by decide))
  have hS2 := sayX_tx w.heap.size (s.size + 5) (Lib.strCells (⟨#[102, 117, 110, 99, 32]⟩ ++ s)) W1 W1 v1 pv [] ⟨#[]⟩ ps hT1 hb1.size hpr hp1 (by show s.size + 5 + 0 + 0 + 22 * ps.length + 22 ≤ _; omega) ht1
  have HW := Lib.hid hW
  have HbX := Lib.hid hbX
  have Hb1 := Lib.hid hb1
  have Ht1 := Lib.hid ht1
  have HkX := Lib.hid hkX
  have Hpr := Lib.hid hpr
  have hl1 : (sayP [] ps).length ≤ 22 * ps.length := by have := say_len [] ps hpr; simpa using this
  go_enter Tryd.func6, Tryd.ntmps6
  go_upto_region 1 with fail
  rw [← HW.out]
  obtain ⟨x0, -⟩ := cells5 h0W
  clear hW hbW hzW h0W hbX hoX hb1 hT1 hp1 ht1 hkX hp htab hpr hri1 hrb1 hio hbo hri hrb hr
  go_upto_region 2 with fail
  clear x0
  obtain ⟨x0, x1, x2, x3, x4, -⟩ := cells5 h1F
  go_upto_region 3 with (go_at_call 11; refine hS2.mono ?_; rintro e w2 ⟨v2, rfl, h2⟩; have H2 := Lib.hid h2; clear h2 hS2)
  clear x0 x1 x2 x3 x4 h1F
  obtain ⟨x0, x1, x2, x3, x4, -⟩ := cells5 (HkX.out w2 H2.out.k)
  obtain ⟨m, hm⟩ : ∃ m, m = bs.length := ⟨_, rfl⟩
  have Hm := Lib.hid hm
  rw [← hm] at x4 hlb
  have l2 : (sayP [32, 58] [r]).length ≤ 24 := say_len _ _ (by simpa using Hr.out)
  obtain ⟨t2, ht2⟩ : ∃ t2, t2 = sayP [] ps := ⟨_, rfl⟩
  have ht2' : ([] : List UInt8) ++ sayP (⟨#[]⟩ : ByteArray).data.toList ps = t2 := by rw [ht2]; rfl
  have H2 : Hid (TX w.heap.size (s.size + 5) (Lib.strCells (⟨#[102, 117, 110, 99, 32]⟩ ++ s)) W1 w2 v2 t2) := Lib.hid (by rw [← ht2']; exact H2.out)
  rw [← ht2] at hl1
  have hBw : w.heap.size ≤ W1.heap.size := Hb1.out.size
  have hS3 := sayX_one w.heap.size (s.size + 5) _ W1 w2 v2 t2 ⟨#[32, 58]⟩ r H2.out (H2.out.le hBw) Hr.out (by show s.size + 5 + t2.length + 2 + 44 ≤ _; omega) (Ht1.out.on H2.out.b)
  have Ht2 := Lib.hid ht2
  clear ht2 ht2' hm
  go_upto_region 4 with (go_at_call 11; refine hS3.mono ?_; rintro e w3 ⟨v3, rfl, h3⟩; have H3 := Lib.hid h3; clear h3 hS3)
  clear x0 x1 x2 x3 x4
  obtain ⟨x0, x1, x2, x3, x4, -⟩ := cells5 (HkX.out w3 H3.out.k)
  rw [← Hm.out] at x4
  obtain ⟨t3, ht3⟩ : ∃ t3, t3 = t2 ++ sayP [32, 58] [r] := ⟨_, rfl⟩
  have hl3 : t3.length ≤ 22 * ps.length + 24 := by rw [ht3, List.length_append]; omega
  have H3 : Hid (TX w.heap.size (s.size + 5) (Lib.strCells (⟨#[102, 117, 110, 99, 32]⟩ ++ s)) W1 w3 v3 t3) := Lib.hid (by rw [ht3]; exact H3.out)
  have Ht3 := Lib.hid ht3
  clear ht3
  go_upto_region 5 with fail
  go_loopw [3, 24] (fun u3 u24 wr => ∃ (i : Nat) (x : Value), i ≤ m ∧ u24 = .int .i64 i ∧ u3 = x ∧ Hid (TX w.heap.size (s.size + 5) (Lib.strCells (⟨#[102, 117, 110, 99, 32]⟩ ++ s)) W1 wr x (t3 ++ blocksP is (bs.take i) 0))) (fun _ u24 _ => m - (intOf u24).toNat)
  case atStart => exact ⟨0, _, Nat.zero_le _, rfl, rfl, Lib.hid (by simpa [blocksP] using H3.out)⟩
  case round =>
    clear H2 H3 x0 x1 x2 x3 x4
    obtain ⟨i, x, hi, rfl, rfl, HT⟩ := hrel
    by_cases hlt : i < m
    · have hil : i < bs.length := by rw [← Hm.out]; exact hlt
      obtain ⟨A, c, hv, -, hrr⟩ := Hrb.out.keep HT.out.b HT.out.k
      obtain ⟨b, o, ob, hA, hob, hobn, hc⟩ := hrr (by rw [← Hm.out]; omega)
      have hva : VA = some ⟨b, o, none⟩ := by injection hv with e1; rw [e1, hA]
      subst hva
      obtain ⟨lv, qv, tv, c0, c1, c2, c3, c4, r1, r2, r3⟩ := hc i bs[i] (List.getElem?_eq_getElem hil)
      have hd := Hbo.out bs[i] (List.getElem_mem hil)
      have hS := blocksP_succ is bs i hil
      have hsp := blocksP_split is bs (i + 1)
      obtain ⟨d, hdd⟩ : ∃ d, d = bs[i] := ⟨_, rfl⟩
      rw [← hdd] at c2 c3 r1 r2 r3 hd hS
      have HS := Lib.hid hS
      have Hsp := Lib.hid hsp
      have Hd := Lib.hid hd
      clear hv hrr hA hc hS hsp hdd hd
      have hbl : b < wr.heap.size := heap_in hob
      obtain ⟨LA, Lc, rfl, -⟩ := id r1
      obtain ⟨QA, Qc, rfl, -⟩ := id r2
      obtain ⟨TA, Tc, rfl, -⟩ := id r3
      have R1 := Lib.hid r1
      have R2 := Lib.hid r2
      have R3 := Lib.hid r3
      clear r1 r2 r3
      go_upto_region 6 with fail
      go_upto_region 7 with fail
      obtain ⟨Y, hY, hbY, hzY, h0Y⟩ := r_one_al wr #[.slice LA d.list.length Lc, .slice QA d.preds.length Qc, .int .i64 d.kind, .int .i64 d.arg, .slice TA d.to_.length Tc] 35
      rw [← hY]
      obtain ⟨N, hN⟩ : ∃ N, N = s.size + 5 := ⟨_, rfl⟩
      obtain ⟨XS, hXS⟩ : ∃ XS, XS = Lib.strCells (⟨#[102, 117, 110, 99, 32]⟩ ++ s) := ⟨_, rfl⟩
      have HTy := HT.out.up (HT.out.le hBw) hbY
      obtain ⟨t4, ht4⟩ : ∃ t4, t4 = t3 ++ blocksP is (bs.take i) 0 := ⟨_, rfl⟩
      obtain ⟨P1, hP1⟩ : ∃ P, P = sayP [10, 98, 108, 111, 99, 107] [(i : Int)] := ⟨_, rfl⟩
      obtain ⟨P2, hP2⟩ : ∃ P, P = sayP [32, 102, 114, 111, 109] d.preds := ⟨_, rfl⟩
      obtain ⟨P3, hP3⟩ : ∃ P, P = linesP is d.list := ⟨_, rfl⟩
      obtain ⟨P4, hP4⟩ : ∃ P, P = sayP [10, 32, 32, 101, 110, 100] [d.kind, d.arg] := ⟨_, rfl⟩
      obtain ⟨P5, hP5⟩ : ∃ P, P = sayP [32, 116, 111] d.to_ := ⟨_, rfl⟩
      have hblk : blockP is i d = P1 ++ (P2 ++ (P3 ++ (P4 ++ P5))) := by rw [hP1, hP2, hP3, hP4, hP5]; rfl
      have hlim : N + t4.length + P1.length + P2.length + P3.length + P4.length + P5.length + 99000000 ≤ 140737488355328 := by
        have e1 := HS.out
        rw [hblk] at e1
        have e2 := congrArg List.length e1
        simp only [List.length_append] at e2
        have e3 := Hsp.out
        rw [ht4, List.length_append]
        omega
      have hend : t3 ++ blocksP is (bs.take (i + 1)) 0 = t4 ++ P1 ++ P2 ++ P3 ++ P4 ++ P5 := by rw [HS.out, hblk, ht4]; simp [List.append_assoc]
      rw [← ht4, ← hN, ← hXS] at HTy
      have hTy : TX w.heap.size N XS Y Y u3 t4 := ⟨HTy.own, Below.refl _ _, Lib.OthersKept.refl _ _ _⟩
      have hBY : w.heap.size ≤ Y.heap.size := HTy.le hBw
      have hkY : ∀ w', Lib.OthersKept 5 none Y w' → w'.heap[wr.heap.size]? = some (.cells #[.slice LA d.list.length Lc, .slice QA d.preds.length Qc, .int .i64 d.kind, .int .i64 d.arg, .slice TA d.to_.length Tc] 35 (0, 0)) := fun w' hk => hk _ _ h0Y (by simp) (fun c fz e => by injection e with _ e2 _; exact absurd e2 (by decide))
      have htY := Ht1.out.on HTy.b
      have hkb : Below w.heap.size wr Y := hbY.mono (HT.out.le hBw)
      have rr1 := R1.out.keep hkb (kept_below hbY)
      have rr2 := R2.out.keep hkb (kept_below hbY)
      have rr3 := R3.out.keep hkb (kept_below hbY)
      have hK1Y : Lib.OthersKept 5 none W1 Y := HTy.k
      have Hb1Y := Lib.hid HTy.b
      have hi64 : InR (i : Int) := by have := hlb; unfold InR; omega
      have hS7 := sayX_one w.heap.size N XS Y Y u3 t4 ⟨#[10, 98, 108, 111, 99, 107]⟩ (i : Int) hTy hBY hi64 (by show N + t4.length + 6 + 44 ≤ _; omega) htY
      have hS7 : Calls Tryd.prog 11 #[u3, .string ⟨#[10, 98, 108, 111, 99, 107]⟩, .slice (some ⟨Y.heap.size, 0, none⟩) 1 1] (Y.alloc (.cells #[.int .i64 i] 3)) fun e w' => ∃ v', e = .returned v' ∧ TX w.heap.size N XS Y w' v' (t4 ++ P1) := by rw [hP1]; exact hS7
      have Hend := Lib.hid hend
      have HkY := Lib.hid hkY
      have HtY := Lib.hid htY
      have HR1 := Lib.hid rr1
      have HR2 := Lib.hid rr2
      have HR3 := Lib.hid rr3
      have HK1Y := Lib.hid hK1Y
      have HTY := Lib.hid HTy
      have HP2 := Lib.hid hP2
      have HP3 := Lib.hid hP3
      have HP4 := Lib.hid hP4
      have HP5 := Lib.hid hP5
      have HN := Lib.hid hN
      have HXS := Lib.hid hXS
      clear hend hkY htY rr1 rr2 rr3 hkb HTy hK1Y hP1 hP2 hP3 hP4 hP5 hblk hTy hY hbY hzY h0Y ht4 R1 R2 R3 HS Hsp c0 c1 c2 c3 c4 hob hbl hN hXS
      go_upto_region 8 with (go_at_call 11; refine hS7.mono ?_; rintro e y1 ⟨z1, rfl, h1⟩; have G1 := Lib.hid h1; clear h1 hS7)
      obtain ⟨x0, x1, x2, x3, x4, -⟩ := cells5 (HkY.out y1 G1.out.k)
      have hS8 := sayX_tx w.heap.size N XS Y y1 z1 (.slice QA d.preds.length Qc) (t4 ++ P1) ⟨#[32, 102, 114, 111, 109]⟩ d.preds G1.out (G1.out.le hBY) Hd.out.2.1.2 (HR2.out.keep G1.out.b G1.out.k) (by have := Hd.out.2.1.1; rw [List.length_append]; show N + (t4.length + P1.length) + 5 + _ + 22 ≤ _; omega) (HtY.out.on G1.out.b)
      have hS8 : Calls Tryd.prog 11 #[z1, .string ⟨#[32, 102, 114, 111, 109]⟩, .slice QA d.preds.length Qc] y1 fun e w' => ∃ v', e = .returned v' ∧ TX w.heap.size N XS Y w' v' (t4 ++ P1 ++ P2) := by rw [HP2.out]; exact hS8
      go_upto_region 9 with (go_at_call 11; refine hS8.mono ?_; rintro e y2 ⟨z2, rfl, h2⟩; have G2 := Lib.hid h2; clear h2 hS8)
      clear x0 x1 x2 x3 x4
      obtain ⟨x0, x1, x2, x3, x4, -⟩ := cells5 (HkY.out y2 G2.out.k)
      obtain ⟨m2, hm2⟩ : ∃ m2, m2 = d.list.length := ⟨_, rfl⟩
      have Hm2 := Lib.hid hm2
      have hm2l : m2 ≤ 1048576 := by rw [hm2]; exact Hd.out.1.1
      rw [← hm2] at x0
      clear hm2
      go_upto_region 10 with fail
      obtain ⟨t6, ht6⟩ : ∃ t6, t6 = t4 ++ P1 ++ P2 := ⟨_, rfl⟩
      have hl6 : t6.length = t4.length + P1.length + P2.length := by rw [ht6]; simp only [List.length_append]
      have G2 : Hid (TX w.heap.size N XS Y y2 z2 t6) := Lib.hid (by rw [ht6]; exact G2.out)
      have Ht6 := Lib.hid ht6
      clear ht6 G1 x0 x1 x2 x3 x4
      go_loopw [3, 40] (fun u3 u40 wr2 => ∃ (j : Nat) (x : Value), j ≤ m2 ∧ u40 = .int .i64 j ∧ u3 = x ∧ Hid (TX w.heap.size N XS Y wr2 x (t6 ++ linesP is (d.list.take j)))) (fun _ u40 _ => m2 - (intOf u40).toNat)
      case atStart => exact ⟨0, _, Nat.zero_le _, rfl, rfl, Lib.hid (by simpa [linesP] using G2.out)⟩
      case round =>
        clear G2
        obtain ⟨j, x, hj, rfl, rfl, GT⟩ := hrel
        by_cases hlt2 : j < m2
        · have hjl : j < d.list.length := by rw [← Hm2.out]; exact hlt2
          obtain ⟨A', c', hv', hr'⟩ := HR1.out.keep GT.out.b GT.out.k
          obtain ⟨b', o', ob', hA', hob', hobn', hc'⟩ := hr' (by omega)
          have hva' : LA = some ⟨b', o', none⟩ := by injection hv' with e1; rw [e1, hA']
          subst hva'
          have hcy := hc' j d.list[j] (List.getElem?_eq_getElem hjl)
          have hSl := linesP_succ is d.list j hjl
          have hsl := linesP_split is d.list j
          have hsl1 := linesP_split is d.list (j + 1)
          have hyin := Hd.out.1.2 d.list[j] (List.getElem_mem hjl)
          obtain ⟨y, hy⟩ : ∃ y, y = d.list[j] := ⟨_, rfl⟩
          rw [← hy] at hcy hSl hyin
          have hK1r : Lib.OthersKept 5 none W1 wr := HK1Y.out.trans GT.out.k
          obtain ⟨f0, f1, f2, f3, f4, -⟩ := cells5 (HkX.out wr hK1r)
          obtain ⟨t7, ht7⟩ : ∃ t7, t7 = t6 ++ linesP is (d.list.take j) := ⟨_, rfl⟩
          have hl7 : t7.length ≤ t6.length + P3.length := by rw [ht7, HP3.out, List.length_append]; omega
          have GT : Hid (TX w.heap.size N XS Y wr u3 t7) := Lib.hid (by rw [ht7]; exact GT.out)
          have hend2 : t6 ++ linesP is (d.list.take (j + 1)) = t7 ++ lineP is y := by rw [hSl, ht7]; simp [List.append_assoc]
          have Hend2 := Lib.hid hend2
          have Hyin := Lib.hid hyin
          have hH := hasF_any w.heap.size is.length Vd VI y wr hyin (by unfold maxLen; omega) f3
          by_cases hin : 0 ≤ y ∧ y < (is.length : Int)
          · rw [decide_eq_true hin] at hH
            obtain ⟨k, rfl⟩ : ∃ k : Nat, y = k := ⟨y.toNat, by omega⟩
            have hkl : k < is.length := by omega
            obtain ⟨A3, c3, hv3, -, hr3⟩ := Hri.out.keep (Hb1Y.out.trans GT.out.b) hK1r
            obtain ⟨b3, o3, ob3, hA3, hob3, hobn3, hc3⟩ := hr3 (by omega)
            have hva3 : VI = some ⟨b3, o3, none⟩ := by injection hv3 with e1; rw [e1, hA3]
            subst hva3
            obtain ⟨va, g0, g1, g2, g3, g4, g5⟩ := hc3 k is[k] (List.getElem?_eq_getElem hkl)
            obtain ⟨hdi, hda⟩ := Hio.out is[k] (List.getElem_mem hkl)
            have hline : lineP is (k : Int) = insP k is[k] := by unfold lineP; rw [if_pos hin]; simp [List.getElem?_eq_getElem hkl]
            obtain ⟨di, hdi'⟩ : ∃ di, di = is[k] := ⟨_, rfl⟩
            rw [← hdi'] at g0 g1 g3 g4 g5 hdi hda hline
            obtain ⟨UA, Uc, rfl, -⟩ := id g5
            have hS13 := sayInsX_tx w.heap.size N XS Y wr u3 (.slice UA di.args.length Uc) t7 (k : Int) di GT.out hBY Hyin.out hdi g5 (by omega) HtY.out
            obtain ⟨L13, hL13⟩ : ∃ L, L = insP k di := ⟨_, rfl⟩
            rw [← hL13] at hS13 hline
            have Hline := Lib.hid hline
            obtain ⟨ki, hki⟩ : ∃ ki, ki = is.length := ⟨_, rfl⟩
            rw [← hki] at f3 hkl
            clear f0 f1 f2 f4 hr3 hc3 hob3 hobn3 hdi hda hline hdi' g5 hL13 hin hv3 hA3 hK1r hv' hr' hA' hob' hobn' hc' hSl hsl hsl1 hyin hy ht7 hend2
            go_wp2_with (first | (go_at_call 12; refine hH.mono ?_; rintro e q1 ⟨rfl, rfl⟩) | (go_at_call 13; refine hS13.mono ?_; rintro e q2 ⟨z3, rfl, h3⟩; have G3 := Lib.hid h3; clear h3 hS13))
            go_roundw
            case rel => exact ⟨j + 1, _, by omega, by go_num, rfl, Lib.hid (by rw [Hend2.out, Hline.out]; exact G3.out)⟩
            case measure => simp [intOf]; omega
          · rw [decide_eq_false hin] at hH
            have Hline : Hid (lineP is y = []) := Lib.hid (by unfold lineP; rw [if_neg hin])
            clear f0 f1 f2 f3 f4 hin hK1r hv' hr' hA' hob' hobn' hc' hSl hsl hsl1 hyin hy ht7 hend2
            go_wp2_with (go_at_call 12; refine hH.mono ?_; rintro e q1 ⟨rfl, rfl⟩)
            go_roundw
            case rel => exact ⟨j + 1, _, by omega, by go_num, rfl, Lib.hid (by rw [Hend2.out, Hline.out, List.append_nil]; exact GT.out)⟩
            case measure => simp [intOf]; omega
        · obtain rfl : j = m2 := by omega
          have hfull : linesP is (d.list.take j) = P3 := by rw [HP3.out, Hm2.out, List.take_length]
          rw [hfull] at GT
          obtain ⟨t8, ht8⟩ : ∃ t8, t8 = t6 ++ P3 := ⟨_, rfl⟩
          rw [← ht8] at GT
          have hl8 : t8.length = t6.length + P3.length := by rw [ht8, List.length_append]
          have Ht8 := Lib.hid ht8
          clear hfull ht8
          obtain ⟨x0, x1, x2, x3, x4, -⟩ := cells5 (HkY.out wr GT.out.k)
          have hS15 := sayX_two w.heap.size N XS Y wr u3 t8 ⟨#[10, 32, 32, 101, 110, 100]⟩ d.kind d.arg GT.out (GT.out.le hBY) Hd.out.2.2.1 Hd.out.2.2.2.1 (by show N + t8.length + 6 + 66 ≤ _; omega) (HtY.out.on GT.out.b)
          have hS15 : Calls Tryd.prog 11 #[u3, .string ⟨#[10, 32, 32, 101, 110, 100]⟩, .slice (some ⟨wr.heap.size, 0, none⟩) 2 2] (wr.alloc (.cells #[.int .i64 d.kind, .int .i64 d.arg] 3)) fun e w' => ∃ v', e = .returned v' ∧ TX w.heap.size N XS Y w' v' (t8 ++ P4) := by rw [HP4.out]; exact hS15
          go_upto_region 16 with (go_at_call 11; refine hS15.mono ?_; rintro e q1 ⟨z5, rfl, h5⟩; have G5 := Lib.hid h5; clear h5 hS15)
          clear x0 x1 x2 x3 x4
          obtain ⟨x0, x1, x2, x3, x4, -⟩ := cells5 (HkY.out q1 G5.out.k)
          have hS16 := sayX_tx w.heap.size N XS Y q1 z5 (.slice TA d.to_.length Tc) (t8 ++ P4) ⟨#[32, 116, 111]⟩ d.to_ G5.out (G5.out.le hBY) Hd.out.2.2.2.2.2 (HR3.out.keep G5.out.b G5.out.k) (by have := Hd.out.2.2.2.2.1; rw [List.length_append]; show N + (t8.length + P4.length) + 3 + _ + 22 ≤ _; omega) (HtY.out.on G5.out.b)
          have hS16 : Calls Tryd.prog 11 #[z5, .string ⟨#[32, 116, 111]⟩, .slice TA d.to_.length Tc] q1 fun e w' => ∃ v', e = .returned v' ∧ TX w.heap.size N XS Y w' v' (t8 ++ P4 ++ P5) := by rw [HP5.out]; exact hS16
          go_wp2_with (go_at_call 11; refine hS16.mono ?_; rintro e q2 ⟨z6, rfl, h6⟩; have G6 := Lib.hid h6; clear h6 hS16)
          go_roundw
          case rel => exact ⟨i + 1, _, by omega, by go_num, rfl, Lib.hid (by
            rw [Hend.out, ← HN.out, ← HXS.out]
            rw [Ht8.out, Ht6.out] at G6
            exact ⟨G6.out.own, HTY.out.b.trans G6.out.b, HTY.out.k.trans G6.out.k⟩)⟩
          case measure => simp [intOf]; omega
    · obtain rfl : i = m := by omega
      have hfull : bs.take i = bs := by rw [Hm.out, List.take_length]
      rw [hfull] at HT
      clear hfull
      obtain ⟨A2, hA2, hbA, hzA, h0A⟩ := r_one_al wr #[.int .u8 10] 5
      obtain ⟨t9, ht9⟩ : ∃ t9, t9 = t3 ++ blocksP is bs 0 := ⟨_, rfl⟩
      rw [← ht9] at HT
      have hl9 : t9.length = t3.length + (blocksP is bs 0).length := by rw [ht9, List.length_append]
      have HOW := Lib.hid (HT.out.own.keep hbA)
      have HNW := Lib.hid (World.news_of_block h0A)
      have HOn : Hid (∀ u ∈ ([.int .u8 10] : List Value), u.oneCell' = true) := Lib.hid (by intro u hu; simp at hu; subst hu; rfl)
      have hBr : w.heap.size ≤ wr.heap.size := HT.out.le hBw
      have hsz2 : w.heap.size ≤ A2.heap.size := by omega
      have hBA : Below w.heap.size w A2 := (Hb1.out.trans HT.out.b).trans (hbA.mono hBr)
      have HBA := Lib.hid hBA
      have HOA := Lib.hid (HT.out.own.keep hbA)
      have Hsz2 := Lib.hid hsz2
      rw [hA2] at HOW HNW hsz2
      have HA2 := Lib.hid hA2
      have Ht9 := Lib.hid ht9
      obtain ⟨i0, hi0, hz0, hz1, hz2⟩ := info_parts infoByte
      have Hi := Lib.hid hi0
      have Hz0 := Lib.hid hz0
      have Hz1 := Lib.hid hz1
      have Hz2 := Lib.hid hz2
      have hcv2 : ∀ (w5 : World) (g cap : Nat) (L : List UInt8), (∀ j (hj : j < L.length), w5.cell? ((⟨g, 0, none⟩ : Addr).add j) = some (.int .u8 (L[j].toNat : Int))) → (convert 37 9 (.slice (some ⟨g, 0, none⟩) L.length cap)).run Tryd.prog w5 = .ok (.string ⟨L.toArray⟩) w5 := fun w5 g cap L hL =>
        run_convert_bytes_back w5 37 9 5 ⟨g, 0, none⟩ cap L Tryd.underlying37 Tryd.underlying5 Tryd.underlying9 hL
      have Hcv2 := Lib.hid hcv2
      clear hA2 hbA hzA h0A hBA ht9 hi0 hz0 hz1 hz2 hcv2
      go_wp2_with (at_builtin; refine wpList_appendX _ rfl (.tmp 70) (.tmp 71) 37 rfl w.heap.size 5 i0 Tryd.underlying37 Hi.out Hz0.out Hz1.out Hz2.out u3 _ _ rfl HOW.out hsz2 ⟨wr.heap.size, 0, none⟩ 1 1 [.int .u8 10] rfl rfl HNW.out HOn.out (by omega) ?_; intro v5 w5 hown5 hgrow; rw [← HA2.out] at hgrow; have hB5 := Lib.hid (HBA.out.grown hgrow Hsz2.out (fun g' e => (HOA.out.lt g' e).1)); clear hgrow HOW HNW hsz2; obtain ⟨g5, cap5, L, rfl, hL, hc5⟩ := tail_own hown5; have hcv3 := Hcv2.out w5 g5 cap5 L hc5; have HL := Lib.hid hL; clear hL hc5 hown5)
      go_ret
      refine ⟨?_, hB5.out⟩
      rw [HL.out, Ht9.out, Ht3.out, Ht2.out]
      simp [List.append_assoc]
end Go.Proofs.YtglobeajmdieaaaDoor
