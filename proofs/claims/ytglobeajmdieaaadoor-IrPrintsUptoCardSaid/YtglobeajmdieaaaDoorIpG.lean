/-
  The reference's Print.
-/
import Derived.Test.YtglobeajmdieaaaDoorIpF
import Derived.Test.YtglobeajmdieaaaDoorIpB
import Derived.Lib.QuietBelow
import Derived.Deep.DeepCutAuto
import Derived.Deep.CutBlock
import Derived.BigQuiet
namespace Go.Proofs.YtglobeajmdieaaaDoor
open Go.RowKit Go.Sort
set_option linter.unusedVariables false
set_option linter.unusedSimpArgs false

theorem ip_call {P : Program} {f : FuncId} {args : Array Value} {v : Value} (W : World) (h : ∀ A, Below W.heap.size W A → Calls P f args A fun e w' => e = .returned v ∧ Below A.heap.size A w') :
    ∀ p : Regrown, Calls P f args (grow (redrawn W p.d) p.os) fun e w' => e = .returned v ∧ ∃ q : Regrown, w' = grow (redrawn W q.d) q.os := fun p => Calls.regrown_of (h _ (below_regrown W p.d p.os))
theorem itoa_b {B : Nat} {w : World} (htab : Lib.TabBelow Tryd.prog B w "internal/strconv.uint64pow10" .u64 Lib.pow10Tab) (y : Int) (hy : InR y) (A : World) (hA : Below B w A) :
    Calls Tryd.prog 15 #[.int .i64 y] A fun e w' => e = .returned (.string ⟨(Lib.itoa y).toArray⟩) ∧ Below A.heap.size A w' := by
  refine (strconv_Itoa y hy.1 hy.2 A ((htab.on hA).here)).mono ?_
  rintro e w' ⟨rfl, k, os, rfl⟩
  exact ⟨rfl, grow_below A k os (Nat.le_refl _)⟩
theorem fmt_b {B : Nat} {w : World} (htab : Lib.TabBelow Tryd.prog B w "internal/strconv.uint64pow10" .u64 Lib.pow10Tab) (y : Int) (hy : InR y) (A : World) (hA : Below B w A) :
    Calls Tryd.prog 16 #[.int .i64 y, .int .i64 10] A fun e w' => e = .returned (.string ⟨(Lib.itoa y).toArray⟩) ∧ Below A.heap.size A w' := by
  refine (strconv_FormatInt_10 y hy.1 hy.2 A ((htab.on hA).here)).mono ?_
  rintro e w' ⟨rfl, k, os, rfl⟩
  exact ⟨rfl, grow_below A k os (Nat.le_refl _)⟩
theorem row_b {B : Nat} {w : World} (htab : Lib.TabBelow Tryd.prog B w "internal/strconv.uint64pow10" .u64 Lib.pow10Tab) (v : Value) (l : List Int) (hl : Short l) (A : World) (hA : Below B w A) (hB : B ≤ w.heap.size) (hr : RdN B A v l) :
    Calls Tryd.prog 14 #[v] A fun e w' => e = .returned (.string ⟨(rowP l).toArray⟩) ∧ Below A.heap.size A w' :=
  row_any B v l A (Nat.le_trans hB hA.size) hl.2 hr (by have := hl.1; omega) (htab.on hA)

def rHead (s : List UInt8) (ps : List Int) (r : Int) : List UInt8 := [102, 117, 110, 99, 32] ++ s ++ rowP ps ++ [32, 58, 32] ++ Lib.itoa r ++ [10]
def rLine (id : Int) (d : InD) : List UInt8 := [32, 32] ++ Lib.itoa id ++ [32, 61, 32] ++ Lib.itoa d.op ++ rowP d.args ++ [32, 59, 32] ++ Lib.itoa d.ty ++ [32] ++ Lib.itoa d.n ++ [32] ++ Lib.itoa d.tg ++ [10]
def rLineOf (is : List InD) (id : Int) : List UInt8 := if 0 ≤ id ∧ id < is.length then (match is[id.toNat]? with | some d => rLine id d | none => []) else []
def rLines (is : List InD) (l : List Int) : List UInt8 := l.flatMap (rLineOf is)
def rBeg (b : Nat) (d : BkD) : List UInt8 := [98, 108, 111, 99, 107, 32] ++ Lib.itoa (b : Int) ++ [32, 102, 114, 111, 109] ++ rowP d.preds ++ [10]
def rEnd (d : BkD) : List UInt8 := [32, 32, 101, 110, 100, 32] ++ Lib.itoa d.kind ++ [32] ++ Lib.itoa d.arg ++ [32, 116, 111] ++ rowP d.to_ ++ [10]
def rBlock (is : List InD) (b : Nat) (d : BkD) : List UInt8 := rBeg b d ++ rLines is d.list ++ rEnd d
def rBlocks (is : List InD) : List BkD → Nat → List UInt8
  | [], _ => []
  | d :: l, b => rBlock is b d ++ rBlocks is l (b + 1)
theorem rBlocks_append (is : List InD) : ∀ (l m : List BkD) (b : Nat), rBlocks is (l ++ m) b = rBlocks is l b ++ rBlocks is m (b + l.length)
  | [], m, b => by simp [rBlocks]
  | d :: l, m, b => by
    simp only [List.cons_append, rBlocks, rBlocks_append is l m (b + 1), List.append_assoc, List.length_cons]
    rw [show b + 1 + l.length = b + (l.length + 1) by omega]
theorem rBlocks_succ (is : List InD) (l : List BkD) (i : Nat) (hi : i < l.length) : rBlocks is (l.take (i + 1)) 0 = rBlocks is (l.take i) 0 ++ rBlock is i l[i] := by
  rw [List.take_succ_eq_append_getElem hi, rBlocks_append]
  simp [rBlocks]
  rw [Nat.min_eq_left (by omega)]
theorem rBlocks_split (is : List InD) (l : List BkD) (i : Nat) : (rBlocks is (l.take i) 0).length ≤ (rBlocks is l 0).length := by
  have h := rBlocks_append is (l.take i) (l.drop i) 0
  rw [List.take_append_drop] at h
  rw [h, List.length_append]; omega
theorem rLines_split (is : List InD) (l : List Int) (i : Nat) : (rLines is (l.take i)).length ≤ (rLines is l).length := by
  have h : rLines is l = rLines is (l.take i) ++ rLines is (l.drop i) := by
    unfold rLines
    rw [← List.flatMap_append, List.take_append_drop]
  rw [h, List.length_append]; omega
theorem rLines_succ (is : List InD) (l : List Int) (i : Nat) (hi : i < l.length) : rLines is (l.take (i + 1)) = rLines is (l.take i) ++ rLineOf is l[i] := by
  unfold rLines
  rw [List.take_succ_eq_append_getElem hi, List.flatMap_append]
  simp
theorem ba_size (l : List UInt8) : (⟨l.toArray⟩ : ByteArray).size = l.length := rfl
theorem ba_of (b : ByteArray) : b = ⟨b.data.toList.toArray⟩ := by
  apply ByteArray.ext
  simp

set_option maxRecDepth 100000 in
set_option maxHeartbeats 8000000 in
theorem refPrint_any (s : ByteArray) (ps : List Int) (r : Int) (pv iv bv : Value) (is : List InD) (bs : List BkD) (w : World) (hri : RdI w.heap.size w iv is) (hrb : RdB w.heap.size w bv bs) (hio : ∀ d ∈ is, d.ok ∧ d.args.length ≤ 1048576) (hbo : ∀ d ∈ bs, d.ok) (hp : RdN w.heap.size w pv ps) (hpl : Short ps) (hr : InR r) (hss : s.size ≤ 140737488355328) (hlen : (rHead s.data.toList ps r).length + (rBlocks is bs 0).length ≤ 2251799813685248) (htab : Lib.TabBelow Tryd.prog w.heap.size w "internal/strconv.uint64pow10" .u64 Lib.pow10Tab) :
    Calls Tryd.prog 7 #[.agg #[.string s, pv, .int .i64 r, iv, bv]] w fun e w' => e = .returned (.string ⟨(rHead s.data.toList ps r ++ rBlocks is bs 0).toArray⟩) ∧ Below w.heap.size w w' := by
  obtain ⟨VA, Vc, rfl, hlb, hrb'⟩ := hrb
  have hrb : RdB w.heap.size w (.slice VA bs.length Vc) bs := ⟨VA, Vc, rfl, hlb, hrb'⟩
  obtain ⟨VI, Vd, rfl, hli, hri'⟩ := hri
  have hri : RdI w.heap.size w (.slice VI is.length Vd) is := ⟨VI, Vd, rfl, hli, hri'⟩
  obtain ⟨PA, Pc, rfl, hpp⟩ := hp
  have hp : RdN w.heap.size w (.slice PA ps.length Pc) ps := ⟨PA, Pc, rfl, hpp⟩
  clear hrb' hri' hpp
  obtain ⟨W, hW, hbW, hzW, h0W⟩ := r_one_al w #[.string s, .slice PA ps.length Pc, .int .i64 r, .slice VI is.length Vd, .slice VA bs.length Vc] 26
  have HK : Hid (∀ A, Below W.heap.size W A → Below w.heap.size w A ∧ A.heap[w.heap.size]? = some (.cells #[.string s, .slice PA ps.length Pc, .int .i64 r, .slice VI is.length Vd, .slice VA bs.length Vc] 26 (0, 0)) ∧ RdI w.heap.size A (.slice VI is.length Vd) is ∧ RdB w.heap.size A (.slice VA bs.length Vc) bs) := Lib.hid fun A hA => by
    have hb := hbW.trans (hA.mono hbW.size)
    exact ⟨hb, (hA.block w.heap.size (by omega)).trans h0W, hri.keep hb (kept_below hb), hrb.keep hb (kept_below hb)⟩
  obtain ⟨m, hm⟩ : ∃ m, m = bs.length := ⟨_, rfl⟩
  obtain ⟨p, hpm⟩ : ∃ p, p = is.length := ⟨_, rfl⟩
  have Hm := Lib.hid hm
  have Hpm := Lib.hid hpm
  have hsz : s.size ≤ 140737488355328 := hss
  have hps : (⟨(rowP ps).toArray⟩ : ByteArray).size ≤ 140737488355328 := by rw [ba_size]; have := rowP_len ps hpl.2; have := hpl.1; omega
  have hrs : (⟨(Lib.itoa r).toArray⟩ : ByteArray).size ≤ 22 := by rw [ba_size]; have := Lib.itoa_length_le r hr.1 hr.2; omega
  have hR1 := ip_call W fun A hA => row_b htab _ ps hpl A (hbW.trans (hA.mono hbW.size)) (Nat.le_refl _) (hp.keep (hbW.trans (hA.mono hbW.size)) (kept_below (hbW.trans (hA.mono hbW.size))))
  have hI1 := ip_call W fun A hA => itoa_b htab r hr A (hbW.trans (hA.mono hbW.size))
  have x0 := cell_regrown (Lib.cell_of_heap h0W 0)
  have x1 := cell_regrown (Lib.cell_of_heap h0W 1)
  have x2 := cell_regrown (Lib.cell_of_heap h0W 2)
  obtain ⟨psl, hpsl⟩ : ∃ n, n = ps.length := ⟨_, rfl⟩
  rw [← hm, ← hpm, ← hpsl] at HK
  rw [← hm, ← hpm, ← hpsl] at hW
  rw [← hpsl] at hR1 x1
  rw [← hm] at hlb
  rw [← hpm] at hli
  have HhR : Hid (∀ A, Below W.heap.size W A → Below w.heap.size w A) := Lib.hid fun A hA => hbW.trans (hA.mono hbW.size)
  have HW := Lib.hid hW
  have HLen := Lib.hid hlen
  have Hio := Lib.hid hio
  have Hbo := Lib.hid hbo
  have Htab := Lib.hid htab
  rw [← hpsl, ← hpm, ← hm]
  obtain ⟨RS, hRS⟩ : ∃ R, R = (⟨(rowP ps).toArray⟩ : ByteArray) := ⟨_, rfl⟩
  obtain ⟨IS, hIS⟩ : ∃ R, R = (⟨(Lib.itoa r).toArray⟩ : ByteArray) := ⟨_, rfl⟩
  rw [← hRS] at hps hR1
  rw [← hIS] at hrs hI1
  have HRS := Lib.hid hRS
  have HIS := Lib.hid hIS
  have n1 : ¬ 9223372036854775807 < 5 + s.size := by omega
  have n2 : ¬ 9223372036854775807 < 5 + s.size + RS.size := by omega
  have n3 : ¬ 9223372036854775807 < 5 + s.size + RS.size + 3 := by omega
  have n4 : ¬ 9223372036854775807 < 5 + s.size + RS.size + 3 + IS.size := by omega
  have n5 : ¬ 9223372036854775807 < 5 + s.size + RS.size + 3 + IS.size + 1 := by omega
  clear hsz hps hrs hRS hIS hss hlen
  clear hW hbW hzW h0W hri hrb hp hpl hm hpm hpsl hio hbo htab
  obtain ⟨hd, hhd⟩ : ∃ hd, hd = rHead s.data.toList ps r := ⟨_, rfl⟩
  rw [← hhd]
  have Hhd := Lib.hid hhd
  clear hhd
  go_enter Tryd.func7, Tryd.ntmps7
  go_upto_region 1 with fail
  rw [← HW.out]
  refine wp_region_quiet_below (by kernel_rfl) (by kernel_rfl) ?_
  repeat (go_big_quiet_step (first | exact hR1 _ | exact hI1 _))
  refine wpQuiet_nil ?_
  intro X hw'
  obtain ⟨⟨dq, osq⟩, hw''⟩ := hw'
  have HX : Hid (Below W.heap.size W X) := Lib.hid (by rw [hw'']; exact below_regrown W dq osq)
  clear hw'' hR1 hI1 x0 x1 x2
  -- LOOPS
  obtain ⟨T0, hT0⟩ : ∃ T, T = ((⟨#[102, 117, 110, 99, 32]⟩ : ByteArray) ++ s ++ RS ++ ⟨#[32, 58, 32]⟩ ++ IS ++ ⟨#[10]⟩) := ⟨_, rfl⟩
  rw [← hT0]
  have hTe : T0 = ⟨(rHead s.data.toList ps r).toArray⟩ := by
    rw [hT0, HRS.out, HIS.out]
    apply ByteArray.ext
    simp [rHead, ByteArray.data_append]
  rw [← Hhd.out] at hTe
  have Hlen : Hid (hd.length + (rBlocks is bs 0).length ≤ 2251799813685248) := Lib.hid (by rw [Hhd.out]; exact HLen.out)
  have HT0 := Lib.hid hTe
  clear hT0 hTe HRS HIS HLen n1 n2 n3 n4 n5 hr
  go_upto_block 0 with fail
  go_wp2_with fail
  go_loopw [3, 4] (fun u3 u4 wr => ∃ (i : Nat) (T : ByteArray), i ≤ m ∧ u4 = .int .i64 i ∧ u3 = .string T ∧ Hid (T = ⟨(hd ++ rBlocks is (bs.take i) 0).toArray⟩) ∧ Hid (Below W.heap.size W wr)) (fun _ u4 _ => m - (intOf u4).toNat)
  case atStart => exact ⟨0, T0, Nat.zero_le _, rfl, rfl, Lib.hid (by rw [HT0.out]; simp [rBlocks]), HX⟩
  case round =>
    clear HT0 HX
    obtain ⟨i, T, hi, rfl, rfl, HT, HB⟩ := hrel
    obtain ⟨C, hC⟩ : ∃ C, C = wr := ⟨_, rfl⟩
    rw [← hC] at HB ⊢
    clear hC
    obtain ⟨hCw, hq, hCi, hCb⟩ := HK.out C HB.out
    obtain ⟨f0, f1, f2, f3, f4, -⟩ := cells5 hq
    by_cases hlt : i < m
    · have hil : i < bs.length := by rw [← Hm.out]; exact hlt
      obtain ⟨A, c, hv, -, hrr⟩ := hCb
      obtain ⟨b, o, ob, hA, hob, -, hc⟩ := hrr (by rw [← Hm.out]; omega)
      have hva : VA = some ⟨b, o, none⟩ := by injection hv with e1; rw [e1, hA]
      subst hva
      obtain ⟨lv, qv, tv, c0, c1, c2, c3, c4, r1, r2, r3⟩ := hc i bs[i] (List.getElem?_eq_getElem hil)
      have hd' := Hbo.out bs[i] (List.getElem_mem hil)
      have hS := rBlocks_succ is bs i hil
      have hsp : (rBlocks is (bs.take (i + 1)) 0).length ≤ (rBlocks is bs 0).length := rBlocks_split is bs (i + 1)
      obtain ⟨d, hdd⟩ : ∃ d, d = bs[i] := ⟨_, rfl⟩
      rw [← hdd] at c2 c3 r1 r2 r3 hd' hS
      have hTsz : T.size = hd.length + (rBlocks is (bs.take i) 0).length := by rw [HT.out, ba_size, List.length_append]
      have hbk : T.size + (rBlock is i d).length ≤ 2251799813685248 := by
        have := Hlen.out
        rw [hS, List.length_append] at hsp
        omega
      obtain ⟨LA, Lc, rfl, -⟩ := id r1
      obtain ⟨QA, Qc, rfl, -⟩ := id r2
      obtain ⟨TA, Tc, rfl, -⟩ := id r3
      obtain ⟨Y, hY, hbY, hzY, h0Y⟩ := r_one_al C #[.slice LA d.list.length Lc, .slice QA d.preds.length Qc, .int .i64 d.kind, .int .i64 d.arg, .slice TA d.to_.length Tc] 35
      have hYW : Below W.heap.size W Y := HB.out.trans (hbY.mono HB.out.size)
      have hYw : Below w.heap.size w Y := HhR.out Y hYW
      have hCs : w.heap.size ≤ C.heap.size := hCw.size
      have HD := Lib.hid hd'
      have HS := Lib.hid hS
      have Hbk := Lib.hid hbk
      have HY := Lib.hid hY
      have HYW := Lib.hid hYW
      have HYK : Hid (∀ A, Below Y.heap.size Y A → Below W.heap.size W A ∧ Below w.heap.size w A ∧ A.heap[C.heap.size]? = some (.cells #[.slice LA d.list.length Lc, .slice QA d.preds.length Qc, .int .i64 d.kind, .int .i64 d.arg, .slice TA d.to_.length Tc] 35 (0, 0)) ∧ RdN w.heap.size A (.slice LA d.list.length Lc) d.list ∧ RdN w.heap.size A (.slice QA d.preds.length Qc) d.preds ∧ RdN w.heap.size A (.slice TA d.to_.length Tc) d.to_) := Lib.hid fun A hA => by
        have h1 : Below C.heap.size C A := hbY.trans (hA.mono hbY.size)
        have h2 : Below w.heap.size C A := h1.mono hCs
        have k := kept_below (T := 5) h1
        exact ⟨hYW.trans (hA.mono hYW.size), hYw.trans (hA.mono hYw.size), (hA.block C.heap.size (by omega)).trans h0Y, r1.keep h2 k, r2.keep h2 k, r3.keep h2 k⟩
      have hR := ip_call Y fun A hA => row_b Htab.out _ d.preds HD.out.2.1 A (HYK.out A hA).2.1 (Nat.le_refl _) (HYK.out A hA).2.2.2.2.1
      have hib : InR (i : Int) := by unfold InR; omega
      have hI := ip_call Y fun A hA => itoa_b Htab.out (i : Int) hib A (HYK.out A hA).2.1
      obtain ⟨PS, hPS⟩ : ∃ R, R = (⟨(rowP d.preds).toArray⟩ : ByteArray) := ⟨_, rfl⟩
      obtain ⟨IS, hIS⟩ : ∃ R, R = (⟨(Lib.itoa (i : Int)).toArray⟩ : ByteArray) := ⟨_, rfl⟩
      have zP : PS.size = (rowP d.preds).length := by rw [hPS, ba_size]
      have zI : IS.size = (Lib.itoa (i : Int)).length := by rw [hIS, ba_size]
      have hbg : T.size + (6 + IS.size + 5 + PS.size + 1) ≤ 2251799813685248 := by
        have h := hbk
        unfold rBlock rBeg at h
        simp only [List.length_append, List.length_cons, List.length_nil] at h
        omega
      rw [← hPS] at hR
      rw [← hIS] at hI
      have HPS := Lib.hid hPS
      have HIS := Lib.hid hIS
      have v1 := cell_regrown (Lib.cell_of_heap h0Y 1)
      clear hv hrr hA hob hc hd' hS hsp hdd hTsz hbk r1 r2 r3 hY hbY hYW hYw hCs hPS hIS zP zI hib hq hCi hCw
      have n0 : ¬ 9223372036854775807 < 6 + IS.size := by omega
      have n1 : ¬ 9223372036854775807 < 6 + IS.size + 5 := by omega
      have n2 : ¬ 9223372036854775807 < 6 + IS.size + 5 + PS.size := by omega
      have n3 : ¬ 9223372036854775807 < 6 + IS.size + 5 + PS.size + 1 := by omega
      have n4 : ¬ 9223372036854775807 < T.size + (6 + IS.size + 5 + PS.size + 1) := by omega
      clear hbg h0Y hzY hil
      go_upto_region 6 with fail
      rw [← HY.out]
      clear c0 c1 c2 c3 c4 f0 f1 f2 f3 f4
      refine wp_region_quiet_below (by kernel_rfl) (by kernel_rfl) ?_
      repeat (go_big_quiet_step (first | exact hR _ | exact hI _))
      refine wpQuiet_nil ?_
      intro X hw'
      obtain ⟨⟨dq, osq⟩, hw''⟩ := hw'
      have HX : Hid (Below Y.heap.size Y X) := Lib.hid (by rw [hw'']; exact below_regrown Y dq osq)
      clear hw'' hR hI v1 n0 n1 n2 n3 n4
      obtain ⟨T1, hT1⟩ : ∃ R, R = (T ++ ((⟨#[98, 108, 111, 99, 107, 32]⟩ : ByteArray) ++ IS ++ ⟨#[32, 102, 114, 111, 109]⟩ ++ PS ++ ⟨#[10]⟩)) := ⟨_, rfl⟩
      rw [← hT1]
      have HT1 : Hid (T1 = ⟨(hd ++ rBlocks is (bs.take i) 0 ++ rBeg i d).toArray⟩) := Lib.hid (by
        rw [hT1, HT.out, HPS.out, HIS.out]
        apply ByteArray.ext
        simp [rBeg, ByteArray.data_append])
      clear hT1
      obtain ⟨bt, hbt⟩ : ∃ bt, bt = hd ++ rBlocks is (bs.take i) 0 ++ rBeg i d := ⟨_, rfl⟩
      rw [← hbt] at HT1
      have hbz : bt.length + (rLines is d.list).length + (rEnd d).length ≤ 2251799813685248 := by
        have h := Hbk.out
        rw [HT.out, ba_size] at h
        unfold rBlock at h
        rw [hbt]
        simp only [List.length_append] at h ⊢
        omega
      have Hbz := Lib.hid hbz
      have Hbt := Lib.hid hbt
      obtain ⟨ln, hln⟩ : ∃ ln, ln = d.list.length := ⟨_, rfl⟩
      have Hln := Lib.hid hln
      have hlnb : ln ≤ 1048576 := by rw [hln]; exact HD.out.1.1
      rw [← hln] at HYK
      clear hbt hbz hln HT Hbk HPS HIS
      go_upto_block 2 with fail
      go_wp2_with fail
      go_loopw [3, 6] (fun u3 u6 wr => ∃ (j : Nat) (T : ByteArray), j ≤ ln ∧ u6 = .int .i64 j ∧ u3 = .string T ∧ Hid (T = ⟨(bt ++ rLines is (d.list.take j)).toArray⟩) ∧ Hid (Below Y.heap.size Y wr)) (fun _ u6 _ => ln - (intOf u6).toNat)
      case atStart => exact ⟨0, T1, Nat.zero_le _, rfl, rfl, Lib.hid (by rw [HT1.out]; simp [rLines]), HX⟩
      case round =>
        clear HT1 HX
        obtain ⟨j, T2, hj, rfl, rfl, HT2, HB2⟩ := hrel
        obtain ⟨E, hE⟩ : ∃ E, E = wr := ⟨_, rfl⟩
        rw [← hE] at HB2 ⊢
        clear hE
        obtain ⟨hEW, hEw, gq, gl, gp, gt⟩ := HYK.out E HB2.out
        obtain ⟨-, hq2, hEi, -⟩ := HK.out E hEW
        obtain ⟨f0, f1, f2, f3, f4, -⟩ := cells5 hq2
        obtain ⟨g0, g1, g2, g3, g4, -⟩ := cells5 gq
        have hT2 : T2.size = bt.length + (rLines is (d.list.take j)).length := by rw [HT2.out, ba_size, List.length_append]
        by_cases hlt2 : j < ln
        · have hjl : j < d.list.length := by rw [← Hln.out]; exact hlt2
          obtain ⟨A', c', hv', hr'⟩ := gl
          obtain ⟨b', o', ob', hA', hob', -, hc'⟩ := hr' (by rw [← Hln.out]; omega)
          have hva' : LA = some ⟨b', o', none⟩ := by injection hv' with e1; rw [e1, hA']
          subst hva'
          have hcy := hc' j d.list[j] (List.getElem?_eq_getElem hjl)
          have hSl := rLines_succ is d.list j hjl
          have hsl := rLines_split is d.list (j + 1)
          have hyin := HD.out.1.2 d.list[j] (List.getElem_mem hjl)
          obtain ⟨y, hy⟩ : ∃ y, y = d.list[j] := ⟨_, rfl⟩
          rw [← hy] at hcy hSl hyin
          have hlz : T2.size + (rLineOf is y).length ≤ 2251799813685248 := by
            have h := Hbz.out
            rw [hSl, List.length_append] at hsl
            omega
          have HSl := Lib.hid hSl
          by_cases hin : 0 ≤ y ∧ y < (p : Int)
          · obtain ⟨k, rfl⟩ : ∃ k : Nat, y = k := ⟨y.toNat, by omega⟩
            have hkl : k < is.length := by rw [← Hpm.out]; omega
            have hkp : k < p := by omega
            obtain ⟨A3, c3, hv3, -, hr3⟩ := hEi
            obtain ⟨b3, o3, ob3, hA3, hob3, -, hc3⟩ := hr3 (by rw [← Hpm.out]; omega)
            have hva3 : VI = some ⟨b3, o3, none⟩ := by injection hv3 with e1; rw [e1, hA3]
            subst hva3
            obtain ⟨va, k0, k1, k2, k3, k4, k5⟩ := hc3 k is[k] (List.getElem?_eq_getElem hkl)
            obtain ⟨hdi, hda⟩ := Hio.out is[k] (List.getElem_mem hkl)
            have hline : rLineOf is (k : Int) = rLine k is[k] := by
              unfold rLineOf
              rw [if_pos (by rw [← Hpm.out]; exact hin), Int.toNat_natCast, List.getElem?_eq_getElem hkl]
            obtain ⟨x, hx⟩ : ∃ x, x = is[k] := ⟨_, rfl⟩
            rw [← hx] at k0 k1 k3 k4 k5 hdi hda hline
            obtain ⟨XA, Xc, rfl, -⟩ := id k5
            obtain ⟨Z, hZ, hbZ, hzZ, h0Z⟩ := r_one_al E #[.int .i64 x.op, .int .i64 x.ty, .slice XA x.args.length Xc, .int .i64 x.n, .int .i64 x.tg] 43
            have hEs : w.heap.size ≤ E.heap.size := hEw.size
            have HZb : Hid (∀ A, Below Z.heap.size Z A → Below w.heap.size w A ∧ Below Y.heap.size Y A ∧ RdN w.heap.size A (.slice XA x.args.length Xc) x.args) := Lib.hid fun A hA => by
              have h1 : Below E.heap.size E A := hbZ.trans (hA.mono hbZ.size)
              exact ⟨hEw.trans (h1.mono hEs), HB2.out.trans (h1.mono HB2.out.size), k5.keep (h1.mono hEs) (kept_below h1)⟩
            have hR := ip_call Z fun A hA => row_b Htab.out _ x.args ⟨hda, hdi.2.2.1⟩ A (HZb.out A hA).1 (Nat.le_refl _) (HZb.out A hA).2.2
            have hI1 := ip_call Z fun A hA => itoa_b Htab.out (k : Int) hyin A (HZb.out A hA).1
            have hI2 := ip_call Z fun A hA => itoa_b Htab.out x.op hdi.1 A (HZb.out A hA).1
            have hI3 := ip_call Z fun A hA => itoa_b Htab.out x.ty hdi.2.1 A (HZb.out A hA).1
            have hI4 := ip_call Z fun A hA => itoa_b Htab.out x.tg hdi.2.2.2.2 A (HZb.out A hA).1
            have hFm := ip_call Z fun A hA => fmt_b Htab.out x.n hdi.2.2.2.1 A (HZb.out A hA).1
            obtain ⟨RS2, hRS2⟩ : ∃ R, R = (⟨(rowP x.args).toArray⟩ : ByteArray) := ⟨_, rfl⟩
            obtain ⟨S1, hS1⟩ : ∃ R, R = (⟨(Lib.itoa (k : Int)).toArray⟩ : ByteArray) := ⟨_, rfl⟩
            obtain ⟨S2, hS2⟩ : ∃ R, R = (⟨(Lib.itoa x.op).toArray⟩ : ByteArray) := ⟨_, rfl⟩
            obtain ⟨S3, hS3⟩ : ∃ R, R = (⟨(Lib.itoa x.ty).toArray⟩ : ByteArray) := ⟨_, rfl⟩
            obtain ⟨S4, hS4⟩ : ∃ R, R = (⟨(Lib.itoa x.tg).toArray⟩ : ByteArray) := ⟨_, rfl⟩
            obtain ⟨S5, hS5⟩ : ∃ R, R = (⟨(Lib.itoa x.n).toArray⟩ : ByteArray) := ⟨_, rfl⟩
            have hall : T2.size + (2 + S1.size + 3 + S2.size + RS2.size + 3 + S3.size + 1 + S5.size + 1 + S4.size + 1) ≤ 2251799813685248 := by
              have h := hlz
              rw [hline] at h
              unfold rLine at h
              rw [hRS2, hS1, hS2, hS3, hS4, hS5]
              simp only [ba_size, List.length_append, List.length_cons, List.length_nil] at h ⊢
              omega
            have hnew : T2 ++ ((⟨#[32, 32]⟩ : ByteArray) ++ S1 ++ ⟨#[32, 61, 32]⟩ ++ S2 ++ RS2 ++ ⟨#[32, 59, 32]⟩ ++ S3 ++ ⟨#[32]⟩ ++ S5 ++ ⟨#[32]⟩ ++ S4 ++ ⟨#[10]⟩) = ⟨(bt ++ rLines is (d.list.take (j + 1))).toArray⟩ := by
              rw [HSl.out, hline, HT2.out, hRS2, hS1, hS2, hS3, hS4, hS5]
              apply ByteArray.ext
              simp [rLine, ByteArray.data_append]
            have Hnew := Lib.hid hnew
            rw [← hRS2] at hR
            rw [← hS1] at hI1
            rw [← hS2] at hI2
            rw [← hS3] at hI3
            rw [← hS4] at hI4
            rw [← hS5] at hFm
            have z0 := cell_regrown (Lib.cell_of_heap h0Z 0)
            have z1 := cell_regrown (Lib.cell_of_heap h0Z 1)
            have z2 := cell_regrown (Lib.cell_of_heap h0Z 2)
            have z3 := cell_regrown (Lib.cell_of_heap h0Z 3)
            have z4 := cell_regrown (Lib.cell_of_heap h0Z 4)
            have d1 : decide ((k : Int) ≥ 0) = true := decide_eq_true (by omega)
            have d2 : decide ((k : Int) < (p : Int)) = true := decide_eq_true (by omega)
            have HZ := Lib.hid hZ
            clear hnew hRS2 hS1 hS2 hS3 hS4 hS5 hline hlz hSl hsl hyin hy hjl hv' hr' hA' hob' hc' hkl hv3 hr3 hA3 hob3 hc3 hdi hda hx k5 hZ hbZ hzZ h0Z hEs hT2 gq gp gt hq2 hEW hEw HSl
            go_upto_region 12 with fail
            go_upto_region 13 with fail
            rw [← HZ.out]
            clear d1 d2 k0 k1 k2 k3 k4 f0 f1 f2 f3 f4 g0 g1 g2 g3 g4 hcy
            have n0 : ¬ 9223372036854775807 < 2 + S1.size := by omega
            have n1 : ¬ 9223372036854775807 < 2 + S1.size + 3 := by omega
            have n2 : ¬ 9223372036854775807 < 2 + S1.size + 3 + S2.size := by omega
            have n3 : ¬ 9223372036854775807 < 2 + S1.size + 3 + S2.size + RS2.size := by omega
            have n4 : ¬ 9223372036854775807 < 2 + S1.size + 3 + S2.size + RS2.size + 3 := by omega
            have n5 : ¬ 9223372036854775807 < 2 + S1.size + 3 + S2.size + RS2.size + 3 + S3.size := by omega
            have n6 : ¬ 9223372036854775807 < 2 + S1.size + 3 + S2.size + RS2.size + 3 + S3.size + 1 := by omega
            have n7 : ¬ 9223372036854775807 < 2 + S1.size + 3 + S2.size + RS2.size + 3 + S3.size + 1 + S5.size := by omega
            have n8 : ¬ 9223372036854775807 < 2 + S1.size + 3 + S2.size + RS2.size + 3 + S3.size + 1 + S5.size + 1 := by omega
            have n9 : ¬ 9223372036854775807 < 2 + S1.size + 3 + S2.size + RS2.size + 3 + S3.size + 1 + S5.size + 1 + S4.size := by omega
            have n10 : ¬ 9223372036854775807 < 2 + S1.size + 3 + S2.size + RS2.size + 3 + S3.size + 1 + S5.size + 1 + S4.size + 1 := by omega
            have n11 : ¬ 9223372036854775807 < T2.size + (2 + S1.size + 3 + S2.size + RS2.size + 3 + S3.size + 1 + S5.size + 1 + S4.size + 1) := by omega
            clear hall hin
            refine wp_region_quiet_below (by kernel_rfl) (by kernel_rfl) ?_
            repeat (go_big_quiet_step (first | exact hR _ | exact hI1 _ | exact hI2 _ | exact hI3 _ | exact hI4 _ | exact hFm _))
            refine wpQuiet_nil ?_
            intro X2 hw'
            obtain ⟨⟨dq2, osq2⟩, hw''⟩ := hw'
            have HX2 : Hid (Below Y.heap.size Y X2) := Lib.hid (by rw [hw'']; exact (HZb.out _ (below_regrown Z dq2 osq2)).2.1)
            clear hw'' hR hI1 hI2 hI3 hI4 hFm z0 z1 z2 z3 z4 n0 n1 n2 n3 n4 n5 n6 n7 n8 n9 n10 n11
            go_wp2_with fail
            go_roundw
            case rel => exact ⟨j + 1, _, by omega, by go_num, rfl, Hnew, HX2⟩
            case measure => simp [intOf]; omega
          · have hnil : rLineOf is y = [] := by
              unfold rLineOf
              rw [if_neg (by rw [← Hpm.out]; exact hin)]
            have HT3 : Hid (T2 = ⟨(bt ++ rLines is (d.list.take (j + 1))).toArray⟩) := Lib.hid (by rw [HSl.out, hnil, HT2.out, List.append_nil])
            by_cases hy0 : 0 ≤ y
            · have d1 : decide (y ≥ 0) = true := decide_eq_true (by omega)
              have d2 : decide (y < (p : Int)) = false := decide_eq_false (by omega)
              clear hnil hlz hSl hsl hyin hy hjl hv' hr' hA' hob' hc' hT2 gq gp gt hq2 hEW hEw HSl hin hy0 hEi
              go_wp2_with fail
              go_roundw
              case rel => exact ⟨j + 1, _, by omega, by go_num, rfl, HT3, HB2⟩
              case measure => simp [intOf]; omega
            · have d1 : decide (y ≥ 0) = false := decide_eq_false (by omega)
              clear hnil hlz hSl hsl hyin hy hjl hv' hr' hA' hob' hc' hT2 gq gp gt hq2 hEW hEw HSl hin hy0 hEi
              go_wp2_with fail
              go_roundw
              case rel => exact ⟨j + 1, _, by omega, by go_num, rfl, HT3, HB2⟩
              case measure => simp [intOf]; omega
        · obtain rfl : j = ln := by omega
          have hT2e : T2 = ⟨(bt ++ rLines is d.list).toArray⟩ := by rw [HT2.out, Hln.out, List.take_length]
          have hR := ip_call E fun A hA => row_b Htab.out _ d.to_ HD.out.2.2.2.2 A (HYK.out A (HB2.out.trans (hA.mono HB2.out.size))).2.1 (Nat.le_refl _) (HYK.out A (HB2.out.trans (hA.mono HB2.out.size))).2.2.2.2.2
          have hI1 := ip_call E fun A hA => itoa_b Htab.out d.kind HD.out.2.2.1 A (HYK.out A (HB2.out.trans (hA.mono HB2.out.size))).2.1
          have hI2 := ip_call E fun A hA => itoa_b Htab.out d.arg HD.out.2.2.2.1 A (HYK.out A (HB2.out.trans (hA.mono HB2.out.size))).2.1
          obtain ⟨RS2, hRS2⟩ : ∃ R, R = (⟨(rowP d.to_).toArray⟩ : ByteArray) := ⟨_, rfl⟩
          obtain ⟨S1, hS1⟩ : ∃ R, R = (⟨(Lib.itoa d.kind).toArray⟩ : ByteArray) := ⟨_, rfl⟩
          obtain ⟨S2, hS2⟩ : ∃ R, R = (⟨(Lib.itoa d.arg).toArray⟩ : ByteArray) := ⟨_, rfl⟩
          have hall : T2.size + (6 + S1.size + 1 + S2.size + 3 + RS2.size + 1) ≤ 2251799813685248 := by
            have h := Hbz.out
            unfold rEnd at h
            rw [hT2e, hRS2, hS1, hS2]
            simp only [ba_size, List.length_append, List.length_cons, List.length_nil] at h ⊢
            omega
          have hnew : T2 ++ ((⟨#[32, 32, 101, 110, 100, 32]⟩ : ByteArray) ++ S1 ++ ⟨#[32]⟩ ++ S2 ++ ⟨#[32, 116, 111]⟩ ++ RS2 ++ ⟨#[10]⟩) = ⟨(hd ++ rBlocks is (bs.take (i + 1)) 0).toArray⟩ := by
            rw [HS.out, hT2e, Hbt.out, hRS2, hS1, hS2]
            unfold rBlock
            apply ByteArray.ext
            simp [rEnd, ByteArray.data_append]
          have Hnew := Lib.hid hnew
          rw [← hRS2] at hR
          rw [← hS1] at hI1
          rw [← hS2] at hI2
          have z2 := cell_regrown g2
          have z3 := cell_regrown g3
          have z4 := cell_regrown g4
          have HEW := Lib.hid hEW
          clear hnew hRS2 hS1 hS2 hT2 hT2e gq gl gp gt hq2 hEW hEw hEi
          go_upto_region 14 with fail
          clear f0 f1 f2 f3 f4 g0 g1 g2 g3 g4
          have n0 : ¬ 9223372036854775807 < 6 + S1.size := by omega
          have n1 : ¬ 9223372036854775807 < 6 + S1.size + 1 := by omega
          have n2 : ¬ 9223372036854775807 < 6 + S1.size + 1 + S2.size := by omega
          have n3 : ¬ 9223372036854775807 < 6 + S1.size + 1 + S2.size + 3 := by omega
          have n4 : ¬ 9223372036854775807 < 6 + S1.size + 1 + S2.size + 3 + RS2.size := by omega
          have n5 : ¬ 9223372036854775807 < 6 + S1.size + 1 + S2.size + 3 + RS2.size + 1 := by omega
          have n6 : ¬ 9223372036854775807 < T2.size + (6 + S1.size + 1 + S2.size + 3 + RS2.size + 1) := by omega
          clear hall
          refine wp_region_quiet_below (by kernel_rfl) (by kernel_rfl) ?_
          repeat (go_big_quiet_step (first | exact hR _ | exact hI1 _ | exact hI2 _))
          refine wpQuiet_nil ?_
          intro X2 hw'
          obtain ⟨⟨dq2, osq2⟩, hw''⟩ := hw'
          have HX2 : Hid (Below W.heap.size W X2) := Lib.hid (by rw [hw'']; exact HEW.out.trans ((below_regrown E dq2 osq2).mono HEW.out.size))
          clear hw'' hR hI1 hI2 z2 z3 z4 n0 n1 n2 n3 n4 n5 n6
          go_wp2_with fail
          go_roundw
          case rel => exact ⟨i + 1, _, by omega, by go_num, rfl, Hnew, HX2⟩
          case measure => simp [intOf]; omega
    · obtain rfl : i = m := by omega
      go_wp2_with fail
      go_ret
      refine ⟨?_, hCw⟩
      rw [HT.out, Hm.out, List.take_length]
      rfl
end Go.Proofs.YtglobeajmdieaaaDoor
