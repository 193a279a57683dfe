/-
  A program, printed.
  What 'awake' asks, over plain data.
  The fourth law's 'awake'.
-/
import Derived.Test.YtiadbeglhnocoaaGreatDoorJb35
import Derived.Test.YtiadbeglhnocoaaGreatDoorJb44
import Derived.Deep.RegionHeld3
import Derived.Outline
namespace Go.Proofs.YtiadbeglhnocoaaGreatDoor
set_option linter.unusedVariables false
set_option linter.unusedSimpArgs false
open Go.RowKit

/-- A function that can be printed. -/
def goodF (f : Fu) : Prop := goodSs f.body ∧ f.body.length ≤ 1099511627776 ∧ f.params.length ≤ 1099511627776
theorem prT_snoc (l : List Fu) (k : Nat) (hk : k < l.length) : prT (l.take (k + 1)) = prT (l.take k) ++ prF l[k] := by
  have h : ∀ (r : List Fu) (x : Fu), prT (r ++ [x]) = prT r ++ prF x := fun r x => by
    induction r with
    | nil => simp [prT]
    | cons y r ih => simp only [List.cons_append, prT, ih, List.append_assoc]
  rw [List.take_succ_eq_append_getElem hk, h]
theorem prT_take_le (l : List Fu) (k : Nat) : (prT (l.take k)).length ≤ (prT l).length := by
  induction l generalizing k with
  | nil => simp
  | cons x r ih =>
    cases k with
    | zero => simp [prT]
    | succ k =>
      have := ih k
      simp only [List.take_succ_cons, prT, List.length_append]
      omega
set_option maxRecDepth 100000 in
set_option maxHeartbeats 8000000 in
theorem Print_any (fs : List Fu) (A : Option Addr) (c : Nat) (w : World) (hA : RdFs w (· < w.heap.size) A fs) (hg : ∀ f ∈ fs, goodF f) (hn : fs.length ≤ 1099511627776) (hlen : (prT fs).length ≤ 1099511627776) (h0 : prT fs ≠ []) :
    Calls Tryz.prog 7 #[.agg #[.slice A fs.length c]] w fun e w' => e = .returned (.string ⟨(prT fs).toArray⟩) ∧ Below w.heap.size w w' := by
  obtain ⟨n, hnn⟩ : ∃ n, n = fs.length := ⟨_, rfl⟩
  have Hn := Lib.hid hnn
  rw [← hnn] at hn ⊢
  obtain ⟨w1, hw1, hb1, hz1, hc1⟩ := t_one_al w #[.slice A n c] 24
  obtain ⟨w2, hw2, hb2, hz2, hc2⟩ := t_one_al w1 #[.pointer none, .slice none 0 0] 45
  have hb12 : Below w.heap.size w w2 := hb1.trans (hb2.mono (by omega))
  have H := Lib.hid (isPr_new (B := w.heap.size) hc2 (by omega))
  have hct := (hb2.block w.heap.size (by omega)).trans hc1
  have y0 : w2.cell? ⟨w.heap.size, 0, none⟩ = some (.slice A n c) := Lib.cell_of_heap hct 0
  have HA := Lib.hid (RdFs.keep (w' := w2) (fun q hq => hb12.cell hq) hA)
  have Hg := Lib.hid hg
  have Hlen := Lib.hid hlen
  have H0 := Lib.hid h0
  have Hb12 := Lib.hid hb12
  have hBw : w.heap.size ≤ w2.heap.size := by omega
  clear hA hg hlen h0 hnn hb1 hb2 hz1 hz2 hc1 hc2 hb12 hct
  go_enter Tryz.func7, Tryz.ntmps7
  go_upto_region 1 with fail
  rw [← hw1]
  clear hw1
  go_upto_region 2 with fail
  rw [← hw2]
  clear hw2
  go_wp2
  go_loopw [9] (fun i wr => ∃ k : Nat, k ≤ n ∧ i = .int .i64 k ∧ Hid (IsPr w.heap.size w1.heap.size (Lib.byteCells (prT (fs.take k))) wr ∧ Below w.heap.size w2 wr ∧ KeepT w2 wr)) (fun i _ => n - (intOf i).toNat)
  case atStart => exact ⟨0, Nat.zero_le _, rfl, Lib.hid ⟨by simpa [prT, Lib.byteCells] using H.out, Below.refl _ _, KeepT.refl _⟩⟩
  case round =>
    obtain ⟨k, hk, rfl, HR⟩ := hrel
    have hz : w.heap.size ≤ wr.heap.size := Nat.le_trans hBw HR.out.2.1.size
    by_cases hlt : k < n
    · have hkl : k < fs.length := by rw [← Hn.out]; exact hlt
      obtain ⟨f, hf⟩ : ∃ f, fs[k]? = some f := ⟨_, List.getElem?_eq_getElem hkl⟩
      have heq : fs[k] = f := by rw [List.getElem?_eq_getElem hkl] at hf; exact Option.some.inj hf
      have hmem : f ∈ fs := List.mem_of_getElem? hf
      obtain ⟨g, q, rfl, hgq, hF⟩ := HA.out (by omega)
      obtain ⟨x0, x1, ⟨PA, pc, x2, hPA⟩, x3, ⟨BA, bc, x4, hBA⟩, x5⟩ := hF k f hf
      have hgf := Hg.out f hmem
      have hjt := prT_snoc fs k hkl
      have hjl := prT_take_le fs (k + 1)
      rw [heq] at hjt
      obtain ⟨nm, at_, ps, ret, body, vars⟩ := f
      dsimp only [goodF] at x0 x1 x2 x3 x4 x5 hPA hBA hgf
      rw [Nat.add_zero] at x0
      have up : ∀ j u, w2.cell? ⟨g, j, none⟩ = some u → wr.cell? ⟨g, j, none⟩ = some u := fun j u e => (HR.out.2.1.cell (p := ⟨g, j, none⟩) hgq).trans e
      replace x0 := up _ _ x0
      replace x1 := up _ _ x1
      replace x2 := up _ _ x2
      replace x3 := up _ _ x3
      replace x4 := up _ _ x4
      replace x5 := up _ _ x5
      obtain ⟨wb, hwb, hbb, hzb, hcb⟩ := t_one_al wr #[.string nm, .int .i64 at_, .slice PA ps.length pc, .int .i64 ret, .slice BA body.length bc, .int .i64 vars] 49
      have hpb := HR.out.1.below hbb
      have hbbB : Below w.heap.size w2 wb := HR.out.2.1.trans (hbb.mono hz)
      have hkb : KeepT w2 wb := HR.out.2.2.trans (KeepT.of_below hbb)
      have hX1 := fnPr_any w.heap.size w1.heap.size (prT (fs.take k)) nm at_ ps ret body vars PA pc BA bc wb hpb (RdAs.keep (w' := wb) (fun p hp => hbbB.cell hp) hPA) (RdSs.keep (w' := wb) (fun p hp => hbbB.cell hp) _ _ _ hBA) hgf.1 hgf.2.1 hgf.2.2 (by have := Hlen.out; rw [hjt, List.length_append] at hjl; omega) (by omega)
      obtain ⟨pe, hpe⟩ : ∃ pe, pe = prF ⟨nm, at_, ps, ret, body, vars⟩ := ⟨_, rfl⟩
      rw [← hpe] at hX1 hjt
      rw [← hjt] at hX1
      obtain ⟨y0', y1, y2, y3, y4, y5, yf⟩ := cells6 hcb
      have HB2 := Lib.hid (show Below w.heap.size w2 wb ∧ KeepT w2 wb from ⟨hbbB, hkb⟩)
      obtain ⟨L, hL⟩ : ∃ L, L = prT (fs.take (k + 1)) := ⟨_, rfl⟩
      rw [← hL] at hX1
      have HL := Lib.hid hL
      clear hf heq hmem hF hjt hjl hpe hPA hBA up hpb hbbB hkb hcb hbb hzb hgf hL
      by_cases hk0 : k = 0
      · subst hk0
        rw [Nat.zero_mul, Nat.add_zero] at x0 x1 x2 x3 x4 x5
        go_upto_region 5 with fail
        rw [← hwb]
        clear hwb x0 x1 x2 x3 x4 x5
        go_wp2_with (go_at_call 11; refine hX1.mono ?_; rintro e w3 ⟨rfl, hp, hb, hkp⟩; have HP := Lib.hid (show IsPr w.heap.size w1.heap.size (Lib.byteCells (prT (fs.take 1))) w3 ∧ Below w.heap.size w2 w3 ∧ KeepT w2 w3 from ⟨by rw [← HL.out]; exact hp, HB2.out.1.trans hb, HB2.out.2.trans hkp⟩); clear hp hb hkp hX1)
        go_roundw
        case rel => exact ⟨1, by omega, by go_num, HP⟩
        case measure => simp [intOf]; omega
      · go_upto_region 5 with fail
        rw [← hwb]
        clear hwb x0 x1 x2 x3 x4 x5
        go_wp2_with (go_at_call 11; refine hX1.mono ?_; rintro e w3 ⟨rfl, hp, hb, hkp⟩; have HP := Lib.hid (show IsPr w.heap.size w1.heap.size (Lib.byteCells (prT (fs.take (k + 1)))) w3 ∧ Below w.heap.size w2 w3 ∧ KeepT w2 w3 from ⟨by rw [← HL.out]; exact hp, HB2.out.1.trans hb, HB2.out.2.trans hkp⟩); clear hp hb hkp hX1)
        go_roundw
        case rel => exact ⟨k + 1, by omega, by go_num, HP⟩
        case measure => simp [intOf]; omega
    · obtain rfl : k = n := by omega
      have hR := HR.out
      rw [Hn.out, List.take_length] at hR
      have hSt := string_any w.heap.size w1.heap.size (prT fs) wr hR.1 H0.out
      have HB := Lib.hid (Hb12.out.trans hR.2.1)
      clear hR HR
      go_wp2_with (go_at_call 12; refine hSt.mono ?_; rintro e w4 ⟨rfl, hb⟩; have HB4 := Lib.hid (HB.out.trans hb); clear hb hSt)
      go_ret
      exact ⟨rfl, HB4.out⟩
set_option maxRecDepth 100000 in
set_option maxHeartbeats 4000000 in
theorem string_new (b : Nat) (w : World) (hc : w.heap[b]? = some (.cells #[.pointer none, .slice none 0 0] 45 (0, 0))) :
    Calls Tryz.prog 12 #[.pointer (some ⟨b, 0, none⟩)] w fun e w' => e = .returned (.string ⟨#[]⟩) ∧ Below w.heap.size w w' := by
  have hUS : ∀ w, (Builtin.unsafeString_ #[71, 3] 9 #[.pointer none, .int .i64 0]).run Tryz.prog w = .ok (.string ⟨#[]⟩) w := fun w => Lib.run_unsafeString_none w _ _ _ none
  have c1 : w.drew.cell? ⟨b, 1, none⟩ = some (.slice none 0 0) := by
    have : w.drew.heap[b]? = some (.cells #[.pointer none, .slice none 0 0] 45 (0, 0)) := hc
    rw [Lib.cell_of_heap this]; rfl
  have hSD : (Builtin.unsafeSliceData_ #[41] 71 #[.slice none 0 0]).run Tryz.prog w.drew = .ok (.pointer none) w.drew := rfl
  clear hc
  go_enter Tryz.func12, Tryz.ntmps12
  go_wp2
  go_region
  all_goals (go_wp2; go_ret; exact ⟨rfl, Below.drew (Below.refl _ w)⟩)
set_option maxRecDepth 100000 in
set_option maxHeartbeats 8000000 in
theorem Print_none (A : Option Addr) (c : Nat) (w : World) :
    Calls Tryz.prog 7 #[.agg #[.slice A 0 c]] w fun e w' => e = .returned (.string ⟨#[]⟩) ∧ Below w.heap.size w w' := by
  obtain ⟨w1, hw1, hb1, hz1, hc1⟩ := t_one_al w #[.slice A 0 c] 24
  obtain ⟨w2, hw2, hb2, hz2, hc2⟩ := t_one_al w1 #[.pointer none, .slice none 0 0] 45
  have hb12 : Below w.heap.size w w2 := hb1.trans (hb2.mono (by omega))
  have hct := (hb2.block w.heap.size (by omega)).trans hc1
  have y0 : w2.cell? ⟨w.heap.size, 0, none⟩ = some (.slice A 0 c) := Lib.cell_of_heap hct 0
  have hSt := string_new w1.heap.size w2 hc2
  have Hb12 := Lib.hid hb12
  have hBw : w.heap.size ≤ w2.heap.size := by omega
  clear hb1 hb2 hz1 hz2 hc1 hc2 hb12 hct
  go_enter Tryz.func7, Tryz.ntmps7
  go_upto_region 1 with fail
  rw [← hw1]
  clear hw1
  go_upto_region 2 with fail
  rw [← hw2]
  clear hw2
  go_wp2
  go_loopw [9] (fun i wr => i = .int .i64 0 ∧ wr = w2) (fun i _ => 0)
  case atStart => exact ⟨rfl, rfl⟩
  case round =>
    obtain ⟨rfl, rfl⟩ := hrel
    go_wp2_with (go_at_call 12; refine hSt.mono ?_; rintro e w4 ⟨rfl, hb⟩; have HB4 := Lib.hid (Hb12.out.trans (hb.mono hBw)); clear hb hSt)
    go_ret
    exact ⟨rfl, HB4.out⟩
end Go.Proofs.YtiadbeglhnocoaaGreatDoor
namespace Go.Proofs.YtiadbeglhnocoaaGreatDoor
set_option linter.unusedVariables false
set_option linter.unusedSimpArgs false
open Go.RowKit

/-- The text. -/
def awB : ByteArray := ⟨#[102, 110, 32, 109, 97, 105, 110, 40, 41, 58, 32, 105, 110, 116, 32, 123, 32, 114, 101, 116, 117, 114, 110, 32, 49, 32, 43, 32, 50, 32, 42, 32, 51, 59, 32, 125]⟩
/-- The text, printed. -/
def awO : List UInt8 := [102, 110, 32, 109, 97, 105, 110, 40, 41, 58, 32, 105, 110, 116, 32, 123, 10, 9, 114, 101, 116, 117, 114, 110, 32, 40, 49, 32, 43, 32, 40, 50, 32, 42, 32, 51, 41, 41, 59, 10, 125, 10]
def awR : List Tk := (lexS awB.data.toList).1
set_option maxRecDepth 100000 in
theorem aw_lex : lexS awB.data.toList = (awR, none) := by kernel_rfl
def awP : Option (List Fu × PS) := progK 60 [] (begin0 awB awR)
def awL : List Fu := match awP with | some (l, _) => l | none => []
def awS : PS := match awP with | some (_, s) => s | none => begin0 awB awR
set_option maxRecDepth 100000 in
theorem aw_prog : progK 60 [] (begin0 awB awR) = some (awL, awS) := by kernel_rfl
theorem aw_len : awL.length = 1 := by kernel_rfl
theorem aw_fk : (awS.fk != 0) = false := by kernel_rfl
theorem aw_print : prT awL = awO := by kernel_rfl
mutual
def smallEB : Ex → Bool
  | .mk _ _ _ _ _ _ kids => decide (kids.length ≤ 1099511627776) && smallEsB kids
def smallEsB : List Ex → Bool
  | [] => true
  | e :: r => smallEB e && smallEsB r
end
mutual
theorem smallEB_ok : ∀ e : Ex, smallEB e = true → smallE e
  | .mk k a t o n s kids, h => by
    unfold smallEB at h
    unfold smallE
    rw [Bool.and_eq_true, decide_eq_true_eq] at h
    exact ⟨h.1, smallEsB_ok kids h.2⟩
theorem smallEsB_ok : ∀ l : List Ex, smallEsB l = true → smallEs l
  | [], _ => by unfold smallEs; trivial
  | e :: r, h => by
    unfold smallEsB at h
    unfold smallEs
    rw [Bool.and_eq_true] at h
    exact ⟨smallEB_ok e h.1, smallEsB_ok r h.2⟩
end
def goodKB (kids : List Ex) : Bool := smallEsB kids && (decide (kids.length ≤ 1099511627776) && (kids.all (fun e => !(prE e).isEmpty) && (decide ((kidP kids 0).length ≤ 1099511627776) && decide ((kidP kids 1).length ≤ 1099511627776))))
theorem goodKB_ok {kids : List Ex} (h : goodKB kids = true) : goodK kids := by
  unfold goodKB at h
  simp only [Bool.and_eq_true, decide_eq_true_eq, List.all_eq_true] at h
  refine ⟨smallEsB_ok _ h.1, h.2.1, fun e he hn => ?_, h.2.2.2.1, h.2.2.2.2⟩
  have := h.2.2.1 e he
  rw [hn] at this
  simp at this
mutual
def goodSB : St → Bool
  | .mk k _ _ _ _ kids body els => (decide (1 ≤ k) && decide (k ≤ 11)) && (goodKB kids && (decide (body.length ≤ 1099511627776) && (decide (els.length ≤ 1099511627776) && (goodSsB body && goodSsB els))))
def goodSsB : List St → Bool
  | [] => true
  | s :: r => goodSB s && goodSsB r
end
mutual
theorem goodSB_ok : ∀ s : St, goodSB s = true → goodS s
  | .mk k a n z p kids body els, h => by
    unfold goodSB at h
    unfold goodS
    simp only [Bool.and_eq_true, decide_eq_true_eq] at h
    exact ⟨h.1, goodKB_ok h.2.1, h.2.2.1, h.2.2.2.1, goodSsB_ok body h.2.2.2.2.1, goodSsB_ok els h.2.2.2.2.2⟩
theorem goodSsB_ok : ∀ l : List St, goodSsB l = true → goodSs l
  | [], _ => by unfold goodSs; trivial
  | s :: r, h => by
    unfold goodSsB at h
    unfold goodSs
    rw [Bool.and_eq_true] at h
    exact ⟨goodSB_ok s h.1, goodSsB_ok r h.2⟩
end
def goodFB (f : Fu) : Bool := goodSsB f.body && (decide (f.body.length ≤ 1099511627776) && decide (f.params.length ≤ 1099511627776))
theorem goodFB_ok {f : Fu} (h : goodFB f = true) : goodF f := by
  unfold goodFB at h
  simp only [Bool.and_eq_true, decide_eq_true_eq] at h
  exact ⟨goodSsB_ok _ h.1, h.2.1, h.2.2⟩
theorem aw_goodB : awL.all goodFB = true := by kernel_rfl
theorem aw_good : ∀ f ∈ awL, goodF f := fun f hf => goodFB_ok (List.all_eq_true.mp aw_goodB f hf)
end Go.Proofs.YtiadbeglhnocoaaGreatDoor
namespace Go.Proofs.YtiadbeglhnocoaaGreatDoor
set_option linter.unusedVariables false
set_option linter.unusedSimpArgs false
open Go.RowKit

set_option maxRecDepth 100000 in
set_option maxHeartbeats 8000000 in
theorem awake_any (w : World) (hr : Rng w) :
    Calls Tryz.prog 6 #[] w fun e w' => e = .returned (.bool true) ∧ Below w.heap.size w w' := by
  have hP := parse_good awB w (by decide) hr awR aw_lex 60 awL awS (by omega) aw_prog aw_fk
  have hB : awB = ⟨#[102, 110, 32, 109, 97, 105, 110, 40, 41, 58, 32, 105, 110, 116, 32, 123, 32, 114, 101, 116, 117, 114, 110, 32, 49, 32, 43, 32, 50, 32, 42, 32, 51, 59, 32, 125]⟩ := rfl
  rw [hB] at hP
  have hPr := fun A c W (hA : RdFs W (· < W.heap.size) A awL) => Print_any awL A c W hA aw_good (by rw [aw_len]; omega) (by rw [aw_print]; decide) (by rw [aw_print]; decide)
  rw [aw_print, aw_len] at hPr
  have hO : (⟨awO.toArray⟩ : ByteArray) = ⟨#[102, 110, 32, 109, 97, 105, 110, 40, 41, 58, 32, 105, 110, 116, 32, 123, 10, 9, 114, 101, 116, 117, 114, 110, 32, 40, 49, 32, 43, 32, 40, 50, 32, 42, 32, 51, 41, 41, 59, 10, 125, 10]⟩ := rfl
  rw [hO] at hPr
  clear hB hO hr
  go_enter Tryz.func6, Tryz.ntmps6
  go_upto_region 2 with (go_at_call 4; refine hP.mono ?_; rintro e w1 ⟨A, c, rfl, hA, hb⟩; rw [aw_len]; have HA := Lib.hid hA; have HB := Lib.hid hb; clear hA hb hP)
  obtain ⟨w2, hw2, hb2, hz2, hc2⟩ := t_one_al w1 #[.slice A 1 c] 24
  rw [← hw2]
  obtain ⟨w3, hw3, hb3, hz3, hc3⟩ := t_one_al w2 #[.int .i64 0, .int .i64 0] 26
  rw [← hw3]
  have hb13 : Below w1.heap.size w1 w3 := hb2.trans (hb3.mono (by omega))
  have hct := (hb3.block w1.heap.size (by omega)).trans hc2
  rw [hz2] at hc3
  have c0 : w3.cell? ⟨w1.heap.size, 0, none⟩ = some (.slice A 1 c) := Lib.cell_of_heap hct 0
  have c1 : w3.cell? ⟨w1.heap.size + 1, 0, none⟩ = some (.int .i64 0) := Lib.cell_of_heap hc3 0
  have hX := hPr A c w3 (RdFs.more (fun q hq => by have := hq.2; omega) (RdFs.keep (w' := w3) (fun q hq => hb13.cell hq.2) HA.out))
  have HB3 := Lib.hid (HB.out.trans (hb13.mono HB.out.size))
  clear hw2 hw3 hb2 hb3 hc2 hc3 hct hPr HA hb13 hz2 hz3
  go_wp2_with (go_at_call 7; refine hX.mono ?_; rintro e w4 ⟨rfl, hb⟩; have HB4 := Lib.hid (HB3.out.trans (hb.mono HB3.out.size)); clear hb hX)
  go_ret
  exact ⟨rfl, HB4.out⟩
end Go.Proofs.YtiadbeglhnocoaaGreatDoor
