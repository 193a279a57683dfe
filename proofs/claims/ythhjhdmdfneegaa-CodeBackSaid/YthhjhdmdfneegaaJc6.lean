/-
  Programs as bytes: functions with their names, as they lie; Num, Encode.
-/
import Derived.Test.YthhjhdmdfneegaaJc4
import Derived.Test.YthhjhdmdfneegaaJc5
import Derived.Laws.IdiomStrings
import Derived.Lib.BufferRead
namespace Go.Proofs.Ythhjhdmdfneegaa
set_option linter.unusedVariables false
set_option linter.unusedSimpArgs false
open Go.RowKit

/-- Functions with their names, as they lie below n0. -/
def CFs (n0 : Nat) (w : World) (v : Value) (l : List (List UInt8 × SF)) : Prop := ∃ A c, v = .slice A l.length c ∧ (0 < l.length → ∃ b o, A = some ⟨b, o, none⟩ ∧ b < n0 ∧
  ∀ j d, l[j]? = some d → ∃ pv iv bv, w.cell? ⟨b, o + j * 5, none⟩ = some (.string ⟨d.1.toArray⟩) ∧ w.cell? ⟨b, o + j * 5 + 1, none⟩ = some pv ∧ w.cell? ⟨b, o + j * 5 + 2, none⟩ = some (.int .i64 d.2.ret) ∧ w.cell? ⟨b, o + j * 5 + 3, none⟩ = some iv ∧ w.cell? ⟨b, o + j * 5 + 4, none⟩ = some bv ∧ GNs n0 w pv d.2.params ∧ SIs n0 w iv d.2.ins ∧ SBs n0 w bv d.2.blocks)
theorem CFs.keep {n0 : Nat} {w w' : World} {v : Value} {l : List (List UInt8 × SF)} (h : CFs n0 w v l) (hb : Below n0 w w') : CFs n0 w' v l := by
  obtain ⟨A, c, hv, hr⟩ := h
  refine ⟨A, c, hv, fun hp => ?_⟩
  obtain ⟨b, o, hA, hbn, hc⟩ := hr hp
  refine ⟨b, o, hA, hbn, fun j d hd => ?_⟩
  obtain ⟨pv, iv, bv, h0, h1, h2, h3, h4, h5, h6, h7⟩ := hc j d hd
  have k : ∀ q, w'.cell? ⟨b, q, none⟩ = w.cell? ⟨b, q, none⟩ := fun q => hb.cell (p := ⟨b, q, none⟩) hbn
  exact ⟨pv, iv, bv, (k _).trans h0, (k _).trans h1, (k _).trans h2, (k _).trans h3, (k _).trans h4, h5.keep hb, h6.keep hb, h7.keep hb⟩
theorem CFs.at {n0 : Nat} {w : World} {A : Option Addr} {m c : Nat} {l : List (List UInt8 × SF)} (h : CFs n0 w (.slice A m c) l) {j : Nat} (hj : j < l.length) :
    ∃ b o pA pc iA ic bA bc, A = some ⟨b, o, none⟩ ∧ b < n0 ∧ w.cell? ⟨b, o + j * 5, none⟩ = some (.string ⟨l[j].1.toArray⟩) ∧ w.cell? ⟨b, o + j * 5 + 1, none⟩ = some (.slice pA l[j].2.params.length pc) ∧ w.cell? ⟨b, o + j * 5 + 2, none⟩ = some (.int .i64 l[j].2.ret) ∧ w.cell? ⟨b, o + j * 5 + 3, none⟩ = some (.slice iA l[j].2.ins.length ic) ∧ w.cell? ⟨b, o + j * 5 + 4, none⟩ = some (.slice bA l[j].2.blocks.length bc) ∧
      GNs n0 w (.slice pA l[j].2.params.length pc) l[j].2.params ∧ SIs n0 w (.slice iA l[j].2.ins.length ic) l[j].2.ins ∧ SBs n0 w (.slice bA l[j].2.blocks.length bc) l[j].2.blocks := by
  obtain ⟨A', c', hv, hr⟩ := h
  obtain ⟨b, o, hA, hbn, hc⟩ := hr (by omega)
  injection hv with e1
  subst e1
  obtain ⟨pv, iv, bv, h0, h1, h2, h3, h4, h5, h6, h7⟩ := hc j _ (List.getElem?_eq_getElem hj)
  obtain ⟨pA, pc, rfl, _⟩ := id h5
  obtain ⟨iA, ic, rfl, _⟩ := id h6
  obtain ⟨bA, bc, rfl, _⟩ := id h7
  exact ⟨b, o, pA, pc, iA, ic, bA, bc, hA, hbn, h0, h1, h2, h3, h4, h5, h6, h7⟩
theorem CFs.len {n0 : Nat} {w : World} {A : Option Addr} {m c : Nat} {l : List (List UInt8 × SF)} (h : CFs n0 w (.slice A m c) l) : m = l.length := by
  obtain ⟨_, _, h, -⟩ := h
  injection h
def cdFns (l : List (List UInt8 × SF)) : List UInt8 := l.flatMap fun d => cdFn d.1 d.2
def cdProg (mn : Int) (l : List (List UInt8 × SF)) : List UInt8 := cdN (u64Q mn) ++ (cdN l.length ++ cdFns l)
theorem cdFns_more (l : List (List UInt8 × SF)) (i : Nat) (h : i < l.length) : cdFns (l.take (i + 1)) = cdFns (l.take i) ++ cdFn l[i].1 l[i].2 := by
  unfold cdFns
  rw [take_q l i h, List.flatMap_append]
  simp
/-- Bytes that are told as a text. -/
theorem str_back {base : Nat} {v : Value} {l : List UInt8} {w : World} (ho : w.ownsRow base 5 1 v l.length (bcV l)) : (convert 56 9 v).run Try.prog w = .ok (.string ⟨l.toArray⟩) w := by
  rcases id ho.2 with ⟨rfl, h0⟩ | ⟨g, cap, cur, rfl, -, hh, -, -, -, ht⟩
  · have e : l = [] := List.length_eq_zero_iff.mp h0
    subst e
    exact Lib.run_convert_nil_bytes (P := Try.prog) w 56 9 5 0 Try.underlying56 Try.underlying5 Try.underlying9
  · refine run_convert_bytes_back (P := Try.prog) w 56 9 5 ⟨g, 0, none⟩ cap l Try.underlying56 Try.underlying5 Try.underlying9 (fun j hj => ?_)
    have hadd : (⟨g, 0, none⟩ : Addr).add j = ⟨g, j, none⟩ := by unfold Addr.add; split <;> simp_all
    rw [hadd, ho.cellAt j (by omega)]
    simp [bcV, hj]
set_option maxRecDepth 100000 in
set_option maxHeartbeats 4000000 in
theorem num_c (k : Nat) (hk : k < 18446744073709551616) (w : World) : Calls Try.prog 13 #[.int .u64 (k : Int)] w fun e w' => e = .returned (.string ⟨(cdN k).toArray⟩) ∧ Below w.heap.size w w' := by
  have hA := addNum_c w.heap.size (.slice none 0 0) [] k w hk (World.ownsRow_nil _ _ _ _) (by simp) (Nat.le_refl _)
  obtain ⟨m, hm⟩ : ∃ m, m = cdN k := ⟨_, rfl⟩
  rw [List.nil_append, ← hm] at hA
  rw [← hm]
  clear hm
  go_enter Try.func13, Try.ntmps13
  go_wp2_with (go_at_call 33; refine hA.mono ?_; rintro e w1 ⟨v1, rfl, ho1, hk1⟩; have hc := str_back ho1; have HK := Lib.hid hk1.b; obtain ⟨A1, c1, rfl⟩ := gr_slice ho1; clear ho1 hk1 hA)
  go_ret
  exact ⟨rfl, HK.out⟩
set_option maxRecDepth 100000 in
set_option maxHeartbeats 16000000 in
theorem encode_c (mn : Int) (fs : List (List UInt8 × SF)) (fA : Option Addr) (fn fc : Nat) (w : World) (hf : CFs w.heap.size w (.slice fA fn fc) fs) (hfn : fn ≤ 1048576)
    (hbd : ∀ d ∈ fs, (d.2.params.length ≤ 1048576 ∧ d.2.ins.length ≤ 1048576 ∧ d.2.blocks.length ≤ 1048576) ∧ (∀ x ∈ d.2.ins, InG x.n ∧ x.args.length ≤ 1048576) ∧ (∀ k ∈ d.2.blocks, k.list.length ≤ 1048576 ∧ k.preds.length ≤ 1048576 ∧ k.to_.length ≤ 1048576))
    (hll : (cdProg mn fs).length ≤ 1098000000000) :
    Calls Try.prog 7 #[.agg #[.slice fA fn fc, .int .i64 mn]] w fun e w' => e = .returned (.string ⟨(cdProg mn fs).toArray⟩) ∧ Below w.heap.size w w' := by
  have hfl := hf.len
  obtain ⟨W1, hW1, hbW1, hzW1, h0W1⟩ := gr_one w #[.slice fA fn fc, .int .i64 mn] 25
  obtain ⟨W2, hW2, hbW2, hzW2, h0W2⟩ := gr_one W1 #[.slice none 0 0] 58
  have h1W2 := (hbW2.block w.heap.size (by omega)).trans h0W1
  have hbw : Below w.heap.size w W2 := hbW1.trans (hbW2.mono hbW1.size)
  have HL : Hid (∀ q : List UInt8, q <+: cdProg mn fs → q.length ≤ 1098000000000) := Lib.hid fun q hq => Nat.le_trans hq.length_le hll
  have h0 : WrAt w.heap.size (w.heap.size + 1) [] W2 := ⟨.slice none 0 0, by rw [← hzW1]; exact h0W2, World.ownsRow_nil _ _ _ _, by omega, by omega⟩
  have HC : Hid (∀ X, Kw w.heap.size W2 X → X.cell? ⟨w.heap.size, 0, none⟩ = some (.slice fA fn fc) ∧ X.cell? ⟨w.heap.size, 1, none⟩ = some (.int .i64 mn)) := Lib.hid fun X hX => by
    have e := hX.k _ _ _ _ h1W2 (by decide)
    exact ⟨Lib.cell_of_heap e 0, Lib.cell_of_heap e 1⟩
  obtain ⟨x0, x1⟩ := HC.out W2 (Kq.refl _ _ _)
  have hN := number_w w.heap.size (w.heap.size + 1) [] mn W2 h0 (by simp)
  rw [List.nil_append] at hN
  have HW1 := Lib.hid hW1
  have HW2 := Lib.hid hW2
  have Hz1 := Lib.hid hzW1
  have Hf := Lib.hid hf
  have Hfl := Lib.hid hfl
  have Hbd := Lib.hid hbd
  have Hbw := Lib.hid hbw
  clear hf hfl hbd hll hW1 hW2 hbW1 hbW2 hzW1 hzW2 h0W1 h0W2 h1W2 hbw h0
  go_enter Try.func7, Try.ntmps7
  go_upto_region 2 with fail
  rw [← HW1.out, ← HW2.out]
  go_upto_region 3 with (go_at_call 14; refine hN.mono ?_; rintro e w3 ⟨rfl, h1, k1⟩; have H3 := Lib.hid h1; have K3 := Lib.hid k1; clear h1 k1 hN)
  clear x0 x1
  obtain ⟨x0, x1⟩ := HC.out w3 K3.out
  have hN := number_w w.heap.size (w.heap.size + 1) (cdN (u64Q mn)) (fn : Int) w3 H3.out (by have := cdN_len (u64Q mn); omega)
  rw [u64Q_nat fn (by omega)] at hN
  obtain ⟨m2, hm2⟩ : ∃ m2, m2 = cdN (u64Q mn) ++ cdN fn := ⟨_, rfl⟩
  rw [← hm2] at hN
  have Hm2 : Hid (m2 ++ cdFns fs = cdProg mn fs) := Lib.hid (by rw [hm2, Hfl.out]; unfold cdProg; simp)
  clear hm2
  go_upto_region 4 with (go_at_call 14; refine hN.mono ?_; rintro e w4 ⟨rfl, h1, k1⟩; have H4 : Hid (WrAt w.heap.size (w.heap.size + 1) (m2 ++ cdFns (fs.take 0)) w4) := Lib.hid (by simpa [cdFns] using h1); have K4 := Lib.hid (K3.out.trans k1); clear h1 k1 hN)
  clear x0 x1
  obtain ⟨x0, x1⟩ := HC.out w4 K4.out
  go_wp2_with fail
  clear x0 x1
  go_loopw [20] (fun u20 wr => ∃ i : Nat, i ≤ fn ∧ u20 = .int .i64 (i : Int) ∧ Hid (WrAt w.heap.size (w.heap.size + 1) (m2 ++ cdFns (fs.take i)) wr) ∧ Hid (Kw w.heap.size W2 wr)) (fun u20 _ => fn - (intOf u20).toNat)
  case atStart => exact ⟨0, Nat.zero_le _, rfl, H4, K4⟩
  case round =>
    clear H4 K4 H3 K3
    obtain ⟨i, hi, rfl, H7, K7⟩ := hrel
    obtain ⟨wo, hwo⟩ : ∃ x, x = wr := ⟨_, rfl⟩
    rw [← hwo] at H7 K7 ⊢
    clear hwo
    by_cases hlt : i < fn
    · have hil : i < fs.length := by rw [← Hfl.out]; exact hlt
      have hbo : Below w.heap.size w wo := Hbw.out.trans K7.out.b
      obtain ⟨gb, o, pA, pc, iA, ic, bA, bc, rfl, hgb, o0, o1, o2, o3, o4, g1, g2, g3⟩ := (Hf.out.keep hbo).at hil
      obtain ⟨d, hd⟩ : ∃ d, d = fs[i] := ⟨_, rfl⟩
      rw [← hd] at o0 o1 o2 o3 o4 g1 g2 g3
      obtain ⟨Y, hY, hbY, hzY, h0Y⟩ := gr_one wo #[.string ⟨d.1.toArray⟩, .slice pA d.2.params.length pc, .int .i64 d.2.ret, .slice iA d.2.ins.length ic, .slice bA d.2.blocks.length bc] 43
      have hbw : w.heap.size ≤ wo.heap.size := hbo.size
      have z0 := Lib.cell_of_heap h0Y 0
      have z1 := Lib.cell_of_heap h0Y 1
      have z2 := Lib.cell_of_heap h0Y 2
      have z3 := Lib.cell_of_heap h0Y 3
      have z4 := Lib.cell_of_heap h0Y 4
      have hmem : d ∈ fs := by rw [hd]; exact List.getElem_mem hil
      have hk0 := hbY.mono hbw
      have e : m2 ++ cdFns (fs.take i) ++ cdFn d.1 d.2 = m2 ++ cdFns (fs.take (i + 1)) := by rw [cdFns_more fs i hil, hd, List.append_assoc]
      have hS := function_w w.heap.size (w.heap.size + 1) w.heap.size (m2 ++ cdFns (fs.take i)) d.1 d.2 pA iA bA d.2.params.length pc d.2.ins.length ic d.2.blocks.length bc Y (H7.out.keep hbY) (g1.keep hk0) (g2.keep hk0) (g3.keep hk0) rfl rfl (Nat.le_refl _) (Hbd.out d hmem).1 (Hbd.out d hmem).2.1 (Hbd.out d hmem).2.2 (HL.out _ ⟨cdFns (fs.drop (i + 1)), by rw [e, ← Hm2.out, List.append_assoc]; congr 1; unfold cdFns; rw [← List.flatMap_append, List.take_append_drop]⟩)
      rw [e] at hS
      have HY := Lib.hid hY
      have KY := Lib.hid (K7.out.trans (Kq.of_below hbY hbw))
      obtain ⟨nm, hnm⟩ : ∃ v, v = d.1 := ⟨_, rfl⟩
      obtain ⟨pl, hpl⟩ : ∃ v, v = d.2.params.length := ⟨_, rfl⟩
      obtain ⟨rt, hrt⟩ : ∃ v, v = d.2.ret := ⟨_, rfl⟩
      obtain ⟨il, hil'⟩ : ∃ v, v = d.2.ins.length := ⟨_, rfl⟩
      obtain ⟨bl, hbl⟩ : ∃ v, v = d.2.blocks.length := ⟨_, rfl⟩
      rw [← hnm] at o0 z0 hS HY
      rw [← hpl] at o1 z1 hS HY
      rw [← hrt] at o2 z2 hS HY
      rw [← hil'] at o3 z3 hS HY
      rw [← hbl] at o4 z4 hS HY
      clear hY hbY hzY h0Y hbw hmem e hd hil g1 g2 g3 hgb hk0 hnm hpl hrt hil' hbl hbo
      go_upto_region 7 with fail
      rw [← HY.out]
      clear o0 o1 o2 o3 o4
      go_wp2_with (go_at_call 15; refine hS.mono ?_; rintro e w8 ⟨rfl, h1, k1⟩; have H8 := Lib.hid h1; have K8 := Lib.hid (KY.out.trans k1); clear h1 k1 hS)
      go_roundw
      case rel => exact ⟨i + 1, by omega, by go_num, H8, K8⟩
      case measure => simp [intOf]; omega
    · have hie : i = fs.length := by rw [← Hfl.out]; omega
      rw [hie, List.take_length, Hm2.out] at H7
      clear hie
      have h7 := H7.out
      obtain ⟨v7, e7, ho7, -, -⟩ := h7
      have y0 := Lib.cell_of_heap e7 0
      have hc := str_back ho7
      have Hend := Lib.hid (Hbw.out.trans K7.out.b)
      obtain ⟨A7, c7, rfl⟩ := gr_slice ho7
      obtain ⟨R, hR⟩ : ∃ R, R = cdProg mn fs := ⟨_, rfl⟩
      rw [← hR] at hc y0
      have HR := Lib.hid hR
      clear e7 ho7 hR
      go_wp2_with fail
      go_ret
      exact ⟨by rw [HR.out]; rfl, Hend.out⟩
end Go.Proofs.Ythhjhdmdfneegaa
