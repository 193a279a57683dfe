/-
  Which programs may be, by the reference: a function.
  Which programs may be, by the reference: a program.
  The base with changes, over plain data.
-/
import Derived.Test.YthhjhdmdfneegaaJc23
import Derived.Test.YthhjhdmdfneegaaJc32
import Derived.Test.YthhjhdmdfneegaaJc40
import Derived.Test.YthhjhdmdfneegaaJc45
namespace Go.Proofs.Ythhjhdmdfneegaa
set_option linter.unusedVariables false
set_option linter.unusedSimpArgs false
open Go.RowKit Go.Shelf

/-- A number is answered, and where it is 0, P holds. -/
def NP (P : Prop) (w : World) (e : Ending) (w' : World) : Prop := ∃ r : Int, e = .returned (.int .i64 r) ∧ Below w.heap.size w w' ∧ (r = 0 → P)
structure FOk (f : SF) : Prop where
  sh : 0 < f.blocks.length ∧ ∀ k ∈ f.blocks, EndOk f k.kind k.arg k.to_
  pr : ∀ k ∈ f.blocks, PredOk f.blocks.length k
  li : ∀ k ∈ f.blocks, ListOk f k
  ph : ∀ k ∈ f.blocks, PhiOk f k
  ty : ∀ x ∈ f.ins, x.op ≠ 0 → InsOk f x
/-- stands keeps its word. -/
def StC (n0 : Nat) (V : RV) (f : SF) (w : World) : Prop := ∀ X, Below w.heap.size w X → FOk f → Calls Try.prog 32 #[.agg V.cs] X (BP True X)
set_option maxRecDepth 100000 in
set_option maxHeartbeats 32000000 in
theorem func_c (n0 : Nat) (fA : Option Addr) (fn fc : Nat) (mn : Int) (fs : List (List UInt8 × SF)) (n : Nat) (hnl : n < fs.length) (w : World) (hF : CFs n0 w (.slice fA fn fc) fs) (hn : n0 ≤ w.heap.size) (hfs : FnsOk fs) (hS : ∀ d ∈ fs, FS d.2) (hfn : fn ≤ 256)
    (hst : ∀ V : RV, FA n0 V fs[n].2 w → StC n0 V fs[n].2 w) :
    Calls Try.prog 12 #[.agg #[.slice fA fn fc, .int .i64 mn], .int .i64 (n : Int)] w (NP (FOk fs[n].2) w) := by
  have hlen := hF.len
  obtain ⟨gb, go, pA, pc, iA, ic, bA, bc, rfl, -, y0, y1, y2, y3, y4, g1, g2, g3⟩ := hF.at hnl
  have hok := hfs _ (List.getElem_mem hnl)
  have hs := hS _ (List.getElem_mem hnl)
  obtain ⟨nm, hnm⟩ : ∃ m : ByteArray, m = ⟨fs[n].1.toArray⟩ := ⟨_, rfl⟩
  rw [← hnm] at y0
  obtain ⟨f, hf⟩ : ∃ f, f = fs[n].2 := ⟨_, rfl⟩
  rw [← hf] at y1 y2 y3 y4 g1 g2 g3 hok hs hst ⊢
  obtain ⟨V, hV⟩ : ∃ V : RV, V = ⟨nm, pA, f.params.length, pc, f.ret, iA, f.ins.length, ic, bA, f.blocks.length, bc⟩ := ⟨_, rfl⟩
  have hFA : FA n0 V f w := by rw [hV]; exact ⟨rfl, g1, g2, g3⟩
  have hst := hst V hFA
  have hVcs : V.cs = #[.string nm, .slice pA f.params.length pc, .int .i64 f.ret, .slice iA f.ins.length ic, .slice bA f.blocks.length bc] := by rw [hV]; rfl
  obtain ⟨W1, hW1, hbW1, hzW1, h0W1⟩ := gr_one w #[.slice (some ⟨gb, go, none⟩) fn fc, .int .i64 mn] 25
  obtain ⟨W, hW, hbW, hzW, h0W⟩ := gr_one W1 V.cs 43
  rw [hzW1] at h0W
  have hbw : Below w.heap.size w W := hbW1.trans (hbW.mono (by omega))
  have hk : ∀ X, Below W.heap.size W X → Below w.heap.size w X := fun X hX => hbw.trans (hX.mono hbw.size)
  have hFX : ∀ X, Below W.heap.size W X → FA n0 V f X ∧ n0 ≤ X.heap.size := fun X hX => ⟨hFA.keep ((hk X hX).mono hn), Nat.le_trans hn (hk X hX).size⟩
  have H1 : Hid (∀ X, Below W.heap.size W X → _) := Lib.hid fun X hX => shape_c n0 V f X (hFX X hX).1 hs (hFX X hX).2
  have H2 : Hid (∀ X, Below W.heap.size W X → _) := Lib.hid fun X hX => preds_c n0 V f X (hFX X hX).1 hs (hFX X hX).2
  have H3 : Hid (∀ X, Below W.heap.size W X → _) := Lib.hid fun X hX => lists_c n0 V f X (hFX X hX).1 hs (hFX X hX).2
  have H4 : Hid (∀ X, Below W.heap.size W X → (∀ k ∈ f.blocks, EndOk f k.kind k.arg k.to_) → _) := Lib.hid fun X hX h => reach_c n0 V f X (hFX X hX).1 hs (hFX X hX).2 (fun k hk => (h k hk).1)
  have H5 : Hid (∀ X, Below W.heap.size W X → (∀ k ∈ f.blocks, ListOk f k) → _) := Lib.hid fun X hX h => phis_c n0 V f X (hFX X hX).1 hs (hFX X hX).2 (fun k hk x hx => ⟨(h k hk x hx).1, (h k hk x hx).2.1⟩)
  have H6 : Hid (∀ X, Below W.heap.size W X → _) := Lib.hid fun X hX => types_c n0 (some ⟨gb, go, none⟩) fn fc mn V f X (hFX X hX).1 hs (hFX X hX).2 (fun Z x aA an ac hZ hx ha => ins_c n0 (some ⟨gb, go, none⟩) fn fc mn V f x aA an ac fs Z ((hFX X hX).1.keep (hZ.mono (hFX X hX).2)) hs (Nat.le_trans (hFX X hX).2 hZ.size) ha (by rw [ha.len]; exact hs.args x hx) (hF.keep (((hk X hX).trans (hZ.mono (hk X hX).size)).mono hn)) hfs hfn hok.2.2)
  have H7 : Hid (∀ X, Below W.heap.size W X → FOk f → _) := Lib.hid fun X hX h => hst X (hk X hX) h
  have HB0 := Lib.hid hk
  have hx : ∀ X, Below W.heap.size W X → X.heap[w.heap.size]? = some (.cells #[.slice (some ⟨gb, go, none⟩) fn fc, .int .i64 mn] 25 (0, 0)) ∧ X.heap[w.heap.size + 1]? = some (.cells V.cs 43 (0, 0)) := fun X hX => ⟨(hX.block _ (by omega)).trans ((hbW.block _ (by omega)).trans h0W1), (hX.block _ (by omega)).trans h0W⟩
  rw [hVcs] at H1 H2 H3 H4 H5 H6 H7 hW hx
  have hpl := hs.p
  have hil := hs.i
  have hbl := hs.b
  obtain ⟨pn, hpn⟩ : ∃ n, n = f.params.length := ⟨_, rfl⟩
  obtain ⟨in_, hin⟩ : ∃ n, n = f.ins.length := ⟨_, rfl⟩
  obtain ⟨bn, hbn⟩ : ∃ n, n = f.blocks.length := ⟨_, rfl⟩
  obtain ⟨rt, hrt⟩ : ∃ n, n = f.ret := ⟨_, rfl⟩
  have HC : Hid (∀ X, Below W.heap.size W X → (X.cell? ⟨w.heap.size + 1, 0, none⟩ = some (.string nm) ∧ X.cell? ⟨w.heap.size + 1, 1, none⟩ = some (.slice pA pn pc) ∧ X.cell? ⟨w.heap.size + 1, 2, none⟩ = some (.int .i64 rt) ∧ X.cell? ⟨w.heap.size + 1, 3, none⟩ = some (.slice iA in_ ic) ∧ X.cell? ⟨w.heap.size + 1, 4, none⟩ = some (.slice bA bn bc)) ∧ X.cell? ⟨w.heap.size, 0, none⟩ = some (.slice (some ⟨gb, go, none⟩) fn fc) ∧ X.cell? ⟨w.heap.size, 1, none⟩ = some (.int .i64 mn)) := Lib.hid fun X hX => by
    obtain ⟨h1, h2⟩ := hx X hX
    obtain ⟨a, b, c, d, e, -⟩ := gr_five h2
    rw [hpn, hin, hbn, hrt]
    exact ⟨⟨a, b, c, d, e⟩, Lib.cell_of_heap h1 0, Lib.cell_of_heap h1 1⟩
  rw [← hpn] at y1 H1 H2 H3 H4 H5 H6 H7 hW
  rw [← hrt] at y2 H1 H2 H3 H4 H5 H6 H7 hW
  rw [← hin] at y3 H1 H2 H3 H4 H5 H6 H7 hW
  rw [← hbn] at y4 H1 H2 H3 H4 H5 H6 H7 hW
  have Hbn := Lib.hid hbn
  have HW1 := Lib.hid hW1
  have HW := Lib.hid hW
  have z0 := cell_kept hbW1 y0
  have z1 := cell_kept hbW1 y1
  have z2 := cell_kept hbW1 y2
  have z3 := cell_kept hbW1 y3
  have z4 := cell_kept hbW1 y4
  have q0 : W1.cell? ⟨w.heap.size, 0, none⟩ = some (.slice (some ⟨gb, go, none⟩) fn fc) := Lib.cell_of_heap h0W1 0
  have hnf : n < fn := by omega
  have hnfi : (n : Int) < (fn : Int) := by omega
  have HBW := Lib.hid (Below.refl W.heap.size W)
  clear hF hfs hS hst hV hVcs hFA hFX hk hx hbw hbW1 hbW h0W1 h0W hW1 hW hlen hok hs hnm hf g1 g2 g3 y0 y1 y2 y3 y4 hpn hin hbn hrt hpl hil hbl hzW
  go_enter Try.func12, Try.ntmps12
  go_upto_region 1 with fail
  rw [← HW1.out]
  go_upto_region 4 with fail
  rw [← HW.out]
  clear z0 z1 z2 z3 z4 q0
  obtain ⟨⟨c0, c1, c2, c3, c4⟩, p0, p1⟩ := HC.out W HBW.out
  have hcall := H1.out _ HBW.out
  go_wp2_with (go_at_call 26; refine hcall.mono ?_; rintro e w3 ⟨r, rfl, h3, hp⟩; have HB1 := Lib.hid (HBW.out.trans (h3.mono HBW.out.size)); have HP := Lib.hid hp; clear hcall h3 hp c0 c1 c2 c3 c4 p0 p1; obtain ⟨⟨c0, c1, c2, c3, c4⟩, p0, p1⟩ := HC.out w3 HB1.out; cases r)
  · go_ret
    exact ⟨_, rfl, HB0.out _ HB1.out, fun e => by cases e⟩
  · have P1 := Lib.hid (HP.out trivial)
    have hcall := H2.out _ HB1.out
    go_wp2_with (go_at_call 27; refine hcall.mono ?_; rintro e w4 ⟨r, rfl, h3, hp⟩; have HB2 := Lib.hid (HB1.out.trans (h3.mono HB1.out.size)); have HP := Lib.hid hp; clear hcall h3 hp c0 c1 c2 c3 c4 p0 p1; obtain ⟨⟨c0, c1, c2, c3, c4⟩, p0, p1⟩ := HC.out w4 HB2.out; cases r)
    · go_ret
      exact ⟨_, rfl, HB0.out _ HB2.out, fun e => by cases e⟩
    · have P2 := Lib.hid (HP.out trivial)
      have hcall := H3.out _ HB2.out
      go_wp2_with (go_at_call 28; refine hcall.mono ?_; rintro e w5 ⟨r, rfl, h3, hp⟩; have HB3 := Lib.hid (HB2.out.trans (h3.mono HB2.out.size)); have HP := Lib.hid hp; clear hcall h3 hp c0 c1 c2 c3 c4 p0 p1; obtain ⟨⟨c0, c1, c2, c3, c4⟩, p0, p1⟩ := HC.out w5 HB3.out; cases r)
      · go_ret
        exact ⟨_, rfl, HB0.out _ HB3.out, fun e => by cases e⟩
      · have P3 := Lib.hid (HP.out trivial)
        have hcall := H4.out _ HB3.out P1.out.2
        go_wp2_with (go_at_call 29; refine hcall.mono ?_; rintro e w6 ⟨r, rfl, h3, hp⟩; have HB4 := Lib.hid (HB3.out.trans (h3.mono HB3.out.size)); have HP := Lib.hid hp; clear hcall h3 hp c0 c1 c2 c3 c4 p0 p1; obtain ⟨⟨c0, c1, c2, c3, c4⟩, p0, p1⟩ := HC.out w6 HB4.out; cases r)
        · go_ret
          exact ⟨_, rfl, HB0.out _ HB4.out, fun e => by cases e⟩
        · have P4 := Lib.hid (HP.out trivial)
          have hcall := H5.out _ HB4.out P3.out
          go_wp2_with (go_at_call 30; refine hcall.mono ?_; rintro e w7 ⟨r, rfl, h3, hp⟩; have HB5 := Lib.hid (HB4.out.trans (h3.mono HB4.out.size)); have HP := Lib.hid hp; clear hcall h3 hp c0 c1 c2 c3 c4 p0 p1; obtain ⟨⟨c0, c1, c2, c3, c4⟩, p0, p1⟩ := HC.out w7 HB5.out; cases r)
          · go_ret
            exact ⟨_, rfl, HB0.out _ HB5.out, fun e => by cases e⟩
          · have P5 := Lib.hid (HP.out trivial)
            have hcall := H6.out _ HB5.out
            go_wp2_with (go_at_call 31; refine hcall.mono ?_; rintro e w8 ⟨r, rfl, h3, hp⟩; have HB6 := Lib.hid (HB5.out.trans (h3.mono HB5.out.size)); have HP := Lib.hid hp; clear hcall h3 hp c0 c1 c2 c3 c4 p0 p1; obtain ⟨⟨c0, c1, c2, c3, c4⟩, p0, p1⟩ := HC.out w8 HB6.out; cases r)
            · go_ret
              exact ⟨_, rfl, HB0.out _ HB6.out, fun e => by cases e⟩
            · have P6 := Lib.hid (HP.out trivial)
              have hcall := H7.out _ HB6.out (by have e := Hbn.out; exact ⟨by rw [← e]; exact P1.out, by rw [← e]; exact P2.out, P3.out, P5.out, P6.out⟩)
              go_wp2_with (go_at_call 32; refine hcall.mono ?_; rintro e w9 ⟨r, rfl, h3, hp⟩; have HB7 := Lib.hid (HB6.out.trans (h3.mono HB6.out.size)); have HP := Lib.hid hp; clear hcall h3 hp c0 c1 c2 c3 c4 p0 p1; obtain ⟨⟨c0, c1, c2, c3, c4⟩, p0, p1⟩ := HC.out w9 HB7.out; cases r)
              · go_ret
                exact ⟨_, rfl, HB0.out _ HB7.out, fun e => by cases e⟩
              · go_ret
                exact ⟨_, rfl, HB0.out _ HB7.out, fun _ => (by have e := Hbn.out; exact ⟨by rw [← e]; exact P1.out, by rw [← e]; exact P2.out, P3.out, P5.out, P6.out⟩)⟩
end Go.Proofs.Ythhjhdmdfneegaa
namespace Go.Proofs.Ythhjhdmdfneegaa
set_option linter.unusedVariables false
set_option linter.unusedSimpArgs false
open Go.RowKit Go.Shelf

/-- Two numbers are answered, and where the first one is 0, P holds. -/
def NP2 (P : Prop) (w : World) (e : Ending) (w' : World) : Prop := ∃ r i : Int, e = .returned (.tuple #[.int .i64 r, .int .i64 i]) ∧ Below w.heap.size w w' ∧ (r = 0 → P)
def HdOk (d : List UInt8 × SF) : Prop := d.2.params.length ≤ 16 ∧ (0 ≤ d.2.ret ∧ d.2.ret ≤ 4) ∧ ∀ y ∈ d.2.params, 1 ≤ y ∧ y ≤ 4
structure PrOk (mn : Int) (fs : List (List UInt8 × SF)) : Prop where
  mn : 0 ≤ mn ∧ mn < (fs.length : Int)
  fl : fs.length ≤ 256
  hd : ∀ d ∈ fs, HdOk d
  fn : ∀ d ∈ fs, FOk d.2
set_option maxRecDepth 100000 in
set_option maxHeartbeats 32000000 in
theorem prog_c (n0 : Nat) (fA : Option Addr) (fn fc : Nat) (mn : Int) (fs : List (List UInt8 × SF)) (w : World) (hF : CFs n0 w (.slice fA fn fc) fs) (hn : n0 ≤ w.heap.size) (hS : ∀ d ∈ fs, FS d.2)
    (hst : ∀ (X : World) (d : List UInt8 × SF) (V : RV), Below w.heap.size w X → d ∈ fs → FA n0 V d.2 X → StC n0 V d.2 X) :
    Calls Try.prog 5 #[.agg #[.slice fA fn fc, .int .i64 mn]] w (NP2 (PrOk mn fs) w) := by
  obtain ⟨W, hW, hbW, hzW, h0W⟩ := gr_one w #[.slice fA fn fc, .int .i64 mn] 25
  have hlen := hF.len
  have HC : Hid (∀ X, Below W.heap.size W X → X.cell? ⟨w.heap.size, 0, none⟩ = some (.slice fA fn fc) ∧ X.cell? ⟨w.heap.size, 1, none⟩ = some (.int .i64 mn)) := Lib.hid fun X hX => by
    have h1 := (hX.block w.heap.size (by omega)).trans h0W
    exact ⟨Lib.cell_of_heap h1 0, Lib.cell_of_heap h1 1⟩
  have HB0 : Hid (∀ X, Below W.heap.size W X → Below w.heap.size w X) := Lib.hid fun X hX => hbW.trans (hX.mono hbW.size)
  have HFX : Hid (∀ X, Below W.heap.size W X → CFs n0 X (.slice fA fn fc) fs) := Lib.hid fun X hX => hF.keep ((HB0.out X hX).mono hn)
  have HFu : Hid (FnsOk fs → fn ≤ 256 → ∀ (X : World) (n : Nat) (hnl : n < fs.length), Below W.heap.size W X → Calls Try.prog 12 #[.agg #[.slice fA fn fc, .int .i64 mn], .int .i64 (n : Int)] X (NP (FOk fs[n].2) X)) := Lib.hid fun h1 h2 X n hnl hX => func_c n0 fA fn fc mn fs n hnl X (HFX.out X hX) (Nat.le_trans hn (HB0.out X hX).size) h1 hS h2 (fun V hV => hst X _ V (HB0.out X hX) (List.getElem_mem hnl) hV)
  have HW := Lib.hid hW
  have Hlen := Lib.hid hlen
  have Hps : Hid (∀ d ∈ fs, d.2.params.length ≤ 1000) := Lib.hid fun d hd => (hS d hd).p
  have HBW : Hid (Below w.heap.size w W) := Lib.hid (HB0.out W (Below.refl _ _))
  obtain ⟨p0, p1⟩ := HC.out W (Below.refl _ _)
  clear hW hbW hzW h0W hlen hF hS hst
  go_enter Try.func5, Try.ntmps5
  go_upto_region 1 with fail
  rw [← HW.out]
  by_cases f1 : fn < 1
  · have f1i : (fn : Int) < 1 := by omega
    go_wp2
    go_ret2
    exact ⟨_, _, rfl, HBW.out, fun e => by cases e⟩
  · have f1i : ¬ (fn : Int) < 1 := by omega
    by_cases f2 : 256 < fn
    · have f2i : (256 : Int) < (fn : Int) := by omega
      go_wp2
      go_ret2
      exact ⟨_, _, rfl, HBW.out, fun e => by cases e⟩
    · have f2i : ¬ (256 : Int) < (fn : Int) := by omega
      by_cases m0 : mn < 0
      · go_wp2
        go_ret2
        exact ⟨_, _, rfl, HBW.out, fun e => by cases e⟩
      · by_cases m1 : (fn : Int) ≤ mn
        · go_wp2
          go_ret2
          exact ⟨_, _, rfl, HBW.out, fun e => by cases e⟩
        · obtain ⟨q, rfl⟩ : ∃ q : Nat, mn = (q : Int) := ⟨mn.toNat, by omega⟩
          have hq : q < fn := by omega
          have hql : q < fs.length := by rw [← Hlen.out]; exact hq
          obtain ⟨gb, go, pA, pc, iA, ic, bA, bc, rfl, -, y0, y1, y2, y3, y4, g1, g2, g3⟩ := (HFX.out W (Below.refl _ _)).at hql
          obtain ⟨pn, hpn⟩ : ∃ n, n = fs[q].2.params.length := ⟨_, rfl⟩
          obtain ⟨rt, hrt⟩ : ∃ n, n = fs[q].2.ret := ⟨_, rfl⟩
          rw [← hpn] at y1
          rw [← hrt] at y2
          clear hpn hrt g1 g2 g3 y0 y3 y4 hql
          by_cases l0 : 0 < pn
          · have l0i : (0 : Int) < (pn : Int) := by omega
            go_wp2
            go_ret2
            exact ⟨_, _, rfl, HBW.out, fun e => by cases e⟩
          · have l0i : ¬ (0 : Int) < (pn : Int) := by omega
            by_cases r1 : rt = 1
            · subst r1
              go_wp2_with fail
              clear y1 y2 p0 p1
              go_loopw [4] (fun u4 wr => ∃ i : Nat, i ≤ fn ∧ u4 = .int .i64 (i : Int) ∧ Hid (Below W.heap.size W wr) ∧ Hid (∀ d ∈ fs.take i, HdOk d)) (fun u4 _ => fn - (intOf u4).toNat)
              case atStart => exact ⟨0, Nat.zero_le _, rfl, Lib.hid (Below.refl _ _), Lib.hid (by simp)⟩
              case round =>
                obtain ⟨i, hi, rfl, HB, HO⟩ := hrel
                obtain ⟨wo, hwo⟩ : ∃ x, x = wr := ⟨_, rfl⟩
                rw [← hwo] at HB ⊢
                clear hwo
                obtain ⟨p0, p1⟩ := HC.out wo HB.out
                by_cases hlt : i < fn
                · have hil : i < fs.length := by rw [← Hlen.out]; exact hlt
                  obtain ⟨gb2, go2, pA, pc, iA, ic, bA, bc, e1, -, y0, y1, y2, y3, y4, g1, -, -⟩ := (HFX.out wo HB.out).at hil
                  injection e1 with e1
                  injection e1 with e1 e2
                  subst e1 e2
                  have hm := fun hp => take_more (P := HdOk) HO.out hil hp
                  have hpl := Hps.out _ (List.getElem_mem hil)
                  obtain ⟨nm, hnm⟩ : ∃ m : ByteArray, m = ⟨fs[i].1.toArray⟩ := ⟨_, rfl⟩
                  rw [← hnm] at y0
                  obtain ⟨d, hd⟩ : ∃ d, d = fs[i] := ⟨_, rfl⟩
                  rw [← hd] at y1 y2 y3 y4 g1 hm hpl
                  obtain ⟨dn, ⟨pl, rt, il, bl⟩⟩ := d
                  simp only at y1 y2 y3 y4 g1 hm hpl
                  have hmm : pl.length ≤ 16 → (0 ≤ rt ∧ rt ≤ 4) → (∀ y ∈ pl, 1 ≤ y ∧ y ≤ 4) → ∀ d ∈ fs.take (i + 1), HdOk d := fun a b c => hm ⟨a, b, c⟩
                  obtain ⟨pn, hpn⟩ : ∃ n, n = pl.length := ⟨_, rfl⟩
                  obtain ⟨in_, hin⟩ : ∃ n, n = il.length := ⟨_, rfl⟩
                  obtain ⟨bn, hbn⟩ : ∃ n, n = bl.length := ⟨_, rfl⟩
                  rw [← hpn] at y1 hpl hmm g1
                  rw [← hin] at y3
                  rw [← hbn] at y4
                  obtain ⟨X, hX, hbX, hzX, h0X⟩ := gr_one wo #[.string nm, .slice pA pn pc, .int .i64 rt, .slice iA in_ ic, .slice bA bn bc] 43
                  obtain ⟨xb, hxb⟩ : ∃ b, b = wo.heap.size := ⟨_, rfl⟩
                  rw [← hxb] at h0X
                  obtain ⟨-, k1, k2, -, -, -⟩ := gr_five h0X
                  have HGX : Hid (∀ Z, Below X.heap.size X Z → GNs n0 Z (.slice pA pn pc) pl) := Lib.hid fun Z hZ => g1.keep ((hbX.trans (hZ.mono hbX.size)).mono (Nat.le_trans hn (HB0.out wo HB.out).size))
                  have HXB : Hid (Below W.heap.size W X) := Lib.hid (HB.out.trans (hbX.mono HB.out.size))
                  have HX := Lib.hid hX
                  have Hxb := Lib.hid hxb
                  have Hm := Lib.hid hmm
                  have Hpn := Lib.hid hpn
                  clear hX hbX hzX h0X hxb hmm hm hpn hin hbn hd hnm g1 hil
                  go_upto_region 7 with fail
                  rw [← HX.out, ← Hxb.out]
                  clear y0 y1 y2 y3 y4 p0 p1
                  go_cut [6] (fun u6 wx => ∃ b : Bool, u6 = .bool b ∧ wx = X ∧ Hid (b = true → pn ≤ 16 ∧ 0 ≤ rt ∧ rt ≤ 4))
                  case first =>
                    by_cases a1 : pn ≤ 16
                    · have a1i : (pn : Int) ≤ 16 := by omega
                      by_cases a2 : 0 ≤ rt
                      · by_cases a3 : rt ≤ 4
                        · go_wp2_with fail
                          go_meet
                          exact ⟨_, rfl, rfl, Lib.hid fun _ => ⟨a1, a2, a3⟩⟩
                        · go_wp2_with fail
                          go_meet
                          exact ⟨_, rfl, rfl, Lib.hid fun e => by first | (cases e; done) | (simp at e; omega)⟩
                      · go_wp2_with fail
                        go_meet
                        exact ⟨_, rfl, rfl, Lib.hid fun e => by first | (cases e; done) | (simp at e; omega)⟩
                    · have a1i : ¬ (pn : Int) ≤ 16 := by omega
                      go_wp2_with fail
                      go_meet
                      exact ⟨_, rfl, rfl, Lib.hid fun e => by first | (cases e; done) | (simp at e; omega)⟩
                  case rest =>
                    obtain ⟨b, rfl, hw, Hb⟩ := hcut
                    rw [hw]
                    clear hw
                    go_wp2_with fail
                    go_loopw [6, 7] (fun u6 u7 wr => ∃ (m : Nat) (b : Bool), m ≤ pn ∧ u7 = .int .i64 (m : Int) ∧ u6 = .bool b ∧ wr = X ∧ Hid (b = true → (pn ≤ 16 ∧ 0 ≤ rt ∧ rt ≤ 4) ∧ ∀ y ∈ pl.take m, 1 ≤ y ∧ y ≤ 4)) (fun _ u7 _ => pn - (intOf u7).toNat)
                    case atStart => exact ⟨0, b, Nat.zero_le _, rfl, rfl, rfl, Lib.hid fun e => ⟨Hb.out e, by simp⟩⟩
                    case round =>
                      clear Hb
                      obtain ⟨m, b, hm, rfl, rfl, hw, Hb⟩ := hrel
                      rw [hw]
                      clear hw
                      by_cases hmt : m < pn
                      · have hml : m < pl.length := by rw [← Hpn.out]; exact hmt
                        obtain ⟨lb, lo, rfl, -, z0⟩ := (HGX.out X (Below.refl _ _)).at hml
                        have hmj := fun ho hp => take_more (P := fun y : Int => 1 ≤ y ∧ y ≤ 4) (i := m) ho hml hp
                        obtain ⟨y, hy⟩ : ∃ y, y = pl[m] := ⟨_, rfl⟩
                        rw [← hy] at z0 hmj
                        have Hmj := Lib.hid hmj
                        clear hy hml hmj
                        cases b
                        · go_wp2_with fail
                          go_roundw
                          case rel => exact ⟨m + 1, false, by omega, by go_num, rfl, trivial, Lib.hid fun e => by cases e⟩
                          case measure => simp [intOf]; omega
                        · by_cases b1 : 1 ≤ y
                          · by_cases b2 : y ≤ 4
                            · have HN := Lib.hid (Hmj.out (Hb.out rfl).2 ⟨b1, b2⟩)
                              have HN0 := Lib.hid (Hb.out rfl).1
                              go_wp2_with fail
                              go_roundw
                              case rel => exact ⟨m + 1, _, by omega, by go_num, rfl, trivial, Lib.hid fun _ => ⟨HN0.out, HN.out⟩⟩
                              case measure => simp [intOf]; omega
                            · go_wp2_with fail
                              go_roundw
                              case rel => exact ⟨m + 1, _, by omega, by go_num, rfl, trivial, Lib.hid fun e => by first | (cases e; done) | (simp at e; omega)⟩
                              case measure => simp [intOf]; omega
                          · go_wp2_with fail
                            go_roundw
                            case rel => exact ⟨m + 1, _, by omega, by go_num, rfl, trivial, Lib.hid fun e => by first | (cases e; done) | (simp at e; omega)⟩
                            case measure => simp [intOf]; omega
                      · have hme : m = pl.length := by rw [← Hpn.out]; omega
                        have HF : Hid (b = true → ∀ d ∈ fs.take (i + 1), HdOk d) := Lib.hid fun e => by
                          obtain ⟨h1, h2⟩ := Hb.out e
                          rw [hme, List.take_length] at h2
                          exact Hm.out h1.1 h1.2 h2
                        clear hme
                        cases b
                        · go_wp2_with fail
                          go_ret2
                          exact ⟨_, _, rfl, HB0.out _ HXB.out, fun e => by cases e⟩
                        · have HF2 := Lib.hid (HF.out rfl)
                          go_wp2_with fail
                          go_roundw
                          case rel => exact ⟨i + 1, by omega, by go_num, HXB, HF2⟩
                          case measure => simp [intOf]; omega
                · have hie : i = fs.length := by rw [← Hlen.out]; omega
                  have HA : Hid (∀ d ∈ fs, HdOk d) := Lib.hid (by have := HO.out; rw [hie, List.take_length] at this; exact this)
                  have HFn : Hid (FnsOk fs) := Lib.hid fun d hd => ⟨(HA.out d hd).2.1, Nat.le_trans (HA.out d hd).1 (by decide), (HA.out d hd).2.2⟩
                  have HFu2 := Lib.hid (HFu.out HFn.out (by omega))
                  clear hie HO
                  go_wp2_with fail
                  clear p0 p1
                  go_loopw [8] (fun u8 wr => ∃ j : Nat, j ≤ fn ∧ u8 = .int .i64 (j : Int) ∧ Hid (Below W.heap.size W wr) ∧ Hid (∀ d ∈ fs.take j, FOk d.2)) (fun u8 _ => fn - (intOf u8).toNat)
                  case atStart => exact ⟨0, Nat.zero_le _, rfl, HB, Lib.hid (by simp)⟩
                  case round =>
                    clear HB
                    obtain ⟨j, hj, rfl, HB, HJ⟩ := hrel
                    obtain ⟨wi, hwi⟩ : ∃ x, x = wr := ⟨_, rfl⟩
                    rw [← hwi] at HB ⊢
                    clear hwi
                    obtain ⟨p0, p1⟩ := HC.out wi HB.out
                    by_cases hjt : j < fn
                    · have hjl : j < fs.length := by rw [← Hlen.out]; exact hjt
                      have hcall := HFu2.out wi j hjl HB.out
                      have hm := fun hp => take_more (P := fun d : List UInt8 × SF => FOk d.2) HJ.out hjl hp
                      obtain ⟨P, hP⟩ : ∃ P, P = FOk fs[j].2 := ⟨_, rfl⟩
                      rw [← hP] at hcall
                      have Hm : Hid (P → ∀ d ∈ fs.take (j + 1), FOk d.2) := Lib.hid fun h => hm (by rw [hP] at h; exact h)
                      clear hP hm hjl
                      go_wp2_with (go_at_call 12; refine hcall.mono ?_; rintro e w3 ⟨r, rfl, h3, hp⟩; have HB3 := Lib.hid (HB.out.trans (h3.mono HB.out.size)); have HP := Lib.hid hp; clear hcall h3 hp p0 p1; by_cases r0 : r = 0)
                      · have HN := Lib.hid (Hm.out (HP.out r0))
                        go_roundw
                        case rel => exact ⟨j + 1, by omega, by go_num, HB3, HN⟩
                        case measure => simp [intOf]; omega
                      · go_ret2
                        exact ⟨_, _, rfl, HB0.out _ HB3.out, fun e => absurd e r0⟩
                    · have hje : j = fs.length := by rw [← Hlen.out]; omega
                      have HAA : Hid (PrOk (q : Int) fs) := Lib.hid ⟨⟨by omega, by rw [← Hlen.out]; omega⟩, by rw [← Hlen.out]; omega, HA.out, by have := HJ.out; rw [hje, List.take_length] at this; exact this⟩
                      clear hje
                      go_wp2_with fail
                      go_ret2
                      exact ⟨_, _, rfl, HB0.out _ HB.out, fun _ => HAA.out⟩
            · have d1 : (rt == 1) = false := by simp [r1]
              have d2 : (rt != 1) = true := by simp [r1]
              go_wp2
              go_ret2
              exact ⟨_, _, rfl, HBW.out, fun e => by cases e⟩
end Go.Proofs.Ythhjhdmdfneegaa
namespace Go.Proofs.Ythhjhdmdfneegaa
set_option linter.unusedVariables false
set_option linter.unusedSimpArgs false
open Go.RowKit

def zOf (v : Value) : Int := match v with | .int .i64 z => z | _ => 0
def sOf (v : Value) : List UInt8 := match v with | .string s => s.data.toList | _ => []
def lst (F : Nat → GRw) (j : Nat) : List Int := (F j).xs.map zOf
def cel (F : Nat → GRw) (s q : Nat) : Value := (F s).xs.getD q undef
def insL (F : Nat → GRw) (f : Nat) : List SIn := (List.range (insM f)).map fun k => ⟨zOf (cel F (sN f 1) (k * 5)), zOf (cel F (sN f 1) (k * 5 + 1)), lst F (aN f k), zOf (cel F (sN f 1) (k * 5 + 3)), zOf (cel F (sN f 1) (k * 5 + 4))⟩
def blkL (F : Nat → GRw) (f : Nat) : List SB := (List.range (blkM f)).map fun k => ⟨lst F (bN f k 0), lst F (bN f k 1), zOf (cel F (sN f 2) (k * 5 + 2)), zOf (cel F (sN f 2) (k * 5 + 3)), lst F (bN f k 2)⟩
def funL (F : Nat → GRw) (f : Nat) : List UInt8 × SF := (sOf (cel F 0 (f * 5)), ⟨lst F (sN f 0), zOf (cel F 0 (f * 5 + 2)), insL F f, blkL F f⟩)
section
variable {w wr : World} {B fb : Nat} {mn : Int} {n : Nat} {F : Nat → GRw}
theorem PS.ci_ (h : PS w wr B fb mn n F) {s : Nat} {T : TypeId} {m : Nat} {P : Nat → CK} (hs : rk s = .st T m P) {g : Nat} (hg : F s = ⟨T, 5, .slice (some ⟨g, 0, none⟩) m m, m, (F s).xs⟩) {q : Nat} (hq : q < m * 5) (hP : P q = .i) : wr.cell? ⟨g, q, none⟩ = some (.int .i64 (zOf (cel F s q))) ∧ InG (zOf (cel F s q)) := by
  obtain ⟨v, h1, h2, h3, -⟩ := h.stat hs hg q hq
  rw [hP] at h2
  obtain ⟨x, rfl, hx⟩ := h2
  have e : cel F s q = .int .i64 x := by unfold cel; simp [List.getD, h1]
  rw [e]
  exact ⟨h3, hx⟩
theorem PS.cr_ (h : PS w wr B fb mn n F) {s : Nat} {T : TypeId} {m : Nat} {P : Nat → CK} (hs : rk s = .st T m P) {g : Nat} (hg : F s = ⟨T, 5, .slice (some ⟨g, 0, none⟩) m m, m, (F s).xs⟩) {q : Nat} (hq : q < m * 5) {j : Nat} (hP : P q = .r j) : wr.cell? ⟨g, q, none⟩ = some (F j).v := by
  obtain ⟨v, h1, h2, h3, -⟩ := h.stat hs hg q hq
  rw [hP] at h2
  have h2 : v = (F j).v := h2
  rw [← h2]
  exact h3
theorem lst_ints {l : List Int} : (intsV l).map zOf = l := by
  simp [intsV, zOf, Function.comp_def]
theorem PS.ls (h : PS w wr B fb mn n F) {j : Nat} (hj : rk j = .ints) : GNs wr.heap.size wr (F j).v (lst F j) ∧ (∀ x ∈ lst F j, InG x) ∧ (lst F j).length ≤ n := by
  obtain ⟨l, A, c, e, h1, h2, -⟩ := h.ir hj
  have ho := h.fam.at e
  have el : lst F j = l := by unfold lst; rw [congrArg GRw.xs e]; exact lst_ints
  rw [el, congrArg GRw.v e]
  exact ⟨GNs.of_own ho, h1, h2⟩
theorem range_get {α : Type} (m : Nat) (g : Nat → α) {j : Nat} {d : α} (h : ((List.range m).map g)[j]? = some d) : j < m ∧ d = g j := by
  rw [List.getElem?_map] at h
  by_cases hj : j < m
  · rw [List.getElem?_range hj] at h
    exact ⟨hj, (Option.some.inj h).symm⟩
  · rw [List.getElem?_eq_none (by simpa using hj)] at h
    cases h
theorem PS.sis (h : PS w wr B fb mn n F) {f : Nat} (hf : f < 2) : SIs wr.heap.size wr (F (sN f 1)).v (insL F f) := by
  obtain ⟨g, hg, hgl, -, -, -⟩ := h.st (rk_ins hf)
  have hlen : (insL F f).length = insM f := by simp [insL]
  refine ⟨some ⟨g, 0, none⟩, insM f, by rw [congrArg GRw.v hg, hlen], fun _ => ⟨g, 0, rfl, hgl, fun j d hd => ?_⟩⟩
  obtain ⟨hj, rfl⟩ := range_get _ _ hd
  have ha : rk (aN f j) = .ints := rk_far (by unfold aN; omega)
  have hP : ∀ t, t < 5 → t ≠ 2 → insP f (j * 5 + t) = .i := fun t h1 h2 => by unfold insP; rw [if_neg (by omega)]
  have hP2 : insP f (j * 5 + 2) = .r (aN f j) := by unfold insP; rw [if_pos (by omega), show (j * 5 + 2) / 5 = j by omega]
  rw [Nat.zero_add]
  exact ⟨(F (aN f j)).v, (h.ci_ (rk_ins hf) hg (by omega) (hP 0 (by omega) (by omega))).1, (h.ci_ (rk_ins hf) hg (by omega) (hP 1 (by omega) (by omega))).1, h.cr_ (rk_ins hf) hg (by omega) hP2, (h.ci_ (rk_ins hf) hg (by omega) (hP 3 (by omega) (by omega))).1, (h.ci_ (rk_ins hf) hg (by omega) (hP 4 (by omega) (by omega))).1, (h.ls ha).1⟩
theorem PS.sbs (h : PS w wr B fb mn n F) {f : Nat} (hf : f < 2) : SBs wr.heap.size wr (F (sN f 2)).v (blkL F f) := by
  obtain ⟨g, hg, hgl, -, -, -⟩ := h.st (rk_blk hf)
  have hlen : (blkL F f).length = blkM f := by simp [blkL]
  refine ⟨some ⟨g, 0, none⟩, blkM f, by rw [congrArg GRw.v hg, hlen], fun _ => ⟨g, 0, rfl, hgl, fun j d hd => ?_⟩⟩
  obtain ⟨hj, rfl⟩ := range_get _ _ hd
  have ha : ∀ t, rk (bN f j t) = .ints := fun t => rk_far (by unfold bN; omega)
  have hP : ∀ t, (t = 2 ∨ t = 3) → blkP f (j * 5 + t) = .i := fun t h1 => by unfold blkP; rw [if_neg (by omega), if_neg (by omega), if_neg (by omega)]
  have hP0 : blkP f (j * 5) = .r (bN f j 0) := by unfold blkP; rw [if_pos (by omega), show (j * 5) / 5 = j by omega]
  have hP1 : blkP f (j * 5 + 1) = .r (bN f j 1) := by unfold blkP; rw [if_neg (by omega), if_pos (by omega), show (j * 5 + 1) / 5 = j by omega]
  have hP4 : blkP f (j * 5 + 4) = .r (bN f j 2) := by unfold blkP; rw [if_neg (by omega), if_neg (by omega), if_pos (by omega), show (j * 5 + 4) / 5 = j by omega]
  rw [Nat.zero_add]
  exact ⟨(F (bN f j 0)).v, (F (bN f j 1)).v, (F (bN f j 2)).v, h.cr_ (rk_blk hf) hg (by omega) hP0, h.cr_ (rk_blk hf) hg (by omega) hP1, (h.ci_ (rk_blk hf) hg (by omega) (hP 2 (.inl rfl))).1, (h.ci_ (rk_blk hf) hg (by omega) (hP 3 (.inr rfl))).1, h.cr_ (rk_blk hf) hg (by omega) hP4, (h.ls (ha 0)).1, (h.ls (ha 1)).1, (h.ls (ha 2)).1⟩
theorem PS.cfs (h : PS w wr B fb mn n F) : CFs wr.heap.size wr (.slice (some ⟨fb, 0, none⟩) 2 2) [funL F 0, funL F 1] := by
  have hg := h.f0
  have hgl := ((h.fam.at hg).lt fb rfl).2
  refine ⟨some ⟨fb, 0, none⟩, 2, rfl, fun _ => ⟨fb, 0, rfl, hgl, fun j d hd => ?_⟩⟩
  have hj : j < 2 ∧ d = funL F j := by
    match j, hd with
    | 0, hd => exact ⟨by omega, (Option.some.inj hd).symm⟩
    | 1, hd => exact ⟨by omega, (Option.some.inj hd).symm⟩
  obtain ⟨hj, rfl⟩ := hj
  rw [Nat.zero_add]
  have hP0 : funP (j * 5) = .s := by unfold funP; rw [if_pos (by omega)]
  have hP1 : funP (j * 5 + 1) = .r (sN j 0) := by unfold funP; rw [if_neg (by omega), if_neg (by omega), if_pos (by omega), show (j * 5 + 1) / 5 = j by omega]
  have hP2 : funP (j * 5 + 2) = .i := by unfold funP; rw [if_neg (by omega), if_pos (by omega)]
  have hP3 : funP (j * 5 + 3) = .r (sN j 1) := by unfold funP; rw [if_neg (by omega), if_neg (by omega), if_neg (by omega), show (j * 5 + 3) / 5 = j by omega, show (j * 5 + 3) % 5 - 2 = 1 by omega]
  have hP4 : funP (j * 5 + 4) = .r (sN j 2) := by unfold funP; rw [if_neg (by omega), if_neg (by omega), if_neg (by omega), show (j * 5 + 4) / 5 = j by omega, show (j * 5 + 4) % 5 - 2 = 2 by omega]
  refine ⟨(F (sN j 0)).v, (F (sN j 1)).v, (F (sN j 2)).v, ?_, h.cr_ rk_fun hg (by omega) hP1, (h.ci_ rk_fun hg (by omega) hP2).1, h.cr_ rk_fun hg (by omega) hP3, h.cr_ rk_fun hg (by omega) hP4, (h.ls (rk_par hj)).1, h.sis hj, h.sbs hj⟩
  obtain ⟨v, h1, h2, h3, -⟩ := h.stat rk_fun hg (j * 5) (by omega)
  rw [hP0] at h2
  obtain ⟨s, rfl, -⟩ := h2
  have e : (funL F j).1 = s.data.toList := by unfold funL cel; simp [List.getD, h1, sOf]
  rw [h3, e]
theorem PS.name (h : PS w wr B fb mn n F) {f : Nat} (hf : f < 2) : (funL F f).1.length ≤ 4 := by
  obtain ⟨v, h1, h2, -, -⟩ := h.stat rk_fun h.f0 (f * 5) (by omega)
  have hP0 : funP (f * 5) = .s := by unfold funP; rw [if_pos (by omega)]
  rw [hP0] at h2
  obtain ⟨s, rfl, hs⟩ := h2
  have e : (funL F f).1 = s.data.toList := by unfold funL cel; simp [List.getD, h1, sOf]
  rw [e, Array.length_toList]
  exact hs
/-- What a changed program's function is, whatever it is. -/
structure ChOk (d : List UInt8 × SF) : Prop where
  fs : FS d.2
  nm : d.1.length ≤ 4
  cov : ∀ id, id < d.2.ins.length → ∃ k ∈ d.2.blocks, (id : Int) ∈ k.list
  n : ∀ x ∈ d.2.ins, InG x.n
  small : d.2.ins.length ≤ 15 ∧ d.2.blocks.length ≤ 4 ∧ (∀ x ∈ d.2.ins, x.args.length ≤ 9) ∧ ∀ k ∈ d.2.blocks, k.list.length ≤ 9 ∧ k.preds.length ≤ 9 ∧ k.to_.length ≤ 9
theorem PS.chOk (h : PS w wr B fb mn 9 F) {f : Nat} (hf : f < 2) : ChOk (funL F f) := by
  have hil : (insL F f).length = insM f := by simp [insL]
  have hbl : (blkL F f).length = blkM f := by simp [blkL]
  have h1 := insM_b f
  have h2 := blkM_b f
  have hI : ∀ x ∈ insL F f, ∃ j, j < insM f ∧ x = ⟨zOf (cel F (sN f 1) (j * 5)), zOf (cel F (sN f 1) (j * 5 + 1)), lst F (aN f j), zOf (cel F (sN f 1) (j * 5 + 3)), zOf (cel F (sN f 1) (j * 5 + 4))⟩ := fun x hx => by
    unfold insL at hx
    rw [List.mem_map] at hx
    obtain ⟨j, hj, e⟩ := hx
    exact ⟨j, List.mem_range.mp hj, e.symm⟩
  have hB : ∀ k ∈ blkL F f, ∃ j, j < blkM f ∧ k = ⟨lst F (bN f j 0), lst F (bN f j 1), zOf (cel F (sN f 2) (j * 5 + 2)), zOf (cel F (sN f 2) (j * 5 + 3)), lst F (bN f j 2)⟩ := fun x hx => by
    unfold blkL at hx
    rw [List.mem_map] at hx
    obtain ⟨j, hj, e⟩ := hx
    exact ⟨j, List.mem_range.mp hj, e.symm⟩
  have hb : ∀ j t, rk (bN f j t) = .ints := fun j t => rk_far (by unfold bN; omega)
  have ha : ∀ j, rk (aN f j) = .ints := fun j => rk_far (by unfold aN; omega)
  have sA : ∀ x ∈ insL F f, x.args.length ≤ 9 := fun x hx => by
    obtain ⟨j, -, rfl⟩ := hI x hx
    exact (h.ls (ha j)).2.2
  have sB : ∀ k ∈ blkL F f, (k.list.length ≤ 9 ∧ k.preds.length ≤ 9 ∧ k.to_.length ≤ 9) ∧ (∀ x ∈ k.preds, InG x) ∧ ∀ x ∈ k.to_, InG x := fun k hk => by
    obtain ⟨j, -, rfl⟩ := hB k hk
    exact ⟨⟨(h.ls (hb j 0)).2.2, (h.ls (hb j 1)).2.2, (h.ls (hb j 2)).2.2⟩, (h.ls (hb j 1)).2.1, (h.ls (hb j 2)).2.1⟩
  refine ⟨⟨?_, ?_, ?_, ?_, ?_, ?_, ?_, ?_, ?_⟩, h.name hf, ?_, ?_, ?_, ?_, ?_, ?_⟩
  · exact Nat.le_trans (h.ls (rk_par hf)).2.2 (by decide)
  · show (insL F f).length ≤ 1000; omega
  · show (blkL F f).length ≤ 1000; omega
  · exact fun x hx => Nat.le_trans (sA x hx) (by decide)
  · exact fun k hk => Nat.le_trans (sB k hk).1.1 (by decide)
  · exact fun k hk => Nat.le_trans (sB k hk).1.2.1 (by decide)
  · exact fun k hk => Nat.le_trans (sB k hk).1.2.2 (by decide)
  · exact fun k hk => (sB k hk).2.1
  · exact fun k hk => (sB k hk).2.2
  · intro id hid
    have hid : id < (insL F f).length := hid
    obtain ⟨k, hk, l, e, hm⟩ := h.ci.all f hf id (by omega)
    refine ⟨_, List.mem_map.mpr ⟨k, List.mem_range.mpr hk, rfl⟩, ?_⟩
    show (id : Int) ∈ lst F (bN f k 0)
    unfold lst
    rw [e, lst_ints]
    exact hm
  · intro x hx
    obtain ⟨j, hj, rfl⟩ := hI x hx
    obtain ⟨g, hg, -, -, -, -⟩ := h.st (rk_ins hf)
    exact (h.ci_ (rk_ins hf) hg (by omega) (by unfold insP; rw [if_neg (by omega)])).2
  · show (insL F f).length ≤ 15; omega
  · show (blkL F f).length ≤ 4; omega
  · exact sA
  · exact fun k hk => (sB k hk).1
end
/-- A changed program that may be has the form that is read again. -/
theorem chProgF {mn : Int} {fs : List (List UInt8 × SF)} (hc : ∀ d ∈ fs, ChOk d) (hp : PrOk mn fs) : ProgF mn fs := by
  refine ⟨⟨hp.mn.1, by have := hp.mn.2; have := hp.fl; show mn ≤ 256; omega⟩, hp.fl, fun d hd => ?_⟩
  obtain ⟨h1, h2, h3⟩ := hp.hd d hd
  have hf := hp.fn d hd
  have hk := hc d hd
  have hops : ∀ id (hid : id < d.2.ins.length), d.2.ins[id].op ≠ 0 ∧ 1 ≤ d.2.ins[id].op ∧ d.2.ins[id].op ≤ 36 := fun id hid => by
    obtain ⟨k, hkm, hm⟩ := hk.cov id hid
    have a := hf.li k hkm _ hm
    have b := hf.ph k hkm _ hm
    simp only [d0I, List.getD, Int.toNat_natCast, List.getElem?_eq_getElem hid, Option.getD_some] at a b
    exact ⟨a.2.2, b.1, b.2.1⟩
  refine ⟨Nat.le_trans hk.nm (by decide), ⟨h1, fun x hx => by have := h3 x hx; unfold OneF; omega⟩, ⟨h2.1, by show d.2.ret ≤ 4; omega⟩, ⟨Nat.le_trans hk.small.1 (by decide), fun x hx => ?_⟩, ⟨Nat.le_trans hk.small.2.1 (by decide), fun k hkm => ?_⟩⟩
  · obtain ⟨id, hid, rfl⟩ := List.getElem_of_mem hx
    obtain ⟨o0, o1, o2⟩ := hops id hid
    obtain ⟨⟨t1, t2⟩, ⟨u1, u2⟩, ar⟩ := hf.ty _ hx o0
    have hs := hk.small.1
    exact ⟨⟨by omega, by show d.2.ins[id].op ≤ 36; omega⟩, ⟨t1, by show d.2.ins[id].ty ≤ 4; omega⟩, ⟨Nat.le_trans (hk.small.2.2.1 _ hx) (by decide), fun a ha => by have := ar a ha; unfold OneF; omega⟩, hk.n _ hx, ⟨u1, by show d.2.ins[id].to_ ≤ 256; omega⟩⟩
  · obtain ⟨e1, e2, e3, e4, e5⟩ := hf.sh.2 k hkm
    obtain ⟨s1, s2, s3⟩ := hk.small.2.2.2 k hkm
    have hsb := hk.small.2.1
    have hsi := hk.small.1
    exact ⟨⟨Nat.le_trans s1 (by decide), fun x hx => by have := hf.li k hkm x hx; unfold OneF; omega⟩, ⟨Nat.le_trans s2 (by decide), fun x hx => by have := hf.pr k hkm x hx; unfold OneF; omega⟩, ⟨by omega, by show k.kind ≤ 3; omega⟩, by unfold OneF; omega, ⟨e4, fun x hx => by have := e1 x hx; unfold OneF; omega⟩⟩
/-- What stands wants. -/
theorem FOk.st {f : SF} (h : FOk f) : ∀ (hr : True), True := fun _ => trivial
end Go.Proofs.Ythhjhdmdfneegaa
