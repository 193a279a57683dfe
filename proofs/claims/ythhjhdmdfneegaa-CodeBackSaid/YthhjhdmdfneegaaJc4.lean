/-
  Programs as bytes: the writer: instruction, block.
  Programs as bytes: the writer: function.
-/
import Derived.Test.YthhjhdmdfneegaaJc2
import Derived.Test.YthhjhdmdfneegaaJc3
import Derived.Deep.RegionHeld
namespace Go.Proofs.Ythhjhdmdfneegaa
set_option linter.unusedVariables false
set_option linter.unusedSimpArgs false
open Go.RowKit

def cdIns (x : SIn) : List UInt8 := cdN (u64Q x.op) ++ (cdN (u64Q x.ty) ++ (cdRow x.args ++ (cdN (signQ x.n) ++ cdN (u64Q x.to_))))
def cdBlk (k : SB) : List UInt8 := cdRow k.list ++ (cdRow k.preds ++ (cdN (u64Q k.kind) ++ (cdN (u64Q (k.arg + 1)) ++ cdRow k.to_)))
theorem cdRow_len (l : List Int) : (cdRow l).length ≤ 10 + 10 * l.length := by
  have h1 := cdN_len l.length
  have h2 := cdOnes_len l
  unfold cdRow
  rw [List.length_append]
  omega
set_option maxRecDepth 100000 in
set_option maxHeartbeats 4000000 in
theorem block_w (base E n0 : Nat) (l : List UInt8) (k : SB) (lA pA tA : Option Addr) (ln lc pn pc tn tc : Nat) (w : World) (h : WrAt base E l w) (hl : GNs n0 w (.slice lA ln lc) k.list) (hp : GNs n0 w (.slice pA pn pc) k.preds) (ht : GNs n0 w (.slice tA tn tc) k.to_) (hn : n0 ≤ base)
    (hb : k.list.length ≤ 1048576 ∧ k.preds.length ≤ 1048576 ∧ k.to_.length ≤ 1048576) (hll : l.length ≤ 1098000000000) :
    Calls Try.prog 36 #[.pointer (some ⟨E, 0, none⟩), .agg #[.slice lA ln lc, .slice pA pn pc, .int .i64 k.kind, .int .i64 k.arg, .slice tA tn tc]] w (WrP base E (l ++ cdBlk k) w) := by
  obtain ⟨W, hW, hbW, hzW, h0W⟩ := gr_one w #[.slice lA ln lc, .slice pA pn pc, .int .i64 k.kind, .int .i64 k.arg, .slice tA tn tc] 51
  have hbase : base ≤ w.heap.size := by obtain ⟨_, _, _, _, h4⟩ := h; exact h4
  have hWa := h.keep hbW
  have b1 := cdRow_len k.list
  have b2 := cdRow_len k.preds
  have b3 := cdN_len (u64Q k.kind)
  have b4 := cdN_len (u64Q (k.arg + 1))
  have HC : Hid (∀ X, Kw base W X → (X.cell? ⟨w.heap.size, 0, none⟩ = some (.slice lA ln lc) ∧ X.cell? ⟨w.heap.size, 1, none⟩ = some (.slice pA pn pc) ∧ X.cell? ⟨w.heap.size, 2, none⟩ = some (.int .i64 k.kind) ∧ X.cell? ⟨w.heap.size, 3, none⟩ = some (.int .i64 k.arg) ∧ X.cell? ⟨w.heap.size, 4, none⟩ = some (.slice tA tn tc)) ∧ GNs n0 X (.slice pA pn pc) k.preds ∧ GNs n0 X (.slice tA tn tc) k.to_) := Lib.hid fun X hX => by
    have e := hX.k _ _ _ _ h0W (by decide)
    have hbX : Below n0 w X := (hbW.mono (Nat.le_trans hn hbase)).trans (hX.b.mono hn)
    exact ⟨⟨Lib.cell_of_heap e 0, Lib.cell_of_heap e 1, Lib.cell_of_heap e 2, Lib.cell_of_heap e 3, Lib.cell_of_heap e 4⟩, hp.keep hbX, ht.keep hbX⟩
  obtain ⟨⟨x0, x1, x2, x3, x4⟩, -, -⟩ := HC.out W (Kq.refl _ _ _)
  have hR := row_w base E n0 l lA ln lc k.list W hWa (hl.keep (hbW.mono (Nat.le_trans hn hbase))) hn hb.1 (by omega)
  have HKW : Hid (Kw base w W) := Lib.hid (Kq.of_below hbW hbase)
  have HW := Lib.hid hW
  have Hb := Lib.hid hb
  have Hn := Lib.hid hn
  have Hll := Lib.hid hll
  have Hbb := Lib.hid (And.intro b1 (And.intro b2 (And.intro b3 b4)))
  clear h hl hp ht hW hbW hzW h0W hbase hWa b1 b2 b3 b4 hb hn hll
  go_enter Try.func36, Try.ntmps36
  go_upto_region 1 with fail
  rw [← HW.out]
  go_upto_region 2 with (go_at_call 34; refine hR.mono ?_; rintro e w1 ⟨rfl, h1, k1⟩; have H1 := Lib.hid h1; have K1 := Lib.hid k1; clear h1 k1 hR)
  clear x0 x1 x2 x3 x4
  obtain ⟨⟨x0, x1, x2, x3, x4⟩, g1, g2⟩ := HC.out w1 K1.out
  have hR := row_w base E n0 (l ++ cdRow k.list) pA pn pc k.preds w1 H1.out g1 Hn.out Hb.out.2.1 (by have := Hbb.out.1; have := Hll.out; have := Hb.out.1; simp only [List.length_append]; omega)
  clear g1 g2
  go_upto_region 3 with (go_at_call 34; refine hR.mono ?_; rintro e w2 ⟨rfl, h1, k1⟩; have H2 := Lib.hid h1; have K2 := Lib.hid (K1.out.trans k1); clear h1 k1 hR)
  clear x0 x1 x2 x3 x4
  obtain ⟨⟨x0, x1, x2, x3, x4⟩, g1, g2⟩ := HC.out w2 K2.out
  have hN := number_w base E (l ++ cdRow k.list ++ cdRow k.preds) k.kind w2 H2.out (by have := Hbb.out; have := Hll.out; have := Hb.out; simp only [List.length_append]; omega)
  clear g1 g2
  go_upto_region 4 with (go_at_call 14; refine hN.mono ?_; rintro e w3 ⟨rfl, h1, k1⟩; have H3 := Lib.hid h1; have K3 := Lib.hid (K2.out.trans k1); clear h1 k1 hN)
  clear x0 x1 x2 x3 x4
  obtain ⟨⟨x0, x1, x2, x3, x4⟩, g1, g2⟩ := HC.out w3 K3.out
  have hO := one_w base E (l ++ cdRow k.list ++ cdRow k.preds ++ cdN (u64Q k.kind)) k.arg w3 H3.out (by have := Hbb.out; have := Hll.out; have := Hb.out; simp only [List.length_append]; omega)
  clear g1 g2
  go_upto_region 5 with (go_at_call 58; refine hO.mono ?_; rintro e w4 ⟨rfl, h1, k1⟩; have H4 := Lib.hid h1; have K4 := Lib.hid (K3.out.trans k1); clear h1 k1 hO)
  clear x0 x1 x2 x3 x4
  obtain ⟨⟨x0, x1, x2, x3, x4⟩, g1, g2⟩ := HC.out w4 K4.out
  have hR := row_w base E n0 (l ++ cdRow k.list ++ cdRow k.preds ++ cdN (u64Q k.kind) ++ cdN (u64Q (k.arg + 1))) tA tn tc k.to_ w4 H4.out g2 Hn.out Hb.out.2.2 (by have := Hbb.out; have := Hll.out; have := Hb.out; simp only [List.length_append]; omega)
  have e : l ++ cdRow k.list ++ cdRow k.preds ++ cdN (u64Q k.kind) ++ cdN (u64Q (k.arg + 1)) ++ cdRow k.to_ = l ++ cdBlk k := by unfold cdBlk; simp
  rw [e] at hR
  clear g1 g2 e
  go_wp2_with (go_at_call 34; refine hR.mono ?_; rintro e w5 ⟨rfl, h1, k1⟩; have H5 := Lib.hid h1; have K5 := Lib.hid (K4.out.trans k1); clear h1 k1 hR)
  try simp only [Exit.inBlock, Exit.then]
  first
    | refine bodyPost_ret (results_none rfl _ _ _) rfl ?_
    | refine bodyPost_end (results_none rfl _ _ _) rfl ?_
  exact ⟨rfl, H5.out, HKW.out.trans K5.out⟩
set_option maxRecDepth 100000 in
set_option maxHeartbeats 4000000 in
theorem instruction_w (base E n0 : Nat) (l : List UInt8) (x : SIn) (aA : Option Addr) (an ac : Nat) (w : World) (h : WrAt base E l w) (ha : GNs n0 w (.slice aA an ac) x.args) (hn : n0 ≤ base) (hxn : InG x.n)
    (hb : x.args.length ≤ 1048576) (hll : l.length ≤ 1098000000000) :
    Calls Try.prog 35 #[.pointer (some ⟨E, 0, none⟩), .agg #[.int .i64 x.op, .int .i64 x.ty, .slice aA an ac, .int .i64 x.n, .int .i64 x.to_]] w (WrP base E (l ++ cdIns x) w) := by
  obtain ⟨W, hW, hbW, hzW, h0W⟩ := gr_one w #[.int .i64 x.op, .int .i64 x.ty, .slice aA an ac, .int .i64 x.n, .int .i64 x.to_] 46
  obtain ⟨hbase, hbE, hEw⟩ : base ≤ w.heap.size ∧ base ≤ E ∧ E < w.heap.size := by obtain ⟨_, h1, _, h3, h4⟩ := h; exact ⟨h4, h3, gr_in h1⟩
  have hWa := h.keep hbW
  have b1 := cdRow_len x.args
  have b2 := cdN_len (u64Q x.op)
  have b3 := cdN_len (u64Q x.ty)
  have HC : Hid (∀ X, Kw base W X → (X.cell? ⟨w.heap.size, 0, none⟩ = some (.int .i64 x.op) ∧ X.cell? ⟨w.heap.size, 1, none⟩ = some (.int .i64 x.ty) ∧ X.cell? ⟨w.heap.size, 2, none⟩ = some (.slice aA an ac) ∧ X.cell? ⟨w.heap.size, 3, none⟩ = some (.int .i64 x.n) ∧ X.cell? ⟨w.heap.size, 4, none⟩ = some (.int .i64 x.to_)) ∧ GNs n0 X (.slice aA an ac) x.args) := Lib.hid fun X hX => by
    have e := hX.k _ _ _ _ h0W (by decide)
    have hbX : Below n0 w X := (hbW.mono (Nat.le_trans hn hbase)).trans (hX.b.mono hn)
    exact ⟨⟨Lib.cell_of_heap e 0, Lib.cell_of_heap e 1, Lib.cell_of_heap e 2, Lib.cell_of_heap e 3, Lib.cell_of_heap e 4⟩, ha.keep hbX⟩
  have HCh : Hid (∀ X, Kw base W X → X.heap[w.heap.size]? = some (.cells #[.int .i64 x.op, .int .i64 x.ty, .slice aA an ac, .int .i64 x.n, .int .i64 x.to_] 46 (0, 0))) := Lib.hid fun X hX => hX.k _ _ _ _ h0W (by decide)
  obtain ⟨⟨x0, x1, x2, x3, x4⟩, -⟩ := HC.out W (Kq.refl _ _ _)
  have hN := number_w base E l x.op W hWa (by omega)
  have HKW : Hid (Kw base w W) := Lib.hid (Kq.of_below hbW hbase)
  have HW := Lib.hid hW
  have Hb := Lib.hid hb
  have Hn := Lib.hid hn
  have Hll := Lib.hid hll
  have HbE := Lib.hid hbE
  have HEB : Hid (E ≠ w.heap.size) := Lib.hid (by omega)
  have Hbb := Lib.hid (And.intro b1 (And.intro b2 b3))
  have HSg : Hid (∀ X, Calls Try.prog 59 #[.int .i64 x.n] X fun e w' => e = .returned (.int .u64 (signQ x.n : Int)) ∧ w' = X) := Lib.hid fun X => sign_c x.n hxn X
  have Hsl := Lib.hid (signQ_lt x.n hxn)
  clear h ha hW hbW hzW h0W hbase hWa b1 b2 b3 hb hn hll hbE hEw hxn
  go_enter Try.func35, Try.ntmps35
  go_upto_region 1 with fail
  rw [← HW.out]
  go_upto_region 2 with (go_at_call 14; refine hN.mono ?_; rintro e w1 ⟨rfl, h1, k1⟩; have H1 := Lib.hid h1; have K1 := Lib.hid k1; clear h1 k1 hN)
  clear x0 x1 x2 x3 x4
  obtain ⟨⟨x0, x1, x2, x3, x4⟩, g1⟩ := HC.out w1 K1.out
  have hN := number_w base E (l ++ cdN (u64Q x.op)) x.ty w1 H1.out (by have := Hbb.out; have := Hll.out; simp only [List.length_append]; omega)
  clear g1
  go_upto_region 3 with (go_at_call 14; refine hN.mono ?_; rintro e w2 ⟨rfl, h1, k1⟩; have H2 := Lib.hid h1; have K2 := Lib.hid (K1.out.trans k1); clear h1 k1 hN)
  clear x0 x1 x2 x3 x4
  obtain ⟨⟨x0, x1, x2, x3, x4⟩, g1⟩ := HC.out w2 K2.out
  have hR := row_w base E n0 (l ++ cdN (u64Q x.op) ++ cdN (u64Q x.ty)) aA an ac x.args w2 H2.out g1 Hn.out Hb.out (by have := Hbb.out; have := Hll.out; simp only [List.length_append]; omega)
  clear g1
  go_upto_region 4 with (go_at_call 34; refine hR.mono ?_; rintro e w3 ⟨rfl, h1, k1⟩; have H3 := Lib.hid h1; have K3 := Lib.hid (K2.out.trans k1); clear h1 k1 hR)
  clear x0 x1 x2 x3 x4
  obtain ⟨⟨x0, x1, x2, x3, x4⟩, -⟩ := HC.out w3 K3.out
  obtain ⟨m, hm⟩ : ∃ m, m = l ++ cdN (u64Q x.op) ++ cdN (u64Q x.ty) ++ cdRow x.args := ⟨_, rfl⟩
  rw [← hm] at H3
  have h3 := H3.out
  obtain ⟨v3, e3, ho3, -, hb3⟩ := h3
  obtain ⟨A3, c3, rfl⟩ := gr_slice ho3
  have y0 := Lib.cell_of_heap e3 0
  have Hm := Lib.hid hm
  have Hb3 := Lib.hid hb3
  have hA := addNum_c base (.slice A3 m.length c3) m (signQ x.n) w3.drew Hsl.out ho3 (by rw [hm]; have := Hbb.out; have := Hll.out; have := Hb.out; simp only [List.length_append]; omega) hb3
  obtain ⟨m4, hm4⟩ : ∃ m4, m4 = m ++ cdN (signQ x.n) := ⟨_, rfl⟩
  rw [← hm4] at hA
  have Hm4 := Lib.hid hm4
  have HE3 : Hid (w3.drew.heap[E]? = some (.cells #[.slice A3 m.length c3] 58 (0, 0))) := Lib.hid e3
  have HB3 : Hid (w3.drew.heap[w.heap.size]? = some (.cells #[.int .i64 x.op, .int .i64 x.ty, .slice aA an ac, .int .i64 x.n, .int .i64 x.to_] 46 (0, 0))) := Lib.hid (HCh.out w3 K3.out)
  obtain ⟨sg, hsg⟩ : ∃ sg, sg = signQ x.n := ⟨_, rfl⟩
  rw [← hsg] at hA HSg
  clear hm hm4 e3 ho3 hb3 hsg
  refine wp_region_held_drew (S := fun u : World => u.cell? ⟨w.heap.size, 3, none⟩ = some (.int .i64 x.n)) (by kernel_rfl) x3 (fun hHeld => ?_)
  refine wpAnyH_take (i := 0) (v := ?_) rfl (by kernel_rfl) (by kernel_rfl) (by kernel_rfl) (fun _ _ _ h => h) (Or.inl ⟨by kernel_rfl, ?_⟩) (by assumption) ?_
  rotate_left
  · (intro w hSw; (try dsimp only at hSw); first | (go_simp; done) | (go_simp; with_reducible rfl))
  try simp only [Act.put, List.setIfInBounds_toArray, List.set_cons_zero, List.set_cons_succ]
  refine wpAnyH_take (i := 1) (v := ?_) rfl (by kernel_rfl) (by kernel_rfl) (by kernel_rfl) (fun _ _ _ h => h) (Or.inl ⟨by kernel_rfl, ?_⟩) (by assumption) ?_
  rotate_left
  · (intro w hSw; (try dsimp only at hSw); first | (go_simp; done) | (go_simp; with_reducible rfl))
  try simp only [Act.put, List.setIfInBounds_toArray, List.set_cons_zero, List.set_cons_succ]
  refine wpAnyH_take (i := 2) (v := ?_) rfl (by kernel_rfl) (by kernel_rfl) (by kernel_rfl) (fun _ _ _ h => h) (Or.inl ⟨by kernel_rfl, ?_⟩) (by assumption) ?_
  rotate_left
  · (intro w hSw; (try dsimp only at hSw); first | (go_simp; done) | (go_simp; with_reducible rfl))
  try simp only [Act.put, List.setIfInBounds_toArray, List.set_cons_zero, List.set_cons_succ]
  refine wpAnyH_take (i := 3) (v := ?_) rfl (by kernel_rfl) (by kernel_rfl) (by kernel_rfl) (fun _ _ _ h => h) (Or.inl ⟨by kernel_rfl, ?_⟩) (by assumption) ?_
  rotate_left
  · (intro w hSw; (try dsimp only at hSw); first | (go_simp; done) | (go_simp; with_reducible rfl))
  try simp only [Act.put, List.setIfInBounds_toArray, List.set_cons_zero, List.set_cons_succ]
  refine wpAnyH_take (i := 5) (v := ?_) rfl (by kernel_rfl) (by kernel_rfl) (by kernel_rfl) (fun _ _ _ h => h) (Or.inl ⟨by kernel_rfl, ?_⟩) (by assumption) ?_
  rotate_left
  · (intro w hSw; (try dsimp only at hSw); first | (go_simp; done) | (go_simp; with_reducible rfl))
  try simp only [Act.put, List.setIfInBounds_toArray, List.set_cons_zero, List.set_cons_succ]
  refine wpAnyH_take (i := 6) (v := ?_) rfl (by kernel_rfl) (by kernel_rfl) (by kernel_rfl) (fun _ _ _ h => h) (Or.inl ⟨by kernel_rfl, ?_⟩) (by assumption) ?_
  rotate_left
  · (intro w hSw; (try dsimp only at hSw); first | (go_simp; done) | (go_simp; with_reducible rfl))
  try simp only [Act.put, List.setIfInBounds_toArray, List.set_cons_zero, List.set_cons_succ]
  refine wpAnyH_ready (rs := [4, 7]) (by kernel_rfl) (by simp) ?_
  refine AllReadyH.cons rfl (fun K hK => ?_) (AllReadyH.cons rfl (fun K hK => ?_) (AllReadyH.nil))
  · have hs0 : w3.drew.cell? ⟨w.heap.size, 3, none⟩ = some (.int .i64 x.n) := x3
    have s0 : w3.drew.cell? ⟨E, 0, none⟩ = some (.slice A3 m.length c3) := y0
    go_simp
    refine hK.out _ _ ?_ (fun hHeld => ?_)
    · ((try dsimp only); first | with_reducible assumption | exact hs0 | exact hs1 | exact hs2 | exact hs3)
    clear hK K
    try simp only [Act.put, List.setIfInBounds_toArray, List.set_cons_zero, List.set_cons_succ]
    refine wpAnyH_ready (rs := [7]) (by kernel_rfl) (by simp) ?_
    refine AllReadyH.cons rfl (fun K hK => ?_) (AllReadyH.nil)
    have hs0 : w3.drew.cell? ⟨w.heap.size, 3, none⟩ = some (.int .i64 x.n) := x3
    go_simp
    refine (HSg.out _).mono ?_
    rintro e wz ⟨rfl, rfl⟩
    try dsimp only
    refine hK.out _ _ ?_ (fun hHeld => ?_)
    · ((try dsimp only); first | with_reducible assumption | exact hs0 | exact hs1 | exact hs2 | exact hs3)
    clear hK K
    try simp only [Act.put, List.setIfInBounds_toArray, List.set_cons_zero, List.set_cons_succ]
    refine wpAnyH_ready (rs := [8]) (by kernel_rfl) (by simp) ?_
    refine AllReadyH.cons rfl (fun K hK => ?_) (AllReadyH.nil)
    go_simp
    refine hA.mono ?_
    rintro e w4 ⟨v4, rfl, ho4, hk4⟩
    obtain ⟨A4, c4, rfl⟩ := gr_slice ho4
    have e4 := hk4.k _ _ _ _ HE3.out (by decide)
    have hs1 : w4.cell? ⟨w.heap.size, 3, none⟩ = some (.int .i64 x.n) := Lib.cell_of_heap (hk4.k _ _ _ _ HB3.out (by decide)) 3
    have yf4 := Lib.frozen_of_heap e4 0
    have y04 := Lib.cell_of_heap e4 0
    have HE4 := Lib.hid e4
    have HO4 := Lib.hid ho4
    have HK4 := Lib.hid hk4
    clear e4 ho4 hk4 hA
    try dsimp only
    refine hK.out _ _ ?_ (fun hHeld => ?_)
    · ((try dsimp only); first | with_reducible assumption | exact hs0 | exact hs1 | exact hs2 | exact hs3)
    clear hK K
    try simp only [Act.put, List.setIfInBounds_toArray, List.set_cons_zero, List.set_cons_succ]
    refine wpAnyH_take (i := 9) (v := ?_) rfl (by kernel_rfl) (by kernel_rfl) (by kernel_rfl) (fun _ _ _ h => h) (Or.inl ⟨by kernel_rfl, ?_⟩) (by assumption) ?_
    rotate_left
    · (intro w hSw; (try dsimp only at hSw); first | (go_simp; done) | (go_simp; with_reducible rfl))
    try simp only [Act.put, List.setIfInBounds_toArray, List.set_cons_zero, List.set_cons_succ]
    refine wpAnyH_take (i := 10) (v := ?_) rfl (by kernel_rfl) (by kernel_rfl) (by kernel_rfl) (fun _ _ _ h => h) (Or.inl ⟨by kernel_rfl, ?_⟩) (by assumption) ?_
    rotate_left
    · (intro w hSw; (try dsimp only at hSw); first | (go_simp; done) | (go_simp; with_reducible rfl))
    try simp only [Act.put, List.setIfInBounds_toArray, List.set_cons_zero, List.set_cons_succ]
    refine wpAnyH_ready (rs := [11]) (by kernel_rfl) (by simp) ?_
    refine AllReadyH.cons rfl (fun K hK => ?_) (AllReadyH.nil)
    have hs2 : (w4.setCell ⟨E, 0, none⟩ (.slice A4 m4.length c4)).cell? ⟨w.heap.size, 3, none⟩ = some (.int .i64 x.n) := (World.cell?_setCell_other _ _ _ _ (fun e => HEB.out (congrArg Addr.block e))).trans hs1
    go_simp
    refine hK.out _ _ ?_ (fun hHeld => ?_)
    · ((try dsimp only); first | with_reducible assumption | exact hs0 | exact hs1 | exact hs2 | exact hs3)
    clear hK K
    try simp only [Act.put, List.setIfInBounds_toArray, List.set_cons_zero, List.set_cons_succ]
    refine wpAnyH_done (by kernel_rfl) ?_ _
    clear y04 yf4 hs1 hs2
    have hs := WrAt.of_set (l := m4) HE4.out rfl HO4.out HbE.out
    have H4 := Lib.hid hs.1
    have K4 := Lib.hid (K3.out.trans ((Kq.of_below ((Below.refl w3.heap.size w3).drew) Hb3.out).trans (HK4.out.w.trans hs.2)))
    obtain ⟨X, hX⟩ : ∃ X, X = w4.setCell ⟨E, 0, none⟩ (.slice A4 m4.length c4) := ⟨_, rfl⟩
    rw [← hX] at H4 K4 hs ⊢
    clear hs hX
    clear x0 x1 x2 x3 x4
    obtain ⟨⟨x0, x1, x2, x3, x4⟩, -⟩ := HC.out X K4.out
    have hN := number_w base E m4 x.to_ X H4.out (by rw [Hm4.out, Hm.out]; have := Hbb.out; have := Hll.out; have := Hb.out; have := cdN_len (signQ x.n); simp only [List.length_append]; omega)
    have e : m4 ++ cdN (u64Q x.to_) = l ++ cdIns x := by rw [Hm4.out, Hm.out]; unfold cdIns; simp
    rw [e] at hN
    clear e
    go_wp2_with (go_at_call 14; refine hN.mono ?_; rintro e w5 ⟨rfl, h1, k1⟩; have H5 := Lib.hid h1; have K5 := Lib.hid (K4.out.trans k1); clear h1 k1 hN)
    try simp only [Exit.inBlock, Exit.then]
    first
      | refine bodyPost_ret (results_none rfl _ _ _) rfl ?_
      | refine bodyPost_end (results_none rfl _ _ _) rfl ?_
    exact ⟨rfl, H5.out, HKW.out.trans K5.out⟩
  · have hs0 : w3.drew.cell? ⟨w.heap.size, 3, none⟩ = some (.int .i64 x.n) := x3
    go_simp
    refine (HSg.out _).mono ?_
    rintro e wz ⟨rfl, rfl⟩
    try dsimp only
    refine hK.out _ _ ?_ (fun hHeld => ?_)
    · ((try dsimp only); first | with_reducible assumption | exact hs0 | exact hs1 | exact hs2 | exact hs3)
    clear hK K
    try simp only [Act.put, List.setIfInBounds_toArray, List.set_cons_zero, List.set_cons_succ]
    refine wpAnyH_ready (rs := [4]) (by kernel_rfl) (by simp) ?_
    refine AllReadyH.cons rfl (fun K hK => ?_) (AllReadyH.nil)
    have hs0 : w3.drew.cell? ⟨w.heap.size, 3, none⟩ = some (.int .i64 x.n) := x3
    have s0 : w3.drew.cell? ⟨E, 0, none⟩ = some (.slice A3 m.length c3) := y0
    go_simp
    refine hK.out _ _ ?_ (fun hHeld => ?_)
    · ((try dsimp only); first | with_reducible assumption | exact hs0 | exact hs1 | exact hs2 | exact hs3)
    clear hK K
    try simp only [Act.put, List.setIfInBounds_toArray, List.set_cons_zero, List.set_cons_succ]
    refine wpAnyH_ready (rs := [8]) (by kernel_rfl) (by simp) ?_
    refine AllReadyH.cons rfl (fun K hK => ?_) (AllReadyH.nil)
    go_simp
    refine hA.mono ?_
    rintro e w4 ⟨v4, rfl, ho4, hk4⟩
    obtain ⟨A4, c4, rfl⟩ := gr_slice ho4
    have e4 := hk4.k _ _ _ _ HE3.out (by decide)
    have hs1 : w4.cell? ⟨w.heap.size, 3, none⟩ = some (.int .i64 x.n) := Lib.cell_of_heap (hk4.k _ _ _ _ HB3.out (by decide)) 3
    have yf4 := Lib.frozen_of_heap e4 0
    have y04 := Lib.cell_of_heap e4 0
    have HE4 := Lib.hid e4
    have HO4 := Lib.hid ho4
    have HK4 := Lib.hid hk4
    clear e4 ho4 hk4 hA
    try dsimp only
    refine hK.out _ _ ?_ (fun hHeld => ?_)
    · ((try dsimp only); first | with_reducible assumption | exact hs0 | exact hs1 | exact hs2 | exact hs3)
    clear hK K
    try simp only [Act.put, List.setIfInBounds_toArray, List.set_cons_zero, List.set_cons_succ]
    refine wpAnyH_take (i := 9) (v := ?_) rfl (by kernel_rfl) (by kernel_rfl) (by kernel_rfl) (fun _ _ _ h => h) (Or.inl ⟨by kernel_rfl, ?_⟩) (by assumption) ?_
    rotate_left
    · (intro w hSw; (try dsimp only at hSw); first | (go_simp; done) | (go_simp; with_reducible rfl))
    try simp only [Act.put, List.setIfInBounds_toArray, List.set_cons_zero, List.set_cons_succ]
    refine wpAnyH_take (i := 10) (v := ?_) rfl (by kernel_rfl) (by kernel_rfl) (by kernel_rfl) (fun _ _ _ h => h) (Or.inl ⟨by kernel_rfl, ?_⟩) (by assumption) ?_
    rotate_left
    · (intro w hSw; (try dsimp only at hSw); first | (go_simp; done) | (go_simp; with_reducible rfl))
    try simp only [Act.put, List.setIfInBounds_toArray, List.set_cons_zero, List.set_cons_succ]
    refine wpAnyH_ready (rs := [11]) (by kernel_rfl) (by simp) ?_
    refine AllReadyH.cons rfl (fun K hK => ?_) (AllReadyH.nil)
    have hs2 : (w4.setCell ⟨E, 0, none⟩ (.slice A4 m4.length c4)).cell? ⟨w.heap.size, 3, none⟩ = some (.int .i64 x.n) := (World.cell?_setCell_other _ _ _ _ (fun e => HEB.out (congrArg Addr.block e))).trans hs1
    go_simp
    refine hK.out _ _ ?_ (fun hHeld => ?_)
    · ((try dsimp only); first | with_reducible assumption | exact hs0 | exact hs1 | exact hs2 | exact hs3)
    clear hK K
    try simp only [Act.put, List.setIfInBounds_toArray, List.set_cons_zero, List.set_cons_succ]
    refine wpAnyH_done (by kernel_rfl) ?_ _
    clear y04 yf4 hs1 hs2
    have hs := WrAt.of_set (l := m4) HE4.out rfl HO4.out HbE.out
    have H4 := Lib.hid hs.1
    have K4 := Lib.hid (K3.out.trans ((Kq.of_below ((Below.refl w3.heap.size w3).drew) Hb3.out).trans (HK4.out.w.trans hs.2)))
    obtain ⟨X, hX⟩ : ∃ X, X = w4.setCell ⟨E, 0, none⟩ (.slice A4 m4.length c4) := ⟨_, rfl⟩
    rw [← hX] at H4 K4 hs ⊢
    clear hs hX
    clear x0 x1 x2 x3 x4
    obtain ⟨⟨x0, x1, x2, x3, x4⟩, -⟩ := HC.out X K4.out
    have hN := number_w base E m4 x.to_ X H4.out (by rw [Hm4.out, Hm.out]; have := Hbb.out; have := Hll.out; have := Hb.out; have := cdN_len (signQ x.n); simp only [List.length_append]; omega)
    have e : m4 ++ cdN (u64Q x.to_) = l ++ cdIns x := by rw [Hm4.out, Hm.out]; unfold cdIns; simp
    rw [e] at hN
    clear e
    go_wp2_with (go_at_call 14; refine hN.mono ?_; rintro e w5 ⟨rfl, h1, k1⟩; have H5 := Lib.hid h1; have K5 := Lib.hid (K4.out.trans k1); clear h1 k1 hN)
    try simp only [Exit.inBlock, Exit.then]
    first
      | refine bodyPost_ret (results_none rfl _ _ _) rfl ?_
      | refine bodyPost_end (results_none rfl _ _ _) rfl ?_
    exact ⟨rfl, H5.out, HKW.out.trans K5.out⟩
end Go.Proofs.Ythhjhdmdfneegaa
namespace Go.Proofs.Ythhjhdmdfneegaa
set_option linter.unusedVariables false
set_option linter.unusedSimpArgs false
open Go.RowKit

def cdInss (l : List SIn) : List UInt8 := l.flatMap cdIns
def cdBlks (l : List SB) : List UInt8 := l.flatMap cdBlk
def cdFn (nm : List UInt8) (f : SF) : List UInt8 := cdN nm.length ++ (nm ++ (cdRow f.params ++ (cdN (u64Q f.ret) ++ (cdN f.ins.length ++ (cdInss f.ins ++ (cdN f.blocks.length ++ cdBlks f.blocks))))))
theorem cdInss_more (l : List SIn) (i : Nat) (h : i < l.length) : cdInss (l.take (i + 1)) = cdInss (l.take i) ++ cdIns l[i] := by
  unfold cdInss
  rw [take_q l i h, List.flatMap_append]
  simp
theorem cdBlks_more (l : List SB) (i : Nat) (h : i < l.length) : cdBlks (l.take (i + 1)) = cdBlks (l.take i) ++ cdBlk l[i] := by
  unfold cdBlks
  rw [take_q l i h, List.flatMap_append]
  simp
theorem flat_pre_len {α : Type} (f : α → List UInt8) (l : List α) (i : Nat) : ((l.take i).flatMap f).length ≤ (l.flatMap f).length := by
  conv => rhs; rw [← List.take_append_drop i l, List.flatMap_append, List.length_append]
  omega
theorem step_str {ops : Array Oper} {o : Oper} {a : Act} {w : World} {K : Act → World → Prop} {Q : Exit → Act → World → Prop} {X : Prop} (hgd : o.guard = none) (s x : Operand) (t : TypeId) (ht : Try.prog.underlying t = some .string)
    (ho : o.op = .call { callee := .builtin .append, args := #[s, x], argTypes := #[56, t] }) (base : Nat) (v : Value) (l m : List UInt8) (hs : a.eval s = v) (hown : w.ownsRow base 5 1 v l.length (bcV l))
    (hx : a.eval x = .string ⟨m.toArray⟩) (hl : l.length + m.length ≤ 1099511627800) (hb : base ≤ w.heap.size)
    (h : ∀ v' w', w'.ownsRow base 5 1 v' (l ++ m).length (bcV (l ++ m)) → Kb base w w' → K (a.put o.dst v') w') : if Region.wanted o (yielded ops a.tmps) = true then Oper.wp Try.prog o a w K Q else X := by
  have hw : Region.wanted o (yielded ops a.tmps) = true := by simp [Region.wanted, hgd]
  rw [if_pos hw]
  obtain ⟨i0, hi0, hz0, hz1, hz2⟩ := info_parts infoU8
  have hs' : (⟨m.toArray⟩ : ByteArray).size = m.length := by simp [ByteArray.size]
  obtain ⟨v', w', hr, h2, h3, h4⟩ := Lib.run_append_own_string (P := Try.prog) w base 56 t o.type 5 i0 Try.underlying56 ht hi0 hz0 hz1 hz2 v l.length (bcV l) hown ⟨m.toArray⟩ (by rw [hs']; unfold maxLen; omega) (by rw [hs']; omega) hb
  unfold Oper.wp execOp
  simp only [ho, resolve, invoke, builtin, Sem.run_bind, Sem.run_pure, Result.andThen_ok, List.map_toArray, List.map_cons, List.map_nil, hs, hx, hr]
  refine h _ _ ?_ (Kq.of_grown hown hb h3)
  have e : Lib.strCells ⟨m.toArray⟩ = bcV m := by simp [Lib.strCells, bcV]
  rw [e, hs'] at h2
  rw [List.length_append, show bcV (l ++ m) = bcV l ++ bcV m by simp [bcV]]
  exact h2
set_option maxRecDepth 100000 in
set_option maxHeartbeats 16000000 in
theorem function_w (base E n0 : Nat) (l nm : List UInt8) (f : SF) (pA iA bA : Option Addr) (pn pc in_ ic bn bc : Nat) (w : World) (h : WrAt base E l w) (hp : GNs n0 w (.slice pA pn pc) f.params) (hi : SIs n0 w (.slice iA in_ ic) f.ins) (hb : SBs n0 w (.slice bA bn bc) f.blocks) (hin : in_ = f.ins.length) (hbn : bn = f.blocks.length) (hn : n0 ≤ base)
    (hbd : f.params.length ≤ 1048576 ∧ f.ins.length ≤ 1048576 ∧ f.blocks.length ≤ 1048576) (hx : ∀ x ∈ f.ins, InG x.n ∧ x.args.length ≤ 1048576) (hk : ∀ k ∈ f.blocks, k.list.length ≤ 1048576 ∧ k.preds.length ≤ 1048576 ∧ k.to_.length ≤ 1048576) (hll : (l ++ cdFn nm f).length ≤ 1098000000000) :
    Calls Try.prog 15 #[.pointer (some ⟨E, 0, none⟩), .agg #[.string ⟨nm.toArray⟩, .slice pA pn pc, .int .i64 f.ret, .slice iA in_ ic, .slice bA bn bc]] w (WrP base E (l ++ cdFn nm f) w) := by
  obtain ⟨W, hW, hbW, hzW, h0W⟩ := gr_one w #[.string ⟨nm.toArray⟩, .slice pA pn pc, .int .i64 f.ret, .slice iA in_ ic, .slice bA bn bc] 43
  obtain ⟨hbase, hbE, hEw⟩ : base ≤ w.heap.size ∧ base ≤ E ∧ E < w.heap.size := by obtain ⟨_, h1, _, h3, h4⟩ := h; exact ⟨h4, h3, gr_in h1⟩
  have hWa := h.keep hbW
  have HL : Hid (∀ q : List UInt8, q <+: l ++ cdFn nm f → q.length ≤ 1098000000000) := Lib.hid fun q hq => Nat.le_trans hq.length_le hll
  have HC : Hid (∀ X, Kw base W X → (X.cell? ⟨w.heap.size, 0, none⟩ = some (.string ⟨nm.toArray⟩) ∧ X.cell? ⟨w.heap.size, 1, none⟩ = some (.slice pA pn pc) ∧ X.cell? ⟨w.heap.size, 2, none⟩ = some (.int .i64 f.ret) ∧ X.cell? ⟨w.heap.size, 3, none⟩ = some (.slice iA in_ ic) ∧ X.cell? ⟨w.heap.size, 4, none⟩ = some (.slice bA bn bc)) ∧ GNs n0 X (.slice pA pn pc) f.params ∧ X.heap[w.heap.size]? = some (.cells #[.string ⟨nm.toArray⟩, .slice pA pn pc, .int .i64 f.ret, .slice iA in_ ic, .slice bA bn bc] 43 (0, 0))) := Lib.hid fun X hX => by
    have e := hX.k _ _ _ _ h0W (by decide)
    have hbX : Below n0 w X := (hbW.mono (Nat.le_trans hn hbase)).trans (hX.b.mono hn)
    exact ⟨⟨Lib.cell_of_heap e 0, Lib.cell_of_heap e 1, Lib.cell_of_heap e 2, Lib.cell_of_heap e 3, Lib.cell_of_heap e 4⟩, hp.keep hbX, e⟩
  have HI : Hid (∀ X, Kw base W X → SIs n0 X (.slice iA in_ ic) f.ins ∧ SBs n0 X (.slice bA bn bc) f.blocks) := Lib.hid fun X hX => by
    have hbX : Below n0 w X := (hbW.mono (Nat.le_trans hn hbase)).trans (hX.b.mono hn)
    exact ⟨hi.keep hbX, hb.keep hbX⟩
  obtain ⟨⟨x0, x1, x2, x3, x4⟩, -, -⟩ := HC.out W (Kq.refl _ _ _)
  have hnm : nm.length ≤ 1098000000000 := by
    have : nm.length ≤ (l ++ cdFn nm f).length := by unfold cdFn; simp only [List.length_append]; omega
    omega
  have hl0 : l.length ≤ 1098000000000 := by
    have : l.length ≤ (l ++ cdFn nm f).length := by simp only [List.length_append]; omega
    omega
  have hN := number_w base E l (nm.length : Int) W hWa (by omega)
  rw [u64Q_nat nm.length (by omega)] at hN
  obtain ⟨m, hm⟩ : ∃ m, m = l ++ cdN nm.length := ⟨_, rfl⟩
  rw [← hm] at hN
  have Hml : Hid (m.length + nm.length ≤ 1099511627800) := Lib.hid (by
    have := cdN_len nm.length
    rw [hm, List.length_append]
    have : l.length + nm.length ≤ (l ++ cdFn nm f).length := by unfold cdFn; simp only [List.length_append]; omega
    omega)
  have hsz : (⟨nm.toArray⟩ : ByteArray).size = nm.length := by simp [ByteArray.size]
  have HKW : Hid (Kw base w W) := Lib.hid (Kq.of_below hbW hbase)
  have HW := Lib.hid hW
  have Hb := Lib.hid hbd
  have Hn := Lib.hid hn
  have Hm := Lib.hid hm
  have Hin := Lib.hid hin
  have Hbn := Lib.hid hbn
  have Hx := Lib.hid hx
  have Hk := Lib.hid hk
  have HbE := Lib.hid hbE
  have HEB : Hid (E ≠ w.heap.size) := Lib.hid (by omega)
  clear h hp hi hb hW hbW hzW h0W hbase hWa hbd hn hll hbE hEw hm hin hbn hx hk hl0
  go_enter Try.func15, Try.ntmps15
  go_upto_region 1 with fail
  rw [← HW.out]
  go_upto_region 2 with (go_at_call 14; refine hN.mono ?_; rintro e w1 ⟨rfl, h1, k1⟩; have H1 := Lib.hid h1; have K1 := Lib.hid k1; clear h1 k1 hN)
  clear x0 x1 x2 x3 x4
  obtain ⟨⟨x0, x1, x2, x3, x4⟩, -, hBx⟩ := HC.out w1 K1.out
  have h1 := H1.out
  obtain ⟨v1, e1, ho1, -, hb1⟩ := h1
  obtain ⟨A1, c1, rfl⟩ := gr_slice ho1
  have y0 := Lib.cell_of_heap e1 0
  have Hb1 : Hid (base ≤ w1.drew.heap.size) := Lib.hid hb1
  have Ho1 : Hid (w1.drew.ownsRow base 5 1 (.slice A1 m.length c1) m.length (bcV m)) := Lib.hid ho1
  have HE1 : Hid (w1.drew.heap[E]? = some (.cells #[.slice A1 m.length c1] 58 (0, 0))) := Lib.hid e1
  have HB1 : Hid (w1.drew.heap[w.heap.size]? = some (.cells #[.string ⟨nm.toArray⟩, .slice pA pn pc, .int .i64 f.ret, .slice iA in_ ic, .slice bA bn bc] 43 (0, 0))) := Lib.hid hBx
  clear e1 ho1 hb1 hBx hsz
  refine wp_region_held_drew (S := fun u : World => u.cell? ⟨w.heap.size, 0, none⟩ = some (.string ⟨nm.toArray⟩)) (by kernel_rfl) x0 (fun hHeld => ?_)
  refine wpAnyH_take (i := 0) (v := ?_) rfl (by kernel_rfl) (by kernel_rfl) (by kernel_rfl) (fun _ _ _ h => h) (Or.inl ⟨by kernel_rfl, ?_⟩) (by assumption) ?_
  rotate_left
  · (intro w hSw; (try dsimp only at hSw); first | (go_simp; done) | (go_simp; with_reducible rfl))
  try simp only [Act.put, List.setIfInBounds_toArray, List.set_cons_zero, List.set_cons_succ]
  refine wpAnyH_take (i := 1) (v := ?_) rfl (by kernel_rfl) (by kernel_rfl) (by kernel_rfl) (fun _ _ _ h => h) (Or.inl ⟨by kernel_rfl, ?_⟩) (by assumption) ?_
  rotate_left
  · (intro w hSw; (try dsimp only at hSw); first | (go_simp; done) | (go_simp; with_reducible rfl))
  try simp only [Act.put, List.setIfInBounds_toArray, List.set_cons_zero, List.set_cons_succ]
  refine wpAnyH_take (i := 2) (v := ?_) rfl (by kernel_rfl) (by kernel_rfl) (by kernel_rfl) (fun _ _ _ h => h) (Or.inl ⟨by kernel_rfl, ?_⟩) (by assumption) ?_
  rotate_left
  · (intro w hSw; (try dsimp only at hSw); first | (go_simp; done) | (go_simp; with_reducible rfl))
  try simp only [Act.put, List.setIfInBounds_toArray, List.set_cons_zero, List.set_cons_succ]
  refine wpAnyH_take (i := 3) (v := ?_) rfl (by kernel_rfl) (by kernel_rfl) (by kernel_rfl) (fun _ _ _ h => h) (Or.inl ⟨by kernel_rfl, ?_⟩) (by assumption) ?_
  rotate_left
  · (intro w hSw; (try dsimp only at hSw); first | (go_simp; done) | (go_simp; with_reducible rfl))
  try simp only [Act.put, List.setIfInBounds_toArray, List.set_cons_zero, List.set_cons_succ]
  refine wpAnyH_take (i := 5) (v := ?_) rfl (by kernel_rfl) (by kernel_rfl) (by kernel_rfl) (fun _ _ _ h => h) (Or.inl ⟨by kernel_rfl, ?_⟩) (by assumption) ?_
  rotate_left
  · (intro w hSw; (try dsimp only at hSw); first | (go_simp; done) | (go_simp; with_reducible rfl))
  try simp only [Act.put, List.setIfInBounds_toArray, List.set_cons_zero, List.set_cons_succ]
  refine wpAnyH_take (i := 6) (v := ?_) rfl (by kernel_rfl) (by kernel_rfl) (by kernel_rfl) (fun _ _ _ h => h) (Or.inl ⟨by kernel_rfl, ?_⟩) (by assumption) ?_
  rotate_left
  · (intro w hSw; (try dsimp only at hSw); first | (go_simp; done) | (go_simp; with_reducible rfl))
  try simp only [Act.put, List.setIfInBounds_toArray, List.set_cons_zero, List.set_cons_succ]
  refine wpAnyH_ready (rs := [4]) (by kernel_rfl) (by simp) ?_
  refine AllReadyH.cons rfl (fun K hK => ?_) (AllReadyH.nil)
  have hs0 : w1.drew.cell? ⟨w.heap.size, 0, none⟩ = some (.string ⟨nm.toArray⟩) := x0
  have s0 : w1.drew.cell? ⟨E, 0, none⟩ = some (.slice A1 m.length c1) := y0
  go_simp
  refine hK.out _ _ ?_ (fun hHeld => ?_)
  · ((try dsimp only); first | with_reducible assumption | exact hs0 | exact hs1 | exact hs2)
  clear hK K
  try simp only [Act.put, List.setIfInBounds_toArray, List.set_cons_zero, List.set_cons_succ]
  refine wpAnyH_ready (rs := [7]) (by kernel_rfl) (by simp) ?_
  refine AllReadyH.cons rfl (fun K hK => ?_) (AllReadyH.nil)
  refine step_str rfl (.tmp 17) (.tmp 19) 9 (by simp [Try.underlying9]) rfl base (.slice A1 m.length c1) m nm (by simp [Act.eval, Act.put]) Ho1.out (by simp [Act.eval, Act.put]) Hml.out Hb1.out ?_
  intro v4 w4 ho4 hk4
  obtain ⟨A4, c4, rfl⟩ := gr_slice ho4
  have e4 := hk4.k _ _ _ _ HE1.out (by decide)
  have hs1 : w4.cell? ⟨w.heap.size, 0, none⟩ = some (.string ⟨nm.toArray⟩) := Lib.cell_of_heap (hk4.k _ _ _ _ HB1.out (by decide)) 0
  have yf4 := Lib.frozen_of_heap e4 0
  have y04 := Lib.cell_of_heap e4 0
  have HE4 := Lib.hid e4
  have HO4 := Lib.hid ho4
  have HK4 := Lib.hid hk4
  clear e4 ho4 hk4
  refine hK.out _ _ ?_ (fun hHeld => ?_)
  · ((try dsimp only); first | with_reducible assumption | exact hs0 | exact hs1 | exact hs2)
  clear hK K
  try simp only [Act.put, List.setIfInBounds_toArray, List.set_cons_zero, List.set_cons_succ]
  refine wpAnyH_take (i := 8) (v := ?_) rfl (by kernel_rfl) (by kernel_rfl) (by kernel_rfl) (fun _ _ _ h => h) (Or.inl ⟨by kernel_rfl, ?_⟩) (by assumption) ?_
  rotate_left
  · (intro w hSw; (try dsimp only at hSw); first | (go_simp; done) | (go_simp; with_reducible rfl))
  try simp only [Act.put, List.setIfInBounds_toArray, List.set_cons_zero, List.set_cons_succ]
  refine wpAnyH_take (i := 9) (v := ?_) rfl (by kernel_rfl) (by kernel_rfl) (by kernel_rfl) (fun _ _ _ h => h) (Or.inl ⟨by kernel_rfl, ?_⟩) (by assumption) ?_
  rotate_left
  · (intro w hSw; (try dsimp only at hSw); first | (go_simp; done) | (go_simp; with_reducible rfl))
  try simp only [Act.put, List.setIfInBounds_toArray, List.set_cons_zero, List.set_cons_succ]
  refine wpAnyH_ready (rs := [10]) (by kernel_rfl) (by simp) ?_
  refine AllReadyH.cons rfl (fun K hK => ?_) (AllReadyH.nil)
  have hs2 : (w4.setCell ⟨E, 0, none⟩ (.slice A4 (m ++ nm).length c4)).cell? ⟨w.heap.size, 0, none⟩ = some (.string ⟨nm.toArray⟩) := (World.cell?_setCell_other _ _ _ _ (fun e => HEB.out (congrArg Addr.block e))).trans hs1
  rw [List.length_append] at hs2
  go_simp
  refine hK.out _ _ ?_ (fun hHeld => ?_)
  · ((try dsimp only); first | with_reducible assumption | exact hs0 | exact hs1 | exact hs2)
  clear hK K
  try simp only [Act.put, List.setIfInBounds_toArray, List.set_cons_zero, List.set_cons_succ]
  refine wpAnyH_done (by kernel_rfl) ?_ _
  clear y04 yf4 hs1 hs2
  have hs := WrAt.of_set (l := m ++ nm) HE4.out rfl HO4.out HbE.out
  rw [List.length_append] at hs
  have H4 := Lib.hid hs.1
  have K4 := Lib.hid (K1.out.trans ((Kq.of_below ((Below.refl w1.heap.size w1).drew) Hb1.out).trans (HK4.out.w.trans hs.2)))
  obtain ⟨X, hX⟩ : ∃ X, X = w4.setCell ⟨E, 0, none⟩ (.slice A4 (m.length + nm.length) c4) := ⟨_, rfl⟩
  rw [← hX] at H4 K4 ⊢
  clear hs hX
  clear x0 x1 x2 x3 x4
  obtain ⟨⟨x0, x1, x2, x3, x4⟩, g1, -⟩ := HC.out X K4.out
  have hR := row_w base E n0 (m ++ nm) pA pn pc f.params X H4.out g1 Hn.out Hb.out.1 (Nat.le_trans (HL.out (m ++ nm) ⟨_, (by rw [Hm.out]; unfold cdFn; simp only [List.append_assoc]; rfl)⟩) (by decide))
  clear g1
  go_upto_region 4 with (go_at_call 34; refine hR.mono ?_; rintro e w5 ⟨rfl, h1, k1⟩; have H5 := Lib.hid h1; have K5 := Lib.hid (K4.out.trans k1); clear h1 k1 hR)
  clear x0 x1 x2 x3 x4
  obtain ⟨⟨x0, x1, x2, x3, x4⟩, -, -⟩ := HC.out w5 K5.out
  have hN := number_w base E (m ++ nm ++ cdRow f.params) f.ret w5 H5.out (Nat.le_trans (HL.out (m ++ nm ++ cdRow f.params) ⟨_, (by rw [Hm.out]; unfold cdFn; simp only [List.append_assoc]; rfl)⟩) (by decide))
  go_upto_region 5 with (go_at_call 14; refine hN.mono ?_; rintro e w6 ⟨rfl, h1, k1⟩; have H6 := Lib.hid h1; have K6 := Lib.hid (K5.out.trans k1); clear h1 k1 hN)
  clear x0 x1 x2 x3 x4
  obtain ⟨⟨x0, x1, x2, x3, x4⟩, -, -⟩ := HC.out w6 K6.out
  have hN := number_w base E (m ++ nm ++ cdRow f.params ++ cdN (u64Q f.ret)) (in_ : Int) w6 H6.out (Nat.le_trans (HL.out (m ++ nm ++ cdRow f.params ++ cdN (u64Q f.ret)) ⟨_, (by rw [Hm.out]; unfold cdFn; simp only [List.append_assoc]; rfl)⟩) (by decide))
  rw [u64Q_nat in_ (by have := Hb.out.2.1; have := Hin.out; omega)] at hN
  obtain ⟨m2, hm2⟩ : ∃ m2, m2 = m ++ nm ++ cdRow f.params ++ cdN (u64Q f.ret) ++ cdN in_ := ⟨_, rfl⟩
  rw [← hm2] at hN
  have Hm2 : Hid (m2 ++ (cdInss f.ins ++ (cdN f.blocks.length ++ cdBlks f.blocks)) = l ++ cdFn nm f) := Lib.hid (by rw [hm2, Hm.out, Hin.out]; unfold cdFn; simp)
  clear hm2
  go_upto_region 6 with (go_at_call 14; refine hN.mono ?_; rintro e w7 ⟨rfl, h1, k1⟩; have H7 : Hid (WrAt base E (m2 ++ cdInss (f.ins.take 0)) w7) := Lib.hid (by simpa [cdInss] using h1); have K7 := Lib.hid (K6.out.trans k1); clear h1 k1 hN)
  clear x0 x1 x2 x3 x4
  obtain ⟨⟨x0, x1, x2, x3, x4⟩, -, -⟩ := HC.out w7 K7.out
  go_wp2_with fail
  clear x0 x1 x2 x3 x4
  go_loopw [39] (fun u39 wr => ∃ i : Nat, i ≤ in_ ∧ u39 = .int .i64 (i : Int) ∧ Hid (WrAt base E (m2 ++ cdInss (f.ins.take i)) wr) ∧ Hid (Kw base W wr)) (fun u39 _ => in_ - (intOf u39).toNat)
  case atStart => exact ⟨0, Nat.zero_le _, rfl, H7, K7⟩
  case round =>
    clear H7 K7
    obtain ⟨i, hi, rfl, H7, K7⟩ := hrel
    obtain ⟨wo, hwo⟩ : ∃ x, x = wr := ⟨_, rfl⟩
    rw [← hwo] at H7 K7 ⊢
    clear hwo
    have hinb : in_ ≤ 1048576 := by rw [Hin.out]; exact Hb.out.2.1
    by_cases hlt : i < in_
    · have hil : i < f.ins.length := by rw [← Hin.out]; exact hlt
      obtain ⟨ib, io, aA, ac, rfl, hib, o0, o1, o2, o3, o4, hga⟩ := ((HI.out wo K7.out).1).at hil
      obtain ⟨x, hx⟩ : ∃ x, x = f.ins[i] := ⟨_, rfl⟩
      rw [← hx] at o0 o1 o2 o3 o4 hga
      obtain ⟨Y, hY, hbY, hzY, h0Y⟩ := gr_one wo #[.int .i64 x.op, .int .i64 x.ty, .slice aA x.args.length ac, .int .i64 x.n, .int .i64 x.to_] 46
      have hbw : base ≤ wo.heap.size := by obtain ⟨_, _, _, _, h4⟩ := H7.out; exact h4
      have z0 := Lib.cell_of_heap h0Y 0
      have z1 := Lib.cell_of_heap h0Y 1
      have z2 := Lib.cell_of_heap h0Y 2
      have z3 := Lib.cell_of_heap h0Y 3
      have z4 := Lib.cell_of_heap h0Y 4
      have hmem : x ∈ f.ins := by rw [hx]; exact List.getElem_mem hil
      have hS := instruction_w base E n0 (m2 ++ cdInss (f.ins.take i)) x aA x.args.length ac Y (H7.out.keep hbY) (hga.keep (hbY.mono (Nat.le_trans Hn.out hbw))) Hn.out (Hx.out x hmem).1 (Hx.out x hmem).2 (HL.out (m2 ++ cdInss (f.ins.take i)) ⟨cdInss (f.ins.drop i) ++ (cdN f.blocks.length ++ cdBlks f.blocks), by rw [← Hm2.out, List.append_assoc, ← List.append_assoc (cdInss (f.ins.take i))]; congr 2; unfold cdInss; rw [← List.flatMap_append, List.take_append_drop]⟩)
      have e : m2 ++ cdInss (f.ins.take i) ++ cdIns x = m2 ++ cdInss (f.ins.take (i + 1)) := by rw [cdInss_more f.ins i hil, hx, List.append_assoc]
      rw [e] at hS
      have HY := Lib.hid hY
      have KY := Lib.hid (K7.out.trans (Kq.of_below hbY hbw))
      obtain ⟨xo, hxo⟩ : ∃ v, v = x.op := ⟨_, rfl⟩
      obtain ⟨xt, hxt⟩ : ∃ v, v = x.ty := ⟨_, rfl⟩
      obtain ⟨xl, hxl⟩ : ∃ v, v = x.args.length := ⟨_, rfl⟩
      obtain ⟨xn, hxn⟩ : ∃ v, v = x.n := ⟨_, rfl⟩
      obtain ⟨xg, hxg⟩ : ∃ v, v = x.to_ := ⟨_, rfl⟩
      rw [← hxo] at o0 z0 hS HY
      rw [← hxt] at o1 z1 hS HY
      rw [← hxl] at o2 z2 hS HY
      rw [← hxn] at o3 z3 hS HY
      rw [← hxg] at o4 z4 hS HY
      clear hY hbY hzY h0Y hbw hmem e hx hil hga hib hxo hxt hxl hxn hxg
      go_upto_region 9 with fail
      rw [← HY.out]
      clear o0 o1 o2 o3 o4
      go_wp2_with (go_at_call 35; refine hS.mono ?_; rintro e w8 ⟨rfl, h1, k1⟩; have H8 := Lib.hid h1; have K8 := Lib.hid (KY.out.trans k1); clear h1 k1 hS)
      go_roundw
      case rel => exact ⟨i + 1, by omega, by go_num, H8, K8⟩
      case measure => simp [intOf]; omega
    · have hie : i = f.ins.length := by rw [← Hin.out]; omega
      rw [hie, List.take_length] at H7
      clear hie
      obtain ⟨⟨x0, x1, x2, x3, x4⟩, -, -⟩ := HC.out wo K7.out
      have hN := number_w base E (m2 ++ cdInss f.ins) (bn : Int) wo H7.out (Nat.le_trans (HL.out (m2 ++ cdInss f.ins) ⟨cdN f.blocks.length ++ cdBlks f.blocks, by rw [← Hm2.out, List.append_assoc]⟩) (by decide))
      rw [u64Q_nat bn (by have := Hb.out.2.2; have := Hbn.out; omega)] at hN
      obtain ⟨m3, hm3⟩ : ∃ m3, m3 = m2 ++ cdInss f.ins ++ cdN bn := ⟨_, rfl⟩
      rw [← hm3] at hN
      have Hm3 : Hid (m3 ++ cdBlks f.blocks = l ++ cdFn nm f) := Lib.hid (by rw [hm3, ← Hm2.out, Hbn.out]; simp)
      clear hm3
      go_upto_region 12 with (go_at_call 14; refine hN.mono ?_; rintro e w9 ⟨rfl, h1, k1⟩; have H9 : Hid (WrAt base E (m3 ++ cdBlks (f.blocks.take 0)) w9) := Lib.hid (by simpa [cdBlks] using h1); have K9 := Lib.hid (K7.out.trans k1); clear h1 k1 hN)
      clear x0 x1 x2 x3 x4
      obtain ⟨⟨x0, x1, x2, x3, x4⟩, -, -⟩ := HC.out w9 K9.out
      go_wp2_with fail
      clear x0 x1 x2 x3 x4
      go_loopw [55] (fun u55 wr => ∃ i : Nat, i ≤ bn ∧ u55 = .int .i64 (i : Int) ∧ Hid (WrAt base E (m3 ++ cdBlks (f.blocks.take i)) wr) ∧ Hid (Kw base W wr)) (fun u55 _ => bn - (intOf u55).toNat)
      case atStart => exact ⟨0, Nat.zero_le _, rfl, H9, K9⟩
      case round =>
        clear H9 K9 H7 K7
        obtain ⟨j, hj, rfl, H9, K9⟩ := hrel
        obtain ⟨wp, hwp⟩ : ∃ x, x = wr := ⟨_, rfl⟩
        rw [← hwp] at H9 K9 ⊢
        clear hwp
        have hbnb : bn ≤ 1048576 := by rw [Hbn.out]; exact Hb.out.2.2
        by_cases hlt : j < bn
        · have hjl : j < f.blocks.length := by rw [← Hbn.out]; exact hlt
          obtain ⟨gb, go, lA, lc, qA, qc, tA, tc, rfl, hgb, o0, o1, o2, o3, o4, g0, g1, g2⟩ := ((HI.out wp K9.out).2).at hjl
          obtain ⟨k, hk⟩ : ∃ k, k = f.blocks[j] := ⟨_, rfl⟩
          rw [← hk] at o0 o1 o2 o3 o4 g0 g1 g2
          obtain ⟨Y, hY, hbY, hzY, h0Y⟩ := gr_one wp #[.slice lA k.list.length lc, .slice qA k.preds.length qc, .int .i64 k.kind, .int .i64 k.arg, .slice tA k.to_.length tc] 51
          have hbw : base ≤ wp.heap.size := by obtain ⟨_, _, _, _, h4⟩ := H9.out; exact h4
          have z0 := Lib.cell_of_heap h0Y 0
          have z1 := Lib.cell_of_heap h0Y 1
          have z2 := Lib.cell_of_heap h0Y 2
          have z3 := Lib.cell_of_heap h0Y 3
          have z4 := Lib.cell_of_heap h0Y 4
          have hmem : k ∈ f.blocks := by rw [hk]; exact List.getElem_mem hjl
          have hk0 := hbY.mono (Nat.le_trans Hn.out hbw)
          have hS := block_w base E n0 (m3 ++ cdBlks (f.blocks.take j)) k lA qA tA k.list.length lc k.preds.length qc k.to_.length tc Y (H9.out.keep hbY) (g0.keep hk0) (g1.keep hk0) (g2.keep hk0) Hn.out (Hk.out k hmem) (HL.out (m3 ++ cdBlks (f.blocks.take j)) ⟨cdBlks (f.blocks.drop j), by rw [← Hm3.out, List.append_assoc]; congr 1; unfold cdBlks; rw [← List.flatMap_append, List.take_append_drop]⟩)
          have e : m3 ++ cdBlks (f.blocks.take j) ++ cdBlk k = m3 ++ cdBlks (f.blocks.take (j + 1)) := by rw [cdBlks_more f.blocks j hjl, hk, List.append_assoc]
          rw [e] at hS
          have HY := Lib.hid hY
          have KY := Lib.hid (K9.out.trans (Kq.of_below hbY hbw))
          obtain ⟨kl, hkl⟩ : ∃ v, v = k.list.length := ⟨_, rfl⟩
          obtain ⟨kp, hkp⟩ : ∃ v, v = k.preds.length := ⟨_, rfl⟩
          obtain ⟨kk, hkk⟩ : ∃ v, v = k.kind := ⟨_, rfl⟩
          obtain ⟨ka, hka⟩ : ∃ v, v = k.arg := ⟨_, rfl⟩
          obtain ⟨kt, hkt⟩ : ∃ v, v = k.to_.length := ⟨_, rfl⟩
          rw [← hkl] at o0 z0 hS HY
          rw [← hkp] at o1 z1 hS HY
          rw [← hkk] at o2 z2 hS HY
          rw [← hka] at o3 z3 hS HY
          rw [← hkt] at o4 z4 hS HY
          clear hY hbY hzY h0Y hbw hmem e hk hjl g0 g1 g2 hgb hk0 hkl hkp hkk hka hkt
          go_upto_region 15 with fail
          rw [← HY.out]
          clear o0 o1 o2 o3 o4
          go_wp2_with (go_at_call 36; refine hS.mono ?_; rintro e w8 ⟨rfl, h1, k1⟩; have H8 := Lib.hid h1; have K8 := Lib.hid (KY.out.trans k1); clear h1 k1 hS)
          go_roundw
          case rel => exact ⟨j + 1, by omega, by go_num, H8, K8⟩
          case measure => simp [intOf]; omega
        · have hje : j = f.blocks.length := by rw [← Hbn.out]; omega
          rw [hje, List.take_length, Hm3.out] at H9
          clear hje
          go_wp2_with fail
          try simp only [Exit.inBlock, Exit.then]
          first
            | refine bodyPost_ret (results_none rfl _ _ _) rfl ?_
            | refine bodyPost_end (results_none rfl _ _ _) rfl ?_
          exact ⟨rfl, H9.out, HKW.out.trans K9.out⟩
end Go.Proofs.Ythhjhdmdfneegaa
