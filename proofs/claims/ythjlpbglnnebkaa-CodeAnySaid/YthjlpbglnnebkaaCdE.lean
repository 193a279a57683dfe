/-
  Programs as bytes: the writer: instruction, block.
-/
import Derived.Test.YthjlpbglnnebkaaCdD
import Derived.Test.YthjlpbglnnebkaaSoA
import Derived.Deep.RegionHeld
namespace Go.Proofs.Ythjlpbglnnebkaa
open Go.RowKit
set_option linter.unusedVariables false
set_option linter.unusedSimpArgs false

def cdIns (x : SIn) : List UInt8 := cdN (u64Q x.op) ++ (cdN (u64Q x.ty) ++ (cdRow x.args ++ (cdN (signQ x.n) ++ cdN (u64Q x.to_))))
def cdBlk (k : SB) : List UInt8 := cdRow k.list ++ (cdRow k.preds ++ (cdN (u64Q k.kind) ++ (cdN (u64Q (k.arg + 1)) ++ cdRow k.to_)))
theorem cdRow_len (l : List Int) : (cdRow l).length ≤ 10 + 10 * l.length := by
  have h1 := cdN_len l.length
  have h2 := cdOnes_len l
  unfold cdRow
  rw [List.length_append]
  omega
set_option maxRecDepth 100000 in
set_option maxHeartbeats 4000000 in
theorem block_w (base E n0 : Nat) (l : List UInt8) (k : SB) (lA pA tA : Option Addr) (ln lc pn pc tn tc : Nat) (w : World) (h : WrAt base E l w) (hl : GNs n0 w (.slice lA ln lc) k.list) (hp : GNs n0 w (.slice pA pn pc) k.preds) (ht : GNs n0 w (.slice tA tn tc) k.to_) (hn : n0 ≤ base)
    (hb : k.list.length ≤ 1048576 ∧ k.preds.length ≤ 1048576 ∧ k.to_.length ≤ 1048576) (hll : l.length ≤ 1098000000000) :
    Calls Try.prog 53 #[.pointer (some ⟨E, 0, none⟩), .agg #[.slice lA ln lc, .slice pA pn pc, .int .i64 k.kind, .int .i64 k.arg, .slice tA tn tc]] w (WrP base E (l ++ cdBlk k) w) := by
  obtain ⟨W, hW, hbW, hzW, h0W⟩ := gr_one w #[.slice lA ln lc, .slice pA pn pc, .int .i64 k.kind, .int .i64 k.arg, .slice tA tn tc] 71
  have hbase : base ≤ w.heap.size := by obtain ⟨_, _, _, _, h4⟩ := h; exact h4
  have hWa := h.keep hbW
  have b1 := cdRow_len k.list
  have b2 := cdRow_len k.preds
  have b3 := cdN_len (u64Q k.kind)
  have b4 := cdN_len (u64Q (k.arg + 1))
  have HC : Hid (∀ X, Kw base W X → (X.cell? ⟨w.heap.size, 0, none⟩ = some (.slice lA ln lc) ∧ X.cell? ⟨w.heap.size, 1, none⟩ = some (.slice pA pn pc) ∧ X.cell? ⟨w.heap.size, 2, none⟩ = some (.int .i64 k.kind) ∧ X.cell? ⟨w.heap.size, 3, none⟩ = some (.int .i64 k.arg) ∧ X.cell? ⟨w.heap.size, 4, none⟩ = some (.slice tA tn tc)) ∧ GNs n0 X (.slice pA pn pc) k.preds ∧ GNs n0 X (.slice tA tn tc) k.to_) := Lib.hid fun X hX => by
    have e := hX.k _ _ _ _ h0W (by decide)
    have hbX : Below n0 w X := (hbW.mono (Nat.le_trans hn hbase)).trans (hX.b.mono hn)
    exact ⟨⟨Lib.cell_of_heap e 0, Lib.cell_of_heap e 1, Lib.cell_of_heap e 2, Lib.cell_of_heap e 3, Lib.cell_of_heap e 4⟩, hp.keep hbX, ht.keep hbX⟩
  obtain ⟨⟨x0, x1, x2, x3, x4⟩, -, -⟩ := HC.out W (Kq.refl _ _ _)
  have hR := row_w base E n0 l lA ln lc k.list W hWa (hl.keep (hbW.mono (Nat.le_trans hn hbase))) hn hb.1 (by omega)
  have HKW : Hid (Kw base w W) := Lib.hid (Kq.of_below hbW hbase)
  have HW := Lib.hid hW
  have Hb := Lib.hid hb
  have Hn := Lib.hid hn
  have Hll := Lib.hid hll
  have Hbb := Lib.hid (And.intro b1 (And.intro b2 (And.intro b3 b4)))
  clear h hl hp ht hW hbW hzW h0W hbase hWa b1 b2 b3 b4 hb hn hll
  go_enter Try.func53, Try.ntmps53
  go_upto_region 1 with fail
  rw [← HW.out]
  go_upto_region 2 with (go_at_call 51; refine hR.mono ?_; rintro e w1 ⟨rfl, h1, k1⟩; have H1 := Lib.hid h1; have K1 := Lib.hid k1; clear h1 k1 hR)
  clear x0 x1 x2 x3 x4
  obtain ⟨⟨x0, x1, x2, x3, x4⟩, g1, g2⟩ := HC.out w1 K1.out
  have hR := row_w base E n0 (l ++ cdRow k.list) pA pn pc k.preds w1 H1.out g1 Hn.out Hb.out.2.1 (by have := Hbb.out.1; have := Hll.out; have := Hb.out.1; simp only [List.length_append]; omega)
  clear g1 g2
  go_upto_region 3 with (go_at_call 51; refine hR.mono ?_; rintro e w2 ⟨rfl, h1, k1⟩; have H2 := Lib.hid h1; have K2 := Lib.hid (K1.out.trans k1); clear h1 k1 hR)
  clear x0 x1 x2 x3 x4
  obtain ⟨⟨x0, x1, x2, x3, x4⟩, g1, g2⟩ := HC.out w2 K2.out
  have hN := number_w base E (l ++ cdRow k.list ++ cdRow k.preds) k.kind w2 H2.out (by have := Hbb.out; have := Hll.out; have := Hb.out; simp only [List.length_append]; omega)
  clear g1 g2
  go_upto_region 4 with (go_at_call 33; refine hN.mono ?_; rintro e w3 ⟨rfl, h1, k1⟩; have H3 := Lib.hid h1; have K3 := Lib.hid (K2.out.trans k1); clear h1 k1 hN)
  clear x0 x1 x2 x3 x4
  obtain ⟨⟨x0, x1, x2, x3, x4⟩, g1, g2⟩ := HC.out w3 K3.out
  have hO := one_w base E (l ++ cdRow k.list ++ cdRow k.preds ++ cdN (u64Q k.kind)) k.arg w3 H3.out (by have := Hbb.out; have := Hll.out; have := Hb.out; simp only [List.length_append]; omega)
  clear g1 g2
  go_upto_region 5 with (go_at_call 73; refine hO.mono ?_; rintro e w4 ⟨rfl, h1, k1⟩; have H4 := Lib.hid h1; have K4 := Lib.hid (K3.out.trans k1); clear h1 k1 hO)
  clear x0 x1 x2 x3 x4
  obtain ⟨⟨x0, x1, x2, x3, x4⟩, g1, g2⟩ := HC.out w4 K4.out
  have hR := row_w base E n0 (l ++ cdRow k.list ++ cdRow k.preds ++ cdN (u64Q k.kind) ++ cdN (u64Q (k.arg + 1))) tA tn tc k.to_ w4 H4.out g2 Hn.out Hb.out.2.2 (by have := Hbb.out; have := Hll.out; have := Hb.out; simp only [List.length_append]; omega)
  have e : l ++ cdRow k.list ++ cdRow k.preds ++ cdN (u64Q k.kind) ++ cdN (u64Q (k.arg + 1)) ++ cdRow k.to_ = l ++ cdBlk k := by unfold cdBlk; simp
  rw [e] at hR
  clear g1 g2 e
  go_wp2_with (go_at_call 51; refine hR.mono ?_; rintro e w5 ⟨rfl, h1, k1⟩; have H5 := Lib.hid h1; have K5 := Lib.hid (K4.out.trans k1); clear h1 k1 hR)
  try simp only [Exit.inBlock, Exit.then]
  first
    | refine bodyPost_ret (results_none rfl _ _ _) rfl ?_
    | refine bodyPost_end (results_none rfl _ _ _) rfl ?_
  exact ⟨rfl, H5.out, HKW.out.trans K5.out⟩
set_option maxRecDepth 100000 in
set_option maxHeartbeats 4000000 in
theorem instruction_w (base E n0 : Nat) (l : List UInt8) (x : SIn) (aA : Option Addr) (an ac : Nat) (w : World) (h : WrAt base E l w) (ha : GNs n0 w (.slice aA an ac) x.args) (hn : n0 ≤ base) (hxn : InG x.n)
    (hb : x.args.length ≤ 1048576) (hll : l.length ≤ 1098000000000) :
    Calls Try.prog 52 #[.pointer (some ⟨E, 0, none⟩), .agg #[.int .i64 x.op, .int .i64 x.ty, .slice aA an ac, .int .i64 x.n, .int .i64 x.to_]] w (WrP base E (l ++ cdIns x) w) := by
  obtain ⟨W, hW, hbW, hzW, h0W⟩ := gr_one w #[.int .i64 x.op, .int .i64 x.ty, .slice aA an ac, .int .i64 x.n, .int .i64 x.to_] 66
  obtain ⟨hbase, hbE, hEw⟩ : base ≤ w.heap.size ∧ base ≤ E ∧ E < w.heap.size := by obtain ⟨_, h1, _, h3, h4⟩ := h; exact ⟨h4, h3, gr_in h1⟩
  have hWa := h.keep hbW
  have b1 := cdRow_len x.args
  have b2 := cdN_len (u64Q x.op)
  have b3 := cdN_len (u64Q x.ty)
  have HC : Hid (∀ X, Kw base W X → (X.cell? ⟨w.heap.size, 0, none⟩ = some (.int .i64 x.op) ∧ X.cell? ⟨w.heap.size, 1, none⟩ = some (.int .i64 x.ty) ∧ X.cell? ⟨w.heap.size, 2, none⟩ = some (.slice aA an ac) ∧ X.cell? ⟨w.heap.size, 3, none⟩ = some (.int .i64 x.n) ∧ X.cell? ⟨w.heap.size, 4, none⟩ = some (.int .i64 x.to_)) ∧ GNs n0 X (.slice aA an ac) x.args) := Lib.hid fun X hX => by
    have e := hX.k _ _ _ _ h0W (by decide)
    have hbX : Below n0 w X := (hbW.mono (Nat.le_trans hn hbase)).trans (hX.b.mono hn)
    exact ⟨⟨Lib.cell_of_heap e 0, Lib.cell_of_heap e 1, Lib.cell_of_heap e 2, Lib.cell_of_heap e 3, Lib.cell_of_heap e 4⟩, ha.keep hbX⟩
  have HCh : Hid (∀ X, Kw base W X → X.heap[w.heap.size]? = some (.cells #[.int .i64 x.op, .int .i64 x.ty, .slice aA an ac, .int .i64 x.n, .int .i64 x.to_] 66 (0, 0))) := Lib.hid fun X hX => hX.k _ _ _ _ h0W (by decide)
  obtain ⟨⟨x0, x1, x2, x3, x4⟩, -⟩ := HC.out W (Kq.refl _ _ _)
  have hN := number_w base E l x.op W hWa (by omega)
  have HKW : Hid (Kw base w W) := Lib.hid (Kq.of_below hbW hbase)
  have HW := Lib.hid hW
  have Hb := Lib.hid hb
  have Hn := Lib.hid hn
  have Hll := Lib.hid hll
  have HbE := Lib.hid hbE
  have HEB : Hid (E ≠ w.heap.size) := Lib.hid (by omega)
  have Hbb := Lib.hid (And.intro b1 (And.intro b2 b3))
  have HSg : Hid (∀ X, Calls Try.prog 9 #[.int .i64 x.n] X fun e w' => e = .returned (.int .u64 (signQ x.n : Int)) ∧ w' = X) := Lib.hid fun X => sign_c x.n hxn X
  have Hsl := Lib.hid (signQ_lt x.n hxn)
  clear h ha hW hbW hzW h0W hbase hWa b1 b2 b3 hb hn hll hbE hEw hxn
  go_enter Try.func52, Try.ntmps52
  go_upto_region 1 with fail
  rw [← HW.out]
  go_upto_region 2 with (go_at_call 33; refine hN.mono ?_; rintro e w1 ⟨rfl, h1, k1⟩; have H1 := Lib.hid h1; have K1 := Lib.hid k1; clear h1 k1 hN)
  clear x0 x1 x2 x3 x4
  obtain ⟨⟨x0, x1, x2, x3, x4⟩, g1⟩ := HC.out w1 K1.out
  have hN := number_w base E (l ++ cdN (u64Q x.op)) x.ty w1 H1.out (by have := Hbb.out; have := Hll.out; simp only [List.length_append]; omega)
  clear g1
  go_upto_region 3 with (go_at_call 33; refine hN.mono ?_; rintro e w2 ⟨rfl, h1, k1⟩; have H2 := Lib.hid h1; have K2 := Lib.hid (K1.out.trans k1); clear h1 k1 hN)
  clear x0 x1 x2 x3 x4
  obtain ⟨⟨x0, x1, x2, x3, x4⟩, g1⟩ := HC.out w2 K2.out
  have hR := row_w base E n0 (l ++ cdN (u64Q x.op) ++ cdN (u64Q x.ty)) aA an ac x.args w2 H2.out g1 Hn.out Hb.out (by have := Hbb.out; have := Hll.out; simp only [List.length_append]; omega)
  clear g1
  go_upto_region 4 with (go_at_call 51; refine hR.mono ?_; rintro e w3 ⟨rfl, h1, k1⟩; have H3 := Lib.hid h1; have K3 := Lib.hid (K2.out.trans k1); clear h1 k1 hR)
  clear x0 x1 x2 x3 x4
  obtain ⟨⟨x0, x1, x2, x3, x4⟩, -⟩ := HC.out w3 K3.out
  obtain ⟨m, hm⟩ : ∃ m, m = l ++ cdN (u64Q x.op) ++ cdN (u64Q x.ty) ++ cdRow x.args := ⟨_, rfl⟩
  rw [← hm] at H3
  have h3 := H3.out
  obtain ⟨v3, e3, ho3, -, hb3⟩ := h3
  obtain ⟨A3, c3, rfl⟩ := gr_slice ho3
  have y0 := Lib.cell_of_heap e3 0
  have Hm := Lib.hid hm
  have Hb3 := Lib.hid hb3
  have hA := addNum_c base (.slice A3 m.length c3) m (signQ x.n) w3.drew Hsl.out ho3 (by rw [hm]; have := Hbb.out; have := Hll.out; have := Hb.out; simp only [List.length_append]; omega) hb3
  obtain ⟨m4, hm4⟩ : ∃ m4, m4 = m ++ cdN (signQ x.n) := ⟨_, rfl⟩
  rw [← hm4] at hA
  have Hm4 := Lib.hid hm4
  have HE3 : Hid (w3.drew.heap[E]? = some (.cells #[.slice A3 m.length c3] 75 (0, 0))) := Lib.hid e3
  have HB3 : Hid (w3.drew.heap[w.heap.size]? = some (.cells #[.int .i64 x.op, .int .i64 x.ty, .slice aA an ac, .int .i64 x.n, .int .i64 x.to_] 66 (0, 0))) := Lib.hid (HCh.out w3 K3.out)
  obtain ⟨sg, hsg⟩ : ∃ sg, sg = signQ x.n := ⟨_, rfl⟩
  rw [← hsg] at hA HSg
  clear hm hm4 e3 ho3 hb3 hsg
  refine wp_region_held_drew (S := fun u : World => u.cell? ⟨w.heap.size, 3, none⟩ = some (.int .i64 x.n)) (by kernel_rfl) x3 (fun hHeld => ?_)
  refine wpAnyH_take (i := 0) (v := ?_) rfl (by kernel_rfl) (by kernel_rfl) (by kernel_rfl) (fun _ _ _ h => h) (Or.inl ⟨by kernel_rfl, ?_⟩) (by assumption) ?_
  rotate_left
  · (intro w hSw; (try dsimp only at hSw); first | (go_simp; done) | (go_simp; with_reducible rfl))
  try simp only [Act.put, List.setIfInBounds_toArray, List.set_cons_zero, List.set_cons_succ]
  refine wpAnyH_take (i := 1) (v := ?_) rfl (by kernel_rfl) (by kernel_rfl) (by kernel_rfl) (fun _ _ _ h => h) (Or.inl ⟨by kernel_rfl, ?_⟩) (by assumption) ?_
  rotate_left
  · (intro w hSw; (try dsimp only at hSw); first | (go_simp; done) | (go_simp; with_reducible rfl))
  try simp only [Act.put, List.setIfInBounds_toArray, List.set_cons_zero, List.set_cons_succ]
  refine wpAnyH_take (i := 2) (v := ?_) rfl (by kernel_rfl) (by kernel_rfl) (by kernel_rfl) (fun _ _ _ h => h) (Or.inl ⟨by kernel_rfl, ?_⟩) (by assumption) ?_
  rotate_left
  · (intro w hSw; (try dsimp only at hSw); first | (go_simp; done) | (go_simp; with_reducible rfl))
  try simp only [Act.put, List.setIfInBounds_toArray, List.set_cons_zero, List.set_cons_succ]
  refine wpAnyH_take (i := 3) (v := ?_) rfl (by kernel_rfl) (by kernel_rfl) (by kernel_rfl) (fun _ _ _ h => h) (Or.inl ⟨by kernel_rfl, ?_⟩) (by assumption) ?_
  rotate_left
  · (intro w hSw; (try dsimp only at hSw); first | (go_simp; done) | (go_simp; with_reducible rfl))
  try simp only [Act.put, List.setIfInBounds_toArray, List.set_cons_zero, List.set_cons_succ]
  refine wpAnyH_take (i := 5) (v := ?_) rfl (by kernel_rfl) (by kernel_rfl) (by kernel_rfl) (fun _ _ _ h => h) (Or.inl ⟨by kernel_rfl, ?_⟩) (by assumption) ?_
  rotate_left
  · (intro w hSw; (try dsimp only at hSw); first | (go_simp; done) | (go_simp; with_reducible rfl))
  try simp only [Act.put, List.setIfInBounds_toArray, List.set_cons_zero, List.set_cons_succ]
  refine wpAnyH_take (i := 6) (v := ?_) rfl (by kernel_rfl) (by kernel_rfl) (by kernel_rfl) (fun _ _ _ h => h) (Or.inl ⟨by kernel_rfl, ?_⟩) (by assumption) ?_
  rotate_left
  · (intro w hSw; (try dsimp only at hSw); first | (go_simp; done) | (go_simp; with_reducible rfl))
  try simp only [Act.put, List.setIfInBounds_toArray, List.set_cons_zero, List.set_cons_succ]
  refine wpAnyH_ready (rs := [4, 7]) (by kernel_rfl) (by simp) ?_
  refine AllReadyH.cons rfl (fun K hK => ?_) (AllReadyH.cons rfl (fun K hK => ?_) (AllReadyH.nil))
  · have hs0 : w3.drew.cell? ⟨w.heap.size, 3, none⟩ = some (.int .i64 x.n) := x3
    have s0 : w3.drew.cell? ⟨E, 0, none⟩ = some (.slice A3 m.length c3) := y0
    go_simp
    refine hK.out _ _ ?_ (fun hHeld => ?_)
    · ((try dsimp only); first | with_reducible assumption | exact hs0 | exact hs1 | exact hs2 | exact hs3)
    clear hK K
    try simp only [Act.put, List.setIfInBounds_toArray, List.set_cons_zero, List.set_cons_succ]
    refine wpAnyH_ready (rs := [7]) (by kernel_rfl) (by simp) ?_
    refine AllReadyH.cons rfl (fun K hK => ?_) (AllReadyH.nil)
    have hs0 : w3.drew.cell? ⟨w.heap.size, 3, none⟩ = some (.int .i64 x.n) := x3
    go_simp
    refine (HSg.out _).mono ?_
    rintro e wz ⟨rfl, rfl⟩
    try dsimp only
    refine hK.out _ _ ?_ (fun hHeld => ?_)
    · ((try dsimp only); first | with_reducible assumption | exact hs0 | exact hs1 | exact hs2 | exact hs3)
    clear hK K
    try simp only [Act.put, List.setIfInBounds_toArray, List.set_cons_zero, List.set_cons_succ]
    refine wpAnyH_ready (rs := [8]) (by kernel_rfl) (by simp) ?_
    refine AllReadyH.cons rfl (fun K hK => ?_) (AllReadyH.nil)
    go_simp
    refine hA.mono ?_
    rintro e w4 ⟨v4, rfl, ho4, hk4⟩
    obtain ⟨A4, c4, rfl⟩ := gr_slice ho4
    have e4 := hk4.k _ _ _ _ HE3.out (by decide)
    have hs1 : w4.cell? ⟨w.heap.size, 3, none⟩ = some (.int .i64 x.n) := Lib.cell_of_heap (hk4.k _ _ _ _ HB3.out (by decide)) 3
    have yf4 := Lib.frozen_of_heap e4 0
    have y04 := Lib.cell_of_heap e4 0
    have HE4 := Lib.hid e4
    have HO4 := Lib.hid ho4
    have HK4 := Lib.hid hk4
    clear e4 ho4 hk4 hA
    try dsimp only
    refine hK.out _ _ ?_ (fun hHeld => ?_)
    · ((try dsimp only); first | with_reducible assumption | exact hs0 | exact hs1 | exact hs2 | exact hs3)
    clear hK K
    try simp only [Act.put, List.setIfInBounds_toArray, List.set_cons_zero, List.set_cons_succ]
    refine wpAnyH_take (i := 9) (v := ?_) rfl (by kernel_rfl) (by kernel_rfl) (by kernel_rfl) (fun _ _ _ h => h) (Or.inl ⟨by kernel_rfl, ?_⟩) (by assumption) ?_
    rotate_left
    · (intro w hSw; (try dsimp only at hSw); first | (go_simp; done) | (go_simp; with_reducible rfl))
    try simp only [Act.put, List.setIfInBounds_toArray, List.set_cons_zero, List.set_cons_succ]
    refine wpAnyH_take (i := 10) (v := ?_) rfl (by kernel_rfl) (by kernel_rfl) (by kernel_rfl) (fun _ _ _ h => h) (Or.inl ⟨by kernel_rfl, ?_⟩) (by assumption) ?_
    rotate_left
    · (intro w hSw; (try dsimp only at hSw); first | (go_simp; done) | (go_simp; with_reducible rfl))
    try simp only [Act.put, List.setIfInBounds_toArray, List.set_cons_zero, List.set_cons_succ]
    refine wpAnyH_ready (rs := [11]) (by kernel_rfl) (by simp) ?_
    refine AllReadyH.cons rfl (fun K hK => ?_) (AllReadyH.nil)
    have hs2 : (w4.setCell ⟨E, 0, none⟩ (.slice A4 m4.length c4)).cell? ⟨w.heap.size, 3, none⟩ = some (.int .i64 x.n) := (World.cell?_setCell_other _ _ _ _ (fun e => HEB.out (congrArg Addr.block e))).trans hs1
    go_simp
    refine hK.out _ _ ?_ (fun hHeld => ?_)
    · ((try dsimp only); first | with_reducible assumption | exact hs0 | exact hs1 | exact hs2 | exact hs3)
    clear hK K
    try simp only [Act.put, List.setIfInBounds_toArray, List.set_cons_zero, List.set_cons_succ]
    refine wpAnyH_done (by kernel_rfl) ?_ _
    clear y04 yf4 hs1 hs2
    have hs := WrAt.of_set (l := m4) HE4.out rfl HO4.out HbE.out
    have H4 := Lib.hid hs.1
    have K4 := Lib.hid (K3.out.trans ((Kq.of_below ((Below.refl w3.heap.size w3).drew) Hb3.out).trans (HK4.out.w.trans hs.2)))
    obtain ⟨X, hX⟩ : ∃ X, X = w4.setCell ⟨E, 0, none⟩ (.slice A4 m4.length c4) := ⟨_, rfl⟩
    rw [← hX] at H4 K4 hs ⊢
    clear hs hX
    clear x0 x1 x2 x3 x4
    obtain ⟨⟨x0, x1, x2, x3, x4⟩, -⟩ := HC.out X K4.out
    have hN := number_w base E m4 x.to_ X H4.out (by rw [Hm4.out, Hm.out]; have := Hbb.out; have := Hll.out; have := Hb.out; have := cdN_len (signQ x.n); simp only [List.length_append]; omega)
    have e : m4 ++ cdN (u64Q x.to_) = l ++ cdIns x := by rw [Hm4.out, Hm.out]; unfold cdIns; simp
    rw [e] at hN
    clear e
    go_wp2_with (go_at_call 33; refine hN.mono ?_; rintro e w5 ⟨rfl, h1, k1⟩; have H5 := Lib.hid h1; have K5 := Lib.hid (K4.out.trans k1); clear h1 k1 hN)
    try simp only [Exit.inBlock, Exit.then]
    first
      | refine bodyPost_ret (results_none rfl _ _ _) rfl ?_
      | refine bodyPost_end (results_none rfl _ _ _) rfl ?_
    exact ⟨rfl, H5.out, HKW.out.trans K5.out⟩
  · have hs0 : w3.drew.cell? ⟨w.heap.size, 3, none⟩ = some (.int .i64 x.n) := x3
    go_simp
    refine (HSg.out _).mono ?_
    rintro e wz ⟨rfl, rfl⟩
    try dsimp only
    refine hK.out _ _ ?_ (fun hHeld => ?_)
    · ((try dsimp only); first | with_reducible assumption | exact hs0 | exact hs1 | exact hs2 | exact hs3)
    clear hK K
    try simp only [Act.put, List.setIfInBounds_toArray, List.set_cons_zero, List.set_cons_succ]
    refine wpAnyH_ready (rs := [4]) (by kernel_rfl) (by simp) ?_
    refine AllReadyH.cons rfl (fun K hK => ?_) (AllReadyH.nil)
    have hs0 : w3.drew.cell? ⟨w.heap.size, 3, none⟩ = some (.int .i64 x.n) := x3
    have s0 : w3.drew.cell? ⟨E, 0, none⟩ = some (.slice A3 m.length c3) := y0
    go_simp
    refine hK.out _ _ ?_ (fun hHeld => ?_)
    · ((try dsimp only); first | with_reducible assumption | exact hs0 | exact hs1 | exact hs2 | exact hs3)
    clear hK K
    try simp only [Act.put, List.setIfInBounds_toArray, List.set_cons_zero, List.set_cons_succ]
    refine wpAnyH_ready (rs := [8]) (by kernel_rfl) (by simp) ?_
    refine AllReadyH.cons rfl (fun K hK => ?_) (AllReadyH.nil)
    go_simp
    refine hA.mono ?_
    rintro e w4 ⟨v4, rfl, ho4, hk4⟩
    obtain ⟨A4, c4, rfl⟩ := gr_slice ho4
    have e4 := hk4.k _ _ _ _ HE3.out (by decide)
    have hs1 : w4.cell? ⟨w.heap.size, 3, none⟩ = some (.int .i64 x.n) := Lib.cell_of_heap (hk4.k _ _ _ _ HB3.out (by decide)) 3
    have yf4 := Lib.frozen_of_heap e4 0
    have y04 := Lib.cell_of_heap e4 0
    have HE4 := Lib.hid e4
    have HO4 := Lib.hid ho4
    have HK4 := Lib.hid hk4
    clear e4 ho4 hk4 hA
    try dsimp only
    refine hK.out _ _ ?_ (fun hHeld => ?_)
    · ((try dsimp only); first | with_reducible assumption | exact hs0 | exact hs1 | exact hs2 | exact hs3)
    clear hK K
    try simp only [Act.put, List.setIfInBounds_toArray, List.set_cons_zero, List.set_cons_succ]
    refine wpAnyH_take (i := 9) (v := ?_) rfl (by kernel_rfl) (by kernel_rfl) (by kernel_rfl) (fun _ _ _ h => h) (Or.inl ⟨by kernel_rfl, ?_⟩) (by assumption) ?_
    rotate_left
    · (intro w hSw; (try dsimp only at hSw); first | (go_simp; done) | (go_simp; with_reducible rfl))
    try simp only [Act.put, List.setIfInBounds_toArray, List.set_cons_zero, List.set_cons_succ]
    refine wpAnyH_take (i := 10) (v := ?_) rfl (by kernel_rfl) (by kernel_rfl) (by kernel_rfl) (fun _ _ _ h => h) (Or.inl ⟨by kernel_rfl, ?_⟩) (by assumption) ?_
    rotate_left
    · (intro w hSw; (try dsimp only at hSw); first | (go_simp; done) | (go_simp; with_reducible rfl))
    try simp only [Act.put, List.setIfInBounds_toArray, List.set_cons_zero, List.set_cons_succ]
    refine wpAnyH_ready (rs := [11]) (by kernel_rfl) (by simp) ?_
    refine AllReadyH.cons rfl (fun K hK => ?_) (AllReadyH.nil)
    have hs2 : (w4.setCell ⟨E, 0, none⟩ (.slice A4 m4.length c4)).cell? ⟨w.heap.size, 3, none⟩ = some (.int .i64 x.n) := (World.cell?_setCell_other _ _ _ _ (fun e => HEB.out (congrArg Addr.block e))).trans hs1
    go_simp
    refine hK.out _ _ ?_ (fun hHeld => ?_)
    · ((try dsimp only); first | with_reducible assumption | exact hs0 | exact hs1 | exact hs2 | exact hs3)
    clear hK K
    try simp only [Act.put, List.setIfInBounds_toArray, List.set_cons_zero, List.set_cons_succ]
    refine wpAnyH_done (by kernel_rfl) ?_ _
    clear y04 yf4 hs1 hs2
    have hs := WrAt.of_set (l := m4) HE4.out rfl HO4.out HbE.out
    have H4 := Lib.hid hs.1
    have K4 := Lib.hid (K3.out.trans ((Kq.of_below ((Below.refl w3.heap.size w3).drew) Hb3.out).trans (HK4.out.w.trans hs.2)))
    obtain ⟨X, hX⟩ : ∃ X, X = w4.setCell ⟨E, 0, none⟩ (.slice A4 m4.length c4) := ⟨_, rfl⟩
    rw [← hX] at H4 K4 hs ⊢
    clear hs hX
    clear x0 x1 x2 x3 x4
    obtain ⟨⟨x0, x1, x2, x3, x4⟩, -⟩ := HC.out X K4.out
    have hN := number_w base E m4 x.to_ X H4.out (by rw [Hm4.out, Hm.out]; have := Hbb.out; have := Hll.out; have := Hb.out; have := cdN_len (signQ x.n); simp only [List.length_append]; omega)
    have e : m4 ++ cdN (u64Q x.to_) = l ++ cdIns x := by rw [Hm4.out, Hm.out]; unfold cdIns; simp
    rw [e] at hN
    clear e
    go_wp2_with (go_at_call 33; refine hN.mono ?_; rintro e w5 ⟨rfl, h1, k1⟩; have H5 := Lib.hid h1; have K5 := Lib.hid (K4.out.trans k1); clear h1 k1 hN)
    try simp only [Exit.inBlock, Exit.then]
    first
      | refine bodyPost_ret (results_none rfl _ _ _) rfl ?_
      | refine bodyPost_end (results_none rfl _ _ _) rfl ?_
    exact ⟨rfl, H5.out, HKW.out.trans K5.out⟩
end Go.Proofs.Ythjlpbglnnebkaa
