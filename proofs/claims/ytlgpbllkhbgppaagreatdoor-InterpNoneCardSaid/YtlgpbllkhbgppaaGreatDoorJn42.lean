/-
  The writer of steps: expressions.
  The writer of steps: return and print.
  The writer of steps: blocks.
  The writer of steps: a block.
-/
import Derived.Test.YtlgpbllkhbgppaaGreatDoorJn41
namespace Go.Proofs.YtlgpbllkhbgppaaGreatDoor
set_option linter.unusedVariables false
set_option linter.unusedSimpArgs false
open Go.RowKit

/-- What fuel is left over for the next step. -/
def wLeft (l : List Ex) (f : Int) : Int := match l with
  | [] => f
  | _ :: _ => 0
mutual
/-- The steps of an expression, as cells. -/
def wE : Ex → Int → List Value
  | .mk k _ _ o n _ kids, f => if k = 1 then [.int .i64 1, .int .i64 (f + 1), .int .i64 n, .int .i64 0] else wEs kids (f + 1) ++ [.int .i64 12, .int .i64 (wLeft kids (f + 1)), .int .i64 o, .int .i64 0]
def wEs : List Ex → Int → List Value
  | [], _ => []
  | e :: r, f => wE e f ++ wEs r 0
end
mutual
def wN : Ex → Nat
  | .mk k _ _ _ _ _ kids => if k = 1 then 1 else wNs kids + 1
def wNs : List Ex → Nat
  | [] => 0
  | e :: r => wN e + wNs r
end
theorem wLeft_snoc (l : List Ex) (e : Ex) (f : Int) : wLeft (l ++ [e]) f = 0 := by cases l <;> rfl
theorem wEs_snoc (l : List Ex) (e : Ex) (f : Int) : wEs (l ++ [e]) f = wEs l f ++ wE e (wLeft l f) := by
  induction l generalizing f with
  | nil => simp [wEs, wLeft]
  | cons x r ih =>
    rw [List.cons_append]
    simp only [wEs]
    rw [ih 0, List.append_assoc]
    congr 2
    cases r <;> rfl
theorem wNs_snoc (l : List Ex) (e : Ex) : wNs (l ++ [e]) = wNs l + wN e := by
  induction l with
  | nil => simp [wNs]
  | cons x r ih => simp only [List.cons_append, wNs, ih]; omega
theorem wNs_take (l : List Ex) (i : Nat) : wNs (l.take i) ≤ wNs l := by
  induction l generalizing i with
  | nil => simp [wNs]
  | cons x r ih => cases i with
    | zero => simp [wNs]
    | succ i => have := ih i; simp only [List.take_succ_cons, wNs]; omega
theorem wNs_at (l : List Ex) (i : Nat) (e : Ex) (h : l[i]? = some e) : wNs (l.take i) + wN e ≤ wNs l := by
  induction l generalizing i with
  | nil => simp at h
  | cons x r ih => cases i with
    | zero => simp at h; subst h; simp [wNs]
    | succ i => have := ih i (by simpa using h); simp only [List.take_succ_cons, wNs]; omega
def WxT (e : Ex) : Prop := ∀ (b base n : Nat) (xs : List Value) (fu hi : Int) (ST SL LO : Value) (S : Nat → Prop) (v : Value) (w : World), b < base → base ≤ w.heap.size → n + wN e ≤ 1000000 → 0 ≤ fu → fu + wN e ≤ 1000000 → Wri w b base n xs fu ST SL hi LO → (∀ x, S x → x < base ∧ x ≠ b) → ExV w S v e →
  Calls Tryz.prog 97 #[.pointer (some ⟨b, 0, none⟩), v] w fun r w' => r = .returned (.tuple #[]) ∧ WW b base w w' ∧ Wri w' b base (n + wN e) (xs ++ wE e fu) 0 ST SL hi LO
theorem BB.cell {g base : Nat} {w w' : World} (h : BB g base w w') {p : Addr} (h1 : p.block < base) (h2 : p.block ≠ g) : w'.cell? p = w.cell? p := World.cell?_of_block (h.block _ h1 h2)
theorem wLeft_nonneg (l : List Ex) (f : Int) (h : 0 ≤ f) : 0 ≤ wLeft l f ∧ wLeft l f ≤ f := by
  cases l <;> simp [wLeft] <;> omega
set_option maxRecDepth 100000 in
set_option maxHeartbeats 8000000 in
theorem w_exprs (l : List Ex) (HE : ∀ e ∈ l, WxT e) (hlen : l.length ≤ 1099511627776) (b base n : Nat) (xs : List Value) (fu hi : Int) (ST SL LO : Value) (S : Nat → Prop) (A : Option Addr) (cap : Nat) (w : World) (hb : b < base) (hbs : base ≤ w.heap.size) (hn : n + wNs l ≤ 1000000) (hf0 : 0 ≤ fu) (hf1 : fu + wNs l ≤ 1000000) (h : Wri w b base n xs fu ST SL hi LO) (hS : ∀ x, S x → x < base ∧ x ≠ b) (hR : RdEs w S A 0 l) :
    Calls Tryz.prog 98 #[.pointer (some ⟨b, 0, none⟩), .slice A l.length cap] w fun r w' => r = .returned (.tuple #[]) ∧ WW b base w w' ∧ Wri w' b base (n + wNs l) (xs ++ wEs l fu) (wLeft l fu) ST SL hi LO := by
  obtain ⟨m, hm⟩ : ∃ m, m = l.length := ⟨_, rfl⟩
  have Hm := Lib.hid hm
  rw [← hm] at hlen ⊢
  have H := Lib.hid h
  have HR := Lib.hid hR
  have HS := Lib.hid hS
  have HHE := Lib.hid HE
  clear hm h hR hS HE
  go_enter Tryz.func98, Tryz.ntmps98
  go_wp2
  go_loopw [8] (fun u8 wr => ∃ i : Nat, i ≤ m ∧ u8 = .int .i64 i ∧ Hid (WW b base w wr) ∧ Hid (Wri wr b base (n + wNs (l.take i)) (xs ++ wEs (l.take i) fu) (wLeft (l.take i) fu) ST SL hi LO)) (fun u _ => m - (intOf u).toNat)
  case atStart => exact ⟨0, Nat.zero_le _, rfl, Lib.hid (WW.refl _ _ _), Lib.hid (by simpa [wNs, wEs, wLeft] using H.out)⟩
  case round =>
    obtain ⟨i, him, rfl, hB, hW⟩ := hrel
    by_cases hlt : i < m
    · have hil : i < l.length := by rw [← Hm.out]; exact hlt
      obtain ⟨e, he⟩ : ∃ e, l[i]? = some e := ⟨_, List.getElem?_eq_getElem hil⟩
      obtain ⟨r, o, rfl, hr0, hE⟩ := HR.out.at_ he
      obtain ⟨hr1, hr2⟩ := HS.out _ hr0
      have hXe := HHE.out e (List.mem_of_getElem? he)
      have hne := wNs_at l i e he
      have htk : l.take (i + 1) = l.take i ++ [e] := by
        rw [List.take_succ_eq_append_getElem hil]
        congr 2
        rw [List.getElem?_eq_getElem hil] at he
        exact Option.some.inj he
      obtain ⟨k, a, t, q, nn, s, kids⟩ := e
      unfold RdE at hE
      obtain ⟨x0, x1, x2, x3, x4, x5, K, ck, x6, hK⟩ := hE
      rw [Nat.zero_add] at x0 x1 x2 x3 x4 x5 x6
      have up : ∀ j u, w.cell? ⟨r, j, none⟩ = some u → wr.cell? ⟨r, j, none⟩ = some u := fun j u e => (hB.out.bb.cell (p := ⟨r, j, none⟩) hr1 hr2).trans e
      replace x0 := up _ _ x0
      replace x1 := up _ _ x1
      replace x2 := up _ _ x2
      replace x3 := up _ _ x3
      replace x4 := up _ _ x4
      replace x5 := up _ _ x5
      replace x6 := up _ _ x6
      rw [Nat.add_zero] at x0
      have hzr := hB.out.bb.size
      have hl2 := wLeft_nonneg (l.take i) fu hf0
      have hal : Below wr.heap.size wr (wr.alloc (.cells #[.int .i64 k, .int .i64 a, .int .i64 t, .int .i64 q, .int .i64 nn, .string s, .slice K kids.length (kids.length + ck)] 159)) := (Below.refl _ _).alloc (Nat.le_refl _) _
      obtain ⟨V, C, hB2, hown⟩ := hW.out
      have hX := hXe b base (n + wNs (l.take i)) (xs ++ wEs (l.take i) fu) (wLeft (l.take i) fu) hi ST SL LO S (.agg #[.int .i64 k, .int .i64 a, .int .i64 t, .int .i64 q, .int .i64 nn, .string s, .slice K kids.length (kids.length + ck)]) (wr.alloc (.cells #[.int .i64 k, .int .i64 a, .int .i64 t, .int .i64 q, .int .i64 nn, .string s, .slice K kids.length (kids.length + ck)] 159)) hb (by simp; omega) (by omega) hl2.1 (by omega) ⟨V, C, (hal.block b (heap_lt hB2)).trans hB2, own_blw hown hal⟩ HS.out ⟨k, a, t, q, nn, s, kids, K, ck, rfl, rfl, RdEs.keep (fun p hp => (hal.cell (by have := (HS.out _ hp).1; omega)).trans (hB.out.bb.cell (HS.out _ hp).1 (HS.out _ hp).2)) _ _ _ hK⟩
      have hrr : r < wr.heap.size := by omega
      have Htk := Lib.hid htk
      have Hne := Lib.hid hne
      have Hal := Lib.hid hal
      clear up hXe hK he hr0 htk hne hal hB2 hown hl2
      go_wp2_with (go_at_call 97; refine hX.mono ?_)
      rintro rr w1 ⟨rfl, hb1, hW1⟩
      have HB1 := Lib.hid ((hB.out.trans (WW.of_below Hal.out (by omega) (by omega))).trans hb1)
      have HW1 : Hid (Wri w1 b base (n + wNs (l.take (i + 1))) (xs ++ wEs (l.take (i + 1)) fu) (wLeft (l.take (i + 1)) fu) ST SL hi LO) := Lib.hid (by
        rw [Htk.out, wNs_snoc, wEs_snoc, wLeft_snoc, ← Nat.add_assoc, ← List.append_assoc]
        exact hW1)
      clear hb1 hW1 hX x0 x1 x2 x3 x4 x5 x6
      go_wp2
      go_roundw
      case rel => exact ⟨i + 1, by omega, by go_num, HB1, HW1⟩
      case measure => simp [intOf]; omega
    · obtain rfl : i = m := by omega
      have hd := Lib.hid hlt
      have hW2 := hW.out
      rw [Hm.out, List.take_length] at hW2
      go_wp2
      go_end0
      exact ⟨rfl, hB.out, hW2⟩
set_option maxRecDepth 100000 in
set_option maxHeartbeats 8000000 in
theorem w_whole (b base n : Nat) (xs : List Value) (fu hi a t o nn : Int) (s : ByteArray) (K : Option Addr) (m c : Nat) (ST SL LO : Value) (w : World) (hb : b < base) (hbs : base ≤ w.heap.size) (hn : n ≤ 1000000) (h : Wri w b base n xs fu ST SL hi LO) :
    Calls Tryz.prog 118 #[.pointer (some ⟨b, 0, none⟩), .agg #[.int .i64 5, .int .i64 a, .int .i64 t, .int .i64 o, .int .i64 nn, .string s, .slice K m c]] w fun r w' => r = .returned (.tuple #[]) ∧ WW b base w w' ∧ Wri w' b base (n + 1) (xs ++ [.int .i64 12, .int .i64 fu, .int .i64 o, .int .i64 0]) 0 ST SL hi LO := by
  have hal : Below w.heap.size w (w.alloc (.cells #[.int .i64 5, .int .i64 a, .int .i64 t, .int .i64 o, .int .i64 nn, .string s, .slice K m c] 159)) := (Below.refl _ _).alloc (Nat.le_refl _) _
  obtain ⟨V, C, hB2, hown⟩ := h
  have hX := w_add b base n xs fu hi 12 0 o 0 ST SL LO (w.alloc (.cells #[.int .i64 5, .int .i64 a, .int .i64 t, .int .i64 o, .int .i64 nn, .string s, .slice K m c] 159)) hb (by simp; omega) hn ⟨V, C, (hal.block b (heap_lt hB2)).trans hB2, own_blw hown hal⟩
  have Hal := Lib.hid hal
  clear hal hB2 hown
  go_enter Tryz.func118, Tryz.ntmps118
  go_wp2_with (go_at_call 42; refine hX.mono ?_; rintro e w1 ⟨rfl, hb1, hW1⟩; have HB1 := Lib.hid hb1; have HW1 := Lib.hid hW1; clear hX hb1 hW1)
  go_end0
  exact ⟨rfl, (WW.of_below Hal.out (by omega) hbs).trans HB1.out, HW1.out⟩
theorem cells6w {w : World} {b : Nat} {v0 v1 v2 v3 v4 v5 : Value} {T : TypeId} (h : w.heap[b]? = some (.cells #[v0, v1, v2, v3, v4, v5] T (0, 0))) (fu : Int) : (w.setCell ⟨b, 2, none⟩ (.int .i64 fu)).heap[b]? = some (.cells #[v0, v1, .int .i64 fu, v3, v4, v5] T (0, 0)) := heap_set h 2 _
/-- More fuel for the next step. -/
theorem WW.fuel {b base n : Nat} {xs : List Value} {fu hi f2 : Int} {ST SL LO : Value} {w : World} (h : Wri w b base n xs fu ST SL hi LO) (hb : b < base) (hbs : base ≤ w.heap.size) : WW b base w (w.setCell ⟨b, 2, none⟩ (.int .i64 f2)) ∧ Wri (w.setCell ⟨b, 2, none⟩ (.int .i64 f2)) b base n xs f2 ST SL hi LO := by
  obtain ⟨V, C, hB, hown⟩ := h
  have hbut : But b w (w.setCell ⟨b, 2, none⟩ (.int .i64 f2)) := (But.refl b w).setCell (p := ⟨b, 2, none⟩) (Or.inl rfl) _
  refine ⟨⟨BB.of_but hbut hbs, fun k h1 h2 _ => hbut.block k h1 h2, fun k h1 q => ?_⟩, V, C, cells6w hB f2, own_but hown hbut hb⟩
  obtain ⟨n', C', q⟩ := q
  have e1 : (w.setCell ⟨b, 2, none⟩ (.int .i64 f2)).cell? ⟨b, 0, none⟩ = some (.slice V n C) := Lib.cell_of_heap (cells6w hB f2) 0
  have e2 : w.cell? ⟨b, 0, none⟩ = some (.slice V n C) := Lib.cell_of_heap hB 0
  exact ⟨n', C', e2.trans (e1.symm.trans q)⟩
set_option maxRecDepth 100000 in
set_option maxHeartbeats 8000000 in
theorem w_int (a t o nn : Int) (s : ByteArray) : WxT (.mk 1 a t o nn s []) := by
  intro b base n xs fu hi ST SL LO S v w hb hbs hn hf0 hf1 h hS hv
  obtain ⟨k', a', t', o', n', s', kids', K, c, he, rfl, hk⟩ := hv
  injection he with e1 e2 e3 e4 e5 e6 e7
  subst e1 e2 e3 e4 e5 e6 e7
  have hwn : wN (.mk 1 a t o nn s []) = 1 := by simp [wN]
  have hwe : wE (.mk 1 a t o nn s []) fu = [.int .i64 1, .int .i64 (fu + 1), .int .i64 nn, .int .i64 0] := by simp [wE]
  rw [hwn] at hn hf1 ⊢
  rw [hwe]
  simp only [List.length_nil, Nat.zero_add]
  obtain ⟨W, hW, hbW, hzW, h0W⟩ := ch_one_al w #[.int .i64 1, .int .i64 a, .int .i64 t, .int .i64 o, .int .i64 nn, .string s, .slice K 0 c] 159
  obtain ⟨V, C, hB, hown⟩ := h
  have hBW := (hbW.block b (by omega)).trans hB
  have hWriW : Wri W b base n xs fu ST SL hi LO := ⟨V, C, hBW, own_blw hown hbW⟩
  obtain ⟨hf, hWf⟩ := WW.fuel (f2 := fu + 1) hWriW hb (by omega)
  have hX := w_add b base n xs (fu + 1) hi 1 0 nn 0 ST SL LO (W.setCell ⟨b, 2, none⟩ (.int .i64 (fu + 1))) hb (by rw [set_size]; omega) (by omega) hWf
  have c2 := Lib.cell_of_heap hBW 2
  have f2 := Lib.frozen_of_heap hBW 2
  have x0 := Lib.cell_of_heap h0W 0
  have x4 := Lib.cell_of_heap h0W 4
  have hWW := (WW.of_below (b := b) (base := base) hbW (by omega) hbs).trans hf
  have HWW := Lib.hid hWW
  have HW := Lib.hid hW
  clear hW hbW hzW h0W hB hown hBW hWriW hf hWf hWW hk
  go_enter Tryz.func97, Tryz.ntmps97
  go_upto_region 1 with fail
  rw [← HW.out]
  go_wp2_with (go_at_call 42; refine hX.mono ?_; rintro e w1 ⟨rfl, hb1, hW1⟩; have HB1 := Lib.hid hb1; have HW1 := Lib.hid hW1; clear hX hb1 hW1)
  go_end0
  exact ⟨rfl, HWW.out.trans HB1.out, HW1.out⟩
set_option maxRecDepth 100000 in
set_option maxHeartbeats 8000000 in
theorem w_div (a t o nn : Int) (s : ByteArray) (kids : List Ex) (HE : ∀ e ∈ kids, WxT e) (hlen : kids.length ≤ 1099511627776) : WxT (.mk 5 a t o nn s kids) := by
  intro b base n xs fu hi ST SL LO S v w hb hbs hn hf0 hf1 h hS hv
  obtain ⟨k', a', t', o', n', s', kids', K, c, he, rfl, hk⟩ := hv
  injection he with e1 e2 e3 e4 e5 e6 e7
  subst e1 e2 e3 e4 e5 e6 e7
  have hwn : wN (.mk 5 a t o nn s kids) = wNs kids + 1 := by simp [wN]
  have hwe : wE (.mk 5 a t o nn s kids) fu = wEs kids (fu + 1) ++ [.int .i64 12, .int .i64 (wLeft kids (fu + 1)), .int .i64 o, .int .i64 0] := by simp [wE]
  rw [hwn] at hn hf1 ⊢
  rw [hwe]
  obtain ⟨m, hm⟩ : ∃ m, m = kids.length := ⟨_, rfl⟩
  obtain ⟨W, hW, hbW, hzW, h0W⟩ := ch_one_al w #[.int .i64 5, .int .i64 a, .int .i64 t, .int .i64 o, .int .i64 nn, .string s, .slice K kids.length (kids.length + c)] 159
  obtain ⟨V, C, hB, hown⟩ := h
  have hWri0 : Wri w b base n xs fu ST SL hi LO := ⟨V, C, hB, hown⟩
  have hBW := (hbW.block b (by omega)).trans hB
  have hWriW : Wri W b base n xs fu ST SL hi LO := ⟨V, C, hBW, own_blw hown hbW⟩
  obtain ⟨hf, hWf⟩ := WW.fuel (f2 := fu + 1) hWriW hb (by omega)
  have hWW := (WW.of_below (b := b) (base := base) hbW (by omega) hbs).trans hf
  have hX := w_exprs kids HE hlen b base n xs (fu + 1) hi ST SL LO S K (kids.length + c) (W.setCell ⟨b, 2, none⟩ (.int .i64 (fu + 1))) hb (by rw [set_size]; omega) (by omega) (by omega) (by omega) hWf hS (RdEs.keep (fun p hp => hWW.bb.cell (hS _ hp).1 (hS _ hp).2) _ _ _ hk)
  have c2 := Lib.cell_of_heap hBW 2
  have f2 := Lib.frozen_of_heap hBW 2
  have x0 := Lib.cell_of_heap h0W 0
  have x6 := Lib.cell_of_heap h0W 6
  have hbox : ∀ w1, WW b base (W.setCell ⟨b, 2, none⟩ (.int .i64 (fu + 1))) w1 → w1.heap[w.heap.size]? = some (.cells #[.int .i64 5, .int .i64 a, .int .i64 t, .int .i64 o, .int .i64 nn, .string s, .slice K kids.length (kids.length + c)] 159 (0, 0)) := fun w1 q => by
    have hno : ¬ isOwn (W.setCell ⟨b, 2, none⟩ (.int .i64 (fu + 1))) b w.heap.size := fun q2 => by
      obtain ⟨n', C', q3⟩ := hf.own w.heap.size (by omega) q2
      have := isOwn_lt hWri0 (k := w.heap.size) ⟨n', C', (hbW.cell (p := ⟨b, 0, none⟩) (by show b < _; omega)).symm.trans q3⟩
      omega
    exact (q.far w.heap.size (by rw [set_size]; omega) (by omega) hno).trans ((Below.heap_setCell _ _ _ _ (by show w.heap.size ≠ b; omega)).trans h0W)
  have HWW := Lib.hid hWW
  have HW := Lib.hid hW
  have Hbox := Lib.hid hbox
  have Hm := Lib.hid hm
  have hzWs : (W.setCell ⟨b, 2, none⟩ (.int .i64 (fu + 1))).heap.size = w.heap.size + 1 := by rw [set_size]; exact hzW
  have HzW := Lib.hid hzWs
  clear hW hbW hzW hzWs h0W hB hown hBW hWriW hWri0 hf hWf hWW hk hbox
  go_enter Tryz.func97, Tryz.ntmps97
  go_upto_region 1 with fail
  rw [← HW.out]
  clear hm
  go_wp2_with (go_at_call 98; refine hX.mono ?_)
  clear hX c2 f2 x0 x6
  rintro e w1 ⟨rfl, hb1, hW1⟩
  have hbx := Hbox.out w1 hb1
  have hz1 := hb1.bb.size
  have hY := w_whole b base (n + wNs kids) (xs ++ wEs kids (fu + 1)) (wLeft kids (fu + 1)) hi a t o nn s K kids.length (kids.length + c) ST SL LO w1 hb (by have := HzW.out; omega) (by omega) hW1
  obtain ⟨x0, x1, x2, x3, x4, x5, x6, -⟩ := cells7 hbx
  have HB1 := Lib.hid hb1
  clear hb1 hW1 hbx
  go_wp2_with (go_at_call 118; refine hY.mono ?_; rintro e w2 ⟨rfl, hb2, hW2⟩; have HB2 := Lib.hid hb2; have HW2 := Lib.hid hW2; clear hY hb2 hW2)
  go_end0
  rw [← Nat.add_assoc, ← List.append_assoc]
  exact ⟨rfl, (HWW.out.trans HB1.out).trans HB2.out, HW2.out⟩
mutual
theorem w_any : ∀ e, inE e → WxT e
  | .mk k a t o n s kids, h => by
    unfold inE at h
    obtain ⟨hs, hl, hc, hk⟩ := h
    rcases hc with ⟨rfl, rfl⟩ | ⟨rfl, rfl⟩
    · exact w_int a t o n s
    · exact w_div a t 7 n s kids (w_each kids hk) hl
theorem w_each : ∀ l, inEs l → ∀ e ∈ l, WxT e
  | [], _, e, he => by simp at he
  | x :: r, h, e, he => by
    unfold inEs at h
    rcases List.mem_cons.mp he with he | he
    · rw [he]
      exact w_any x h.1
    · exact w_each r h.2 e he
end
end Go.Proofs.YtlgpbllkhbgppaaGreatDoor
namespace Go.Proofs.YtlgpbllkhbgppaaGreatDoor
set_option linter.unusedVariables false
set_option linter.unusedSimpArgs false
open Go.RowKit

theorem box_kept {b base n : Nat} {xs : List Value} {fu hi f2 : Int} {ST SL LO : Value} {w W w1 : World} {o : Obj} (h : Wri w b base n xs fu ST SL hi LO) (hb : b < base) (hbs : base ≤ w.heap.size) (hbW : Below w.heap.size w W) (hzW : W.heap.size = w.heap.size + 1) (h0 : W.heap[w.heap.size]? = some o) (q : WW b base W w1) : w1.heap[w.heap.size]? = some o := by
  have hno : ¬ isOwn W b w.heap.size := fun q2 => by
    obtain ⟨n', C', q3⟩ := q2
    have := isOwn_lt h (k := w.heap.size) ⟨n', C', (hbW.cell (p := ⟨b, 0, none⟩) (by show b < _; omega)).symm.trans q3⟩
    omega
  exact (q.far w.heap.size (by omega) (by omega) hno).trans h0
theorem Wri.below {b base n : Nat} {xs : List Value} {fu hi : Int} {ST SL LO : Value} {w W : World} (h : Wri w b base n xs fu ST SL hi LO) (hbW : Below w.heap.size w W) (hb : b < base) (hbs : base ≤ w.heap.size) : Wri W b base n xs fu ST SL hi LO := by
  obtain ⟨V, C, hB, hown⟩ := h
  exact ⟨V, C, (hbW.block b (by omega)).trans hB, own_blw hown hbW⟩
set_option maxRecDepth 100000 in
set_option maxHeartbeats 8000000 in
theorem w_back (e : Ex) (HE : WxT e) (b base n : Nat) (xs : List Value) (fu hi : Int) (ST SL LO : Value) (S : Nat → Prop) (a nn p : Int) (s : ByteArray) (K : Option Addr) (c : Nat) (BV EV : Value) (w : World) (hb : b < base) (hbs : base ≤ w.heap.size) (hn : n + wN e ≤ 999999) (hf0 : 0 ≤ fu) (hf1 : fu + wN e ≤ 1000000) (h : Wri w b base n xs fu ST SL hi LO) (hS : ∀ x, S x → x < base ∧ x ≠ b) (hR : RdEs w S K 0 [e]) :
    Calls Tryz.prog 103 #[.pointer (some ⟨b, 0, none⟩), .agg #[.int .i64 9, .int .i64 a, .int .i64 nn, .string s, .int .i64 p, .slice K 1 c, BV, EV]] w fun r w' => r = .returned (.tuple #[]) ∧ WW b base w w' ∧ Wri w' b base (n + wN e + 1) (xs ++ wE e fu ++ [.int .i64 10, .int .i64 0, .int .i64 0, .int .i64 0]) 0 ST SL hi LO := by
  obtain ⟨W, hW, hbW, hzW, h0W⟩ := ch_one_al w #[.int .i64 9, .int .i64 a, .int .i64 nn, .string s, .int .i64 p, .slice K 1 c, BV, EV] 132
  have hWW := WW.of_below (b := b) (base := base) hbW (by omega) hbs
  have hX := w_exprs [e] (fun x hx => by simp at hx; subst hx; exact HE) (by simp) b base n xs fu hi ST SL LO S K c W hb (by omega) (by simp [wNs]; omega) hf0 (by simp [wNs]; omega) (h.below hbW hb hbs) hS (RdEs.keep (fun q hq => hWW.bb.cell (hS _ hq).1 (hS _ hq).2) _ _ _ hR)
  rw [show ([e] : List Ex).length = 1 from rfl, show wNs [e] = wN e by simp [wNs], show wEs [e] fu = wE e fu by simp [wEs], show wLeft [e] fu = 0 from rfl] at hX
  have x5 := Lib.cell_of_heap h0W 5
  have HWW := Lib.hid hWW
  have HW := Lib.hid hW
  have HzW := Lib.hid hzW
  clear hW hbW hzW h0W hWW h hR hS HE
  go_enter Tryz.func103, Tryz.ntmps103
  go_upto_region 1 with fail
  rw [← HW.out]
  go_wp2_with (go_at_call 98; refine hX.mono ?_)
  clear hX x5
  rintro r w1 ⟨rfl, hb1, hW1⟩
  have hY := w_add b base (n + wN e) (xs ++ wE e fu) 0 hi 10 0 0 0 ST SL LO w1 hb (by have := hb1.bb.size; have := HzW.out; omega) (by omega) hW1
  have HB1 := Lib.hid hb1
  clear hb1 hW1
  go_wp2_with (go_at_call 42; refine hY.mono ?_; rintro r w2 ⟨rfl, hb2, hW2⟩; have HB2 := Lib.hid hb2; have HW2 := Lib.hid hW2; clear hY hb2 hW2)
  go_end0
  exact ⟨rfl, (HWW.out.trans HB1.out).trans HB2.out, HW2.out⟩
set_option maxRecDepth 100000 in
set_option maxHeartbeats 8000000 in
theorem w_ret (e : Ex) (HE : WxT e) (b base n : Nat) (xs : List Value) (fu hi : Int) (ST SL LO : Value) (S : Nat → Prop) (a nn p : Int) (s : ByteArray) (K B E : Option Addr) (c cb ce : Nat) (w : World) (hb : b < base) (hbs : base ≤ w.heap.size) (hn : n + wN e ≤ 999999) (hf0 : 0 ≤ fu) (hf1 : fu + wN e ≤ 999999) (h : Wri w b base n xs fu ST SL hi LO) (hS : ∀ x, S x → x < base ∧ x ≠ b) (hR : RdEs w S K 0 [e]) :
    Calls Tryz.prog 70 #[.pointer (some ⟨b, 0, none⟩), .agg #[.int .i64 9, .int .i64 a, .int .i64 nn, .string s, .int .i64 p, .slice K 1 c, .slice B 0 cb, .slice E 0 ce]] w fun r w' => r = .returned (.tuple #[]) ∧ WW b base w w' ∧ Wri w' b base (n + wN e + 1) (xs ++ wE e (fu + 1) ++ [.int .i64 10, .int .i64 0, .int .i64 0, .int .i64 0]) 0 ST SL hi LO := by
  obtain ⟨W, hW, hbW, hzW, h0W⟩ := ch_one_al w #[.int .i64 9, .int .i64 a, .int .i64 nn, .string s, .int .i64 p, .slice K 1 c, .slice B 0 cb, .slice E 0 ce] 132
  have hWriW := h.below hbW hb hbs
  obtain ⟨hf, hWf⟩ := WW.fuel (f2 := fu + 1) hWriW hb (by omega)
  have hWW := (WW.of_below (b := b) (base := base) hbW (by omega) hbs).trans hf
  obtain ⟨W2, hW2⟩ : ∃ W2, W2 = W.setCell ⟨b, 2, none⟩ (.int .i64 (fu + 1)) := ⟨_, rfl⟩
  have hz2 : W2.heap.size = w.heap.size + 1 := by rw [hW2, set_size]; exact hzW
  rw [← hW2] at hf hWf hWW
  have hR2 := RdEs.keep (w' := W2) (fun q hq => hWW.bb.cell (hS _ hq).1 (hS _ hq).2) _ _ _ hR
  have h02 : W2.heap[w.heap.size]? = _ := (hf.far w.heap.size (by omega) (by omega) (fun q2 => by
    obtain ⟨n', C', q3⟩ := q2
    have := isOwn_lt h (k := w.heap.size) ⟨n', C', (hbW.cell (p := ⟨b, 0, none⟩) (by show b < _; omega)).symm.trans q3⟩
    omega)).trans h0W
  obtain ⟨V2, C2, hB2, hown2⟩ := hWriW
  have c2 := Lib.cell_of_heap hB2 2
  have f2 := Lib.frozen_of_heap hB2 2
  obtain ⟨y0, y1, y2, y3, y4, y5, y6, y7, -⟩ := cells8 h02
  have hX := w_back e HE b base n xs (fu + 1) hi ST SL LO S a nn p s K c (.slice B 0 cb) (.slice E 0 ce) W2 hb (by omega) hn (by omega) (by omega) hWf hS hR2
  have HWW := Lib.hid hWW
  have HW := Lib.hid hW
  have HW2 := Lib.hid hW2
  clear hW hbW hzW h0W hWW h hR hS HE hf hWf hR2 hB2 hown2 h02 hW2
  go_enter Tryz.func70, Tryz.ntmps70
  go_upto_region 1 with fail
  rw [← HW.out]
  go_upto_region 2 with fail
  rw [← HW2.out]
  clear c2 f2
  go_wp2_with (go_at_call 103; refine hX.mono ?_; rintro r w2 ⟨rfl, hb2, hW2⟩; have HB2 := Lib.hid hb2; have HW3 := Lib.hid hW2; clear hX hb2 hW2)
  go_end0
  exact ⟨rfl, HWW.out.trans HB2.out, HW3.out⟩
set_option maxRecDepth 100000 in
set_option maxHeartbeats 8000000 in
theorem w_print (e : Ex) (HE : WxT e) (b base n : Nat) (xs : List Value) (fu hi : Int) (ST SL LO : Value) (S : Nat → Prop) (a nn p : Int) (s : ByteArray) (K B E : Option Addr) (c cb ce : Nat) (w : World) (hb : b < base) (hbs : base ≤ w.heap.size) (hn : n + wN e ≤ 999999) (hf0 : 0 ≤ fu) (hf1 : fu + wN e ≤ 999999) (h : Wri w b base n xs fu ST SL hi LO) (hS : ∀ x, S x → x < base ∧ x ≠ b) (hR : RdEs w S K 0 [e]) :
    Calls Tryz.prog 70 #[.pointer (some ⟨b, 0, none⟩), .agg #[.int .i64 10, .int .i64 a, .int .i64 nn, .string s, .int .i64 p, .slice K 1 c, .slice B 0 cb, .slice E 0 ce]] w fun r w' => r = .returned (.tuple #[]) ∧ WW b base w w' ∧ Wri w' b base (n + wN e + 1) (xs ++ wE e (fu + 1) ++ [.int .i64 19, .int .i64 0, .int .i64 0, .int .i64 0]) 0 ST SL hi LO := by
  obtain ⟨W, hW, hbW, hzW, h0W⟩ := ch_one_al w #[.int .i64 10, .int .i64 a, .int .i64 nn, .string s, .int .i64 p, .slice K 1 c, .slice B 0 cb, .slice E 0 ce] 132
  have hWriW := h.below hbW hb hbs
  obtain ⟨hf, hWf⟩ := WW.fuel (f2 := fu + 1) hWriW hb (by omega)
  have hWW := (WW.of_below (b := b) (base := base) hbW (by omega) hbs).trans hf
  obtain ⟨W2, hW2⟩ : ∃ W2, W2 = W.setCell ⟨b, 2, none⟩ (.int .i64 (fu + 1)) := ⟨_, rfl⟩
  have hz2 : W2.heap.size = w.heap.size + 1 := by rw [hW2, set_size]; exact hzW
  rw [← hW2] at hf hWf hWW
  have hR2 := RdEs.keep (w' := W2) (fun q hq => hWW.bb.cell (hS _ hq).1 (hS _ hq).2) _ _ _ hR
  have h02 : W2.heap[w.heap.size]? = _ := (hf.far w.heap.size (by omega) (by omega) (fun q2 => by
    obtain ⟨n', C', q3⟩ := q2
    have := isOwn_lt h (k := w.heap.size) ⟨n', C', (hbW.cell (p := ⟨b, 0, none⟩) (by show b < _; omega)).symm.trans q3⟩
    omega)).trans h0W
  obtain ⟨V2, C2, hB2, hown2⟩ := hWriW
  have c2 := Lib.cell_of_heap hB2 2
  have f2 := Lib.frozen_of_heap hB2 2
  obtain ⟨y0, y1, y2, y3, y4, y5, y6, y7, -⟩ := cells8 h02
  obtain ⟨ek, ea, et, eo, en, es, ekids⟩ := e
  have hR3 := hR2
  unfold RdEs at hR3
  obtain ⟨⟨r, o, rfl, hr0, hE⟩, -⟩ := hR3
  unfold RdE at hE
  obtain ⟨x0, x1, x2, x3, x4, x5, KK, ck, x6, hK⟩ := hE
  simp only [Nat.zero_mul, Nat.add_zero] at x0 x1 x2 x3 x4 x5 x6
  have hX := HE b base n xs (fu + 1) hi ST SL LO S (.agg #[.int .i64 ek, .int .i64 ea, .int .i64 et, .int .i64 eo, .int .i64 en, .string es, .slice KK ekids.length (ekids.length + ck)]) W2 hb (by omega) (by omega) (by omega) (by omega) hWf hS ⟨ek, ea, et, eo, en, es, ekids, KK, ck, rfl, rfl, hK⟩
  have HWW := Lib.hid hWW
  have HW := Lib.hid hW
  have HW2 := Lib.hid hW2
  have Hz2 := Lib.hid hz2
  clear hW hbW hzW h0W hWW h hR hS HE hf hWf hR2 hB2 hown2 h02 hW2 hK hr0 hz2
  go_enter Tryz.func70, Tryz.ntmps70
  go_upto_region 1 with fail
  rw [← HW.out]
  go_upto_region 2 with fail
  rw [← HW2.out]
  clear c2 f2
  go_wp2_with (go_at_call 97; refine hX.mono ?_)
  clear hX x0 x1 x2 x3 x4 x5 x6 y0 y1 y2 y3 y4 y5 y6 y7
  rintro rr w1 ⟨rfl, hb1, hW1⟩
  have hY := w_add b base (n + wN (.mk ek ea et eo en es ekids)) (xs ++ wE (.mk ek ea et eo en es ekids) (fu + 1)) 0 hi 19 0 0 0 ST SL LO w1 hb (by have := hb1.bb.size; have := Hz2.out; omega) (by omega) hW1
  have HB1 := Lib.hid hb1
  clear hb1 hW1
  go_wp2_with (go_at_call 42; refine hY.mono ?_; rintro rr w3 ⟨rfl, hb2, hW2⟩; have HB2 := Lib.hid hb2; have HW3 := Lib.hid hW2; clear hY hb2 hW2)
  go_end0
  exact ⟨rfl, (HWW.out.trans HB1.out).trans HB2.out, HW3.out⟩
end Go.Proofs.YtlgpbllkhbgppaaGreatDoor
namespace Go.Proofs.YtlgpbllkhbgppaaGreatDoor
set_option linter.unusedVariables false
set_option linter.unusedSimpArgs false
open Go.RowKit

/-- The steps of a statement, as cells. -/
def wS : St → List Value
  | .mk k _ _ _ _ kids _ _ => wEs kids 1 ++ [.int .i64 (if k = 9 then 10 else 19), .int .i64 0, .int .i64 0, .int .i64 0]
def wSN : St → Nat
  | .mk _ _ _ _ _ kids _ _ => wNs kids + 1
def wSs (l : List St) : List Value := l.flatMap wS
def wSNs (l : List St) : Nat := (l.map wSN).sum
theorem wSNs_at (l : List St) (i : Nat) (e : St) (h : l[i]? = some e) : wSNs (l.take i) + wSN e ≤ wSNs l := by
  induction l generalizing i with
  | nil => simp at h
  | cons x r ih => cases i with
    | zero => simp at h; subst h; simp [wSNs]
    | succ i => have := ih i (by simpa using h); simp only [wSNs, List.take_succ_cons, List.map_cons, List.sum_cons] at this ⊢; omega
theorem w_stmt (st : St) (hin : inS st) (b base n : Nat) (xs : List Value) (hi : Int) (ST SL LO : Value) (S : Nat → Prop) (v : Value) (w : World) (hb : b < base) (hbs : base ≤ w.heap.size) (hn : n + wSN st ≤ 900000) (h : Wri w b base n xs 0 ST SL hi LO) (hS : ∀ x, S x → x < base ∧ x ≠ b)
    (hv : ∃ k a nn s p kids body els K B E c cb ce, st = .mk k a nn s p kids body els ∧ v = .agg #[.int .i64 k, .int .i64 a, .int .i64 nn, .string s, .int .i64 p, .slice K 1 c, .slice B 0 cb, .slice E 0 ce] ∧ RdEs w S K 0 kids) :
    Calls Tryz.prog 70 #[.pointer (some ⟨b, 0, none⟩), v] w fun r w' => r = .returned (.tuple #[]) ∧ WW b base w w' ∧ Wri w' b base (n + wSN st) (xs ++ wS st) 0 ST SL hi LO := by
  obtain ⟨k, a, nn, s, p, kids, body, els, K, B, E, c, cb, ce, rfl, rfl, hR⟩ := hv
  unfold inS at hin
  obtain ⟨hs, hk, hk1, hke, rfl, rfl⟩ := hin
  obtain ⟨e, rfl⟩ : ∃ e, kids = [e] := List.length_eq_one_iff.mp hk1
  have he : inE e := by unfold inEs at hke; exact hke.1
  have e1 : wSN (.mk k a nn s p [e] [] []) = wN e + 1 := by simp [wSN, wNs]
  have e2 : wS (.mk k a nn s p [e] [] []) = wE e (0 + 1) ++ [.int .i64 (if k = 9 then 10 else 19), .int .i64 0, .int .i64 0, .int .i64 0] := by simp [wS, wEs]
  rw [e1] at hn ⊢
  rw [e2, ← Nat.add_assoc, ← List.append_assoc]
  rcases hk with rfl | rfl
  · exact w_ret e (w_any e he) b base n xs 0 hi ST SL LO S a nn p s K B E c cb ce w hb hbs (by omega) (Int.le_refl _) (by omega) h hS hR
  · exact w_print e (w_any e he) b base n xs 0 hi ST SL LO S a nn p s K B E c cb ce w hb hbs (by omega) (Int.le_refl _) (by omega) h hS hR
theorem WW.high {b base n : Nat} {xs : List Value} {fu hi h2 : Int} {ST SL LO : Value} {w : World} (h : Wri w b base n xs fu ST SL hi LO) (hb : b < base) (hbs : base ≤ w.heap.size) : WW b base w (w.setCell ⟨b, 4, none⟩ (.int .i64 h2)) ∧ Wri (w.setCell ⟨b, 4, none⟩ (.int .i64 h2)) b base n xs fu ST SL h2 LO := by
  obtain ⟨V, C, hB, hown⟩ := h
  have hbut : But b w (w.setCell ⟨b, 4, none⟩ (.int .i64 h2)) := (But.refl b w).setCell (p := ⟨b, 4, none⟩) (Or.inl rfl) _
  have hB4 := heap_set hB 4 (.int .i64 h2)
  refine ⟨⟨BB.of_but hbut hbs, fun k h1 h2 _ => hbut.block k h1 h2, fun k h1 q => ?_⟩, V, C, hB4, own_but hown hbut hb⟩
  obtain ⟨n', C', q⟩ := q
  have e1 : (w.setCell ⟨b, 4, none⟩ (.int .i64 h2)).cell? ⟨b, 0, none⟩ = some (.slice V n C) := Lib.cell_of_heap hB4 0
  have e2 : w.cell? ⟨b, 0, none⟩ = some (.slice V n C) := Lib.cell_of_heap hB 0
  exact ⟨n', C', e2.trans (e1.symm.trans q)⟩
set_option maxRecDepth 100000 in
set_option maxHeartbeats 4000000 in
theorem w_drop (b base n : Nat) (xs : List Value) (fu hi : Int) (ST SL LO : Value) (w : World) (hb : b < base) (hbs : base ≤ w.heap.size) (h : Wri w b base n xs fu ST SL hi LO) :
    Calls Tryz.prog 71 #[.pointer (some ⟨b, 0, none⟩), .int .i64 hi] w fun r w' => r = .returned (.tuple #[]) ∧ WW b base w w' ∧ Wri w' b base n xs fu ST SL hi LO := by
  have hH := WW.high (h2 := hi) h hb hbs
  obtain ⟨V, C, hB, hown⟩ := h
  have c4 := Lib.cell_of_heap hB 4
  have f4 := Lib.frozen_of_heap hB 4
  have HH := Lib.hid hH
  clear hB hown hH
  go_enter Tryz.func71, Tryz.ntmps71
  go_wp2
  all_goals first | omega | (go_end0; exact ⟨rfl, HH.out.1, HH.out.2⟩)
set_option maxRecDepth 100000 in
set_option maxHeartbeats 4000000 in
theorem w_here (b base n : Nat) (xs : List Value) (hi : Int) (ST SL LO : Value) (w : World) (h : Wri w b base n xs 0 ST SL hi LO) :
    Calls Tryz.prog 39 #[.pointer (some ⟨b, 0, none⟩)] w fun r w' => r = .returned (.int .i64 n) ∧ w' = w := by
  obtain ⟨V, C, hB, hown⟩ := h
  have c2 := Lib.cell_of_heap hB 2
  have c0 := Lib.cell_of_heap hB 0
  clear hB hown
  go_enter Tryz.func39, Tryz.ntmps39
  go_wp2
  go_ret
  exact ⟨rfl, rfl⟩
end Go.Proofs.YtlgpbllkhbgppaaGreatDoor
namespace Go.Proofs.YtlgpbllkhbgppaaGreatDoor
set_option linter.unusedVariables false
set_option linter.unusedSimpArgs false
open Go.RowKit

set_option maxRecDepth 100000 in
set_option maxHeartbeats 8000000 in
theorem w_block (l : List St) (hl : ∀ x ∈ l, inS x) (hlen : l.length ≤ 1099511627776) (b base n : Nat) (xs : List Value) (hi : Int) (ST SL LO : Value) (S : Nat → Prop) (A : Option Addr) (cap : Nat) (w : World) (hb : b < base) (hbs : base ≤ w.heap.size) (hn : n + wSNs l ≤ 900000) (h : Wri w b base n xs 0 ST SL hi LO) (hS : ∀ x, S x → x < base ∧ x ≠ b) (hR : RdSs w S A 0 l) :
    Calls Tryz.prog 41 #[.pointer (some ⟨b, 0, none⟩), .slice A l.length cap] w fun r w' => r = .returned (.tuple #[]) ∧ WW b base w w' ∧ Wri w' b base (n + wSNs l) (xs ++ wSs l) 0 ST SL hi LO := by
  obtain ⟨m, hm⟩ : ∃ m, m = l.length := ⟨_, rfl⟩
  have Hm := Lib.hid hm
  rw [← hm] at hlen ⊢
  have hc4 : w.cell? ⟨b, 4, none⟩ = some (.int .i64 hi) := by
    obtain ⟨V, C, hB, hown⟩ := h
    exact Lib.cell_of_heap hB 4
  have H := Lib.hid h
  have HR := Lib.hid hR
  have HS := Lib.hid hS
  have HL := Lib.hid hl
  clear hm h hR hS hl
  go_enter Tryz.func41, Tryz.ntmps41
  go_wp2
  go_loopw [13] (fun u8 wr => ∃ i : Nat, i ≤ m ∧ u8 = .int .i64 i ∧ Hid (WW b base w wr) ∧ Hid (Wri wr b base (n + wSNs (l.take i)) (xs ++ wSs (l.take i)) 0 ST SL hi LO)) (fun u _ => m - (intOf u).toNat)
  case atStart => exact ⟨0, Nat.zero_le _, rfl, Lib.hid (WW.refl _ _ _), Lib.hid (by simpa [wSNs, wSs] using H.out)⟩
  case round =>
    obtain ⟨i, him, rfl, hB, hW⟩ := hrel
    by_cases hlt : i < m
    · have hil : i < l.length := by rw [← Hm.out]; exact hlt
      obtain ⟨e, he⟩ : ∃ e, l[i]? = some e := ⟨_, List.getElem?_eq_getElem hil⟩
      obtain ⟨r, o, rfl, hr0, hE⟩ := HR.out.at_ he
      obtain ⟨hr1, hr2⟩ := HS.out _ hr0
      have hin2 := HL.out e (List.mem_of_getElem? he)
      have hne := wSNs_at l i e he
      have htk : l.take (i + 1) = l.take i ++ [e] := by
        rw [List.take_succ_eq_append_getElem hil]
        congr 2
        rw [List.getElem?_eq_getElem hil] at he
        exact Option.some.inj he
      have hXs := w_stmt e hin2 b base (n + wSNs (l.take i)) (xs ++ wSs (l.take i)) hi ST SL LO S
      obtain ⟨k, a, q, s, p, kids, body, els⟩ := e
      have hin3 := hin2
      unfold inS at hin3
      obtain ⟨-, -, hk1, -, rfl, rfl⟩ := hin3
      unfold RdS at hE
      obtain ⟨x0, x1, x2, x3, x4, ⟨K, ck, x5, hK⟩, ⟨B, cb, x6, -⟩, ⟨E, ce, x7, -⟩⟩ := hE
      rw [hk1] at x5
      rw [Nat.zero_add] at x0 x1 x2 x3 x4 x5 x6 x7
      have up : ∀ j u, w.cell? ⟨r, j, none⟩ = some u → wr.cell? ⟨r, j, none⟩ = some u := fun j u e => (hB.out.bb.cell (p := ⟨r, j, none⟩) hr1 hr2).trans e
      replace x0 := up _ _ x0
      replace x1 := up _ _ x1
      replace x2 := up _ _ x2
      replace x3 := up _ _ x3
      replace x4 := up _ _ x4
      replace x5 := up _ _ x5
      replace x6 := up _ _ x6
      replace x7 := up _ _ x7
      rw [Nat.add_zero] at x0
      have hzr := hB.out.bb.size
      have hal : Below wr.heap.size wr (wr.alloc (.cells #[.int .i64 k, .int .i64 a, .int .i64 q, .string s, .int .i64 p, .slice K 1 ck, .slice B 0 cb, .slice E 0 ce] 132)) := (Below.refl _ _).alloc (Nat.le_refl _) _
      have hX := hXs (.agg #[.int .i64 k, .int .i64 a, .int .i64 q, .string s, .int .i64 p, .slice K 1 ck, .slice B 0 cb, .slice E 0 ce]) (wr.alloc (.cells #[.int .i64 k, .int .i64 a, .int .i64 q, .string s, .int .i64 p, .slice K 1 ck, .slice B 0 cb, .slice E 0 ce] 132)) hb (by simp; omega) (by omega) (hW.out.below hal hb (by omega)) HS.out ⟨k, a, q, s, p, kids, [], [], K, B, E, ck, cb, ce, rfl, rfl, RdEs.keep (fun p hp => (hal.cell (by have := (HS.out _ hp).1; omega)).trans (hB.out.bb.cell (HS.out _ hp).1 (HS.out _ hp).2)) _ _ _ hK⟩
      have hrr : r < wr.heap.size := by omega
      have Htk := Lib.hid htk
      have Hal := Lib.hid hal
      clear up hXs hK he hr0 htk hne hal hin2 hk1
      go_wp2_with (go_at_call 70; refine hX.mono ?_)
      rintro rr w1 ⟨rfl, hb1, hW1⟩
      have HB1 := Lib.hid ((hB.out.trans (WW.of_below Hal.out (by omega) (by omega))).trans hb1)
      have HW1 : Hid (Wri w1 b base (n + wSNs (l.take (i + 1))) (xs ++ wSs (l.take (i + 1))) 0 ST SL hi LO) := Lib.hid (by
        rw [Htk.out]
        simp only [wSNs, wSs, List.map_append, List.sum_append, List.flatMap_append, List.map_cons, List.map_nil, List.sum_cons, List.sum_nil, List.flatMap_cons, List.flatMap_nil, List.append_nil, Nat.add_zero]
        rw [← Nat.add_assoc, ← List.append_assoc]
        exact hW1)
      clear hb1 hW1 hX x0 x1 x2 x3 x4 x5 x6 x7
      go_wp2
      go_roundw
      case rel => exact ⟨i + 1, by omega, by go_num, HB1, HW1⟩
      case measure => simp [intOf]; omega
    · obtain rfl : i = m := by omega
      have hd := Lib.hid hlt
      have hW2 := hW.out
      rw [Hm.out, List.take_length] at hW2
      have hX := w_drop b base (n + wSNs l) (xs ++ wSs l) 0 hi ST SL LO wr hb (by have := hB.out.bb.size; omega) hW2
      clear hW2
      go_wp2_with (go_at_call 71; refine hX.mono ?_; rintro rr w1 ⟨rfl, hb1, hW1⟩; have HB1 := Lib.hid hb1; have HW1 := Lib.hid hW1; clear hX hb1 hW1)
      go_end0
      exact ⟨rfl, hB.out.trans HB1.out, HW1.out⟩
end Go.Proofs.YtlgpbllkhbgppaaGreatDoor
