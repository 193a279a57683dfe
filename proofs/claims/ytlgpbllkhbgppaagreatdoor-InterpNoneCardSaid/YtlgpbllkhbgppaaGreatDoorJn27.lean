/-
  The checker's single expressions.
  The checker's statements: return.
  The checker's statements: print and return.
-/
import Derived.Test.YtlgpbllkhbgppaaGreatDoorJn26
import Derived.Outline
import Derived.Deep.Cut
import Derived.Deep.RegionHeld3
import Derived.BigQuiet
namespace Go.Proofs.YtlgpbllkhbgppaaGreatDoor
set_option linter.unusedVariables false
set_option linter.unusedSimpArgs false
open Go.RowKit

theorem But.up2 {g : Nat} {a w w' : World} (h : But g a w) (hb : Below w.heap.size w w') : But g a w' := h.trans (But.of_below hb)
theorem set_far {w : World} {b j : Nat} {u : Value} {p : Addr} (h : p.block ≠ b) : (w.setCell ⟨b, j, none⟩ u).cell? p = w.cell? p := World.cell?_setCell_other _ _ _ _ (fun e => h (by rw [← e]))
theorem set_size (w : World) (b j : Nat) (u : Value) : (w.setCell ⟨b, j, none⟩ u).heap.size = w.heap.size := by simp [World.setCell]
set_option maxRecDepth 100000 in
set_option maxHeartbeats 4000000 in
theorem between_div (kids : List Ex) (HE : ∀ e ∈ kids, ExT e) (g b : Nat) (S : Nat → Prop) (a t n : Int) (s : ByteArray) (K : Option Addr) (c : Nat) (w : World) (hS : ∀ x, S x → x < w.heap.size ∧ x ≠ b) (hl : kids.length ≤ 1099511627776) (h : RdEs w S K 0 kids)
    (hb : w.heap[b]? = some (.cells #[.int .i64 5, .int .i64 a, .int .i64 t, .int .i64 7, .int .i64 n, .string s, .slice K kids.length (kids.length + c)] 159 (0, 0))) :
    Calls Tryz.prog 142 #[.pointer (some ⟨g, 0, none⟩), .pointer (some ⟨b, 0, none⟩)] w fun r w' => r = .returned (.tuple #[]) ∧ But b w w' ∧ ∃ K' c', w'.heap[b]? = some (.cells #[.int .i64 5, .int .i64 a, .int .i64 1, .int .i64 7, .int .i64 n, .string s, .slice K' kids.length (kids.length + c')] 159 (0, 0)) ∧ RdEs w' (From w.heap.size w') K' 0 (tyEs kids) := by
  have hbl := heap_lt hb
  obtain ⟨m, hm⟩ : ∃ m, m = kids.length := ⟨_, rfl⟩
  rw [← hm] at hb ⊢
  obtain ⟨c0, c1, c2, c3, c4, c5, c6, cf⟩ := cells7 hb
  have f2 := cf 2
  have f6 := cf 6
  obtain ⟨W, hW⟩ : ∃ W, W = (w.setCell ⟨b, 2, none⟩ (.int .i64 1)).alloc (.cells #[.int .i64 1] 3) := ⟨_, rfl⟩
  have hbut : But b w W := by rw [hW]; exact ((But.refl b w).setCell (Or.inl rfl) _).alloc _
  have hWb : W.heap[b]? = some (.cells #[.int .i64 5, .int .i64 a, .int .i64 1, .int .i64 7, .int .i64 n, .string s, .slice K m (m + c)] 159 (0, 0)) := by
    rw [hW]
    exact (Below.heap_alloc _ _ _ (by simpa using hbl)).trans (heap_set hb 2 (.int .i64 1))
  have hWz : W.heap.size = w.heap.size + 1 := by rw [hW]; simp
  have hWm : May W (.slice (some ⟨w.heap.size, 0, none⟩) 1 1) := ⟨w.heap.size, 0, 1, 1, rfl, by omega, by omega, by omega, by rw [hW]; have := heap_alloc_new (w.setCell ⟨b, 2, none⟩ (.int .i64 1)) (.cells #[.int .i64 1] 3); rw [show (w.setCell ⟨b, 2, none⟩ (.int .i64 1)).heap.size = w.heap.size by simp [World.setCell]] at this; exact Lib.cell_of_heap this 0⟩
  have hX := chk_exprs kids HE g S K (kids.length + c) _ W (fun x hx => by have := (hS x hx).1; omega) hl (RdEs.keep (w' := W) (fun p hp => hbut.cell (hS _ hp).1 (hS _ hp).2) _ _ _ h) hWm
  rw [← hm, hW] at hX
  have hXW : ∀ w1, Below W.heap.size W w1 → w1.heap[b]? = some (.cells #[.int .i64 5, .int .i64 a, .int .i64 1, .int .i64 7, .int .i64 n, .string s, .slice K m (m + c)] 159 (0, 0)) ∧ But b w w1 ∧ ∀ x, W.heap.size ≤ x → w.heap.size + 1 ≤ x := fun w1 h1 => ⟨(h1.block b (by omega)).trans hWb, hbut.up2 h1, fun x hx => by omega⟩
  rw [hW] at hXW
  have HXW := Lib.hid hXW
  have HX := Lib.hid hX
  clear hb h hS hm HE cf hX hXW hWm hWz hWb hbut hW
  go_enter Tryz.func142, Tryz.ntmps142
  go_wp2_with (go_at_call 93; refine HX.out.mono ?_)
  rintro e w1 ⟨K', c', rfl, hk, hb1⟩
  obtain ⟨h1, h2, h3⟩ := HXW.out w1 hb1
  have d6 := Lib.cell_of_heap h1 6
  have e6 := Lib.frozen_of_heap h1 6
  have hend := heap_set h1 6 (.slice K' m (m + c'))
  have hl1 : w1.heap.size = (w1.setCell ⟨b, 6, none⟩ (.slice K' m (m + c'))).heap.size := by simp [World.setCell]
  have hk1 := RdEs.more (S' := From w.heap.size (w1.setCell ⟨b, 6, none⟩ (.slice K' m (m + c')))) (fun x hx => ⟨Nat.le_of_succ_le (h3 _ hx.1), by rw [← hl1]; exact hx.2⟩) _ _ _ (RdEs.keep (w' := w1.setCell ⟨b, 6, none⟩ (.slice K' m (m + c'))) (fun p hp => set_far (by have := h3 _ hp.1; omega)) _ _ _ hk)
  have Hend := Lib.hid hend
  have Hk1 := Lib.hid hk1
  have H2 := Lib.hid (h2.setCell (p := ⟨b, 6, none⟩) (Or.inl rfl) (.slice K' m (m + c')))
  clear hk hk1 hend hl1 h1 h2 h3 HX HXW hb1
  go_wp2
  go_end0
  exact ⟨rfl, H2.out, K', c', Hend.out, Hk1.out⟩
/-- What is asked of an expression, and what becomes of it. -/
def WhP (b : Nat) (k a n o : Int) (s : ByteArray) (kids : List Ex) (w : World) (r : Ending) (w' : World) : Prop := r = .returned (.tuple #[]) ∧ But b w w' ∧ ∃ K' c', w'.heap[b]? = some (.cells #[.int .i64 k, .int .i64 a, .int .i64 1, .int .i64 o, .int .i64 n, .string s, .slice K' kids.length (kids.length + c')] 159 (0, 0)) ∧ RdEs w' (From w.heap.size w') K' 0 (tyEs kids)
set_option maxRecDepth 100000 in
set_option maxHeartbeats 4000000 in
theorem whole_div (kids : List Ex) (HE : ∀ e ∈ kids, ExT e) (g b : Nat) (S : Nat → Prop) (a t n : Int) (s : ByteArray) (K : Option Addr) (c : Nat) (w : World) (hS : ∀ x, S x → x < w.heap.size ∧ x ≠ b) (hl : kids.length ≤ 1099511627776) (h : RdEs w S K 0 kids)
    (hb : w.heap[b]? = some (.cells #[.int .i64 5, .int .i64 a, .int .i64 t, .int .i64 7, .int .i64 n, .string s, .slice K kids.length (kids.length + c)] 159 (0, 0))) :
    Calls Tryz.prog 132 #[.pointer (some ⟨g, 0, none⟩), .pointer (some ⟨b, 0, none⟩)] w (WhP b 5 a n 7 s kids w) := by
  have hX := between_div kids HE g b S a t n s K c w hS hl h hb
  obtain ⟨c0, c1, c2, c3, c4, c5, c6, cf⟩ := cells7 hb
  clear hb h hS hl HE cf c1 c2 c3 c4 c5 c6
  go_enter Tryz.func132, Tryz.ntmps132
  go_wp2_with (go_at_call 142; refine hX.mono ?_; rintro e w1 ⟨rfl, h1⟩; have H1 := Lib.hid h1; clear h1 hX)
  go_end0
  exact ⟨rfl, H1.out⟩
set_option maxRecDepth 100000 in
set_option maxHeartbeats 4000000 in
theorem whole_int (g b : Nat) (a t n o : Int) (s : ByteArray) (K : Option Addr) (c : Nat) (w : World)
    (hb : w.heap[b]? = some (.cells #[.int .i64 1, .int .i64 a, .int .i64 t, .int .i64 o, .int .i64 n, .string s, .slice K 0 c] 159 (0, 0))) :
    Calls Tryz.prog 132 #[.pointer (some ⟨g, 0, none⟩), .pointer (some ⟨b, 0, none⟩)] w (WhP b 1 a n o s [] w) := by
  obtain ⟨c0, c1, c2, c3, c4, c5, c6, cf⟩ := cells7 hb
  have f2 := cf 2
  have hend := heap_set hb 2 (.int .i64 1)
  have Hend := Lib.hid hend
  clear hb cf c1 c3 c4 c5 c6 hend
  go_enter Tryz.func132, Tryz.ntmps132
  go_wp2
  go_end0
  exact ⟨rfl, (But.refl b w).setCell (Or.inl rfl) _, K, c, by simpa using Hend.out, by unfold tyEs RdEs; trivial⟩
theorem chkE_end {w w4 W' : World} {k a t o n : Int} {s : ByteArray} {kids : List Ex} {K' : Option Addr} {m c' : Nat} (hfar : ∀ x, x ≠ w.heap.size + 1 → W'.heap[x]? = w4.heap[x]?) (hbel : Below w.heap.size w4 W') (hw : Below w.heap.size w w4) (hm : m = kids.length) (hk : RdEs w4 (From (w.heap.size + 2) w4) K' 0 (tyEs kids)) :
    ∃ v', Ending.returned (.agg #[.int .i64 k, .int .i64 a, .int .i64 1, .int .i64 o, .int .i64 n, .string s, .slice K' m (m + c')]) = .returned v' ∧ ExV W' (From w.heap.size W') v' (tyE (.mk k a t o n s kids)) ∧ Below w.heap.size w W' := by
  refine ⟨_, rfl, ⟨k, a, 1, o, n, s, tyEs kids, K', c', rfl, by rw [tyEs_len, hm], ?_⟩, hw.trans hbel⟩
  refine RdEs.more (fun x hx => ⟨by have := hx.1; omega, Nat.lt_of_lt_of_le hx.2 hbel.size⟩) _ _ _ (RdEs.keep (w' := W') (fun p hp => World.cell?_of_block (hfar _ (by have := hp.1; omega))) _ _ _ hk)
set_option maxRecDepth 100000 in
set_option maxHeartbeats 4000000 in
theorem chkE_of (k a t o n : Int) (s : ByteArray) (kids : List Ex) (hs : s.size ≤ 281474976710656)
    (HW : ∀ (g b : Nat) (S : Nat → Prop) (K : Option Addr) (c : Nat) (w : World), (∀ x, S x → x < w.heap.size ∧ x ≠ b) → RdEs w S K 0 kids → w.heap[b]? = some (.cells #[.int .i64 k, .int .i64 a, .int .i64 t, .int .i64 o, .int .i64 n, .string s, .slice K kids.length (kids.length + c)] 159 (0, 0)) →
      Calls Tryz.prog 132 #[.pointer (some ⟨g, 0, none⟩), .pointer (some ⟨b, 0, none⟩)] w (WhP b k a n o s kids w)) : ExT (.mk k a t o n s kids) := by
  intro g S v M w hS hv hM
  obtain ⟨k', a', t', o', n', s', kids', K, c, he, rfl, hk⟩ := hv
  injection he with e1 e2 e3 e4 e5 e6 e7
  subst e1 e2 e3 e4 e5 e6 e7
  obtain ⟨m, hm⟩ : ∃ m, m = kids.length := ⟨_, rfl⟩
  have HWm := HW
  rw [← hm] at HWm ⊢
  obtain ⟨W, hW, hbW, hzW, hbE, hbR⟩ := two_al w #[.int .i64 k, .int .i64 a, .int .i64 t, .int .i64 o, .int .i64 n, .string s, .slice K m (m + c)] #[.int .i64 0, .int .i64 0, .int .i64 0, .int .i64 0, .int .i64 0, .string ⟨#[]⟩, .slice none 0 0] 159 159
  have e5 := Lib.cell_of_heap hbE 5
  have hC := fun w' => sclone_any s w' hs
  have HbW := Lib.hid hbW
  have HbE := Lib.hid hbE
  have HzW := Lib.hid hzW
  have HbR := Lib.hid hbR
  have Hk := Lib.hid hk
  have HS := Lib.hid hS
  have HMM := Lib.hid hM
  have HH := Lib.hid HWm
  have Hm := Lib.hid hm
  clear hk hS hM HW HWm hbW hbE hzW hbR hm
  go_enter Tryz.func115, Tryz.ntmps115
  go_upto_region 1 with (fail)
  rw [← hW]
  clear hW
  go_wp2_with (go_at_call 28; refine (hC _).mono ?_)
  rintro e w1 ⟨rfl, hb1⟩
  have h5 := heap_set ((hb1.block w.heap.size (by have := HzW.out; omega)).trans HbE.out) 5 (.string s)
  have hbut : But w.heap.size W (w1.setCell ⟨w.heap.size, 5, none⟩ (.string s)) := (But.of_below (g := w.heap.size) hb1).setCell (p := ⟨w.heap.size, 5, none⟩) (Or.inl rfl) _
  have g5 := Lib.cell_of_heap ((hb1.block w.heap.size (by have := HzW.out; omega)).trans HbE.out) 5
  have f5 := Lib.frozen_of_heap ((hb1.block w.heap.size (by have := HzW.out; omega)).trans HbE.out) 5
  obtain ⟨w2, hw2⟩ : ∃ w2, w2 = w1.setCell ⟨w.heap.size, 5, none⟩ (.string s) := ⟨_, rfl⟩
  rw [← hw2] at h5 hbut
  have hww2 : Below w.heap.size w w2 := hbut.below HbW.out (Nat.le_refl _) (by have := HzW.out; omega)
  have hX := HH.out g w.heap.size S K c w2 (fun x hx => by have := HS.out x hx; have := hww2.size; omega) (RdEs.keep (w' := w2) (fun p hp => hww2.cell (HS.out _ hp)) _ _ _ Hk.out) (by simpa using h5)
  have hres2 : w2.heap[w.heap.size + 1]? = _ := (hbut.block (w.heap.size + 1) (by have := HzW.out; omega) (by omega)).trans HbR.out
  have hz2 : w.heap.size + 2 ≤ w2.heap.size := by have := hbut.size; have := HzW.out; omega
  rw [hw2] at hX
  have Hres2 := Lib.hid hres2
  have Hww2 := Lib.hid hww2
  have Hz2 := Lib.hid hz2
  clear hb1 h5 hbut hww2 HH Hk HbE HbR HbW hres2 hz2 e5 HzW
  go_wp2_with (go_at_call 132; refine hX.mono ?_)
  rw [← hw2]
  clear hX hw2
  rintro e w3 ⟨rfl, hb3, K', c', hE3, hk3⟩
  have hww3 : Below w.heap.size w w3 := hb3.below Hww2.out (Nat.le_refl _) Hww2.out.size
  have hr3 := (hb3.block (w.heap.size + 1) (by have := Hz2.out; omega) (by omega)).trans Hres2.out
  have hN := contains_first M w3 (HMM.out.up hww3)
  have hz3 : w.heap.size + 2 ≤ w3.heap.size := Nat.le_trans Hz2.out hb3.size
  obtain ⟨d0, d1, d2, d3, d4, d5, d6, -⟩ := cells7 hE3
  have Hk3 := Lib.hid hk3
  have Hww3 := Lib.hid hww3
  have HE3 := Lib.hid hE3
  have Hr3 := Lib.hid hr3
  have Hz3 := Lib.hid hz3
  clear hk3 hww3 hE3 hr3 hb3 hz3 Hres2 d0 d1 d3 d4 d5 d6
  go_wp2_with (go_at_call 133; refine hN.mono ?_)
  clear hN d2
  rintro e w4 ⟨rfl, hb4⟩
  have hE4 := (hb4.block w.heap.size (by have := Hz3.out; omega)).trans HE3.out
  have hr4 := (hb4.block (w.heap.size + 1) (by have := Hz3.out; omega)).trans Hr3.out
  rw [← Hm.out] at hE4
  obtain ⟨d0, d1, d2, d3, d4, d5, d6, -⟩ := cells7 hE4
  obtain ⟨r0, r1, r2, r3, r4, r5, r6, rf⟩ := cells7 hr4
  have hk4 := RdEs.more (S' := From (w.heap.size + 2) w4) (fun x hx => ⟨Nat.le_trans Hz2.out hx.1, Nat.lt_of_lt_of_le hx.2 hb4.size⟩) _ _ _ (RdEs.keep (w' := w4) (fun p hp => hb4.cell hp.2) _ _ _ Hk3.out)
  have hww4 := Hww3.out.trans (hb4.mono Hww3.out.size)
  have Hz4 := Lib.hid (Nat.le_trans Hz3.out hb4.size)
  have Hk4 := Lib.hid hk4
  have Hww4 := Lib.hid hww4
  clear hE4 hr4 hk4 hww4 hb4 Hk3 HE3 Hr3 f5 g5
  go_wp2
  refine bodyPost_ret (v := .agg #[.int .i64 k, .int .i64 a, .int .i64 1, .int .i64 o, .int .i64 n, .string s, .slice K' m (m + c')]) (by simp [results, Tryz.results115, go_sem, r0, r1, r2, r3, r4, r5, r6]) rfl ?_
  refine chkE_end ?_ ?_ Hww4.out Hm.out Hk4.out
  · intro x hx
    repeat (with_reducible refine (Below.heap_setCell _ _ _ _ (by exact hx)).trans ?_)
    rfl
  · repeat (first | with_reducible exact Below.refl _ _ | with_reducible refine Below.setCell ?_ (by first | (simp; done) | (simp; omega)) _)
theorem chkE_int (a t o n : Int) (s : ByteArray) (hs : s.size ≤ 281474976710656) : ExT (.mk 1 a t o n s []) :=
  chkE_of 1 a t o n s [] hs (fun g b S K c w _ _ hb => whole_int g b a t n o s K _ w (by simpa using hb))
theorem chkE_div (a t n : Int) (s : ByteArray) (kids : List Ex) (hs : s.size ≤ 281474976710656) (hl : kids.length ≤ 1099511627776) (HE : ∀ e ∈ kids, ExT e) : ExT (.mk 5 a t 7 n s kids) :=
  chkE_of 5 a t 7 n s kids hs (fun g b S K c w hS hk hb => whole_div kids HE g b S a t n s K c w hS hl hk hb)
mutual
theorem chkE_any : ∀ e, inE e → ExT e
  | .mk k a t o n s kids, h => by
    unfold inE at h
    obtain ⟨hs, hl, hc, hk⟩ := h
    rcases hc with ⟨rfl, rfl⟩ | ⟨rfl, rfl⟩
    · exact chkE_int a t o n s hs
    · exact chkE_div a t n s kids hs hl (chkE_each kids hk)
theorem chkE_each : ∀ l, inEs l → ∀ e ∈ l, ExT e
  | [], _, e, he => by simp at he
  | x :: r, h, e, he => by
    unfold inEs at h
    rcases List.mem_cons.mp he with he | he
    · rw [he]
      exact chkE_any x h.1
    · exact chkE_each r h.2 e he
end
end Go.Proofs.YtlgpbllkhbgppaaGreatDoor
namespace Go.Proofs.YtlgpbllkhbgppaaGreatDoor
set_option linter.unusedVariables false
set_option linter.unusedSimpArgs false
open Go.RowKit

/-- What becomes of a statement that is printed or returned. -/
def ChkP (b : Nat) (k a n : Int) (s : ByteArray) (p : Int) (kids : List Ex) (B E : Value) (w : World) (r : Ending) (w' : World) : Prop := r = .returned (.tuple #[]) ∧ But b w w' ∧ ∃ K' c', w'.heap[b]? = some (.cells #[.int .i64 k, .int .i64 a, .int .i64 n, .string s, .int .i64 p, .slice K' kids.length (kids.length + c'), B, E] 132 (0, 0)) ∧ RdEs w' (From w.heap.size w') K' 0 (tyEs kids)
theorem chkP_end {w w0 w2 : World} {b : Nat} {k a n p : Int} {s : ByteArray} {kids : List Ex} {B E V : Value} {K' : Option Addr} {c' : Nat} (hbut : But b w w0) (h0 : w0.heap[b]? = some (.cells #[.int .i64 k, .int .i64 a, .int .i64 n, .string s, .int .i64 p, V, B, E] 132 (0, 0))) (hb2 : Below w0.heap.size w0 w2)
    (hk : RdEs w2 (From w0.heap.size w2) K' 0 (tyEs kids)) (hbl : b < w.heap.size) : ChkP b k a n s p kids B E w (.returned (.tuple #[])) (w2.setCell ⟨b, 5, none⟩ (.slice K' kids.length (kids.length + c'))) := by
  have hz := hbut.size
  refine ⟨rfl, (hbut.up2 hb2).setCell (Or.inl rfl) _, K', c', heap_set ((hb2.block b (by omega)).trans h0) 5 _, ?_⟩
  exact RdEs.more (fun x hx => ⟨by have := hx.1; omega, by rw [set_size]; exact hx.2⟩) _ _ _ (RdEs.keep (w' := w2.setCell ⟨b, 5, none⟩ (.slice K' kids.length (kids.length + c'))) (fun q hq => set_far (by have := hq.1; omega)) _ _ _ hk)
set_option maxRecDepth 100000 in
set_option maxHeartbeats 8000000 in
theorem chk_back (kids : List Ex) (HE : ∀ e ∈ kids, ExT e) (g b : Nat) (S : Nat → Prop) (a n p : Int) (s : ByteArray) (K : Option Addr) (c : Nat) (B E : Value) (w : World) (hS : ∀ x, S x → x < w.heap.size ∧ x ≠ b) (hl : kids.length = 1) (h : RdEs w S K 0 kids) (hgb : g ≠ b) (hgl : g < w.heap.size)
    (hg : w.cell? ⟨g, 4, none⟩ = some (.int .i64 1)) (hb : w.heap[b]? = some (.cells #[.int .i64 9, .int .i64 a, .int .i64 n, .string s, .int .i64 p, .slice K 1 c, B, E] 132 (0, 0))) :
    Calls Tryz.prog 96 #[.pointer (some ⟨g, 0, none⟩), .pointer (some ⟨b, 0, none⟩)] w (ChkP b 9 a n s p kids B E w) := by
  have hbl := heap_lt hb
  obtain ⟨m, hm⟩ : ∃ m, m = w.heap.size := ⟨_, rfl⟩
  have hX : ∀ W M, Below w.heap.size w W → May W M → Calls Tryz.prog 93 #[.pointer (some ⟨g, 0, none⟩), .slice K 1 c, M] W fun e w' => ∃ K' c', e = .returned (.slice K' 1 (1 + c')) ∧ RdEs w' (From W.heap.size w') K' 0 (tyEs kids) ∧ Below W.heap.size W w' := fun W M hW hM => by
    have := chk_exprs kids HE g S K c M W (fun x hx => by have := (hS x hx).1; have := hW.size; omega) (by omega) (RdEs.keep (w' := W) (fun q hq => hW.cell (hS _ hq).1) _ _ _ h) hM
    rw [hl] at this
    exact this
  have d5 : w.cell? ⟨b, 5, none⟩ = some (.slice K 1 c) := Lib.cell_of_heap hb 5
  have f5 : w.frozen? ⟨b, 5, none⟩ = false := Lib.frozen_of_heap hb 5
  have HX := Lib.hid hX
  have Hb := Lib.hid hb
  have Hl := Lib.hid hl
  clear hX hb hS h HE hl hm
  go_enter Tryz.func96, Tryz.ntmps96
  go_upto_region 0 with fail
  go_region_held3 (fun w' => w'.cell? ⟨g, 4, none⟩ = some (.int .i64 1) ∧ w'.cell? ⟨b, 5, none⟩ = some (.slice K 1 c)) (exact ⟨hg, d5⟩) (fail)
  go_upto_region 2 with fail
  obtain ⟨w0, hw0⟩ : ∃ w0, w0 = w.drew := ⟨_, rfl⟩
  have hb0 : Below w.heap.size w w0 := by rw [hw0]; exact (Below.refl _ _).drew
  have z0 : w0.heap.size = w.heap.size := by rw [hw0]; rfl
  rw [← hw0]
  clear hw0
  have g0 : w0.cell? ⟨g, 4, none⟩ = some (.int .i64 1) := (hb0.cell (p := ⟨g, 4, none⟩) hgl).trans hg
  have k0 : w0.cell? ⟨b, 5, none⟩ = some (.slice K 1 c) := (hb0.cell (p := ⟨b, 5, none⟩) hbl).trans d5
  have gd : w0.drew.cell? ⟨g, 4, none⟩ = some (.int .i64 1) := g0
  have kd : w0.drew.cell? ⟨b, 5, none⟩ = some (.slice K 1 c) := k0
  obtain ⟨D, hD⟩ : ∃ D, D = w0.drew := ⟨_, rfl⟩
  have hbD : Below w.heap.size w D := by rw [hD]; exact hb0.drew
  have zD : D.heap.size = w.heap.size := by rw [hD]; exact z0
  have hD1 : Below D.heap.size D (D.alloc (.cells #[.int .i64 1] 3)) := (Below.refl _ _).alloc (Nat.le_refl _) _
  have hX := HX.out (D.alloc (.cells #[.int .i64 1] 3)) (.slice (some ⟨w0.heap.size, 0, none⟩) 1 1) (hbD.trans (hD1.mono hbD.size)) ⟨w0.heap.size, 0, 1, 1, rfl, by omega, by omega, by simp; omega, by rw [z0, ← zD]; exact Lib.cell_of_heap (heap_alloc_new D _) 0⟩
  have g1 : (D.alloc (.cells #[.int .i64 1] 3)).cell? ⟨g, 4, none⟩ = some (.int .i64 1) := (World.cell?_alloc_lt _ _ _ (by simp; omega)).trans (by rw [hD]; exact gd)
  have k1 : (D.alloc (.cells #[.int .i64 1] 3)).cell? ⟨b, 5, none⟩ = some (.slice K 1 c) := (World.cell?_alloc_lt _ _ _ (by simp; omega)).trans (by rw [hD]; exact kd)
  have hbut1 : But b w (D.alloc (.cells #[.int .i64 1] 3)) := But.of_below (hbD.trans (hD1.mono hbD.size))
  have h1 : (D.alloc (.cells #[.int .i64 1] 3)).heap[b]? = _ := ((hbD.trans (hD1.mono hbD.size)).block b hbl).trans Hb.out
  have hz1 : w.heap.size < (D.alloc (.cells #[.int .i64 1] 3)).heap.size := by simp; omega
  have hall : ∀ w2 K' c', Below (D.alloc (.cells #[.int .i64 1] 3)).heap.size (D.alloc (.cells #[.int .i64 1] 3)) w2 → RdEs w2 (From (D.alloc (.cells #[.int .i64 1] 3)).heap.size w2) K' 0 (tyEs kids) → w2.cell? ⟨g, 4, none⟩ = some (.int .i64 1) ∧ w2.cell? ⟨b, 5, none⟩ = some (.slice K 1 c) ∧ w2.frozen? ⟨b, 5, none⟩ = false ∧ ChkP b 9 a n s p kids B E w (.returned (.tuple #[])) (w2.setCell ⟨b, 5, none⟩ (.slice K' 1 (1 + c'))) := fun w2 K' c' hb2 hk => by
    refine ⟨(hb2.cell (p := ⟨g, 4, none⟩) (by show g < _; omega)).trans g1, (hb2.cell (p := ⟨b, 5, none⟩) (by show b < _; omega)).trans k1, Lib.frozen_of_heap ((hb2.block b (by omega)).trans h1) 5, ?_⟩
    have hE := chkP_end (c' := c') hbut1 h1 hb2 hk hbl
    rw [Hl.out] at hE
    exact hE
  rw [hD, show w0.drew.alloc (.cells #[.int .i64 1] 3) = (w0.alloc (.cells #[.int .i64 1] 3)).drew from rfl] at hX g1 k1 hall
  have Hall := Lib.hid hall
  clear hall hbut1 h1 hbD hz1 zD hD1 hD g0 k0 z0 hb0 d5
  refine wp_region_noPanic ?_
  refine wp_region_held_drew (S := fun w' => w'.cell? ⟨g, 4, none⟩ = some (.int .i64 1)) (by kernel_rfl) gd (fun hHeld => ?_)
  refine wpAnyH_take (i := 0) (v := ?_) rfl (by kernel_rfl) (by kernel_rfl) (by kernel_rfl) (fun _ _ _ h => h) (Or.inl ⟨by rfl, ?_⟩) (by assumption) ?_
  rotate_left
  · (intro w hSw; (try dsimp only at hSw); first | (go_simp; done) | (go_simp; with_reducible rfl))
  try simp only [Act.put, List.setIfInBounds_toArray, List.set_cons_zero, List.set_cons_succ]
  refine wpAnyH_take (i := 1) (v := ?_) rfl (by kernel_rfl) (by kernel_rfl) (by kernel_rfl) (fun _ _ _ h => h) (Or.inl ⟨by rfl, ?_⟩) (by assumption) ?_
  rotate_left
  · (intro w hSw; (try dsimp only at hSw); first | (go_simp; done) | (go_simp; with_reducible rfl))
  try simp only [Act.put, List.setIfInBounds_toArray, List.set_cons_zero, List.set_cons_succ]
  refine wpAnyH_take (i := 2) (v := ?_) rfl (by kernel_rfl) (by kernel_rfl) (by kernel_rfl) (fun _ _ _ h => h) (Or.inl ⟨by rfl, ?_⟩) (by assumption) ?_
  rotate_left
  · (intro w hSw; (try dsimp only at hSw); first | (go_simp; done) | (go_simp; with_reducible rfl))
  try simp only [Act.put, List.setIfInBounds_toArray, List.set_cons_zero, List.set_cons_succ]
  refine wpAnyH_take (i := 3) (v := ?_) rfl (by kernel_rfl) (by kernel_rfl) (by kernel_rfl) (fun _ _ _ h => h) (Or.inl ⟨by rfl, ?_⟩) (by assumption) ?_
  rotate_left
  · (intro w hSw; (try dsimp only at hSw); first | (go_simp; done) | (go_simp; with_reducible rfl))
  try simp only [Act.put, List.setIfInBounds_toArray, List.set_cons_zero, List.set_cons_succ]
  refine wpAnyH_take (i := 4) (v := ?_) rfl (by kernel_rfl) (by kernel_rfl) (by kernel_rfl) (fun _ _ _ h => h) (Or.inl ⟨by rfl, ?_⟩) (by assumption) ?_
  rotate_left
  · (intro w hSw; (try dsimp only at hSw); first | (go_simp; done) | (go_simp; with_reducible rfl))
  try simp only [Act.put, List.setIfInBounds_toArray, List.set_cons_zero, List.set_cons_succ]
  refine wpAnyH_take (i := 6) (v := ?_) rfl (by kernel_rfl) (by kernel_rfl) (by kernel_rfl) (fun _ _ _ h => h) (Or.inl ⟨by rfl, ?_⟩) (by assumption) ?_
  rotate_left
  · (intro w hSw; (try dsimp only at hSw); first | (go_simp; done) | (go_simp; with_reducible rfl))
  try simp only [Act.put, List.setIfInBounds_toArray, List.set_cons_zero, List.set_cons_succ]
  refine wpAnyH_take (i := 7) (v := ?_) rfl (by kernel_rfl) (by kernel_rfl) (by kernel_rfl) (fun _ _ _ h => h) (Or.inl ⟨by rfl, ?_⟩) (by assumption) ?_
  rotate_left
  · (intro w hSw; (try dsimp only at hSw); first | (go_simp; done) | (go_simp; with_reducible rfl))
  try simp only [Act.put, List.setIfInBounds_toArray, List.set_cons_zero, List.set_cons_succ]
  refine wpAnyH_take (i := 8) (v := ?_) rfl (by kernel_rfl) (by kernel_rfl) (by kernel_rfl) (fun _ _ _ h => h) (Or.inl ⟨by rfl, ?_⟩) (by assumption) ?_
  rotate_left
  · (intro w hSw; (try dsimp only at hSw); first | (go_simp; done) | (go_simp; with_reducible rfl))
  try simp only [Act.put, List.setIfInBounds_toArray, List.set_cons_zero, List.set_cons_succ]
  refine wpAnyH_take (i := 9) (v := ?_) rfl (by kernel_rfl) (by kernel_rfl) (by kernel_rfl) (fun _ _ _ h => h) (Or.inl ⟨by rfl, ?_⟩) (by assumption) ?_
  rotate_left
  · (intro w hSw; (try dsimp only at hSw); first | (go_simp; done) | (go_simp; with_reducible rfl))
  try simp only [Act.put, List.setIfInBounds_toArray, List.set_cons_zero, List.set_cons_succ]
  refine wpAnyH_ready (rs := [5, 10]) (by kernel_rfl) (by simp) ?_
  refine AllReadyH.cons rfl (fun K hK => ?_) (AllReadyH.cons rfl (fun K hK => ?_) (AllReadyH.nil))
  · go_simp
    refine hK.out _ _ ?_ (fun hHeld => ?_)
    · ((try dsimp only); first | with_reducible exact gd | with_reducible exact g1 | with_reducible exact g2 | exact (World.cell?_setCell_other _ _ _ _ (by simp)).trans g2)
    clear hK K
    try simp only [Act.put, List.setIfInBounds_toArray, List.set_cons_zero, List.set_cons_succ]
    refine wpAnyH_ready (rs := [10]) (by kernel_rfl) (by simp) ?_
    refine AllReadyH.cons rfl (fun K hK => ?_) (AllReadyH.nil)
    go_simp
    refine hK.out _ _ ?_ (fun hHeld => ?_)
    · ((try dsimp only); first | with_reducible exact gd | with_reducible exact g1 | with_reducible exact g2 | exact (World.cell?_setCell_other _ _ _ _ (by simp)).trans g2)
    clear hK K
    try simp only [Act.put, List.setIfInBounds_toArray, List.set_cons_zero, List.set_cons_succ]
    refine wpAnyH_ready (rs := [11]) (by kernel_rfl) (by simp) ?_
    refine AllReadyH.cons rfl (fun K hK => ?_) (AllReadyH.nil)
    go_simp
    refine hX.mono ?_
    rintro e w2 ⟨K', c', rfl, hk, hb2⟩
    obtain ⟨g2, k2, f2, hend⟩ := Hall.out w2 K' c' hb2 hk
    have Hend := Lib.hid hend
    clear hb2 hk hX hend
    refine hK.out _ _ ?_ (fun hHeld => ?_)
    · ((try dsimp only); first | with_reducible exact gd | with_reducible exact g1 | with_reducible exact g2 | exact (World.cell?_setCell_other _ _ _ _ (by simp)).trans g2)
    clear hK K
    try simp only [Act.put, List.setIfInBounds_toArray, List.set_cons_zero, List.set_cons_succ]
    refine wpAnyH_take (i := 12) (v := ?_) rfl (by kernel_rfl) (by kernel_rfl) (by kernel_rfl) (fun _ _ _ h => h) (Or.inl ⟨by rfl, ?_⟩) (by assumption) ?_
    rotate_left
    · (intro w hSw; (try dsimp only at hSw); first | (go_simp; done) | (go_simp; with_reducible rfl))
    try simp only [Act.put, List.setIfInBounds_toArray, List.set_cons_zero, List.set_cons_succ]
    refine wpAnyH_take (i := 13) (v := ?_) rfl (by kernel_rfl) (by kernel_rfl) (by kernel_rfl) (fun _ _ _ h => h) (Or.inl ⟨by rfl, ?_⟩) (by assumption) ?_
    rotate_left
    · (intro w hSw; (try dsimp only at hSw); first | (go_simp; done) | (go_simp; with_reducible rfl))
    try simp only [Act.put, List.setIfInBounds_toArray, List.set_cons_zero, List.set_cons_succ]
    refine wpAnyH_ready (rs := [14]) (by kernel_rfl) (by simp) ?_
    refine AllReadyH.cons rfl (fun K hK => ?_) (AllReadyH.nil)
    go_simp
    refine hK.out _ _ ?_ (fun hHeld => ?_)
    · ((try dsimp only); first | with_reducible exact gd | with_reducible exact g1 | with_reducible exact g2 | exact (World.cell?_setCell_other _ _ _ _ (by simp)).trans g2)
    clear hK K
    try simp only [Act.put, List.setIfInBounds_toArray, List.set_cons_zero, List.set_cons_succ]
    refine wpAnyH_done (by kernel_rfl) ?_ _
    refine NoPanic.normal ?_
    go_wp2
    go_end0
    exact Hend.out
  · go_simp
    refine hK.out _ _ ?_ (fun hHeld => ?_)
    · ((try dsimp only); first | with_reducible exact gd | with_reducible exact g1 | with_reducible exact g2 | exact (World.cell?_setCell_other _ _ _ _ (by simp)).trans g2)
    clear hK K
    try simp only [Act.put, List.setIfInBounds_toArray, List.set_cons_zero, List.set_cons_succ]
    refine wpAnyH_ready (rs := [5]) (by kernel_rfl) (by simp) ?_
    refine AllReadyH.cons rfl (fun K hK => ?_) (AllReadyH.nil)
    go_simp
    refine hK.out _ _ ?_ (fun hHeld => ?_)
    · ((try dsimp only); first | with_reducible exact gd | with_reducible exact g1 | with_reducible exact g2 | exact (World.cell?_setCell_other _ _ _ _ (by simp)).trans g2)
    clear hK K
    try simp only [Act.put, List.setIfInBounds_toArray, List.set_cons_zero, List.set_cons_succ]
    refine wpAnyH_ready (rs := [11]) (by kernel_rfl) (by simp) ?_
    refine AllReadyH.cons rfl (fun K hK => ?_) (AllReadyH.nil)
    go_simp
    refine hX.mono ?_
    rintro e w2 ⟨K', c', rfl, hk, hb2⟩
    obtain ⟨g2, k2, f2, hend⟩ := Hall.out w2 K' c' hb2 hk
    have Hend := Lib.hid hend
    clear hb2 hk hX hend
    refine hK.out _ _ ?_ (fun hHeld => ?_)
    · ((try dsimp only); first | with_reducible exact gd | with_reducible exact g1 | with_reducible exact g2 | exact (World.cell?_setCell_other _ _ _ _ (by simp)).trans g2)
    clear hK K
    try simp only [Act.put, List.setIfInBounds_toArray, List.set_cons_zero, List.set_cons_succ]
    refine wpAnyH_take (i := 12) (v := ?_) rfl (by kernel_rfl) (by kernel_rfl) (by kernel_rfl) (fun _ _ _ h => h) (Or.inl ⟨by rfl, ?_⟩) (by assumption) ?_
    rotate_left
    · (intro w hSw; (try dsimp only at hSw); first | (go_simp; done) | (go_simp; with_reducible rfl))
    try simp only [Act.put, List.setIfInBounds_toArray, List.set_cons_zero, List.set_cons_succ]
    refine wpAnyH_take (i := 13) (v := ?_) rfl (by kernel_rfl) (by kernel_rfl) (by kernel_rfl) (fun _ _ _ h => h) (Or.inl ⟨by rfl, ?_⟩) (by assumption) ?_
    rotate_left
    · (intro w hSw; (try dsimp only at hSw); first | (go_simp; done) | (go_simp; with_reducible rfl))
    try simp only [Act.put, List.setIfInBounds_toArray, List.set_cons_zero, List.set_cons_succ]
    refine wpAnyH_ready (rs := [14]) (by kernel_rfl) (by simp) ?_
    refine AllReadyH.cons rfl (fun K hK => ?_) (AllReadyH.nil)
    go_simp
    refine hK.out _ _ ?_ (fun hHeld => ?_)
    · ((try dsimp only); first | with_reducible exact gd | with_reducible exact g1 | with_reducible exact g2 | exact (World.cell?_setCell_other _ _ _ _ (by simp)).trans g2)
    clear hK K
    try simp only [Act.put, List.setIfInBounds_toArray, List.set_cons_zero, List.set_cons_succ]
    refine wpAnyH_done (by kernel_rfl) ?_ _
    refine NoPanic.normal ?_
    go_wp2
    go_end0
    exact Hend.out
end Go.Proofs.YtlgpbllkhbgppaaGreatDoor
namespace Go.Proofs.YtlgpbllkhbgppaaGreatDoor
set_option linter.unusedVariables false
set_option linter.unusedSimpArgs false
open Go.RowKit

/-- What a statement comes to. -/
def ChkQ (k a n : Int) (s : ByteArray) (p : Int) (kids : List Ex) (B E : Value) (w : World) (r : Ending) (w' : World) : Prop := ∃ K' c', r = .returned (.agg #[.int .i64 k, .int .i64 a, .int .i64 n, .string s, .int .i64 p, .slice K' 1 (1 + c'), B, E]) ∧ RdEs w' (From w.heap.size w') K' 0 (tyEs kids) ∧ Below w.heap.size w w'
theorem chkQ_end {w w4 W' : World} {k a n p : Int} {s : ByteArray} {kids : List Ex} {B E : Value} {K' : Option Addr} {c' : Nat} (hfar : ∀ x, x ≠ w.heap.size → x ≠ w.heap.size + 1 → W'.heap[x]? = w4.heap[x]?) (hbel : Below w.heap.size w4 W') (hw : Below w.heap.size w w4) (hk : RdEs w4 (From (w.heap.size + 2) w4) K' 0 (tyEs kids)) :
    ChkQ k a n s p kids B E w (.returned (.agg #[.int .i64 k, .int .i64 a, .int .i64 n, .string s, .int .i64 p, .slice K' 1 (1 + c'), B, E])) W' := by
  refine ⟨K', c', rfl, ?_, hw.trans hbel⟩
  exact RdEs.more (fun x hx => ⟨by have := hx.1; omega, Nat.lt_of_lt_of_le hx.2 hbel.size⟩) _ _ _ (RdEs.keep (w' := W') (fun q hq => World.cell?_of_block (hfar _ (by have := hq.1; omega) (by have := hq.1; omega))) _ _ _ hk)
set_option maxRecDepth 100000 in
set_option maxHeartbeats 8000000 in
theorem chkS_back (kids : List Ex) (HE : ∀ e ∈ kids, ExT e) (g : Nat) (S : Nat → Prop) (a n p : Int) (s : ByteArray) (K B E : Option Addr) (c cb ce : Nat) (w : World) (hs : s.size ≤ 281474976710656) (hS : ∀ x, S x → x < w.heap.size) (hl : kids.length = 1) (h : RdEs w S K 0 kids) (hgl : g < w.heap.size) (hg : w.cell? ⟨g, 4, none⟩ = some (.int .i64 1)) :
    Calls Tryz.prog 69 #[.pointer (some ⟨g, 0, none⟩), .agg #[.int .i64 9, .int .i64 a, .int .i64 n, .string s, .int .i64 p, .slice K 1 c, .slice B 0 cb, .slice E 0 ce]] w (ChkQ 9 a n s p kids (.slice B 0 cb) (.slice E 0 ce) w) := by
  obtain ⟨W, hW, hbW, hzW, hbE, hbR⟩ := two_al w #[.int .i64 9, .int .i64 a, .int .i64 n, .string s, .int .i64 p, .slice K 1 c, .slice B 0 cb, .slice E 0 ce] #[.int .i64 0, .int .i64 0, .int .i64 0, .string ⟨#[]⟩, .int .i64 0, .slice none 0 0, .slice none 0 0, .slice none 0 0] 132 132
  have hC := fun w' => sclone_any s w' hs
  have HbW := Lib.hid hbW
  have HbE := Lib.hid hbE
  have HzW := Lib.hid hzW
  have HbR := Lib.hid hbR
  have Hk := Lib.hid h
  have HS := Lib.hid hS
  have Hg := Lib.hid hg
  have HHE := Lib.hid HE
  have Hl := Lib.hid hl
  clear h hS hg HE hbW hbE hzW hbR hl
  go_enter Tryz.func69, Tryz.ntmps69
  go_upto_region 1 with (fail)
  rw [← hW]
  clear hW
  have e3 := Lib.cell_of_heap HbE.out 3
  go_wp2_with (go_at_call 28; refine (hC _).mono ?_)
  rintro e w1 ⟨rfl, hb1⟩
  have hE1 := (hb1.block w.heap.size (by have := HzW.out; omega)).trans HbE.out
  have h5 := heap_set hE1 3 (.string s)
  have hbut : But w.heap.size W (w1.setCell ⟨w.heap.size, 3, none⟩ (.string s)) := (But.of_below (g := w.heap.size) hb1).setCell (p := ⟨w.heap.size, 3, none⟩) (Or.inl rfl) _
  have g3 := Lib.cell_of_heap hE1 3
  have f3 := Lib.frozen_of_heap hE1 3
  obtain ⟨w2, hw2⟩ : ∃ w2, w2 = w1.setCell ⟨w.heap.size, 3, none⟩ (.string s) := ⟨_, rfl⟩
  have hz12 : w2.heap.size = w1.heap.size := by rw [hw2]; exact set_size _ _ _ _
  rw [← hw2] at h5 hbut
  have hww2 : Below w.heap.size w w2 := hbut.below HbW.out (Nat.le_refl _) (by have := HzW.out; omega)
  have hz2 : w.heap.size + 2 ≤ w2.heap.size := by have := hbut.size; have := HzW.out; omega
  have hE2 : w2.heap[w.heap.size]? = some (.cells #[.int .i64 9, .int .i64 a, .int .i64 n, .string s, .int .i64 p, .slice K 1 c, .slice B 0 cb, .slice E 0 ce] 132 (0, 0)) := by simpa using h5
  have hk2 := RdEs.keep (w' := w2) (fun q hq => hww2.cell (HS.out _ hq)) _ _ _ Hk.out
  have hr2 : w2.heap[w.heap.size + 1]? = _ := (hbut.block (w.heap.size + 1) (by have := HzW.out; omega) (by omega)).trans HbR.out
  have hX := chk_back kids HHE.out g w.heap.size S a n p s K c (.slice B 0 cb) (.slice E 0 ce) w2 (fun x hx => by have := HS.out x hx; omega) Hl.out hk2 (by omega) (by omega) ((hww2.cell (p := ⟨g, 4, none⟩) hgl).trans Hg.out) hE2
  have d0 := Lib.cell_of_heap hE1 0
  rw [hw2] at hX
  have Hr2 := Lib.hid hr2
  have Hww2 := Lib.hid hww2
  have Hz2 := Lib.hid hz2
  clear hb1 hE1 h5 hbut hww2 Hk HbE HbR HbW hr2 hz2 HzW hE2 hk2 HHE Hg e3 hz12
  go_wp2_with (go_at_call 96; refine hX.mono ?_)
  rw [← hw2]
  clear hX hw2 g3 f3 d0
  rintro e w4 ⟨rfl, hb3, K', c', hE4, hk3⟩
  rw [Hl.out] at hE4
  have hww4 : Below w.heap.size w w4 := hb3.below Hww2.out (Nat.le_refl _) Hww2.out.size
  have hr4 := (hb3.block (w.heap.size + 1) (by have := Hz2.out; omega) (by omega)).trans Hr2.out
  have hz4 : w.heap.size + 2 ≤ w4.heap.size := Nat.le_trans Hz2.out hb3.size
  have hk4 := RdEs.more (S' := From (w.heap.size + 2) w4) (fun x hx => ⟨Nat.le_trans Hz2.out hx.1, hx.2⟩) _ _ _ hk3
  obtain ⟨d0, d1, d2, d3, d4, d5, d6, d7, -⟩ := cells8 hE4
  obtain ⟨r0, r1, r2, r3, r4, r5, r6, r7, rf⟩ := cells8 hr4
  have Hk4 := Lib.hid hk4
  have Hww4 := Lib.hid hww4
  have Hz4 := Lib.hid hz4
  clear hE4 hr4 hk4 hww4 hb3 hk3 Hr2 Hww2 Hz2 hz4
  go_wp2
  refine bodyPost_ret (v := .agg #[.int .i64 9, .int .i64 a, .int .i64 n, .string s, .int .i64 p, .slice K' 1 (1 + c'), .slice B 0 cb, .slice E 0 ce]) (by simp [results, Tryz.results69, go_sem, r0, r1, r2, r3, r4, r5, r6, r7]) rfl ?_
  refine chkQ_end (w4 := w4) ?_ ?_ Hww4.out Hk4.out
  · intro x hx hx2
    repeat (with_reducible refine (Below.heap_setCell _ _ _ _ (by first | exact hx | exact hx2)).trans ?_)
    rfl
  · repeat (first | with_reducible exact Below.refl _ _ | with_reducible refine Below.setCell ?_ (by first | (simp; done) | (simp; omega)) _)
set_option maxRecDepth 100000 in
set_option maxHeartbeats 8000000 in
theorem chkS_print (kids : List Ex) (HE : ∀ e ∈ kids, ExT e) (g : Nat) (S : Nat → Prop) (a n p : Int) (s : ByteArray) (K B E : Option Addr) (c cb ce : Nat) (w : World) (hs : s.size ≤ 281474976710656) (hS : ∀ x, S x → x < w.heap.size) (hl : kids.length = 1) (h : RdEs w S K 0 kids) (hgl : g < w.heap.size) (hg : w.cell? ⟨g, 4, none⟩ = some (.int .i64 1)) :
    Calls Tryz.prog 69 #[.pointer (some ⟨g, 0, none⟩), .agg #[.int .i64 10, .int .i64 a, .int .i64 n, .string s, .int .i64 p, .slice K 1 c, .slice B 0 cb, .slice E 0 ce]] w (ChkQ 10 a n s p kids (.slice B 0 cb) (.slice E 0 ce) w) := by
  obtain ⟨W, hW, hbW, hzW, hbE, hbR⟩ := two_al w #[.int .i64 10, .int .i64 a, .int .i64 n, .string s, .int .i64 p, .slice K 1 c, .slice B 0 cb, .slice E 0 ce] #[.int .i64 0, .int .i64 0, .int .i64 0, .string ⟨#[]⟩, .int .i64 0, .slice none 0 0, .slice none 0 0, .slice none 0 0] 132 132
  have hC := fun w' => sclone_any s w' hs
  have HbW := Lib.hid hbW
  have HbE := Lib.hid hbE
  have HzW := Lib.hid hzW
  have HbR := Lib.hid hbR
  have Hk := Lib.hid h
  have HS := Lib.hid hS
  have Hg := Lib.hid hg
  have HHE := Lib.hid HE
  have Hl := Lib.hid hl
  clear h hS hg HE hbW hbE hzW hbR hl
  go_enter Tryz.func69, Tryz.ntmps69
  go_upto_region 1 with (fail)
  rw [← hW]
  clear hW
  have e3 := Lib.cell_of_heap HbE.out 3
  go_wp2_with (go_at_call 28; refine (hC _).mono ?_)
  rintro e w1 ⟨rfl, hb1⟩
  have hE1 := (hb1.block w.heap.size (by have := HzW.out; omega)).trans HbE.out
  have h5 := heap_set hE1 3 (.string s)
  have hbut : But w.heap.size W (w1.setCell ⟨w.heap.size, 3, none⟩ (.string s)) := (But.of_below (g := w.heap.size) hb1).setCell (p := ⟨w.heap.size, 3, none⟩) (Or.inl rfl) _
  have g3 := Lib.cell_of_heap hE1 3
  have f3 := Lib.frozen_of_heap hE1 3
  obtain ⟨w2, hw2⟩ : ∃ w2, w2 = w1.setCell ⟨w.heap.size, 3, none⟩ (.string s) := ⟨_, rfl⟩
  have hz12 : w2.heap.size = w1.heap.size := by rw [hw2]; exact set_size _ _ _ _
  rw [← hw2] at h5 hbut
  have hww2 : Below w.heap.size w w2 := hbut.below HbW.out (Nat.le_refl _) (by have := HzW.out; omega)
  have hz2 : w.heap.size + 2 ≤ w2.heap.size := by have := hbut.size; have := HzW.out; omega
  have hE2 : w2.heap[w.heap.size]? = some (.cells #[.int .i64 10, .int .i64 a, .int .i64 n, .string s, .int .i64 p, .slice K 1 c, .slice B 0 cb, .slice E 0 ce] 132 (0, 0)) := by simpa using h5
  have hk2 := RdEs.keep (w' := w2) (fun q hq => hww2.cell (HS.out _ hq)) _ _ _ Hk.out
  have hr2 : w2.heap[w.heap.size + 1]? = _ := (hbut.block (w.heap.size + 1) (by have := HzW.out; omega) (by omega)).trans HbR.out
  have hM1 := (Below.refl w2.heap.size w2).alloc (Nat.le_refl _) (.cells #[.int .i64 1, .int .i64 2] 3)
  have hX := chk_exprs kids HHE.out g S K c (.slice (some ⟨w1.heap.size, 0, none⟩) 2 2) (w2.alloc (.cells #[.int .i64 1, .int .i64 2] 3)) (fun x hx => by have := HS.out x hx; simp; omega) (by have := Hl.out; omega) (RdEs.keep (w' := w2.alloc (.cells #[.int .i64 1, .int .i64 2] 3)) (fun q hq => hM1.cell (by have := HS.out _ hq; omega)) _ _ _ hk2) ⟨w1.heap.size, 0, 2, 2, rfl, by omega, by omega, by simp; omega, by rw [← hz12]; exact Lib.cell_of_heap (heap_alloc_new w2 _) 0⟩
  have d0 := Lib.cell_of_heap hE1 0
  have e5 := Lib.cell_of_heap hE1 5
  have hall : ∀ w4, Below (w2.alloc (.cells #[.int .i64 1, .int .i64 2] 3)).heap.size (w2.alloc (.cells #[.int .i64 1, .int .i64 2] 3)) w4 → w4.heap[w.heap.size]? = some (.cells #[.int .i64 10, .int .i64 a, .int .i64 n, .string s, .int .i64 p, .slice K 1 c, .slice B 0 cb, .slice E 0 ce] 132 (0, 0)) ∧ w4.heap[w.heap.size + 1]? = some (.cells #[.int .i64 0, .int .i64 0, .int .i64 0, .string ⟨#[]⟩, .int .i64 0, .slice none 0 0, .slice none 0 0, .slice none 0 0] 132 (0, 0)) ∧ Below w.heap.size w w4 ∧ w.heap.size + 2 ≤ w4.heap.size ∧ ∀ x, (w2.alloc (.cells #[.int .i64 1, .int .i64 2] 3)).heap.size ≤ x → w.heap.size + 2 ≤ x := fun w4 h4 => by
    have h6 : Below w2.heap.size w2 w4 := hM1.trans (h4.mono (by simp))
    exact ⟨(h6.block _ (by omega)).trans hE2, (h6.block _ (by omega)).trans hr2, hww2.trans (h6.mono hww2.size), by have := h6.size; omega, fun x hx => by simp at hx; omega⟩
  rw [hw2] at hX hall
  have Hall := Lib.hid hall
  rw [Hl.out] at hX
  clear hb1 hE1 h5 hbut hww2 Hk HbE HbR HbW hr2 hz2 HzW hE2 hk2 HHE Hg e3 hz12 hM1 hall hw2
  go_wp2_with (go_at_call 93; refine hX.mono ?_)
  clear hX g3 f3 d0 e5
  rintro e w4 ⟨K', c', rfl, hk3, hb3⟩
  obtain ⟨hE4, hr4, hww4, hz4, hx4⟩ := Hall.out w4 hb3
  have hk4 := RdEs.more (S' := From (w.heap.size + 2) w4) (fun x hx => ⟨hx4 _ hx.1, hx.2⟩) _ _ _ hk3
  obtain ⟨d0, d1, d2, d3, d4, d5, d6, d7, df⟩ := cells8 hE4
  obtain ⟨r0, r1, r2, r3, r4, r5, r6, r7, rf⟩ := cells8 hr4
  have f5 := df 5
  have Hk4 := Lib.hid hk4
  have Hww4 := Lib.hid hww4
  have Hz4 := Lib.hid hz4
  clear hE4 hr4 hk4 hww4 hb3 hk3 Hall hz4 hx4 df
  go_wp2
  refine bodyPost_ret (v := .agg #[.int .i64 10, .int .i64 a, .int .i64 n, .string s, .int .i64 p, .slice K' 1 (1 + c'), .slice B 0 cb, .slice E 0 ce]) (by simp [results, Tryz.results69, go_sem, r0, r1, r2, r3, r4, r5, r6, r7]) rfl ?_
  refine chkQ_end (w4 := w4) ?_ ?_ Hww4.out Hk4.out
  · intro x hx hx2
    repeat (with_reducible refine (Below.heap_setCell _ _ _ _ (by first | exact hx | exact hx2)).trans ?_)
    rfl
  · repeat (first | with_reducible exact Below.refl _ _ | with_reducible refine Below.setCell ?_ (by first | (simp; done) | (simp; omega)) _)
end Go.Proofs.YtlgpbllkhbgppaaGreatDoor
