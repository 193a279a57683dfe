/-
  Statements, functions and programs of which all parts say the same.
  Package tree's Same, of two programs that say the same.
  What was read is short enough to be printed.
-/
import Derived.Test.YtiadbeglhnocoaaGreatDoorJb36
import Derived.Test.YtiadbeglhnocoaaGreatDoorJb47
namespace Go.Proofs.YtiadbeglhnocoaaGreatDoor
set_option linter.unusedVariables false
set_option linter.unusedSimpArgs false
open Go.RowKit

set_option maxHeartbeats 2000000 in
theorem sameParam_eq (s : ByteArray) (t : Int) (w : World) : Calls Tryz.prog 27 #[.agg #[.string s, .int .i64 t], .agg #[.string s, .int .i64 t]] w fun e w' => e = .returned (.bool true) ∧ Below w.heap.size w w' := by
  have es : (s.toList == s.toList) = true := by simp
  have et : (t == t) = true := by simp
  go_enter Tryz.func27, Tryz.ntmps27
  go_wp2
  go_ret
  exact ⟨rfl, ((Below.refl _ _).alloc (Nat.le_refl _) _).alloc (by simp) _⟩

theorem two_blocks_s (w : World) (x y : Array Value) (T : TypeId) : ∃ W, W = (w.alloc (.cells x T)).alloc (.cells y T) ∧ Below w.heap.size w W ∧ w.heap.size + 1 < W.heap.size ∧ W.heap[w.heap.size]? = some (.cells x T (0, 0)) ∧ W.heap[w.heap.size + 1]? = some (.cells y T (0, 0)) := by
  refine ⟨_, rfl, ((Below.refl _ _).alloc (Nat.le_refl _) _).alloc (by simp) _, by simp, (Below.heap_alloc _ _ _ (by simp)).trans (heap_alloc_new w _), ?_⟩
  have h1 := heap_alloc_new (w.alloc (.cells x T)) (.cells y T)
  rw [show (w.alloc (.cells x T)).heap.size = w.heap.size + 1 by simp] at h1
  exact h1

theorem cells8f {w : World} {b : Nat} {v0 v1 v2 v3 v4 v5 v6 v7 : Value} {T : TypeId} {fr : Nat × Nat} (h : w.heap[b]? = some (.cells #[v0, v1, v2, v3, v4, v5, v6, v7] T fr)) : w.cell? ⟨b, 0, none⟩ = some v0 ∧ w.cell? ⟨b, 1, none⟩ = some v1 ∧ w.cell? ⟨b, 2, none⟩ = some v2 ∧ w.cell? ⟨b, 3, none⟩ = some v3 ∧ w.cell? ⟨b, 4, none⟩ = some v4 ∧ w.cell? ⟨b, 5, none⟩ = some v5 ∧ w.cell? ⟨b, 6, none⟩ = some v6 ∧ w.cell? ⟨b, 7, none⟩ = some v7 := by
  have hc := fun j => Lib.cell_of_heap h j
  exact ⟨hc 0, hc 1, hc 2, hc 3, hc 4, hc 5, hc 6, hc 7⟩

theorem cells6f {w : World} {b : Nat} {v0 v1 v2 v3 v4 v5 : Value} {T : TypeId} {fr : Nat × Nat} (h : w.heap[b]? = some (.cells #[v0, v1, v2, v3, v4, v5] T fr)) : w.cell? ⟨b, 0, none⟩ = some v0 ∧ w.cell? ⟨b, 1, none⟩ = some v1 ∧ w.cell? ⟨b, 2, none⟩ = some v2 ∧ w.cell? ⟨b, 3, none⟩ = some v3 ∧ w.cell? ⟨b, 4, none⟩ = some v4 ∧ w.cell? ⟨b, 5, none⟩ = some v5 := by
  have hc := fun j => Lib.cell_of_heap h j
  exact ⟨hc 0, hc 1, hc 2, hc 3, hc 4, hc 5⟩

/-- A call of sameList at expressions, in all worlds from w on, that answers b. -/
def KidsSay (w : World) (A A' : Option Addr) (m c m' c' : Nat) (b : Bool) : Prop := ∀ w2, Below w.heap.size w w2 → Calls Tryz.prog 50 #[.slice A m c, .slice A' m' c', .func (.func 51) #[] #[]] w2 fun e w' => e = .returned (.bool b) ∧ Below w2.heap.size w2 w'

def StmtsSay (w : World) (A A' : Option Addr) (m c m' c' : Nat) (b : Bool) : Prop := ∀ w2, Below w.heap.size w w2 → Calls Tryz.prog 28 #[.slice A m c, .slice A' m' c', .func (.func 29) #[] #[]] w2 fun e w' => e = .returned (.bool b) ∧ Below w2.heap.size w2 w'

def ParamsSay (w : World) (A A' : Option Addr) (m c m' c' : Nat) (b : Bool) : Prop := ∀ w2, Below w.heap.size w w2 → Calls Tryz.prog 26 #[.slice A m c, .slice A' m' c', .func (.func 27) #[] #[]] w2 fun e w' => e = .returned (.bool b) ∧ Below w2.heap.size w2 w'

set_option maxRecDepth 100000 in
set_option maxHeartbeats 8000000 in
theorem sameStmt_eq (k a n : Int) (s : ByteArray) (p : Int) (K : Option Addr) (m c : Nat) (B : Option Addr) (mb cb : Nat) (E : Option Addr) (me ce : Nat) (a' n' : Int) (K' : Option Addr) (m' c' : Nat) (B' : Option Addr) (mb' cb' : Nat) (E' : Option Addr) (me' ce' : Nat) (w : World)
    (HK : KidsSay w K K' m c m' c' true) (HB : StmtsSay w B B' mb cb mb' cb' true) (HE : StmtsSay w E E' me ce me' ce' true) :
    Calls Tryz.prog 29 #[.agg #[.int .i64 k, .int .i64 a, .int .i64 n, .string s, .int .i64 p, .slice K m c, .slice B mb cb, .slice E me ce], .agg #[.int .i64 k, .int .i64 a', .int .i64 n', .string s, .int .i64 p, .slice K' m' c', .slice B' mb' cb', .slice E' me' ce']] w fun e w' => e = .returned (.bool true) ∧ Below w.heap.size w w' := by
  have es : (s.toList == s.toList) = true := by simp
  have ek : (k == k) = true := by simp
  have ep : (p == p) = true := by simp
  have HK := Lib.hid HK
  have HB := Lib.hid HB
  have HE := Lib.hid HE
  obtain ⟨W, hW, hbW, hz, hA0, hB0⟩ := two_blocks_s w #[.int .i64 k, .int .i64 a, .int .i64 n, .string s, .int .i64 p, .slice K m c, .slice B mb cb, .slice E me ce] #[.int .i64 k, .int .i64 a', .int .i64 n', .string s, .int .i64 p, .slice K' m' c', .slice B' mb' cb', .slice E' me' ce'] 77
  have HWe := Lib.hid hW
  obtain ⟨a0, a1, a2, a3, a4, a5, a6, a7⟩ := cells8f hA0
  obtain ⟨b0, b1, b2, b3, b4, b5, b6, b7⟩ := cells8f hB0
  replace hA0 := Lib.hid hA0
  replace hB0 := Lib.hid hB0
  replace hbW := Lib.hid hbW
  clear hW
  go_enter Tryz.func29, Tryz.ntmps29
  go_upto_region 1 with fail
  rw [← HWe.out]
  go_wp2_with (go_at_call 50; refine (HK.out _ hbW.out).mono ?_)
  rintro e w1 ⟨rfl, hb1⟩
  have hA1 := (hb1.block w.heap.size (Nat.lt_of_succ_lt hz)).trans hA0.out
  have hB1 := (hb1.block (w.heap.size + 1) hz).trans hB0.out
  obtain ⟨p0, p1, p2, p3, p4, p5, p6, p7⟩ := cells8f hA1
  obtain ⟨q0, q1, q2, q3, q4, q5, q6, q7⟩ := cells8f hB1
  have hz1 := Nat.lt_of_lt_of_le hz hb1.size
  have hbA := Lib.hid (hbW.out.trans (hb1.mono hbW.out.size))
  replace hA1 := Lib.hid hA1
  replace hB1 := Lib.hid hB1
  clear hb1
  go_wp2_with (go_at_call 28; refine (HB.out _ hbA.out).mono ?_)
  rintro e w2 ⟨rfl, hb2⟩
  have hA2 := (hb2.block w.heap.size (Nat.lt_of_succ_lt hz1)).trans hA1.out
  have hB2 := (hb2.block (w.heap.size + 1) hz1).trans hB1.out
  obtain ⟨r0, r1, r2, r3, r4, r5, r6, r7⟩ := cells8f hA2
  obtain ⟨s0, s1, s2, s3, s4, s5, s6, s7⟩ := cells8f hB2
  have hbB := Lib.hid (hbA.out.trans (hb2.mono hbA.out.size))
  clear hb2 hA2 hB2
  go_wp2_with (go_at_call 28; refine (HE.out _ hbB.out).mono ?_)
  rintro e w3 ⟨rfl, hb3⟩
  have hbC := Lib.hid (hbB.out.trans (hb3.mono hbB.out.size))
  clear hb3
  go_wp2
  go_ret
  exact ⟨rfl, hbC.out⟩

set_option maxRecDepth 100000 in
set_option maxHeartbeats 8000000 in
theorem sameFn_body (s : ByteArray) (a a' : Int) (P : Option Addr) (m c : Nat) (P' : Option Addr) (m' c' : Nat) (r : Int) (B : Option Addr) (mb cb : Nat) (B' : Option Addr) (mb' cb' : Nat) (v v' : Int) (b : Bool) (w : World) (HP : ParamsSay w P P' m c m' c' true) (HB : StmtsSay w B B' mb cb mb' cb' b) :
    Calls Tryz.prog 14 #[.agg #[.string s, .int .i64 a, .slice P m c, .int .i64 r, .slice B mb cb, .int .i64 v], .agg #[.string s, .int .i64 a', .slice P' m' c', .int .i64 r, .slice B' mb' cb', .int .i64 v']] w fun e w' => e = .returned (.bool b) ∧ Below w.heap.size w w' := by
  have es : (s.toList == s.toList) = true := by simp
  have er : (r == r) = true := by simp
  have HP := Lib.hid HP
  have HB := Lib.hid HB
  obtain ⟨W, hW, hbW, hz, hA0, hB0⟩ := two_blocks_s w #[.string s, .int .i64 a, .slice P m c, .int .i64 r, .slice B mb cb, .int .i64 v] #[.string s, .int .i64 a', .slice P' m' c', .int .i64 r, .slice B' mb' cb', .int .i64 v'] 49
  have HWe := Lib.hid hW
  obtain ⟨a0, a1, a2, a3, a4, a5⟩ := cells6f hA0
  obtain ⟨b0, b1, b2, b3, b4, b5⟩ := cells6f hB0
  replace hA0 := Lib.hid hA0
  replace hB0 := Lib.hid hB0
  replace hbW := Lib.hid hbW
  clear hW
  go_enter Tryz.func14, Tryz.ntmps14
  go_upto_region 1 with fail
  rw [← HWe.out]
  go_wp2_with (go_at_call 26; refine (HP.out _ hbW.out).mono ?_)
  rintro e w1 ⟨rfl, hb1⟩
  have hA1 := (hb1.block w.heap.size (Nat.lt_of_succ_lt hz)).trans hA0.out
  have hB1 := (hb1.block (w.heap.size + 1) hz).trans hB0.out
  obtain ⟨p0, p1, p2, p3, p4, p5⟩ := cells6f hA1
  obtain ⟨q0, q1, q2, q3, q4, q5⟩ := cells6f hB1
  have hbA := Lib.hid (hbW.out.trans (hb1.mono hbW.out.size))
  clear hb1 hA1 hB1
  go_wp2_with (go_at_call 28; refine (HB.out _ hbA.out).mono ?_)
  rintro e w2 ⟨rfl, hb2⟩
  have hbB := Lib.hid (hbA.out.trans (hb2.mono hbA.out.size))
  clear hb2
  go_wp2
  go_ret
  exact ⟨rfl, hbB.out⟩

set_option maxHeartbeats 4000000 in
theorem same_any (A A' : Option Addr) (n m c c' : Nat) (b : Bool) (w : World) (H : ∀ w2, Below w.heap.size w w2 → Calls Tryz.prog 13 #[.slice A n c, .slice A' m c', .func (.func 14) #[] #[]] w2 fun e w' => e = .returned (.bool b) ∧ Below w2.heap.size w2 w') :
    Calls Tryz.prog 8 #[.agg #[.slice A n c], .agg #[.slice A' m c']] w fun e w' => e = .returned (.bool b) ∧ Below w.heap.size w w' := by
  have hbW := ((Below.refl w.heap.size w).alloc (Nat.le_refl _) (.cells #[.slice A n c] 24)).alloc (by simp) (.cells #[.slice A' m c'] 24)
  have HBW := Lib.hid hbW
  have HKs := H _ hbW
  clear H hbW
  go_enter Tryz.func8, Tryz.ntmps8
  go_wp2_with (go_at_call 13; refine HKs.mono ?_; rintro e w1 ⟨rfl, hb1⟩; have Hb1 := Lib.hid hb1; clear hb1)
  go_ret
  exact ⟨rfl, HBW.out.trans (Hb1.out.mono HBW.out.size)⟩
end Go.Proofs.YtiadbeglhnocoaaGreatDoor
namespace Go.Proofs.YtiadbeglhnocoaaGreatDoor
set_option linter.unusedVariables false
set_option linter.unusedSimpArgs false
open Go.RowKit

theorem ba_eq {a b : ByteArray} (h : a.data.toList = b.data.toList) : a = b := ByteArray.ext (Array.toList_inj.mp h)
def SayE (e e' : Ex) : Prop := ∀ (N : Nat) (c c' : Nat → Option Value) (w : World), N ≤ w.heap.size → RdE w (fun b => b < N) c e → RdE w (fun b => b < N) c' e' →
  ∃ (x0 x1 x2 x3 x4 : Int) (x5 : ByteArray) (x6 : Option Addr) (xm xc : Nat) (y0 y1 y2 y3 y4 : Int) (y5 : ByteArray) (y6 : Option Addr) (ym yc : Nat),
    (c 0 = some (.int .i64 x0) ∧ c 1 = some (.int .i64 x1) ∧ c 2 = some (.int .i64 x2) ∧ c 3 = some (.int .i64 x3) ∧ c 4 = some (.int .i64 x4) ∧ c 5 = some (.string x5) ∧ c 6 = some (.slice x6 xm xc)) ∧
    (c' 0 = some (.int .i64 y0) ∧ c' 1 = some (.int .i64 y1) ∧ c' 2 = some (.int .i64 y2) ∧ c' 3 = some (.int .i64 y3) ∧ c' 4 = some (.int .i64 y4) ∧ c' 5 = some (.string y5) ∧ c' 6 = some (.slice y6 ym yc)) ∧
    ∀ w2, Below N w w2 → N ≤ w2.heap.size → Calls Tryz.prog 51 #[.agg #[.int .i64 x0, .int .i64 x1, .int .i64 x2, .int .i64 x3, .int .i64 x4, .string x5, .slice x6 xm xc], .agg #[.int .i64 y0, .int .i64 y1, .int .i64 y2, .int .i64 y3, .int .i64 y4, .string y5, .slice y6 ym yc]] w2 fun e w' => e = .returned (.bool true) ∧ Below w2.heap.size w2 w'
def SayEs (l l' : List Ex) : Prop := ∀ (N : Nat) (A A' : Option Addr) (c c' : Nat) (w : World), N ≤ w.heap.size → RdEs w (fun b => b < N) A 0 l → RdEs w (fun b => b < N) A' 0 l' →
  Calls Tryz.prog 50 #[.slice A l.length c, .slice A' l'.length c', .func (.func 51) #[] #[]] w fun e w' => e = .returned (.bool true) ∧ Below w.heap.size w w'
theorem sayEs_of (l l' : List Ex) (hlen : l'.length = l.length) (hmax : l.length ≤ 1099511627776) (H : ∀ (i : Nat) e e', l[i]? = some e → l'[i]? = some e' → SayE e e') : SayEs l l' := by
  intro N A A' c c' w hN hR hR'
  rw [hlen]
  refine listAll_Expr N A A' l.length c c' (by omega) w hN (fun i hi => ?_)
  have e1 := List.getElem?_eq_getElem hi
  have e2 : l'[i]? = some (l'[i]'(by omega)) := List.getElem?_eq_getElem (by omega)
  obtain ⟨g, p, hA, hS, hE⟩ := RdEs.at_ hR e1
  obtain ⟨g', p', hA', hS', hE'⟩ := RdEs.at_ hR' e2
  obtain ⟨x0, x1, x2, x3, x4, x5, x6, xm, xc, y0, y1, y2, y3, y4, y5, y6, ym, yc, hx, hy, hc⟩ := H i _ _ e1 e2 N _ _ w hN hE hE'
  simp only [Nat.zero_add, Nat.add_zero] at hx hy
  exact ⟨g, p, g', p', x0, x1, x2, x3, x4, x5, x6, xm, xc, y0, y1, y2, y3, y4, y5, y6, ym, yc, hA, hA', hS, hS', hx, hy, hc⟩
theorem sameEs_at : ∀ (l l' : List Ex), sameEs l l' = true → l'.length = l.length ∧ ∀ (i : Nat) e e', l[i]? = some e → l'[i]? = some e' → sameE e e' = true
  | [], [], _ => ⟨rfl, fun i e e' h => by simp at h⟩
  | [], _ :: _, h => by simp [sameEs] at h
  | _ :: _, [], h => by simp [sameEs] at h
  | x :: r, y :: t, h => by
    unfold sameEs at h
    rw [Bool.and_eq_true] at h
    obtain ⟨h1, h2⟩ := sameEs_at r t h.2
    refine ⟨by simp [h1], fun i e e' a b => ?_⟩
    cases i with
    | zero => simp at a b; subst a; subst b; exact h.1
    | succ i => exact h2 i e e' (by simpa using a) (by simpa using b)
theorem sayE_of (k a t o n a' t' n' : Int) (s : ByteArray) (l l' : List Ex) (hn : saidN k n = saidN k n') (ih : SayEs l l') : SayE (.mk k a t o n s l) (.mk k a' t' o n' s l') := by
  intro N c c' w hN h h'
  unfold RdE at h h'
  obtain ⟨h0, h1, h2, h3, h4, h5, A, cap, h6, hr⟩ := h
  obtain ⟨g0, g1, g2, g3, g4, g5, A', cap', g6, hr'⟩ := h'
  refine ⟨k, a, t, o, n, s, A, l.length, _, k, a', t', o, n', s, A', l'.length, _, ⟨h0, h1, h2, h3, h4, h5, h6⟩, ⟨g0, g1, g2, g3, g4, g5, g6⟩, fun w2 hb hN2 => ?_⟩
  exact sameExpr_eq k a t o n s A l.length _ a' t' n' A' l'.length _ hn w2 (fun w3 hb3 => by
    have hb4 := hb.trans (hb3.mono hN2)
    exact ih N A A' _ _ w3 (Nat.le_trans hN2 hb3.size) (RdEs.keep (fun p hp => hb4.cell hp) _ _ _ hr) (RdEs.keep (fun p hp => hb4.cell hp) _ _ _ hr'))
mutual
theorem sayE_all : ∀ e e' : Ex, sameE e e' = true → smallE e → SayE e e'
  | .mk k a t o n s l, .mk k' a' t' o' n' s' l', h, hs => by
    unfold sameE at h
    simp only [Bool.and_eq_true, beq_iff_eq, Bool.or_eq_true, Bool.not_eq_true', decide_eq_false_iff_not, bytesB] at h
    obtain ⟨⟨⟨⟨h1, h2⟩, h3⟩, h4⟩, h5⟩ := h
    unfold smallE at hs
    have ih := sayEs_all l l' h5 hs.2
    have h6 := ba_eq h3
    subst h1
    subst h2
    subst h6
    have hn : saidN k n = saidN k n' := by
      unfold saidN
      split
      · rename_i hc
        rcases h4 with h4 | h4
        · exact absurd hc h4
        · exact h4
      · rfl
    exact sayE_of k a t o n a' t' n' s l l' hn (sayEs_of l l' (sameEs_at l l' h5).1 hs.1 ih)
theorem sayEs_all : ∀ l l' : List Ex, sameEs l l' = true → smallEs l → ∀ (i : Nat) e e', l[i]? = some e → l'[i]? = some e' → SayE e e'
  | [], [], _, _ => fun i e e' h => by simp at h
  | [], _ :: _, h, _ => by simp [sameEs] at h
  | _ :: _, [], h, _ => by simp [sameEs] at h
  | x :: r, y :: t, h, hs => by
    unfold sameEs at h
    rw [Bool.and_eq_true] at h
    unfold smallEs at hs
    intro i e e' a b
    have q1 := sayE_all x y h.1 hs.1
    have q2 := sayEs_all r t h.2 hs.2
    cases i with
    | zero => simp at a b; rw [← a, ← b]; exact q1
    | succ i => exact q2 i e e' (by simpa using a) (by simpa using b)
end
theorem sayEs_list (l l' : List Ex) (h : sameEs l l' = true) (hs : smallEs l) (hl : l.length ≤ 1099511627776) : SayEs l l' := sayEs_of l l' (sameEs_at l l' h).1 hl (sayEs_all l l' h hs)
/-! Statements. -/
def SayS (e e' : St) : Prop := ∀ (N : Nat) (c c' : Nat → Option Value) (w : World), N ≤ w.heap.size → RdS w (fun b => b < N) c e → RdS w (fun b => b < N) c' e' →
  ∃ (x0 x1 x2 : Int) (x3 : ByteArray) (x4 : Int) (x5 : Option Addr) (m5 c5 : Nat) (x6 : Option Addr) (m6 c6 : Nat) (x7 : Option Addr) (m7 c7 : Nat) (y0 y1 y2 : Int) (y3 : ByteArray) (y4 : Int) (y5 : Option Addr) (n5 d5 : Nat) (y6 : Option Addr) (n6 d6 : Nat) (y7 : Option Addr) (n7 d7 : Nat),
    (c 0 = some (.int .i64 x0) ∧ c 1 = some (.int .i64 x1) ∧ c 2 = some (.int .i64 x2) ∧ c 3 = some (.string x3) ∧ c 4 = some (.int .i64 x4) ∧ c 5 = some (.slice x5 m5 c5) ∧ c 6 = some (.slice x6 m6 c6) ∧ c 7 = some (.slice x7 m7 c7)) ∧
    (c' 0 = some (.int .i64 y0) ∧ c' 1 = some (.int .i64 y1) ∧ c' 2 = some (.int .i64 y2) ∧ c' 3 = some (.string y3) ∧ c' 4 = some (.int .i64 y4) ∧ c' 5 = some (.slice y5 n5 d5) ∧ c' 6 = some (.slice y6 n6 d6) ∧ c' 7 = some (.slice y7 n7 d7)) ∧
    ∀ w2, Below N w w2 → N ≤ w2.heap.size → Calls Tryz.prog 29 #[.agg #[.int .i64 x0, .int .i64 x1, .int .i64 x2, .string x3, .int .i64 x4, .slice x5 m5 c5, .slice x6 m6 c6, .slice x7 m7 c7], .agg #[.int .i64 y0, .int .i64 y1, .int .i64 y2, .string y3, .int .i64 y4, .slice y5 n5 d5, .slice y6 n6 d6, .slice y7 n7 d7]] w2 fun e w' => e = .returned (.bool true) ∧ Below w2.heap.size w2 w'
def SaySs (l l' : List St) : Prop := ∀ (N : Nat) (A A' : Option Addr) (c c' : Nat) (w : World), N ≤ w.heap.size → RdSs w (fun b => b < N) A 0 l → RdSs w (fun b => b < N) A' 0 l' →
  Calls Tryz.prog 28 #[.slice A l.length c, .slice A' l'.length c', .func (.func 29) #[] #[]] w fun e w' => e = .returned (.bool true) ∧ Below w.heap.size w w'
theorem saySs_of (l l' : List St) (hlen : l'.length = l.length) (hmax : l.length ≤ 1099511627776) (H : ∀ (i : Nat) e e', l[i]? = some e → l'[i]? = some e' → SayS e e') : SaySs l l' := by
  intro N A A' c c' w hN hR hR'
  rw [hlen]
  refine listAll_Stmt N A A' l.length c c' (by omega) w hN (fun i hi => ?_)
  have e1 := List.getElem?_eq_getElem hi
  have e2 : l'[i]? = some (l'[i]'(by omega)) := List.getElem?_eq_getElem (by omega)
  obtain ⟨g, p, hA, hS, hE⟩ := RdSs.at_ hR e1
  obtain ⟨g', p', hA', hS', hE'⟩ := RdSs.at_ hR' e2
  obtain ⟨x0, x1, x2, x3, x4, x5, m5, c5, x6, m6, c6, x7, m7, c7, y0, y1, y2, y3, y4, y5, n5, d5, y6, n6, d6, y7, n7, d7, hx, hy, hc⟩ := H i _ _ e1 e2 N _ _ w hN hE hE'
  simp only [Nat.zero_add, Nat.add_zero] at hx hy
  exact ⟨g, p, g', p', x0, x1, x2, x3, x4, x5, m5, c5, x6, m6, c6, x7, m7, c7, y0, y1, y2, y3, y4, y5, n5, d5, y6, n6, d6, y7, n7, d7, hA, hA', hS, hS', hx, hy, hc⟩
theorem sameSs_at : ∀ (l l' : List St), sameSs l l' = true → l'.length = l.length
  | [], [], _ => rfl
  | [], _ :: _, h => by simp [sameSs] at h
  | _ :: _, [], h => by simp [sameSs] at h
  | x :: r, y :: t, h => by
    unfold sameSs at h
    rw [Bool.and_eq_true] at h
    simp [sameSs_at r t h.2]
theorem sayS_of (k a n : Int) (s : ByteArray) (p : Int) (l l' : List Ex) (b b' e e' : List St) (a' n' : Int) (hl : SayEs l l') (hb : SaySs b b') (he : SaySs e e') : SayS (.mk k a n s p l b e) (.mk k a' n' s p l' b' e') := by
  intro N c c' w hN h h'
  unfold RdS at h h'
  obtain ⟨h0, h1, h2, h3, h4, ⟨A1, c1, h5, r1⟩, ⟨A2, c2, h6, r2⟩, A3, c3, h7, r3⟩ := h
  obtain ⟨g0, g1, g2, g3, g4, ⟨B1, d1, g5, q1⟩, ⟨B2, d2, g6, q2⟩, B3, d3, g7, q3⟩ := h'
  refine ⟨k, a, n, s, p, A1, _, c1, A2, _, c2, A3, _, c3, k, a', n', s, p, B1, _, d1, B2, _, d2, B3, _, d3, ⟨h0, h1, h2, h3, h4, h5, h6, h7⟩, ⟨g0, g1, g2, g3, g4, g5, g6, g7⟩, fun w2 hbl hN2 => ?_⟩
  refine sameStmt_eq k a n s p A1 _ c1 A2 _ c2 A3 _ c3 a' n' B1 _ d1 B2 _ d2 B3 _ d3 w2 (fun w3 hb3 => ?_) (fun w3 hb3 => ?_) (fun w3 hb3 => ?_)
  all_goals have hb4 := hbl.trans (hb3.mono hN2)
  · exact hl N A1 B1 _ _ w3 (Nat.le_trans hN2 hb3.size) (RdEs.keep (fun p hp => hb4.cell hp) _ _ _ r1) (RdEs.keep (fun p hp => hb4.cell hp) _ _ _ q1)
  · exact hb N A2 B2 _ _ w3 (Nat.le_trans hN2 hb3.size) (RdSs.keep (fun p hp => hb4.cell hp) _ _ _ r2) (RdSs.keep (fun p hp => hb4.cell hp) _ _ _ q2)
  · exact he N A3 B3 _ _ w3 (Nat.le_trans hN2 hb3.size) (RdSs.keep (fun p hp => hb4.cell hp) _ _ _ r3) (RdSs.keep (fun p hp => hb4.cell hp) _ _ _ q3)
mutual
theorem sayS_all : ∀ e e' : St, sameS e e' = true → goodS e → SayS e e'
  | .mk k a n s p l b e, .mk k' a' n' s' p' l' b' e', h, hs => by
    unfold sameS at h
    simp only [Bool.and_eq_true, beq_iff_eq, bytesB] at h
    obtain ⟨⟨⟨⟨⟨h1, h2⟩, h3⟩, h4⟩, h5⟩, h6⟩ := h
    unfold goodS at hs
    obtain ⟨-, hk, hbl, hel, hgb, hge⟩ := hs
    unfold goodK at hk
    have i1 := saySs_all b b' h5 hgb
    have i2 := saySs_all e e' h6 hge
    have h7 := ba_eq h2
    subst h1
    subst h3
    subst h7
    exact sayS_of k a n s p l l' b b' e e' a' n' (sayEs_list l l' h4 hk.1 hk.2.1) (saySs_of b b' (sameSs_at b b' h5) hbl i1) (saySs_of e e' (sameSs_at e e' h6) hel i2)
theorem saySs_all : ∀ l l' : List St, sameSs l l' = true → goodSs l → ∀ (i : Nat) e e', l[i]? = some e → l'[i]? = some e' → SayS e e'
  | [], [], _, _ => fun i e e' h => by simp at h
  | [], _ :: _, h, _ => by simp [sameSs] at h
  | _ :: _, [], h, _ => by simp [sameSs] at h
  | x :: r, y :: t, h, hs => by
    unfold sameSs at h
    rw [Bool.and_eq_true] at h
    unfold goodSs at hs
    intro i e e' a b
    have q1 := sayS_all x y h.1 hs.1
    have q2 := saySs_all r t h.2 hs.2
    cases i with
    | zero => simp at a b; rw [← a, ← b]; exact q1
    | succ i => exact q2 i e e' (by simpa using a) (by simpa using b)
end
/-! Functions. -/
theorem allB_at {α : Type} (f : α → α → Bool) : ∀ (l l' : List α), allB f l l' = true → l'.length = l.length ∧ ∀ (i : Nat) e e', l[i]? = some e → l'[i]? = some e' → f e e' = true
  | [], [], _ => ⟨rfl, fun i e e' h => by simp at h⟩
  | [], _ :: _, h => by simp [allB] at h
  | _ :: _, [], h => by simp [allB] at h
  | x :: r, y :: t, h => by
    simp only [allB, Bool.and_eq_true] at h
    obtain ⟨h1, h2⟩ := allB_at f r t h.2
    refine ⟨by simp [h1], fun i e e' a b => ?_⟩
    cases i with
    | zero => simp at a b; subst a; subst b; exact h.1
    | succ i => exact h2 i e e' (by simpa using a) (by simpa using b)
theorem sayPs (l l' : List Pa) (h : allB sameP l l' = true) (hmax : l.length ≤ 1099511627776) (N : Nat) (A A' : Option Addr) (c c' : Nat) (w : World) (hN : N ≤ w.heap.size) (hR : RdAs w (fun b => b < N) A l) (hR' : RdAs w (fun b => b < N) A' l') :
    Calls Tryz.prog 26 #[.slice A l.length c, .slice A' l'.length c', .func (.func 27) #[] #[]] w fun e w' => e = .returned (.bool true) ∧ Below w.heap.size w w' := by
  obtain ⟨hlen, hat⟩ := allB_at sameP l l' h
  rw [hlen]
  refine listAll_Param N A A' l.length c c' (by omega) w hN (fun i hi => ?_)
  have e1 := List.getElem?_eq_getElem hi
  have e2 : l'[i]? = some (l'[i]'(by omega)) := List.getElem?_eq_getElem (by omega)
  obtain ⟨g, p, hA, hS, hE⟩ := hR (by omega)
  obtain ⟨g', p', hA', hS', hE'⟩ := hR' (by omega)
  obtain ⟨x0, x1⟩ := hE i _ e1
  obtain ⟨y0, y1⟩ := hE' i _ e2
  have hs := hat i _ _ e1 e2
  simp only [sameP, bytesB, Bool.and_eq_true, beq_iff_eq] at hs
  have hn := ba_eq hs.1
  rw [← hn] at y0
  rw [← hs.2] at y1
  exact ⟨g, p, g', p', _, _, _, _, hA, hA', hS, hS', ⟨x0, x1⟩, ⟨y0, y1⟩, fun w2 _ _ => sameParam_eq _ _ w2⟩
set_option maxRecDepth 100000 in
theorem same_true (l l' : List Fu) (h : allB sameF l l' = true) (hg : ∀ f ∈ l, goodF f) (hmax : l.length ≤ 1099511627776) (A A' : Option Addr) (c c' : Nat) (w : World) (hR : RdFs w (fun b => b < w.heap.size) A l) (hR' : RdFs w (fun b => b < w.heap.size) A' l') :
    Calls Tryz.prog 8 #[.agg #[.slice A l.length c], .agg #[.slice A' l'.length c']] w fun e w' => e = .returned (.bool true) ∧ Below w.heap.size w w' := by
  obtain ⟨hlen, hat⟩ := allB_at sameF l l' h
  obtain ⟨N, hN⟩ : ∃ N, N = w.heap.size := ⟨_, rfl⟩
  rw [← hN] at hR hR'
  refine same_any A A' l.length l'.length c c' true w (fun w2 hb2 => ?_)
  rw [hlen]
  rw [← hN] at hb2
  have hN2 : N ≤ w2.heap.size := by rw [hN]; have := hb2.size; exact this
  refine listAll_Fn N A A' l.length c c' (by omega) w2 hN2 (fun i hi => ?_)
  have e1 := List.getElem?_eq_getElem hi
  have e2 : l'[i]? = some (l'[i]'(by omega)) := List.getElem?_eq_getElem (by omega)
  obtain ⟨g, p, hA, hS, hE⟩ := hR (by omega)
  obtain ⟨g', p', hA', hS', hE'⟩ := hR' (by omega)
  have hs := hat i _ _ e1 e2
  have hgf := hg _ (List.getElem_mem hi)
  obtain ⟨x0, x1, ⟨P, pc, x2, rp⟩, x3, ⟨B, bc, x4, rb⟩, x5⟩ := hE i _ e1
  obtain ⟨y0, y1, ⟨P', pc', y2, rp'⟩, y3, ⟨B', bc', y4, rb'⟩, y5⟩ := hE' i _ e2
  simp only [Nat.add_zero] at x0 y0
  simp only [sameF, bytesB, Bool.and_eq_true, beq_iff_eq] at hs
  obtain ⟨⟨⟨h1, h2⟩, h3⟩, h4⟩ := hs
  have hn := ba_eq h1
  rw [← hn] at y0
  rw [← h2] at y3
  have up : ∀ b j u, b < N → w.cell? ⟨b, j, none⟩ = some u → w2.cell? ⟨b, j, none⟩ = some u := fun b j u hb e => (hb2.cell (p := ⟨b, j, none⟩) hb).trans e
  refine ⟨g, p, g', p', _, _, P, _, pc, _, B, _, bc, _, _, _, P', _, pc', _, B', _, bc', _, hA, hA', hS, hS', ⟨up _ _ _ hS x0, up _ _ _ hS x1, up _ _ _ hS x2, up _ _ _ hS x3, up _ _ _ hS x4, up _ _ _ hS x5⟩, ⟨up _ _ _ hS' y0, up _ _ _ hS' y1, up _ _ _ hS' y2, up _ _ _ hS' y3, up _ _ _ hS' y4, up _ _ _ hS' y5⟩, fun w3 hb3 hN3 => ?_⟩
  have hb23 : Below N w w3 := hb2.trans hb3
  refine sameFn_body _ _ _ P _ pc P' _ pc' _ B _ bc B' _ bc' _ _ true w3 (fun w4 hb4 => ?_) (fun w4 hb4 => ?_)
  all_goals have hb24 := hb23.trans (hb4.mono hN3)
  · exact sayPs _ _ h3 hgf.2.2 N P P' pc pc' w4 (Nat.le_trans hN3 hb4.size) (RdAs.keep (fun p hp => hb24.cell hp) rp) (RdAs.keep (fun p hp => hb24.cell hp) rp')
  · exact saySs_of _ _ (sameSs_at _ _ h4) hgf.2.1 (saySs_all _ _ h4 hgf.1) N B B' bc bc' w4 (Nat.le_trans hN3 hb4.size) (RdSs.keep (fun p hp => hb24.cell hp) _ _ _ rb) (RdSs.keep (fun p hp => hb24.cell hp) _ _ _ rb')
end Go.Proofs.YtiadbeglhnocoaaGreatDoor
namespace Go.Proofs.YtiadbeglhnocoaaGreatDoor
set_option linter.unusedVariables false
set_option linter.unusedSimpArgs false
open Go.RowKit

theorem jn_mem2 : ∀ (l : List (List UInt8)) (x : List UInt8), x ∈ l → x.length ≤ (jn l).length
  | [y], x, h => by rw [List.mem_singleton] at h; subst h; exact Nat.le_refl _
  | y :: z :: r, x, h => by
    have ih := jn_mem2 (z :: r) x
    simp only [jn, List.length_append, List.length_cons, List.length_nil]
    rcases List.mem_cons.mp h with rfl | h
    · omega
    · have := ih h; omega
theorem jn_cnt2 : ∀ (l : List (List UInt8)), (∀ x ∈ l, 1 ≤ x.length) → l.length ≤ (jn l).length
  | [], _ => Nat.le_refl _
  | [y], h => h y (by simp)
  | y :: z :: r, h => by
    have ih := jn_cnt2 (z :: r) (fun x hx => h x (by simp [List.mem_cons.mp hx]))
    have hy := h y (by simp)
    simp only [jn, List.length_append, List.length_cons, List.length_nil] at ih ⊢
    omega
theorem prE_pos (e : Ex) (h : WFE e) : 1 ≤ (prE e).length := by
  obtain ⟨c, t, e, _⟩ := (lx_all e h).1
  rw [e]; simp
theorem prEs_mem {l : List Ex} {x : Ex} (h : x ∈ l) : prE x ∈ prEs l := by rw [prEs_map]; exact List.mem_map_of_mem h
theorem prEs_pos {l : List Ex} (h : ∀ e ∈ l, WFE e) : ∀ x ∈ prEs l, 1 ≤ x.length := by
  intro x hx
  rw [prEs_map] at hx
  obtain ⟨e, he, rfl⟩ := List.mem_map.mp hx
  exact prE_pos e (h e he)
theorem prEs_cnt (l : List Ex) : (prEs l).length = l.length := by rw [prEs_map]; simp
/-- Kids are no longer than the whole. -/
theorem kid_len (k a t o n : Int) (s : ByteArray) (kids : List Ex) (hsh : shK k o n s kids.length) (hk : WFEs kids) : kids.length ≤ (prE (.mk k a t o n s kids)).length + 3 ∧ ∀ x ∈ kids, (prE x).length ≤ (prE (.mk k a t o n s kids)).length := by
  have hw := WFEs_mem.mp hk
  unfold shK at hsh
  rcases hsh with ⟨rfl, rfl, rfl, hm, hi⟩ | ⟨rfl, rfl, rfl, hm, hn⟩ | ⟨rfl, rfl, rfl, hm, hn⟩ | ⟨rfl, ho, rfl, rfl, hm⟩ | ⟨rfl, ho, rfl, rfl, hm⟩ | ⟨hk67, rfl, rfl, rfl, hm⟩ | ⟨rfl, rfl, rfl, hn⟩ | ⟨rfl, rfl, rfl, rfl, hm⟩ | ⟨rfl, rfl, rfl, rfl, hm⟩ | ⟨hk13, rfl, rfl, rfl, hm⟩ | ⟨rfl, rfl, rfl, rfl, hm⟩
  · obtain rfl := List.length_eq_zero_iff.mp hm
    exact ⟨by simp, fun x hx => absurd hx (List.not_mem_nil)⟩
  · obtain rfl := List.length_eq_zero_iff.mp hm
    exact ⟨by simp, fun x hx => absurd hx (List.not_mem_nil)⟩
  · obtain rfl := List.length_eq_zero_iff.mp hm
    exact ⟨by simp, fun x hx => absurd hx (List.not_mem_nil)⟩
  · obtain ⟨y, rfl⟩ := List.length_eq_one_iff.mp hm
    refine ⟨by simp, fun x hx => ?_⟩
    rw [List.mem_singleton] at hx
    subst hx
    simp [prE, prEs, prK, lsP, jn]
    omega
  · obtain ⟨y, z, rfl⟩ := len_two hm
    refine ⟨by simp, fun x hx => ?_⟩
    simp only [List.mem_cons, List.not_mem_nil, or_false] at hx
    rcases hx with rfl | rfl <;> simp [prE, prEs, prK, pairP, lsP, jn] <;> omega
  · obtain ⟨y, z, rfl⟩ := len_two hm
    refine ⟨by simp, fun x hx => ?_⟩
    simp only [List.mem_cons, List.not_mem_nil, or_false] at hx
    rcases hk67 with rfl | rfl <;> rcases hx with rfl | rfl <;> simp [prE, prEs, prK, pairP, lsP, jn] <;> omega
  · have h1 := jn_cnt2 (prEs kids) (prEs_pos hw)
    rw [prEs_cnt] at h1
    have e : (prE (.mk 8 a t 0 0 s kids)).length = s.data.toList.length + 1 + (jn (prEs kids)).length + 1 := by simp [prE, prK, lsP]; omega
    refine ⟨by omega, fun x hx => ?_⟩
    have := jn_mem2 (prEs kids) (prE x) (prEs_mem hx)
    omega
  · cases kids with
    | nil => simp at hm
    | cons y rest =>
      have e : (prE (.mk 9 a t 0 0 ⟨#[]⟩ (y :: rest))).length = (prE y).length + 1 + (jn (prEs rest)).length + 1 := by simp [prE, prEs, prK, lsP, jn]; omega
      refine ⟨by simp only [List.length_cons] at hm ⊢; omega, fun x hx => ?_⟩
      rcases List.mem_cons.mp hx with rfl | hx
      · omega
      · have := jn_mem2 (prEs rest) (prE x) (prEs_mem hx)
        omega
  · have e : (prE (.mk 10 a t 0 0 ⟨#[]⟩ kids)).length = 5 + (jn (prEs kids)).length + 1 := by simp [prE, prK, lsP]; omega
    refine ⟨by omega, fun x hx => ?_⟩
    have := jn_mem2 (prEs kids) (prE x) (prEs_mem hx)
    omega
  · obtain ⟨y, rfl⟩ := List.length_eq_one_iff.mp hm
    refine ⟨by simp, fun x hx => ?_⟩
    rw [List.mem_singleton] at hx
    subst hx
    rcases hk13 with rfl | rfl | rfl <;> simp [prE, prEs, prK, lsP, jn] <;> omega
  · obtain rfl := List.length_eq_zero_iff.mp hm
    exact ⟨by simp, fun x hx => absurd hx (List.not_mem_nil)⟩
mutual
theorem small_E : ∀ e : Ex, WFE e → (prE e).length ≤ 1000000 → smallE e
  | .mk k a t o n s kids, h, hl => by
    unfold WFE at h
    obtain ⟨h1, h2⟩ := kid_len k a t o n s kids h.1 h.2
    unfold smallE
    exact ⟨by omega, small_Es kids h.2 (fun x hx => Nat.le_trans (h2 x hx) hl)⟩
theorem small_Es : ∀ l : List Ex, WFEs l → (∀ x ∈ l, (prE x).length ≤ 1000000) → smallEs l
  | [], _, _ => by unfold smallEs; trivial
  | x :: r, h, hl => by
    unfold WFEs at h
    unfold smallEs
    exact ⟨small_E x h.1 (hl x (by simp)), small_Es r h.2 (fun y hy => hl y (by simp [hy]))⟩
end
theorem goodK_of (kids : List Ex) (h : WFEs kids) (hc : kids.length ≤ 2) (hl : ∀ x ∈ kids, (prE x).length ≤ 1000000) : goodK kids := by
  have hw := WFEs_mem.mp h
  have hkp : ∀ i, (kidP kids i).length ≤ 1000000 := fun i => by
    unfold kidP
    cases e : kids[i]? with
    | none => simp
    | some x => exact hl x (List.mem_of_getElem? e)
  have h0 := hkp 0
  have h1 := hkp 1
  exact ⟨small_Es kids h hl, by omega, fun e he => by have := prE_pos e (hw e he); intro e2; rw [e2] at this; simp at this, by omega, by omega⟩
/-- A statement's parts are no longer than the whole. -/
theorem st_len (D : Int) (d : Nat) (k a n : Int) (s : ByteArray) (p : Int) (kids : List Ex) (body els : List St) (h : WFS D (.mk k a n s p kids body els)) : kids.length ≤ 2 ∧ (1 ≤ k ∧ k ≤ 11) ∧ (∀ x ∈ kids, (prE x).length ≤ (prS d (.mk k a n s p kids body els)).length) ∧ (prSs (d + 1) body).length ≤ (prS d (.mk k a n s p kids body els)).length ∧ (prSs (d + 1) els).length ≤ (prS d (.mk k a n s p kids body els)).length ∧ 1 ≤ (prS d (.mk k a n s p kids body els)).length := by
  unfold WFS at h
  obtain ⟨-, rfl, hsh, hk, -, -, -⟩ := h
  unfold shS at hsh
  rcases hsh with ⟨rfl, hn, rfl, hm, rfl, rfl⟩ | ⟨rfl, hn, rfl, hm, rfl, rfl⟩ | ⟨rfl, rfl, rfl, rfl, rfl, q, y, rfl, _, _⟩ | ⟨rfl, rfl, rfl, hm⟩ | ⟨rfl, rfl, rfl, hm, rfl⟩ | ⟨rfl, hn, hp, hp0, hm, rfl⟩ | ⟨hk78, rfl, rfl, rfl, rfl, rfl⟩ | ⟨rfl, rfl, rfl, hm, rfl, rfl⟩ | ⟨rfl, rfl, rfl, hm, rfl, rfl⟩ | ⟨rfl, rfl, rfl, rfl, rfl, q, rfl, _, _⟩
  · obtain ⟨y, rfl⟩ := List.length_eq_one_iff.mp hm
    refine ⟨by simp, by decide, fun x hx => ?_, by simp [prSs], by simp [prSs], by simp [prS, lnP] <;> omega⟩
    rw [List.mem_singleton] at hx; subst hx
    simp [prS, kid0, lnP]; omega
  · obtain ⟨y, rfl⟩ := List.length_eq_one_iff.mp hm
    refine ⟨by simp, by decide, fun x hx => ?_, by simp [prSs], by simp [prSs], by simp [prS, lnP] <;> omega⟩
    rw [List.mem_singleton] at hx; subst hx
    simp [prS, kid0, lnP]; omega
  · refine ⟨by simp, by decide, fun x hx => ?_, by simp [prSs], by simp [prSs], by simp [prS, lnP] <;> omega⟩
    simp only [List.mem_cons, List.not_mem_nil, or_false] at hx
    rcases hx with rfl | rfl <;> simp [prS, kid0, kid1, lnP] <;> omega
  · obtain ⟨y, rfl⟩ := List.length_eq_one_iff.mp hm
    have hel : (prSs (d + 1) els).length ≤ (if els.isEmpty = true then ([] : List UInt8) else lnP d [[125, 32, 101, 108, 115, 101, 32, 123]] ++ prSs (d + 1) els).length := by
      split
      · rename_i he
        rw [List.isEmpty_iff.mp he]
        simp [prSs]
      · simp
    have e : (prS d (.mk 4 a 0 ⟨#[]⟩ 0 [y] body els)).length = (lnP d [[105, 102, 32], prE y, [32, 123]]).length + (prSs (d + 1) body).length + (if els.isEmpty = true then ([] : List UInt8) else lnP d [[125, 32, 101, 108, 115, 101, 32, 123]] ++ prSs (d + 1) els).length + (lnP d [[125]]).length := by
      simp only [prS, kid0]
      simp only [show ¬ ((4 : Int) = 1) by decide, show ¬ ((4 : Int) = 2) by decide, show ¬ ((4 : Int) = 3) by decide, if_true, if_false, List.length_append]
    have e2 : (prE y).length ≤ (lnP d [[105, 102, 32], prE y, [32, 123]]).length := by simp [lnP]; omega
    have e3 : 1 ≤ (lnP d [[125]]).length := by simp [lnP]
    refine ⟨by simp, by decide, fun x hx => ?_, by omega, by omega, by omega⟩
    rw [List.mem_singleton] at hx; subst hx
    omega
  · obtain ⟨y, rfl⟩ := List.length_eq_one_iff.mp hm
    refine ⟨by simp, by decide, fun x hx => ?_, by simp [prS, lnP]; omega, by simp [prSs], by simp [prS, lnP]; omega⟩
    rw [List.mem_singleton] at hx; subst hx
    simp [prS, kid0, lnP]; omega
  · obtain ⟨y, z, rfl⟩ := len_two hm
    refine ⟨by simp, by decide, fun x hx => ?_, by simp [prS, lnP]; omega, by simp [prSs], by simp [prS, lnP]; omega⟩
    simp only [List.mem_cons, List.not_mem_nil, or_false] at hx
    rcases hx with rfl | rfl <;> simp [prS, kid0, kid1, lnP] <;> omega
  · rcases hk78 with rfl | rfl <;> exact ⟨by simp, by decide, fun x hx => absurd hx (List.not_mem_nil), by simp [prSs], by simp [prSs], by simp [prS, lnP] <;> omega⟩
  · rcases hm with rfl | hm
    · exact ⟨by simp, by decide, fun x hx => absurd hx (List.not_mem_nil), by simp [prSs], by simp [prSs], by simp [prS, lnP] <;> omega⟩
    · obtain ⟨y, rfl⟩ := List.length_eq_one_iff.mp hm
      refine ⟨by simp, by decide, fun x hx => ?_, by simp [prSs], by simp [prSs], by simp [prS, lnP] <;> omega⟩
      rw [List.mem_singleton] at hx; subst hx
      simp [prS, kid0, lnP]; omega
  · obtain ⟨y, rfl⟩ := List.length_eq_one_iff.mp hm
    refine ⟨by simp, by decide, fun x hx => ?_, by simp [prSs], by simp [prSs], by simp [prS, lnP] <;> omega⟩
    rw [List.mem_singleton] at hx; subst hx
    simp [prS, kid0, lnP]; omega
  · refine ⟨by simp, by decide, fun x hx => ?_, by simp [prSs], by simp [prSs], by simp [prS, lnP] <;> omega⟩
    rw [List.mem_singleton] at hx; subst hx
    simp [prS, kid0, lnP]; omega
theorem sts_cnt (D : Int) (d : Nat) : ∀ l : List St, WFSs D l → l.length ≤ (prSs d l).length
  | [], _ => Nat.zero_le _
  | .mk k a n s p kids body els :: r, h => by
    unfold WFSs at h
    have h1 := (st_len D d k a n s p kids body els h.1).2.2.2.2.2
    have h2 := sts_cnt D d r h.2
    simp only [prSs, List.length_append, List.length_cons]
    omega
mutual
theorem good_S (D : Int) (d : Nat) : ∀ x : St, WFS D x → (prS d x).length ≤ 1000000 → goodS x
  | .mk k a n s p kids body els, h, hl => by
    obtain ⟨h1, h2, h3, h4, h5, h6⟩ := st_len D d k a n s p kids body els h
    unfold WFS at h
    obtain ⟨-, -, -, hk, -, hb, he⟩ := h
    have c1 := sts_cnt (D + 1) (d + 1) body hb
    have c2 := sts_cnt (D + 1) (d + 1) els he
    unfold goodS
    exact ⟨h2, goodK_of kids hk h1 (fun x hx => Nat.le_trans (h3 x hx) hl), by omega, by omega, good_Ss (D + 1) (d + 1) body hb (by omega), good_Ss (D + 1) (d + 1) els he (by omega)⟩
theorem good_Ss (D : Int) (d : Nat) : ∀ l : List St, WFSs D l → (prSs d l).length ≤ 1000000 → goodSs l
  | [], _, _ => by unfold goodSs; trivial
  | x :: r, h, hl => by
    unfold WFSs at h
    simp only [prSs, List.length_append] at hl
    unfold goodSs
    exact ⟨good_S D d x h.1 (by omega), good_Ss D d r h.2 (by omega)⟩
end
theorem good_T : ∀ l : List Fu, (∀ f ∈ l, WFF f) → (prT l).length ≤ 1000000 → ∀ f ∈ l, goodF f
  | [], _, _ => fun x hx => absurd hx (List.not_mem_nil)
  | f :: r, h, hl => by
    simp only [prT, List.length_append] at hl
    have hf := h f (by simp)
    have hb : (prSs 1 f.body).length ≤ (prF f).length := by simp [prF, lnP]; omega
    have hg : goodF f := ⟨good_Ss 1 1 f.body hf.body (by omega), by have := sts_cnt 1 1 f.body hf.body; omega, by have := hf.few; omega⟩
    intro x hx
    rcases List.mem_cons.mp hx with rfl | hx
    · exact hg
    · exact good_T r (fun y hy => h y (by simp [hy])) (by omega) x hx
/-- A program that was read, printed. -/
theorem Print_c (l : List Fu) (hw : ∀ f ∈ l, WFF f) (hn : l.length ≤ 256) (hlen : (prT l).length ≤ 1000000) (A : Option Addr) (c : Nat) (w : World) (hA : RdFs w (· < w.heap.size) A l) :
    Calls Tryz.prog 7 #[.agg #[.slice A l.length c]] w fun e w' => e = .returned (.string ⟨(prT l).toArray⟩) ∧ Below w.heap.size w w' := by
  by_cases h0 : prT l = []
  · have hl : l = [] := by
      cases l with
      | nil => rfl
      | cons f r =>
        exfalso
        have := congrArg List.length h0
        simp [prT, prF, lnP] at this
    subst hl
    exact Print_none A c w
  · exact Print_any l A c w hA (good_T l hw hlen) (by omega) (by omega) h0
end Go.Proofs.YtiadbeglhnocoaaGreatDoor
