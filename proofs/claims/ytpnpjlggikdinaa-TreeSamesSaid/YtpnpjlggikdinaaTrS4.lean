/-
  Package tree's sameParam, sameStmt, sameFn, Same: what they answer where all but one thing is alike.
-/
import Derived.Test.YtpnpjlggikdinaaTrS3
import Derived.Test.YtpnpjlggikdinaaTrS2
namespace Go.Proofs.Ytpnpjlggikdinaa
open Go.RowKit

set_option maxHeartbeats 2000000 in
theorem sameParam_eq (s : ByteArray) (t : Int) (w : World) : Calls Try.prog 15 #[.agg #[.string s, .int .i64 t], .agg #[.string s, .int .i64 t]] w fun e w' => e = .returned (.bool true) ∧ Below w.heap.size w w' := by
  have es : (s.toList == s.toList) = true := by simp
  have et : (t == t) = true := by simp
  go_enter Try.func15, Try.ntmps15
  go_wp2
  go_ret
  exact ⟨rfl, ((Below.refl _ _).alloc (Nat.le_refl _) _).alloc (by simp) _⟩

theorem two_blocks (w : World) (x y : Array Value) (T : TypeId) : ∃ W, W = (w.alloc (.cells x T)).alloc (.cells y T) ∧ Below w.heap.size w W ∧ w.heap.size + 1 < W.heap.size ∧ W.heap[w.heap.size]? = some (.cells x T (0, 0)) ∧ W.heap[w.heap.size + 1]? = some (.cells y T (0, 0)) := by
  refine ⟨_, rfl, ((Below.refl _ _).alloc (Nat.le_refl _) _).alloc (by simp) _, by simp, (Below.heap_alloc _ _ _ (by simp)).trans (heap_alloc_new w _), ?_⟩
  have h1 := heap_alloc_new (w.alloc (.cells x T)) (.cells y T)
  rw [show (w.alloc (.cells x T)).heap.size = w.heap.size + 1 by simp] at h1
  exact h1
theorem cells8 {w : World} {b : Nat} {v0 v1 v2 v3 v4 v5 v6 v7 : Value} {T : TypeId} {fr : Nat × Nat} (h : w.heap[b]? = some (.cells #[v0, v1, v2, v3, v4, v5, v6, v7] T fr)) : w.cell? ⟨b, 0, none⟩ = some v0 ∧ w.cell? ⟨b, 1, none⟩ = some v1 ∧ w.cell? ⟨b, 2, none⟩ = some v2 ∧ w.cell? ⟨b, 3, none⟩ = some v3 ∧ w.cell? ⟨b, 4, none⟩ = some v4 ∧ w.cell? ⟨b, 5, none⟩ = some v5 ∧ w.cell? ⟨b, 6, none⟩ = some v6 ∧ w.cell? ⟨b, 7, none⟩ = some v7 := by
  have hc := fun j => Lib.cell_of_heap h j
  exact ⟨hc 0, hc 1, hc 2, hc 3, hc 4, hc 5, hc 6, hc 7⟩
theorem cells6 {w : World} {b : Nat} {v0 v1 v2 v3 v4 v5 : Value} {T : TypeId} {fr : Nat × Nat} (h : w.heap[b]? = some (.cells #[v0, v1, v2, v3, v4, v5] T fr)) : w.cell? ⟨b, 0, none⟩ = some v0 ∧ w.cell? ⟨b, 1, none⟩ = some v1 ∧ w.cell? ⟨b, 2, none⟩ = some v2 ∧ w.cell? ⟨b, 3, none⟩ = some v3 ∧ w.cell? ⟨b, 4, none⟩ = some v4 ∧ w.cell? ⟨b, 5, none⟩ = some v5 := by
  have hc := fun j => Lib.cell_of_heap h j
  exact ⟨hc 0, hc 1, hc 2, hc 3, hc 4, hc 5⟩
/-- A call of sameList at expressions, in all worlds from w on, that answers b. -/
def KidsSay (w : World) (A A' : Option Addr) (m c m' c' : Nat) (b : Bool) : Prop := ∀ w2, Below w.heap.size w w2 → Calls Try.prog 26 #[.slice A m c, .slice A' m' c', .func (.func 27) #[] #[]] w2 fun e w' => e = .returned (.bool b) ∧ Below w2.heap.size w2 w'
def StmtsSay (w : World) (A A' : Option Addr) (m c m' c' : Nat) (b : Bool) : Prop := ∀ w2, Below w.heap.size w w2 → Calls Try.prog 16 #[.slice A m c, .slice A' m' c', .func (.func 17) #[] #[]] w2 fun e w' => e = .returned (.bool b) ∧ Below w2.heap.size w2 w'
def ParamsSay (w : World) (A A' : Option Addr) (m c m' c' : Nat) (b : Bool) : Prop := ∀ w2, Below w.heap.size w w2 → Calls Try.prog 14 #[.slice A m c, .slice A' m' c', .func (.func 15) #[] #[]] w2 fun e w' => e = .returned (.bool b) ∧ Below w2.heap.size w2 w'

set_option maxRecDepth 100000 in
set_option maxHeartbeats 4000000 in
theorem sameStmt_ne (k a n : Int) (s : ByteArray) (p : Int) (K : Option Addr) (m c : Nat) (B : Option Addr) (mb cb : Nat) (E : Option Addr) (me ce : Nat) (a' n' : Int) (K' : Option Addr) (m' c' : Nat) (B' : Option Addr) (mb' cb' : Nat) (E' : Option Addr) (me' ce' : Nat) (w : World)
    (HK : KidsSay w K K' m c m' c' false) :
    Calls Try.prog 17 #[.agg #[.int .i64 k, .int .i64 a, .int .i64 n, .string s, .int .i64 p, .slice K m c, .slice B mb cb, .slice E me ce], .agg #[.int .i64 k, .int .i64 a', .int .i64 n', .string s, .int .i64 p, .slice K' m' c', .slice B' mb' cb', .slice E' me' ce']] w fun e w' => e = .returned (.bool false) ∧ Below w.heap.size w w' := by
  have es : (s.toList == s.toList) = true := by simp
  have ek : (k == k) = true := by simp
  have ep : (p == p) = true := by simp
  have hbW := ((Below.refl w.heap.size w).alloc (Nat.le_refl _) (.cells #[.int .i64 k, .int .i64 a, .int .i64 n, .string s, .int .i64 p, .slice K m c, .slice B mb cb, .slice E me ce] 38)).alloc (by simp) (.cells #[.int .i64 k, .int .i64 a', .int .i64 n', .string s, .int .i64 p, .slice K' m' c', .slice B' mb' cb', .slice E' me' ce'] 38)
  have HBW := Lib.hid hbW
  have HKs := HK _ hbW
  clear HK hbW
  go_enter Try.func17, Try.ntmps17
  go_wp2_with (go_at_call 26; refine HKs.mono ?_; rintro e w1 ⟨rfl, hb1⟩; have Hb1 := Lib.hid hb1; clear hb1)
  go_ret
  exact ⟨rfl, HBW.out.trans (Hb1.out.mono HBW.out.size)⟩

set_option maxRecDepth 100000 in
set_option maxHeartbeats 8000000 in
theorem sameStmt_eq (k a n : Int) (s : ByteArray) (p : Int) (K : Option Addr) (m c : Nat) (B : Option Addr) (mb cb : Nat) (E : Option Addr) (me ce : Nat) (a' n' : Int) (K' : Option Addr) (m' c' : Nat) (B' : Option Addr) (mb' cb' : Nat) (E' : Option Addr) (me' ce' : Nat) (w : World)
    (HK : KidsSay w K K' m c m' c' true) (HB : StmtsSay w B B' mb cb mb' cb' true) (HE : StmtsSay w E E' me ce me' ce' true) :
    Calls Try.prog 17 #[.agg #[.int .i64 k, .int .i64 a, .int .i64 n, .string s, .int .i64 p, .slice K m c, .slice B mb cb, .slice E me ce], .agg #[.int .i64 k, .int .i64 a', .int .i64 n', .string s, .int .i64 p, .slice K' m' c', .slice B' mb' cb', .slice E' me' ce']] w fun e w' => e = .returned (.bool true) ∧ Below w.heap.size w w' := by
  have es : (s.toList == s.toList) = true := by simp
  have ek : (k == k) = true := by simp
  have ep : (p == p) = true := by simp
  have HK := Lib.hid HK
  have HB := Lib.hid HB
  have HE := Lib.hid HE
  obtain ⟨W, hW, hbW, hz, hA0, hB0⟩ := two_blocks w #[.int .i64 k, .int .i64 a, .int .i64 n, .string s, .int .i64 p, .slice K m c, .slice B mb cb, .slice E me ce] #[.int .i64 k, .int .i64 a', .int .i64 n', .string s, .int .i64 p, .slice K' m' c', .slice B' mb' cb', .slice E' me' ce'] 38
  have HWe := Lib.hid hW
  obtain ⟨a0, a1, a2, a3, a4, a5, a6, a7⟩ := cells8 hA0
  obtain ⟨b0, b1, b2, b3, b4, b5, b6, b7⟩ := cells8 hB0
  replace hA0 := Lib.hid hA0
  replace hB0 := Lib.hid hB0
  replace hbW := Lib.hid hbW
  clear hW
  go_enter Try.func17, Try.ntmps17
  go_upto_region 1 with fail
  rw [← HWe.out]
  go_wp2_with (go_at_call 26; refine (HK.out _ hbW.out).mono ?_)
  rintro e w1 ⟨rfl, hb1⟩
  have hA1 := (hb1.block w.heap.size (Nat.lt_of_succ_lt hz)).trans hA0.out
  have hB1 := (hb1.block (w.heap.size + 1) hz).trans hB0.out
  obtain ⟨p0, p1, p2, p3, p4, p5, p6, p7⟩ := cells8 hA1
  obtain ⟨q0, q1, q2, q3, q4, q5, q6, q7⟩ := cells8 hB1
  have hz1 := Nat.lt_of_lt_of_le hz hb1.size
  have hbA := Lib.hid (hbW.out.trans (hb1.mono hbW.out.size))
  replace hA1 := Lib.hid hA1
  replace hB1 := Lib.hid hB1
  clear hb1
  go_wp2_with (go_at_call 16; refine (HB.out _ hbA.out).mono ?_)
  rintro e w2 ⟨rfl, hb2⟩
  have hA2 := (hb2.block w.heap.size (Nat.lt_of_succ_lt hz1)).trans hA1.out
  have hB2 := (hb2.block (w.heap.size + 1) hz1).trans hB1.out
  obtain ⟨r0, r1, r2, r3, r4, r5, r6, r7⟩ := cells8 hA2
  obtain ⟨s0, s1, s2, s3, s4, s5, s6, s7⟩ := cells8 hB2
  have hbB := Lib.hid (hbA.out.trans (hb2.mono hbA.out.size))
  clear hb2 hA2 hB2
  go_wp2_with (go_at_call 16; refine (HE.out _ hbB.out).mono ?_)
  rintro e w3 ⟨rfl, hb3⟩
  have hbC := Lib.hid (hbB.out.trans (hb3.mono hbB.out.size))
  clear hb3
  go_wp2
  go_ret
  exact ⟨rfl, hbC.out⟩
end Go.Proofs.Ytpnpjlggikdinaa
