/-
  Package tree's sameFn and Same: what they answer where all but one thing is alike.
-/
import Derived.Test.YtpnpjlggikdinaaTrS4
namespace Go.Proofs.Ytpnpjlggikdinaa
open Go.RowKit

set_option maxRecDepth 100000 in
set_option maxHeartbeats 4000000 in
theorem sameFn_name (s s' : ByteArray) (a a' : Int) (P : Option Addr) (m c : Nat) (P' : Option Addr) (m' c' : Nat) (r r' : Int) (B : Option Addr) (mb cb : Nat) (B' : Option Addr) (mb' cb' : Nat) (v v' : Int) (w : World) (hs : (s.toList == s'.toList) = false) :
    Calls Try.prog 10 #[.agg #[.string s, .int .i64 a, .slice P m c, .int .i64 r, .slice B mb cb, .int .i64 v], .agg #[.string s', .int .i64 a', .slice P' m' c', .int .i64 r', .slice B' mb' cb', .int .i64 v']] w fun e w' => e = .returned (.bool false) ∧ Below w.heap.size w w' := by
  go_enter Try.func10, Try.ntmps10
  go_wp2
  go_ret
  exact ⟨rfl, ((Below.refl _ _).alloc (Nat.le_refl _) _).alloc (by simp) _⟩

set_option maxRecDepth 100000 in
set_option maxHeartbeats 4000000 in
theorem sameFn_ret (s : ByteArray) (a a' : Int) (P : Option Addr) (m c : Nat) (P' : Option Addr) (m' c' : Nat) (r r' : Int) (B : Option Addr) (mb cb : Nat) (B' : Option Addr) (mb' cb' : Nat) (v v' : Int) (w : World) (hr : (r == r') = false) :
    Calls Try.prog 10 #[.agg #[.string s, .int .i64 a, .slice P m c, .int .i64 r, .slice B mb cb, .int .i64 v], .agg #[.string s, .int .i64 a', .slice P' m' c', .int .i64 r', .slice B' mb' cb', .int .i64 v']] w fun e w' => e = .returned (.bool false) ∧ Below w.heap.size w w' := by
  have es : (s.toList == s.toList) = true := by simp
  go_enter Try.func10, Try.ntmps10
  go_wp2
  go_ret
  exact ⟨rfl, ((Below.refl _ _).alloc (Nat.le_refl _) _).alloc (by simp) _⟩

set_option maxRecDepth 100000 in
set_option maxHeartbeats 4000000 in
theorem sameFn_params (s : ByteArray) (a a' : Int) (P : Option Addr) (m c : Nat) (P' : Option Addr) (m' c' : Nat) (r : Int) (B : Option Addr) (mb cb : Nat) (B' : Option Addr) (mb' cb' : Nat) (v v' : Int) (w : World) (HP : ParamsSay w P P' m c m' c' false) :
    Calls Try.prog 10 #[.agg #[.string s, .int .i64 a, .slice P m c, .int .i64 r, .slice B mb cb, .int .i64 v], .agg #[.string s, .int .i64 a', .slice P' m' c', .int .i64 r, .slice B' mb' cb', .int .i64 v']] w fun e w' => e = .returned (.bool false) ∧ Below w.heap.size w w' := by
  have es : (s.toList == s.toList) = true := by simp
  have er : (r == r) = true := by simp
  have hbW := ((Below.refl w.heap.size w).alloc (Nat.le_refl _) (.cells #[.string s, .int .i64 a, .slice P m c, .int .i64 r, .slice B mb cb, .int .i64 v] 31)).alloc (by simp) (.cells #[.string s, .int .i64 a', .slice P' m' c', .int .i64 r, .slice B' mb' cb', .int .i64 v'] 31)
  have HBW := Lib.hid hbW
  have HKs := HP _ hbW
  clear HP hbW
  go_enter Try.func10, Try.ntmps10
  go_wp2_with (go_at_call 14; refine HKs.mono ?_; rintro e w1 ⟨rfl, hb1⟩; have Hb1 := Lib.hid hb1; clear hb1)
  go_ret
  exact ⟨rfl, HBW.out.trans (Hb1.out.mono HBW.out.size)⟩

set_option maxRecDepth 100000 in
set_option maxHeartbeats 8000000 in
theorem sameFn_body (s : ByteArray) (a a' : Int) (P : Option Addr) (m c : Nat) (P' : Option Addr) (m' c' : Nat) (r : Int) (B : Option Addr) (mb cb : Nat) (B' : Option Addr) (mb' cb' : Nat) (v v' : Int) (b : Bool) (w : World) (HP : ParamsSay w P P' m c m' c' true) (HB : StmtsSay w B B' mb cb mb' cb' b) :
    Calls Try.prog 10 #[.agg #[.string s, .int .i64 a, .slice P m c, .int .i64 r, .slice B mb cb, .int .i64 v], .agg #[.string s, .int .i64 a', .slice P' m' c', .int .i64 r, .slice B' mb' cb', .int .i64 v']] w fun e w' => e = .returned (.bool b) ∧ Below w.heap.size w w' := by
  have es : (s.toList == s.toList) = true := by simp
  have er : (r == r) = true := by simp
  have HP := Lib.hid HP
  have HB := Lib.hid HB
  obtain ⟨W, hW, hbW, hz, hA0, hB0⟩ := two_blocks w #[.string s, .int .i64 a, .slice P m c, .int .i64 r, .slice B mb cb, .int .i64 v] #[.string s, .int .i64 a', .slice P' m' c', .int .i64 r, .slice B' mb' cb', .int .i64 v'] 31
  have HWe := Lib.hid hW
  obtain ⟨a0, a1, a2, a3, a4, a5⟩ := cells6 hA0
  obtain ⟨b0, b1, b2, b3, b4, b5⟩ := cells6 hB0
  replace hA0 := Lib.hid hA0
  replace hB0 := Lib.hid hB0
  replace hbW := Lib.hid hbW
  clear hW
  go_enter Try.func10, Try.ntmps10
  go_upto_region 1 with fail
  rw [← HWe.out]
  go_wp2_with (go_at_call 14; refine (HP.out _ hbW.out).mono ?_)
  rintro e w1 ⟨rfl, hb1⟩
  have hA1 := (hb1.block w.heap.size (Nat.lt_of_succ_lt hz)).trans hA0.out
  have hB1 := (hb1.block (w.heap.size + 1) hz).trans hB0.out
  obtain ⟨p0, p1, p2, p3, p4, p5⟩ := cells6 hA1
  obtain ⟨q0, q1, q2, q3, q4, q5⟩ := cells6 hB1
  have hbA := Lib.hid (hbW.out.trans (hb1.mono hbW.out.size))
  clear hb1 hA1 hB1
  go_wp2_with (go_at_call 16; refine (HB.out _ hbA.out).mono ?_)
  rintro e w2 ⟨rfl, hb2⟩
  have hbB := Lib.hid (hbA.out.trans (hb2.mono hbA.out.size))
  clear hb2
  go_wp2
  go_ret
  exact ⟨rfl, hbB.out⟩

set_option maxHeartbeats 4000000 in
theorem same_any (A A' : Option Addr) (n m c c' : Nat) (b : Bool) (w : World) (H : ∀ w2, Below w.heap.size w w2 → Calls Try.prog 9 #[.slice A n c, .slice A' m c', .func (.func 10) #[] #[]] w2 fun e w' => e = .returned (.bool b) ∧ Below w2.heap.size w2 w') :
    Calls Try.prog 6 #[.agg #[.slice A n c], .agg #[.slice A' m c']] w fun e w' => e = .returned (.bool b) ∧ Below w.heap.size w w' := by
  have hbW := ((Below.refl w.heap.size w).alloc (Nat.le_refl _) (.cells #[.slice A n c] 25)).alloc (by simp) (.cells #[.slice A' m c'] 25)
  have HBW := Lib.hid hbW
  have HKs := H _ hbW
  clear H hbW
  go_enter Try.func6, Try.ntmps6
  go_wp2_with (go_at_call 9; refine HKs.mono ?_; rintro e w1 ⟨rfl, hb1⟩; have Hb1 := Lib.hid hb1; clear hb1)
  go_ret
  exact ⟨rfl, HBW.out.trans (Hb1.out.mono HBW.out.size)⟩
end Go.Proofs.Ytpnpjlggikdinaa
