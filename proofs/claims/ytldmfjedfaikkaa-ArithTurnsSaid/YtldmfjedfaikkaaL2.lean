/-
  The law ArithTurns, walked.
-/
import Derived.Test.YtldmfjedfaikkaaL1
namespace Go.Proofs.Ytldmfjedfaikkaa
open Go.RowKit

def turnV (op : Int) : Int := if op = 4 ∨ op = 6 ∨ op = 9 ∨ op = 10 ∨ op = 11 ∨ op = 17 ∨ op = 18 then op else if op = 19 then 21 else if op = 20 then 22 else if op = 21 then 19 else if op = 22 then 20 else 0
def turnB (op : Int) : Bool := decide (op = 4 ∨ op = 6 ∨ (9 ≤ op ∧ op ≤ 11) ∨ (17 ≤ op ∧ op ≤ 22))
def agV (op : Int) : Int := if op = 17 then 18 else if op = 18 then 17 else if op = 19 then 22 else if op = 20 then 21 else if op = 21 then 20 else if op = 22 then 19 else 0
def agB (op : Int) : Bool := decide (17 ≤ op ∧ op ≤ 22)

set_option maxHeartbeats 1000000 in
theorem turned_any (op : Int) (w : World) : Calls Try.prog 19 #[.int .i64 op] w fun e w' => e = .returned (.tuple #[.int .i64 (turnV op), .bool (turnB op)]) ∧ w = w' := by
  have hs : op = 4 ∨ op = 6 ∨ op = 9 ∨ op = 10 ∨ op = 11 ∨ op = 17 ∨ op = 18 ∨ op = 19 ∨ op = 20 ∨ op = 21 ∨ op = 22 ∨ ¬ (op = 4 ∨ op = 6 ∨ (9 ≤ op ∧ op ≤ 11) ∨ (17 ≤ op ∧ op ≤ 22)) := by omega
  rcases hs with rfl | rfl | rfl | rfl | rfl | rfl | rfl | rfl | rfl | rfl | rfl | h
  case inr.inr.inr.inr.inr.inr.inr.inr.inr.inr.inr =>
    have HV : Hid (turnV op = 0) := Lib.hid (by unfold turnV; rw [if_neg (by omega), if_neg (by omega), if_neg (by omega), if_neg (by omega), if_neg (by omega)])
    have HB : Hid (turnB op = false) := Lib.hid (decide_eq_false h)
    have h0 : op < 4 ∨ op = 5 ∨ (7 ≤ op ∧ op ≤ 8) ∨ (12 ≤ op ∧ op ≤ 16) ∨ 22 < op := by omega
    clear h
    rcases h0 with h0 | rfl | h0 | h0 | h0
    all_goals
      go_enter Try.func19, Try.ntmps19
      go_wp2
      go_ret2
      exact ⟨ret_two HV.out.symm HB.out.symm, rfl⟩
  all_goals
    go_enter Try.func19, Try.ntmps19
    go_wp2
    go_ret2
    exact ⟨rfl, rfl⟩

set_option maxHeartbeats 1000000 in
theorem against_any (op : Int) (w : World) : Calls Try.prog 20 #[.int .i64 op] w fun e w' => e = .returned (.tuple #[.int .i64 (agV op), .bool (agB op)]) ∧ w = w' := by
  have hs : op = 17 ∨ op = 18 ∨ op = 19 ∨ op = 20 ∨ op = 21 ∨ op = 22 ∨ ¬ (17 ≤ op ∧ op ≤ 22) := by omega
  rcases hs with rfl | rfl | rfl | rfl | rfl | rfl | h
  case inr.inr.inr.inr.inr.inr =>
    have HV : Hid (agV op = 0) := Lib.hid (by unfold agV; rw [if_neg (by omega), if_neg (by omega), if_neg (by omega), if_neg (by omega), if_neg (by omega), if_neg (by omega)])
    have HB : Hid (agB op = false) := Lib.hid (decide_eq_false h)
    have h0 : op < 17 ∨ 22 < op := by omega
    clear h
    rcases h0 with h0 | h0
    all_goals
      go_enter Try.func20, Try.ntmps20
      go_wp2
      go_ret2
      exact ⟨ret_two HV.out.symm HB.out.symm, rfl⟩
  all_goals
    go_enter Try.func20, Try.ntmps20
    go_wp2
    go_ret2
    exact ⟨rfl, rfl⟩

theorem bits_comm (op : BinOp) (h : op = .and ∨ op = .or ∨ op = .xor) (a b : Int) : bits op .i64 b a = bits op .i64 a b := by
  rcases h with rfl | rfl | rfl
  · show IntKind.i64.wrap ((BitVec.ofInt 64 b &&& BitVec.ofInt 64 a).toNat : Int) = IntKind.i64.wrap ((BitVec.ofInt 64 a &&& BitVec.ofInt 64 b).toNat : Int)
    rw [BitVec.and_comm]
  · show IntKind.i64.wrap ((BitVec.ofInt 64 b ||| BitVec.ofInt 64 a).toNat : Int) = IntKind.i64.wrap ((BitVec.ofInt 64 a ||| BitVec.ofInt 64 b).toNat : Int)
    rw [BitVec.or_comm]
  · show IntKind.i64.wrap ((BitVec.ofInt 64 b ^^^ BitVec.ofInt 64 a).toNat : Int) = IntKind.i64.wrap ((BitVec.ofInt 64 a ^^^ BitVec.ofInt 64 b).toNat : Int)
    rw [BitVec.xor_comm]
theorem opV_4 (a b : Int) : opV 4 b a = opV 4 a b := by simp [opV, Int.add_comm]
theorem opV_6 (a b : Int) : opV 6 b a = opV 6 a b := by simp [opV, Int.mul_comm]
theorem opV_9 (a b : Int) : opV 9 b a = opV 9 a b := by simp [opV, bits_comm .and (by simp) a b]
theorem opV_10 (a b : Int) : opV 10 b a = opV 10 a b := by simp [opV, bits_comm .or (by simp) a b]
theorem opV_11 (a b : Int) : opV 11 b a = opV 11 a b := by simp [opV, bits_comm .xor (by simp) a b]
theorem opV_17 (a b : Int) : opV 17 b a = opV 17 a b := by simp [opV, Bool.beq_comm (a := b)]
theorem opV_18 (a b : Int) : opV 18 b a = opV 18 a b := by simp [opV, bne_comm (a := b)]
theorem opV_19 (a b : Int) : opV 21 b a = opV 19 a b := by simp [opV]
theorem opV_20 (a b : Int) : opV 22 b a = opV 20 a b := by simp [opV]
theorem opV_21 (a b : Int) : opV 19 b a = opV 21 a b := by simp [opV]
theorem opV_22 (a b : Int) : opV 20 b a = opV 22 a b := by simp [opV]
theorem bitI_add (p q : Bool) (h : q = !p) : bitI p + bitI q = 1 := by subst h; cases p <;> rfl
theorem ag_17 (a b : Int) : opV 17 a b + opV 18 a b = 1 := by
  have e1 : opV 17 a b = bitI (a == b) := by simp [opV]
  have e2 : opV 18 a b = bitI (a != b) := by simp [opV]
  rw [e1, e2]; exact bitI_add _ _ rfl
theorem ag_18 (a b : Int) : opV 18 a b + opV 17 a b = 1 := by rw [Int.add_comm]; exact ag_17 a b
theorem ag_19 (a b : Int) : opV 19 a b + opV 22 a b = 1 := by
  have e1 : opV 19 a b = bitI (decide (a < b)) := by simp [opV]
  have e2 : opV 22 a b = bitI (decide (b ≤ a)) := by simp [opV]
  rw [e1, e2]; exact bitI_add _ _ (not_lt_b b a).symm
theorem ag_22 (a b : Int) : opV 22 a b + opV 19 a b = 1 := by rw [Int.add_comm]; exact ag_19 a b
theorem ag_21 (a b : Int) : opV 21 a b + opV 20 a b = 1 := by
  have e1 : opV 21 a b = bitI (decide (b < a)) := by simp [opV]
  have e2 : opV 20 a b = bitI (decide (a ≤ b)) := by simp [opV]
  rw [e1, e2]; exact bitI_add _ _ (not_lt_b a b).symm
theorem ag_20 (a b : Int) : opV 20 a b + opV 21 a b = 1 := by rw [Int.add_comm]; exact ag_21 a b
theorem opV_yes (op a b : Int) (h : 17 ≤ op ∧ op ≤ 23) : 0 ≤ opV op a b ∧ opV op a b ≤ 1 := by
  have hs : op = 17 ∨ op = 18 ∨ op = 19 ∨ op = 20 ∨ op = 21 ∨ op = 22 ∨ op = 23 := by omega
  have b01 : ∀ p, 0 ≤ bitI p ∧ bitI p ≤ 1 := fun p => by cases p <;> decide
  rcases hs with rfl | rfl | rfl | rfl | rfl | rfl | rfl
  all_goals exact b01 _
theorem opOk_yes (op b : Int) (h : 4 ≤ op ∧ op ≤ 14 ∨ 17 ≤ op ∧ op ≤ 23) (h7 : op ≠ 7) (h8 : op ≠ 8) : opOk op b = true := by
  unfold opOk binB
  rw [decide_eq_true h, decide_eq_false (by omega)]; rfl

set_option maxRecDepth 100000 in
set_option maxHeartbeats 1000000 in
theorem turns_4 (a b : Int) (ha : -9223372036854775808 ≤ a ∧ a ≤ 9223372036854775807) (hb : -9223372036854775808 ≤ b ∧ b ≤ 9223372036854775807) (w : World) : Calls Try.prog 6 #[.int .i64 4, .int .i64 a, .int .i64 b] w fun e w' => e = .returned (.bool true) ∧ Grown w w' := by
  have HA := Lib.hid ha
  have HB := Lib.hid hb
  clear ha hb
  have t1 : turnV 4 = 4 := by decide +kernel
  have t2 : turnB 4 = true := by decide +kernel
  have a1 : agV 4 = 0 := by decide +kernel
  have a2 : agB 4 = false := by decide +kernel
  have k1 : opOk 4 b = true := opOk_yes 4 b (by omega) (by omega) (by omega)
  have k2 : opOk 4 a = true := opOk_yes 4 a (by omega) (by omega) (by omega)
  have c1 : opV 4 b a = opV 4 a b := opV_4 a b
  go_enter Try.func6, Try.ntmps6
  go_wp2_with (fail)
  refine (rdo_any _ _ _ HA.out HB.out _).mono ?_
  rintro e w1 ⟨rfl, h1⟩
  have H1 := Lib.hid h1
  clear h1
  go_wp2_with (first | (go_at_call 19; refine (turned_any _ _).mono ?_; rintro e w' ⟨rfl, rfl⟩) | (go_at_call 20; refine (against_any _ _).mono ?_; rintro e w' ⟨rfl, rfl⟩))
  refine (rdo_any _ _ _ HB.out HA.out _).mono ?_
  rintro e w2 ⟨rfl, h2⟩
  have H2 := Lib.hid h2
  clear h2
  go_wp2_with (fail)
  refine (rdo_any _ _ _ HA.out HB.out _).mono ?_
  rintro e w3 ⟨rfl, h3⟩
  have H3 := Lib.hid h3
  clear h3
  go_wp2_with (go_at_call 13; refine (awake_any _).mono ?_; rintro e w' ⟨rfl, rfl⟩)
  go_ret
  exact ⟨rfl, grown_trans H1.out (grown_trans H2.out H3.out)⟩

set_option maxRecDepth 100000 in
set_option maxHeartbeats 1000000 in
theorem turns_6 (a b : Int) (ha : -9223372036854775808 ≤ a ∧ a ≤ 9223372036854775807) (hb : -9223372036854775808 ≤ b ∧ b ≤ 9223372036854775807) (w : World) : Calls Try.prog 6 #[.int .i64 6, .int .i64 a, .int .i64 b] w fun e w' => e = .returned (.bool true) ∧ Grown w w' := by
  have HA := Lib.hid ha
  have HB := Lib.hid hb
  clear ha hb
  have t1 : turnV 6 = 6 := by decide +kernel
  have t2 : turnB 6 = true := by decide +kernel
  have a1 : agV 6 = 0 := by decide +kernel
  have a2 : agB 6 = false := by decide +kernel
  have k1 : opOk 6 b = true := opOk_yes 6 b (by omega) (by omega) (by omega)
  have k2 : opOk 6 a = true := opOk_yes 6 a (by omega) (by omega) (by omega)
  have c1 : opV 6 b a = opV 6 a b := opV_6 a b
  go_enter Try.func6, Try.ntmps6
  go_wp2_with (fail)
  refine (rdo_any _ _ _ HA.out HB.out _).mono ?_
  rintro e w1 ⟨rfl, h1⟩
  have H1 := Lib.hid h1
  clear h1
  go_wp2_with (first | (go_at_call 19; refine (turned_any _ _).mono ?_; rintro e w' ⟨rfl, rfl⟩) | (go_at_call 20; refine (against_any _ _).mono ?_; rintro e w' ⟨rfl, rfl⟩))
  refine (rdo_any _ _ _ HB.out HA.out _).mono ?_
  rintro e w2 ⟨rfl, h2⟩
  have H2 := Lib.hid h2
  clear h2
  go_wp2_with (fail)
  refine (rdo_any _ _ _ HA.out HB.out _).mono ?_
  rintro e w3 ⟨rfl, h3⟩
  have H3 := Lib.hid h3
  clear h3
  go_wp2_with (go_at_call 13; refine (awake_any _).mono ?_; rintro e w' ⟨rfl, rfl⟩)
  go_ret
  exact ⟨rfl, grown_trans H1.out (grown_trans H2.out H3.out)⟩

set_option maxRecDepth 100000 in
set_option maxHeartbeats 1000000 in
theorem turns_9 (a b : Int) (ha : -9223372036854775808 ≤ a ∧ a ≤ 9223372036854775807) (hb : -9223372036854775808 ≤ b ∧ b ≤ 9223372036854775807) (w : World) : Calls Try.prog 6 #[.int .i64 9, .int .i64 a, .int .i64 b] w fun e w' => e = .returned (.bool true) ∧ Grown w w' := by
  have HA := Lib.hid ha
  have HB := Lib.hid hb
  clear ha hb
  have t1 : turnV 9 = 9 := by decide +kernel
  have t2 : turnB 9 = true := by decide +kernel
  have a1 : agV 9 = 0 := by decide +kernel
  have a2 : agB 9 = false := by decide +kernel
  have k1 : opOk 9 b = true := opOk_yes 9 b (by omega) (by omega) (by omega)
  have k2 : opOk 9 a = true := opOk_yes 9 a (by omega) (by omega) (by omega)
  have c1 : opV 9 b a = opV 9 a b := opV_9 a b
  go_enter Try.func6, Try.ntmps6
  go_wp2_with (fail)
  refine (rdo_any _ _ _ HA.out HB.out _).mono ?_
  rintro e w1 ⟨rfl, h1⟩
  have H1 := Lib.hid h1
  clear h1
  go_wp2_with (first | (go_at_call 19; refine (turned_any _ _).mono ?_; rintro e w' ⟨rfl, rfl⟩) | (go_at_call 20; refine (against_any _ _).mono ?_; rintro e w' ⟨rfl, rfl⟩))
  refine (rdo_any _ _ _ HB.out HA.out _).mono ?_
  rintro e w2 ⟨rfl, h2⟩
  have H2 := Lib.hid h2
  clear h2
  go_wp2_with (fail)
  refine (rdo_any _ _ _ HA.out HB.out _).mono ?_
  rintro e w3 ⟨rfl, h3⟩
  have H3 := Lib.hid h3
  clear h3
  go_wp2_with (go_at_call 13; refine (awake_any _).mono ?_; rintro e w' ⟨rfl, rfl⟩)
  go_ret
  exact ⟨rfl, grown_trans H1.out (grown_trans H2.out H3.out)⟩

set_option maxRecDepth 100000 in
set_option maxHeartbeats 1000000 in
theorem turns_10 (a b : Int) (ha : -9223372036854775808 ≤ a ∧ a ≤ 9223372036854775807) (hb : -9223372036854775808 ≤ b ∧ b ≤ 9223372036854775807) (w : World) : Calls Try.prog 6 #[.int .i64 10, .int .i64 a, .int .i64 b] w fun e w' => e = .returned (.bool true) ∧ Grown w w' := by
  have HA := Lib.hid ha
  have HB := Lib.hid hb
  clear ha hb
  have t1 : turnV 10 = 10 := by decide +kernel
  have t2 : turnB 10 = true := by decide +kernel
  have a1 : agV 10 = 0 := by decide +kernel
  have a2 : agB 10 = false := by decide +kernel
  have k1 : opOk 10 b = true := opOk_yes 10 b (by omega) (by omega) (by omega)
  have k2 : opOk 10 a = true := opOk_yes 10 a (by omega) (by omega) (by omega)
  have c1 : opV 10 b a = opV 10 a b := opV_10 a b
  go_enter Try.func6, Try.ntmps6
  go_wp2_with (fail)
  refine (rdo_any _ _ _ HA.out HB.out _).mono ?_
  rintro e w1 ⟨rfl, h1⟩
  have H1 := Lib.hid h1
  clear h1
  go_wp2_with (first | (go_at_call 19; refine (turned_any _ _).mono ?_; rintro e w' ⟨rfl, rfl⟩) | (go_at_call 20; refine (against_any _ _).mono ?_; rintro e w' ⟨rfl, rfl⟩))
  refine (rdo_any _ _ _ HB.out HA.out _).mono ?_
  rintro e w2 ⟨rfl, h2⟩
  have H2 := Lib.hid h2
  clear h2
  go_wp2_with (fail)
  refine (rdo_any _ _ _ HA.out HB.out _).mono ?_
  rintro e w3 ⟨rfl, h3⟩
  have H3 := Lib.hid h3
  clear h3
  go_wp2_with (go_at_call 13; refine (awake_any _).mono ?_; rintro e w' ⟨rfl, rfl⟩)
  go_ret
  exact ⟨rfl, grown_trans H1.out (grown_trans H2.out H3.out)⟩

set_option maxRecDepth 100000 in
set_option maxHeartbeats 1000000 in
theorem turns_11 (a b : Int) (ha : -9223372036854775808 ≤ a ∧ a ≤ 9223372036854775807) (hb : -9223372036854775808 ≤ b ∧ b ≤ 9223372036854775807) (w : World) : Calls Try.prog 6 #[.int .i64 11, .int .i64 a, .int .i64 b] w fun e w' => e = .returned (.bool true) ∧ Grown w w' := by
  have HA := Lib.hid ha
  have HB := Lib.hid hb
  clear ha hb
  have t1 : turnV 11 = 11 := by decide +kernel
  have t2 : turnB 11 = true := by decide +kernel
  have a1 : agV 11 = 0 := by decide +kernel
  have a2 : agB 11 = false := by decide +kernel
  have k1 : opOk 11 b = true := opOk_yes 11 b (by omega) (by omega) (by omega)
  have k2 : opOk 11 a = true := opOk_yes 11 a (by omega) (by omega) (by omega)
  have c1 : opV 11 b a = opV 11 a b := opV_11 a b
  go_enter Try.func6, Try.ntmps6
  go_wp2_with (fail)
  refine (rdo_any _ _ _ HA.out HB.out _).mono ?_
  rintro e w1 ⟨rfl, h1⟩
  have H1 := Lib.hid h1
  clear h1
  go_wp2_with (first | (go_at_call 19; refine (turned_any _ _).mono ?_; rintro e w' ⟨rfl, rfl⟩) | (go_at_call 20; refine (against_any _ _).mono ?_; rintro e w' ⟨rfl, rfl⟩))
  refine (rdo_any _ _ _ HB.out HA.out _).mono ?_
  rintro e w2 ⟨rfl, h2⟩
  have H2 := Lib.hid h2
  clear h2
  go_wp2_with (fail)
  refine (rdo_any _ _ _ HA.out HB.out _).mono ?_
  rintro e w3 ⟨rfl, h3⟩
  have H3 := Lib.hid h3
  clear h3
  go_wp2_with (go_at_call 13; refine (awake_any _).mono ?_; rintro e w' ⟨rfl, rfl⟩)
  go_ret
  exact ⟨rfl, grown_trans H1.out (grown_trans H2.out H3.out)⟩

set_option maxRecDepth 100000 in
set_option maxHeartbeats 1000000 in
theorem turns_17 (a b : Int) (ha : -9223372036854775808 ≤ a ∧ a ≤ 9223372036854775807) (hb : -9223372036854775808 ≤ b ∧ b ≤ 9223372036854775807) (w : World) : Calls Try.prog 6 #[.int .i64 17, .int .i64 a, .int .i64 b] w fun e w' => e = .returned (.bool true) ∧ Grown w w' := by
  have HA := Lib.hid ha
  have HB := Lib.hid hb
  clear ha hb
  have t1 : turnV 17 = 17 := by decide +kernel
  have t2 : turnB 17 = true := by decide +kernel
  have a1 : agV 17 = 18 := by decide +kernel
  have a2 : agB 17 = true := by decide +kernel
  have k1 : opOk 17 b = true := opOk_yes 17 b (by omega) (by omega) (by omega)
  have k2 : opOk 17 a = true := opOk_yes 17 a (by omega) (by omega) (by omega)
  have c1 : opV 17 b a = opV 17 a b := opV_17 a b
  have k3 : opOk 18 b = true := opOk_yes 18 b (by omega) (by omega) (by omega)
  have y1 := opV_yes 17 a b (by omega)
  have y2 := opV_yes 18 a b (by omega)
  have c2 : opV 17 a b + opV 18 a b = 1 := ag_17 a b
  go_enter Try.func6, Try.ntmps6
  go_wp2_with (fail)
  refine (rdo_any _ _ _ HA.out HB.out _).mono ?_
  rintro e w1 ⟨rfl, h1⟩
  have H1 := Lib.hid h1
  clear h1
  go_wp2_with (first | (go_at_call 19; refine (turned_any _ _).mono ?_; rintro e w' ⟨rfl, rfl⟩) | (go_at_call 20; refine (against_any _ _).mono ?_; rintro e w' ⟨rfl, rfl⟩))
  refine (rdo_any _ _ _ HB.out HA.out _).mono ?_
  rintro e w2 ⟨rfl, h2⟩
  have H2 := Lib.hid h2
  clear h2
  go_wp2_with (fail)
  refine (rdo_any _ _ _ HA.out HB.out _).mono ?_
  rintro e w3 ⟨rfl, h3⟩
  have H3 := Lib.hid h3
  clear h3
  go_wp2_with (go_at_call 13; refine (awake_any _).mono ?_; rintro e w' ⟨rfl, rfl⟩)
  go_ret
  exact ⟨rfl, grown_trans H1.out (grown_trans H2.out H3.out)⟩

set_option maxRecDepth 100000 in
set_option maxHeartbeats 1000000 in
theorem turns_18 (a b : Int) (ha : -9223372036854775808 ≤ a ∧ a ≤ 9223372036854775807) (hb : -9223372036854775808 ≤ b ∧ b ≤ 9223372036854775807) (w : World) : Calls Try.prog 6 #[.int .i64 18, .int .i64 a, .int .i64 b] w fun e w' => e = .returned (.bool true) ∧ Grown w w' := by
  have HA := Lib.hid ha
  have HB := Lib.hid hb
  clear ha hb
  have t1 : turnV 18 = 18 := by decide +kernel
  have t2 : turnB 18 = true := by decide +kernel
  have a1 : agV 18 = 17 := by decide +kernel
  have a2 : agB 18 = true := by decide +kernel
  have k1 : opOk 18 b = true := opOk_yes 18 b (by omega) (by omega) (by omega)
  have k2 : opOk 18 a = true := opOk_yes 18 a (by omega) (by omega) (by omega)
  have c1 : opV 18 b a = opV 18 a b := opV_18 a b
  have k3 : opOk 17 b = true := opOk_yes 17 b (by omega) (by omega) (by omega)
  have y1 := opV_yes 18 a b (by omega)
  have y2 := opV_yes 17 a b (by omega)
  have c2 : opV 18 a b + opV 17 a b = 1 := ag_18 a b
  go_enter Try.func6, Try.ntmps6
  go_wp2_with (fail)
  refine (rdo_any _ _ _ HA.out HB.out _).mono ?_
  rintro e w1 ⟨rfl, h1⟩
  have H1 := Lib.hid h1
  clear h1
  go_wp2_with (first | (go_at_call 19; refine (turned_any _ _).mono ?_; rintro e w' ⟨rfl, rfl⟩) | (go_at_call 20; refine (against_any _ _).mono ?_; rintro e w' ⟨rfl, rfl⟩))
  refine (rdo_any _ _ _ HB.out HA.out _).mono ?_
  rintro e w2 ⟨rfl, h2⟩
  have H2 := Lib.hid h2
  clear h2
  go_wp2_with (fail)
  refine (rdo_any _ _ _ HA.out HB.out _).mono ?_
  rintro e w3 ⟨rfl, h3⟩
  have H3 := Lib.hid h3
  clear h3
  go_wp2_with (go_at_call 13; refine (awake_any _).mono ?_; rintro e w' ⟨rfl, rfl⟩)
  go_ret
  exact ⟨rfl, grown_trans H1.out (grown_trans H2.out H3.out)⟩

set_option maxRecDepth 100000 in
set_option maxHeartbeats 1000000 in
theorem turns_19 (a b : Int) (ha : -9223372036854775808 ≤ a ∧ a ≤ 9223372036854775807) (hb : -9223372036854775808 ≤ b ∧ b ≤ 9223372036854775807) (w : World) : Calls Try.prog 6 #[.int .i64 19, .int .i64 a, .int .i64 b] w fun e w' => e = .returned (.bool true) ∧ Grown w w' := by
  have HA := Lib.hid ha
  have HB := Lib.hid hb
  clear ha hb
  have t1 : turnV 19 = 21 := by decide +kernel
  have t2 : turnB 19 = true := by decide +kernel
  have a1 : agV 19 = 22 := by decide +kernel
  have a2 : agB 19 = true := by decide +kernel
  have k1 : opOk 19 b = true := opOk_yes 19 b (by omega) (by omega) (by omega)
  have k2 : opOk 21 a = true := opOk_yes 21 a (by omega) (by omega) (by omega)
  have c1 : opV 21 b a = opV 19 a b := opV_19 a b
  have k3 : opOk 22 b = true := opOk_yes 22 b (by omega) (by omega) (by omega)
  have y1 := opV_yes 19 a b (by omega)
  have y2 := opV_yes 22 a b (by omega)
  have c2 : opV 19 a b + opV 22 a b = 1 := ag_19 a b
  go_enter Try.func6, Try.ntmps6
  go_wp2_with (fail)
  refine (rdo_any _ _ _ HA.out HB.out _).mono ?_
  rintro e w1 ⟨rfl, h1⟩
  have H1 := Lib.hid h1
  clear h1
  go_wp2_with (first | (go_at_call 19; refine (turned_any _ _).mono ?_; rintro e w' ⟨rfl, rfl⟩) | (go_at_call 20; refine (against_any _ _).mono ?_; rintro e w' ⟨rfl, rfl⟩))
  refine (rdo_any _ _ _ HB.out HA.out _).mono ?_
  rintro e w2 ⟨rfl, h2⟩
  have H2 := Lib.hid h2
  clear h2
  go_wp2_with (fail)
  refine (rdo_any _ _ _ HA.out HB.out _).mono ?_
  rintro e w3 ⟨rfl, h3⟩
  have H3 := Lib.hid h3
  clear h3
  go_wp2_with (go_at_call 13; refine (awake_any _).mono ?_; rintro e w' ⟨rfl, rfl⟩)
  go_ret
  exact ⟨rfl, grown_trans H1.out (grown_trans H2.out H3.out)⟩

set_option maxRecDepth 100000 in
set_option maxHeartbeats 1000000 in
theorem turns_20 (a b : Int) (ha : -9223372036854775808 ≤ a ∧ a ≤ 9223372036854775807) (hb : -9223372036854775808 ≤ b ∧ b ≤ 9223372036854775807) (w : World) : Calls Try.prog 6 #[.int .i64 20, .int .i64 a, .int .i64 b] w fun e w' => e = .returned (.bool true) ∧ Grown w w' := by
  have HA := Lib.hid ha
  have HB := Lib.hid hb
  clear ha hb
  have t1 : turnV 20 = 22 := by decide +kernel
  have t2 : turnB 20 = true := by decide +kernel
  have a1 : agV 20 = 21 := by decide +kernel
  have a2 : agB 20 = true := by decide +kernel
  have k1 : opOk 20 b = true := opOk_yes 20 b (by omega) (by omega) (by omega)
  have k2 : opOk 22 a = true := opOk_yes 22 a (by omega) (by omega) (by omega)
  have c1 : opV 22 b a = opV 20 a b := opV_20 a b
  have k3 : opOk 21 b = true := opOk_yes 21 b (by omega) (by omega) (by omega)
  have y1 := opV_yes 20 a b (by omega)
  have y2 := opV_yes 21 a b (by omega)
  have c2 : opV 20 a b + opV 21 a b = 1 := ag_20 a b
  go_enter Try.func6, Try.ntmps6
  go_wp2_with (fail)
  refine (rdo_any _ _ _ HA.out HB.out _).mono ?_
  rintro e w1 ⟨rfl, h1⟩
  have H1 := Lib.hid h1
  clear h1
  go_wp2_with (first | (go_at_call 19; refine (turned_any _ _).mono ?_; rintro e w' ⟨rfl, rfl⟩) | (go_at_call 20; refine (against_any _ _).mono ?_; rintro e w' ⟨rfl, rfl⟩))
  refine (rdo_any _ _ _ HB.out HA.out _).mono ?_
  rintro e w2 ⟨rfl, h2⟩
  have H2 := Lib.hid h2
  clear h2
  go_wp2_with (fail)
  refine (rdo_any _ _ _ HA.out HB.out _).mono ?_
  rintro e w3 ⟨rfl, h3⟩
  have H3 := Lib.hid h3
  clear h3
  go_wp2_with (go_at_call 13; refine (awake_any _).mono ?_; rintro e w' ⟨rfl, rfl⟩)
  go_ret
  exact ⟨rfl, grown_trans H1.out (grown_trans H2.out H3.out)⟩

set_option maxRecDepth 100000 in
set_option maxHeartbeats 1000000 in
theorem turns_21 (a b : Int) (ha : -9223372036854775808 ≤ a ∧ a ≤ 9223372036854775807) (hb : -9223372036854775808 ≤ b ∧ b ≤ 9223372036854775807) (w : World) : Calls Try.prog 6 #[.int .i64 21, .int .i64 a, .int .i64 b] w fun e w' => e = .returned (.bool true) ∧ Grown w w' := by
  have HA := Lib.hid ha
  have HB := Lib.hid hb
  clear ha hb
  have t1 : turnV 21 = 19 := by decide +kernel
  have t2 : turnB 21 = true := by decide +kernel
  have a1 : agV 21 = 20 := by decide +kernel
  have a2 : agB 21 = true := by decide +kernel
  have k1 : opOk 21 b = true := opOk_yes 21 b (by omega) (by omega) (by omega)
  have k2 : opOk 19 a = true := opOk_yes 19 a (by omega) (by omega) (by omega)
  have c1 : opV 19 b a = opV 21 a b := opV_21 a b
  have k3 : opOk 20 b = true := opOk_yes 20 b (by omega) (by omega) (by omega)
  have y1 := opV_yes 21 a b (by omega)
  have y2 := opV_yes 20 a b (by omega)
  have c2 : opV 21 a b + opV 20 a b = 1 := ag_21 a b
  go_enter Try.func6, Try.ntmps6
  go_wp2_with (fail)
  refine (rdo_any _ _ _ HA.out HB.out _).mono ?_
  rintro e w1 ⟨rfl, h1⟩
  have H1 := Lib.hid h1
  clear h1
  go_wp2_with (first | (go_at_call 19; refine (turned_any _ _).mono ?_; rintro e w' ⟨rfl, rfl⟩) | (go_at_call 20; refine (against_any _ _).mono ?_; rintro e w' ⟨rfl, rfl⟩))
  refine (rdo_any _ _ _ HB.out HA.out _).mono ?_
  rintro e w2 ⟨rfl, h2⟩
  have H2 := Lib.hid h2
  clear h2
  go_wp2_with (fail)
  refine (rdo_any _ _ _ HA.out HB.out _).mono ?_
  rintro e w3 ⟨rfl, h3⟩
  have H3 := Lib.hid h3
  clear h3
  go_wp2_with (go_at_call 13; refine (awake_any _).mono ?_; rintro e w' ⟨rfl, rfl⟩)
  go_ret
  exact ⟨rfl, grown_trans H1.out (grown_trans H2.out H3.out)⟩

set_option maxRecDepth 100000 in
set_option maxHeartbeats 1000000 in
theorem turns_22 (a b : Int) (ha : -9223372036854775808 ≤ a ∧ a ≤ 9223372036854775807) (hb : -9223372036854775808 ≤ b ∧ b ≤ 9223372036854775807) (w : World) : Calls Try.prog 6 #[.int .i64 22, .int .i64 a, .int .i64 b] w fun e w' => e = .returned (.bool true) ∧ Grown w w' := by
  have HA := Lib.hid ha
  have HB := Lib.hid hb
  clear ha hb
  have t1 : turnV 22 = 20 := by decide +kernel
  have t2 : turnB 22 = true := by decide +kernel
  have a1 : agV 22 = 19 := by decide +kernel
  have a2 : agB 22 = true := by decide +kernel
  have k1 : opOk 22 b = true := opOk_yes 22 b (by omega) (by omega) (by omega)
  have k2 : opOk 20 a = true := opOk_yes 20 a (by omega) (by omega) (by omega)
  have c1 : opV 20 b a = opV 22 a b := opV_22 a b
  have k3 : opOk 19 b = true := opOk_yes 19 b (by omega) (by omega) (by omega)
  have y1 := opV_yes 22 a b (by omega)
  have y2 := opV_yes 19 a b (by omega)
  have c2 : opV 22 a b + opV 19 a b = 1 := ag_22 a b
  go_enter Try.func6, Try.ntmps6
  go_wp2_with (fail)
  refine (rdo_any _ _ _ HA.out HB.out _).mono ?_
  rintro e w1 ⟨rfl, h1⟩
  have H1 := Lib.hid h1
  clear h1
  go_wp2_with (first | (go_at_call 19; refine (turned_any _ _).mono ?_; rintro e w' ⟨rfl, rfl⟩) | (go_at_call 20; refine (against_any _ _).mono ?_; rintro e w' ⟨rfl, rfl⟩))
  refine (rdo_any _ _ _ HB.out HA.out _).mono ?_
  rintro e w2 ⟨rfl, h2⟩
  have H2 := Lib.hid h2
  clear h2
  go_wp2_with (fail)
  refine (rdo_any _ _ _ HA.out HB.out _).mono ?_
  rintro e w3 ⟨rfl, h3⟩
  have H3 := Lib.hid h3
  clear h3
  go_wp2_with (go_at_call 13; refine (awake_any _).mono ?_; rintro e w' ⟨rfl, rfl⟩)
  go_ret
  exact ⟨rfl, grown_trans H1.out (grown_trans H2.out H3.out)⟩

set_option maxRecDepth 100000 in
set_option maxHeartbeats 1000000 in
theorem turns_no (op a b : Int) (h : ¬ (op = 4 ∨ op = 6 ∨ (9 ≤ op ∧ op ≤ 11) ∨ (17 ≤ op ∧ op ≤ 22))) (ha : -9223372036854775808 ≤ a ∧ a ≤ 9223372036854775807) (hb : -9223372036854775808 ≤ b ∧ b ≤ 9223372036854775807) (w : World) : Calls Try.prog 6 #[.int .i64 op, .int .i64 a, .int .i64 b] w fun e w' => e = .returned (.bool true) ∧ Grown w w' := by
  have HA := Lib.hid ha
  have HB := Lib.hid hb
  clear ha hb
  have t1 : turnV op = 0 := by unfold turnV; rw [if_neg (by omega), if_neg (by omega), if_neg (by omega), if_neg (by omega), if_neg (by omega)]
  have t2 : turnB op = false := decide_eq_false h
  have a1 : agV op = 0 := by unfold agV; rw [if_neg (by omega), if_neg (by omega), if_neg (by omega), if_neg (by omega), if_neg (by omega), if_neg (by omega)]
  have a2 : agB op = false := decide_eq_false (by omega)
  have e4 : (op == 4) = false := by simp; omega
  have e6 : (op == 6) = false := by simp; omega
  have h0 : op < 4 ∨ op = 5 ∨ (7 ≤ op ∧ op ≤ 8) ∨ (12 ≤ op ∧ op ≤ 16) ∨ 22 < op := by omega
  clear h
  rcases h0 with h0 | rfl | h0 | h0 | h0
  all_goals
    go_enter Try.func6, Try.ntmps6
    go_wp2_with (fail)
    refine (rdo_any _ _ _ HA.out HB.out _).mono ?_
    rintro e w1 ⟨rfl, h1⟩
    have H1 := Lib.hid h1
    clear h1
    go_wp2_with (first | (go_at_call 19; refine (turned_any _ _).mono ?_; rintro e w' ⟨rfl, rfl⟩) | (go_at_call 20; refine (against_any _ _).mono ?_; rintro e w' ⟨rfl, rfl⟩))
    refine (rdo_any _ _ _ HB.out HA.out _).mono ?_
    rintro e w2 ⟨rfl, h2⟩
    have H2 := Lib.hid h2
    clear h2
    go_wp2_with (fail)
    refine (rdo_any _ _ _ HA.out HB.out _).mono ?_
    rintro e w3 ⟨rfl, h3⟩
    have H3 := Lib.hid h3
    clear h3
    go_wp2_with (go_at_call 13; refine (awake_any _).mono ?_; rintro e w' ⟨rfl, rfl⟩)
    go_ret
    exact ⟨rfl, grown_trans H1.out (grown_trans H2.out H3.out)⟩

theorem turns_law (op a b : Int) (w1 : (Lit.int .i64 a).wf = true) (w2 : (Lit.int .i64 b).wf = true) (w : World) : Calls Try.prog 6 #[.int .i64 op, .int .i64 a, .int .i64 b] w fun e w' => e = .returned (.bool true) ∧ Grown w w' := by
  have ha := wf_i64_in w1
  have hb := wf_i64_in w2
  have hs : op = 4 ∨ op = 6 ∨ op = 9 ∨ op = 10 ∨ op = 11 ∨ op = 17 ∨ op = 18 ∨ op = 19 ∨ op = 20 ∨ op = 21 ∨ op = 22 ∨ ¬ (op = 4 ∨ op = 6 ∨ (9 ≤ op ∧ op ≤ 11) ∨ (17 ≤ op ∧ op ≤ 22)) := by omega
  rcases hs with rfl | rfl | rfl | rfl | rfl | rfl | rfl | rfl | rfl | rfl | rfl | h
  · exact turns_4 a b ha hb w
  · exact turns_6 a b ha hb w
  · exact turns_9 a b ha hb w
  · exact turns_10 a b ha hb w
  · exact turns_11 a b ha hb w
  · exact turns_17 a b ha hb w
  · exact turns_18 a b ha hb w
  · exact turns_19 a b ha hb w
  · exact turns_20 a b ha hb w
  · exact turns_21 a b ha hb w
  · exact turns_22 a b ha hb w
  · exact turns_no op a b h ha hb w
end Go.Proofs.Ytldmfjedfaikkaa
