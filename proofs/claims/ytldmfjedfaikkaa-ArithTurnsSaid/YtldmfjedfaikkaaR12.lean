/-
  The reference's One and Plain.
-/
import Derived.Test.YtldmfjedfaikkaaR11
namespace Go.Proofs.Ytldmfjedfaikkaa
open Go.RowKit

theorem and63u (x : Int) : bits .and .u64 x 63 = x % 64 := by
  have e : (BitVec.ofInt 64 x &&& BitVec.ofInt 64 63).toNat = (x % 64).toNat := by
    have h63 : (BitVec.ofInt 64 63).toNat = 2 ^ 6 - 1 := by decide
    rw [BitVec.toNat_and, h63, Nat.and_two_pow_sub_one_eq_mod, BitVec.toNat_ofInt]
    omega
  show IntKind.u64.wrap ((BitVec.ofInt 64 x &&& BitVec.ofInt 64 63).toNat : Int) = _
  rw [e, IntWalk.u64_in _ (by omega)]
  omega

set_option maxHeartbeats 1000000 in
theorem rone2_any (op a : Int) (w : World) : Calls Try.prog 15 #[.int .i64 op, .int .i64 a] w (Done w (oneV op a) (oneOk op)) := by
  have hs : op = 15 ∨ op = 16 ∨ op = 24 ∨ (op ≠ 15 ∧ op ≠ 16 ∧ op ≠ 24) := by omega
  rcases hs with rfl | rfl | rfl | ⟨h1, h2, h3⟩
  · go_enter Try.func15, Try.ntmps15
    go_wp2_with (fail)
    refine (neg_any _ _).mono ?_
    rintro e w1 ⟨rfl, h1⟩
    have H1 := Lib.hid h1
    clear h1
    go_wp2_with (fail)
    go_ret2
    exact done_of (by simp [oneV]) (by simp [oneOk]) H1.out
  · go_enter Try.func15, Try.ntmps15
    go_wp2_with (fail)
    refine (not_any _ _).mono ?_
    rintro e w1 ⟨rfl, h1⟩
    have H1 := Lib.hid h1
    clear h1
    go_wp2_with (fail)
    go_ret2
    exact done_of (by simp [oneV]) (by simp [oneOk]) H1.out
  · go_enter Try.func15, Try.ntmps15
    go_wp2_with (go_at_call 36; refine (rone_any _ _).mono ?_; rintro e w' ⟨rfl, rfl⟩)
    go_ret2
    exact done_of (by simp [oneV]) (by simp [oneOk]) (Grown.refl w)
  · go_enter Try.func15, Try.ntmps15
    go_wp2
    go_ret2
    exact done_of (by simp [oneV, h1, h2, h3]) (by simp [oneOk, h1, h2, h3]) (Grown.refl w)

set_option maxRecDepth 100000 in
set_option maxHeartbeats 2000000 in
theorem plain_any (op a b : Int) (w : World) : Calls Try.prog 12 #[.int .i64 op, .int .i64 a, .int .i64 b] w fun e w' => e = .returned (.tuple #[.int .i64 (opV op a b), .bool (opOk op b)]) ∧ w = w' := by
  obtain ⟨n, hn⟩ : ∃ n : Nat, b % 64 = n := ⟨(b % 64).toNat, by omega⟩
  have hc : bits .and .u64 (IntKind.u64.wrap b) 63 = (n : Int) := by rw [and63u, u64wrap]; omega
  have hn63 : n ≤ 63 := by omega
  have HN := Lib.hid hn
  clear hn
  have hs : op = 4 ∨ op = 5 ∨ op = 6 ∨ op = 7 ∨ op = 8 ∨ op = 9 ∨ op = 10 ∨ op = 11 ∨ op = 12 ∨ op = 13 ∨ op = 14 ∨ op = 17 ∨ op = 18 ∨ op = 19 ∨ op = 20 ∨ op = 21 ∨ op = 22 ∨ op = 23 ∨ ¬ (4 ≤ op ∧ op ≤ 14 ∨ 17 ≤ op ∧ op ≤ 23) := by omega
  rcases hs with rfl | rfl | rfl | rfl | rfl | rfl | rfl | rfl | rfl | rfl | rfl | rfl | rfl | rfl | rfl | rfl | rfl | rfl | h
  case inr.inr.inr.inr.inr.inr.inr.inr.inr.inr.inr.inr.inr.inr.inr.inr.inr.inr =>
    have hv : opV op a b = 0 := by unfold opV; repeat (rw [if_neg (by omega)])
    have ho : opOk op b = false := by unfold opOk binB; rw [decide_eq_false h]; rfl
    have HV := Lib.hid hv
    have HO := Lib.hid ho
    clear hv ho
    have h0 : op < 4 ∨ (14 < op ∧ op < 17) ∨ 23 < op := by omega
    clear h
    rcases h0 with h0 | h0 | h0
    all_goals
      go_enter Try.func12, Try.ntmps12
      go_wp2
      go_ret2
      exact ⟨ret_two HV.out.symm HO.out.symm, rfl⟩
  case inr.inr.inr.inl | inr.inr.inr.inr.inl =>
    by_cases h0 : b = 0
    · subst h0
      clear hc
      go_enter Try.func12, Try.ntmps12
      go_wp2
      go_ret2
      exact ⟨ret_two (by simp [opV]) (by simp [opOk, binB]), rfl⟩
    · go_enter Try.func12, Try.ntmps12
      go_wp2
      go_ret2
      exact ⟨ret_two (by simp [opV, h0]) (by simp [opOk, binB, h0]), rfl⟩
  all_goals
    go_enter Try.func12, Try.ntmps12
    go_wp2_with (go_at_call 36; refine (rone_any _ _).mono ?_; rintro e w' ⟨rfl, rfl⟩)
    go_ret2
    exact ⟨ret_two (by simp [opV, HN.out, u64wrap]) (by simp [opOk, binB]), rfl⟩
end Go.Proofs.Ytldmfjedfaikkaa
