/-
  Digits, one by one: what the reference's number is, against the library's.
-/
import Derived.Test.YtmoeokfjfnegmaaDoorA5
namespace Go.Proofs.YtmoeokfjfnegmaaDoor
open Go.RowKit

/-- The digits from a place on. -/
def digs (s : ByteArray) (i : Nat) : List UInt8 := (s.data.toList.drop i).take (pastN digitB (s.data.toList.drop i))
theorem digs_on (s : ByteArray) (i : Nat) (h : i < s.size) (hd : digitB s[i].toNat = true) : digs s i = s[i] :: digs s (i + 1) := by
  unfold digs
  rw [drop_at s i h, pastN, if_pos hd, List.take_succ_cons]
theorem digs_off (s : ByteArray) (i : Nat) (h : i < s.size) (hd : digitB s[i].toNat = false) : digs s i = [] := by
  unfold digs
  rw [drop_at s i h, pastN, if_neg (by simp [hd]), List.take_zero]
theorem digs_end (s : ByteArray) (i : Nat) (h : ¬ i < s.size) : digs s i = [] := by
  unfold digs
  rw [List.drop_of_length_le (by simpa using h)]
  rfl

/-- What the loop over digits holds. -/
def NumRel (s : ByteArray) (j i : Nat) (a : Int) (f : Bool) : Prop :=
  match f with
  | true => ∃ acc : Nat, a = acc ∧ acc ≤ 18446744073709551615 ∧ Lib.parseUintM 18446744073709551615 acc (digs s i) = Lib.parseUintB 64 (digs s j)
  | false => Lib.parseUintB 64 (digs s j) = .range
theorem num_start (s : ByteArray) (j : Nat) (h : j < s.size) (hd : digitB s[j].toNat = true) : NumRel s j j 0 true := by
  refine ⟨0, rfl, Nat.zero_le _, ?_⟩
  unfold Lib.parseUintB
  rw [if_neg (by rw [digs_on s j h hd]; simp)]
theorem num_bad (s : ByteArray) (j i : Nat) (a b : Int) (k : Nat) (h : NumRel s j i a false) : NumRel s j k b false := h
theorem digit_nat {c : UInt8} (h : digitB c.toNat = true) : 48 ≤ c.toNat ∧ c.toNat ≤ 57 := by
  have h2 : 48 ≤ (c.toNat : Int) ∧ (c.toNat : Int) ≤ 57 := by simpa [digitB] using h
  omega
theorem num_step (s : ByteArray) (j i : Nat) (a : Int) (hi : i < s.size) (hd : digitB s[i].toNat = true) (h : NumRel s j i a true) :
    0 ≤ a ∧ a ≤ 18446744073709551615 ∧
    (1844674407370955161 < a → ∀ b, NumRel s j (i + 1) b false) ∧
    (a = 1844674407370955161 → 5 < (s[i].toNat : Int) - 48 → ∀ b, NumRel s j (i + 1) b false) ∧
    (a ≤ 1844674407370955161 → (a = 1844674407370955161 → (s[i].toNat : Int) - 48 ≤ 5) → NumRel s j (i + 1) (a * 10 + ((s[i].toNat : Int) - 48)) true ∧ a * 10 + ((s[i].toNat : Int) - 48) ≤ 18446744073709551615) := by
  obtain ⟨acc, rfl, hacc, hp⟩ := h
  obtain ⟨d1, d2⟩ := digit_nat hd
  rw [digs_on s i hi hd, Lib.parseUintM, if_pos ⟨d1, d2⟩] at hp
  refine ⟨by omega, by omega, fun h1 b => ?_, fun h1 h2 b => ?_, fun h1 h2 => ?_⟩
  · rw [if_pos (by omega)] at hp
    exact hp.symm
  · rw [if_neg (by omega), if_pos (by omega)] at hp
    exact hp.symm
  · rw [if_neg (by omega), if_neg (by omega)] at hp
    exact ⟨⟨acc * 10 + (s[i].toNat - 48), by omega, by omega, hp⟩, by omega⟩
theorem num_ok (s : ByteArray) (j i : Nat) (a : Int) (hj : j < s.size) (hl : letterB s[j].toNat = false) (hd : digitB s[j].toNat = true) (hi : i = j + pastN digitB (s.data.toList.drop j)) (he : digs s i = []) (h : NumRel s j i a true) :
    wordT j (s.data.toList.drop j) = some ⟨2, j, wrap64 a, (s.extract j i).data.toList⟩ := by
  obtain ⟨acc, rfl, _, hp⟩ := h
  rw [he] at hp
  have hx : (s.extract j i).data.toList = digs s j := by
    subst hi
    rw [extract_drop]
    unfold digs
    simp
  rw [word_at s j hj, if_neg (by simp [hl]), if_pos hd, hx]
  unfold numT
  rw [show (s.data.toList.drop j).take (pastN digitB (s.data.toList.drop j)) = digs s j from rfl, ← hp]
  rfl
theorem num_none (s : ByteArray) (j i : Nat) (a : Int) (hj : j < s.size) (hl : letterB s[j].toNat = false) (hd : digitB s[j].toNat = true) (h : NumRel s j i a false) : wordT j (s.data.toList.drop j) = none := by
  rw [word_at s j hj, if_neg (by simp [hl]), if_pos hd]
  unfold numT
  rw [show (s.data.toList.drop j).take (pastN digitB (s.data.toList.drop j)) = digs s j from rfl, show Lib.parseUintB 64 (digs s j) = .range from h]
end Go.Proofs.YtmoeokfjfnegmaaDoor
