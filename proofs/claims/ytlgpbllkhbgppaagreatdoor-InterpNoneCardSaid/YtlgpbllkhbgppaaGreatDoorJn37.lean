/-
  The words of a text from a place on, as plain functions of lists of bytes.
-/
import Derived.Test.YtlgpbllkhbgppaaGreatDoorJn1
namespace Go.Proofs.YtlgpbllkhbgppaaGreatDoor
set_option linter.unusedVariables false
set_option linter.unusedSimpArgs false
open Go.RowKit

theorem take_len {l : List UInt8} {n : Nat} (h : n ≤ l.length) : (l.take n).length = n := by simp [h]
/-- A word stands at its place, and has bytes, the text's first ones. -/
theorem word_has {k : Nat} {l : List UInt8} {t : Tk} (h : wordT k l = some t) : t.at_ = k ∧ 1 ≤ t.bytes.length ∧ t.bytes.length ≤ l.length ∧ t.bytes = l.take t.bytes.length := by
  rcases l with _ | ⟨c, r⟩
  · simp [wordT] at h
  · rw [wordT] at h
    split at h
    · rename_i hc
      have hle := pastN_le nameB (c :: r)
      have h1 : 1 ≤ pastN nameB (c :: r) := by rw [pastN, if_pos (by simp [nameB, hc])]; omega
      obtain rfl := Option.some.inj h
      unfold nameT
      simp only [take_len hle]
      exact ⟨trivial, h1, hle, trivial⟩
    · split at h
      · rename_i hc
        have hle := pastN_le digitB (c :: r)
        have h1 : 1 ≤ pastN digitB (c :: r) := by rw [pastN, if_pos hc]; omega
        unfold numT at h
        split at h
        · obtain rfl := Option.some.inj h
          simp only [take_len hle]
          exact ⟨trivial, h1, hle, trivial⟩
        · cases h
      · unfold signT at h
        split at h
        · cases h
        · rename_i h0
          have hle : signN (c :: r) ≤ (c :: r).length := by have := signU_le (min 3 (c :: r).length) (c :: r); unfold signN; omega
          obtain rfl := Option.some.inj h
          simp only [take_len hle]
          exact ⟨trivial, by omega, hle, trivial⟩

/-- How far the next word begins behind the beginning of this one. -/
def stepN (l : List UInt8) (t : Tk) : Nat := t.bytes.length + skipN false (l.drop t.bytes.length)
def lexF : Nat → Nat → List UInt8 → List Tk × Option Nat
  | 0, _, _ => ([], none)
  | _ + 1, _, [] => ([], none)
  | f + 1, k, c :: r =>
    match wordT k (c :: r) with
    | none => ([], some k)
    | some t => (t :: (lexF f (k + stepN (c :: r) t) ((c :: r).drop (stepN (c :: r) t))).1, (lexF f (k + stepN (c :: r) t) ((c :: r).drop (stepN (c :: r) t))).2)
theorem step_le {k : Nat} {l : List UInt8} {t : Tk} (h : wordT k l = some t) : 1 ≤ stepN l t ∧ stepN l t ≤ l.length := by
  obtain ⟨_, h1, h2, _⟩ := word_has h
  unfold stepN
  have := skipN_le false (l.drop t.bytes.length)
  rw [List.length_drop] at this
  omega
theorem lexF_more (f g k : Nat) (l : List UInt8) (hf : l.length < f) (hg : l.length < g) : lexF f k l = lexF g k l := by
  induction f generalizing g k l with
  | zero => omega
  | succ f ih =>
    rcases g with _ | g
    · omega
    · rcases l with _ | ⟨c, r⟩
      · simp [lexF]
      · unfold lexF
        rcases hw : wordT k (c :: r) with _ | t
        · rfl
        · have hs := step_le hw
          have e := ih g (k + stepN (c :: r) t) ((c :: r).drop (stepN (c :: r) t)) (by rw [List.length_drop]; omega) (by rw [List.length_drop]; omega)
          simp only [e]
/-- The words from a place on where one begins, and where there is a fault. -/
def lexR (k : Nat) (l : List UInt8) : List Tk × Option Nat := lexF (l.length + 1) k l
theorem lexR_nil (k : Nat) : lexR k [] = ([], none) := by simp [lexR, lexF]
theorem lexR_bad {k : Nat} {l : List UInt8} (hl : l ≠ []) (h : wordT k l = none) : lexR k l = ([], some k) := by
  rcases l with _ | ⟨c, r⟩
  · exact absurd rfl hl
  · unfold lexR lexF; simp only [h]
theorem lexR_good {k : Nat} {l : List UInt8} {t : Tk} (h : wordT k l = some t) : lexR k l = (t :: (lexR (k + stepN l t) (l.drop (stepN l t))).1, (lexR (k + stepN l t) (l.drop (stepN l t))).2) := by
  rcases l with _ | ⟨c, r⟩
  · simp [wordT] at h
  · have hs := step_le h
    have e : lexF ((c :: r).length) (k + stepN (c :: r) t) ((c :: r).drop (stepN (c :: r) t)) = lexR (k + stepN (c :: r) t) ((c :: r).drop (stepN (c :: r) t)) :=
      lexF_more _ _ _ _ (by rw [List.length_drop]; omega) (by omega)
    rw [← e]
    unfold lexR
    rw [lexF]
    simp only [h]
/-- The words of a text, but for the end. -/
def lexS (l : List UInt8) : List Tk × Option Nat := lexR (skipN false l) (l.drop (skipN false l))
def endT (n : Nat) : Tk := ⟨0, n, 0, []⟩
end Go.Proofs.YtlgpbllkhbgppaaGreatDoor
