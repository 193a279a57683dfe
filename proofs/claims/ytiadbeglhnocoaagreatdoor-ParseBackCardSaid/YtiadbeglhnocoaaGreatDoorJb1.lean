/-
  The words of a text, as plain functions of lists of bytes.
-/
import Derived.WalkKit
import Derived.IntWalk
import Derived.Lib.ParseIntB
namespace Go.Proofs.YtiadbeglhnocoaaGreatDoor
set_option linter.unusedVariables false
set_option linter.unusedSimpArgs false
open Go.RowKit

def letterB (c : Int) : Bool := decide (97 ≤ c ∧ c ≤ 122 ∨ 65 ≤ c ∧ c ≤ 90 ∨ c = 95)
def digitB (c : Int) : Bool := decide (48 ≤ c ∧ c ≤ 57)
def nameB (c : Int) : Bool := letterB c || digitB c
def noteB (c : Int) : Bool := decide (c ≠ 10)
def gapB (c : Int) : Bool := decide (c = 32 ∨ c = 9 ∨ c = 10 ∨ c = 13)

/-- How many bytes at the beginning may stand there. -/
def pastN (p : Int → Bool) : List UInt8 → Nat
  | [] => 0
  | c :: r => if p c.toNat = true then pastN p r + 1 else 0
theorem pastN_le (p : Int → Bool) (l : List UInt8) : pastN p l ≤ l.length := by
  induction l with
  | nil => exact Nat.le_refl _
  | cons c r ih => unfold pastN; split <;> simp <;> omega

/-- How many bytes say nothing; in a note: what is left of it, and what follows. -/
def skipN : Bool → List UInt8 → Nat
  | _, [] => 0
  | true, c :: r => if noteB c.toNat = true then skipN true r + 1 else skipN false r + 1
  | false, c :: r => if gapB c.toNat = true then skipN false r + 1 else if c.toNat = 35 then skipN true r + 1 else 0
theorem skipN_le (b : Bool) (l : List UInt8) : skipN b l ≤ l.length := by
  induction l generalizing b with
  | nil => cases b <;> exact Nat.le_refl _
  | cons c r ih =>
    have h1 := ih true
    have h2 := ih false
    cases b <;> unfold skipN <;> (repeat' split) <;> simp <;> omega

/-- A note is gone through, then what follows. -/
theorem skipN_note (l : List UInt8) : skipN true l = pastN noteB l + skipN false (l.drop (pastN noteB l)) := by
  induction l with
  | nil => simp [skipN, pastN]
  | cons c r ih =>
    by_cases h : noteB c.toNat = true
    · simp only [skipN, pastN, h, if_true, List.drop_succ_cons, ih]; omega
    · have hc : (c.toNat : Int) = 10 := by simpa [noteB] using h
      have hg : gapB c.toNat = true := by simp [gapB, hc]
      have e1 : skipN true (c :: r) = skipN false r + 1 := by rw [skipN, if_neg h]
      have e2 : skipN false (c :: r) = skipN false r + 1 := by rw [skipN, if_pos hg]
      have e3 : pastN noteB (c :: r) = 0 := by rw [pastN, if_neg h]
      rw [e1, e3, List.drop_zero, e2]; omega

def keptW : List (List UInt8) := [[102, 110], [118, 97, 114], [105, 102], [101, 108, 115, 101], [119, 104, 105, 108, 101], [102, 111, 114], [116, 111], [115, 116, 101, 112], [98, 114, 101, 97, 107], [99, 111, 110, 116, 105, 110, 117, 101], [114, 101, 116, 117, 114, 110], [112, 114, 105, 110, 116], [110, 101, 119], [108, 101, 110], [114, 111, 119, 115], [99, 111, 108, 115], [105, 110, 112, 117, 116], [116, 114, 117, 101], [102, 97, 108, 115, 101], [105, 110, 116], [98, 111, 111, 108]]
def signW : List (List UInt8) := [[62, 62, 62], [60, 60], [62, 62], [60, 61], [62, 61], [61, 61], [33, 61], [38, 38], [124, 124], [40], [41], [123], [125], [91], [93], [44], [59], [58], [61], [60], [62], [43], [45], [42], [47], [37], [38], [124], [94], [33], [126]]
def keptB (l : List UInt8) : Bool := keptW.any (l == ·)
def signB (l : List UInt8) : Bool := signW.any (l == ·)
/-- How many bytes the longest sign has, of at most so many. -/
def signU : Nat → List UInt8 → Nat
  | 0, _ => 0
  | z + 1, l => if signB (l.take (z + 1)) = true then z + 1 else signU z l
theorem signU_le (z : Nat) (l : List UInt8) : signU z l ≤ z := by
  induction z with
  | zero => exact Nat.le_refl _
  | succ z ih => unfold signU; split <;> omega
def signN (l : List UInt8) : Nat := signU (min 3 l.length) l

/-- A word: its kind, its place, its number, its bytes. -/
structure Tk where
  kind : Int
  at_ : Nat
  num : Int
  bytes : List UInt8
def Tk.none : Tk := ⟨0, 0, 0, []⟩
def tkC (t : Tk) : List Value := [.int .i64 t.kind, .int .i64 t.at_, .int .i64 t.num, .string ⟨t.bytes.toArray⟩]
def tkV (t : Tk) : Value := .agg #[.int .i64 t.kind, .int .i64 t.at_, .int .i64 t.num, .string ⟨t.bytes.toArray⟩]
def nameT (k : Nat) (l : List UInt8) : Tk := ⟨if keptB (l.take (pastN nameB l)) = true then 3 else 1, k, 0, l.take (pastN nameB l)⟩
def numT (k : Nat) (l : List UInt8) : Option Tk :=
  match Lib.parseUintB 64 (l.take (pastN digitB l)) with
  | .ok u => some ⟨2, k, wrap64 u, l.take (pastN digitB l)⟩
  | _ => Option.none
def signT (k : Nat) (l : List UInt8) : Option Tk := if signN l = 0 then Option.none else some ⟨4, k, 0, l.take (signN l)⟩
def wordT (k : Nat) : List UInt8 → Option Tk
  | [] => Option.none
  | c :: r => if letterB c.toNat = true then some (nameT k (c :: r)) else if digitB c.toNat = true then numT k (c :: r) else signT k (c :: r)
def tkO (o : Option Tk) : Tk := o.getD Tk.none

theorem extract_drop (s : ByteArray) (k n : Nat) : s.extract k (k + n) = ⟨((s.data.toList.drop k).take n).toArray⟩ := by
  apply ByteArray.ext
  apply Array.toList_inj.mp
  rw [ByteArray.data_extract, Array.toList_extract]
  simp
end Go.Proofs.YtiadbeglhnocoaaGreatDoor
