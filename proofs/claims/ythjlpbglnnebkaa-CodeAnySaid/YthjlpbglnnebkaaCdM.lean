/-
  Programs as bytes: upTo, one, a row of numbers.
-/
import Derived.Test.YthjlpbglnnebkaaCdL
namespace Go.Proofs.Ythjlpbglnnebkaa
open Go.RowKit Go.Shelf
set_option linter.unusedVariables false
set_option linter.unusedSimpArgs false

theorem numS_le (most : Nat) (s : Option (List UInt8)) : (numS most s).1 ≤ most := by
  cases s with
  | none => simp [numS]
  | some l =>
    show (if (numQ l).2 = 0 ∨ most < (numQ l).1 then ((0 : Nat), (none : Option (List UInt8))) else ((numQ l).1, some (l.drop (numQ l).2))).1 ≤ _
    by_cases h : (numQ l).2 = 0 ∨ most < (numQ l).1
    · rw [if_pos h]; exact Nat.zero_le _
    · rw [if_neg h]; show (numQ l).1 ≤ most; omega
theorem numS_len (most : Nat) (s : Option (List UInt8)) : ((numS most s).2.getD []).length ≤ (s.getD []).length := by
  cases s with
  | none => simp [numS]
  | some l =>
    show ((if (numQ l).2 = 0 ∨ most < (numQ l).1 then ((0 : Nat), (none : Option (List UInt8))) else ((numQ l).1, some (l.drop (numQ l).2))).2.getD []).length ≤ _
    by_cases h : (numQ l).2 = 0 ∨ most < (numQ l).1
    · rw [if_pos h]; exact Nat.zero_le _
    · rw [if_neg h]; simp
/-- What is owned stays, where the reader alone goes on. -/
theorem own_gbu {w w' : World} {B E : Nat} {T : TypeId} {z n : Nat} {v : Value} {xs : List Value} {s : Option (List UInt8)} (ho : w.ownsRow B T z v n xs) (hr : RdAt E s w) (hT : T ≠ 50) (hg : GBu E w w') : w'.ownsRow B T z v n xs := by
  refine ho.kept (row := some E) ⟨hg.os, hg.tape, hg.output, hg.size, fun j hj hne => hg.block j hj (fun e => hne (by rw [e]))⟩ ?_
  rcases ho.2 with ⟨rfl, -⟩ | ⟨g, cap, cur, rfl, -, hh, -⟩
  · exact .inl rfl
  · refine .inr (fun e => ?_)
    have e' : g = E := by simpa [Value.ownBlock] using e
    subst e'
    unfold RdAt at hr
    rw [hh] at hr
    injection hr with hr
    injection hr with _ hr _
    exact hT hr
set_option maxRecDepth 100000 in
theorem up_r (E most : Nat) (hm : most ≤ 1048576) (s : Option (List UInt8)) (w : World) (h : RdAt E s w) (hl : (s.getD []).length ≤ 1099511627776) : Calls Try.prog 35 #[.pointer (some ⟨E, 0, none⟩), .int .u64 (most : Int)] w fun e w' => e = .returned (.int .i64 ((numS most s).1 : Int)) ∧ RdAt E (numS most s).2 w' ∧ GBu E w w' := by
  have hN := num_r E most s w h hl
  have hlt := numS_le most s
  obtain ⟨k, hk⟩ : ∃ k, k = (numS most s).1 := ⟨_, rfl⟩
  obtain ⟨s2, hs2⟩ : ∃ s2, s2 = (numS most s).2 := ⟨_, rfl⟩
  rw [← hk, ← hs2] at hN
  rw [← hk] at hlt
  rw [← hk, ← hs2]
  have hw : IntKind.i64.wrap (k : Int) = (k : Int) := by rw [IntKind.wrap_i64]; omega
  clear h hl hk hs2
  go_enter Try.func35, Try.ntmps35
  go_wp2_with (go_at_call 10; refine hN.mono ?_; rintro e w1 ⟨rfl, h1, h2⟩; have H1 := Lib.hid h1; have H2 := Lib.hid h2; clear h1 h2 hN)
  go_ret
  exact ⟨rfl, H1.out, H2.out⟩
def oneQ (s : Option (List UInt8)) : Int × Option (List UInt8) := (((numS 131072 s).1 : Int) - 1, (numS 131072 s).2)
set_option maxRecDepth 100000 in
theorem one_r (E : Nat) (s : Option (List UInt8)) (w : World) (h : RdAt E s w) (hl : (s.getD []).length ≤ 1099511627776) : Calls Try.prog 75 #[.pointer (some ⟨E, 0, none⟩)] w fun e w' => e = .returned (.int .i64 (oneQ s).1) ∧ RdAt E (oneQ s).2 w' ∧ GBu E w w' := by
  have hN : Calls Try.prog 35 #[.pointer (some ⟨E, 0, none⟩), .int .u64 131072] w fun e w' => e = .returned (.int .i64 ((numS 131072 s).1 : Int)) ∧ RdAt E (numS 131072 s).2 w' ∧ GBu E w w' := up_r E 131072 (by decide) s w h hl
  have hlt := numS_le 131072 s
  unfold oneQ
  obtain ⟨k, hk⟩ : ∃ k, k = (numS 131072 s).1 := ⟨_, rfl⟩
  obtain ⟨s2, hs2⟩ : ∃ s2, s2 = (numS 131072 s).2 := ⟨_, rfl⟩
  rw [← hk, ← hs2] at hN
  rw [← hk] at hlt
  rw [← hk, ← hs2]
  have hw : wrap64 ((k : Int) - 1) = (k : Int) - 1 := IntWalk.wrap64_in _ (by omega)
  clear h hl hk hs2
  go_enter Try.func75, Try.ntmps75
  go_wp2_with (go_at_call 35; refine hN.mono ?_; rintro e w1 ⟨rfl, h1, h2⟩; have H1 := Lib.hid h1; have H2 := Lib.hid h2; clear h1 h2 hN)
  go_ret
  exact ⟨by first | rfl | rw [hw] | simp, H1.out, H2.out⟩
/-- So many things, one behind the other; none, where the reader was bad ahead of one. -/
def manyQ {α : Type} (item : Option (List UInt8) → α × Option (List UInt8)) : Nat → List α → Option (List UInt8) → List α × Option (List UInt8)
  | 0, acc, s => (acc, s)
  | _ + 1, _, none => ([], none)
  | k + 1, acc, some l => manyQ item k (acc ++ [(item (some l)).1]) (item (some l)).2
def itemsQ {α : Type} (most : Nat) (item : Option (List UInt8) → α × Option (List UInt8)) (s : Option (List UInt8)) : List α × Option (List UInt8) := manyQ item (numS most s).1 [] (numS most s).2
def rowQ (most : Nat) (s : Option (List UInt8)) : List Int × Option (List UInt8) := itemsQ most oneQ s
end Go.Proofs.Ythjlpbglnnebkaa
