/-
  Iterators: over a row of numbers.
-/
import Derived.Test.YtlejpoofgnenhaaGrL
namespace Go.Proofs.Ytlejpoofgnenhaa
open Go.RowKit
set_option linter.unusedVariables false
set_option linter.unusedSimpArgs false

attribute [local go_sem] Oper.semAt_some

def NoW : Nat → Prop := fun _ => False
theorem Framed.refl (F0 Wr : Nat → Prop) (A : World) : Framed F0 F0 Wr A A := ⟨rfl, rfl, rfl, Nat.le_refl _, fun _ _ _ _ => rfl, fun _ h => .inl h⟩
theorem Framed.on {F0 F F' Wr : Nat → Prop} {W A B : World} (h : Framed F0 F Wr W A) (k : StepOn F F' A B) : Framed F0 F' Wr W B :=
  ⟨k.os.trans h.os, k.tape.trans h.tape, k.output.trans h.output, Nat.le_trans h.size k.size, fun i hi hn hw => (k.block i (Nat.lt_of_lt_of_le hi h.size) (fun e => by
    rcases h.foot i e with q | q
    · exact hn q
    · omega)).trans (h.block i hi hn hw), fun i hi => by
    rcases k.foot i hi with q | q
    · exact h.foot i q
    · exact .inr (Nat.le_trans h.size q)⟩
theorem Framed.below {F0 F Wr : Nat → Prop} {W A B : World} (h : Framed F0 F Wr W A) (k : Below A.heap.size A B) : Framed F0 F Wr W B :=
  ⟨k.os.trans h.os, k.tape.trans h.tape, k.output.trans h.output, Nat.le_trans h.size k.size, fun i hi hn hw => (k.block i (Nat.lt_of_lt_of_le hi h.size)).trans (h.block i hi hn hw), h.foot⟩
theorem StepOff.below {F : Nat → Prop} {A B : World} (k : Below A.heap.size A B) (hF : ∀ i, F i → i < A.heap.size) : StepOff F A B := ⟨k.os, k.tape, k.output, k.size, fun i hi => k.block i (hF i hi)⟩
/-- What the rounds do not hold. -/
theorem apart_on {S F F' : Nat → Prop} {A B : World} (h : ∀ k, S k → ¬ F k) (hS : ∀ k, S k → k < A.heap.size) (k : StepOn F F' A B) : ∀ k, S k → ¬ F' k := fun i hi e => by
  rcases k.foot i e with q | q
  · exact h i hi q
  · have := hS i hi; omega
theorem take_pre {α : Type} (l : List α) (i : Nat) (hi : i < l.length) : (l.take i ++ [l[i]]) <+: l := by
  rw [← List.take_succ_eq_append_getElem hi]
  exact List.take_prefix _ _
/-- Below n0, where the rounds hold nothing, all is as it was. -/
theorem Framed.low {F0 F : Nat → Prop} {S : Nat → Prop} {W A : World} {n0 : Nat} (h : Framed F0 F NoW W A) (hs : ∀ k, k < n0 → S k) (hS : ∀ k, S k → ¬ F0 k) (hl : ∀ k, S k → k < W.heap.size) : Below n0 W A :=
  ⟨h.os, h.tape, h.output, h.size, fun k hk => h.block k (hl k (hs k hk)) (hS k (hs k hk)) (fun e => e)⟩
theorem Framed.cell {F0 F S : Nat → Prop} {W A : World} {b j : Nat} {v : Value} (h : Framed F0 F NoW W A) (hb : S b) (hS : ∀ k, S k → ¬ F0 k) (hl : ∀ k, S k → k < W.heap.size) (hc : W.cell? ⟨b, j, none⟩ = some v) : A.cell? ⟨b, j, none⟩ = some v :=
  (World.cell?_of_block (a := ⟨b, j, none⟩) (h.block b (hl b hb) (hS b hb) (fun e => e))).trans hc

set_option maxRecDepth 100000 in
set_option maxHeartbeats 4000000 in
theorem values_sep (n0 bx : Nat) (V : Value) (l : List Int) (S : Nat → Prop) (W : World) (hbx : W.cell? ⟨bx, 0, none⟩ = some V) (hv : GNs n0 W V l) (hm : l.length ≤ 1048576) (hs : ∀ k, k < n0 → S k) (hsx : S bx) (hSl : ∀ k, S k → k < W.heap.size) :
    SepGives Try.prog 57 #[.pointer (some ⟨bx, 0, none⟩)] (fun x : Int => .int .i64 x) l S NoW (fun _ => True) W := by
  intro y J F0 hJoff hJlt hJ hF0 h0
  have hS0 : ∀ k, S k → ¬ F0 k := fun k hk e => hF0 k e hk
  obtain ⟨A, c, rfl, -⟩ := id hv
  obtain ⟨m, hml⟩ : ∃ m, m = l.length := ⟨_, rfl⟩
  rw [← hml] at hv hbx hm
  have Hv := Lib.hid hv
  have Hml := Lib.hid hml
  have Hbx := Lib.hid hbx
  have HJ := Lib.hid hJ
  have HJlt := Lib.hid hJlt
  have HJoff := Lib.hid hJoff
  have HS0 := Lib.hid hS0
  have HSl := Lib.hid hSl
  have Hs := Lib.hid hs
  have H0 := Lib.hid h0
  clear hv hml hJ hJlt hJoff hS0 hs hF0 h0 hSl
  have HR0 : Hid (Framed F0 F0 NoW W W) := Lib.hid (Framed.refl _ _ _)
  change Calls _ _ #[.func (.yield y) #[] #[], .pointer (some ⟨bx, 0, none⟩)] _ _
  go_enter Try.func57, Try.ntmps57
  go_upto_region 1 with fail
  clear hbx
  go_loopw [7] (fun u7 wr => ∃ (i : Nat) (F : Nat → Prop), i ≤ m ∧ u7 = .int .i64 i ∧ Hid (J (l.take i) F wr) ∧ Hid (Framed F0 F NoW W wr) ∧ Hid (∀ k, S k → ¬ F k)) (fun u7 _ => m - (intOf u7).toNat)
  case atStart => exact ⟨0, F0, Nat.zero_le _, rfl, H0, HR0, HS0⟩
  case round =>
    clear H0 HR0
    obtain ⟨i, F, hi, rfl, HJi, HR, HF⟩ := hrel
    by_cases hlt : i < m
    · have hil : i < l.length := by rw [← Hml.out]; exact hlt
      obtain ⟨b, o, rfl, hb, hc⟩ := (Hv.out.keep (HR.out.low Hs.out HS0.out HSl.out)).at hil
      obtain ⟨fn, tmps, assign, body, hy, hR⟩ := HJ.out (l.take i) l[i] F wr HJi.out (take_pre l i hil)
      have hst : l.take (i + 1) = l.take i ++ [l[i]] := List.take_succ_eq_append_getElem hil
      obtain ⟨x, hx⟩ : ∃ x, x = l[i] := ⟨_, rfl⟩
      rw [← hx] at hc hy hR hst
      have Hst := Lib.hid hst
      have HR2 := Lib.hid hR
      clear hx hst hb hR
      go_upto_region 3 with fail
      refine (wpIn_wide (n := 0)).1 ?_
      gi_wp2
      refine ⟨rfl, HR2.out.mono ?_⟩
      rintro e W3 ⟨rfl, F', hJ3, hon⟩
      have HJ3 := Lib.hid hJ3
      have HR3 := Lib.hid (HR.out.on hon)
      have HF3 := Lib.hid (apart_on HF.out (fun k hk => Nat.lt_of_lt_of_le (HSl.out k hk) HR.out.size) hon)
      clear hJ3 hon hy HR2
      dsimp only
      gi_wp2
      go_wp2
      go_roundw
      case rel => exact ⟨i + 1, F', by omega, by go_num, Lib.hid (by rw [Hst.out]; exact HJ3.out), HR3, HF3⟩
      case measure => simp [intOf]; omega
    · obtain rfl : i = m := by omega
      go_wp2
      go_end0
      refine ⟨⟨_, rfl⟩, F, ?_, trivial, HR.out⟩
      have := HJi.out
      rw [Hml.out, List.take_length] at this
      exact this

theorem filter_pre (p : Int → Bool) (l : List Int) (i : Nat) (hi : i < l.length) (hp : p l[i] = true) : ((l.take i).filter p ++ [l[i]]) <+: l.filter p := by
  have h := List.take_append_drop (i + 1) l
  have h2 : l.filter p = (l.take (i + 1)).filter p ++ (l.drop (i + 1)).filter p := by rw [← List.filter_append, h]
  rw [h2, List.take_succ_eq_append_getElem hi, List.filter_append]
  simp [hp]
theorem filter_step (p : Int → Bool) (l : List Int) (i : Nat) (hi : i < l.length) : (l.take (i + 1)).filter p = (l.take i).filter p ++ (if p l[i] then [l[i]] else []) := by
  rw [List.take_succ_eq_append_getElem hi, List.filter_append]
  cases h : p l[i] <;> simp [h]

end Go.Proofs.Ytlejpoofgnenhaa
