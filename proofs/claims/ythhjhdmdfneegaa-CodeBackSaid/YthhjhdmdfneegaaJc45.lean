/-
  Which programs may be, by the reference: an instruction's types: the chain.
  Which programs may be, by the reference: an instruction's types: whole.
-/
import Derived.Test.YthhjhdmdfneegaaJc42
import Derived.Test.YthhjhdmdfneegaaJc43
import Derived.Test.YthhjhdmdfneegaaJc44
import Derived.StillTailTactics
namespace Go.Proofs.Ythhjhdmdfneegaa
set_option linter.unusedVariables false
set_option linter.unusedSimpArgs false
open Go.RowKit Go.Shelf

structure SameI (s s' : Nat → Value) : Prop where
  k3 : s' 3 = s 3
  k4 : s' 4 = s 4
  k5 : s' 5 = s 5
  k7 : s' 7 = s 7
  k8 : s' 8 = s 8
  k51 : s' 51 = s 51
theorem Wi.re {s : Nat → Value} {w0 w : World} {pb fb xb : Nat} {fA : Option Addr} {fn fc : Nat} {mn : Int} {V : RV} {f : SF} {x : SIn} {aA : Option Addr} {an ac : Nat} {k : Int} (h : Wi s w0 w pb fb xb fA fn fc mn V f x aA an ac k) {s' : Nat → Value} (e : SameI s s') : Wi s' w0 w pb fb xb fA fn fc mn V f x aA an ac k :=
  ⟨e.k3.trans h.s3, e.k4.trans h.s4, e.k5.trans h.s5, e.k7.trans h.s7, e.k8.trans h.s8, e.k51.trans h.s51, h.cp, h.cf, h.cx, h.b, h.of_, h.an_, h.an1, h.to0⟩
/-- What the tests want besides. -/
structure Wj (n0 : Nat) (w : World) (fA : Option Addr) (fn fc : Nat) (V : RV) (f : SF) (x : SIn) (aA : Option Addr) (an ac : Nat) (fs : List (List UInt8 × SF)) : Prop where
  p : GNs n0 w (.slice V.pA V.pn V.pc) f.params
  pp : ∀ y ∈ f.params, 1 ≤ y ∧ y ≤ 4
  t : ∀ (X : World) (id : Int), Below w.heap.size w X → Calls Try.prog 56 #[.agg V.cs, .int .i64 id] X fun e w' => e = .returned (.int .i64 (typQ f id)) ∧ Below X.heap.size X w'
  a : GNs w.heap.size w (.slice aA an ac) x.args
  F : CFs n0 w (.slice fA fn fc) fs
  fs : FnsOk fs
  n0 : n0 ≤ w.heap.size
  fn : fn ≤ 256
theorem ik18 {s : Nat → Value} {w0 w : World} {pb fb xb : Nat} {fA : Option Addr} {fn fc : Nat} {mn : Int} {V : RV} {f : SF} {x : SIn} {aA : Option Addr} {an ac : Nat} {k : Int} {n0 : Nat} {fs : List (List UInt8 × SF)} (h : Wi s w0 w pb fb xb fA fn fc mn V f x aA an ac k) (j : Wj n0 w fA fn fc V f x aA an ac fs) (Q : Exit → Act → World → Prop) (hQ : InQ w0 f x Q) (hN : x.op ≠ 36 → ∀ s', SameI s s' → Q .normal (fi s') w) (ho : x.op ≠ 36) : inS18.wp Try.prog Q (fi s) w := by
  have e : inS18 = .skip := by kernel_rfl
  rw [e]
  exact wp_skip (hN ho s ⟨rfl, rfl, rfl, rfl, rfl, rfl⟩)
set_option maxRecDepth 100000 in
set_option maxHeartbeats 8000000 in
theorem ik17 {s : Nat → Value} {w0 w : World} {pb fb xb : Nat} {fA : Option Addr} {fn fc : Nat} {mn : Int} {V : RV} {f : SF} {x : SIn} {aA : Option Addr} {an ac : Nat} {k : Int} {n0 : Nat} {fs : List (List UInt8 × SF)} (h : Wi s w0 w pb fb xb fA fn fc mn V f x aA an ac k) (j : Wj n0 w fA fn fc V f x aA an ac fs) (Q : Exit → Act → World → Prop) (hQ : InQ w0 f x Q) (hN : x.op ≠ 36 → ∀ s', SameI s s' → Q .normal (fi s') w) : inS17.wp Try.prog Q (fi s) w := by
  have H := Lib.hid h
  have J := Lib.hid j
  have HQ := Lib.hid hQ
  have HN := Lib.hid hN
  have h51 := h.s51
  obtain ⟨o, ho⟩ : ∃ o, o = x.op := ⟨_, rfl⟩
  have Ho := Lib.hid ho
  rw [← ho] at h51
  rw [inS17_eq, fi_lit, h51]
  clear h j hQ hN ho
  apply wp_seq_k
  intro K hK
  conv => arg 2; whnf
  by_cases v0 : o = 36
  · subst v0
    clear h51
    go_wp2
    refine wp_fi _ rfl rfl fun s' hs => ?_
    have h := H.out
    have j := J.out
    have hQ := HQ.out
    have ho := Ho.out
    have e : SameI s s' := ⟨got2 (hs 3 (by omega)) rfl, got2 (hs 4 (by omega)) rfl, got2 (hs 5 (by omega)) rfl, got2 (hs 7 (by omega)) rfl, got2 (hs 8 (by omega)) rfl, (show s' 51 = .int .i64 36 from got2 (hs 51 (by omega)) rfl).trans (by rw [h.s51, ← ho])⟩
    exact iw17 (h.re e) j.F j.fs j.n0 j.fn Q hQ
  · have d0 : (o == 36) = false := by simp [v0]
    go_wp2
    refine wp_fi _ rfl rfl fun s' hs => ?_
    have h := H.out
    have j := J.out
    have hQ := HQ.out
    have hN := HN.out
    have ho := Ho.out
    have e : SameI s s' := ⟨got2 (hs 3 (by omega)) rfl, got2 (hs 4 (by omega)) rfl, got2 (hs 5 (by omega)) rfl, got2 (hs 7 (by omega)) rfl, got2 (hs 8 (by omega)) rfl, (show s' 51 = .int .i64 o from got2 (hs 51 (by omega)) rfl).trans h51.symm⟩
    exact ik18 (h.re e) j Q hQ (fun ho s2 e2 => hN ho s2 ⟨e2.k3.trans e.k3, e2.k4.trans e.k4, e2.k5.trans e.k5, e2.k7.trans e.k7, e2.k8.trans e.k8, e2.k51.trans e.k51⟩) (by omega)
set_option maxRecDepth 100000 in
set_option maxHeartbeats 8000000 in
theorem ik16 {s : Nat → Value} {w0 w : World} {pb fb xb : Nat} {fA : Option Addr} {fn fc : Nat} {mn : Int} {V : RV} {f : SF} {x : SIn} {aA : Option Addr} {an ac : Nat} {k : Int} {n0 : Nat} {fs : List (List UInt8 × SF)} (h : Wi s w0 w pb fb xb fA fn fc mn V f x aA an ac k) (j : Wj n0 w fA fn fc V f x aA an ac fs) (Q : Exit → Act → World → Prop) (hQ : InQ w0 f x Q) (hN : x.op ≠ 36 → ∀ s', SameI s s' → Q .normal (fi s') w) : inS16.wp Try.prog Q (fi s) w := by
  have H := Lib.hid h
  have J := Lib.hid j
  have HQ := Lib.hid hQ
  have HN := Lib.hid hN
  have h51 := h.s51
  obtain ⟨o, ho⟩ : ∃ o, o = x.op := ⟨_, rfl⟩
  have Ho := Lib.hid ho
  rw [← ho] at h51
  rw [inS16_eq, fi_lit, h51]
  clear h j hQ hN ho
  apply wp_seq_k
  intro K hK
  conv => arg 2; whnf
  by_cases v0 : o = 35
  · subst v0
    clear h51
    go_wp2
    refine wp_fi _ rfl rfl fun s' hs => ?_
    have h := H.out
    have j := J.out
    have hQ := HQ.out
    have ho := Ho.out
    have e : SameI s s' := ⟨got2 (hs 3 (by omega)) rfl, got2 (hs 4 (by omega)) rfl, got2 (hs 5 (by omega)) rfl, got2 (hs 7 (by omega)) rfl, got2 (hs 8 (by omega)) rfl, (show s' 51 = .int .i64 35 from got2 (hs 51 (by omega)) rfl).trans (by rw [h.s51, ← ho])⟩
    exact iw16 (h.re e) (by omega) Q hQ
  · have d0 : (o == 35) = false := by simp [v0]
    go_wp2
    refine wp_fi _ rfl rfl fun s' hs => ?_
    have h := H.out
    have j := J.out
    have hQ := HQ.out
    have hN := HN.out
    have ho := Ho.out
    have e : SameI s s' := ⟨got2 (hs 3 (by omega)) rfl, got2 (hs 4 (by omega)) rfl, got2 (hs 5 (by omega)) rfl, got2 (hs 7 (by omega)) rfl, got2 (hs 8 (by omega)) rfl, (show s' 51 = .int .i64 o from got2 (hs 51 (by omega)) rfl).trans h51.symm⟩
    exact ik17 (h.re e) j Q hQ (fun ho s2 e2 => hN ho s2 ⟨e2.k3.trans e.k3, e2.k4.trans e.k4, e2.k5.trans e.k5, e2.k7.trans e.k7, e2.k8.trans e.k8, e2.k51.trans e.k51⟩) 
set_option maxRecDepth 100000 in
set_option maxHeartbeats 8000000 in
theorem ik15 {s : Nat → Value} {w0 w : World} {pb fb xb : Nat} {fA : Option Addr} {fn fc : Nat} {mn : Int} {V : RV} {f : SF} {x : SIn} {aA : Option Addr} {an ac : Nat} {k : Int} {n0 : Nat} {fs : List (List UInt8 × SF)} (h : Wi s w0 w pb fb xb fA fn fc mn V f x aA an ac k) (j : Wj n0 w fA fn fc V f x aA an ac fs) (Q : Exit → Act → World → Prop) (hQ : InQ w0 f x Q) (hN : x.op ≠ 36 → ∀ s', SameI s s' → Q .normal (fi s') w) : inS15.wp Try.prog Q (fi s) w := by
  have H := Lib.hid h
  have J := Lib.hid j
  have HQ := Lib.hid hQ
  have HN := Lib.hid hN
  have h51 := h.s51
  obtain ⟨o, ho⟩ : ∃ o, o = x.op := ⟨_, rfl⟩
  have Ho := Lib.hid ho
  rw [← ho] at h51
  rw [inS15_eq, fi_lit, h51]
  clear h j hQ hN ho
  apply wp_seq_k
  intro K hK
  conv => arg 2; whnf
  by_cases v0 : o = 34
  · subst v0
    clear h51
    go_wp2
    refine wp_fi _ rfl rfl fun s' hs => ?_
    have h := H.out
    have j := J.out
    have hQ := HQ.out
    have ho := Ho.out
    have e : SameI s s' := ⟨got2 (hs 3 (by omega)) rfl, got2 (hs 4 (by omega)) rfl, got2 (hs 5 (by omega)) rfl, got2 (hs 7 (by omega)) rfl, got2 (hs 8 (by omega)) rfl, (show s' 51 = .int .i64 34 from got2 (hs 51 (by omega)) rfl).trans (by rw [h.s51, ← ho])⟩
    exact iw15 (h.re e) (by omega) Q hQ
  · have d0 : (o == 34) = false := by simp [v0]
    go_wp2
    refine wp_fi _ rfl rfl fun s' hs => ?_
    have h := H.out
    have j := J.out
    have hQ := HQ.out
    have hN := HN.out
    have ho := Ho.out
    have e : SameI s s' := ⟨got2 (hs 3 (by omega)) rfl, got2 (hs 4 (by omega)) rfl, got2 (hs 5 (by omega)) rfl, got2 (hs 7 (by omega)) rfl, got2 (hs 8 (by omega)) rfl, (show s' 51 = .int .i64 o from got2 (hs 51 (by omega)) rfl).trans h51.symm⟩
    exact ik16 (h.re e) j Q hQ (fun ho s2 e2 => hN ho s2 ⟨e2.k3.trans e.k3, e2.k4.trans e.k4, e2.k5.trans e.k5, e2.k7.trans e.k7, e2.k8.trans e.k8, e2.k51.trans e.k51⟩) 
set_option maxRecDepth 100000 in
set_option maxHeartbeats 8000000 in
theorem ik14 {s : Nat → Value} {w0 w : World} {pb fb xb : Nat} {fA : Option Addr} {fn fc : Nat} {mn : Int} {V : RV} {f : SF} {x : SIn} {aA : Option Addr} {an ac : Nat} {k : Int} {n0 : Nat} {fs : List (List UInt8 × SF)} (h : Wi s w0 w pb fb xb fA fn fc mn V f x aA an ac k) (j : Wj n0 w fA fn fc V f x aA an ac fs) (Q : Exit → Act → World → Prop) (hQ : InQ w0 f x Q) (hN : x.op ≠ 36 → ∀ s', SameI s s' → Q .normal (fi s') w) : inS14.wp Try.prog Q (fi s) w := by
  have H := Lib.hid h
  have J := Lib.hid j
  have HQ := Lib.hid hQ
  have HN := Lib.hid hN
  have h51 := h.s51
  obtain ⟨o, ho⟩ : ∃ o, o = x.op := ⟨_, rfl⟩
  have Ho := Lib.hid ho
  rw [← ho] at h51
  rw [inS14_eq, fi_lit, h51]
  clear h j hQ hN ho
  apply wp_seq_k
  intro K hK
  conv => arg 2; whnf
  by_cases v0 : o = 33
  · subst v0
    clear h51
    go_wp2
    refine wp_fi _ rfl rfl fun s' hs => ?_
    have h := H.out
    have j := J.out
    have hQ := HQ.out
    have ho := Ho.out
    have e : SameI s s' := ⟨got2 (hs 3 (by omega)) rfl, got2 (hs 4 (by omega)) rfl, got2 (hs 5 (by omega)) rfl, got2 (hs 7 (by omega)) rfl, got2 (hs 8 (by omega)) rfl, (show s' 51 = .int .i64 33 from got2 (hs 51 (by omega)) rfl).trans (by rw [h.s51, ← ho])⟩
    exact iw14 (h.re e) (by omega) Q hQ
  · have d0 : (o == 33) = false := by simp [v0]
    go_wp2
    refine wp_fi _ rfl rfl fun s' hs => ?_
    have h := H.out
    have j := J.out
    have hQ := HQ.out
    have hN := HN.out
    have ho := Ho.out
    have e : SameI s s' := ⟨got2 (hs 3 (by omega)) rfl, got2 (hs 4 (by omega)) rfl, got2 (hs 5 (by omega)) rfl, got2 (hs 7 (by omega)) rfl, got2 (hs 8 (by omega)) rfl, (show s' 51 = .int .i64 o from got2 (hs 51 (by omega)) rfl).trans h51.symm⟩
    exact ik15 (h.re e) j Q hQ (fun ho s2 e2 => hN ho s2 ⟨e2.k3.trans e.k3, e2.k4.trans e.k4, e2.k5.trans e.k5, e2.k7.trans e.k7, e2.k8.trans e.k8, e2.k51.trans e.k51⟩) 
set_option maxRecDepth 100000 in
set_option maxHeartbeats 8000000 in
theorem ik13 {s : Nat → Value} {w0 w : World} {pb fb xb : Nat} {fA : Option Addr} {fn fc : Nat} {mn : Int} {V : RV} {f : SF} {x : SIn} {aA : Option Addr} {an ac : Nat} {k : Int} {n0 : Nat} {fs : List (List UInt8 × SF)} (h : Wi s w0 w pb fb xb fA fn fc mn V f x aA an ac k) (j : Wj n0 w fA fn fc V f x aA an ac fs) (Q : Exit → Act → World → Prop) (hQ : InQ w0 f x Q) (hN : x.op ≠ 36 → ∀ s', SameI s s' → Q .normal (fi s') w) : inS13.wp Try.prog Q (fi s) w := by
  have H := Lib.hid h
  have J := Lib.hid j
  have HQ := Lib.hid hQ
  have HN := Lib.hid hN
  have h51 := h.s51
  obtain ⟨o, ho⟩ : ∃ o, o = x.op := ⟨_, rfl⟩
  have Ho := Lib.hid ho
  rw [← ho] at h51
  rw [inS13_eq, fi_lit, h51]
  clear h j hQ hN ho
  apply wp_seq_k
  intro K hK
  conv => arg 2; whnf
  by_cases v0 : o = 32
  · subst v0
    clear h51
    go_wp2
    refine wp_fi _ rfl rfl fun s' hs => ?_
    have h := H.out
    have j := J.out
    have hQ := HQ.out
    have ho := Ho.out
    have e : SameI s s' := ⟨got2 (hs 3 (by omega)) rfl, got2 (hs 4 (by omega)) rfl, got2 (hs 5 (by omega)) rfl, got2 (hs 7 (by omega)) rfl, got2 (hs 8 (by omega)) rfl, (show s' 51 = .int .i64 32 from got2 (hs 51 (by omega)) rfl).trans (by rw [h.s51, ← ho])⟩
    exact iw13 (h.re e) (by omega) Q hQ
  · have d0 : (o == 32) = false := by simp [v0]
    go_wp2
    refine wp_fi _ rfl rfl fun s' hs => ?_
    have h := H.out
    have j := J.out
    have hQ := HQ.out
    have hN := HN.out
    have ho := Ho.out
    have e : SameI s s' := ⟨got2 (hs 3 (by omega)) rfl, got2 (hs 4 (by omega)) rfl, got2 (hs 5 (by omega)) rfl, got2 (hs 7 (by omega)) rfl, got2 (hs 8 (by omega)) rfl, (show s' 51 = .int .i64 o from got2 (hs 51 (by omega)) rfl).trans h51.symm⟩
    exact ik14 (h.re e) j Q hQ (fun ho s2 e2 => hN ho s2 ⟨e2.k3.trans e.k3, e2.k4.trans e.k4, e2.k5.trans e.k5, e2.k7.trans e.k7, e2.k8.trans e.k8, e2.k51.trans e.k51⟩) 
set_option maxRecDepth 100000 in
set_option maxHeartbeats 8000000 in
theorem ik12 {s : Nat → Value} {w0 w : World} {pb fb xb : Nat} {fA : Option Addr} {fn fc : Nat} {mn : Int} {V : RV} {f : SF} {x : SIn} {aA : Option Addr} {an ac : Nat} {k : Int} {n0 : Nat} {fs : List (List UInt8 × SF)} (h : Wi s w0 w pb fb xb fA fn fc mn V f x aA an ac k) (j : Wj n0 w fA fn fc V f x aA an ac fs) (Q : Exit → Act → World → Prop) (hQ : InQ w0 f x Q) (hN : x.op ≠ 36 → ∀ s', SameI s s' → Q .normal (fi s') w) : inS12.wp Try.prog Q (fi s) w := by
  have H := Lib.hid h
  have J := Lib.hid j
  have HQ := Lib.hid hQ
  have HN := Lib.hid hN
  have h51 := h.s51
  obtain ⟨o, ho⟩ : ∃ o, o = x.op := ⟨_, rfl⟩
  have Ho := Lib.hid ho
  rw [← ho] at h51
  rw [inS12_eq, fi_lit, h51]
  clear h j hQ hN ho
  apply wp_seq_k
  intro K hK
  conv => arg 2; whnf
  by_cases v0 : o = 31
  · subst v0
    clear h51
    go_wp2
    refine wp_fi _ rfl rfl fun s' hs => ?_
    have h := H.out
    have j := J.out
    have hQ := HQ.out
    have ho := Ho.out
    have e : SameI s s' := ⟨got2 (hs 3 (by omega)) rfl, got2 (hs 4 (by omega)) rfl, got2 (hs 5 (by omega)) rfl, got2 (hs 7 (by omega)) rfl, got2 (hs 8 (by omega)) rfl, (show s' 51 = .int .i64 31 from got2 (hs 51 (by omega)) rfl).trans (by rw [h.s51, ← ho])⟩
    exact iw12 (h.re e) (by omega) Q hQ
  · have d0 : (o == 31) = false := by simp [v0]
    go_wp2
    refine wp_fi _ rfl rfl fun s' hs => ?_
    have h := H.out
    have j := J.out
    have hQ := HQ.out
    have hN := HN.out
    have ho := Ho.out
    have e : SameI s s' := ⟨got2 (hs 3 (by omega)) rfl, got2 (hs 4 (by omega)) rfl, got2 (hs 5 (by omega)) rfl, got2 (hs 7 (by omega)) rfl, got2 (hs 8 (by omega)) rfl, (show s' 51 = .int .i64 o from got2 (hs 51 (by omega)) rfl).trans h51.symm⟩
    exact ik13 (h.re e) j Q hQ (fun ho s2 e2 => hN ho s2 ⟨e2.k3.trans e.k3, e2.k4.trans e.k4, e2.k5.trans e.k5, e2.k7.trans e.k7, e2.k8.trans e.k8, e2.k51.trans e.k51⟩) 
set_option maxRecDepth 100000 in
set_option maxHeartbeats 8000000 in
theorem ik11 {s : Nat → Value} {w0 w : World} {pb fb xb : Nat} {fA : Option Addr} {fn fc : Nat} {mn : Int} {V : RV} {f : SF} {x : SIn} {aA : Option Addr} {an ac : Nat} {k : Int} {n0 : Nat} {fs : List (List UInt8 × SF)} (h : Wi s w0 w pb fb xb fA fn fc mn V f x aA an ac k) (j : Wj n0 w fA fn fc V f x aA an ac fs) (Q : Exit → Act → World → Prop) (hQ : InQ w0 f x Q) (hN : x.op ≠ 36 → ∀ s', SameI s s' → Q .normal (fi s') w) : inS11.wp Try.prog Q (fi s) w := by
  have H := Lib.hid h
  have J := Lib.hid j
  have HQ := Lib.hid hQ
  have HN := Lib.hid hN
  have h51 := h.s51
  obtain ⟨o, ho⟩ : ∃ o, o = x.op := ⟨_, rfl⟩
  have Ho := Lib.hid ho
  rw [← ho] at h51
  rw [inS11_eq, fi_lit, h51]
  clear h j hQ hN ho
  apply wp_seq_k
  intro K hK
  conv => arg 2; whnf
  by_cases v0 : o = 30
  · subst v0
    clear h51
    go_wp2
    refine wp_fi _ rfl rfl fun s' hs => ?_
    have h := H.out
    have j := J.out
    have hQ := HQ.out
    have ho := Ho.out
    have e : SameI s s' := ⟨got2 (hs 3 (by omega)) rfl, got2 (hs 4 (by omega)) rfl, got2 (hs 5 (by omega)) rfl, got2 (hs 7 (by omega)) rfl, got2 (hs 8 (by omega)) rfl, (show s' 51 = .int .i64 30 from got2 (hs 51 (by omega)) rfl).trans (by rw [h.s51, ← ho])⟩
    exact iw11 (h.re e) (by omega) Q hQ
  · have d0 : (o == 30) = false := by simp [v0]
    go_wp2
    refine wp_fi _ rfl rfl fun s' hs => ?_
    have h := H.out
    have j := J.out
    have hQ := HQ.out
    have hN := HN.out
    have ho := Ho.out
    have e : SameI s s' := ⟨got2 (hs 3 (by omega)) rfl, got2 (hs 4 (by omega)) rfl, got2 (hs 5 (by omega)) rfl, got2 (hs 7 (by omega)) rfl, got2 (hs 8 (by omega)) rfl, (show s' 51 = .int .i64 o from got2 (hs 51 (by omega)) rfl).trans h51.symm⟩
    exact ik12 (h.re e) j Q hQ (fun ho s2 e2 => hN ho s2 ⟨e2.k3.trans e.k3, e2.k4.trans e.k4, e2.k5.trans e.k5, e2.k7.trans e.k7, e2.k8.trans e.k8, e2.k51.trans e.k51⟩) 
set_option maxRecDepth 100000 in
set_option maxHeartbeats 8000000 in
theorem ik10 {s : Nat → Value} {w0 w : World} {pb fb xb : Nat} {fA : Option Addr} {fn fc : Nat} {mn : Int} {V : RV} {f : SF} {x : SIn} {aA : Option Addr} {an ac : Nat} {k : Int} {n0 : Nat} {fs : List (List UInt8 × SF)} (h : Wi s w0 w pb fb xb fA fn fc mn V f x aA an ac k) (j : Wj n0 w fA fn fc V f x aA an ac fs) (Q : Exit → Act → World → Prop) (hQ : InQ w0 f x Q) (hN : x.op ≠ 36 → ∀ s', SameI s s' → Q .normal (fi s') w) : inS10.wp Try.prog Q (fi s) w := by
  have H := Lib.hid h
  have J := Lib.hid j
  have HQ := Lib.hid hQ
  have HN := Lib.hid hN
  have h51 := h.s51
  obtain ⟨o, ho⟩ : ∃ o, o = x.op := ⟨_, rfl⟩
  have Ho := Lib.hid ho
  rw [← ho] at h51
  rw [inS10_eq, fi_lit, h51]
  clear h j hQ hN ho
  apply wp_seq_k
  intro K hK
  conv => arg 2; whnf
  by_cases v0 : o = 29
  · subst v0
    clear h51
    go_wp2
    refine wp_fi _ rfl rfl fun s' hs => ?_
    have h := H.out
    have j := J.out
    have hQ := HQ.out
    have ho := Ho.out
    have e : SameI s s' := ⟨got2 (hs 3 (by omega)) rfl, got2 (hs 4 (by omega)) rfl, got2 (hs 5 (by omega)) rfl, got2 (hs 7 (by omega)) rfl, got2 (hs 8 (by omega)) rfl, (show s' 51 = .int .i64 29 from got2 (hs 51 (by omega)) rfl).trans (by rw [h.s51, ← ho])⟩
    exact iw10 (h.re e) (by omega) Q hQ
  · have d0 : (o == 29) = false := by simp [v0]
    go_wp2
    refine wp_fi _ rfl rfl fun s' hs => ?_
    have h := H.out
    have j := J.out
    have hQ := HQ.out
    have hN := HN.out
    have ho := Ho.out
    have e : SameI s s' := ⟨got2 (hs 3 (by omega)) rfl, got2 (hs 4 (by omega)) rfl, got2 (hs 5 (by omega)) rfl, got2 (hs 7 (by omega)) rfl, got2 (hs 8 (by omega)) rfl, (show s' 51 = .int .i64 o from got2 (hs 51 (by omega)) rfl).trans h51.symm⟩
    exact ik11 (h.re e) j Q hQ (fun ho s2 e2 => hN ho s2 ⟨e2.k3.trans e.k3, e2.k4.trans e.k4, e2.k5.trans e.k5, e2.k7.trans e.k7, e2.k8.trans e.k8, e2.k51.trans e.k51⟩) 
set_option maxRecDepth 100000 in
set_option maxHeartbeats 8000000 in
theorem ik9 {s : Nat → Value} {w0 w : World} {pb fb xb : Nat} {fA : Option Addr} {fn fc : Nat} {mn : Int} {V : RV} {f : SF} {x : SIn} {aA : Option Addr} {an ac : Nat} {k : Int} {n0 : Nat} {fs : List (List UInt8 × SF)} (h : Wi s w0 w pb fb xb fA fn fc mn V f x aA an ac k) (j : Wj n0 w fA fn fc V f x aA an ac fs) (Q : Exit → Act → World → Prop) (hQ : InQ w0 f x Q) (hN : x.op ≠ 36 → ∀ s', SameI s s' → Q .normal (fi s') w) : inS9.wp Try.prog Q (fi s) w := by
  have H := Lib.hid h
  have J := Lib.hid j
  have HQ := Lib.hid hQ
  have HN := Lib.hid hN
  have h51 := h.s51
  obtain ⟨o, ho⟩ : ∃ o, o = x.op := ⟨_, rfl⟩
  have Ho := Lib.hid ho
  rw [← ho] at h51
  rw [inS9_eq, fi_lit, h51]
  clear h j hQ hN ho
  apply wp_seq_k
  intro K hK
  conv => arg 2; whnf
  by_cases v0 : o = 27
  · subst v0
    clear h51
    go_wp2
    refine wp_fi _ rfl rfl fun s' hs => ?_
    have h := H.out
    have j := J.out
    have hQ := HQ.out
    have ho := Ho.out
    have e : SameI s s' := ⟨got2 (hs 3 (by omega)) rfl, got2 (hs 4 (by omega)) rfl, got2 (hs 5 (by omega)) rfl, got2 (hs 7 (by omega)) rfl, got2 (hs 8 (by omega)) rfl, (show s' 51 = .int .i64 27 from got2 (hs 51 (by omega)) rfl).trans (by rw [h.s51, ← ho])⟩
    exact iw9 (h.re e) (by omega) Q hQ
  · have d0 : (o == 27) = false := by simp [v0]
    by_cases v1 : o = 28
    · subst v1
      clear h51
      go_wp2
      refine wp_fi _ rfl rfl fun s' hs => ?_
      have h := H.out
      have j := J.out
      have hQ := HQ.out
      have ho := Ho.out
      have e : SameI s s' := ⟨got2 (hs 3 (by omega)) rfl, got2 (hs 4 (by omega)) rfl, got2 (hs 5 (by omega)) rfl, got2 (hs 7 (by omega)) rfl, got2 (hs 8 (by omega)) rfl, (show s' 51 = .int .i64 28 from got2 (hs 51 (by omega)) rfl).trans (by rw [h.s51, ← ho])⟩
      exact iw9 (h.re e) (by omega) Q hQ
    · have d1 : (o == 28) = false := by simp [v1]
      go_wp2
      refine wp_fi _ rfl rfl fun s' hs => ?_
      have h := H.out
      have j := J.out
      have hQ := HQ.out
      have hN := HN.out
      have ho := Ho.out
      have e : SameI s s' := ⟨got2 (hs 3 (by omega)) rfl, got2 (hs 4 (by omega)) rfl, got2 (hs 5 (by omega)) rfl, got2 (hs 7 (by omega)) rfl, got2 (hs 8 (by omega)) rfl, (show s' 51 = .int .i64 o from got2 (hs 51 (by omega)) rfl).trans h51.symm⟩
      exact ik10 (h.re e) j Q hQ (fun ho s2 e2 => hN ho s2 ⟨e2.k3.trans e.k3, e2.k4.trans e.k4, e2.k5.trans e.k5, e2.k7.trans e.k7, e2.k8.trans e.k8, e2.k51.trans e.k51⟩) 
set_option maxRecDepth 100000 in
set_option maxHeartbeats 8000000 in
theorem ik8 {s : Nat → Value} {w0 w : World} {pb fb xb : Nat} {fA : Option Addr} {fn fc : Nat} {mn : Int} {V : RV} {f : SF} {x : SIn} {aA : Option Addr} {an ac : Nat} {k : Int} {n0 : Nat} {fs : List (List UInt8 × SF)} (h : Wi s w0 w pb fb xb fA fn fc mn V f x aA an ac k) (j : Wj n0 w fA fn fc V f x aA an ac fs) (Q : Exit → Act → World → Prop) (hQ : InQ w0 f x Q) (hN : x.op ≠ 36 → ∀ s', SameI s s' → Q .normal (fi s') w) : inS8.wp Try.prog Q (fi s) w := by
  have H := Lib.hid h
  have J := Lib.hid j
  have HQ := Lib.hid hQ
  have HN := Lib.hid hN
  have h51 := h.s51
  obtain ⟨o, ho⟩ : ∃ o, o = x.op := ⟨_, rfl⟩
  have Ho := Lib.hid ho
  rw [← ho] at h51
  rw [inS8_eq, fi_lit, h51]
  clear h j hQ hN ho
  apply wp_seq_k
  intro K hK
  conv => arg 2; whnf
  by_cases v0 : o = 26
  · subst v0
    clear h51
    go_wp2
    refine wp_fi _ rfl rfl fun s' hs => ?_
    have h := H.out
    have j := J.out
    have hQ := HQ.out
    have ho := Ho.out
    have e : SameI s s' := ⟨got2 (hs 3 (by omega)) rfl, got2 (hs 4 (by omega)) rfl, got2 (hs 5 (by omega)) rfl, got2 (hs 7 (by omega)) rfl, got2 (hs 8 (by omega)) rfl, (show s' 51 = .int .i64 26 from got2 (hs 51 (by omega)) rfl).trans (by rw [h.s51, ← ho])⟩
    exact iw8 (h.re e) (by omega) Q hQ
  · have d0 : (o == 26) = false := by simp [v0]
    go_wp2
    refine wp_fi _ rfl rfl fun s' hs => ?_
    have h := H.out
    have j := J.out
    have hQ := HQ.out
    have hN := HN.out
    have ho := Ho.out
    have e : SameI s s' := ⟨got2 (hs 3 (by omega)) rfl, got2 (hs 4 (by omega)) rfl, got2 (hs 5 (by omega)) rfl, got2 (hs 7 (by omega)) rfl, got2 (hs 8 (by omega)) rfl, (show s' 51 = .int .i64 o from got2 (hs 51 (by omega)) rfl).trans h51.symm⟩
    exact ik9 (h.re e) j Q hQ (fun ho s2 e2 => hN ho s2 ⟨e2.k3.trans e.k3, e2.k4.trans e.k4, e2.k5.trans e.k5, e2.k7.trans e.k7, e2.k8.trans e.k8, e2.k51.trans e.k51⟩) 
set_option maxRecDepth 100000 in
set_option maxHeartbeats 8000000 in
theorem ik7 {s : Nat → Value} {w0 w : World} {pb fb xb : Nat} {fA : Option Addr} {fn fc : Nat} {mn : Int} {V : RV} {f : SF} {x : SIn} {aA : Option Addr} {an ac : Nat} {k : Int} {n0 : Nat} {fs : List (List UInt8 × SF)} (h : Wi s w0 w pb fb xb fA fn fc mn V f x aA an ac k) (j : Wj n0 w fA fn fc V f x aA an ac fs) (Q : Exit → Act → World → Prop) (hQ : InQ w0 f x Q) (hN : x.op ≠ 36 → ∀ s', SameI s s' → Q .normal (fi s') w) : inS7.wp Try.prog Q (fi s) w := by
  have H := Lib.hid h
  have J := Lib.hid j
  have HQ := Lib.hid hQ
  have HN := Lib.hid hN
  have h51 := h.s51
  obtain ⟨o, ho⟩ : ∃ o, o = x.op := ⟨_, rfl⟩
  have Ho := Lib.hid ho
  rw [← ho] at h51
  rw [inS7_eq, fi_lit, h51]
  clear h j hQ hN ho
  apply wp_seq_k
  intro K hK
  conv => arg 2; whnf
  by_cases v0 : o = 25
  · subst v0
    clear h51
    go_wp2
    refine wp_fi _ rfl rfl fun s' hs => ?_
    have h := H.out
    have j := J.out
    have hQ := HQ.out
    have ho := Ho.out
    have e : SameI s s' := ⟨got2 (hs 3 (by omega)) rfl, got2 (hs 4 (by omega)) rfl, got2 (hs 5 (by omega)) rfl, got2 (hs 7 (by omega)) rfl, got2 (hs 8 (by omega)) rfl, (show s' 51 = .int .i64 25 from got2 (hs 51 (by omega)) rfl).trans (by rw [h.s51, ← ho])⟩
    exact iw7 (h.re e) (by omega) Q hQ
  · have d0 : (o == 25) = false := by simp [v0]
    go_wp2
    refine wp_fi _ rfl rfl fun s' hs => ?_
    have h := H.out
    have j := J.out
    have hQ := HQ.out
    have hN := HN.out
    have ho := Ho.out
    have e : SameI s s' := ⟨got2 (hs 3 (by omega)) rfl, got2 (hs 4 (by omega)) rfl, got2 (hs 5 (by omega)) rfl, got2 (hs 7 (by omega)) rfl, got2 (hs 8 (by omega)) rfl, (show s' 51 = .int .i64 o from got2 (hs 51 (by omega)) rfl).trans h51.symm⟩
    exact ik8 (h.re e) j Q hQ (fun ho s2 e2 => hN ho s2 ⟨e2.k3.trans e.k3, e2.k4.trans e.k4, e2.k5.trans e.k5, e2.k7.trans e.k7, e2.k8.trans e.k8, e2.k51.trans e.k51⟩) 
set_option maxRecDepth 100000 in
set_option maxHeartbeats 8000000 in
theorem ik6 {s : Nat → Value} {w0 w : World} {pb fb xb : Nat} {fA : Option Addr} {fn fc : Nat} {mn : Int} {V : RV} {f : SF} {x : SIn} {aA : Option Addr} {an ac : Nat} {k : Int} {n0 : Nat} {fs : List (List UInt8 × SF)} (h : Wi s w0 w pb fb xb fA fn fc mn V f x aA an ac k) (j : Wj n0 w fA fn fc V f x aA an ac fs) (Q : Exit → Act → World → Prop) (hQ : InQ w0 f x Q) (hN : x.op ≠ 36 → ∀ s', SameI s s' → Q .normal (fi s') w) : inS6.wp Try.prog Q (fi s) w := by
  have H := Lib.hid h
  have J := Lib.hid j
  have HQ := Lib.hid hQ
  have HN := Lib.hid hN
  have h51 := h.s51
  obtain ⟨o, ho⟩ : ∃ o, o = x.op := ⟨_, rfl⟩
  have Ho := Lib.hid ho
  rw [← ho] at h51
  rw [inS6_eq, fi_lit, h51]
  clear h j hQ hN ho
  apply wp_seq_k
  intro K hK
  conv => arg 2; whnf
  by_cases v0 : o = 24
  · subst v0
    clear h51
    go_wp2
    refine wp_fi _ rfl rfl fun s' hs => ?_
    have h := H.out
    have j := J.out
    have hQ := HQ.out
    have ho := Ho.out
    have e : SameI s s' := ⟨got2 (hs 3 (by omega)) rfl, got2 (hs 4 (by omega)) rfl, got2 (hs 5 (by omega)) rfl, got2 (hs 7 (by omega)) rfl, got2 (hs 8 (by omega)) rfl, (show s' 51 = .int .i64 24 from got2 (hs 51 (by omega)) rfl).trans (by rw [h.s51, ← ho])⟩
    exact iw6 (h.re e) (by omega) Q hQ
  · have d0 : (o == 24) = false := by simp [v0]
    go_wp2
    refine wp_fi _ rfl rfl fun s' hs => ?_
    have h := H.out
    have j := J.out
    have hQ := HQ.out
    have hN := HN.out
    have ho := Ho.out
    have e : SameI s s' := ⟨got2 (hs 3 (by omega)) rfl, got2 (hs 4 (by omega)) rfl, got2 (hs 5 (by omega)) rfl, got2 (hs 7 (by omega)) rfl, got2 (hs 8 (by omega)) rfl, (show s' 51 = .int .i64 o from got2 (hs 51 (by omega)) rfl).trans h51.symm⟩
    exact ik7 (h.re e) j Q hQ (fun ho s2 e2 => hN ho s2 ⟨e2.k3.trans e.k3, e2.k4.trans e.k4, e2.k5.trans e.k5, e2.k7.trans e.k7, e2.k8.trans e.k8, e2.k51.trans e.k51⟩) 
set_option maxRecDepth 100000 in
set_option maxHeartbeats 8000000 in
theorem ik5 {s : Nat → Value} {w0 w : World} {pb fb xb : Nat} {fA : Option Addr} {fn fc : Nat} {mn : Int} {V : RV} {f : SF} {x : SIn} {aA : Option Addr} {an ac : Nat} {k : Int} {n0 : Nat} {fs : List (List UInt8 × SF)} (h : Wi s w0 w pb fb xb fA fn fc mn V f x aA an ac k) (j : Wj n0 w fA fn fc V f x aA an ac fs) (Q : Exit → Act → World → Prop) (hQ : InQ w0 f x Q) (hN : x.op ≠ 36 → ∀ s', SameI s s' → Q .normal (fi s') w) : inS5.wp Try.prog Q (fi s) w := by
  have H := Lib.hid h
  have J := Lib.hid j
  have HQ := Lib.hid hQ
  have HN := Lib.hid hN
  have h51 := h.s51
  obtain ⟨o, ho⟩ : ∃ o, o = x.op := ⟨_, rfl⟩
  have Ho := Lib.hid ho
  rw [← ho] at h51
  rw [inS5_eq, fi_lit, h51]
  clear h j hQ hN ho
  apply wp_seq_k
  intro K hK
  conv => arg 2; whnf
  by_cases v0 : o = 19
  · subst v0
    clear h51
    go_wp2
    refine wp_fi _ rfl rfl fun s' hs => ?_
    have h := H.out
    have j := J.out
    have hQ := HQ.out
    have ho := Ho.out
    have e : SameI s s' := ⟨got2 (hs 3 (by omega)) rfl, got2 (hs 4 (by omega)) rfl, got2 (hs 5 (by omega)) rfl, got2 (hs 7 (by omega)) rfl, got2 (hs 8 (by omega)) rfl, (show s' 51 = .int .i64 19 from got2 (hs 51 (by omega)) rfl).trans (by rw [h.s51, ← ho])⟩
    exact iw5 (h.re e) (by omega) Q hQ
  · have d0 : (o == 19) = false := by simp [v0]
    by_cases v1 : o = 20
    · subst v1
      clear h51
      go_wp2
      refine wp_fi _ rfl rfl fun s' hs => ?_
      have h := H.out
      have j := J.out
      have hQ := HQ.out
      have ho := Ho.out
      have e : SameI s s' := ⟨got2 (hs 3 (by omega)) rfl, got2 (hs 4 (by omega)) rfl, got2 (hs 5 (by omega)) rfl, got2 (hs 7 (by omega)) rfl, got2 (hs 8 (by omega)) rfl, (show s' 51 = .int .i64 20 from got2 (hs 51 (by omega)) rfl).trans (by rw [h.s51, ← ho])⟩
      exact iw5 (h.re e) (by omega) Q hQ
    · have d1 : (o == 20) = false := by simp [v1]
      by_cases v2 : o = 21
      · subst v2
        clear h51
        go_wp2
        refine wp_fi _ rfl rfl fun s' hs => ?_
        have h := H.out
        have j := J.out
        have hQ := HQ.out
        have ho := Ho.out
        have e : SameI s s' := ⟨got2 (hs 3 (by omega)) rfl, got2 (hs 4 (by omega)) rfl, got2 (hs 5 (by omega)) rfl, got2 (hs 7 (by omega)) rfl, got2 (hs 8 (by omega)) rfl, (show s' 51 = .int .i64 21 from got2 (hs 51 (by omega)) rfl).trans (by rw [h.s51, ← ho])⟩
        exact iw5 (h.re e) (by omega) Q hQ
      · have d2 : (o == 21) = false := by simp [v2]
        by_cases v3 : o = 22
        · subst v3
          clear h51
          go_wp2
          refine wp_fi _ rfl rfl fun s' hs => ?_
          have h := H.out
          have j := J.out
          have hQ := HQ.out
          have ho := Ho.out
          have e : SameI s s' := ⟨got2 (hs 3 (by omega)) rfl, got2 (hs 4 (by omega)) rfl, got2 (hs 5 (by omega)) rfl, got2 (hs 7 (by omega)) rfl, got2 (hs 8 (by omega)) rfl, (show s' 51 = .int .i64 22 from got2 (hs 51 (by omega)) rfl).trans (by rw [h.s51, ← ho])⟩
          exact iw5 (h.re e) (by omega) Q hQ
        · have d3 : (o == 22) = false := by simp [v3]
          by_cases v4 : o = 23
          · subst v4
            clear h51
            go_wp2
            refine wp_fi _ rfl rfl fun s' hs => ?_
            have h := H.out
            have j := J.out
            have hQ := HQ.out
            have ho := Ho.out
            have e : SameI s s' := ⟨got2 (hs 3 (by omega)) rfl, got2 (hs 4 (by omega)) rfl, got2 (hs 5 (by omega)) rfl, got2 (hs 7 (by omega)) rfl, got2 (hs 8 (by omega)) rfl, (show s' 51 = .int .i64 23 from got2 (hs 51 (by omega)) rfl).trans (by rw [h.s51, ← ho])⟩
            exact iw5 (h.re e) (by omega) Q hQ
          · have d4 : (o == 23) = false := by simp [v4]
            go_wp2
            refine wp_fi _ rfl rfl fun s' hs => ?_
            have h := H.out
            have j := J.out
            have hQ := HQ.out
            have hN := HN.out
            have ho := Ho.out
            have e : SameI s s' := ⟨got2 (hs 3 (by omega)) rfl, got2 (hs 4 (by omega)) rfl, got2 (hs 5 (by omega)) rfl, got2 (hs 7 (by omega)) rfl, got2 (hs 8 (by omega)) rfl, (show s' 51 = .int .i64 o from got2 (hs 51 (by omega)) rfl).trans h51.symm⟩
            exact ik6 (h.re e) j Q hQ (fun ho s2 e2 => hN ho s2 ⟨e2.k3.trans e.k3, e2.k4.trans e.k4, e2.k5.trans e.k5, e2.k7.trans e.k7, e2.k8.trans e.k8, e2.k51.trans e.k51⟩) 
set_option maxRecDepth 100000 in
set_option maxHeartbeats 8000000 in
theorem ik4 {s : Nat → Value} {w0 w : World} {pb fb xb : Nat} {fA : Option Addr} {fn fc : Nat} {mn : Int} {V : RV} {f : SF} {x : SIn} {aA : Option Addr} {an ac : Nat} {k : Int} {n0 : Nat} {fs : List (List UInt8 × SF)} (h : Wi s w0 w pb fb xb fA fn fc mn V f x aA an ac k) (j : Wj n0 w fA fn fc V f x aA an ac fs) (Q : Exit → Act → World → Prop) (hQ : InQ w0 f x Q) (hN : x.op ≠ 36 → ∀ s', SameI s s' → Q .normal (fi s') w) : inS4.wp Try.prog Q (fi s) w := by
  have H := Lib.hid h
  have J := Lib.hid j
  have HQ := Lib.hid hQ
  have HN := Lib.hid hN
  have h51 := h.s51
  obtain ⟨o, ho⟩ : ∃ o, o = x.op := ⟨_, rfl⟩
  have Ho := Lib.hid ho
  rw [← ho] at h51
  rw [inS4_eq, fi_lit, h51]
  clear h j hQ hN ho
  apply wp_seq_k
  intro K hK
  conv => arg 2; whnf
  by_cases v0 : o = 17
  · subst v0
    clear h51
    go_wp2
    refine wp_fi _ rfl rfl fun s' hs => ?_
    have h := H.out
    have j := J.out
    have hQ := HQ.out
    have ho := Ho.out
    have e : SameI s s' := ⟨got2 (hs 3 (by omega)) rfl, got2 (hs 4 (by omega)) rfl, got2 (hs 5 (by omega)) rfl, got2 (hs 7 (by omega)) rfl, got2 (hs 8 (by omega)) rfl, (show s' 51 = .int .i64 17 from got2 (hs 51 (by omega)) rfl).trans (by rw [h.s51, ← ho])⟩
    exact iw4 (h.re e) (by omega) Q hQ
  · have d0 : (o == 17) = false := by simp [v0]
    by_cases v1 : o = 18
    · subst v1
      clear h51
      go_wp2
      refine wp_fi _ rfl rfl fun s' hs => ?_
      have h := H.out
      have j := J.out
      have hQ := HQ.out
      have ho := Ho.out
      have e : SameI s s' := ⟨got2 (hs 3 (by omega)) rfl, got2 (hs 4 (by omega)) rfl, got2 (hs 5 (by omega)) rfl, got2 (hs 7 (by omega)) rfl, got2 (hs 8 (by omega)) rfl, (show s' 51 = .int .i64 18 from got2 (hs 51 (by omega)) rfl).trans (by rw [h.s51, ← ho])⟩
      exact iw4 (h.re e) (by omega) Q hQ
    · have d1 : (o == 18) = false := by simp [v1]
      go_wp2
      refine wp_fi _ rfl rfl fun s' hs => ?_
      have h := H.out
      have j := J.out
      have hQ := HQ.out
      have hN := HN.out
      have ho := Ho.out
      have e : SameI s s' := ⟨got2 (hs 3 (by omega)) rfl, got2 (hs 4 (by omega)) rfl, got2 (hs 5 (by omega)) rfl, got2 (hs 7 (by omega)) rfl, got2 (hs 8 (by omega)) rfl, (show s' 51 = .int .i64 o from got2 (hs 51 (by omega)) rfl).trans h51.symm⟩
      exact ik5 (h.re e) j Q hQ (fun ho s2 e2 => hN ho s2 ⟨e2.k3.trans e.k3, e2.k4.trans e.k4, e2.k5.trans e.k5, e2.k7.trans e.k7, e2.k8.trans e.k8, e2.k51.trans e.k51⟩) 
set_option maxRecDepth 100000 in
set_option maxHeartbeats 8000000 in
theorem ik3 {s : Nat → Value} {w0 w : World} {pb fb xb : Nat} {fA : Option Addr} {fn fc : Nat} {mn : Int} {V : RV} {f : SF} {x : SIn} {aA : Option Addr} {an ac : Nat} {k : Int} {n0 : Nat} {fs : List (List UInt8 × SF)} (h : Wi s w0 w pb fb xb fA fn fc mn V f x aA an ac k) (j : Wj n0 w fA fn fc V f x aA an ac fs) (Q : Exit → Act → World → Prop) (hQ : InQ w0 f x Q) (hN : x.op ≠ 36 → ∀ s', SameI s s' → Q .normal (fi s') w) : inS3.wp Try.prog Q (fi s) w := by
  have H := Lib.hid h
  have J := Lib.hid j
  have HQ := Lib.hid hQ
  have HN := Lib.hid hN
  have h51 := h.s51
  obtain ⟨o, ho⟩ : ∃ o, o = x.op := ⟨_, rfl⟩
  have Ho := Lib.hid ho
  rw [← ho] at h51
  rw [inS3_eq, fi_lit, h51]
  clear h j hQ hN ho
  apply wp_seq_k
  intro K hK
  conv => arg 2; whnf
  by_cases v0 : o = 15
  · subst v0
    clear h51
    go_wp2
    refine wp_fi _ rfl rfl fun s' hs => ?_
    have h := H.out
    have j := J.out
    have hQ := HQ.out
    have ho := Ho.out
    have e : SameI s s' := ⟨got2 (hs 3 (by omega)) rfl, got2 (hs 4 (by omega)) rfl, got2 (hs 5 (by omega)) rfl, got2 (hs 7 (by omega)) rfl, got2 (hs 8 (by omega)) rfl, (show s' 51 = .int .i64 15 from got2 (hs 51 (by omega)) rfl).trans (by rw [h.s51, ← ho])⟩
    exact iw3 (h.re e) (by omega) Q hQ
  · have d0 : (o == 15) = false := by simp [v0]
    by_cases v1 : o = 16
    · subst v1
      clear h51
      go_wp2
      refine wp_fi _ rfl rfl fun s' hs => ?_
      have h := H.out
      have j := J.out
      have hQ := HQ.out
      have ho := Ho.out
      have e : SameI s s' := ⟨got2 (hs 3 (by omega)) rfl, got2 (hs 4 (by omega)) rfl, got2 (hs 5 (by omega)) rfl, got2 (hs 7 (by omega)) rfl, got2 (hs 8 (by omega)) rfl, (show s' 51 = .int .i64 16 from got2 (hs 51 (by omega)) rfl).trans (by rw [h.s51, ← ho])⟩
      exact iw3 (h.re e) (by omega) Q hQ
    · have d1 : (o == 16) = false := by simp [v1]
      go_wp2
      refine wp_fi _ rfl rfl fun s' hs => ?_
      have h := H.out
      have j := J.out
      have hQ := HQ.out
      have hN := HN.out
      have ho := Ho.out
      have e : SameI s s' := ⟨got2 (hs 3 (by omega)) rfl, got2 (hs 4 (by omega)) rfl, got2 (hs 5 (by omega)) rfl, got2 (hs 7 (by omega)) rfl, got2 (hs 8 (by omega)) rfl, (show s' 51 = .int .i64 o from got2 (hs 51 (by omega)) rfl).trans h51.symm⟩
      exact ik4 (h.re e) j Q hQ (fun ho s2 e2 => hN ho s2 ⟨e2.k3.trans e.k3, e2.k4.trans e.k4, e2.k5.trans e.k5, e2.k7.trans e.k7, e2.k8.trans e.k8, e2.k51.trans e.k51⟩) 
set_option maxRecDepth 100000 in
set_option maxHeartbeats 8000000 in
theorem ik2 {s : Nat → Value} {w0 w : World} {pb fb xb : Nat} {fA : Option Addr} {fn fc : Nat} {mn : Int} {V : RV} {f : SF} {x : SIn} {aA : Option Addr} {an ac : Nat} {k : Int} {n0 : Nat} {fs : List (List UInt8 × SF)} (h : Wi s w0 w pb fb xb fA fn fc mn V f x aA an ac k) (j : Wj n0 w fA fn fc V f x aA an ac fs) (Q : Exit → Act → World → Prop) (hQ : InQ w0 f x Q) (hN : x.op ≠ 36 → ∀ s', SameI s s' → Q .normal (fi s') w) : inS2.wp Try.prog Q (fi s) w := by
  have H := Lib.hid h
  have J := Lib.hid j
  have HQ := Lib.hid hQ
  have HN := Lib.hid hN
  have h51 := h.s51
  obtain ⟨o, ho⟩ : ∃ o, o = x.op := ⟨_, rfl⟩
  have Ho := Lib.hid ho
  rw [← ho] at h51
  rw [inS2_eq, fi_lit, h51]
  clear h j hQ hN ho
  apply wp_seq_k
  intro K hK
  conv => arg 2; whnf
  by_cases v0 : o = 3
  · subst v0
    clear h51
    go_wp2
    refine wp_fi _ rfl rfl fun s' hs => ?_
    have h := H.out
    have j := J.out
    have hQ := HQ.out
    have ho := Ho.out
    have e : SameI s s' := ⟨got2 (hs 3 (by omega)) rfl, got2 (hs 4 (by omega)) rfl, got2 (hs 5 (by omega)) rfl, got2 (hs 7 (by omega)) rfl, got2 (hs 8 (by omega)) rfl, (show s' 51 = .int .i64 3 from got2 (hs 51 (by omega)) rfl).trans (by rw [h.s51, ← ho])⟩
    exact iw2 (h.re e) (by omega) j.t j.a Q hQ
  · have d0 : (o == 3) = false := by simp [v0]
    go_wp2
    refine wp_fi _ rfl rfl fun s' hs => ?_
    have h := H.out
    have j := J.out
    have hQ := HQ.out
    have hN := HN.out
    have ho := Ho.out
    have e : SameI s s' := ⟨got2 (hs 3 (by omega)) rfl, got2 (hs 4 (by omega)) rfl, got2 (hs 5 (by omega)) rfl, got2 (hs 7 (by omega)) rfl, got2 (hs 8 (by omega)) rfl, (show s' 51 = .int .i64 o from got2 (hs 51 (by omega)) rfl).trans h51.symm⟩
    exact ik3 (h.re e) j Q hQ (fun ho s2 e2 => hN ho s2 ⟨e2.k3.trans e.k3, e2.k4.trans e.k4, e2.k5.trans e.k5, e2.k7.trans e.k7, e2.k8.trans e.k8, e2.k51.trans e.k51⟩) 
set_option maxRecDepth 100000 in
set_option maxHeartbeats 8000000 in
theorem ik1 {s : Nat → Value} {w0 w : World} {pb fb xb : Nat} {fA : Option Addr} {fn fc : Nat} {mn : Int} {V : RV} {f : SF} {x : SIn} {aA : Option Addr} {an ac : Nat} {k : Int} {n0 : Nat} {fs : List (List UInt8 × SF)} (h : Wi s w0 w pb fb xb fA fn fc mn V f x aA an ac k) (j : Wj n0 w fA fn fc V f x aA an ac fs) (Q : Exit → Act → World → Prop) (hQ : InQ w0 f x Q) (hN : x.op ≠ 36 → ∀ s', SameI s s' → Q .normal (fi s') w) : inS1.wp Try.prog Q (fi s) w := by
  have H := Lib.hid h
  have J := Lib.hid j
  have HQ := Lib.hid hQ
  have HN := Lib.hid hN
  have h51 := h.s51
  obtain ⟨o, ho⟩ : ∃ o, o = x.op := ⟨_, rfl⟩
  have Ho := Lib.hid ho
  rw [← ho] at h51
  rw [inS1_eq, fi_lit, h51]
  clear h j hQ hN ho
  apply wp_seq_k
  intro K hK
  conv => arg 2; whnf
  by_cases v0 : o = 2
  · subst v0
    clear h51
    go_wp2
    refine wp_fi _ rfl rfl fun s' hs => ?_
    have h := H.out
    have j := J.out
    have hQ := HQ.out
    have ho := Ho.out
    have e : SameI s s' := ⟨got2 (hs 3 (by omega)) rfl, got2 (hs 4 (by omega)) rfl, got2 (hs 5 (by omega)) rfl, got2 (hs 7 (by omega)) rfl, got2 (hs 8 (by omega)) rfl, (show s' 51 = .int .i64 2 from got2 (hs 51 (by omega)) rfl).trans (by rw [h.s51, ← ho])⟩
    exact iw1 (h.re e) (by omega) j.p j.pp Q hQ
  · have d0 : (o == 2) = false := by simp [v0]
    go_wp2
    refine wp_fi _ rfl rfl fun s' hs => ?_
    have h := H.out
    have j := J.out
    have hQ := HQ.out
    have hN := HN.out
    have ho := Ho.out
    have e : SameI s s' := ⟨got2 (hs 3 (by omega)) rfl, got2 (hs 4 (by omega)) rfl, got2 (hs 5 (by omega)) rfl, got2 (hs 7 (by omega)) rfl, got2 (hs 8 (by omega)) rfl, (show s' 51 = .int .i64 o from got2 (hs 51 (by omega)) rfl).trans h51.symm⟩
    exact ik2 (h.re e) j Q hQ (fun ho s2 e2 => hN ho s2 ⟨e2.k3.trans e.k3, e2.k4.trans e.k4, e2.k5.trans e.k5, e2.k7.trans e.k7, e2.k8.trans e.k8, e2.k51.trans e.k51⟩) 
set_option maxRecDepth 100000 in
set_option maxHeartbeats 8000000 in
theorem ik0 {s : Nat → Value} {w0 w : World} {pb fb xb : Nat} {fA : Option Addr} {fn fc : Nat} {mn : Int} {V : RV} {f : SF} {x : SIn} {aA : Option Addr} {an ac : Nat} {k : Int} {n0 : Nat} {fs : List (List UInt8 × SF)} (h : Wi s w0 w pb fb xb fA fn fc mn V f x aA an ac k) (j : Wj n0 w fA fn fc V f x aA an ac fs) (Q : Exit → Act → World → Prop) (hQ : InQ w0 f x Q) (hN : x.op ≠ 36 → ∀ s', SameI s s' → Q .normal (fi s') w) : inS0.wp Try.prog Q (fi s) w := by
  have H := Lib.hid h
  have J := Lib.hid j
  have HQ := Lib.hid hQ
  have HN := Lib.hid hN
  have h51 := h.s51
  obtain ⟨o, ho⟩ : ∃ o, o = x.op := ⟨_, rfl⟩
  have Ho := Lib.hid ho
  rw [← ho] at h51
  rw [inS0_eq, fi_lit, h51]
  clear h j hQ hN ho
  apply wp_seq_k
  intro K hK
  conv => arg 2; whnf
  by_cases v0 : o = 1
  · subst v0
    clear h51
    go_wp2
    refine wp_fi _ rfl rfl fun s' hs => ?_
    have h := H.out
    have j := J.out
    have hQ := HQ.out
    have ho := Ho.out
    have e : SameI s s' := ⟨got2 (hs 3 (by omega)) rfl, got2 (hs 4 (by omega)) rfl, got2 (hs 5 (by omega)) rfl, got2 (hs 7 (by omega)) rfl, got2 (hs 8 (by omega)) rfl, (show s' 51 = .int .i64 1 from got2 (hs 51 (by omega)) rfl).trans (by rw [h.s51, ← ho])⟩
    exact iw0 (h.re e) (by omega) Q hQ
  · have d0 : (o == 1) = false := by simp [v0]
    go_wp2
    refine wp_fi _ rfl rfl fun s' hs => ?_
    have h := H.out
    have j := J.out
    have hQ := HQ.out
    have hN := HN.out
    have ho := Ho.out
    have e : SameI s s' := ⟨got2 (hs 3 (by omega)) rfl, got2 (hs 4 (by omega)) rfl, got2 (hs 5 (by omega)) rfl, got2 (hs 7 (by omega)) rfl, got2 (hs 8 (by omega)) rfl, (show s' 51 = .int .i64 o from got2 (hs 51 (by omega)) rfl).trans h51.symm⟩
    exact ik1 (h.re e) j Q hQ (fun ho s2 e2 => hN ho s2 ⟨e2.k3.trans e.k3, e2.k4.trans e.k4, e2.k5.trans e.k5, e2.k7.trans e.k7, e2.k8.trans e.k8, e2.k51.trans e.k51⟩) 
end Go.Proofs.Ythhjhdmdfneegaa
namespace Go.Proofs.Ythhjhdmdfneegaa
set_option linter.unusedVariables false
set_option linter.unusedSimpArgs false
open Go.RowKit Go.Shelf

set_option maxRecDepth 100000 in
set_option maxHeartbeats 8000000 in
/-- From the chain on. -/
theorem mid_t {s : Nat → Value} {w0 w : World} {pb fb xb : Nat} {fA : Option Addr} {fn fc : Nat} {mn : Int} {V : RV} {f : SF} {x : SIn} {aA : Option Addr} {an ac : Nat} {k : Int} {n0 : Nat} {fs : List (List UInt8 × SF)} (h : Wi s w0 w pb fb xb fA fn fc mn V f x aA an ac k) (j : Wj n0 w fA fn fc V f x aA an ac fs) (Q : Exit → Act → World → Prop) (hQ : InQ w0 f x Q) (K : Act → World → Prop) (hK : ∀ a w, (sndC in6).wp Try.prog Q a w → K a w) : inS0.wp Try.prog (Exit.inBlock 0 (Exit.then K Q)) (fi s) w := by
  refine ik0 h j _ (fun a' w' r h1 h2 h3 h4 h5 => hQ a' w' r h1 h2 h3 h4 h5) (fun ho s' e => ?_)
  exact hK _ _ (iwZ (h.re e) ho Q hQ)
set_option maxRecDepth 100000 in
set_option maxHeartbeats 16000000 in
/-- From the first argument's type on. -/
theorem rest_t {s : Nat → Value} {w0 w : World} {pb fb xb : Nat} {fA : Option Addr} {fn fc : Nat} {mn : Int} {V : RV} {f : SF} {x : SIn} {aA : Option Addr} {an ac : Nat} {n0 : Nat} {fs : List (List UInt8 × SF)} (h : ∀ (s' : Nat → Value) (w' : World) (k' : Int), Below w.heap.size w w' → s' 3 = .pointer (some ⟨pb, 0, none⟩) → s' 4 = .pointer (some ⟨fb, 0, none⟩) → s' 5 = .pointer (some ⟨xb, 0, none⟩) → s' 7 = .int .i64 x.ty → s' 8 = .int .i64 k' → s' 51 = .int .i64 x.op → Wi s' w0 w' pb fb xb fA fn fc mn V f x aA an ac k' ∧ Wj n0 w' fA fn fc V f x aA an ac fs) (s3 : s 3 = .pointer (some ⟨pb, 0, none⟩)) (s4 : s 4 = .pointer (some ⟨fb, 0, none⟩)) (s5 : s 5 = .pointer (some ⟨xb, 0, none⟩))
    (cf : w.heap[fb]? = some (.cells V.cs 43 (0, 0))) (cx : w.heap[xb]? = some (.cells #[.int .i64 x.op, .int .i64 x.ty, .slice aA an ac, .int .i64 x.n, .int .i64 x.to_] 46 (0, 0))) (ht : ∀ (X : World) (id : Int), Below w.heap.size w X → Calls Try.prog 56 #[.agg V.cs, .int .i64 id] X fun e w' => e = .returned (.int .i64 (typQ f id)) ∧ Below X.heap.size X w') (ha : GNs w.heap.size w (.slice aA an ac) x.args)
    (Q : Exit → Act → World → Prop) (hQ : InQ w0 f x Q) : (Code.seq (fstC in3) (.seq (fstC in4) (.seq (.seq (fstC (fstC in6)) (.block 0 inS0)) (sndC in6)))).wp Try.prog Q (fi s) w := by
  obtain ⟨op, ty, args, nn, to_⟩ := x
  have HQ := Lib.hid hQ
  have HH := Lib.hid h
  have hal := ha.len
  have HA := Lib.hid ha
  have HT := Lib.hid ht
  obtain ⟨nm, pA, pn, pc, rt, iA, in_, ic, bA, bn, bc⟩ := V
  obtain ⟨f0, f1, f2, f3, f4, -⟩ := gr_five (show w.heap[fb]? = some (.cells #[.string nm, .slice pA pn pc, .int .i64 rt, .slice iA in_ ic, .slice bA bn bc] 43 (0, 0)) from cf)
  obtain ⟨x0, x1, x2, x3, x4, -⟩ := gr_five cx
  have HX0 : Hid (∀ X, Below w.heap.size w X → X.cell? ⟨xb, 0, none⟩ = some (.int .i64 op)) := Lib.hid fun X hX => cell_kept hX x0
  clear h hQ ha ht cf cx
  rw [fi_lit, s3, s4, s5]
  apply wp_seq_k
  intro K hK
  conv => arg 2; whnf
  go_wp2
  conv => arg 2; whnf
  by_cases a0 : an = 0
  · subst a0
    clear hal
    go_wp2
    conv => arg 2; whnf
    rename_i K2 hK2 K3 hK3
    have HK2 := Lib.hid hK2
    clear hK2
    have x0 := HX0.out w (Below.refl _ _)
    go_wp2
    refine wp_fi _ rfl rfl fun s' hs => ?_
    have k3 : s' 3 = .pointer (some ⟨pb, 0, none⟩) := got2 (hs 3 (by omega)) rfl
    obtain ⟨h, j⟩ := HH.out s' w (-1) (Below.refl _ _) k3 (got2 (hs 4 (by omega)) rfl) (got2 (hs 5 (by omega)) rfl) (got2 (hs 7 (by omega)) rfl) (got2 (hs 8 (by omega)) rfl) (got2 (hs 51 (by omega)) rfl)
    exact mid_t h j Q HQ.out _ HK2.out
  · have hpos : 0 < an := by omega
    have hposi : (0 : Int) < (an : Int) := by omega
    have hpa : 0 < args.length := by omega
    clear hal
    obtain ⟨gb, go, rfl, -, y0⟩ := HA.out.at hpa
    have y0 : w.cell? ⟨gb, go, none⟩ = some (.int .i64 args[0]) := y0
    obtain ⟨a, haa⟩ : ∃ a, a = args[0] := ⟨_, rfl⟩
    rw [← haa] at y0
    have hT := HT.out w.drew a (Below.refl _ _).drew
    obtain ⟨t, htt⟩ : ∃ t, t = typQ f a := ⟨_, rfl⟩
    rw [← htt] at hT
    clear haa htt a0
    go_upto_region 5 with fail
    go_still_tail 5, (by kernel_rfl)
    change wpList _ _ _ _ _ w.drew
    go_wp2_with (go_at_call 56; refine hT.mono ?_; rintro e w3 ⟨rfl, h3⟩; have HB3 := Lib.hid (((Below.refl w.heap.size w).drew).trans h3); clear hT h3 f0 f1 f2 f3 f4 x0 x1 x2 x3 x4 y0)
    conv => arg 2; whnf
    rename_i K2 hK2 K3 hK3
    have HK2 := Lib.hid hK2
    clear hK2
    have x0 := HX0.out w3 HB3.out
    go_wp2
    refine wp_fi _ rfl rfl fun s' hs => ?_
    have k3 : s' 3 = .pointer (some ⟨pb, 0, none⟩) := got2 (hs 3 (by omega)) rfl
    obtain ⟨h, j⟩ := HH.out s' w3 t HB3.out k3 (got2 (hs 4 (by omega)) rfl) (got2 (hs 5 (by omega)) rfl) (got2 (hs 7 (by omega)) rfl) (got2 (hs 8 (by omega)) rfl) (got2 (hs 51 (by omega)) rfl)
    exact mid_t h j Q HQ.out _ HK2.out
set_option maxRecDepth 100000 in
set_option maxHeartbeats 32000000 in
theorem ins_c (n0 : Nat) (fA : Option Addr) (fn fc : Nat) (mn : Int) (V : RV) (f : SF) (x : SIn) (aA : Option Addr) (an ac : Nat) (fs : List (List UInt8 × SF)) (w : World) (h : FA n0 V f w) (hs : FS f) (hn : n0 ≤ w.heap.size) (ha : GNs n0 w (.slice aA an ac) x.args) (han : an ≤ 1000) (hF : CFs n0 w (.slice fA fn fc) fs) (hfs : FnsOk fs) (hfn : fn ≤ 256) (hpp : ∀ y ∈ f.params, 1 ≤ y ∧ y ≤ 4) :
    Calls Try.prog 55 #[.agg #[.slice fA fn fc, .int .i64 mn], .agg V.cs, .agg #[.int .i64 x.op, .int .i64 x.ty, .slice aA an ac, .int .i64 x.n, .int .i64 x.to_]] w (BP (InsOk f x) w) := by
  obtain ⟨W1, hW1, hbW1, hzW1, h0W1⟩ := gr_one w #[.slice fA fn fc, .int .i64 mn] 25
  obtain ⟨W2, hW2, hbW2, hzW2, h0W2⟩ := gr_one W1 V.cs 43
  obtain ⟨W, hW, hbW, hzW, h0W⟩ := gr_one W2 #[.int .i64 x.op, .int .i64 x.ty, .slice aA an ac, .int .i64 x.n, .int .i64 x.to_] 46
  rw [hzW1] at h0W2
  rw [show W2.heap.size = w.heap.size + 2 by omega] at h0W
  have hb2 : Below w.heap.size w W2 := hbW1.trans (hbW2.mono (by omega))
  have hbw : Below w.heap.size w W := hb2.trans (hbW.mono (by omega))
  have cp : W.heap[w.heap.size]? = some (.cells #[.slice fA fn fc, .int .i64 mn] 25 (0, 0)) := (hbW.block _ (by omega)).trans ((hbW2.block _ (by omega)).trans h0W1)
  have cf : W.heap[w.heap.size + 1]? = some (.cells V.cs 43 (0, 0)) := (hbW.block _ (by omega)).trans h0W2
  have hk : ∀ X, Below W.heap.size W X → Below w.heap.size w X := fun X hX => hbw.trans (hX.mono hbw.size)
  have hAll : ∀ (hz : x.op ≠ 36 → x.to_ = 0) (s' : Nat → Value) (w' : World) (k' : Int), Below W.heap.size W w' → s' 3 = .pointer (some ⟨w.heap.size, 0, none⟩) → s' 4 = .pointer (some ⟨w.heap.size + 1, 0, none⟩) → s' 5 = .pointer (some ⟨w.heap.size + 2, 0, none⟩) → s' 7 = .int .i64 x.ty → s' 8 = .int .i64 k' → s' 51 = .int .i64 x.op → Wi s' w w' w.heap.size (w.heap.size + 1) (w.heap.size + 2) fA fn fc mn V f x aA an ac k' ∧ Wj n0 w' fA fn fc V f x aA an ac fs := fun hz s' w' k' hb e3 e4 e5 e7 e8 e51 => by
    have hb1 := hk w' hb
    have hFA := h.keep (hb1.mono hn)
    refine ⟨⟨e3, e4, e5, e7, e8, e51, (hb.block _ (by omega)).trans cp, (hb.block _ (by omega)).trans cf, (hb.block _ (by omega)).trans h0W, hb1, fun l lA ln lc X hX hl hln => ?_, ha.len, han, hz⟩, ⟨hFA.p, hpp, fun X id hX => typ_c n0 V f id X (hFA.keep (hX.mono (Nat.le_trans hn hb1.size))) (Nat.le_trans hn (Nat.le_trans hb1.size hX.size)), (ha.keep (hb1.mono hn)).mono (Nat.le_trans hn hb1.size), hF.keep (hb1.mono hn), hfs, Nat.le_trans hn hb1.size, hfn⟩⟩
    exact of_c n0 V f x.op x.ty x.n x.to_ aA an ac x.args lA ln lc l X (hFA.keep (hX.mono (Nat.le_trans hn hb1.size))) ((ha.keep (hb1.mono hn)).keep (hX.mono (Nat.le_trans hn hb1.size))) hl (Nat.le_trans hn (Nat.le_trans hb1.size hX.size)) han hln
  have hT : ∀ (X : World) (id : Int), Below W.heap.size W X → Calls Try.prog 56 #[.agg V.cs, .int .i64 id] X fun e w' => e = .returned (.int .i64 (typQ f id)) ∧ Below X.heap.size X w' := fun X id hX => typ_c n0 V f id X (h.keep ((hk X hX).mono hn)) (Nat.le_trans hn (hk X hX).size)
  have HAll := Lib.hid hAll
  have HT := Lib.hid hT
  have Hcf := Lib.hid cf
  have Hcx := Lib.hid h0W
  have HA : Hid (GNs W.heap.size W (.slice aA an ac) x.args) := Lib.hid ((ha.keep (hbw.mono hn)).mono (Nat.le_trans hn hbw.size))
  have HW1 := Lib.hid hW1
  have HW2 := Lib.hid hW2
  have HW := Lib.hid hW
  have Hbw := Lib.hid hbw
  have HQ : Hid (∀ Q', Q' = bodyPost Try.prog Try.f55 (BP (InsOk f x) w) → InQ w f x Q') := Lib.hid fun Q' hQ' a' w' r h6 hd hsz hb hr => by
    rw [hQ']
    refine bodyPost_ret (results_tmp rfl _ _ _) hd ?_
    have e : a'.tmps.getD 6 undef = .bool r := by
      rw [Array.getD_eq_getD_getElem?, h6]; rfl
    rw [e]
    exact ⟨r, rfl, hb, hr⟩
  obtain ⟨x0, -, -, x3, x4, -⟩ := gr_five h0W
  clear hW1 hbW1 hzW1 h0W1 hW2 hbW2 hzW2 h0W2 hW hbW hzW h0W hb2 hbw cp cf hk hAll hT h hs hn ha hF hfs hfn hpp
  go_enter Try.func55, Try.ntmps55
  change Code.wp _ inT _ _ _
  rw [inT_eq]
  apply wp_seq_k
  intro K hK
  conv => arg 2; whnf
  go_wp2
  rw [← HW1.out, ← HW2.out, ← HW.out]
  rw [show w.heap.size + 1 + 1 = w.heap.size + 2 from rfl]
  conv => arg 2; whnf
  rename_i K hK
  have HK := Lib.hid hK
  clear hK
  by_cases z0 : x.to_ = 0
  · by_cases n0 : x.n = 0
    · go_wp2
      refine HK.out _ _ (wp_fi _ rfl rfl fun s' hs => ?_)
      exact rest_t (fun s' w' k' => HAll.out (fun _ => z0) s' w' k') (got2 (hs 3 (by omega)) rfl) (got2 (hs 4 (by omega)) rfl) (got2 (hs 5 (by omega)) rfl) Hcf.out Hcx.out (fun X id hX => HT.out X id hX) HA.out _ (HQ.out _ rfl)
    · have dn : (x.n == 0) = false := by simp [n0]
      have dn2 : (x.n != 0) = true := by simp [n0]
      by_cases o1 : x.op = 1
      · go_wp2
        refine HK.out _ _ (wp_fi _ rfl rfl fun s' hs => ?_)
        exact rest_t (fun s' w' k' => HAll.out (fun _ => z0) s' w' k') (got2 (hs 3 (by omega)) rfl) (got2 (hs 4 (by omega)) rfl) (got2 (hs 5 (by omega)) rfl) Hcf.out Hcx.out (fun X id hX => HT.out X id hX) HA.out _ (HQ.out _ rfl)
      · have do1 : (x.op == 1) = false := by simp [o1]
        have dp1 : (x.op != 1) = true := by simp [o1]
        by_cases o2 : x.op = 2
        · go_wp2
          refine HK.out _ _ (wp_fi _ rfl rfl fun s' hs => ?_)
          exact rest_t (fun s' w' k' => HAll.out (fun _ => z0) s' w' k') (got2 (hs 3 (by omega)) rfl) (got2 (hs 4 (by omega)) rfl) (got2 (hs 5 (by omega)) rfl) Hcf.out Hcx.out (fun X id hX => HT.out X id hX) HA.out _ (HQ.out _ rfl)
        · have do2 : (x.op == 2) = false := by simp [o2]
          have dp2 : (x.op != 2) = true := by simp [o2]
          by_cases o35 : x.op = 35
          · go_wp2
            refine HK.out _ _ (wp_fi _ rfl rfl fun s' hs => ?_)
            exact rest_t (fun s' w' k' => HAll.out (fun _ => z0) s' w' k') (got2 (hs 3 (by omega)) rfl) (got2 (hs 4 (by omega)) rfl) (got2 (hs 5 (by omega)) rfl) Hcf.out Hcx.out (fun X id hX => HT.out X id hX) HA.out _ (HQ.out _ rfl)
          · have do35 : (x.op == 35) = false := by simp [o35]
            have dp35 : (x.op != 35) = true := by simp [o35]
            go_wp2
            go_ret
            exact BP.no Hbw.out
  · have dz : (x.to_ == 0) = false := by simp [z0]
    have dz2 : (x.to_ != 0) = true := by simp [z0]
    by_cases o36 : x.op = 36
    · by_cases n0 : x.n = 0
      · go_wp2
        refine HK.out _ _ (wp_fi _ rfl rfl fun s' hs => ?_)
        exact rest_t (fun s' w' k' => HAll.out (fun h => absurd o36 h) s' w' k') (got2 (hs 3 (by omega)) rfl) (got2 (hs 4 (by omega)) rfl) (got2 (hs 5 (by omega)) rfl) Hcf.out Hcx.out (fun X id hX => HT.out X id hX) HA.out _ (HQ.out _ rfl)
      · have dn : (x.n == 0) = false := by simp [n0]
        have dn2 : (x.n != 0) = true := by simp [n0]
        go_wp2
        go_ret
        exact BP.no Hbw.out
    · have d36 : (x.op == 36) = false := by simp [o36]
      have d36b : (x.op != 36) = true := by simp [o36]
      go_wp2
      go_ret
      exact BP.no Hbw.out
end Go.Proofs.Ythhjhdmdfneegaa
