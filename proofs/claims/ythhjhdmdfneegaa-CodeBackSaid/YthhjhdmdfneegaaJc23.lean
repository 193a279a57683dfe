/-
  The base with changes: the switch, a round.
  The base with changes: a round, the loop, the whole.
  The base with changes: a round, the loop, the whole.
-/
import Derived.Test.YthhjhdmdfneegaaJc20
import Derived.Test.YthhjhdmdfneegaaJc21
import Derived.Test.YthhjhdmdfneegaaJc22
import Derived.BigQuiet
namespace Go.Proofs.Ythhjhdmdfneegaa
set_option linter.unusedVariables false
set_option linter.unusedSimpArgs false
open Go.RowKit

set_option maxRecDepth 100000 in
set_option maxHeartbeats 4000000 in
theorem sk14 {s : Nat → Value} {w0 w : World} {B fb : Nat} {mn : Int} {n : Nat} {F : Nat → GRw} {cb f xi bi ib bb : Nat} {t to_ nn : Int} (h : Wy s w0 w B fb mn n F cb f xi bi ib bb t to_ nn) (ht : 14 ≤ t) (ht2 : t < 16) (Q : Exit → Act → World → Prop) (hQ : ∀ a' w' mn' F', KeepF s a' → PS w0 w' B fb mn' (n + 1) F' → Q .normal a' w') : chS14.wp Try.prog Q (fr s) w := by
  have h83 := h.s83
  have HQ := Lib.hid hQ
  have HH := Lib.hid h
  rw [chS14_eq, fr_lit, h83]
  apply wp_seq_k
  intro K hK
  conv => arg 2; whnf
  clear h hQ
  by_cases hk : t = 14
  · subst hk
    clear ht ht2
    go_wp2
    refine wp_fr _ rfl rfl fun s' hs => ?_
    have h := HH.out
    have hQ := HQ.out
    have e : SameF s s' := ⟨got (hs 0 (by omega)) rfl, got (hs 1 (by omega)) rfl, got (hs 2 (by omega)) rfl, got (hs 3 (by omega)) rfl, got (hs 4 (by omega)) rfl, got (hs 5 (by omega)) rfl, got (hs 6 (by omega)) rfl, got (hs 7 (by omega)) rfl, (got (hs 83 (by omega)) rfl).trans h.s83.symm⟩
    exact way14 (h.re e) Q fun a w mn F hk hp => hQ a w mn F (hk.re e.k0 e.k1 e.k2 e.k3) hp
  · go_wp2
    refine wp_fr _ rfl rfl fun s' hs => ?_
    have h := HH.out
    have hQ := HQ.out
    have e : SameF s s' := ⟨got (hs 0 (by omega)) rfl, got (hs 1 (by omega)) rfl, got (hs 2 (by omega)) rfl, got (hs 3 (by omega)) rfl, got (hs 4 (by omega)) rfl, got (hs 5 (by omega)) rfl, got (hs 6 (by omega)) rfl, got (hs 7 (by omega)) rfl, (got (hs 83 (by omega)) rfl).trans h.s83.symm⟩
    exact way15 (h.re e) Q fun a w mn F hk hp => hQ a w mn F (hk.re e.k0 e.k1 e.k2 e.k3) hp
set_option maxRecDepth 100000 in
set_option maxHeartbeats 4000000 in
theorem sk13 {s : Nat → Value} {w0 w : World} {B fb : Nat} {mn : Int} {n : Nat} {F : Nat → GRw} {cb f xi bi ib bb : Nat} {t to_ nn : Int} (h : Wy s w0 w B fb mn n F cb f xi bi ib bb t to_ nn) (ht : 13 ≤ t) (ht2 : t < 16) (Q : Exit → Act → World → Prop) (hQ : ∀ a' w' mn' F', KeepF s a' → PS w0 w' B fb mn' (n + 1) F' → Q .normal a' w') : chS13.wp Try.prog Q (fr s) w := by
  have h83 := h.s83
  have HQ := Lib.hid hQ
  have HH := Lib.hid h
  rw [chS13_eq, fr_lit, h83]
  apply wp_seq_k
  intro K hK
  conv => arg 2; whnf
  clear h hQ
  by_cases hk : t = 13
  · subst hk
    clear ht ht2
    go_wp2
    refine wp_fr _ rfl rfl fun s' hs => ?_
    have h := HH.out
    have hQ := HQ.out
    have e : SameF s s' := ⟨got (hs 0 (by omega)) rfl, got (hs 1 (by omega)) rfl, got (hs 2 (by omega)) rfl, got (hs 3 (by omega)) rfl, got (hs 4 (by omega)) rfl, got (hs 5 (by omega)) rfl, got (hs 6 (by omega)) rfl, got (hs 7 (by omega)) rfl, (got (hs 83 (by omega)) rfl).trans h.s83.symm⟩
    exact way13 (h.re e) Q fun a w mn F hk hp => hQ a w mn F (hk.re e.k0 e.k1 e.k2 e.k3) hp
  · go_wp2
    refine wp_fr _ rfl rfl fun s' hs => ?_
    have h := HH.out
    have hQ := HQ.out
    have e : SameF s s' := ⟨got (hs 0 (by omega)) rfl, got (hs 1 (by omega)) rfl, got (hs 2 (by omega)) rfl, got (hs 3 (by omega)) rfl, got (hs 4 (by omega)) rfl, got (hs 5 (by omega)) rfl, got (hs 6 (by omega)) rfl, got (hs 7 (by omega)) rfl, (got (hs 83 (by omega)) rfl).trans h.s83.symm⟩
    exact sk14 (h.re e) (by omega) ht2 Q fun a w mn F hk hp => hQ a w mn F (hk.re e.k0 e.k1 e.k2 e.k3) hp
set_option maxRecDepth 100000 in
set_option maxHeartbeats 4000000 in
theorem sk12 {s : Nat → Value} {w0 w : World} {B fb : Nat} {mn : Int} {n : Nat} {F : Nat → GRw} {cb f xi bi ib bb : Nat} {t to_ nn : Int} (h : Wy s w0 w B fb mn n F cb f xi bi ib bb t to_ nn) (ht : 12 ≤ t) (ht2 : t < 16) (Q : Exit → Act → World → Prop) (hQ : ∀ a' w' mn' F', KeepF s a' → PS w0 w' B fb mn' (n + 1) F' → Q .normal a' w') : chS12.wp Try.prog Q (fr s) w := by
  have h83 := h.s83
  have HQ := Lib.hid hQ
  have HH := Lib.hid h
  rw [chS12_eq, fr_lit, h83]
  apply wp_seq_k
  intro K hK
  conv => arg 2; whnf
  clear h hQ
  by_cases hk : t = 12
  · subst hk
    clear ht ht2
    go_wp2
    refine wp_fr _ rfl rfl fun s' hs => ?_
    have h := HH.out
    have hQ := HQ.out
    have e : SameF s s' := ⟨got (hs 0 (by omega)) rfl, got (hs 1 (by omega)) rfl, got (hs 2 (by omega)) rfl, got (hs 3 (by omega)) rfl, got (hs 4 (by omega)) rfl, got (hs 5 (by omega)) rfl, got (hs 6 (by omega)) rfl, got (hs 7 (by omega)) rfl, (got (hs 83 (by omega)) rfl).trans h.s83.symm⟩
    exact way12 (h.re e) Q fun a w mn F hk hp => hQ a w mn F (hk.re e.k0 e.k1 e.k2 e.k3) hp
  · go_wp2
    refine wp_fr _ rfl rfl fun s' hs => ?_
    have h := HH.out
    have hQ := HQ.out
    have e : SameF s s' := ⟨got (hs 0 (by omega)) rfl, got (hs 1 (by omega)) rfl, got (hs 2 (by omega)) rfl, got (hs 3 (by omega)) rfl, got (hs 4 (by omega)) rfl, got (hs 5 (by omega)) rfl, got (hs 6 (by omega)) rfl, got (hs 7 (by omega)) rfl, (got (hs 83 (by omega)) rfl).trans h.s83.symm⟩
    exact sk13 (h.re e) (by omega) ht2 Q fun a w mn F hk hp => hQ a w mn F (hk.re e.k0 e.k1 e.k2 e.k3) hp
set_option maxRecDepth 100000 in
set_option maxHeartbeats 4000000 in
theorem sk11 {s : Nat → Value} {w0 w : World} {B fb : Nat} {mn : Int} {n : Nat} {F : Nat → GRw} {cb f xi bi ib bb : Nat} {t to_ nn : Int} (h : Wy s w0 w B fb mn n F cb f xi bi ib bb t to_ nn) (ht : 11 ≤ t) (ht2 : t < 16) (Q : Exit → Act → World → Prop) (hQ : ∀ a' w' mn' F', KeepF s a' → PS w0 w' B fb mn' (n + 1) F' → Q .normal a' w') : chS11.wp Try.prog Q (fr s) w := by
  have h83 := h.s83
  have HQ := Lib.hid hQ
  have HH := Lib.hid h
  rw [chS11_eq, fr_lit, h83]
  apply wp_seq_k
  intro K hK
  conv => arg 2; whnf
  clear h hQ
  by_cases hk : t = 11
  · subst hk
    clear ht ht2
    go_wp2
    refine wp_fr _ rfl rfl fun s' hs => ?_
    have h := HH.out
    have hQ := HQ.out
    have e : SameF s s' := ⟨got (hs 0 (by omega)) rfl, got (hs 1 (by omega)) rfl, got (hs 2 (by omega)) rfl, got (hs 3 (by omega)) rfl, got (hs 4 (by omega)) rfl, got (hs 5 (by omega)) rfl, got (hs 6 (by omega)) rfl, got (hs 7 (by omega)) rfl, (got (hs 83 (by omega)) rfl).trans h.s83.symm⟩
    exact way11 (h.re e) Q fun a w mn F hk hp => hQ a w mn F (hk.re e.k0 e.k1 e.k2 e.k3) hp
  · go_wp2
    refine wp_fr _ rfl rfl fun s' hs => ?_
    have h := HH.out
    have hQ := HQ.out
    have e : SameF s s' := ⟨got (hs 0 (by omega)) rfl, got (hs 1 (by omega)) rfl, got (hs 2 (by omega)) rfl, got (hs 3 (by omega)) rfl, got (hs 4 (by omega)) rfl, got (hs 5 (by omega)) rfl, got (hs 6 (by omega)) rfl, got (hs 7 (by omega)) rfl, (got (hs 83 (by omega)) rfl).trans h.s83.symm⟩
    exact sk12 (h.re e) (by omega) ht2 Q fun a w mn F hk hp => hQ a w mn F (hk.re e.k0 e.k1 e.k2 e.k3) hp
set_option maxRecDepth 100000 in
set_option maxHeartbeats 4000000 in
theorem sk10 {s : Nat → Value} {w0 w : World} {B fb : Nat} {mn : Int} {n : Nat} {F : Nat → GRw} {cb f xi bi ib bb : Nat} {t to_ nn : Int} (h : Wy s w0 w B fb mn n F cb f xi bi ib bb t to_ nn) (ht : 10 ≤ t) (ht2 : t < 16) (Q : Exit → Act → World → Prop) (hQ : ∀ a' w' mn' F', KeepF s a' → PS w0 w' B fb mn' (n + 1) F' → Q .normal a' w') : chS10.wp Try.prog Q (fr s) w := by
  have h83 := h.s83
  have HQ := Lib.hid hQ
  have HH := Lib.hid h
  rw [chS10_eq, fr_lit, h83]
  apply wp_seq_k
  intro K hK
  conv => arg 2; whnf
  clear h hQ
  by_cases hk : t = 10
  · subst hk
    clear ht ht2
    go_wp2
    refine wp_fr _ rfl rfl fun s' hs => ?_
    have h := HH.out
    have hQ := HQ.out
    have e : SameF s s' := ⟨got (hs 0 (by omega)) rfl, got (hs 1 (by omega)) rfl, got (hs 2 (by omega)) rfl, got (hs 3 (by omega)) rfl, got (hs 4 (by omega)) rfl, got (hs 5 (by omega)) rfl, got (hs 6 (by omega)) rfl, got (hs 7 (by omega)) rfl, (got (hs 83 (by omega)) rfl).trans h.s83.symm⟩
    exact way10 (h.re e) Q fun a w mn F hk hp => hQ a w mn F (hk.re e.k0 e.k1 e.k2 e.k3) hp
  · go_wp2
    refine wp_fr _ rfl rfl fun s' hs => ?_
    have h := HH.out
    have hQ := HQ.out
    have e : SameF s s' := ⟨got (hs 0 (by omega)) rfl, got (hs 1 (by omega)) rfl, got (hs 2 (by omega)) rfl, got (hs 3 (by omega)) rfl, got (hs 4 (by omega)) rfl, got (hs 5 (by omega)) rfl, got (hs 6 (by omega)) rfl, got (hs 7 (by omega)) rfl, (got (hs 83 (by omega)) rfl).trans h.s83.symm⟩
    exact sk11 (h.re e) (by omega) ht2 Q fun a w mn F hk hp => hQ a w mn F (hk.re e.k0 e.k1 e.k2 e.k3) hp
set_option maxRecDepth 100000 in
set_option maxHeartbeats 4000000 in
theorem sk9 {s : Nat → Value} {w0 w : World} {B fb : Nat} {mn : Int} {n : Nat} {F : Nat → GRw} {cb f xi bi ib bb : Nat} {t to_ nn : Int} (h : Wy s w0 w B fb mn n F cb f xi bi ib bb t to_ nn) (ht : 9 ≤ t) (ht2 : t < 16) (Q : Exit → Act → World → Prop) (hQ : ∀ a' w' mn' F', KeepF s a' → PS w0 w' B fb mn' (n + 1) F' → Q .normal a' w') : chS9.wp Try.prog Q (fr s) w := by
  have h83 := h.s83
  have HQ := Lib.hid hQ
  have HH := Lib.hid h
  rw [chS9_eq, fr_lit, h83]
  apply wp_seq_k
  intro K hK
  conv => arg 2; whnf
  clear h hQ
  by_cases hk : t = 9
  · subst hk
    clear ht ht2
    go_wp2
    refine wp_fr _ rfl rfl fun s' hs => ?_
    have h := HH.out
    have hQ := HQ.out
    have e : SameF s s' := ⟨got (hs 0 (by omega)) rfl, got (hs 1 (by omega)) rfl, got (hs 2 (by omega)) rfl, got (hs 3 (by omega)) rfl, got (hs 4 (by omega)) rfl, got (hs 5 (by omega)) rfl, got (hs 6 (by omega)) rfl, got (hs 7 (by omega)) rfl, (got (hs 83 (by omega)) rfl).trans h.s83.symm⟩
    exact way9 (h.re e) Q fun a w mn F hk hp => hQ a w mn F (hk.re e.k0 e.k1 e.k2 e.k3) hp
  · go_wp2
    refine wp_fr _ rfl rfl fun s' hs => ?_
    have h := HH.out
    have hQ := HQ.out
    have e : SameF s s' := ⟨got (hs 0 (by omega)) rfl, got (hs 1 (by omega)) rfl, got (hs 2 (by omega)) rfl, got (hs 3 (by omega)) rfl, got (hs 4 (by omega)) rfl, got (hs 5 (by omega)) rfl, got (hs 6 (by omega)) rfl, got (hs 7 (by omega)) rfl, (got (hs 83 (by omega)) rfl).trans h.s83.symm⟩
    exact sk10 (h.re e) (by omega) ht2 Q fun a w mn F hk hp => hQ a w mn F (hk.re e.k0 e.k1 e.k2 e.k3) hp
set_option maxRecDepth 100000 in
set_option maxHeartbeats 4000000 in
theorem sk8 {s : Nat → Value} {w0 w : World} {B fb : Nat} {mn : Int} {n : Nat} {F : Nat → GRw} {cb f xi bi ib bb : Nat} {t to_ nn : Int} (h : Wy s w0 w B fb mn n F cb f xi bi ib bb t to_ nn) (ht : 8 ≤ t) (ht2 : t < 16) (Q : Exit → Act → World → Prop) (hQ : ∀ a' w' mn' F', KeepF s a' → PS w0 w' B fb mn' (n + 1) F' → Q .normal a' w') : chS8.wp Try.prog Q (fr s) w := by
  have h83 := h.s83
  have HQ := Lib.hid hQ
  have HH := Lib.hid h
  rw [chS8_eq, fr_lit, h83]
  apply wp_seq_k
  intro K hK
  conv => arg 2; whnf
  clear h hQ
  by_cases hk : t = 8
  · subst hk
    clear ht ht2
    go_wp2
    refine wp_fr _ rfl rfl fun s' hs => ?_
    have h := HH.out
    have hQ := HQ.out
    have e : SameF s s' := ⟨got (hs 0 (by omega)) rfl, got (hs 1 (by omega)) rfl, got (hs 2 (by omega)) rfl, got (hs 3 (by omega)) rfl, got (hs 4 (by omega)) rfl, got (hs 5 (by omega)) rfl, got (hs 6 (by omega)) rfl, got (hs 7 (by omega)) rfl, (got (hs 83 (by omega)) rfl).trans h.s83.symm⟩
    exact way8 (h.re e) Q fun a w mn F hk hp => hQ a w mn F (hk.re e.k0 e.k1 e.k2 e.k3) hp
  · go_wp2
    refine wp_fr _ rfl rfl fun s' hs => ?_
    have h := HH.out
    have hQ := HQ.out
    have e : SameF s s' := ⟨got (hs 0 (by omega)) rfl, got (hs 1 (by omega)) rfl, got (hs 2 (by omega)) rfl, got (hs 3 (by omega)) rfl, got (hs 4 (by omega)) rfl, got (hs 5 (by omega)) rfl, got (hs 6 (by omega)) rfl, got (hs 7 (by omega)) rfl, (got (hs 83 (by omega)) rfl).trans h.s83.symm⟩
    exact sk9 (h.re e) (by omega) ht2 Q fun a w mn F hk hp => hQ a w mn F (hk.re e.k0 e.k1 e.k2 e.k3) hp
set_option maxRecDepth 100000 in
set_option maxHeartbeats 4000000 in
theorem sk7 {s : Nat → Value} {w0 w : World} {B fb : Nat} {mn : Int} {n : Nat} {F : Nat → GRw} {cb f xi bi ib bb : Nat} {t to_ nn : Int} (h : Wy s w0 w B fb mn n F cb f xi bi ib bb t to_ nn) (ht : 7 ≤ t) (ht2 : t < 16) (Q : Exit → Act → World → Prop) (hQ : ∀ a' w' mn' F', KeepF s a' → PS w0 w' B fb mn' (n + 1) F' → Q .normal a' w') : chS7.wp Try.prog Q (fr s) w := by
  have h83 := h.s83
  have HQ := Lib.hid hQ
  have HH := Lib.hid h
  rw [chS7_eq, fr_lit, h83]
  apply wp_seq_k
  intro K hK
  conv => arg 2; whnf
  clear h hQ
  by_cases hk : t = 7
  · subst hk
    clear ht ht2
    go_wp2
    refine wp_fr _ rfl rfl fun s' hs => ?_
    have h := HH.out
    have hQ := HQ.out
    have e : SameF s s' := ⟨got (hs 0 (by omega)) rfl, got (hs 1 (by omega)) rfl, got (hs 2 (by omega)) rfl, got (hs 3 (by omega)) rfl, got (hs 4 (by omega)) rfl, got (hs 5 (by omega)) rfl, got (hs 6 (by omega)) rfl, got (hs 7 (by omega)) rfl, (got (hs 83 (by omega)) rfl).trans h.s83.symm⟩
    exact way7 (h.re e) Q fun a w mn F hk hp => hQ a w mn F (hk.re e.k0 e.k1 e.k2 e.k3) hp
  · go_wp2
    refine wp_fr _ rfl rfl fun s' hs => ?_
    have h := HH.out
    have hQ := HQ.out
    have e : SameF s s' := ⟨got (hs 0 (by omega)) rfl, got (hs 1 (by omega)) rfl, got (hs 2 (by omega)) rfl, got (hs 3 (by omega)) rfl, got (hs 4 (by omega)) rfl, got (hs 5 (by omega)) rfl, got (hs 6 (by omega)) rfl, got (hs 7 (by omega)) rfl, (got (hs 83 (by omega)) rfl).trans h.s83.symm⟩
    exact sk8 (h.re e) (by omega) ht2 Q fun a w mn F hk hp => hQ a w mn F (hk.re e.k0 e.k1 e.k2 e.k3) hp
set_option maxRecDepth 100000 in
set_option maxHeartbeats 4000000 in
theorem sk6 {s : Nat → Value} {w0 w : World} {B fb : Nat} {mn : Int} {n : Nat} {F : Nat → GRw} {cb f xi bi ib bb : Nat} {t to_ nn : Int} (h : Wy s w0 w B fb mn n F cb f xi bi ib bb t to_ nn) (ht : 6 ≤ t) (ht2 : t < 16) (Q : Exit → Act → World → Prop) (hQ : ∀ a' w' mn' F', KeepF s a' → PS w0 w' B fb mn' (n + 1) F' → Q .normal a' w') : chS6.wp Try.prog Q (fr s) w := by
  have h83 := h.s83
  have HQ := Lib.hid hQ
  have HH := Lib.hid h
  rw [chS6_eq, fr_lit, h83]
  apply wp_seq_k
  intro K hK
  conv => arg 2; whnf
  clear h hQ
  by_cases hk : t = 6
  · subst hk
    clear ht ht2
    go_wp2
    refine wp_fr _ rfl rfl fun s' hs => ?_
    have h := HH.out
    have hQ := HQ.out
    have e : SameF s s' := ⟨got (hs 0 (by omega)) rfl, got (hs 1 (by omega)) rfl, got (hs 2 (by omega)) rfl, got (hs 3 (by omega)) rfl, got (hs 4 (by omega)) rfl, got (hs 5 (by omega)) rfl, got (hs 6 (by omega)) rfl, got (hs 7 (by omega)) rfl, (got (hs 83 (by omega)) rfl).trans h.s83.symm⟩
    exact way6 (h.re e) Q fun a w mn F hk hp => hQ a w mn F (hk.re e.k0 e.k1 e.k2 e.k3) hp
  · go_wp2
    refine wp_fr _ rfl rfl fun s' hs => ?_
    have h := HH.out
    have hQ := HQ.out
    have e : SameF s s' := ⟨got (hs 0 (by omega)) rfl, got (hs 1 (by omega)) rfl, got (hs 2 (by omega)) rfl, got (hs 3 (by omega)) rfl, got (hs 4 (by omega)) rfl, got (hs 5 (by omega)) rfl, got (hs 6 (by omega)) rfl, got (hs 7 (by omega)) rfl, (got (hs 83 (by omega)) rfl).trans h.s83.symm⟩
    exact sk7 (h.re e) (by omega) ht2 Q fun a w mn F hk hp => hQ a w mn F (hk.re e.k0 e.k1 e.k2 e.k3) hp
set_option maxRecDepth 100000 in
set_option maxHeartbeats 4000000 in
theorem sk5 {s : Nat → Value} {w0 w : World} {B fb : Nat} {mn : Int} {n : Nat} {F : Nat → GRw} {cb f xi bi ib bb : Nat} {t to_ nn : Int} (h : Wy s w0 w B fb mn n F cb f xi bi ib bb t to_ nn) (ht : 5 ≤ t) (ht2 : t < 16) (Q : Exit → Act → World → Prop) (hQ : ∀ a' w' mn' F', KeepF s a' → PS w0 w' B fb mn' (n + 1) F' → Q .normal a' w') : chS5.wp Try.prog Q (fr s) w := by
  have h83 := h.s83
  have HQ := Lib.hid hQ
  have HH := Lib.hid h
  rw [chS5_eq, fr_lit, h83]
  apply wp_seq_k
  intro K hK
  conv => arg 2; whnf
  clear h hQ
  by_cases hk : t = 5
  · subst hk
    clear ht ht2
    go_wp2
    refine wp_fr _ rfl rfl fun s' hs => ?_
    have h := HH.out
    have hQ := HQ.out
    have e : SameF s s' := ⟨got (hs 0 (by omega)) rfl, got (hs 1 (by omega)) rfl, got (hs 2 (by omega)) rfl, got (hs 3 (by omega)) rfl, got (hs 4 (by omega)) rfl, got (hs 5 (by omega)) rfl, got (hs 6 (by omega)) rfl, got (hs 7 (by omega)) rfl, (got (hs 83 (by omega)) rfl).trans h.s83.symm⟩
    exact way5 (h.re e) Q fun a w mn F hk hp => hQ a w mn F (hk.re e.k0 e.k1 e.k2 e.k3) hp
  · go_wp2
    refine wp_fr _ rfl rfl fun s' hs => ?_
    have h := HH.out
    have hQ := HQ.out
    have e : SameF s s' := ⟨got (hs 0 (by omega)) rfl, got (hs 1 (by omega)) rfl, got (hs 2 (by omega)) rfl, got (hs 3 (by omega)) rfl, got (hs 4 (by omega)) rfl, got (hs 5 (by omega)) rfl, got (hs 6 (by omega)) rfl, got (hs 7 (by omega)) rfl, (got (hs 83 (by omega)) rfl).trans h.s83.symm⟩
    exact sk6 (h.re e) (by omega) ht2 Q fun a w mn F hk hp => hQ a w mn F (hk.re e.k0 e.k1 e.k2 e.k3) hp
set_option maxRecDepth 100000 in
set_option maxHeartbeats 4000000 in
theorem sk4 {s : Nat → Value} {w0 w : World} {B fb : Nat} {mn : Int} {n : Nat} {F : Nat → GRw} {cb f xi bi ib bb : Nat} {t to_ nn : Int} (h : Wy s w0 w B fb mn n F cb f xi bi ib bb t to_ nn) (ht : 4 ≤ t) (ht2 : t < 16) (Q : Exit → Act → World → Prop) (hQ : ∀ a' w' mn' F', KeepF s a' → PS w0 w' B fb mn' (n + 1) F' → Q .normal a' w') : chS4.wp Try.prog Q (fr s) w := by
  have h83 := h.s83
  have HQ := Lib.hid hQ
  have HH := Lib.hid h
  rw [chS4_eq, fr_lit, h83]
  apply wp_seq_k
  intro K hK
  conv => arg 2; whnf
  clear h hQ
  by_cases hk : t = 4
  · subst hk
    clear ht ht2
    go_wp2
    refine wp_fr _ rfl rfl fun s' hs => ?_
    have h := HH.out
    have hQ := HQ.out
    have e : SameF s s' := ⟨got (hs 0 (by omega)) rfl, got (hs 1 (by omega)) rfl, got (hs 2 (by omega)) rfl, got (hs 3 (by omega)) rfl, got (hs 4 (by omega)) rfl, got (hs 5 (by omega)) rfl, got (hs 6 (by omega)) rfl, got (hs 7 (by omega)) rfl, (got (hs 83 (by omega)) rfl).trans h.s83.symm⟩
    exact way4 (h.re e) Q fun a w mn F hk hp => hQ a w mn F (hk.re e.k0 e.k1 e.k2 e.k3) hp
  · go_wp2
    refine wp_fr _ rfl rfl fun s' hs => ?_
    have h := HH.out
    have hQ := HQ.out
    have e : SameF s s' := ⟨got (hs 0 (by omega)) rfl, got (hs 1 (by omega)) rfl, got (hs 2 (by omega)) rfl, got (hs 3 (by omega)) rfl, got (hs 4 (by omega)) rfl, got (hs 5 (by omega)) rfl, got (hs 6 (by omega)) rfl, got (hs 7 (by omega)) rfl, (got (hs 83 (by omega)) rfl).trans h.s83.symm⟩
    exact sk5 (h.re e) (by omega) ht2 Q fun a w mn F hk hp => hQ a w mn F (hk.re e.k0 e.k1 e.k2 e.k3) hp
set_option maxRecDepth 100000 in
set_option maxHeartbeats 4000000 in
theorem sk3 {s : Nat → Value} {w0 w : World} {B fb : Nat} {mn : Int} {n : Nat} {F : Nat → GRw} {cb f xi bi ib bb : Nat} {t to_ nn : Int} (h : Wy s w0 w B fb mn n F cb f xi bi ib bb t to_ nn) (ht : 3 ≤ t) (ht2 : t < 16) (Q : Exit → Act → World → Prop) (hQ : ∀ a' w' mn' F', KeepF s a' → PS w0 w' B fb mn' (n + 1) F' → Q .normal a' w') : chS3.wp Try.prog Q (fr s) w := by
  have h83 := h.s83
  have HQ := Lib.hid hQ
  have HH := Lib.hid h
  rw [chS3_eq, fr_lit, h83]
  apply wp_seq_k
  intro K hK
  conv => arg 2; whnf
  clear h hQ
  by_cases hk : t = 3
  · subst hk
    clear ht ht2
    go_wp2
    refine wp_fr _ rfl rfl fun s' hs => ?_
    have h := HH.out
    have hQ := HQ.out
    have e : SameF s s' := ⟨got (hs 0 (by omega)) rfl, got (hs 1 (by omega)) rfl, got (hs 2 (by omega)) rfl, got (hs 3 (by omega)) rfl, got (hs 4 (by omega)) rfl, got (hs 5 (by omega)) rfl, got (hs 6 (by omega)) rfl, got (hs 7 (by omega)) rfl, (got (hs 83 (by omega)) rfl).trans h.s83.symm⟩
    exact way3 (h.re e) Q fun a w mn F hk hp => hQ a w mn F (hk.re e.k0 e.k1 e.k2 e.k3) hp
  · go_wp2
    refine wp_fr _ rfl rfl fun s' hs => ?_
    have h := HH.out
    have hQ := HQ.out
    have e : SameF s s' := ⟨got (hs 0 (by omega)) rfl, got (hs 1 (by omega)) rfl, got (hs 2 (by omega)) rfl, got (hs 3 (by omega)) rfl, got (hs 4 (by omega)) rfl, got (hs 5 (by omega)) rfl, got (hs 6 (by omega)) rfl, got (hs 7 (by omega)) rfl, (got (hs 83 (by omega)) rfl).trans h.s83.symm⟩
    exact sk4 (h.re e) (by omega) ht2 Q fun a w mn F hk hp => hQ a w mn F (hk.re e.k0 e.k1 e.k2 e.k3) hp
set_option maxRecDepth 100000 in
set_option maxHeartbeats 4000000 in
theorem sk2 {s : Nat → Value} {w0 w : World} {B fb : Nat} {mn : Int} {n : Nat} {F : Nat → GRw} {cb f xi bi ib bb : Nat} {t to_ nn : Int} (h : Wy s w0 w B fb mn n F cb f xi bi ib bb t to_ nn) (ht : 2 ≤ t) (ht2 : t < 16) (Q : Exit → Act → World → Prop) (hQ : ∀ a' w' mn' F', KeepF s a' → PS w0 w' B fb mn' (n + 1) F' → Q .normal a' w') : chS2.wp Try.prog Q (fr s) w := by
  have h83 := h.s83
  have HQ := Lib.hid hQ
  have HH := Lib.hid h
  rw [chS2_eq, fr_lit, h83]
  apply wp_seq_k
  intro K hK
  conv => arg 2; whnf
  clear h hQ
  by_cases hk : t = 2
  · subst hk
    clear ht ht2
    go_wp2
    refine wp_fr _ rfl rfl fun s' hs => ?_
    have h := HH.out
    have hQ := HQ.out
    have e : SameF s s' := ⟨got (hs 0 (by omega)) rfl, got (hs 1 (by omega)) rfl, got (hs 2 (by omega)) rfl, got (hs 3 (by omega)) rfl, got (hs 4 (by omega)) rfl, got (hs 5 (by omega)) rfl, got (hs 6 (by omega)) rfl, got (hs 7 (by omega)) rfl, (got (hs 83 (by omega)) rfl).trans h.s83.symm⟩
    exact way2 (h.re e) Q fun a w mn F hk hp => hQ a w mn F (hk.re e.k0 e.k1 e.k2 e.k3) hp
  · go_wp2
    refine wp_fr _ rfl rfl fun s' hs => ?_
    have h := HH.out
    have hQ := HQ.out
    have e : SameF s s' := ⟨got (hs 0 (by omega)) rfl, got (hs 1 (by omega)) rfl, got (hs 2 (by omega)) rfl, got (hs 3 (by omega)) rfl, got (hs 4 (by omega)) rfl, got (hs 5 (by omega)) rfl, got (hs 6 (by omega)) rfl, got (hs 7 (by omega)) rfl, (got (hs 83 (by omega)) rfl).trans h.s83.symm⟩
    exact sk3 (h.re e) (by omega) ht2 Q fun a w mn F hk hp => hQ a w mn F (hk.re e.k0 e.k1 e.k2 e.k3) hp
set_option maxRecDepth 100000 in
set_option maxHeartbeats 4000000 in
theorem sk1 {s : Nat → Value} {w0 w : World} {B fb : Nat} {mn : Int} {n : Nat} {F : Nat → GRw} {cb f xi bi ib bb : Nat} {t to_ nn : Int} (h : Wy s w0 w B fb mn n F cb f xi bi ib bb t to_ nn) (ht : 1 ≤ t) (ht2 : t < 16) (Q : Exit → Act → World → Prop) (hQ : ∀ a' w' mn' F', KeepF s a' → PS w0 w' B fb mn' (n + 1) F' → Q .normal a' w') : chS1.wp Try.prog Q (fr s) w := by
  have h83 := h.s83
  have HQ := Lib.hid hQ
  have HH := Lib.hid h
  rw [chS1_eq, fr_lit, h83]
  apply wp_seq_k
  intro K hK
  conv => arg 2; whnf
  clear h hQ
  by_cases hk : t = 1
  · subst hk
    clear ht ht2
    go_wp2
    refine wp_fr _ rfl rfl fun s' hs => ?_
    have h := HH.out
    have hQ := HQ.out
    have e : SameF s s' := ⟨got (hs 0 (by omega)) rfl, got (hs 1 (by omega)) rfl, got (hs 2 (by omega)) rfl, got (hs 3 (by omega)) rfl, got (hs 4 (by omega)) rfl, got (hs 5 (by omega)) rfl, got (hs 6 (by omega)) rfl, got (hs 7 (by omega)) rfl, (got (hs 83 (by omega)) rfl).trans h.s83.symm⟩
    exact way1 (h.re e) Q fun a w mn F hk hp => hQ a w mn F (hk.re e.k0 e.k1 e.k2 e.k3) hp
  · go_wp2
    refine wp_fr _ rfl rfl fun s' hs => ?_
    have h := HH.out
    have hQ := HQ.out
    have e : SameF s s' := ⟨got (hs 0 (by omega)) rfl, got (hs 1 (by omega)) rfl, got (hs 2 (by omega)) rfl, got (hs 3 (by omega)) rfl, got (hs 4 (by omega)) rfl, got (hs 5 (by omega)) rfl, got (hs 6 (by omega)) rfl, got (hs 7 (by omega)) rfl, (got (hs 83 (by omega)) rfl).trans h.s83.symm⟩
    exact sk2 (h.re e) (by omega) ht2 Q fun a w mn F hk hp => hQ a w mn F (hk.re e.k0 e.k1 e.k2 e.k3) hp
set_option maxRecDepth 100000 in
set_option maxHeartbeats 4000000 in
theorem sk0 {s : Nat → Value} {w0 w : World} {B fb : Nat} {mn : Int} {n : Nat} {F : Nat → GRw} {cb f xi bi ib bb : Nat} {t to_ nn : Int} (h : Wy s w0 w B fb mn n F cb f xi bi ib bb t to_ nn) (ht : 0 ≤ t) (ht2 : t < 16) (Q : Exit → Act → World → Prop) (hQ : ∀ a' w' mn' F', KeepF s a' → PS w0 w' B fb mn' (n + 1) F' → Q .normal a' w') : chS0.wp Try.prog Q (fr s) w := by
  have h83 := h.s83
  have HQ := Lib.hid hQ
  have HH := Lib.hid h
  rw [chS0_eq, fr_lit, h83]
  apply wp_seq_k
  intro K hK
  conv => arg 2; whnf
  clear h hQ
  by_cases hk : t = 0
  · subst hk
    clear ht ht2
    go_wp2
    refine wp_fr _ rfl rfl fun s' hs => ?_
    have h := HH.out
    have hQ := HQ.out
    have e : SameF s s' := ⟨got (hs 0 (by omega)) rfl, got (hs 1 (by omega)) rfl, got (hs 2 (by omega)) rfl, got (hs 3 (by omega)) rfl, got (hs 4 (by omega)) rfl, got (hs 5 (by omega)) rfl, got (hs 6 (by omega)) rfl, got (hs 7 (by omega)) rfl, (got (hs 83 (by omega)) rfl).trans h.s83.symm⟩
    exact way0 (h.re e) Q fun a w mn F hk hp => hQ a w mn F (hk.re e.k0 e.k1 e.k2 e.k3) hp
  · go_wp2
    refine wp_fr _ rfl rfl fun s' hs => ?_
    have h := HH.out
    have hQ := HQ.out
    have e : SameF s s' := ⟨got (hs 0 (by omega)) rfl, got (hs 1 (by omega)) rfl, got (hs 2 (by omega)) rfl, got (hs 3 (by omega)) rfl, got (hs 4 (by omega)) rfl, got (hs 5 (by omega)) rfl, got (hs 6 (by omega)) rfl, got (hs 7 (by omega)) rfl, (got (hs 83 (by omega)) rfl).trans h.s83.symm⟩
    exact sk1 (h.re e) (by omega) ht2 Q fun a w mn F hk hp => hQ a w mn F (hk.re e.k0 e.k1 e.k2 e.k3) hp
end Go.Proofs.Ythhjhdmdfneegaa
namespace Go.Proofs.Ythhjhdmdfneegaa
set_option linter.unusedVariables false
set_option linter.unusedSimpArgs false
open Go.RowKit

set_option maxRecDepth 100000 in
set_option maxHeartbeats 16000000 in
/-- What is changed is found, and changed. -/
theorem ix_t (s : Nat → Value) (w0 wo : World) (B fb i n n0 : Nat) (mn : Int) (F : Nat → GRw) (A : Option Addr) (ln lc : Nat) (l : List ChD) (hP : PS w0 wo B fb mn n F) (hn : n ≤ 8) (hC : CHs n0 wo (.slice A ln lc) l) (hok : ∀ d ∈ l, d.ok) (hi : i < ln) (hi3 : i < 3) (s0 : s 0 = .slice A ln lc) (s2 : s 2 = .pointer (some ⟨B, 0, none⟩)) (s3 : s 3 = .int .i64 (i : Int))
    (Q : Exit → Act → World → Prop) (hQ : ∀ a' w' mn' F', KeepF s a' → PS w0 w' B fb mn' (n + 1) F' → Q .normal a' w') : chX.wp Try.prog Q (fr s) wo := by
  have hll := hC.len
  have hil : i < l.length := by omega
  obtain ⟨ab, ao, rfl, a0, a1, a2, a3, a4⟩ := hC.at hil
  have hd := hok l[i] (List.getElem_mem hil)
  obtain ⟨d, hdd⟩ : ∃ d, d = l[i] := ⟨_, rfl⟩
  rw [← hdd] at a0 a1 a2 a3 a4 hd
  obtain ⟨fn, wh, at_, to_, nn⟩ := d
  obtain ⟨d1, d2, d3, d4, d5⟩ := hd
  simp only at a0 a1 a2 a3 a4 d1 d2 d3 d4 d5
  obtain ⟨Y, hY, hbY, hzY, h0Y⟩ := gr_one wo #[.int .i64 fn, .int .i64 wh, .int .i64 at_, .int .i64 to_, .int .i64 nn] 37
  have hPY := hP.keep hbY
  obtain ⟨cb, hcb⟩ : ∃ cb, cb = wo.heap.size := ⟨_, rfl⟩
  have hfar : ∀ k, (F k).v.ownBlock ≠ some cb := fun k e => by
    have := ((hP.fam.own k).lt cb e).2
    omega
  obtain ⟨fi, hfi⟩ : ∃ fi : Nat, (fi : Int) = fn % 2 := ⟨(fn % 2).toNat, by omega⟩
  have hf2 : fi < 2 := by omega
  have hand : bits .and .i64 fn 1 = (fi : Int) := by rw [i64_and1, hfi]
  obtain ⟨ib, hFx, -, -, -, -⟩ := hPY.st (rk_ins hf2)
  obtain ⟨bb, hFk, -, -, -, -⟩ := hPY.st (rk_blk hf2)
  have hS := hPY.stat rk_fun hPY.f0
  obtain ⟨v3, -, hv3, q3, -⟩ := hS (fi * 5 + 3) (by omega)
  obtain ⟨v4, -, hv4, q4, -⟩ := hS (fi * 5 + 4) (by omega)
  have e3 : v3 = .slice (some ⟨ib, 0, none⟩) (insM fi) (insM fi) := by
    have e : funP (fi * 5 + 3) = .r (sN fi 1) := by unfold funP; rw [if_neg (by omega), if_neg (by omega), if_neg (by omega), show (fi * 5 + 3) / 5 = fi by omega, show (fi * 5 + 3) % 5 - 2 = 1 by omega]
    rw [e] at hv3
    have h1 : v3 = (F (sN fi 1)).v := hv3
    rw [h1, congrArg GRw.v hFx]
  have e4 : v4 = .slice (some ⟨bb, 0, none⟩) (blkM fi) (blkM fi) := by
    have e : funP (fi * 5 + 4) = .r (sN fi 2) := by unfold funP; rw [if_neg (by omega), if_neg (by omega), if_neg (by omega), show (fi * 5 + 4) / 5 = fi by omega, show (fi * 5 + 4) % 5 - 2 = 2 by omega]
    rw [e] at hv4
    have h1 : v4 = (F (sN fi 2)).v := hv4
    rw [h1, congrArg GRw.v hFk]
  subst e3 e4
  obtain ⟨im, him⟩ : ∃ m, m = insM fi := ⟨_, rfl⟩
  obtain ⟨bm, hbm⟩ : ∃ m, m = blkM fi := ⟨_, rfl⟩
  have hb1 := insM_b fi
  have hb2 := blkM_b fi
  rw [← him] at q3 hb1
  rw [← hbm] at q4 hb2
  obtain ⟨r1, k1, i1, i2, i3, i4⟩ := round_ix at_ im hb1.1 d3 (by omega)
  obtain ⟨r2, k2, j1, j2, j3, j4⟩ := round_ix at_ bm hb2.1 d3 (by omega)
  obtain ⟨r5, tt, t1, t2, t3, t4⟩ := round_ix wh 16 (by omega) d2 (by omega)
  have t1 : wh.tmod 16 = r5 := t1
  have t2 : wrap64 (r5 + 16) = r5 + 16 := t2
  have t3 : (r5 + 16).tmod 16 = (tt : Int) := t3
  have HWy : ∀ (s' : Nat → Value) (w' : World), Below Y.heap.size Y w' → s' 2 = .pointer (some ⟨B, 0, none⟩) → s' 4 = .pointer (some ⟨cb, 0, none⟩) → s' 5 = .pointer (some ⟨fb, fi * 5, none⟩) → s' 6 = .pointer (some ⟨ib, k1 * 5, none⟩) → s' 7 = .pointer (some ⟨bb, k2 * 5, none⟩) → s' 83 = .int .i64 (tt : Int) → Wy s' w0 w' B fb mn n F cb fi k1 k2 ib bb (tt : Int) to_ nn := fun s' w' hb e2 e4 e5 e6 e7 e8 =>
    ⟨hPY.keep hb, hf2, by rw [← him]; exact i4, by rw [← hbm]; exact j4, e2, e4, e5, hFx, e6, hFk, e7, e8, (hb.cell (p := ⟨cb, 3, none⟩) (by show cb < _; omega)).trans (by rw [hcb]; exact Lib.cell_of_heap h0Y 3), (hb.cell (p := ⟨cb, 4, none⟩) (by show cb < _; omega)).trans (by rw [hcb]; exact Lib.cell_of_heap h0Y 4), d4, d5, hn, hfar⟩
  obtain ⟨c0, c1, c2, c3, c4, -⟩ := gr_five h0Y
  have p0 := Lib.cell_of_heap hPY.p 0
  rw [← hcb] at c0 c1 c2 c3 c4
  have him0 : ¬ (im : Int) = 0 := by omega
  have hbm0 : ¬ (bm : Int) = 0 := by omega
  have hf2i : (fi : Int) < 2 := by omega
  have h16 : (tt : Int) < 16 := by omega
  have hin : (i : Int) < (ln : Int) := by omega
  have HC : Hid (∀ X, Below Y.heap.size Y X → X.cell? ⟨fb, fi * 5 + 3, none⟩ = some (.slice (some ⟨ib, 0, none⟩) im im) ∧ X.cell? ⟨fb, fi * 5 + 4, none⟩ = some (.slice (some ⟨bb, 0, none⟩) bm bm) ∧ X.cell? ⟨cb, 1, none⟩ = some (.int .i64 wh) ∧ X.cell? ⟨cb, 2, none⟩ = some (.int .i64 at_)) := Lib.hid fun X hX => ⟨(hX.cell (p := ⟨fb, fi * 5 + 3, none⟩) (World.block_lt_of_cell? Y _ q3)).trans q3, (hX.cell (p := ⟨fb, fi * 5 + 4, none⟩) (World.block_lt_of_cell? Y _ q4)).trans q4, (hX.cell (p := ⟨cb, 1, none⟩) (World.block_lt_of_cell? Y _ c1)).trans c1, (hX.cell (p := ⟨cb, 2, none⟩) (World.block_lt_of_cell? Y _ c2)).trans c2⟩
  have HW := Lib.hid HWy
  have HY := Lib.hid hY
  have HQ := Lib.hid hQ
  have Hs2 := Lib.hid s2
  have Hcb := Lib.hid hcb
  have H16 := Lib.hid h16
  clear hQ hY HWy hfar hFx hFk hS hv3 hv4 him hbm hfi hC hok hll hil hdd hP hPY hbY h0Y hzY d1 d2 d3 d4 d5 t4 hi3 hcb
  rw [chX_eq, fr_lit, s0, s2, s3]
  apply wp_seq_k
  intro K hK
  conv => arg 2; whnf
  go_wp2
  rw [← HY.out, ← Hcb.out]
  clear a0 a1 a2 a3 a4 hin
  conv => arg 2; whnf
  go_wp2
  clear p0 c0 c3 c4
  conv => arg 2; whnf
  go_quiet (fail)
  generalize hV : World.drewN _ _ = V
  have hbV : Below Y.heap.size Y V := by rw [← hV]; exact below_dr (Below.refl _ _) _
  have HV := Lib.hid hbV
  obtain ⟨q3, q4, c1, c2⟩ := HC.out V hbV
  clear hV hbV i1 i2 i3
  go_wp2
  conv => arg 2; whnf
  go_quiet (fail)
  generalize hV : World.drewN _ _ = V2
  have hbV : Below Y.heap.size Y V2 := HV.out.trans ((by rw [← hV]; exact below_dr (Below.refl _ _) _ : Below V.heap.size V V2).mono HV.out.size)
  have HV2 := Lib.hid hbV
  obtain ⟨q3, q4, c1, c2⟩ := HC.out V2 hbV
  clear hV hbV j1 j2 j3 HV
  go_wp2
  conv => arg 2; whnf
  go_wp2
  refine wp_fr _ rfl rfl fun s' hs => ?_
  have k0 : s' 0 = .slice (some ⟨ab, ao, none⟩) ln lc := got (hs 0 (by omega)) rfl
  have k1' : s' 1 = s 1 := got (hs 1 (by omega)) rfl
  have k2' : s' 2 = .pointer (some ⟨B, 0, none⟩) := got (hs 2 (by omega)) rfl
  have k3' : s' 3 = .int .i64 (i : Int) := got (hs 3 (by omega)) rfl
  refine sk0 (HW.out s' V2 HV2.out k2' (got (hs 4 (by omega)) rfl) (got (hs 5 (by omega)) rfl) (got (hs 6 (by omega)) rfl) (got (hs 7 (by omega)) rfl) (got (hs 83 (by omega)) rfl)) (by omega) H16.out _ ?_
  intro a' w' mn' F' hk hp
  have := HQ.out a' w' mn' F' (hk.re (k0.trans s0.symm) k1' (k2'.trans s2.symm) (k3'.trans s3.symm)) hp
  exact this
end Go.Proofs.Ythhjhdmdfneegaa
namespace Go.Proofs.Ythhjhdmdfneegaa
set_option linter.unusedVariables false
set_option linter.unusedSimpArgs false
open Go.RowKit

def LIv (w : World) (fb : Nat) (lv : Value) (a : Act) (w' : World) : Prop := ∃ (s : Nat → Value) (i : Nat) (mn : Int) (F : Nat → GRw), a = fr s ∧ s 0 = lv ∧ s 2 = .pointer (some ⟨w.heap.size, 0, none⟩) ∧ s 3 = .int .i64 (i : Int) ∧ i ≤ 3 ∧ PS w w' w.heap.size fb mn (6 + i) F
def LMu (a : Act) (_ : World) : Nat := 3 - (intOf (a.tmps.getD 3 undef)).toNat
theorem LIv_of {w : World} {fb i : Nat} {lv : Value} {mn : Int} {F : Nat → GRw} {w' : World} (a : Act) (h : a.tmps.size = 295) (hd : a.defers = []) (h0 : a.tmps[0]? = some lv) (h2 : a.tmps[2]? = some (.pointer (some ⟨w.heap.size, 0, none⟩))) (h3 : a.tmps[3]? = some (.int .i64 (i : Int))) (hi : i ≤ 3) (hp : PS w w' w.heap.size fb mn (6 + i) F) : LIv w fb lv a w' := by
  obtain ⟨s, e, hs⟩ := fr_of a h hd
  exact ⟨s, i, mn, F, e, got (hs 0 (by omega)) h0, got (hs 2 (by omega)) h2, got (hs 3 (by omega)) h3, hi, hp⟩
theorem exit_of {Q : Exit → Act → World → Prop} {w' : World} {v : Value} (a : Act) (h : a.tmps.size = 295) (hd : a.defers = []) (h2 : a.tmps[2]? = some v) (k : ∀ s, s 2 = v → Q (.exit 0) (fr s) w') : Q (.exit 0) a w' := by
  obtain ⟨s, e, hs⟩ := fr_of a h hd
  rw [e]
  exact k s (got (hs 2 (by omega)) h2)
theorem fr3 (s : Nat → Value) (w : World) : LMu (fr s) w = 3 - (intOf (s 3)).toNat := rfl
set_option maxRecDepth 100000 in
set_option maxHeartbeats 16000000 in
theorem round_t (w : World) (fb n0 : Nat) (A : Option Addr) (ln lc : Nat) (l : List ChD) (hn0 : n0 ≤ w.heap.size) (hC : ∀ X, Below w.heap.size w X → CHs n0 X (.slice A ln lc) l) (hok : ∀ d ∈ l, d.ok) (hln : ln ≤ 9223372036854775807)
    (Q : Exit → Act → World → Prop) (hexit : ∀ s w' mn F, s 2 = .pointer (some ⟨w.heap.size, 0, none⟩) → PS w w' w.heap.size fb mn 9 F → Q (.exit 0) (fr s) w') (a : Act) (w' : World) (hI : LIv w fb (.slice A ln lc) a w') :
    chB.wp Try.prog (Exit.then (fun a' w'' => LIv w fb (.slice A ln lc) a' w'' ∧ LMu a' w'' < LMu a w') Q) a w' := by
  obtain ⟨s, i, mn, F, rfl, s0, s2, s3, hi, hP⟩ := hI
  have hmu : LMu (fr s) w' = 3 - i := by rw [fr3, s3]; rfl
  rw [hmu]
  have HP := Lib.hid hP
  have HC := Lib.hid hC
  have HQ := Lib.hid hexit
  have Hok := Lib.hid hok
  have Hs2 := Lib.hid s2
  have hb := Lib.hid hP.b
  clear hP hC hexit hmu hok
  rw [chB_eq, fr_lit, s0, s2, s3]
  apply wp_seq_k
  intro K hK
  conv => arg 2; whnf
  by_cases hlt : i < ln ∧ i < 3
  · obtain ⟨h1, h2⟩ := hlt
    have h1i : (i : Int) < (ln : Int) := by omega
    have h2i : (i : Int) < 3 := by omega
    go_wp2
    refine wp_fr _ rfl rfl fun s' hs => ?_
    have k0 : s' 0 = .slice A ln lc := got (hs 0 (by omega)) rfl
    have k2 : s' 2 = .pointer (some ⟨w.heap.size, 0, none⟩) := got (hs 2 (by omega)) rfl
    have k3 : s' 3 = .int .i64 (i : Int) := got (hs 3 (by omega)) rfl
    refine ix_t s' w w' w.heap.size fb i (6 + i) n0 mn F A ln lc l HP.out (by omega) (HC.out w' hb.out) Hok.out h1 h2 k0 k2 k3 _ ?_
    intro a' w2 mn' F' hk hp
    obtain ⟨s2', rfl, e0, e1, e2, e3⟩ := hk.fr
    have HP2 := Lib.hid hp
    rw [k0] at e0
    rw [k2] at e2
    rw [k3] at e3
    rw [fr_lit]
    clear hs hp hk k0 k2 k3 HP
    rw [e0, e2, e3]
    go_wp2
    conv => arg 2; whnf
    go_wp2
    refine ⟨LIv_of (i := i + 1) _ rfl rfl rfl rfl ?_ (by omega) HP2.out, ?_⟩
    · show some (Value.int .i64 ((i : Int) + 1)) = _
      rw [show ((i + 1 : Nat) : Int) = (i : Int) + 1 by omega]
    · show 3 - (intOf (Value.int .i64 ((i : Int) + 1))).toNat < 3 - i
      simp only [intOf]
      omega
  · have hlt' : ¬ (i < ln) ∨ ¬ (i < 3) := by omega
    have HE := HP.out.mono (show 6 + i ≤ 9 by omega)
    rcases hlt' with h1 | h1
    · have h1i : ¬ ((i : Int) < (ln : Int)) := by omega
      go_wp2
      exact exit_of _ rfl rfl rfl fun s h2 => HQ.out s w' mn F h2 HE
    · have h1i : ¬ ((i : Int) < 3) := by omega
      by_cases h3 : i < ln
      · have h3i : (i : Int) < (ln : Int) := by omega
        go_wp2
        exact exit_of _ rfl rfl rfl fun s h2 => HQ.out s w' mn F h2 HE
      · have h3i : ¬ ((i : Int) < (ln : Int)) := by omega
        go_wp2
        exact exit_of _ rfl rfl rfl fun s h2 => HQ.out s w' mn F h2 HE
set_option maxRecDepth 100000 in
set_option maxHeartbeats 64000000 in
theorem changed_c (n0 : Nat) (A : Option Addr) (ln lc : Nat) (l : List ChD) (w : World) (h : CHs n0 w (.slice A ln lc) l) (hn0 : n0 ≤ w.heap.size) (hok : ∀ d ∈ l, d.ok) (hln : ln ≤ 9223372036854775807) : Calls Try.prog 4 #[.slice A ln lc] w fun e w' => ∃ (fb : Nat) (mn : Int) (F : Nat → GRw), e = .returned (.agg #[.slice (some ⟨fb, 0, none⟩) 2 2, .int .i64 mn]) ∧ PS w w' w.heap.size fb mn 9 F := by
  obtain ⟨W, hW, hbW, hzW, h0W⟩ := gr_one w #[.slice none 0 0, .int .i64 0] 25
  have hll := h.len
  have hBs := base_any W
  have HB : Hid (w.heap.size < W.heap.size ∧ W.heap.size = w.heap.size + 1) := Lib.hid ⟨by omega, hzW⟩
  have HbW := Lib.hid hbW
  have H0 := Lib.hid h0W
  have HW := Lib.hid hW
  have Hll := Lib.hid hll
  have Hok := Lib.hid hok
  have Hc : Hid (∀ X, Below w.heap.size w X → CHs n0 X (.slice A ln lc) l) := Lib.hid fun X hX => h.keep (hX.mono hn0)
  clear hW hbW hzW h0W hll hok h
  go_enter Try.func4, Try.ntmps4
  go_upto_region 1 with fail
  rw [← HW.out]
  go_upto_region 2 with (go_at_call 11; refine hBs.mono ?_; rintro e w1 ⟨fb, bb, v0, v1, rfl, hB⟩; have HBA := Lib.hid hB; have h01 := (hB.below.block w.heap.size HB.out.1).trans H0.out; have H01 := Lib.hid h01; have y0 := Lib.cell_of_heap h01 0; have y1 := Lib.cell_of_heap h01 1; have g0 := Lib.frozen_of_heap h01 0; have g1 := Lib.frozen_of_heap h01 1; clear hB h01 hBs)
  clear y0 y1 g0 g1
  generalize hY : World.setCell _ _ _ = X1
  have HP : Hid (PS w X1 w.heap.size fb 0 6 (baseW W.heap.size)) := Lib.hid (by
    have hf := baseW_fam HBA.out HB.out.1
    rw [← hY]
    refine ⟨gr_put (gr_put H01.out 0 _) 1 _, by unfold InG; decide, ?_, ?_, baseW_ci _, ((HbW.out.trans (HBA.out.below.mono (Nat.le_of_lt HB.out.1))).setCell (p := ⟨w.heap.size, 0, none⟩) (Nat.le_refl _) _).setCell (p := ⟨w.heap.size, 1, none⟩) (Nat.le_refl _) _⟩
    · have e : w.heap.size + 2 = W.heap.size + 1 := by have := HB.out.2; omega
      rw [e]
      exact hf.bu ((GBu.setCell (p := ⟨w.heap.size, 0, none⟩) (GBu.refl _ _) (.inl rfl) _).setCell (p := ⟨w.heap.size, 1, none⟩) (.inl rfl) _)
    · rw [HBA.out.fe]
      rfl)
  clear hY HBA H01
  go_wp2_with fail
  refine wp_loop (c := chB) (LIv w fb (.slice A ln lc)) LMu ?_ (fun a w'' hI => round_t w fb n0 A ln lc l hn0 (fun X hX => Hc.out X hX) Hok.out hln _ ?_ a w'' hI)
  · exact LIv_of (i := 0) _ rfl rfl rfl rfl rfl (by omega) HP.out
  · intro s w2 mn F h2 hp
    have HP2 := Lib.hid hp
    have p0 := Lib.cell_of_heap hp.p 0
    have p1 := Lib.cell_of_heap hp.p 1
    have pf0 := Lib.frozen_of_heap hp.p 0
    have pf1 := Lib.frozen_of_heap hp.p 1
    rw [fr_lit, h2]
    clear hp HP
    go_wp2
    generalize hX : World.setCell _ _ _ = X
    have HX : PS w X w.heap.size fb mn 9 F := by
      rw [← hX]
      exact ⟨gr_put (gr_put HP2.out.p 0 _) 1 _, HP2.out.mn, HP2.out.fam.bu ((GBu.setCell (p := ⟨w.heap.size, 0, none⟩) (GBu.refl _ _) (.inl rfl) _).setCell (p := ⟨w.heap.size, 1, none⟩) (.inl rfl) _), HP2.out.fv, HP2.out.ci, (HP2.out.b.setCell (p := ⟨w.heap.size, 0, none⟩) (Nat.le_refl _) _).setCell (p := ⟨w.heap.size, 1, none⟩) (Nat.le_refl _) _⟩
    have x0 : X.cell? ⟨w.heap.size, 0, none⟩ = some (.slice (some ⟨fb, 0, none⟩) 2 2) := Lib.cell_of_heap HX.p 0
    have x1 : X.cell? ⟨w.heap.size, 1, none⟩ = some (.int .i64 mn) := Lib.cell_of_heap HX.p 1
    refine bodyPost_ret (v := .agg #[.slice (some ⟨fb, 0, none⟩) 2 2, .int .i64 mn]) (by simp [results, Try.results4, go_sem, x0, x1]) rfl ?_
    exact ⟨fb, mn, F, rfl, HX⟩
end Go.Proofs.Ythhjhdmdfneegaa
