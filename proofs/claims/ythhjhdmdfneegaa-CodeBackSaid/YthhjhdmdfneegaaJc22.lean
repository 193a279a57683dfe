/-
  The base with changes: frames.
-/
import Derived.Test.YthhjhdmdfneegaaJc17
namespace Go.Proofs.Ythhjhdmdfneegaa
set_option linter.unusedVariables false
set_option linter.unusedSimpArgs false
open Go.RowKit

theorem wp_fr {c : Code} {Q : Exit → Act → World → Prop} {w : World} (a : Act) (h : a.tmps.size = 295) (hd : a.defers = []) (k : ∀ s, (∀ j, j < 295 → a.tmps[j]? = some (s j)) → c.wp Try.prog Q (fr s) w) : c.wp Try.prog Q a w := by
  obtain ⟨s, e, hs⟩ := fr_of a h hd
  rw [e]
  exact k s hs
theorem got {x y : Value} {o : Option Value} (h : o = some x) (h2 : o = some y) : x = y := Option.some.inj (h.symm.trans h2)
structure SameF (s s' : Nat → Value) : Prop where
  k0 : s' 0 = s 0
  k1 : s' 1 = s 1
  k2 : s' 2 = s 2
  k3 : s' 3 = s 3
  k4 : s' 4 = s 4
  k5 : s' 5 = s 5
  k6 : s' 6 = s 6
  k7 : s' 7 = s 7
  k83 : s' 83 = s 83
theorem Wy.re {s : Nat → Value} {w0 w : World} {B fb : Nat} {mn : Int} {n : Nat} {F : Nat → GRw} {cb f xi bi ib bb : Nat} {t to_ nn : Int} (h : Wy s w0 w B fb mn n F cb f xi bi ib bb t to_ nn) {s' : Nat → Value} (e : SameF s s') : Wy s' w0 w B fb mn n F cb f xi bi ib bb t to_ nn :=
  ⟨h.ps, h.hf, h.hx, h.hb, e.k2.trans h.s2, e.k4.trans h.s4, e.k5.trans h.s5, h.fx, e.k6.trans h.s6, h.fk, e.k7.trans h.s7, e.k83.trans h.s83, h.c3, h.c4, h.g3, h.g4, h.hn, h.far⟩
theorem KeepF.re {s s' : Nat → Value} {a : Act} (h : KeepF s' a) (e0 : s' 0 = s 0) (e1 : s' 1 = s 1) (e2 : s' 2 = s 2) (e3 : s' 3 = s 3) : KeepF s a := by
  obtain ⟨h1, h2, k0, k1, k2, k3⟩ := h
  exact ⟨h1, h2, by rw [k0, e0], by rw [k1, e1], by rw [k2, e2], by rw [k3, e3]⟩
end Go.Proofs.Ythhjhdmdfneegaa
