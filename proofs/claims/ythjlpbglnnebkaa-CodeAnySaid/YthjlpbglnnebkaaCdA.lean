/-
  Programs as bytes: numbers, over plain data.
-/
import Derived.Test.YthjlpbglnnebkaaGrC
namespace Go.Proofs.Ythjlpbglnnebkaa
open Go.RowKit
set_option linter.unusedVariables false
set_option linter.unusedSimpArgs false

/-- A number's bytes, of at most so many more. -/
def cdF : Nat → Nat → List UInt8
  | 0, n => [UInt8.ofNat n]
  | k + 1, n => if n < 128 then [UInt8.ofNat n] else UInt8.ofNat (128 + n % 128) :: cdF k (n / 128)
def cdN (n : Nat) : List UInt8 := cdF 9 n
/-- A number that bytes begin with, from its i-th byte on, and what is behind. -/
def cdRd : Nat → Nat → List UInt8 → Option (Nat × List UInt8)
  | 0, _, _ => none
  | _ + 1, _, [] => none
  | k + 1, i, c :: r =>
    if k = 0 ∧ 1 < c.toNat then none
    else if c.toNat < 128 then (if c.toNat = 0 ∧ 0 < i then none else some (c.toNat, r))
    else (cdRd k (i + 1) r).map fun p => (c.toNat % 128 + 128 * p.1, p.2)
theorem cdF_read : ∀ (k n i : Nat) (r : List UInt8), n < 128 ^ (k + 1) → (k + i = 9 → n < 128 ^ k * 2) → k + i = 9 → (0 < i → 0 < n) → cdRd (k + 1) i (cdF k n ++ r) = some (n, r)
  | 0, n, i, r, h, h2, hi, hp => by
    have hn : n < 2 := by have := h2 hi; simpa using this
    have e : (UInt8.ofNat n).toNat = n := by simp [UInt8.toNat_ofNat']; omega
    simp only [cdF, List.cons_append, List.nil_append, cdRd, e]
    rw [if_neg (by omega), if_pos (by omega), if_neg (by omega)]
  | k + 1, n, i, r, h, h2, hi, hp => by
    unfold cdF
    by_cases hn : n < 128
    · have e : (UInt8.ofNat n).toNat = n := by simp [UInt8.toNat_ofNat']; omega
      rw [if_pos hn]
      simp only [List.cons_append, List.nil_append, cdRd, e]
      rw [if_neg (by omega), if_pos (by omega), if_neg (by omega)]
    · have e : (UInt8.ofNat (128 + n % 128)).toNat = 128 + n % 128 := by simp [UInt8.toNat_ofNat']; omega
      rw [if_neg hn]
      have h3 : n < 128 ^ (k + 1) * 2 := h2 hi
      have h4 : n / 128 < 128 ^ k * 2 := by
        rw [Nat.pow_succ] at h3
        exact Nat.div_lt_of_lt_mul (by rw [Nat.mul_comm 128, Nat.mul_right_comm]; exact h3)
      have ih := cdF_read k (n / 128) (i + 1) r (by rw [Nat.pow_succ]; omega) (fun _ => h4) (by omega) (fun _ => by omega)
      simp only [List.cons_append, cdRd, e]
      rw [if_neg (by omega), if_neg (by omega), ih]
      simp only [Option.map_some, Option.some.injEq, Prod.mk.injEq, and_true]
      omega
/-- A number's bytes are read again. -/
theorem cdN_read (n : Nat) (r : List UInt8) (h : n < 18446744073709551616) : cdRd 10 0 (cdN n ++ r) = some (n, r) :=
  cdF_read 9 n 0 r (by simp; omega) (fun _ => by simp; omega) rfl (by omega)
/-- What is read has just these bytes. -/
theorem read_cdF : ∀ (k i n : Nat) (l r : List UInt8), k + i = 9 → cdRd (k + 1) i l = some (n, r) → l = cdF k n ++ r ∧ (0 < i → 0 < n) ∧ n < 128 ^ k * 2
  | _, _, _, [], _, _, h => by simp [cdRd] at h
  | 0, i, n, c :: l, r, hi, h => by
    unfold cdRd at h
    split at h
    · cases h
    · next h1 =>
      split at h
      · split at h
        · cases h
        · next h2 h3 =>
          injection h with h
          injection h with h4 h5
          subst h4 h5
          have h1' : ¬ 1 < c.toNat := fun h => h1 ⟨rfl, h⟩
          refine ⟨?_, fun _ => by omega, by simp; omega⟩
          simp [cdF]
      · simp [cdRd] at h
  | k + 1, i, n, c :: l, r, hi, h => by
    unfold cdRd at h
    split at h
    · cases h
    · next h1 =>
      split at h
      · split at h
        · cases h
        · next h2 h3 =>
          injection h with h
          injection h with h4 h5
          subst h4 h5
          have hp : 0 < 128 ^ k := Nat.pow_pos (by decide)
          refine ⟨?_, fun _ => by omega, by rw [Nat.pow_succ]; omega⟩
          simp [cdF, h2]
      · next h2 =>
        rw [Option.map_eq_some_iff] at h
        obtain ⟨⟨m, r'⟩, h3, h4⟩ := h
        injection h4 with h4 h5
        dsimp only at h4 h5
        subst h5
        obtain ⟨e1, e2, e3⟩ := read_cdF k (i + 1) m l r' (by omega) h3
        have hm := e2 (by omega)
        have hc : c.toNat < 256 := c.toNat_lt
        have e4 : n % 128 = c.toNat % 128 := by omega
        have e5 : n / 128 = m := by omega
        refine ⟨?_, fun _ => by omega, by rw [Nat.pow_succ]; omega⟩
        unfold cdF
        rw [if_neg (by omega), e4, e5, List.cons_append, ← e1]
        congr 1
        apply UInt8.toNat_inj.1
        simp [UInt8.toNat_ofNat']
        omega
theorem read_cdN {l r : List UInt8} {n : Nat} (h : cdRd 10 0 l = some (n, r)) : l = cdN n ++ r ∧ n < 18446744073709551616 := by
  obtain ⟨h1, -, h3⟩ := read_cdF 9 0 n l r rfl h
  exact ⟨h1, by simpa using h3⟩
/-- Bytes as they lie. -/
def bcV (l : List UInt8) : List Value := l.map fun b => .int .u8 (b.toNat : Int)
theorem bcV_snoc (l : List UInt8) (b : UInt8) : bcV (l ++ [b]) = bcV l ++ [.int .u8 (b.toNat : Int)] := by simp [bcV]
theorem bcV_len (l : List UInt8) : (bcV l).length = l.length := by simp [bcV]
/-- All but blocks of some types is as it was. -/
structure Kq (base : Nat) (ts : List TypeId) (w w' : World) : Prop where
  b : Below base w w'
  k : ∀ (r : Nat) (cs : Array Value) (T : TypeId) (fr : Nat × Nat), w.heap[r]? = some (.cells cs T fr) → T ∉ ts → w'.heap[r]? = some (.cells cs T fr)
abbrev Kb (base : Nat) (w w' : World) : Prop := Kq base [5] w w'
abbrev Kw (base : Nat) (w w' : World) : Prop := Kq base [5, 75] w w'
theorem Kq.refl (base : Nat) (ts : List TypeId) (w : World) : Kq base ts w w := ⟨Below.refl _ _, fun _ _ _ _ h _ => h⟩
theorem Kq.trans {base : Nat} {ts : List TypeId} {a b c : World} (h : Kq base ts a b) (k : Kq base ts b c) : Kq base ts a c := ⟨h.b.trans k.b, fun r cs T fr h1 h2 => k.k r cs T fr (h.k r cs T fr h1 h2) h2⟩
theorem Kq.of_below {base : Nat} {ts : List TypeId} {w w' : World} (h : Below w.heap.size w w') (hb : base ≤ w.heap.size) : Kq base ts w w' := ⟨h.mono hb, fun r cs T fr h1 _ => (h.block r (gr_in h1)).trans h1⟩
theorem Kb.w {base : Nat} {w w' : World} (h : Kb base w w') : Kw base w w' := ⟨h.b, fun r cs T fr h1 h2 => h.k r cs T fr h1 (fun h3 => h2 (by simp at h3; simp [h3]))⟩
theorem Kq.of_grown {base n : Nat} {w w' : World} {v : Value} {xs : List Value} (ho : w.ownsRow base 5 1 v n xs) (hb : base ≤ w.heap.size) (hg : w.grownBy w' v.ownBlock) : Kb base w w' :=
  ⟨(Below.refl base w).grown hg hb (fun g e => (ho.lt g e).1), fun r cs T fr h1 h2 => (hg.block r (gr_in h1) (fun e => by
    rcases ho.2 with ⟨rfl, -⟩ | ⟨g, cap, cur, rfl, -, hh, -⟩
    · cases e
    · have e' : r = g := by simpa [Value.ownBlock] using e
      subst e'
      rw [hh] at h1
      injection h1 with h1
      injection h1 with _ h1 _
      exact h2 (by rw [← h1]; simp))).trans h1⟩
theorem Kq.set {base E j : Nat} {w : World} {cs : Array Value} {fr : Nat × Nat} (hE : w.heap[E]? = some (.cells cs 75 fr)) (hb : base ≤ E) (u : Value) : Kw base w (w.setCell ⟨E, j, none⟩ u) :=
  ⟨(Below.refl base w).setCell (p := ⟨E, j, none⟩) hb u, fun r cs' T fr' h1 h3 => (Below.heap_setCell w ⟨E, j, none⟩ u r (fun e => by
    have e' : r = E := e
    subst e'
    rw [hE] at h1
    injection h1 with h1
    injection h1 with _ h1 _
    exact h3 (by rw [← h1]; simp))).trans h1⟩
end Go.Proofs.Ythjlpbglnnebkaa
