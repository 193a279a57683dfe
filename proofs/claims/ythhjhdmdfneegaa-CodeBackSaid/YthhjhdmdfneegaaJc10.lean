/-
  Programs as bytes: the reader.
  Programs as bytes: the reader's Num, Int.
-/
import Derived.Test.YthhjhdmdfneegaaJc7
import Derived.Test.YthhjhdmdfneegaaJc9
namespace Go.Proofs.Ythhjhdmdfneegaa
set_option linter.unusedVariables false
set_option linter.unusedSimpArgs false
open Go.RowKit

/-- The reader as it lies: what is left; nothing, behind something bad. -/
def RdAt (E : Nat) (s : Option (List UInt8)) (w : World) : Prop := w.heap[E]? = some (.cells #[.string ⟨(s.getD []).toArray⟩, .bool s.isNone] 78 (0, 0))
def numS (most : Nat) : Option (List UInt8) → Nat × Option (List UInt8)
  | none => (0, none)
  | some l => if (numQ l).2 = 0 ∨ most < (numQ l).1 then (0, none) else ((numQ l).1, some (l.drop (numQ l).2))
theorem RdAt.keep {E : Nat} {s : Option (List UInt8)} {w w' : World} (h : RdAt E s w) (hb : Below w.heap.size w w') : RdAt E s w' := (hb.block E (gr_in h)).trans h
set_option maxRecDepth 100000 in
theorem ok_nil (w : World) : Calls Try.prog 20 #[.pointer none] w fun e w' => e = .returned (.bool false) ∧ w' = w := by
  go_enter Try.func20, Try.ntmps20
  go_wp2
  go_ret
  exact ⟨rfl, rfl⟩
set_option maxRecDepth 100000 in
theorem ok_r (E : Nat) (s : Option (List UInt8)) (w : World) (h : RdAt E s w) : Calls Try.prog 20 #[.pointer (some ⟨E, 0, none⟩)] w fun e w' => e = .returned (.bool s.isSome) ∧ w' = w := by
  have x1 := Lib.cell_of_heap h 1
  cases s with
  | none =>
    have x1 : w.cell? ⟨E, 1, none⟩ = some (.bool true) := x1
    clear h
    go_enter Try.func20, Try.ntmps20
    go_wp2
    go_ret
    exact ⟨rfl, rfl⟩
  | some l =>
    have x1 : w.cell? ⟨E, 1, none⟩ = some (.bool false) := x1
    clear h
    go_enter Try.func20, Try.ntmps20
    go_wp2
    go_ret
    exact ⟨rfl, rfl⟩
set_option maxRecDepth 100000 in
theorem left_nil (w : World) : Calls Try.prog 21 #[.pointer none] w fun e w' => e = .returned (.int .i64 0) ∧ w' = w := by
  go_enter Try.func21, Try.ntmps21
  go_wp2
  go_ret
  exact ⟨rfl, rfl⟩
set_option maxRecDepth 100000 in
theorem left_r (E : Nat) (s : Option (List UInt8)) (w : World) (h : RdAt E s w) : Calls Try.prog 21 #[.pointer (some ⟨E, 0, none⟩)] w fun e w' => e = .returned (.int .i64 ((s.getD []).length : Int)) ∧ w' = w := by
  have x0 : w.cell? ⟨E, 0, none⟩ = some (.string ⟨(s.getD []).toArray⟩) := Lib.cell_of_heap h 0
  obtain ⟨l, hl⟩ : ∃ l, l = s.getD [] := ⟨_, rfl⟩
  rw [← hl] at x0 ⊢
  clear h hl
  go_enter Try.func21, Try.ntmps21
  go_wp2
  go_ret
  exact ⟨rfl, rfl⟩
set_option maxRecDepth 100000 in
theorem fail_r (E : Nat) (s : Option (List UInt8)) (w : World) (h : RdAt E s w) : Calls Try.prog 62 #[.pointer (some ⟨E, 0, none⟩)] w fun e w' => e = .returned (.tuple #[]) ∧ RdAt E none w' ∧ GBu E w w' := by
  have x0 := Lib.cell_of_heap h 0
  have x1 := Lib.cell_of_heap h 1
  have xf := Lib.frozen_of_heap h
  obtain ⟨Z, hZ⟩ : ∃ Z, Z = (w.setCell ⟨E, 0, none⟩ (.string ⟨#[]⟩)).setCell ⟨E, 1, none⟩ (.bool true) := ⟨_, rfl⟩
  have hq : RdAt E none Z := by
    rw [hZ]
    exact gr_put (gr_put h 0 _) 1 _
  have hg : GBu E w Z := by
    rw [hZ]
    exact GBu.setCell (p := ⟨E, 1, none⟩) (GBu.setCell (p := ⟨E, 0, none⟩) (GBu.refl E w) (.inl rfl) _) (.inl rfl) _
  have HZ := Lib.hid hZ
  have Hq := Lib.hid hq
  have Hg := Lib.hid hg
  clear h hZ hq hg
  go_enter Try.func62, Try.ntmps62
  go_wp2_with fail
  rw [← HZ.out]
  try simp only [Exit.inBlock, Exit.then]
  first
    | refine bodyPost_ret (results_none rfl _ _ _) rfl ?_
    | refine bodyPost_end (results_none rfl _ _ _) rfl ?_
  exact ⟨rfl, Hq.out, Hg.out⟩
end Go.Proofs.Ythhjhdmdfneegaa
namespace Go.Proofs.Ythhjhdmdfneegaa
set_option linter.unusedVariables false
set_option linter.unusedSimpArgs false
open Go.RowKit

theorem numQ_lt (l : List UInt8) : (numQ l).1 < 18446744073709551616 ∧ (numQ l).2 ≤ l.length := by
  unfold numQ
  cases h : cdRd 10 0 l with
  | none => simp
  | some p =>
    obtain ⟨n, r⟩ := p
    obtain ⟨-, h2⟩ := read_cdN h
    exact ⟨h2, by simp⟩
theorem numS_lt (most : Nat) (s : Option (List UInt8)) : (numS most s).1 < 18446744073709551616 := by
  cases s with
  | none => simp [numS]
  | some l =>
    show (if (numQ l).2 = 0 ∨ most < (numQ l).1 then ((0 : Nat), (none : Option (List UInt8))) else ((numQ l).1, some (l.drop (numQ l).2))).1 < _
    by_cases h : (numQ l).2 = 0 ∨ most < (numQ l).1
    · rw [if_pos h]; decide
    · rw [if_neg h]; exact (numQ_lt l).1
theorem ext_drop (l : List UInt8) (z : Nat) : (⟨l.toArray⟩ : ByteArray).extract z l.length = ⟨(l.drop z).toArray⟩ := by
  apply ByteArray.ext
  rw [ByteArray.data_extract]
  simp
  exact List.take_of_length_le (by simp)
theorem ext_take (l : List UInt8) (z : Nat) : (⟨l.toArray⟩ : ByteArray).extract 0 z = ⟨(l.take z).toArray⟩ := by
  apply ByteArray.ext
  rw [ByteArray.data_extract]
  simp
/-- The reader goes on. -/
theorem RdAt.on {E : Nat} {l m : List UInt8} {w : World} (h : RdAt E (some l) w) : RdAt E (some m) (w.setCell ⟨E, 0, none⟩ (.string ⟨m.toArray⟩)) ∧ GBu E w (w.setCell ⟨E, 0, none⟩ (.string ⟨m.toArray⟩)) :=
  ⟨gr_put h 0 _, GBu.setCell (p := ⟨E, 0, none⟩) (GBu.refl E w) (.inl rfl) _⟩
set_option maxRecDepth 100000 in
set_option maxHeartbeats 4000000 in
theorem num_r (E most : Nat) (s : Option (List UInt8)) (w : World) (h : RdAt E s w) (hl : (s.getD []).length ≤ 1099511627776) : Calls Try.prog 38 #[.pointer (some ⟨E, 0, none⟩), .int .u64 (most : Int)] w fun e w' => e = .returned (.int .u64 ((numS most s).1 : Int)) ∧ RdAt E (numS most s).2 w' ∧ GBu E w w' := by
  have hO := ok_r E s w h
  cases s with
  | none =>
    have H := Lib.hid h
    clear h hl
    go_enter Try.func38, Try.ntmps38
    go_wp2_with (go_at_call 20; refine hO.mono ?_; rintro e w1 ⟨rfl, rfl⟩; clear hO)
    go_ret
    exact ⟨rfl, H.out, GBu.refl _ _⟩
  | some l =>
    have x0 : w.cell? ⟨E, 0, none⟩ = some (.string ⟨l.toArray⟩) := Lib.cell_of_heap h 0
    have xf := Lib.frozen_of_heap h 0
    have hN := number_r l hl w
    obtain ⟨q1, q2⟩ := numQ_lt l
    obtain ⟨n, hn⟩ : ∃ n, n = (numQ l).1 := ⟨_, rfl⟩
    obtain ⟨z, hz⟩ : ∃ z, z = (numQ l).2 := ⟨_, rfl⟩
    have hS : numS most (some l) = if z = 0 ∨ most < n then (0, none) else (n, some (l.drop z)) := by rw [hn, hz]; rfl
    rw [← hn, ← hz] at hN
    rw [← hn] at q1
    rw [← hz] at q2
    have hF := fail_r E (some l) w h
    have hsz : (⟨l.toArray⟩ : ByteArray).size = l.length := by simp [ByteArray.size]
    by_cases hb : z = 0 ∨ most < n
    · rw [if_pos hb] at hS
      have HS := Lib.hid hS
      by_cases hz0 : z = 0
      · have d1 : ((z : Int) == 0) = true := by rw [hz0]; rfl
        clear h hl hn hz hS q1 q2 hb hz0 hsz
        go_enter Try.func38, Try.ntmps38
        go_wp2_with (first
          | (go_at_call 20; refine hO.mono ?_; rintro e w1 ⟨rfl, rfl⟩; clear hO)
          | (go_at_call 61; refine hN.mono ?_; rintro e w1 ⟨rfl, rfl⟩; clear hN)
          | (go_at_call 62; refine hF.mono ?_; rintro e w2 ⟨rfl, h1, h2⟩; have H1 := Lib.hid h1; have H2 := Lib.hid h2; clear h1 h2 hF))
        go_ret
        rw [HS.out]
        exact ⟨rfl, H1.out, H2.out⟩
      · have d1 : ((z : Int) == 0) = false := by simp; omega
        have hmn : most < n := by rcases hb with h | h; exact absurd h hz0; exact h
        have d2 : decide ((n : Int) > (most : Int)) = true := decide_eq_true (by omega)
        clear h hl hn hz hS q1 q2 hb hz0 hsz
        go_enter Try.func38, Try.ntmps38
        go_wp2_with (first
          | (go_at_call 20; refine hO.mono ?_; rintro e w1 ⟨rfl, rfl⟩; clear hO)
          | (go_at_call 61; refine hN.mono ?_; rintro e w1 ⟨rfl, rfl⟩; clear hN)
          | (go_at_call 62; refine hF.mono ?_; rintro e w2 ⟨rfl, h1, h2⟩; have H1 := Lib.hid h1; have H2 := Lib.hid h2; clear h1 h2 hF))
        go_ret
        rw [HS.out]
        exact ⟨rfl, H1.out, H2.out⟩
    · rw [if_neg hb] at hS
      have HS := Lib.hid hS
      have hz0 : ¬ z = 0 := fun h => hb (.inl h)
      have hmn : ¬ most < n := fun h => hb (.inr h)
      have d1 : ((z : Int) == 0) = false := by simp; omega
      have d2 : decide ((n : Int) > (most : Int)) = false := decide_eq_false (by omega)
      have d3 : decide (most < n) = false := decide_eq_false hmn
      have Hh := Lib.hid h
      clear h hn hz hS q1 hb hF
      go_enter Try.func38, Try.ntmps38
      go_wp2_with (first
        | (go_at_call 20; refine hO.mono ?_; rintro e w1 ⟨rfl, rfl⟩; clear hO)
        | (go_at_call 61; refine hN.mono ?_; rintro e w1 ⟨rfl, rfl⟩; clear hN))
      go_ret
      rw [HS.out, ext_drop]
      exact ⟨rfl, Hh.out.on.1, Hh.out.on.2⟩
set_option maxRecDepth 100000 in
theorem num_nil (most : Nat) (w : World) : Calls Try.prog 38 #[.pointer none, .int .u64 (most : Int)] w fun e w' => e = .returned (.int .u64 0) ∧ w' = w := by
  have hO := ok_nil w
  go_enter Try.func38, Try.ntmps38
  go_wp2_with (go_at_call 20; refine hO.mono ?_; rintro e w1 ⟨rfl, rfl⟩; clear hO)
  go_ret
  exact ⟨rfl, rfl⟩
set_option maxRecDepth 100000 in
theorem int_r (E : Nat) (s : Option (List UInt8)) (w : World) (h : RdAt E s w) (hl : (s.getD []).length ≤ 1099511627776) : Calls Try.prog 65 #[.pointer (some ⟨E, 0, none⟩)] w fun e w' => e = .returned (.int .i64 (unsQ (numS 18446744073709551615 s).1)) ∧ RdAt E (numS 18446744073709551615 s).2 w' ∧ GBu E w w' := by
  have hN : Calls Try.prog 38 #[.pointer (some ⟨E, 0, none⟩), .int .u64 18446744073709551615] w fun e w' => e = .returned (.int .u64 ((numS 18446744073709551615 s).1 : Int)) ∧ RdAt E (numS 18446744073709551615 s).2 w' ∧ GBu E w w' := num_r E 18446744073709551615 s w h hl
  have hlt := numS_lt 18446744073709551615 s
  obtain ⟨k, hk⟩ : ∃ k, k = (numS 18446744073709551615 s).1 := ⟨_, rfl⟩
  obtain ⟨s2, hs2⟩ : ∃ s2, s2 = (numS 18446744073709551615 s).2 := ⟨_, rfl⟩
  rw [← hk, ← hs2] at hN
  rw [← hk] at hlt
  rw [← hk, ← hs2]
  have hU : ∀ A, Calls Try.prog 69 #[.int .u64 (k : Int)] A fun e w' => e = .returned (.int .i64 (unsQ k)) ∧ w' = A := fun A => unsign_c k hlt A
  have HU := Lib.hid hU
  clear h hl hk hs2 hlt hU
  go_enter Try.func65, Try.ntmps65
  go_wp2_with (first
    | (go_at_call 38; refine hN.mono ?_; rintro e w1 ⟨rfl, h1, h2⟩; have H1 := Lib.hid h1; have H2 := Lib.hid h2; have hU := HU.out w1; clear h1 h2 hN)
    | (go_at_call 69; refine hU.mono ?_; rintro e w2 ⟨rfl, rfl⟩; clear hU))
  go_ret
  exact ⟨rfl, H1.out, H2.out⟩
set_option maxRecDepth 100000 in
theorem int_nil (w : World) : Calls Try.prog 65 #[.pointer none] w fun e w' => e = .returned (.int .i64 0) ∧ w' = w := by
  have hN : Calls Try.prog 38 #[.pointer none, .int .u64 18446744073709551615] w fun e w' => e = .returned (.int .u64 0) ∧ w' = w := num_nil 18446744073709551615 w
  have hU : Calls Try.prog 69 #[.int .u64 0] w fun e w' => e = .returned (.int .i64 0) ∧ w' = w := unsign_c 0 (by decide) w
  go_enter Try.func65, Try.ntmps65
  go_wp2_with (first
    | (go_at_call 38; refine hN.mono ?_; rintro e w1 ⟨rfl, rfl⟩; clear hN)
    | (go_at_call 69; refine hU.mono ?_; rintro e w2 ⟨rfl, rfl⟩; clear hU))
  go_ret
  exact ⟨rfl, rfl⟩
end Go.Proofs.Ythhjhdmdfneegaa
