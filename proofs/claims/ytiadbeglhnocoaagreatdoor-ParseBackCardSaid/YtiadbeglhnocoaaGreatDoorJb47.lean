/-
  Rows of which each two say the same.
-/
import Derived.Test.YtiadbeglhnocoaaGreatDoorJb46
namespace Go.Proofs.YtiadbeglhnocoaaGreatDoor
set_option linter.unusedVariables false
set_option linter.unusedSimpArgs false
open Go.RowKit

/-- Two elements as they lie, and what comparing them gives. -/
def PairExpr (w : World) (N : Nat) (A A' : Option Addr) (i : Nat) (b : Bool) : Prop :=
  ∃ (g p g' p' : Nat) (x0 : Int) (x1 : Int) (x2 : Int) (x3 : Int) (x4 : Int) (x5 : ByteArray) (x6 : Option Addr) (xm6 xc6 : Nat) (y0 : Int) (y1 : Int) (y2 : Int) (y3 : Int) (y4 : Int) (y5 : ByteArray) (y6 : Option Addr) (ym6 yc6 : Nat), A = some ⟨g, p, none⟩ ∧ A' = some ⟨g', p', none⟩ ∧ g < N ∧ g' < N ∧ (w.cell? ⟨g, p + i * 7, none⟩ = some (.int .i64 x0) ∧ w.cell? ⟨g, p + i * 7 + 1, none⟩ = some (.int .i64 x1) ∧ w.cell? ⟨g, p + i * 7 + 2, none⟩ = some (.int .i64 x2) ∧ w.cell? ⟨g, p + i * 7 + 3, none⟩ = some (.int .i64 x3) ∧ w.cell? ⟨g, p + i * 7 + 4, none⟩ = some (.int .i64 x4) ∧ w.cell? ⟨g, p + i * 7 + 5, none⟩ = some (.string x5) ∧ w.cell? ⟨g, p + i * 7 + 6, none⟩ = some (.slice x6 xm6 xc6)) ∧ (w.cell? ⟨g', p' + i * 7, none⟩ = some (.int .i64 y0) ∧ w.cell? ⟨g', p' + i * 7 + 1, none⟩ = some (.int .i64 y1) ∧ w.cell? ⟨g', p' + i * 7 + 2, none⟩ = some (.int .i64 y2) ∧ w.cell? ⟨g', p' + i * 7 + 3, none⟩ = some (.int .i64 y3) ∧ w.cell? ⟨g', p' + i * 7 + 4, none⟩ = some (.int .i64 y4) ∧ w.cell? ⟨g', p' + i * 7 + 5, none⟩ = some (.string y5) ∧ w.cell? ⟨g', p' + i * 7 + 6, none⟩ = some (.slice y6 ym6 yc6)) ∧
    ∀ w2, Below N w w2 → N ≤ w2.heap.size → Calls Tryz.prog 51 #[.agg #[.int .i64 x0, .int .i64 x1, .int .i64 x2, .int .i64 x3, .int .i64 x4, .string x5, .slice x6 xm6 xc6], .agg #[.int .i64 y0, .int .i64 y1, .int .i64 y2, .int .i64 y3, .int .i64 y4, .string y5, .slice y6 ym6 yc6]] w2 fun e w' => e = .returned (.bool b) ∧ Below w2.heap.size w2 w'

set_option maxRecDepth 100000 in
set_option maxHeartbeats 4000000 in
theorem listAll_Expr (N : Nat) (A A' : Option Addr) (n c c' : Nat) (hmax : n ≤ 9223372036854775807) (w : World) (hN : N ≤ w.heap.size) (H : ∀ i, i < n → PairExpr w N A A' i true) :
    Calls Tryz.prog 50 #[.slice A n c, .slice A' n c', .func (.func 51) #[] #[]] w fun e w' => e = .returned (.bool true) ∧ Below w.heap.size w w' := by
  replace H := Lib.hid H
  have HN := Lib.hid hN
  clear hN
  go_enter Tryz.func50, Tryz.ntmps50
  go_wp2
  go_loopw [15] (fun v wr => ∃ i : Nat, i ≤ n ∧ v = .int .i64 i ∧ Hid (Below w.heap.size w wr)) (fun v _ => n - (intOf v).toNat)
  case atStart => exact ⟨0, Nat.zero_le _, rfl, Below.refl _ _⟩
  case round =>
    obtain ⟨i, hi, rfl, hb⟩ := hrel
    by_cases hlt : i < n
    · obtain ⟨g, p, g', p', x0, x1, x2, x3, x4, x5, x6, xm6, xc6, y0, y1, y2, y3, y4, y5, y6, ym6, yc6, hA, hA', hS, hS', ⟨a0, a1, a2, a3, a4, a5, a6⟩, ⟨b0, b1, b2, b3, b4, b5, b6⟩, HC⟩ := H.out i hlt
      subst hA
      subst hA'
      have cc1 : ∀ j v, w.cell? ⟨g, j, none⟩ = some v → wr.cell? ⟨g, j, none⟩ = some v := fun j v e => (hb.out.cell (p := ⟨g, j, none⟩) (Nat.lt_of_lt_of_le hS HN.out)).trans e
      have cc2 : ∀ j v, w.cell? ⟨g', j, none⟩ = some v → wr.cell? ⟨g', j, none⟩ = some v := fun j v e => (hb.out.cell (p := ⟨g', j, none⟩) (Nat.lt_of_lt_of_le hS' HN.out)).trans e
      replace a0 := cc1 _ _ a0
      replace b0 := cc2 _ _ b0
      replace a1 := cc1 _ _ a1
      replace b1 := cc2 _ _ b1
      replace a2 := cc1 _ _ a2
      replace b2 := cc2 _ _ b2
      replace a3 := cc1 _ _ a3
      replace b3 := cc2 _ _ b3
      replace a4 := cc1 _ _ a4
      replace b4 := cc2 _ _ b4
      replace a5 := cc1 _ _ a5
      replace b5 := cc2 _ _ b5
      replace a6 := cc1 _ _ a6
      replace b6 := cc2 _ _ b6
      have HCw : ∀ w2, Below w.heap.size w w2 → Calls Tryz.prog 51 #[.agg #[.int .i64 x0, .int .i64 x1, .int .i64 x2, .int .i64 x3, .int .i64 x4, .string x5, .slice x6 xm6 xc6], .agg #[.int .i64 y0, .int .i64 y1, .int .i64 y2, .int .i64 y3, .int .i64 y4, .string y5, .slice y6 ym6 yc6]] w2 fun e w' => e = .returned (.bool true) ∧ Below w2.heap.size w2 w' := fun w2 h2 => HC w2 (h2.mono HN.out) (Nat.le_trans HN.out h2.size)
      have HCh := Lib.hid HCw
      clear cc1 cc2 HC HCw
      go_wp2
      go_still_tail 9, (by kernel_rfl)
      change wpList _ _ _ _ _ wr.drew
      go_wp2_with (go_at_call 51; refine (HCh.out _ hb.out.drew).mono ?_; rintro e w2 ⟨rfl, hb2⟩; have hbB := Lib.hid (hb.out.drew.trans (hb2.mono hb.out.size)); clear hb2)
      go_roundw
      case rel => exact ⟨i + 1, by omega, by go_num, hbB⟩
      case measure => simp [intOf]; omega
    · obtain rfl : i = n := by omega
      clear hlt
      go_wp2
      go_ret
      exact ⟨rfl, hb.out⟩

/-- Two elements as they lie, and what comparing them gives. -/
def PairStmt (w : World) (N : Nat) (A A' : Option Addr) (i : Nat) (b : Bool) : Prop :=
  ∃ (g p g' p' : Nat) (x0 : Int) (x1 : Int) (x2 : Int) (x3 : ByteArray) (x4 : Int) (x5 : Option Addr) (xm5 xc5 : Nat) (x6 : Option Addr) (xm6 xc6 : Nat) (x7 : Option Addr) (xm7 xc7 : Nat) (y0 : Int) (y1 : Int) (y2 : Int) (y3 : ByteArray) (y4 : Int) (y5 : Option Addr) (ym5 yc5 : Nat) (y6 : Option Addr) (ym6 yc6 : Nat) (y7 : Option Addr) (ym7 yc7 : Nat), A = some ⟨g, p, none⟩ ∧ A' = some ⟨g', p', none⟩ ∧ g < N ∧ g' < N ∧ (w.cell? ⟨g, p + i * 8, none⟩ = some (.int .i64 x0) ∧ w.cell? ⟨g, p + i * 8 + 1, none⟩ = some (.int .i64 x1) ∧ w.cell? ⟨g, p + i * 8 + 2, none⟩ = some (.int .i64 x2) ∧ w.cell? ⟨g, p + i * 8 + 3, none⟩ = some (.string x3) ∧ w.cell? ⟨g, p + i * 8 + 4, none⟩ = some (.int .i64 x4) ∧ w.cell? ⟨g, p + i * 8 + 5, none⟩ = some (.slice x5 xm5 xc5) ∧ w.cell? ⟨g, p + i * 8 + 6, none⟩ = some (.slice x6 xm6 xc6) ∧ w.cell? ⟨g, p + i * 8 + 7, none⟩ = some (.slice x7 xm7 xc7)) ∧ (w.cell? ⟨g', p' + i * 8, none⟩ = some (.int .i64 y0) ∧ w.cell? ⟨g', p' + i * 8 + 1, none⟩ = some (.int .i64 y1) ∧ w.cell? ⟨g', p' + i * 8 + 2, none⟩ = some (.int .i64 y2) ∧ w.cell? ⟨g', p' + i * 8 + 3, none⟩ = some (.string y3) ∧ w.cell? ⟨g', p' + i * 8 + 4, none⟩ = some (.int .i64 y4) ∧ w.cell? ⟨g', p' + i * 8 + 5, none⟩ = some (.slice y5 ym5 yc5) ∧ w.cell? ⟨g', p' + i * 8 + 6, none⟩ = some (.slice y6 ym6 yc6) ∧ w.cell? ⟨g', p' + i * 8 + 7, none⟩ = some (.slice y7 ym7 yc7)) ∧
    ∀ w2, Below N w w2 → N ≤ w2.heap.size → Calls Tryz.prog 29 #[.agg #[.int .i64 x0, .int .i64 x1, .int .i64 x2, .string x3, .int .i64 x4, .slice x5 xm5 xc5, .slice x6 xm6 xc6, .slice x7 xm7 xc7], .agg #[.int .i64 y0, .int .i64 y1, .int .i64 y2, .string y3, .int .i64 y4, .slice y5 ym5 yc5, .slice y6 ym6 yc6, .slice y7 ym7 yc7]] w2 fun e w' => e = .returned (.bool b) ∧ Below w2.heap.size w2 w'

set_option maxRecDepth 100000 in
set_option maxHeartbeats 4000000 in
theorem listAll_Stmt (N : Nat) (A A' : Option Addr) (n c c' : Nat) (hmax : n ≤ 9223372036854775807) (w : World) (hN : N ≤ w.heap.size) (H : ∀ i, i < n → PairStmt w N A A' i true) :
    Calls Tryz.prog 28 #[.slice A n c, .slice A' n c', .func (.func 29) #[] #[]] w fun e w' => e = .returned (.bool true) ∧ Below w.heap.size w w' := by
  replace H := Lib.hid H
  have HN := Lib.hid hN
  clear hN
  go_enter Tryz.func28, Tryz.ntmps28
  go_wp2
  go_loopw [15] (fun v wr => ∃ i : Nat, i ≤ n ∧ v = .int .i64 i ∧ Hid (Below w.heap.size w wr)) (fun v _ => n - (intOf v).toNat)
  case atStart => exact ⟨0, Nat.zero_le _, rfl, Below.refl _ _⟩
  case round =>
    obtain ⟨i, hi, rfl, hb⟩ := hrel
    by_cases hlt : i < n
    · obtain ⟨g, p, g', p', x0, x1, x2, x3, x4, x5, xm5, xc5, x6, xm6, xc6, x7, xm7, xc7, y0, y1, y2, y3, y4, y5, ym5, yc5, y6, ym6, yc6, y7, ym7, yc7, hA, hA', hS, hS', ⟨a0, a1, a2, a3, a4, a5, a6, a7⟩, ⟨b0, b1, b2, b3, b4, b5, b6, b7⟩, HC⟩ := H.out i hlt
      subst hA
      subst hA'
      have cc1 : ∀ j v, w.cell? ⟨g, j, none⟩ = some v → wr.cell? ⟨g, j, none⟩ = some v := fun j v e => (hb.out.cell (p := ⟨g, j, none⟩) (Nat.lt_of_lt_of_le hS HN.out)).trans e
      have cc2 : ∀ j v, w.cell? ⟨g', j, none⟩ = some v → wr.cell? ⟨g', j, none⟩ = some v := fun j v e => (hb.out.cell (p := ⟨g', j, none⟩) (Nat.lt_of_lt_of_le hS' HN.out)).trans e
      replace a0 := cc1 _ _ a0
      replace b0 := cc2 _ _ b0
      replace a1 := cc1 _ _ a1
      replace b1 := cc2 _ _ b1
      replace a2 := cc1 _ _ a2
      replace b2 := cc2 _ _ b2
      replace a3 := cc1 _ _ a3
      replace b3 := cc2 _ _ b3
      replace a4 := cc1 _ _ a4
      replace b4 := cc2 _ _ b4
      replace a5 := cc1 _ _ a5
      replace b5 := cc2 _ _ b5
      replace a6 := cc1 _ _ a6
      replace b6 := cc2 _ _ b6
      replace a7 := cc1 _ _ a7
      replace b7 := cc2 _ _ b7
      have HCw : ∀ w2, Below w.heap.size w w2 → Calls Tryz.prog 29 #[.agg #[.int .i64 x0, .int .i64 x1, .int .i64 x2, .string x3, .int .i64 x4, .slice x5 xm5 xc5, .slice x6 xm6 xc6, .slice x7 xm7 xc7], .agg #[.int .i64 y0, .int .i64 y1, .int .i64 y2, .string y3, .int .i64 y4, .slice y5 ym5 yc5, .slice y6 ym6 yc6, .slice y7 ym7 yc7]] w2 fun e w' => e = .returned (.bool true) ∧ Below w2.heap.size w2 w' := fun w2 h2 => HC w2 (h2.mono HN.out) (Nat.le_trans HN.out h2.size)
      have HCh := Lib.hid HCw
      clear cc1 cc2 HC HCw
      go_wp2
      go_still_tail 9, (by kernel_rfl)
      change wpList _ _ _ _ _ wr.drew
      go_wp2_with (go_at_call 29; refine (HCh.out _ hb.out.drew).mono ?_; rintro e w2 ⟨rfl, hb2⟩; have hbB := Lib.hid (hb.out.drew.trans (hb2.mono hb.out.size)); clear hb2)
      go_roundw
      case rel => exact ⟨i + 1, by omega, by go_num, hbB⟩
      case measure => simp [intOf]; omega
    · obtain rfl : i = n := by omega
      clear hlt
      go_wp2
      go_ret
      exact ⟨rfl, hb.out⟩

/-- Two elements as they lie, and what comparing them gives. -/
def PairParam (w : World) (N : Nat) (A A' : Option Addr) (i : Nat) (b : Bool) : Prop :=
  ∃ (g p g' p' : Nat) (x0 : ByteArray) (x1 : Int) (y0 : ByteArray) (y1 : Int), A = some ⟨g, p, none⟩ ∧ A' = some ⟨g', p', none⟩ ∧ g < N ∧ g' < N ∧ (w.cell? ⟨g, p + i * 2, none⟩ = some (.string x0) ∧ w.cell? ⟨g, p + i * 2 + 1, none⟩ = some (.int .i64 x1)) ∧ (w.cell? ⟨g', p' + i * 2, none⟩ = some (.string y0) ∧ w.cell? ⟨g', p' + i * 2 + 1, none⟩ = some (.int .i64 y1)) ∧
    ∀ w2, Below N w w2 → N ≤ w2.heap.size → Calls Tryz.prog 27 #[.agg #[.string x0, .int .i64 x1], .agg #[.string y0, .int .i64 y1]] w2 fun e w' => e = .returned (.bool b) ∧ Below w2.heap.size w2 w'

set_option maxRecDepth 100000 in
set_option maxHeartbeats 4000000 in
theorem listAll_Param (N : Nat) (A A' : Option Addr) (n c c' : Nat) (hmax : n ≤ 9223372036854775807) (w : World) (hN : N ≤ w.heap.size) (H : ∀ i, i < n → PairParam w N A A' i true) :
    Calls Tryz.prog 26 #[.slice A n c, .slice A' n c', .func (.func 27) #[] #[]] w fun e w' => e = .returned (.bool true) ∧ Below w.heap.size w w' := by
  replace H := Lib.hid H
  have HN := Lib.hid hN
  clear hN
  go_enter Tryz.func26, Tryz.ntmps26
  go_wp2
  go_loopw [15] (fun v wr => ∃ i : Nat, i ≤ n ∧ v = .int .i64 i ∧ Hid (Below w.heap.size w wr)) (fun v _ => n - (intOf v).toNat)
  case atStart => exact ⟨0, Nat.zero_le _, rfl, Below.refl _ _⟩
  case round =>
    obtain ⟨i, hi, rfl, hb⟩ := hrel
    by_cases hlt : i < n
    · obtain ⟨g, p, g', p', x0, x1, y0, y1, hA, hA', hS, hS', ⟨a0, a1⟩, ⟨b0, b1⟩, HC⟩ := H.out i hlt
      subst hA
      subst hA'
      have cc1 : ∀ j v, w.cell? ⟨g, j, none⟩ = some v → wr.cell? ⟨g, j, none⟩ = some v := fun j v e => (hb.out.cell (p := ⟨g, j, none⟩) (Nat.lt_of_lt_of_le hS HN.out)).trans e
      have cc2 : ∀ j v, w.cell? ⟨g', j, none⟩ = some v → wr.cell? ⟨g', j, none⟩ = some v := fun j v e => (hb.out.cell (p := ⟨g', j, none⟩) (Nat.lt_of_lt_of_le hS' HN.out)).trans e
      replace a0 := cc1 _ _ a0
      replace b0 := cc2 _ _ b0
      replace a1 := cc1 _ _ a1
      replace b1 := cc2 _ _ b1
      have HCw : ∀ w2, Below w.heap.size w w2 → Calls Tryz.prog 27 #[.agg #[.string x0, .int .i64 x1], .agg #[.string y0, .int .i64 y1]] w2 fun e w' => e = .returned (.bool true) ∧ Below w2.heap.size w2 w' := fun w2 h2 => HC w2 (h2.mono HN.out) (Nat.le_trans HN.out h2.size)
      have HCh := Lib.hid HCw
      clear cc1 cc2 HC HCw
      go_wp2
      go_still_tail 9, (by kernel_rfl)
      change wpList _ _ _ _ _ wr.drew
      go_wp2_with (go_at_call 27; refine (HCh.out _ hb.out.drew).mono ?_; rintro e w2 ⟨rfl, hb2⟩; have hbB := Lib.hid (hb.out.drew.trans (hb2.mono hb.out.size)); clear hb2)
      go_roundw
      case rel => exact ⟨i + 1, by omega, by go_num, hbB⟩
      case measure => simp [intOf]; omega
    · obtain rfl : i = n := by omega
      clear hlt
      go_wp2
      go_ret
      exact ⟨rfl, hb.out⟩

/-- Two elements as they lie, and what comparing them gives. -/
def PairFn (w : World) (N : Nat) (A A' : Option Addr) (i : Nat) (b : Bool) : Prop :=
  ∃ (g p g' p' : Nat) (x0 : ByteArray) (x1 : Int) (x2 : Option Addr) (xm2 xc2 : Nat) (x3 : Int) (x4 : Option Addr) (xm4 xc4 : Nat) (x5 : Int) (y0 : ByteArray) (y1 : Int) (y2 : Option Addr) (ym2 yc2 : Nat) (y3 : Int) (y4 : Option Addr) (ym4 yc4 : Nat) (y5 : Int), A = some ⟨g, p, none⟩ ∧ A' = some ⟨g', p', none⟩ ∧ g < N ∧ g' < N ∧ (w.cell? ⟨g, p + i * 6, none⟩ = some (.string x0) ∧ w.cell? ⟨g, p + i * 6 + 1, none⟩ = some (.int .i64 x1) ∧ w.cell? ⟨g, p + i * 6 + 2, none⟩ = some (.slice x2 xm2 xc2) ∧ w.cell? ⟨g, p + i * 6 + 3, none⟩ = some (.int .i64 x3) ∧ w.cell? ⟨g, p + i * 6 + 4, none⟩ = some (.slice x4 xm4 xc4) ∧ w.cell? ⟨g, p + i * 6 + 5, none⟩ = some (.int .i64 x5)) ∧ (w.cell? ⟨g', p' + i * 6, none⟩ = some (.string y0) ∧ w.cell? ⟨g', p' + i * 6 + 1, none⟩ = some (.int .i64 y1) ∧ w.cell? ⟨g', p' + i * 6 + 2, none⟩ = some (.slice y2 ym2 yc2) ∧ w.cell? ⟨g', p' + i * 6 + 3, none⟩ = some (.int .i64 y3) ∧ w.cell? ⟨g', p' + i * 6 + 4, none⟩ = some (.slice y4 ym4 yc4) ∧ w.cell? ⟨g', p' + i * 6 + 5, none⟩ = some (.int .i64 y5)) ∧
    ∀ w2, Below N w w2 → N ≤ w2.heap.size → Calls Tryz.prog 14 #[.agg #[.string x0, .int .i64 x1, .slice x2 xm2 xc2, .int .i64 x3, .slice x4 xm4 xc4, .int .i64 x5], .agg #[.string y0, .int .i64 y1, .slice y2 ym2 yc2, .int .i64 y3, .slice y4 ym4 yc4, .int .i64 y5]] w2 fun e w' => e = .returned (.bool b) ∧ Below w2.heap.size w2 w'

set_option maxRecDepth 100000 in
set_option maxHeartbeats 4000000 in
theorem listAll_Fn (N : Nat) (A A' : Option Addr) (n c c' : Nat) (hmax : n ≤ 9223372036854775807) (w : World) (hN : N ≤ w.heap.size) (H : ∀ i, i < n → PairFn w N A A' i true) :
    Calls Tryz.prog 13 #[.slice A n c, .slice A' n c', .func (.func 14) #[] #[]] w fun e w' => e = .returned (.bool true) ∧ Below w.heap.size w w' := by
  replace H := Lib.hid H
  have HN := Lib.hid hN
  clear hN
  go_enter Tryz.func13, Tryz.ntmps13
  go_wp2
  go_loopw [15] (fun v wr => ∃ i : Nat, i ≤ n ∧ v = .int .i64 i ∧ Hid (Below w.heap.size w wr)) (fun v _ => n - (intOf v).toNat)
  case atStart => exact ⟨0, Nat.zero_le _, rfl, Below.refl _ _⟩
  case round =>
    obtain ⟨i, hi, rfl, hb⟩ := hrel
    by_cases hlt : i < n
    · obtain ⟨g, p, g', p', x0, x1, x2, xm2, xc2, x3, x4, xm4, xc4, x5, y0, y1, y2, ym2, yc2, y3, y4, ym4, yc4, y5, hA, hA', hS, hS', ⟨a0, a1, a2, a3, a4, a5⟩, ⟨b0, b1, b2, b3, b4, b5⟩, HC⟩ := H.out i hlt
      subst hA
      subst hA'
      have cc1 : ∀ j v, w.cell? ⟨g, j, none⟩ = some v → wr.cell? ⟨g, j, none⟩ = some v := fun j v e => (hb.out.cell (p := ⟨g, j, none⟩) (Nat.lt_of_lt_of_le hS HN.out)).trans e
      have cc2 : ∀ j v, w.cell? ⟨g', j, none⟩ = some v → wr.cell? ⟨g', j, none⟩ = some v := fun j v e => (hb.out.cell (p := ⟨g', j, none⟩) (Nat.lt_of_lt_of_le hS' HN.out)).trans e
      replace a0 := cc1 _ _ a0
      replace b0 := cc2 _ _ b0
      replace a1 := cc1 _ _ a1
      replace b1 := cc2 _ _ b1
      replace a2 := cc1 _ _ a2
      replace b2 := cc2 _ _ b2
      replace a3 := cc1 _ _ a3
      replace b3 := cc2 _ _ b3
      replace a4 := cc1 _ _ a4
      replace b4 := cc2 _ _ b4
      replace a5 := cc1 _ _ a5
      replace b5 := cc2 _ _ b5
      have HCw : ∀ w2, Below w.heap.size w w2 → Calls Tryz.prog 14 #[.agg #[.string x0, .int .i64 x1, .slice x2 xm2 xc2, .int .i64 x3, .slice x4 xm4 xc4, .int .i64 x5], .agg #[.string y0, .int .i64 y1, .slice y2 ym2 yc2, .int .i64 y3, .slice y4 ym4 yc4, .int .i64 y5]] w2 fun e w' => e = .returned (.bool true) ∧ Below w2.heap.size w2 w' := fun w2 h2 => HC w2 (h2.mono HN.out) (Nat.le_trans HN.out h2.size)
      have HCh := Lib.hid HCw
      clear cc1 cc2 HC HCw
      go_wp2
      go_still_tail 9, (by kernel_rfl)
      change wpList _ _ _ _ _ wr.drew
      go_wp2_with (go_at_call 14; refine (HCh.out _ hb.out.drew).mono ?_; rintro e w2 ⟨rfl, hb2⟩; have hbB := Lib.hid (hb.out.drew.trans (hb2.mono hb.out.size)); clear hb2)
      go_roundw
      case rel => exact ⟨i + 1, by omega, by go_num, hbB⟩
      case measure => simp [intOf]; omega
    · obtain rfl : i = n := by omega
      clear hlt
      go_wp2
      go_ret
      exact ⟨rfl, hb.out⟩
end Go.Proofs.YtiadbeglhnocoaaGreatDoor
