/-
  Package tree's Digits: a number's decimal digits, laid from an array's end.
-/
import Derived.Test.YtnnjpegeefoecaaGreatDoorRows
import Derived.Lib.AppendIntMem
import Derived.Lib.Builder
import Derived.WalkKit
import Derived.WalkSpells
import Derived.WalkLawsBesides
import Derived.BigCall
import Derived.BigGuard
import Derived.OwnWalk
import Derived.Lib.Hide
namespace Go.Proofs.YtnnjpegeefoecaaGreatDoor
set_option linter.unusedVariables false
set_option linter.unusedSimpArgs false
open Go.RowKit Go.Sort

def digN (v : Nat) : UInt8 := UInt8.ofNat (48 + v % 10)
theorem digN_nat (v : Nat) : ((digN v).toNat : Int) = 48 + (v : Int) % 10 := by
  unfold digN
  simp
  omega
/-- What is still to be laid ahead of ds. -/
def leftD (a v : Nat) (ds : List UInt8) : List UInt8 := if a = 20 ∨ 0 < v then Lib.decDigits v ++ ds else ds
theorem leftD_step (a v : Nat) (ds : List UInt8) (h : a = 20 ∨ 0 < v) (h1 : 1 ≤ a) (h20 : a ≤ 20) : leftD (a - 1) (v / 10) (digN v :: ds) = leftD a v ds := by
  unfold leftD
  rw [if_pos h]
  by_cases hv : v < 10
  · rw [if_neg (by omega), Lib.decDigits, dif_pos hv, digN, Nat.mod_eq_of_lt hv]
    rfl
  · rw [if_pos (by omega)]
    conv => rhs; rw [Lib.decDigits, dif_neg hv]
    rw [List.append_assoc]
    rfl
/-- The array's block: behind the place a it holds ds. -/
def DigAt (B a : Nat) (ds : List UInt8) (w : World) : Prop := ∃ C : Array Value, w.heap[B]? = some (.cells C 243 (0, 0)) ∧ C.size = 20 ∧ ∀ j (hj : j < ds.length), C[a + j]? = some (.int .u8 (ds[j].toNat : Int))
theorem DigAt.lt {B a : Nat} {ds : List UInt8} {w : World} (h : DigAt B a ds w) : B < w.heap.size := by
  obtain ⟨C, hb, _⟩ := h
  rcases Nat.lt_or_ge B w.heap.size with h' | h'
  · exact h'
  · simp [Array.getElem?_eq_none h'] at hb
theorem DigAt.cell {B a : Nat} {ds : List UInt8} {w : World} (h : DigAt B a ds w) (i : Nat) (hi : i < 20) : ∃ v, w.cell? ⟨B, i, none⟩ = some v := by
  obtain ⟨C, hb, hs, _⟩ := h
  exact ⟨C[i]'(by omega), by rw [Lib.cell_of_heap hb]; exact Array.getElem?_eq_getElem (by omega)⟩
theorem DigAt.frozen {B a : Nat} {ds : List UInt8} {w : World} (h : DigAt B a ds w) (i : Nat) : w.frozen? ⟨B, i, none⟩ = false := by
  obtain ⟨C, hb, _⟩ := h
  exact Lib.frozen_of_heap hb i
theorem DigAt.store {B a : Nat} {ds : List UInt8} {w : World} (h : DigAt B (a + 1) ds w) (v : Nat) (ha : a < 20) (z : Int) (hz : z = 48 + (v : Int) % 10) : DigAt B a (digN v :: ds) (w.setCell ⟨B, a, none⟩ (.int .u8 z)) := by
  obtain ⟨C, hb, hs, hc⟩ := h
  refine ⟨C.setIfInBounds a (.int .u8 z), ?_, by simpa using hs, ?_⟩
  · simp [World.setCell, Array.getElem?_modify, hb]
  · intro j hj
    cases j with
    | zero =>
      rw [hz, ← digN_nat]
      simp [hs, ha]
    | succ j =>
      have := hc j (by simpa using hj)
      rw [Array.getElem?_setIfInBounds, if_neg (by omega), show a + (j + 1) = a + 1 + j by omega]
      simpa using this
theorem DigAt.back {B a : Nat} {ds : List UInt8} {w : World} (h : DigAt B a ds w) (cap : Nat) : (convert 58 9 (.slice (some ⟨B, a, none⟩) ds.length cap)).run Tryz.prog w = .ok (.string ⟨ds.toArray⟩) w := by
  obtain ⟨C, hb, hs, hc⟩ := h
  refine run_convert_bytes_back (P := Tryz.prog) w 58 9 5 ⟨B, a, none⟩ cap ds Tryz.underlying58 Tryz.underlying5 Tryz.underlying9 (fun j hj => ?_)
  rw [Lib.add_plain, Lib.cell_of_heap hb]
  exact hc j hj

set_option maxHeartbeats 2000000 in
set_option maxRecDepth 100000 in
theorem digits_any (n : Int) (u : Nat) (hwr : IntKind.u64.wrap n = (u : Int)) (hu : u < 18446744073709551616) (w : World) :
    Calls Tryz.prog 161 #[.int .i64 n] w fun e w' => e = .returned (.string ⟨(Lib.decDigits u).toArray⟩) ∧ Below w.heap.size w w' := by
  have hal : Tryz.prog.arrayLen 243 = 20 := by simp [Program.arrayLen, Tryz.underlying243]
  have hpow : u < 10 ^ 20 := by omega
  have HP := Lib.hid hpow
  clear hpow
  go_enter Tryz.func161, Tryz.ntmps161
  go_wp2
  go_loopw [4, 5] (fun va vv wr => ∃ (a v : Nat) (ds : List UInt8), va = .int .i64 a ∧ vv = .int .u64 v ∧ a ≤ 20 ∧ v < 18446744073709551616 ∧ Hid (v < 10 ^ a) ∧ Hid (a + ds.length = 20) ∧ Hid (leftD a v ds = Lib.decDigits u) ∧ Hid (DigAt w.heap.size a ds wr) ∧ Below w.heap.size w wr) (fun va _ _ => (intOf va).toNat)
  case atStart =>
    refine ⟨20, u, [], rfl, rfl, Nat.le_refl _, hu, HP, rfl, ?_, ?_, (Below.refl _ _).alloc (Nat.le_refl _) _⟩
    · unfold Hid leftD
      rw [if_pos (Or.inl rfl), List.append_nil]
    · exact ⟨_, heap_alloc_new w _, rfl, fun j hj => absurd hj (Nat.not_lt_zero _)⟩
  case round =>
    obtain ⟨a, v, ds, rfl, rfl, ha, hv, hlt, hlen, hleft, hdig, hb⟩ := hrel
    by_cases hgo : a = 20 ∨ 0 < v
    · have h1 : 1 ≤ a := by
        rcases hgo with h | h
        · omega
        · rcases Nat.eq_zero_or_pos a with h0 | h0
          · have := hlt.out; rw [h0] at this; omega
          · exact h0
      obtain ⟨m, hm⟩ : ∃ m, m + 1 = a := ⟨a - 1, by omega⟩
      have Hgo := Lib.hid hgo
      have hB := hdig.out.lt
      obtain ⟨v0, hc0⟩ := hdig.out.cell m (by omega)
      have hf0 := hdig.out.frozen m
      subst hm
      by_cases hv0 : 0 < v
      · clear hgo
        go_wp2
        refine ⟨⟨m, v / 10, digN v :: ds, rfl, by go_num, by omega, by omega, Lib.hid ?_, Lib.hid (by have := hlen.out; simp only [List.length_cons]; omega), Lib.hid ?_, Lib.hid (hdig.out.store v (by omega) _ rfl), hb.setCell (Nat.le_refl _) _⟩, by simp [intOf]⟩
        · have := hlt.out
          rw [Nat.pow_succ] at this
          omega
        · have e := leftD_step (m + 1) v ds Hgo.out (by omega) ha
          rw [Nat.add_sub_cancel] at e
          exact e.trans hleft.out
      · obtain rfl : v = 0 := by omega
        obtain rfl : m = 19 := by omega
        clear hgo
        go_wp2
        refine ⟨⟨19, 0 / 10, digN 0 :: ds, rfl, rfl, by omega, by omega, Lib.hid ?_, Lib.hid (by have := hlen.out; simp only [List.length_cons]; omega), Lib.hid ?_, Lib.hid (hdig.out.store 0 (by omega) _ rfl), hb.setCell (Nat.le_refl _) _⟩, by simp [intOf]⟩
        · have := hlt.out
          rw [Nat.pow_succ] at this
          omega
        · have e := leftD_step (19 + 1) 0 ds Hgo.out (by omega) ha
          rw [Nat.add_sub_cancel] at e
          exact e.trans hleft.out
    · have hv0 : v = 0 := by omega
      subst hv0
      have hne : a ≠ 20 := by omega
      have hlen' := hlen.out
      have hl := hleft.out
      unfold leftD at hl
      rw [if_neg hgo] at hl
      have hcv := hdig.out.back (20 - a)
      have hsl : ∀ W, (Instr.sliceAt 243 (.pointer (some ⟨w.heap.size, 0, none⟩)) (some (.int .i64 (a : Int))) none none).run Tryz.prog W = .ok (.slice (some ⟨w.heap.size, a, none⟩) (20 - a) (20 - a)) W := fun W => by
        rw [run_sliceAt_array_l W 243 ⟨w.heap.size, 0, none⟩ (by simp [Program.arrayLen, Program.elem, Tryz.underlying243]) .i64 (a : Int) (by omega) (by rw [hal]; omega), hal]
        go_simp
        omega
      have hdl : ds.length = 20 - a := by omega
      rw [hdl] at hcv
      have Hl := Lib.hid hl
      have Hdl := Lib.hid hdl
      clear hl hdl hgo hal hlen'
      have hne0 : ((a : Int) == 20) = false := by simp; omega
      go_wp2
      go_ret
      refine ⟨?_, hb⟩
      rw [← Hl.out]
      rfl
end Go.Proofs.YtnnjpegeefoecaaGreatDoor
