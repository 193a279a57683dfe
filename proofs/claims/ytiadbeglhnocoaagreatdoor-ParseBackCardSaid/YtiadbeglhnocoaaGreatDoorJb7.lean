/-
  Package tree's Digits: a number's decimal digits, laid from an array's end.
  Package tree's Sign, comparison, TypeName: an operation's sign, a type's word.
-/
import Derived.Test.YtiadbeglhnocoaaGreatDoorRows
import Derived.Lib.AppendIntMem
import Derived.Lib.Builder
import Derived.WalkKit
import Derived.WalkSpells
import Derived.WalkLawsBesides
import Derived.BigCall
import Derived.BigGuard
import Derived.OwnWalk
import Derived.Lib.Hide
import Derived.Below
namespace Go.Proofs.YtiadbeglhnocoaaGreatDoor
set_option linter.unusedVariables false
set_option linter.unusedSimpArgs false
open Go.RowKit Go.Sort

def digN (v : Nat) : UInt8 := UInt8.ofNat (48 + v % 10)
theorem digN_nat (v : Nat) : ((digN v).toNat : Int) = 48 + (v : Int) % 10 := by
  unfold digN
  simp
  omega
/-- What is still to be laid ahead of ds. -/
def leftD (a v : Nat) (ds : List UInt8) : List UInt8 := if a = 20 ∨ 0 < v then Lib.decDigits v ++ ds else ds
theorem leftD_step (a v : Nat) (ds : List UInt8) (h : a = 20 ∨ 0 < v) (h1 : 1 ≤ a) (h20 : a ≤ 20) : leftD (a - 1) (v / 10) (digN v :: ds) = leftD a v ds := by
  unfold leftD
  rw [if_pos h]
  by_cases hv : v < 10
  · rw [if_neg (by omega), Lib.decDigits, dif_pos hv, digN, Nat.mod_eq_of_lt hv]
    rfl
  · rw [if_pos (by omega)]
    conv => rhs; rw [Lib.decDigits, dif_neg hv]
    rw [List.append_assoc]
    rfl
/-- The array's block: behind the place a it holds ds. -/
def DigAt (B a : Nat) (ds : List UInt8) (w : World) : Prop := ∃ C : Array Value, w.heap[B]? = some (.cells C 129 (0, 0)) ∧ C.size = 20 ∧ ∀ j (hj : j < ds.length), C[a + j]? = some (.int .u8 (ds[j].toNat : Int))
theorem DigAt.lt {B a : Nat} {ds : List UInt8} {w : World} (h : DigAt B a ds w) : B < w.heap.size := by
  obtain ⟨C, hb, _⟩ := h
  rcases Nat.lt_or_ge B w.heap.size with h' | h'
  · exact h'
  · simp [Array.getElem?_eq_none h'] at hb
theorem DigAt.cell {B a : Nat} {ds : List UInt8} {w : World} (h : DigAt B a ds w) (i : Nat) (hi : i < 20) : ∃ v, w.cell? ⟨B, i, none⟩ = some v := by
  obtain ⟨C, hb, hs, _⟩ := h
  exact ⟨C[i]'(by omega), by rw [Lib.cell_of_heap hb]; exact Array.getElem?_eq_getElem (by omega)⟩
theorem DigAt.frozen {B a : Nat} {ds : List UInt8} {w : World} (h : DigAt B a ds w) (i : Nat) : w.frozen? ⟨B, i, none⟩ = false := by
  obtain ⟨C, hb, _⟩ := h
  exact Lib.frozen_of_heap hb i
theorem DigAt.store {B a : Nat} {ds : List UInt8} {w : World} (h : DigAt B (a + 1) ds w) (v : Nat) (ha : a < 20) (z : Int) (hz : z = 48 + (v : Int) % 10) : DigAt B a (digN v :: ds) (w.setCell ⟨B, a, none⟩ (.int .u8 z)) := by
  obtain ⟨C, hb, hs, hc⟩ := h
  refine ⟨C.setIfInBounds a (.int .u8 z), ?_, by simpa using hs, ?_⟩
  · simp [World.setCell, Array.getElem?_modify, hb]
  · intro j hj
    cases j with
    | zero =>
      rw [hz, ← digN_nat]
      simp [hs, ha]
    | succ j =>
      have := hc j (by simpa using hj)
      rw [Array.getElem?_setIfInBounds, if_neg (by omega), show a + (j + 1) = a + 1 + j by omega]
      simpa using this
theorem DigAt.back {B a : Nat} {ds : List UInt8} {w : World} (h : DigAt B a ds w) (cap : Nat) : (convert 41 9 (.slice (some ⟨B, a, none⟩) ds.length cap)).run Tryz.prog w = .ok (.string ⟨ds.toArray⟩) w := by
  obtain ⟨C, hb, hs, hc⟩ := h
  refine run_convert_bytes_back (P := Tryz.prog) w 41 9 5 ⟨B, a, none⟩ cap ds Tryz.underlying41 Tryz.underlying5 Tryz.underlying9 (fun j hj => ?_)
  rw [Lib.add_plain, Lib.cell_of_heap hb]
  exact hc j hj

set_option maxHeartbeats 2000000 in
set_option maxRecDepth 100000 in
theorem digits_any (n : Int) (u : Nat) (hwr : IntKind.u64.wrap n = (u : Int)) (hu : u < 18446744073709551616) (w : World) :
    Calls Tryz.prog 80 #[.int .i64 n] w fun e w' => e = .returned (.string ⟨(Lib.decDigits u).toArray⟩) ∧ Below w.heap.size w w' := by
  have hal : Tryz.prog.arrayLen 129 = 20 := by simp [Program.arrayLen, Tryz.underlying129]
  have hpow : u < 10 ^ 20 := by omega
  have HP := Lib.hid hpow
  clear hpow
  go_enter Tryz.func80, Tryz.ntmps80
  go_wp2
  go_loopw [4, 5] (fun va vv wr => ∃ (a v : Nat) (ds : List UInt8), va = .int .i64 a ∧ vv = .int .u64 v ∧ a ≤ 20 ∧ v < 18446744073709551616 ∧ Hid (v < 10 ^ a) ∧ Hid (a + ds.length = 20) ∧ Hid (leftD a v ds = Lib.decDigits u) ∧ Hid (DigAt w.heap.size a ds wr) ∧ Below w.heap.size w wr) (fun va _ _ => (intOf va).toNat)
  case atStart =>
    refine ⟨20, u, [], rfl, rfl, Nat.le_refl _, hu, HP, rfl, ?_, ?_, (Below.refl _ _).alloc (Nat.le_refl _) _⟩
    · unfold Hid leftD
      rw [if_pos (Or.inl rfl), List.append_nil]
    · exact ⟨_, heap_alloc_new w _, rfl, fun j hj => absurd hj (Nat.not_lt_zero _)⟩
  case round =>
    obtain ⟨a, v, ds, rfl, rfl, ha, hv, hlt, hlen, hleft, hdig, hb⟩ := hrel
    by_cases hgo : a = 20 ∨ 0 < v
    · have h1 : 1 ≤ a := by
        rcases hgo with h | h
        · omega
        · rcases Nat.eq_zero_or_pos a with h0 | h0
          · have := hlt.out; rw [h0] at this; omega
          · exact h0
      obtain ⟨m, hm⟩ : ∃ m, m + 1 = a := ⟨a - 1, by omega⟩
      have Hgo := Lib.hid hgo
      have hB := hdig.out.lt
      obtain ⟨v0, hc0⟩ := hdig.out.cell m (by omega)
      have hf0 := hdig.out.frozen m
      subst hm
      by_cases hv0 : 0 < v
      · clear hgo
        go_wp2
        refine ⟨⟨m, v / 10, digN v :: ds, rfl, by go_num, by omega, by omega, Lib.hid ?_, Lib.hid (by have := hlen.out; simp only [List.length_cons]; omega), Lib.hid ?_, Lib.hid (hdig.out.store v (by omega) _ rfl), hb.setCell (Nat.le_refl _) _⟩, by simp [intOf]⟩
        · have := hlt.out
          rw [Nat.pow_succ] at this
          omega
        · have e := leftD_step (m + 1) v ds Hgo.out (by omega) ha
          rw [Nat.add_sub_cancel] at e
          exact e.trans hleft.out
      · obtain rfl : v = 0 := by omega
        obtain rfl : m = 19 := by omega
        clear hgo
        go_wp2
        refine ⟨⟨19, 0 / 10, digN 0 :: ds, rfl, rfl, by omega, by omega, Lib.hid ?_, Lib.hid (by have := hlen.out; simp only [List.length_cons]; omega), Lib.hid ?_, Lib.hid (hdig.out.store 0 (by omega) _ rfl), hb.setCell (Nat.le_refl _) _⟩, by simp [intOf]⟩
        · have := hlt.out
          rw [Nat.pow_succ] at this
          omega
        · have e := leftD_step (19 + 1) 0 ds Hgo.out (by omega) ha
          rw [Nat.add_sub_cancel] at e
          exact e.trans hleft.out
    · have hv0 : v = 0 := by omega
      subst hv0
      have hne : a ≠ 20 := by omega
      have hlen' := hlen.out
      have hl := hleft.out
      unfold leftD at hl
      rw [if_neg hgo] at hl
      have hcv := hdig.out.back (20 - a)
      have hsl : ∀ W, (Instr.sliceAt 129 (.pointer (some ⟨w.heap.size, 0, none⟩)) (some (.int .i64 (a : Int))) none none).run Tryz.prog W = .ok (.slice (some ⟨w.heap.size, a, none⟩) (20 - a) (20 - a)) W := fun W => by
        rw [run_sliceAt_array_l W 129 ⟨w.heap.size, 0, none⟩ (by simp [Program.arrayLen, Program.elem, Tryz.underlying129]) .i64 (a : Int) (by omega) (by rw [hal]; omega), hal]
        go_simp
        omega
      have hdl : ds.length = 20 - a := by omega
      rw [hdl] at hcv
      have Hl := Lib.hid hl
      have Hdl := Lib.hid hdl
      clear hl hdl hgo hal hlen'
      have hne0 : ((a : Int) == 20) = false := by simp; omega
      go_wp2
      go_ret
      refine ⟨?_, hb⟩
      rw [← Hl.out]
      rfl
end Go.Proofs.YtiadbeglhnocoaaGreatDoor
namespace Go.Proofs.YtiadbeglhnocoaaGreatDoor
set_option linter.unusedVariables false
set_option linter.unusedSimpArgs false
open Go.RowKit

theorem ret_txt {a b : ByteArray} (h : a = b) : Ending.returned (.string a) = .returned (.string b) := by rw [h]
def signL : List ByteArray := [⟨#[]⟩, ⟨#[]⟩, ⟨#[]⟩, ⟨#[]⟩, ⟨#[43]⟩, ⟨#[45]⟩, ⟨#[42]⟩, ⟨#[47]⟩, ⟨#[37]⟩, ⟨#[38]⟩, ⟨#[124]⟩, ⟨#[94]⟩, ⟨#[60, 60]⟩, ⟨#[62, 62]⟩, ⟨#[62, 62, 62]⟩, ⟨#[45]⟩, ⟨#[126]⟩, ⟨#[61, 61]⟩, ⟨#[33, 61]⟩, ⟨#[60]⟩, ⟨#[60, 61]⟩, ⟨#[62]⟩, ⟨#[62, 61]⟩, ⟨#[]⟩, ⟨#[33]⟩]
def typeL : List ByteArray := [⟨#[]⟩, ⟨#[105, 110, 116]⟩, ⟨#[98, 111, 111, 108]⟩, ⟨#[91, 105, 110, 116, 93]⟩, ⟨#[91, 91, 105, 110, 116, 93, 93]⟩]
def nameAt (l : List ByteArray) (k : Int) : ByteArray := if k < 0 then ⟨#[]⟩ else l.getD k.toNat ⟨#[]⟩
def signA (k : Int) : ByteArray := nameAt signL k
def typeA (k : Int) : ByteArray := nameAt typeL k
theorem nameAt_at (l : List ByteArray) (k : Nat) : nameAt l k = l.getD k ⟨#[]⟩ := by
  unfold nameAt
  rw [if_neg (by omega), Int.toNat_natCast]
theorem nameAt_neg (l : List ByteArray) (k : Int) (h : k < 0) : nameAt l k = ⟨#[]⟩ := if_pos h
theorem nameAt_far (l : List ByteArray) (k : Int) (h : (l.length : Int) ≤ k) : nameAt l k = ⟨#[]⟩ := by
  unfold nameAt
  rw [if_neg (by omega), List.getD_eq_getElem?_getD, List.getElem?_eq_none (by omega)]
  rfl
theorem signA_0 : signA 0 = ⟨#[]⟩ := nameAt_at signL 0
theorem signA_1 : signA 1 = ⟨#[]⟩ := nameAt_at signL 1
theorem signA_2 : signA 2 = ⟨#[]⟩ := nameAt_at signL 2
theorem signA_3 : signA 3 = ⟨#[]⟩ := nameAt_at signL 3
theorem signA_4 : signA 4 = ⟨#[43]⟩ := nameAt_at signL 4
theorem signA_5 : signA 5 = ⟨#[45]⟩ := nameAt_at signL 5
theorem signA_6 : signA 6 = ⟨#[42]⟩ := nameAt_at signL 6
theorem signA_7 : signA 7 = ⟨#[47]⟩ := nameAt_at signL 7
theorem signA_8 : signA 8 = ⟨#[37]⟩ := nameAt_at signL 8
theorem signA_9 : signA 9 = ⟨#[38]⟩ := nameAt_at signL 9
theorem signA_10 : signA 10 = ⟨#[124]⟩ := nameAt_at signL 10
theorem signA_11 : signA 11 = ⟨#[94]⟩ := nameAt_at signL 11
theorem signA_12 : signA 12 = ⟨#[60, 60]⟩ := nameAt_at signL 12
theorem signA_13 : signA 13 = ⟨#[62, 62]⟩ := nameAt_at signL 13
theorem signA_14 : signA 14 = ⟨#[62, 62, 62]⟩ := nameAt_at signL 14
theorem signA_15 : signA 15 = ⟨#[45]⟩ := nameAt_at signL 15
theorem signA_16 : signA 16 = ⟨#[126]⟩ := nameAt_at signL 16
theorem signA_17 : signA 17 = ⟨#[61, 61]⟩ := nameAt_at signL 17
theorem signA_18 : signA 18 = ⟨#[33, 61]⟩ := nameAt_at signL 18
theorem signA_19 : signA 19 = ⟨#[60]⟩ := nameAt_at signL 19
theorem signA_20 : signA 20 = ⟨#[60, 61]⟩ := nameAt_at signL 20
theorem signA_21 : signA 21 = ⟨#[62]⟩ := nameAt_at signL 21
theorem signA_22 : signA 22 = ⟨#[62, 61]⟩ := nameAt_at signL 22
theorem signA_23 : signA 23 = ⟨#[]⟩ := nameAt_at signL 23
theorem signA_24 : signA 24 = ⟨#[33]⟩ := nameAt_at signL 24
theorem typeA_0 : typeA 0 = ⟨#[]⟩ := nameAt_at typeL 0
theorem typeA_1 : typeA 1 = ⟨#[105, 110, 116]⟩ := nameAt_at typeL 1
theorem typeA_2 : typeA 2 = ⟨#[98, 111, 111, 108]⟩ := nameAt_at typeL 2
theorem typeA_3 : typeA 3 = ⟨#[91, 105, 110, 116, 93]⟩ := nameAt_at typeL 3
theorem typeA_4 : typeA 4 = ⟨#[91, 91, 105, 110, 116, 93, 93]⟩ := nameAt_at typeL 4
theorem signA_none (k : Int) (h4 : k ≠ 4) (h5 : k ≠ 5) (h6 : k ≠ 6) (h7 : k ≠ 7) (h8 : k ≠ 8) (h9 : k ≠ 9) (h10 : k ≠ 10) (h11 : k ≠ 11) (h12 : k ≠ 12) (h13 : k ≠ 13) (h14 : k ≠ 14) (h15 : k ≠ 15) (h16 : k ≠ 16) (h17 : k ≠ 17) (h18 : k ≠ 18) (h19 : k ≠ 19) (h20 : k ≠ 20) (h21 : k ≠ 21) (h22 : k ≠ 22) (h24 : k ≠ 24) : signA k = ⟨#[]⟩ := by
  by_cases hn : k < 0
  · exact nameAt_neg _ k hn
  by_cases hf : 25 ≤ k
  · exact nameAt_far _ k hf
  have hs : k = 0 ∨ k = 1 ∨ k = 2 ∨ k = 3 ∨ k = 23 := by omega
  rcases hs with rfl | rfl | rfl | rfl | rfl
  · exact signA_0
  · exact signA_1
  · exact signA_2
  · exact signA_3
  · exact signA_23
theorem typeA_none (k : Int) (h1 : k ≠ 1) (h2 : k ≠ 2) (h3 : k ≠ 3) (h4 : k ≠ 4) : typeA k = ⟨#[]⟩ := by
  by_cases hn : k < 0
  · exact nameAt_neg _ k hn
  by_cases hf : 5 ≤ k
  · exact nameAt_far _ k hf
  obtain rfl : k = 0 := by omega
  exact typeA_0
set_option maxHeartbeats 1000000 in
theorem cmpW_17 (w : World) : Calls Tryz.prog 113 #[.int .i64 17] w fun e w' => e = .returned (.string ⟨#[61, 61]⟩) ∧ w = w' := by
  go_enter Tryz.func113, Tryz.ntmps113
  go_wp2
  go_ret
  exact ⟨rfl, rfl⟩
set_option maxHeartbeats 1000000 in
theorem cmpW_18 (w : World) : Calls Tryz.prog 113 #[.int .i64 18] w fun e w' => e = .returned (.string ⟨#[33, 61]⟩) ∧ w = w' := by
  go_enter Tryz.func113, Tryz.ntmps113
  go_wp2
  go_ret
  exact ⟨rfl, rfl⟩
set_option maxHeartbeats 1000000 in
theorem cmpW_19 (w : World) : Calls Tryz.prog 113 #[.int .i64 19] w fun e w' => e = .returned (.string ⟨#[60]⟩) ∧ w = w' := by
  go_enter Tryz.func113, Tryz.ntmps113
  go_wp2
  go_ret
  exact ⟨rfl, rfl⟩
set_option maxHeartbeats 1000000 in
theorem cmpW_20 (w : World) : Calls Tryz.prog 113 #[.int .i64 20] w fun e w' => e = .returned (.string ⟨#[60, 61]⟩) ∧ w = w' := by
  go_enter Tryz.func113, Tryz.ntmps113
  go_wp2
  go_ret
  exact ⟨rfl, rfl⟩
set_option maxHeartbeats 1000000 in
theorem cmpW_21 (w : World) : Calls Tryz.prog 113 #[.int .i64 21] w fun e w' => e = .returned (.string ⟨#[62]⟩) ∧ w = w' := by
  go_enter Tryz.func113, Tryz.ntmps113
  go_wp2
  go_ret
  exact ⟨rfl, rfl⟩
set_option maxHeartbeats 1000000 in
theorem cmpW_22 (w : World) : Calls Tryz.prog 113 #[.int .i64 22] w fun e w' => e = .returned (.string ⟨#[62, 61]⟩) ∧ w = w' := by
  go_enter Tryz.func113, Tryz.ntmps113
  go_wp2
  go_ret
  exact ⟨rfl, rfl⟩
set_option maxHeartbeats 1000000 in
theorem signW_4 (w : World) : Calls Tryz.prog 101 #[.int .i64 4] w fun e w' => e = .returned (.string ⟨#[43]⟩) ∧ w = w' := by
  go_enter Tryz.func101, Tryz.ntmps101
  go_wp2
  go_ret
  exact ⟨rfl, rfl⟩
set_option maxHeartbeats 1000000 in
theorem signW_5 (w : World) : Calls Tryz.prog 101 #[.int .i64 5] w fun e w' => e = .returned (.string ⟨#[45]⟩) ∧ w = w' := by
  go_enter Tryz.func101, Tryz.ntmps101
  go_wp2
  go_ret
  exact ⟨rfl, rfl⟩
set_option maxHeartbeats 1000000 in
theorem signW_15 (w : World) : Calls Tryz.prog 101 #[.int .i64 15] w fun e w' => e = .returned (.string ⟨#[45]⟩) ∧ w = w' := by
  go_enter Tryz.func101, Tryz.ntmps101
  go_wp2
  go_ret
  exact ⟨rfl, rfl⟩
set_option maxHeartbeats 1000000 in
theorem signW_6 (w : World) : Calls Tryz.prog 101 #[.int .i64 6] w fun e w' => e = .returned (.string ⟨#[42]⟩) ∧ w = w' := by
  go_enter Tryz.func101, Tryz.ntmps101
  go_wp2
  go_ret
  exact ⟨rfl, rfl⟩
set_option maxHeartbeats 1000000 in
theorem signW_7 (w : World) : Calls Tryz.prog 101 #[.int .i64 7] w fun e w' => e = .returned (.string ⟨#[47]⟩) ∧ w = w' := by
  go_enter Tryz.func101, Tryz.ntmps101
  go_wp2
  go_ret
  exact ⟨rfl, rfl⟩
set_option maxHeartbeats 1000000 in
theorem signW_8 (w : World) : Calls Tryz.prog 101 #[.int .i64 8] w fun e w' => e = .returned (.string ⟨#[37]⟩) ∧ w = w' := by
  go_enter Tryz.func101, Tryz.ntmps101
  go_wp2
  go_ret
  exact ⟨rfl, rfl⟩
set_option maxHeartbeats 1000000 in
theorem signW_9 (w : World) : Calls Tryz.prog 101 #[.int .i64 9] w fun e w' => e = .returned (.string ⟨#[38]⟩) ∧ w = w' := by
  go_enter Tryz.func101, Tryz.ntmps101
  go_wp2
  go_ret
  exact ⟨rfl, rfl⟩
set_option maxHeartbeats 1000000 in
theorem signW_10 (w : World) : Calls Tryz.prog 101 #[.int .i64 10] w fun e w' => e = .returned (.string ⟨#[124]⟩) ∧ w = w' := by
  go_enter Tryz.func101, Tryz.ntmps101
  go_wp2
  go_ret
  exact ⟨rfl, rfl⟩
set_option maxHeartbeats 1000000 in
theorem signW_11 (w : World) : Calls Tryz.prog 101 #[.int .i64 11] w fun e w' => e = .returned (.string ⟨#[94]⟩) ∧ w = w' := by
  go_enter Tryz.func101, Tryz.ntmps101
  go_wp2
  go_ret
  exact ⟨rfl, rfl⟩
set_option maxHeartbeats 1000000 in
theorem signW_12 (w : World) : Calls Tryz.prog 101 #[.int .i64 12] w fun e w' => e = .returned (.string ⟨#[60, 60]⟩) ∧ w = w' := by
  go_enter Tryz.func101, Tryz.ntmps101
  go_wp2
  go_ret
  exact ⟨rfl, rfl⟩
set_option maxHeartbeats 1000000 in
theorem signW_13 (w : World) : Calls Tryz.prog 101 #[.int .i64 13] w fun e w' => e = .returned (.string ⟨#[62, 62]⟩) ∧ w = w' := by
  go_enter Tryz.func101, Tryz.ntmps101
  go_wp2
  go_ret
  exact ⟨rfl, rfl⟩
set_option maxHeartbeats 1000000 in
theorem signW_14 (w : World) : Calls Tryz.prog 101 #[.int .i64 14] w fun e w' => e = .returned (.string ⟨#[62, 62, 62]⟩) ∧ w = w' := by
  go_enter Tryz.func101, Tryz.ntmps101
  go_wp2
  go_ret
  exact ⟨rfl, rfl⟩
set_option maxHeartbeats 1000000 in
theorem signW_16 (w : World) : Calls Tryz.prog 101 #[.int .i64 16] w fun e w' => e = .returned (.string ⟨#[126]⟩) ∧ w = w' := by
  go_enter Tryz.func101, Tryz.ntmps101
  go_wp2
  go_ret
  exact ⟨rfl, rfl⟩
set_option maxHeartbeats 1000000 in
theorem signW_24 (w : World) : Calls Tryz.prog 101 #[.int .i64 24] w fun e w' => e = .returned (.string ⟨#[33]⟩) ∧ w = w' := by
  go_enter Tryz.func101, Tryz.ntmps101
  go_wp2
  go_ret
  exact ⟨rfl, rfl⟩
set_option maxHeartbeats 1000000 in
theorem typeW_1 (w : World) : Calls Tryz.prog 21 #[.int .i64 1] w fun e w' => e = .returned (.string ⟨#[105, 110, 116]⟩) ∧ w = w' := by
  go_enter Tryz.func21, Tryz.ntmps21
  go_wp2
  go_ret
  exact ⟨rfl, rfl⟩
set_option maxHeartbeats 1000000 in
theorem typeW_2 (w : World) : Calls Tryz.prog 21 #[.int .i64 2] w fun e w' => e = .returned (.string ⟨#[98, 111, 111, 108]⟩) ∧ w = w' := by
  go_enter Tryz.func21, Tryz.ntmps21
  go_wp2
  go_ret
  exact ⟨rfl, rfl⟩
set_option maxHeartbeats 1000000 in
theorem typeW_3 (w : World) : Calls Tryz.prog 21 #[.int .i64 3] w fun e w' => e = .returned (.string ⟨#[91, 105, 110, 116, 93]⟩) ∧ w = w' := by
  go_enter Tryz.func21, Tryz.ntmps21
  go_wp2
  go_ret
  exact ⟨rfl, rfl⟩
set_option maxHeartbeats 1000000 in
theorem typeW_4 (w : World) : Calls Tryz.prog 21 #[.int .i64 4] w fun e w' => e = .returned (.string ⟨#[91, 91, 105, 110, 116, 93, 93]⟩) ∧ w = w' := by
  go_enter Tryz.func21, Tryz.ntmps21
  go_wp2
  go_ret
  exact ⟨rfl, rfl⟩
set_option maxHeartbeats 1000000 in
theorem cmpW_none (k : Int) (h17 : k ≠ 17) (h18 : k ≠ 18) (h19 : k ≠ 19) (h20 : k ≠ 20) (h21 : k ≠ 21) (h22 : k ≠ 22) (w : World) : Calls Tryz.prog 113 #[.int .i64 k] w fun e w' => e = .returned (.string ⟨#[]⟩) ∧ w = w' := by
  have b17 : (k == 17) = false := by simpa using h17
  have b18 : (k == 18) = false := by simpa using h18
  have b19 : (k == 19) = false := by simpa using h19
  have b20 : (k == 20) = false := by simpa using h20
  have b21 : (k == 21) = false := by simpa using h21
  have b22 : (k == 22) = false := by simpa using h22
  clear h17 h18 h19 h20 h21 h22
  go_enter Tryz.func113, Tryz.ntmps113
  go_wp2
  go_ret
  exact ⟨rfl, rfl⟩
theorem cmp_any (k : Int) (h4 : k ≠ 4) (h5 : k ≠ 5) (h15 : k ≠ 15) (h6 : k ≠ 6) (h7 : k ≠ 7) (h8 : k ≠ 8) (h9 : k ≠ 9) (h10 : k ≠ 10) (h11 : k ≠ 11) (h12 : k ≠ 12) (h13 : k ≠ 13) (h14 : k ≠ 14) (h16 : k ≠ 16) (h24 : k ≠ 24) (w : World) : Calls Tryz.prog 113 #[.int .i64 k] w fun e w' => e = .returned (.string (signA k)) ∧ w = w' := by
  by_cases h17 : k = 17
  · subst h17
    rw [signA_17]
    exact cmpW_17 w
  by_cases h18 : k = 18
  · subst h18
    rw [signA_18]
    exact cmpW_18 w
  by_cases h19 : k = 19
  · subst h19
    rw [signA_19]
    exact cmpW_19 w
  by_cases h20 : k = 20
  · subst h20
    rw [signA_20]
    exact cmpW_20 w
  by_cases h21 : k = 21
  · subst h21
    rw [signA_21]
    exact cmpW_21 w
  by_cases h22 : k = 22
  · subst h22
    rw [signA_22]
    exact cmpW_22 w
  rw [signA_none k h4 h5 h6 h7 h8 h9 h10 h11 h12 h13 h14 h15 h16 h17 h18 h19 h20 h21 h22 h24]
  exact cmpW_none k h17 h18 h19 h20 h21 h22 w
set_option maxHeartbeats 1000000 in
theorem signW_rest (k : Int) (h4 : k ≠ 4) (h5 : k ≠ 5) (h15 : k ≠ 15) (h6 : k ≠ 6) (h7 : k ≠ 7) (h8 : k ≠ 8) (h9 : k ≠ 9) (h10 : k ≠ 10) (h11 : k ≠ 11) (h12 : k ≠ 12) (h13 : k ≠ 13) (h14 : k ≠ 14) (h16 : k ≠ 16) (h24 : k ≠ 24) (w : World) : Calls Tryz.prog 101 #[.int .i64 k] w fun e w' => e = .returned (.string (signA k)) ∧ w = w' := by
  have hc := cmp_any k h4 h5 h15 h6 h7 h8 h9 h10 h11 h12 h13 h14 h16 h24
  obtain ⟨S, hS⟩ : ∃ S, S = signA k := ⟨_, rfl⟩
  rw [← hS] at hc ⊢
  clear hS
  have b4 : (k == 4) = false := by simpa using h4
  have b5 : (k == 5) = false := by simpa using h5
  have b15 : (k == 15) = false := by simpa using h15
  have b6 : (k == 6) = false := by simpa using h6
  have b7 : (k == 7) = false := by simpa using h7
  have b8 : (k == 8) = false := by simpa using h8
  have b9 : (k == 9) = false := by simpa using h9
  have b10 : (k == 10) = false := by simpa using h10
  have b11 : (k == 11) = false := by simpa using h11
  have b12 : (k == 12) = false := by simpa using h12
  have b13 : (k == 13) = false := by simpa using h13
  have b14 : (k == 14) = false := by simpa using h14
  have b16 : (k == 16) = false := by simpa using h16
  have b24 : (k == 24) = false := by simpa using h24
  clear h4 h5 h15 h6 h7 h8 h9 h10 h11 h12 h13 h14 h16 h24
  go_enter Tryz.func101, Tryz.ntmps101
  go_wp2_with (go_at_call 113; refine (hc _).mono ?_; rintro e w' ⟨rfl, rfl⟩)
  go_ret
  exact ⟨rfl, rfl⟩
theorem tsign_any (k : Int) (w : World) : Calls Tryz.prog 101 #[.int .i64 k] w fun e w' => e = .returned (.string (signA k)) ∧ w = w' := by
  by_cases h4 : k = 4
  · subst h4
    rw [signA_4]
    exact signW_4 w
  by_cases h5 : k = 5
  · subst h5
    rw [signA_5]
    exact signW_5 w
  by_cases h15 : k = 15
  · subst h15
    rw [signA_15]
    exact signW_15 w
  by_cases h6 : k = 6
  · subst h6
    rw [signA_6]
    exact signW_6 w
  by_cases h7 : k = 7
  · subst h7
    rw [signA_7]
    exact signW_7 w
  by_cases h8 : k = 8
  · subst h8
    rw [signA_8]
    exact signW_8 w
  by_cases h9 : k = 9
  · subst h9
    rw [signA_9]
    exact signW_9 w
  by_cases h10 : k = 10
  · subst h10
    rw [signA_10]
    exact signW_10 w
  by_cases h11 : k = 11
  · subst h11
    rw [signA_11]
    exact signW_11 w
  by_cases h12 : k = 12
  · subst h12
    rw [signA_12]
    exact signW_12 w
  by_cases h13 : k = 13
  · subst h13
    rw [signA_13]
    exact signW_13 w
  by_cases h14 : k = 14
  · subst h14
    rw [signA_14]
    exact signW_14 w
  by_cases h16 : k = 16
  · subst h16
    rw [signA_16]
    exact signW_16 w
  by_cases h24 : k = 24
  · subst h24
    rw [signA_24]
    exact signW_24 w
  exact signW_rest k h4 h5 h15 h6 h7 h8 h9 h10 h11 h12 h13 h14 h16 h24 w
set_option maxHeartbeats 1000000 in
theorem typeW_none (k : Int) (h1 : k ≠ 1) (h2 : k ≠ 2) (h3 : k ≠ 3) (h4 : k ≠ 4) (w : World) : Calls Tryz.prog 21 #[.int .i64 k] w fun e w' => e = .returned (.string ⟨#[]⟩) ∧ w = w' := by
  have b1 : (k == 1) = false := by simpa using h1
  have b2 : (k == 2) = false := by simpa using h2
  have b3 : (k == 3) = false := by simpa using h3
  have b4 : (k == 4) = false := by simpa using h4
  clear h1 h2 h3 h4
  go_enter Tryz.func21, Tryz.ntmps21
  go_wp2
  go_ret
  exact ⟨rfl, rfl⟩
theorem type_any (k : Int) (w : World) : Calls Tryz.prog 21 #[.int .i64 k] w fun e w' => e = .returned (.string (typeA k)) ∧ w = w' := by
  by_cases h1 : k = 1
  · subst h1
    rw [typeA_1]
    exact typeW_1 w
  by_cases h2 : k = 2
  · subst h2
    rw [typeA_2]
    exact typeW_2 w
  by_cases h3 : k = 3
  · subst h3
    rw [typeA_3]
    exact typeW_3 w
  by_cases h4 : k = 4
  · subst h4
    rw [typeA_4]
    exact typeW_4 w
  rw [typeA_none k h1 h2 h3 h4]
  exact typeW_none k h1 h2 h3 h4 w
end Go.Proofs.YtiadbeglhnocoaaGreatDoor
