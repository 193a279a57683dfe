/-
  Which instructions are of OpPhi; whether a number stands in a list; what goes from a list.
-/
import Derived.Test.YtdjpjonikceadaaIrU
namespace Go.Proofs.Ytdjpjonikceadaa
open Go.RowKit
set_option linter.unusedVariables false
set_option linter.unusedSimpArgs false

set_option maxRecDepth 100000 in
theorem has_first (E gi ci : Nat) (w : World) (h3 : w.cell? ⟨E, 3, none⟩ = some (.slice (some ⟨gi, 0, none⟩) 1 ci)) :
    Calls Try.prog 41 #[.pointer (some ⟨E, 0, none⟩), .int .i64 0] w fun e w' => e = .returned (.bool true) ∧ w' = w := by
  go_enter Try.func41, Try.ntmps41
  go_wp2
  go_ret
  exact ⟨rfl, rfl⟩

set_option maxRecDepth 100000 in
theorem isPhi_first (E gi ci : Nat) (w : World) (h3 : w.cell? ⟨E, 3, none⟩ = some (.slice (some ⟨gi, 0, none⟩) 1 ci)) (ho : w.cell? ⟨gi, 0, none⟩ = some (.int .i64 3)) :
    Calls Try.prog 27 #[.pointer (some ⟨E, 0, none⟩), .int .i64 0] w fun e w' => e = .returned (.bool true) ∧ w' = w := by
  have hH := has_first E gi ci w h3
  go_enter Try.func27, Try.ntmps27
  go_wp2_with (go_at_call 41; refine hH.mono ?_; rintro e w1 ⟨rfl, rfl⟩)
  go_ret
  exact ⟨rfl, rfl⟩

set_option maxRecDepth 100000 in
set_option maxHeartbeats 4000000 in
/-- How many instructions of OpPhi a block has that has the first one alone. -/
theorem phis_count (E n N g c gi ci gl cl : Nat) (w : World) (hE : EdC w E (.slice (some ⟨gi, 0, none⟩) 1 ci) (.slice (some ⟨g, 0, none⟩) N c)) (hn : n < N) (hL : w.cell? ⟨g, n * 5, none⟩ = some (.slice (some ⟨gl, 0, none⟩) 1 cl)) (hl : w.cell? ⟨gl, 0, none⟩ = some (.int .i64 0)) (ho : w.cell? ⟨gi, 0, none⟩ = some (.int .i64 3)) :
    Calls Try.prog 13 #[.pointer (some ⟨E, 0, none⟩), .int .i64 n] w fun e w' => e = .returned (.int .i64 1) ∧ w' = w := by
  have hB := block_ptr E n N g c _ w hE hn
  have hI := isPhi_first E gi ci w (Lib.cell_of_heap hE 3) ho
  clear hE
  go_enter Try.func13, Try.ntmps13
  go_wp2_with (go_at_call 22; refine hB.mono ?_; rintro e w1 ⟨rfl, rfl⟩)
  refine wp_loop_rounds 2 ?_
  rw [rounds_succ]
  go_wp2_with (go_at_call 27; refine hI.mono ?_; rintro e w1 ⟨rfl, rfl⟩)
  rw [rounds_succ]
  go_wp2
  go_ret
  exact ⟨rfl, rfl⟩

set_option maxRecDepth 100000 in
set_option maxHeartbeats 4000000 in
theorem contains_yes (B : Nat) (v : Value) (l : List Int) (x : Int) (w : World) (h : RI w B v l) (hl : l.length ≤ 1000) (hx : x ∈ l) :
    Calls Try.prog 24 #[v, .int .i64 x] w fun e w' => e = .returned (.bool true) ∧ w' = w := by
  have hI : ∀ w, RI w B v l → Calls Try.prog 39 #[v, .int .i64 x] w fun e w' => (∃ i : Nat, e = .returned (.int .i64 i)) ∧ w' = w := fun w h => by
    obtain ⟨A, c, rfl, hr⟩ := h
    have Hr := Lib.hid hr
    have Hx := Lib.hid hx
    obtain ⟨m, hm⟩ : ∃ m, m = l.length := ⟨_, rfl⟩
    have Hm := Lib.hid hm
    rw [← hm] at hl ⊢
    clear hr hm hx
    go_enter Try.func39, Try.ntmps39
    go_wp2
    go_loop [8] (fun u8 => ∃ i : Nat, i ≤ m ∧ u8 = .int .i64 i ∧ Hid (∀ j y, j < i → l[j]? = some y → y ≠ x)) (fun u8 => m - (intOf u8).toNat)
    case atStart => exact ⟨0, Nat.zero_le _, rfl, Lib.hid (fun j y hj => by omega)⟩
    case round =>
      obtain ⟨i, hi, rfl, HN⟩ := hrel
      by_cases hlt : i < m
      · obtain ⟨b, rfl, hb, hc⟩ := Hr.out (by rw [← Hm.out]; omega)
        have hil : i < l.length := by rw [← Hm.out]; exact hlt
        have hcx := hc i l[i] (List.getElem?_eq_getElem hil)
        obtain ⟨y, hy⟩ : ∃ y, y = l[i] := ⟨_, rfl⟩
        rw [← hy] at hcx
        have Hy := Lib.hid hy
        clear hy hc
        cases hq : (x == y) with
        | true =>
          go_wp2
          go_ret
          exact ⟨⟨i, rfl⟩, rfl⟩
        | false =>
          go_wp2
          go_round
          case rel => exact ⟨i + 1, by omega, by go_num, Lib.hid (fun j z hj hz => by
            by_cases hji : j = i
            · subst hji
              rw [List.getElem?_eq_getElem hil] at hz
              injection hz with hz
              intro e
              rw [← hz, ← Hy.out] at e
              rw [e] at hq
              simp at hq
            · exact HN.out j z (by omega) hz)⟩
          case measure => simp [intOf]; omega
      · obtain rfl : i = m := by omega
        exfalso
        obtain ⟨j, hj, he⟩ := List.mem_iff_getElem.mp Hx.out
        exact HN.out j _ (by rw [Hm.out]; exact hj) (List.getElem?_eq_getElem hj) he
  have hI0 := hI w h
  clear hI h
  go_enter Try.func24, Try.ntmps24
  go_wp2_with (go_at_call 39; refine hI0.mono ?_; rintro e w1 ⟨⟨i, rfl⟩, rfl⟩; have l0 : (0 : Int) ≤ i := by omega)
  go_ret
  exact ⟨rfl, rfl⟩

set_option maxRecDepth 100000 in
set_option maxHeartbeats 4000000 in
/-- Whether a place is that of the block that goes. -/
theorem lose1_at (a7 a5 ob oc m i : Nat) (o pred : Int) (x : Int) (w : World) (h7 : w.cell? ⟨a7, 0, none⟩ = some (.slice (some ⟨ob, 0, none⟩) m oc)) (h5 : w.cell? ⟨a5, 0, none⟩ = some (.int .i64 pred)) (hi : i < m) (ho : w.cell? ⟨ob, i, none⟩ = some (.int .i64 o)) :
    Calls Try.prog 42 #[.int .i64 i, .int .i64 x, .pointer (some ⟨a7, 0, none⟩), .pointer (some ⟨a5, 0, none⟩)] w fun e w' => e = .returned (.bool (o == pred)) ∧ ∃ n, w' = w.drewN n := by
  have l1 : (i : Int) < m := by omega
  have l0 : (0 : Int) ≤ i := by omega
  have d1 : decide ((i : Int) < m) = true := by simp; omega
  go_enter Try.func42, Try.ntmps42
  go_upto_region 1 with fail
  go_quiet (fail)
  go_wp2
  go_ret
  exact ⟨rfl, _, rfl⟩
end Go.Proofs.Ytdjpjonikceadaa
