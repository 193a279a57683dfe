/-
  Programs as bytes: the reader's Text; upTo, one.
-/
import Derived.Test.YthjlpbglnnebkaaCdK
namespace Go.Proofs.Ythjlpbglnnebkaa
open Go.RowKit Go.Shelf
set_option linter.unusedVariables false
set_option linter.unusedSimpArgs false

theorem RdAt.gb {E : Nat} {w w' : World} {s : Option (List UInt8)} (h : RdAt E s w) (hb : Below w.heap.size w w') : RdAt E s w' ∧ GBu E w w' := ⟨h.keep hb, GBu.of_below hb⟩
set_option maxRecDepth 100000 in
set_option maxHeartbeats 4000000 in
theorem text_r (E : Nat) (n : Int) (s : Option (List UInt8)) (w : World) (h : RdAt E s w) (hl : (s.getD []).length ≤ 1099511627776) : Calls Try.prog 26 #[.pointer (some ⟨E, 0, none⟩), .int .i64 n] w fun e w' => e = .returned (.string ⟨(textS n s).1.toArray⟩) ∧ RdAt E (textS n s).2 w' ∧ GBu E w w' := by
  have hO := ok_r E s w h
  cases s with
  | none =>
    have H := Lib.hid h
    clear h hl
    go_enter Try.func26, Try.ntmps26
    go_wp2_with (go_at_call 14; refine hO.mono ?_; rintro e w1 ⟨rfl, rfl⟩; clear hO)
    go_ret
    exact ⟨rfl, H.out, GBu.refl _ _⟩
  | some l =>
    have x0 : w.cell? ⟨E, 0, none⟩ = some (.string ⟨l.toArray⟩) := Lib.cell_of_heap h 0
    have hF := fail_r E (some l) w h
    have hsz : (⟨l.toArray⟩ : ByteArray).size = l.length := by simp [ByteArray.size]
    have hl : l.length ≤ 1099511627776 := hl
    by_cases hb : n < 0 ∨ (l.length : Int) < n
    · have hS : textS n (some l) = ([], none) := by show (if _ then _ else _) = _; rw [if_pos hb]
      have HS := Lib.hid hS
      by_cases hn : n < 0
      · have d1 : decide (n < 0) = true := decide_eq_true hn
        clear h hS hb hn
        go_enter Try.func26, Try.ntmps26
        go_wp2_with (first
          | (go_at_call 14; refine hO.mono ?_; rintro e w1 ⟨rfl, rfl⟩; clear hO)
          | (go_at_call 30; refine hF.mono ?_; rintro e w2 ⟨rfl, h1, h2⟩; have H1 := Lib.hid h1; have H2 := Lib.hid h2; clear h1 h2 hF))
        go_ret
        rw [HS.out]
        exact ⟨rfl, H1.out, H2.out⟩
      · have hgt : (l.length : Int) < n := by rcases hb with h | h; exact absurd h hn; exact h
        have d1 : decide (n < 0) = false := decide_eq_false hn
        have d2 : decide (n > (l.length : Int)) = true := decide_eq_true hgt
        clear h hS hb hn
        go_enter Try.func26, Try.ntmps26
        go_wp2_with (first
          | (go_at_call 14; refine hO.mono ?_; rintro e w1 ⟨rfl, rfl⟩; clear hO)
          | (go_at_call 30; refine hF.mono ?_; rintro e w2 ⟨rfl, h1, h2⟩; have H1 := Lib.hid h1; have H2 := Lib.hid h2; clear h1 h2 hF))
        go_ret
        rw [HS.out]
        exact ⟨rfl, H1.out, H2.out⟩
    · obtain ⟨k, rfl⟩ : ∃ k : Nat, n = k := ⟨n.toNat, by omega⟩
      have hk : k ≤ l.length := by omega
      have hS : textS (k : Int) (some l) = (l.take k, some (l.drop k)) := by show (if _ then _ else _) = _; rw [if_neg hb, Int.toNat_natCast]
      have HS := Lib.hid hS
      have d1 : decide ((k : Int) < 0) = false := decide_eq_false (by omega)
      have d2 : decide ((k : Int) > (l.length : Int)) = false := decide_eq_false (by omega)
      have d3 : decide (l.length < k) = false := decide_eq_false (by omega)
      have hC := sclone_q (l.take k) w (by rw [List.length_take]; omega)
      have Hh := Lib.hid h
      have hex := ext_take l k
      clear h hS hb hF
      go_enter Try.func26, Try.ntmps26
      go_wp2_with (first
        | (go_at_call 14; refine hO.mono ?_; rintro e w1 ⟨rfl, rfl⟩; clear hO)
        | (go_at_call 27; (try rw [hex]); refine hC.mono ?_; rintro e w2 ⟨rfl, hb2⟩; have hR := Hh.out.keep hb2; have x2 : w2.cell? ⟨E, 0, none⟩ = some (.string ⟨l.toArray⟩) := Lib.cell_of_heap hR 0; have xf2 := Lib.frozen_of_heap hR 0; have HR := Lib.hid hR; have HB := Lib.hid hb2; clear hR hb2 hC))
      go_ret
      rw [HS.out, ext_drop]
      exact ⟨rfl, HR.out.on.1, (GBu.of_below HB.out).trans HR.out.on.2⟩
end Go.Proofs.Ythjlpbglnnebkaa
