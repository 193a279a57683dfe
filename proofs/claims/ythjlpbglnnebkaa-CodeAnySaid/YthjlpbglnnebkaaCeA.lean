/-
  Programs as bytes: the reference's numbers and signs.
-/
import Derived.Test.YthjlpbglnnebkaaCdY
import Derived.Deep.RegionWith
namespace Go.Proofs.Ythjlpbglnnebkaa
open Go.RowKit Go.Shelf
set_option linter.unusedVariables false
set_option linter.unusedSimpArgs false

set_option maxRecDepth 100000 in
set_option maxHeartbeats 4000000 in
theorem rsign_c (n : Int) (hn : InG n) (w : World) : Calls Try.prog 16 #[.int .i64 n] w fun e w' => e = .returned (.int .u64 (signQ n : Int)) ∧ w' = w := by
  unfold InG at hn
  by_cases h : n < 0
  · have e : (signQ n : Int) = 2 * -(n + 1) + 1 := by unfold signQ; rw [if_pos h]; omega
    have d : decide (n ≥ 0) = false := decide_eq_false (by omega)
    rw [e]
    clear e
    go_enter Try.func16, Try.ntmps16
    go_wp2
    go_ret
    exact ⟨rfl, rfl⟩
  · have e : (signQ n : Int) = 2 * n := by unfold signQ; rw [if_neg h]; omega
    have d : decide (n ≥ 0) = true := decide_eq_true (by omega)
    rw [e]
    clear e
    go_enter Try.func16, Try.ntmps16
    go_wp2
    go_ret
    exact ⟨rfl, rfl⟩
set_option maxRecDepth 100000 in
set_option maxHeartbeats 4000000 in
theorem runsign_c (n : Nat) (hn : n < 18446744073709551616) (w : World) : Calls Try.prog 18 #[.int .u64 (n : Int)] w fun e w' => e = .returned (.int .i64 (unsQ n)) ∧ w' = w := by
  by_cases h : n % 2 = 1
  · have e : unsQ n = -((n : Int) / 2) - 1 := by unfold unsQ; rw [if_pos h]; omega
    have d : ((n : Int) % 2 == 0) = false := by simp; omega
    rw [e]
    clear e h
    go_enter Try.func18, Try.ntmps18
    go_wp2
    go_ret
    exact ⟨rfl, rfl⟩
  · have e : unsQ n = (n : Int) / 2 := by unfold unsQ; rw [if_neg h]; omega
    have d : ((n : Int) % 2 == 0) = true := by simp; omega
    rw [e]
    clear e h
    go_enter Try.func18, Try.ntmps18
    go_wp2
    go_ret
    exact ⟨rfl, rfl⟩
/-- One byte that is told as a text. -/
theorem str_one {w : World} {g : Nat} (b : UInt8) (n : Int) (hn : n = (b.toNat : Int)) (h : w.heap[g]? = some (.cells #[.int .u8 n] 5 (0, 0))) : (convert 51 9 (.slice (some ⟨g, 0, none⟩) 1 1)).run Try.prog w = .ok (.string ⟨#[b]⟩) w :=
  str_back (base := 0) (v := .slice (some ⟨g, 0, none⟩) 1 1) (l := [b]) ⟨rfl, .inr ⟨g, 1, _, rfl, Nat.zero_le _, h, Nat.le_refl _, by decide, rfl, by rw [hn]; rfl⟩⟩
theorem ba_two (l1 l2 : List UInt8) : (⟨l1.toArray⟩ : ByteArray) ++ (⟨l2.toArray⟩ : ByteArray) = ⟨(l1 ++ l2).toArray⟩ := by
  apply ByteArray.ext
  simp
set_option maxRecDepth 100000 in
set_option maxHeartbeats 4000000 in
theorem rnum_f : ∀ (f k : Nat) (hk : k < 18446744073709551616) (hf : k < 128 ^ (f + 1)) (hf9 : f ≤ 9) (w : World), Calls Try.prog 13 #[.int .u64 (k : Int)] w fun e w' => e = .returned (.string ⟨(cdF f k).toArray⟩) ∧ Below w.heap.size w w'
  | f, k, hk, hf, hf9, w => by
    by_cases hlt : k < 128
    · have hcs : cdF f k = [UInt8.ofNat k] := cdF_small hlt
      rw [hcs]
      have d : decide ((k : Int) < 128) = true := decide_eq_true (by omega)
      have hw8 : IntKind.u8.wrap (k : Int) = (k : Int) := by rw [IntKind.wrap_u8]; omega
      have hu : (k : Int) = ((UInt8.ofNat k).toNat : Int) := by
        have : (UInt8.ofNat k).toNat = k := by simp [UInt8.toNat_ofNat']; omega
        rw [this]
      obtain ⟨X, hX, hbX, hzX, h0X⟩ := gr_one w #[.int .u8 (k : Int)] 5
      have hc := str_one (UInt8.ofNat k) (k : Int) hu h0X
      have HbX := Lib.hid hbX
      rw [hX] at hc
      have HX := Lib.hid hX
      clear hX hbX hzX h0X hu hcs hf
      go_enter Try.func13, Try.ntmps13
      go_wp2_with fail
      go_ret
      exact ⟨rfl, by rw [← HX.out]; exact HbX.out⟩
    · obtain ⟨f', hf', hcd, hlt'⟩ := cdF_big (by omega) hf
      subst hf'
      rw [hcd]
      have hN := rnum_f f' (k / 128) (by omega) hlt' (by omega)
      obtain ⟨m, hm⟩ : ∃ m, m = cdF f' (k / 128) := ⟨_, rfl⟩
      have hml : m.length ≤ 10 := by rw [hm]; have := cdF_len f' (k / 128); omega
      rw [← hm] at hN ⊢
      have d : decide ((k : Int) < 128) = false := decide_eq_false (by omega)
      obtain ⟨b, hb⟩ : ∃ b, b = UInt8.ofNat (128 + k % 128) := ⟨_, rfl⟩
      obtain ⟨dg, hdg⟩ : ∃ dg, dg = k % 128 := ⟨_, rfl⟩
      obtain ⟨q, hq⟩ : ∃ q, q = k / 128 := ⟨_, rfl⟩
      obtain ⟨bn, hbn⟩ : ∃ bn : Int, bn = 128 + (dg : Int) := ⟨_, rfl⟩
      have hu : bn = (b.toNat : Int) := by
        have : (UInt8.ofNat (128 + k % 128)).toNat = 128 + k % 128 := by simp [UInt8.toNat_ofNat']; omega
        rw [hb, this]; omega
      rw [← hb]
      rw [← hq] at hN hm
      have htm : (k : Int).tmod 128 = (dg : Int) := by rw [Int.tmod_eq_emod_of_nonneg (by omega), hdg]; omega
      have htm2 : (k : Int) % 128 = (dg : Int) := by omega
      have hw1 : IntKind.u64.wrap (128 + (dg : Int)) = bn := by rw [IntKind.wrap_u64]; omega
      have hw8 : IntKind.u8.wrap bn = bn := by rw [IntKind.wrap_u8]; omega
      have hqd : (k : Int) / 128 = (q : Int) := by omega
      have hwq : IntKind.u64.wrap (q : Int) = (q : Int) := by rw [IntKind.wrap_u64]; omega
      have HU := Lib.hid hu
      have HQ := Lib.hid hN
      have hc1 : (convert 51 9 (.slice (some ⟨w.heap.size, 0, none⟩) 1 1)).run Try.prog (w.alloc (.cells #[.int .u8 bn] 5)).drew = .ok (.string ⟨#[b]⟩) (w.alloc (.cells #[.int .u8 bn] 5)).drew := str_one b bn hu (heap_alloc_new w _)
      obtain ⟨X, hX⟩ : ∃ X, X = (w.alloc (.cells #[.int .u8 bn] 5)).drew := ⟨_, rfl⟩
      have hXh : X.heap[w.heap.size]? = some (.cells #[.int .u8 bn] 5 (0, 0)) := by rw [hX]; exact heap_alloc_new w _
      have hXb : Below w.heap.size w X := by
        rw [hX]
        exact below_dr ((Below.refl w.heap.size w).alloc (Nat.le_refl _) (.cells #[.int .u8 bn] 5)) 1
      have hXs : w.heap.size < X.heap.size := gr_in hXh
      have HX1 : Hid (∀ w3, Below X.heap.size X w3 → Below w.heap.size w w3 ∧ (convert 51 9 (.slice (some ⟨w.heap.size, 0, none⟩) 1 1)).run Try.prog w3 = .ok (.string ⟨#[b]⟩) w3) := Lib.hid fun w3 h3 => ⟨hXb.trans (h3.mono (Nat.le_of_lt hXs)), str_one b bn hu ((h3.block _ hXs).trans hXh)⟩
      have HX2 : Hid (∀ w3, Below w.drew.heap.size w.drew w3 → Below w.heap.size w w3 ∧ (convert 51 9 (.slice (some ⟨w3.heap.size, 0, none⟩) 1 1)).run Try.prog (w3.alloc (.cells #[.int .u8 bn] 5)) = .ok (.string ⟨#[b]⟩) (w3.alloc (.cells #[.int .u8 bn] 5))) := Lib.hid fun w3 h3 => ⟨⟨h3.os, h3.tape, h3.output, h3.size, h3.block⟩, str_one b bn hu (heap_alloc_new w3 _)⟩
      have hN1 := hN X
      have hN2 := hN w.drew
      have HXe := Lib.hid hX
      rw [← hX] at hc1
      rw [hX] at hc1 hN1
      clear hm hb hcd hlt' hf hu hdg hq hbn hlt hX hXh hXb hXs hN
      go_enter Try.func13, Try.ntmps13
      go_upto_region 3 with fail
      go_region_with (go_at_call 13; first
        | (rw [← HXe.out] at hN1; rw [← HXe.out]; refine hN1.mono ?_; rintro e w3 ⟨rfl, h3⟩; obtain ⟨hb3, hc3⟩ := HX1.out w3 h3; have HB3 := Lib.hid hb3; clear h3 hb3 hc1 hN1 hN2)
        | (refine hN2.mono ?_; rintro e w3 ⟨rfl, h3⟩; obtain ⟨hb3, hc3⟩ := HX2.out w3 h3; have HB3 := Lib.hid hb3; clear h3 hb3 hc1 hN1 hN2))
      all_goals
        go_wp2
        go_ret
        refine ⟨by rw [show (⟨#[b]⟩ : ByteArray) = ⟨([b] : List UInt8).toArray⟩ from rfl, ba_two]; rfl, ?_⟩
        first
          | exact HB3.out
          | exact HB3.out.alloc HB3.out.size _
theorem rnum_c (k : Nat) (hk : k < 18446744073709551616) (w : World) : Calls Try.prog 13 #[.int .u64 (k : Int)] w fun e w' => e = .returned (.string ⟨(cdN k).toArray⟩) ∧ Below w.heap.size w w' :=
  rnum_f 9 k hk (by simp; omega) (Nat.le_refl _) w
end Go.Proofs.Ythjlpbglnnebkaa
