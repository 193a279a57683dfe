/-
  The reference's logic and shift, walked.
-/
import Derived.Test.YtldmfjedfaikkaaR8
namespace Go.Proofs.Ytldmfjedfaikkaa
open Go.RowKit

def gand (a b : Int) (i : Nat) : Int := bt a i * bt b i
theorem gand_bd (a b : Int) (i : Nat) : 0 ≤ gand a b i ∧ gand a b i ≤ 1 := by
  unfold gand
  rcases bt_01 a i with h | h <;> rcases bt_01 b i with h2 | h2 <;> rw [h, h2] <;> decide

set_option maxHeartbeats 1000000 in
theorem logic_and (a b : Int) (w : World) : Calls Try.prog 33 #[.int .i64 9, .int .i64 a, .int .i64 b] w fun e w' => e = .returned (.int .i64 (bits .and .i64 a b)) ∧ Grown w w' := by
  go_enter Try.func33, Try.ntmps33
  go_wp2_with (first | (refine wpList_build47 rfl rfl ?_) | (refine wpList_alloc47 rfl rfl ?_) | (refine wpList_store47 rfl _ _ rfl zer zer rfl rfl ?_))
  go_loopw [8] (fun i wr => ∃ k : Nat, k ≤ 64 ∧ i = .int .i64 k ∧ Has wr w.heap.size (upd (gand a b) k) ∧ Grown w wr) (fun i _ => (64 - intOf i).toNat)
  case atStart => exact ⟨0, by omega, rfl, has_zero _ (has_new _ _), (Grown.refl w).alloc _ _⟩
  case round =>
    obtain ⟨k, hk, rfl, hh, hg⟩ := hrel
    by_cases h : k = 64
    · subst h
      have hn : Hid (∀ i, i < 64 → upd (gand a b) 64 i = bt (bits .and .i64 a b) i) := Lib.hid (fun i hi => by unfold upd; rw [if_pos hi, bt_and a b i hi]; rfl)
      have hb := Lib.hid (upd_bits (gand a b) (gand_bd a b) 64)
      have HH := Lib.hid hh
      have HG := Lib.hid hg
      clear hh hg
      go_wp2_with (first | (refine wpList_load47 rfl _ rfl (upd (gand a b) 64) w.heap.size rfl HH.out ?_) | (go_at_call 43; refine (number_of _ (bits .and .i64 a b) hb.out hn _).mono ?_; rintro e w' ⟨rfl, rfl⟩))
      go_ret
      exact ⟨ret_int (bits_wrapped .and a b (by simp)), HG.out.alloc _ _⟩
    · have hc := hh.cell k (by omega)
      have hf := hh.free k
      have hba := bt_nn a k
      have hbb := bt_nn b k
      have hm : 0 ≤ bt a k * bt b k ∧ bt a k * bt b k ≤ 1 := gand_bd a b k
      have hd := Lib.hid (hh.upd (bt a k * bt b k) rfl)
      have HG := Lib.hid (grown_set hg (Nat.le_refl _) k (.int .i64 (bt a k * bt b k)))
      clear hh hg
      go_wp2_with (go_at_call 35; refine (rbit_any _ _ (by omega) (by omega) _).mono ?_; rintro e w' ⟨rfl, rfl⟩)
      go_roundw
      case rel => exact ⟨k + 1, by omega, by go_num, hd.out, HG.out⟩
      case measure => simp only [intOf]; omega

def gor (a b : Int) (i : Nat) : Int := bt a i + bt b i - bt a i * bt b i
theorem gor_bd (a b : Int) (i : Nat) : 0 ≤ gor a b i ∧ gor a b i ≤ 1 := by
  unfold gor
  rcases bt_01 a i with h | h <;> rcases bt_01 b i with h2 | h2 <;> rw [h, h2] <;> decide

set_option maxHeartbeats 1000000 in
theorem logic_or (a b : Int) (w : World) : Calls Try.prog 33 #[.int .i64 10, .int .i64 a, .int .i64 b] w fun e w' => e = .returned (.int .i64 (bits .or .i64 a b)) ∧ Grown w w' := by
  go_enter Try.func33, Try.ntmps33
  go_wp2_with (first | (refine wpList_build47 rfl rfl ?_) | (refine wpList_alloc47 rfl rfl ?_) | (refine wpList_store47 rfl _ _ rfl zer zer rfl rfl ?_))
  go_loopw [8] (fun i wr => ∃ k : Nat, k ≤ 64 ∧ i = .int .i64 k ∧ Has wr w.heap.size (upd (gor a b) k) ∧ Grown w wr) (fun i _ => (64 - intOf i).toNat)
  case atStart => exact ⟨0, by omega, rfl, has_zero _ (has_new _ _), (Grown.refl w).alloc _ _⟩
  case round =>
    obtain ⟨k, hk, rfl, hh, hg⟩ := hrel
    by_cases h : k = 64
    · subst h
      have hn : Hid (∀ i, i < 64 → upd (gor a b) 64 i = bt (bits .or .i64 a b) i) := Lib.hid (fun i hi => by unfold upd; rw [if_pos hi, bt_or a b i hi]; rfl)
      have hb := Lib.hid (upd_bits (gor a b) (gor_bd a b) 64)
      have HH := Lib.hid hh
      have HG := Lib.hid hg
      clear hh hg
      go_wp2_with (first | (refine wpList_load47 rfl _ rfl (upd (gor a b) 64) w.heap.size rfl HH.out ?_) | (go_at_call 43; refine (number_of _ (bits .or .i64 a b) hb.out hn _).mono ?_; rintro e w' ⟨rfl, rfl⟩))
      go_ret
      exact ⟨ret_int (bits_wrapped .or a b (by simp)), HG.out.alloc _ _⟩
    · have hc := hh.cell k (by omega)
      have hf := hh.free k
      have hba := bt_nn a k
      have hbb := bt_nn b k
      have hm : 0 ≤ bt a k * bt b k ∧ bt a k * bt b k ≤ 1 := gand_bd a b k
      have hd := Lib.hid (hh.upd (bt a k + bt b k - bt a k * bt b k) rfl)
      have HG := Lib.hid (grown_set hg (Nat.le_refl _) k (.int .i64 (bt a k + bt b k - bt a k * bt b k)))
      clear hh hg
      go_wp2_with (go_at_call 35; refine (rbit_any _ _ (by omega) (by omega) _).mono ?_; rintro e w' ⟨rfl, rfl⟩)
      go_roundw
      case rel => exact ⟨k + 1, by omega, by go_num, hd.out, HG.out⟩
      case measure => simp only [intOf]; omega

def gxor (a b : Int) (i : Nat) : Int := (bt a i + bt b i) % 2
theorem gxor_bd (a b : Int) (i : Nat) : 0 ≤ gxor a b i ∧ gxor a b i ≤ 1 := by
  unfold gxor
  rcases bt_01 a i with h | h <;> rcases bt_01 b i with h2 | h2 <;> rw [h, h2] <;> decide

set_option maxHeartbeats 1000000 in
theorem logic_xor (a b : Int) (w : World) : Calls Try.prog 33 #[.int .i64 11, .int .i64 a, .int .i64 b] w fun e w' => e = .returned (.int .i64 (bits .xor .i64 a b)) ∧ Grown w w' := by
  go_enter Try.func33, Try.ntmps33
  go_wp2_with (first | (refine wpList_build47 rfl rfl ?_) | (refine wpList_alloc47 rfl rfl ?_) | (refine wpList_store47 rfl _ _ rfl zer zer rfl rfl ?_))
  go_loopw [8] (fun i wr => ∃ k : Nat, k ≤ 64 ∧ i = .int .i64 k ∧ Has wr w.heap.size (upd (gxor a b) k) ∧ Grown w wr) (fun i _ => (64 - intOf i).toNat)
  case atStart => exact ⟨0, by omega, rfl, has_zero _ (has_new _ _), (Grown.refl w).alloc _ _⟩
  case round =>
    obtain ⟨k, hk, rfl, hh, hg⟩ := hrel
    by_cases h : k = 64
    · subst h
      have hn : Hid (∀ i, i < 64 → upd (gxor a b) 64 i = bt (bits .xor .i64 a b) i) := Lib.hid (fun i hi => by unfold upd; rw [if_pos hi, bt_xor a b i hi]; rfl)
      have hb := Lib.hid (upd_bits (gxor a b) (gxor_bd a b) 64)
      have HH := Lib.hid hh
      have HG := Lib.hid hg
      clear hh hg
      go_wp2_with (first | (refine wpList_load47 rfl _ rfl (upd (gxor a b) 64) w.heap.size rfl HH.out ?_) | (go_at_call 43; refine (number_of _ (bits .xor .i64 a b) hb.out hn _).mono ?_; rintro e w' ⟨rfl, rfl⟩))
      go_ret
      exact ⟨ret_int (bits_wrapped .xor a b (by simp)), HG.out.alloc _ _⟩
    · have hc := hh.cell k (by omega)
      have hf := hh.free k
      have hba := bt_nn a k
      have hbb := bt_nn b k
      have hm : 0 ≤ bt a k * bt b k ∧ bt a k * bt b k ≤ 1 := gand_bd a b k
      have hd := Lib.hid (hh.upd ((bt a k + bt b k) % 2) rfl)
      have HG := Lib.hid (grown_set hg (Nat.le_refl _) k (.int .i64 ((bt a k + bt b k) % 2)))
      clear hh hg
      go_wp2_with (go_at_call 35; refine (rbit_any _ _ (by omega) (by omega) _).mono ?_; rintro e w' ⟨rfl, rfl⟩)
      go_roundw
      case rel => exact ⟨k + 1, by omega, by go_num, hd.out, HG.out⟩
      case measure => simp only [intOf]; omega

theorem rbit_at (a i : Int) (j : Nat) (h : i = (j : Int)) (hj : j < 64) (w : World) : Calls Try.prog 35 #[.int .i64 a, .int .i64 i] w fun e w' => e = .returned (.int .i64 (bt a j)) ∧ w = w' := by
  subst h
  exact (rbit_any a (j : Int) (by omega) (by omega) w).mono fun _ _ ⟨he, hw⟩ => ⟨by rw [he, Int.toNat_natCast], hw⟩

def gshl (a : Int) (n i : Nat) : Int := if n ≤ i then bt a (i - n) else 0
theorem gshl_bd (a : Int) (n i : Nat) : 0 ≤ gshl a n i ∧ gshl a n i ≤ 1 := by
  unfold gshl; split
  · exact bt_nn _ _
  · decide
theorem gshl_bt (a : Int) (n i : Nat) : gshl a n i = bt (a * 2 ^ n) i := by
  unfold gshl; split
  · rename_i h; rw [bt_shl a n i h]
  · rename_i h; rw [bt_shl0 a n i (by omega)]
def gshr (a : Int) (n : Nat) (above : Int) (i : Nat) : Int := if i + n < 64 then bt a (i + n) else above
theorem gshr_bd (a : Int) (n : Nat) (above : Int) (h : 0 ≤ above ∧ above ≤ 1) (i : Nat) : 0 ≤ gshr a n above i ∧ gshr a n above i ≤ 1 := by
  unfold gshr; split
  · exact bt_nn _ _
  · exact h

set_option maxHeartbeats 1000000 in
theorem shift_left (a : Int) (n : Nat) (hn63 : n ≤ 63) (w : World) : Calls Try.prog 34 #[.int .i64 a, .int .i64 (n : Int), .bool true, .int .i64 0] w fun e w' => e = .returned (.int .i64 (wrap64 (a * 2 ^ n))) ∧ Grown w w' := by
  go_enter Try.func34, Try.ntmps34
  go_wp2_with (first | (refine wpList_build47 rfl rfl ?_) | (refine wpList_alloc47 rfl rfl ?_) | (refine wpList_store47 rfl _ _ rfl zer zer rfl rfl ?_))
  go_loopw [10] (fun i wr => ∃ k : Nat, k ≤ 64 ∧ i = .int .i64 k ∧ Has wr w.heap.size (upd (gshl a n) k) ∧ Grown w wr) (fun i _ => (64 - intOf i).toNat)
  case atStart => exact ⟨0, by omega, rfl, has_zero _ (has_new _ _), (Grown.refl w).alloc _ _⟩
  case round =>
    obtain ⟨k, hk, rfl, hh, hg⟩ := hrel
    by_cases h : k = 64
    · subst h
      have hn : Hid (∀ i, i < 64 → upd (gshl a n) 64 i = bt (a * 2 ^ n) i) := Lib.hid (fun i hi => by unfold upd; rw [if_pos hi]; exact gshl_bt a n i)
      have hb := Lib.hid (upd_bits (gshl a n) (gshl_bd a n) 64)
      have HH := Lib.hid hh
      have HG := Lib.hid hg
      clear hh hg
      go_wp2_with (first | (refine wpList_load47 rfl _ rfl (upd (gshl a n) 64) w.heap.size rfl HH.out ?_) | (go_at_call 43; refine (number_of _ (a * 2 ^ n) hb.out hn _).mono ?_; rintro e w' ⟨rfl, rfl⟩))
      go_ret
      exact ⟨rfl, HG.out.alloc _ _⟩
    · have hc := hh.cell k (by omega)
      have hf := hh.free k
      by_cases hl : n ≤ k
      · have hd := Lib.hid (hh.upd (bt a (k - n)) (by unfold gshl; rw [if_pos hl]))
        have HG := Lib.hid (grown_set hg (Nat.le_refl _) k (.int .i64 (bt a (k - n))))
        have hbb := bt_nn a (k - n)
        clear hh hg
        go_wp2_with (go_at_call 35; refine (rbit_at _ _ (k - n) (by omega) (by omega) _).mono ?_; rintro e w' ⟨rfl, rfl⟩)
        go_roundw
        case rel => exact ⟨k + 1, by omega, by go_num, hd.out, HG.out⟩
        case measure => simp only [intOf]; omega
      · have hd := Lib.hid (hh.upd (0) (by unfold gshl; rw [if_neg hl]))
        have HG := Lib.hid (grown_set hg (Nat.le_refl _) k (.int .i64 (0)))
        clear hh hg
        go_wp2
        go_roundw
        case rel => exact ⟨k + 1, by omega, by go_num, hd.out, HG.out⟩
        case measure => simp only [intOf]; omega

set_option maxHeartbeats 1000000 in
theorem shift_right (a : Int) (n : Nat) (hn63 : n ≤ 63) (above : Int) (hab : 0 ≤ above ∧ above ≤ 1) (x : Int) (HX : Hid (∀ i, i < 64 → gshr a n above i = bt x i)) (w : World) : Calls Try.prog 34 #[.int .i64 a, .int .i64 (n : Int), .bool false, .int .i64 above] w fun e w' => e = .returned (.int .i64 (wrap64 (x))) ∧ Grown w w' := by
  go_enter Try.func34, Try.ntmps34
  go_wp2_with (first | (refine wpList_build47 rfl rfl ?_) | (refine wpList_alloc47 rfl rfl ?_) | (refine wpList_store47 rfl _ _ rfl zer zer rfl rfl ?_))
  go_loopw [10] (fun i wr => ∃ k : Nat, k ≤ 64 ∧ i = .int .i64 k ∧ Has wr w.heap.size (upd (gshr a n above) k) ∧ Grown w wr) (fun i _ => (64 - intOf i).toNat)
  case atStart => exact ⟨0, by omega, rfl, has_zero _ (has_new _ _), (Grown.refl w).alloc _ _⟩
  case round =>
    obtain ⟨k, hk, rfl, hh, hg⟩ := hrel
    by_cases h : k = 64
    · subst h
      have hn : Hid (∀ i, i < 64 → upd (gshr a n above) 64 i = bt (x) i) := Lib.hid (fun i hi => by unfold upd; rw [if_pos hi]; exact HX.out i hi)
      have hb := Lib.hid (upd_bits (gshr a n above) (gshr_bd a n above hab) 64)
      have HH := Lib.hid hh
      have HG := Lib.hid hg
      clear hh hg
      go_wp2_with (first | (refine wpList_load47 rfl _ rfl (upd (gshr a n above) 64) w.heap.size rfl HH.out ?_) | (go_at_call 43; refine (number_of _ (x) hb.out hn _).mono ?_; rintro e w' ⟨rfl, rfl⟩))
      go_ret
      exact ⟨rfl, HG.out.alloc _ _⟩
    · have hc := hh.cell k (by omega)
      have hf := hh.free k
      by_cases hl : k + n < 64
      · have hd := Lib.hid (hh.upd (bt a (k + n)) (by unfold gshr; rw [if_pos hl]))
        have HG := Lib.hid (grown_set hg (Nat.le_refl _) k (.int .i64 (bt a (k + n))))
        have hbb := bt_nn a (k + n)
        clear hh hg
        go_wp2_with (go_at_call 35; refine (rbit_at _ _ (k + n) (by omega) (by omega) _).mono ?_; rintro e w' ⟨rfl, rfl⟩)
        go_roundw
        case rel => exact ⟨k + 1, by omega, by go_num, hd.out, HG.out⟩
        case measure => simp only [intOf]; omega
      · have hd := Lib.hid (hh.upd (above) (by unfold gshr; rw [if_neg hl]))
        have HG := Lib.hid (grown_set hg (Nat.le_refl _) k (.int .i64 (above)))
        clear hh hg
        go_wp2
        go_roundw
        case rel => exact ⟨k + 1, by omega, by go_num, hd.out, HG.out⟩
        case measure => simp only [intOf]; omega

theorem gshr_signed (a : Int) (ha : -9223372036854775808 ≤ a ∧ a ≤ 9223372036854775807) (n i : Nat) : gshr a n (bt a 63) i = bt (a / 2 ^ n) i := by
  unfold gshr; rw [bt_shr]; split
  · rfl
  · rw [bt_high a ha (i + n) (by omega)]
theorem gshr_plain (a : Int) (n i : Nat) : gshr a n 0 i = bt (a % 18446744073709551616 / 2 ^ n) i := by
  unfold gshr; rw [bt_shr]; split
  · rename_i h; rw [bt_ulow a (i + n) h]
  · rw [bt_uhigh a (i + n) (by omega)]
end Go.Proofs.Ytldmfjedfaikkaa
