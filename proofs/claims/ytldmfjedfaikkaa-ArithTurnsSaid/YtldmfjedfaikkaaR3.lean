/-
  The reference's Not, Add, Neg.
-/
import Derived.Test.YtldmfjedfaikkaaR2
namespace Go.Proofs.Ytldmfjedfaikkaa
open Go.RowKit

/-- The first k of g, then noughts. -/
def upd (g : Nat → Int) (k : Nat) : Nat → Int := fun i => if i < k then g i else 0
theorem upd_set (g : Nat → Int) (k : Nat) (n : Int) (h : n = g k) : (arr (upd g k)).setIfInBounds k (.int .i64 n) = arr (upd g (k + 1)) := by
  rw [arr_set, h]
  congr 1
  funext j
  unfold upd
  by_cases h1 : j = k
  · subst h1; rw [if_pos rfl, if_pos (by omega)]
  · rw [if_neg h1]
    by_cases h2 : j < k
    · rw [if_pos h2, if_pos (by omega)]
    · rw [if_neg h2, if_neg (by omega)]
theorem upd_bits (g : Nat → Int) (h : ∀ i, 0 ≤ g i ∧ g i ≤ 1) (k : Nat) : Bits (upd g k) := fun i => by
  unfold upd; split
  · exact h i
  · omega
theorem upd_zero (g : Nat → Int) : arr (upd g 0) = arr zer := by congr 1

/-- The block at hand: cells of 64 numbers. -/
def Has (w : World) (B : Nat) (f : Nat → Int) : Prop := w.heap[B]? = some (.cells (arr f) 47 (0, 0))
theorem Has.cell {w : World} {B : Nat} {f : Nat → Int} (h : Has w B f) (i : Nat) (hi : i < 64) : w.cell? ⟨B, i, none⟩ = some (.int .i64 (f i)) := by
  rw [cell_of_row w B i _ _ _ h]; exact arr_get f i hi
theorem Has.free {w : World} {B : Nat} {f : Nat → Int} (h : Has w B f) (i : Nat) : w.frozen? ⟨B, i, none⟩ = false := frozen_of_row w B i _ _ h
theorem Has.set {w : World} {B : Nat} {f : Nat → Int} (h : Has w B f) (i : Nat) (v : Value) : (w.setCell ⟨B, i, none⟩ v).heap[B]? = some (.cells ((arr f).setIfInBounds i v) 47 (0, 0)) := heap_setCell_same w B i _ _ _ h
theorem Has.upd {w : World} {B : Nat} {g : Nat → Int} {k : Nat} (h : Has w B (upd g k)) (n : Int) (hn : n = g k) : Has (w.setCell ⟨B, k, none⟩ (.int .i64 n)) B (upd g (k + 1)) := by
  unfold Has; rw [h.set, upd_set g k n hn]
theorem has_new (w : World) (f : Nat → Int) : Has (w.alloc (.cells (arr f) 47)) w.heap.size f := heap_alloc_last w _
theorem has_zero {w : World} {B : Nat} (g : Nat → Int) (h : Has w B zer) : Has w B (upd g 0) := by unfold Has; rw [upd_zero]; exact h
theorem has_grown {w w' : World} {B : Nat} {f : Nat → Int} (h : Has w B f) (hg : Grown w w') : Has w' B f := grown_block hg h
/-- The block is one of the call's own. -/
theorem grown_set {W w : World} (h : Grown W w) {B : Nat} (hB : W.heap.size ≤ B) (k : Nat) (v : Value) : Grown W (w.setCell ⟨B, k, none⟩ v) := h.setCell hB v

theorem ret_int' {k : IntKind} {a b : Int} {p : Prop} (h : a = b) (hp : p) : Ending.returned (.int k a) = .returned (.int k b) ∧ p := ⟨by rw [h], hp⟩

def gnot (a : Int) (i : Nat) : Int := 1 - bt a i
theorem gnot_bd (a : Int) (i : Nat) : 0 ≤ gnot a i ∧ gnot a i ≤ 1 := by have := bt_nn a i; unfold gnot; omega
theorem gnot_bt (a : Int) (i : Nat) : gnot a i = bt (-a - 1) i := by unfold gnot bt; rw [bt_not]; omega

set_option maxHeartbeats 1000000 in
theorem not_any (a : Int) (w : World) : Calls Try.prog 40 #[.int .i64 a] w fun e w' => e = .returned (.int .i64 (wrap64 (-a - 1))) ∧ Grown w w' := by
  go_enter Try.func40, Try.ntmps40
  go_wp2_with (first | (refine wpList_build47 rfl rfl ?_) | (refine wpList_alloc47 rfl rfl ?_) | (refine wpList_store47 rfl _ _ rfl zer zer rfl rfl ?_))
  go_loopw [4] (fun i wr => ∃ k : Nat, k ≤ 64 ∧ i = .int .i64 k ∧ Has wr w.heap.size (upd (gnot a) k) ∧ Grown w wr) (fun i _ => (64 - intOf i).toNat)
  case atStart => exact ⟨0, by omega, rfl, has_zero _ (has_new _ _), (Grown.refl w).alloc _ _⟩
  case round =>
    obtain ⟨k, hk, rfl, hh, hg⟩ := hrel
    by_cases h : k = 64
    · subst h
      have hn : Hid (∀ i, i < 64 → upd (gnot a) 64 i = bt (-a - 1) i) := Lib.hid (fun i hi => by unfold upd; rw [if_pos hi, gnot_bt])
      have hb := Lib.hid (upd_bits (gnot a) (gnot_bd a) 64)
      have HH := Lib.hid hh
      have HG := Lib.hid hg
      clear hh hg
      go_wp2_with (first | (refine wpList_load47 rfl _ rfl (upd (gnot a) 64) w.heap.size rfl HH.out ?_) | (go_at_call 43; refine (number_of _ (-a - 1) hb.out hn _).mono ?_; rintro e w' ⟨rfl, rfl⟩))
      go_ret
      exact ⟨rfl, HG.out.alloc _ _⟩
    · have hc := hh.cell k (by omega)
      have hf := hh.free k
      have hd := Lib.hid (hh.upd (1 - bt a k) rfl)
      have HG := Lib.hid (grown_set hg (Nat.le_refl _) k (.int .i64 (1 - bt a k)))
      have hb := bt_nn a k
      clear hh hg
      go_wp2_with (go_at_call 35; refine (rbit_any _ _ (by omega) (by omega) _).mono ?_; rintro e w' ⟨rfl, rfl⟩)
      go_roundw
      case rel => exact ⟨k + 1, by omega, by go_num, hd.out, HG.out⟩
      case measure => simp only [intOf]; omega

def gadd (a b : Int) (i : Nat) : Int := bt (a + b) i
theorem gadd_bd (a b : Int) (i : Nat) : 0 ≤ gadd a b i ∧ gadd a b i ≤ 1 := bt_nn _ i

set_option maxHeartbeats 1000000 in
theorem add_any (a b : Int) (w : World) : Calls Try.prog 26 #[.int .i64 a, .int .i64 b] w fun e w' => e = .returned (.int .i64 (wrap64 (a + b))) ∧ Grown w w' := by
  go_enter Try.func26, Try.ntmps26
  go_wp2_with (first | (refine wpList_build47 rfl rfl ?_) | (refine wpList_alloc47 rfl rfl ?_) | (refine wpList_store47 rfl _ _ rfl zer zer rfl rfl ?_))
  go_loopw [6, 7] (fun c i wr => ∃ k : Nat, k ≤ 64 ∧ i = .int .i64 k ∧ c = .int .i64 (cr a b k) ∧ Has wr w.heap.size (upd (gadd a b) k) ∧ Grown w wr) (fun _ i _ => (64 - intOf i).toNat)
  case atStart => exact ⟨0, by omega, rfl, by rw [cr_zero], has_zero _ (has_new _ _), (Grown.refl w).alloc _ _⟩
  case round =>
    obtain ⟨k, hk, rfl, rfl, hh, hg⟩ := hrel
    by_cases h : k = 64
    · subst h
      have hn : Hid (∀ i, i < 64 → upd (gadd a b) 64 i = bt (a + b) i) := Lib.hid (fun i hi => by unfold upd; rw [if_pos hi]; rfl)
      have hb := Lib.hid (upd_bits (gadd a b) (gadd_bd a b) 64)
      have HH := Lib.hid hh
      have HG := Lib.hid hg
      clear hh hg
      go_wp2_with (first | (refine wpList_load47 rfl _ rfl (upd (gadd a b) 64) w.heap.size rfl HH.out ?_) | (go_at_call 43; refine (number_of _ (a + b) hb.out hn _).mono ?_; rintro e w' ⟨rfl, rfl⟩))
      go_ret
      exact ⟨rfl, HG.out.alloc _ _⟩
    · have hc := hh.cell k (by omega)
      have hf := hh.free k
      have hd := Lib.hid (hh.upd ((bt a k + bt b k + cr a b k) % 2) (cr_bit a b k))
      have HG := Lib.hid (grown_set hg (Nat.le_refl _) k (.int .i64 ((bt a k + bt b k + cr a b k) % 2)))
      have hba := bt_nn a k
      have hbb := bt_nn b k
      have hcr := cr_bd a b k
      have hs := Lib.hid (cr_succ a b k)
      clear hh hg
      go_wp2_with (go_at_call 35; refine (rbit_any _ _ (by omega) (by omega) _).mono ?_; rintro e w' ⟨rfl, rfl⟩)
      go_roundw
      case rel => exact ⟨k + 1, by omega, by go_num, by rw [hs.out], hd.out, HG.out⟩
      case measure => simp only [intOf]; omega

set_option maxHeartbeats 1000000 in
theorem neg_any (a : Int) (w : World) : Calls Try.prog 31 #[.int .i64 a] w fun e w' => e = .returned (.int .i64 (wrap64 (-a))) ∧ Grown w w' := by
  go_enter Try.func31, Try.ntmps31
  go_wp2_with (fail)
  refine (not_any _ _).mono ?_
  rintro e w1 ⟨rfl, h1⟩
  have H1 := Lib.hid h1
  clear h1
  go_wp2_with (fail)
  refine (add_any _ _ _).mono ?_
  rintro e w2 ⟨rfl, h2⟩
  have H2 := Lib.hid h2
  clear h2
  go_wp2_with (fail)
  go_ret
  exact ⟨ret_int (by rw [wrap_add]; congr 1; omega), grown_trans H1.out H2.out⟩
end Go.Proofs.Ytldmfjedfaikkaa
