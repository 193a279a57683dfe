/-
  LexLong: the law's walk.
-/
import Derived.Test.YtmoeokfjfnegmaaDoorD2
import Derived.Laws.IdiomStrings
namespace Go.Proofs.YtmoeokfjfnegmaaDoor
open Go.RowKit

theorem and3 (n : Int) : bits .and .i64 n 3 = n % 4 := by
  have e : (BitVec.ofInt 64 n &&& BitVec.ofInt 64 3).toNat = (n % 4).toNat := by
    have h3 : (BitVec.ofInt 64 3).toNat = 2 ^ 2 - 1 := by decide
    rw [BitVec.toNat_and, h3, Nat.and_two_pow_sub_one_eq_mod, BitVec.toNat_ofInt]
    omega
  show IntKind.i64.wrap ((BitVec.ofInt 64 n &&& BitVec.ofInt 64 3).toNat : Int) = _
  rw [e, IntWalk.i64_in _ (by omega)]
  omega

theorem flt_keep1 {w2 w3 : World} {p q : Value} (hb3 : Below (w2.alloc (.cells #[p, q] 25)).heap.size (w2.alloc (.cells #[p, q] 25)) w3) : w3.cell? ⟨w2.heap.size, 0, none⟩ = some p ∧ w3.cell? ⟨w2.heap.size, 1, none⟩ = some q := by
  have h2 : w2.heap.size < (w2.alloc (.cells #[p, q] 25)).heap.size := by simp
  refine ⟨?_, ?_⟩
  · rw [hb3.cell (p := ⟨w2.heap.size, 0, none⟩) h2]; exact (two_new _ _ _).1
  · rw [hb3.cell (p := ⟨w2.heap.size, 1, none⟩) h2]; exact (two_new _ _ _).2

def blank (M : Nat) : ByteArray := ⟨(List.replicate M (32 : UInt8)).toArray⟩
theorem blank_size (M : Nat) : (blank M).size = M := by unfold blank; show (List.replicate M (32 : UInt8)).toArray.size = M; simp
theorem blank_skip (M : Nat) : skipN false (List.replicate M (32 : UInt8)) = M := by
  induction M with
  | zero => rfl
  | succ M ih => rw [List.replicate_succ, skipN, if_pos (by decide), ih]
theorem blank_lex (M : Nat) : lexS (blank M).data.toList = ([], none) := by
  show lexS (List.replicate M (32 : UInt8)) = _
  unfold lexS
  rw [blank_skip, List.drop_of_length_le (by simp), lexR_nil]
theorem lex_blank (M : Nat) (w : World) (hM : M ≤ 1048576) (hr : Rng w) :
    Calls Tryd.prog 9 #[.string (blank M)] w fun e w' => ∃ g cap, e = .returned (.tuple #[.slice (some ⟨g, 0, none⟩) 1 cap, .agg #[.int .i64 0, .int .i64 0]]) ∧ Below w.heap.size w w' :=
  (lex_tks (blank M) w (by rw [blank_size]; exact hM) hr [] (blank_lex M)).mono fun _ _ ⟨g, cap, he, _, _, hb⟩ => ⟨g, cap, he, hb⟩

/-- So many are written, so many are not. -/
def half (i M : Nat) : List Value := List.replicate i (.int .u8 32) ++ List.replicate (M - i) (.int .u8 0)
theorem half_set (i M : Nat) (h : i < M) : (half i M).set i (.int .u8 32) = half (i + 1) M := by
  unfold half
  rw [List.set_append_right _ _ (by simp)]
  have e : M - i = (M - (i + 1)) + 1 := by omega
  rw [e, List.replicate_succ, List.length_replicate, Nat.sub_self, List.set_cons_zero, List.replicate_succ', List.append_assoc]
  rfl
theorem half_at (i M : Nat) (h : i < M) : (half i M)[i]? = some (.int .u8 0) := by
  unfold half
  rw [List.getElem?_append_right (by simp), List.length_replicate, Nat.sub_self, List.getElem?_replicate, if_pos (by omega)]
theorem half_zero (M : Nat) : half 0 M = List.replicate M (.int .u8 0) := by simp [half]
theorem half_full (M : Nat) : half M M = List.replicate M (.int .u8 32) := by simp [half]

theorem info5 : (Tryd.prog.info? 5).map (fun i => (i.zero, i.size, i.bytes)) = some (some (.int .u8 0), 1, 1) := by kernel_rfl
theorem conv_blank (w : World) (b g M : Nat) (h : w.ownsRow b 5 1 (.slice (some ⟨g, 0, none⟩) M M) M (half M M)) : (convert 34 9 (.slice (some ⟨g, 0, none⟩) M M)).run Tryd.prog w = .ok (.string (blank M)) w := by
  have hc := run_convert_bytes_back (P := Tryd.prog) w 34 9 5 ⟨g, 0, none⟩ M (List.replicate M (32 : UInt8)) Tryd.underlying34 Tryd.underlying5 Tryd.underlying9 (fun j hj => by
    rw [List.length_replicate] at hj
    have hcell := h.cells (g := g) rfl j (.int .u8 32) (by rw [half_full, List.getElem?_replicate, if_pos hj])
    rw [hcell]
    simp)
  rw [List.length_replicate] at hc
  exact hc

set_option maxHeartbeats 2000000 in
theorem long_law (n : Int) (w : World) (hr : Rng w) : Calls Tryd.prog 7 #[.int .i64 n] w fun e w' => e = .returned (.bool true) ∧ Below w.heap.size w w' := by
  have hr2 := hr.two
  have HR := Lib.hid hr
  clear hr
  obtain ⟨i0, hi, hz0, hz1, hz2⟩ := info_parts info5
  have Hi := Lib.hid hi
  have Hz0 := Lib.hid hz0
  have Hz1 := Lib.hid hz1
  have Hz2 := Lib.hid hz2
  obtain ⟨K, hK⟩ : ∃ K : Nat, bits .and .i64 n 3 = K := ⟨(n % 4).toNat, by rw [and3]; omega⟩
  have hK3 : K ≤ 3 := by rw [and3] at hK; omega
  obtain ⟨M, hM⟩ : ∃ M : Nat, 1048576 + (K : Int) = (M : Int) := ⟨1048576 + K, by omega⟩
  have hM1 : M ≤ 1048579 := by omega
  have hb2 : i0.bytes * M ≤ 281474976710656 := by rw [hz2]; omega
  have HB := Lib.hid hb2
  clear hi hz0 hz1 hz2 hb2
  go_enter Tryd.func7, Tryd.ntmps7
  go_wp2_with (at_make; go_must (refine wpList_make_full _ rfl (.tmp 9) (.tmp 9) 34 rfl w.heap.size 5 i0 (.int .u8 0) 1 Tryd.underlying34 Hi.out Hz0.out Hz1.out .i64 .i64 _ _ M rfl rfl rfl rfl HB.out (by unfold maxLen; omega) (Nat.le_refl _) ?_); intro w1 hown hgrow; replace hown := Lib.hid hown; replace hgrow := Lib.hid hgrow)
  have h0 : w1.ownsRow w.heap.size 5 1 (.slice (some ⟨w.heap.size, 0, none⟩) M M) M (half 0 M) := by
    have h := hown.out
    have e : (madeCells (Value.int .u8 0).cells (M * 1)).toList = half 0 M := by
      rw [Nat.mul_one, half_zero]
      exact toList_madeCells_one (.int .u8 0) M
    rw [e] at h
    exact h
  have hb0 : Below w.heap.size w w1 := (Below.refl _ _).grown hgrow.out (Nat.le_refl _) (fun k hk => by cases hk)
  replace h0 := Lib.hid h0
  clear hown hgrow
  go_loopw [4] (fun a wr => ∃ i : Nat, i ≤ M ∧ a = .int .i64 i ∧ Hid (wr.ownsRow w.heap.size 5 1 (.slice (some ⟨w.heap.size, 0, none⟩) M M) M (half i M)) ∧ Below w.heap.size w wr) (fun a _ => M - (intOf a).toNat)
  case atStart => exact ⟨0, Nat.zero_le _, rfl, h0, hb0⟩
  case round =>
    obtain ⟨i, hiM, rfl, hown, hb⟩ := hrel
    clear h0 hb0
    by_cases hlt : i < M
    · have hc : wr.cell? ⟨w.heap.size, i, none⟩ = some (.int .u8 0) := (hown.out.cellAt i (by omega)).trans (half_at i M hlt)
      have hf : wr.frozen? ⟨w.heap.size, i, none⟩ = false := hown.out.frozenAt i
      have H1 := Lib.hid (hown.out.stored i (.int .u8 32)).1
      rw [half_set i M hlt] at H1
      clear hown
      go_wp2
      go_roundw
      case rel => exact ⟨i + 1, by omega, by go_num, H1, hb.setCell (Nat.le_refl _) _⟩
      case measure => simp [intOf]; omega
    · have e : i = M := by omega
      subst e
      have hcv := conv_blank wr _ _ _ hown.out
      have hrr : Rng wr := HR.out.below hb hr2
      clear hown
      by_cases hK0 : K = 0
      · subst hK0
        go_wp2_with (first | (go_at_call 9; refine (lex_blank _ _ (by omega) hrr).mono ?_; rintro e w2 ⟨g, cap, rfl, hb2⟩) | (go_at_call 11; refine (awake_any _ ((hrr.up hb2).up ((Below.refl _ _).alloc (Nat.le_refl _) _))).mono ?_; rintro e w3 ⟨rfl, hb3⟩; obtain ⟨k0, k1⟩ := flt_keep1 hb3))
        go_ret
        exact ⟨rfl, below_alloc (hb.trans (hb2.mono hb.size)) (Nat.le_refl _) hb3⟩
      · have t1 : ((K : Int) == 0) = false := by simp; omega
        go_wp2_with (first | (go_at_call 9; refine (lex_long (blank _) _ (by rw [blank_size]; unfold maxLen; omega) (by rw [blank_size]; omega)).mono ?_; rintro e w2 ⟨rfl, hb2⟩) | (go_at_call 11; refine (awake_any _ ((hrr.up hb2).up ((Below.refl _ _).alloc (Nat.le_refl _) _))).mono ?_; rintro e w3 ⟨rfl, hb3⟩; obtain ⟨k0, k1⟩ := flt_keep1 hb3))
        go_ret
        exact ⟨rfl, below_alloc (hb.trans (hb2.mono hb.size)) (Nat.le_refl _) hb3⟩
end Go.Proofs.YtmoeokfjfnegmaaDoor
