/-
  LexWords: the law's walk.
-/
import Derived.Test.YtmoeokfjfnegmaaDoorD1
namespace Go.Proofs.YtmoeokfjfnegmaaDoor
open Go.RowKit

theorem tks_init {w : World} {g : Nat} {ts : List Tk} {t : Tk} (h : TksAt w g (ts ++ [t])) : TksAt w g ts := fun i u hu => h i u (by
  have hi : i < ts.length := (List.getElem?_eq_some_iff.mp hu).1
  rw [List.getElem?_append_left hi]; exact hu)
/-- Lex, of a text without a fault: its words lie there. -/
theorem lex_tks (s : ByteArray) (w : World) (hs : s.size ≤ 1048576) (hr : Rng w) (R : List Tk) (hL : Hid (lexS s.data.toList = (R, none))) :
    Calls Tryd.prog 9 #[.string s] w fun e w' => ∃ g cap, e = .returned (.tuple #[.slice (some ⟨g, 0, none⟩) (R.length + 1) cap, .agg #[.int .i64 0, .int .i64 0]]) ∧ Hid (TksAt w' g (R ++ [endT s.size])) ∧ g < w'.heap.size ∧ Below w.heap.size w w' :=
  (lex_good s w hs hr R hL).mono fun _ _ ⟨g, cap, he, ho, hb⟩ => ⟨g, cap, he, tks_own ho.out, (ho.out.lt g rfl).2, hb⟩
theorem rlex_tks (s : ByteArray) (w : World) (hs : s.size ≤ 1048576) (R : List Tk) (hL : Hid (lexS s.data.toList = (R, none))) :
    Calls Tryd.prog 10 #[.string s] w fun e w' => ∃ g cap, e = .returned (.tuple #[.slice (some ⟨g, 0, none⟩) (R.length + 1) cap, .agg #[.int .i64 0, .int .i64 0]]) ∧ Hid (TksAt w' g (R ++ [endT s.size])) ∧ g < w'.heap.size ∧ Below w.heap.size w w' :=
  (rlex_any s w hs R none hL.out).mono fun _ _ ⟨hb, g, cap, he, ho⟩ => ⟨g, cap, he, tks_own ho, (ho.lt g rfl).2, hb⟩
theorem rlex_bad (s : ByteArray) (w : World) (hs : s.size ≤ 1048576) (R : List Tk) (p : Nat) (hL : Hid (lexS s.data.toList = (R, some p))) :
    Calls Tryd.prog 10 #[.string s] w fun e w' => e = .returned (.tuple #[.slice none 0 0, .agg #[.int .i64 1, .int .i64 p]]) ∧ Below w.heap.size w w' :=
  (rlex_any s w hs R (some p) hL.out).mono fun _ _ ⟨hb, he⟩ => ⟨he, hb⟩

theorem lexF_len (f k : Nat) (l : List UInt8) : (lexF f k l).1.length ≤ l.length := by
  induction f generalizing k l with
  | zero => simp [lexF]
  | succ f ih =>
    rcases l with _ | ⟨c, r⟩
    · simp [lexF]
    · unfold lexF
      rcases hw : wordT k (c :: r) with _ | t
      · simp
      · have hs := step_le hw
        have := ih (k + stepN (c :: r) t) ((c :: r).drop (stepN (c :: r) t))
        rw [List.length_drop] at this
        show (_ :: _).length ≤ _
        rw [List.length_cons]
        omega
theorem lexS_len (l : List UInt8) : (lexS l).1.length ≤ l.length := by
  have h := lexF_len ((l.drop (skipN false l)).length + 1) (skipN false l) (l.drop (skipN false l))
  rw [List.length_drop] at h
  unfold lexS lexR
  rw [List.length_drop]
  omega
theorem two_new (w : World) (p q : Value) : (w.alloc (.cells #[p, q] 25)).cell? ⟨w.heap.size, 0, none⟩ = some p ∧ (w.alloc (.cells #[p, q] 25)).cell? ⟨w.heap.size, 1, none⟩ = some q := by
  refine ⟨?_, ?_⟩ <;> (rw [cell_of_row _ _ _ _ _ _ (heap_alloc_new w _)]; rfl)
/-- Two faults that were laid read as they did. -/
theorem flt_keep {w1 w2 w3 : World} {p q p' q' : Value} (hb2 : Below (w1.alloc (.cells #[p, q] 25)).heap.size (w1.alloc (.cells #[p, q] 25)) w2) (hb3 : Below (w2.alloc (.cells #[p', q'] 25)).heap.size (w2.alloc (.cells #[p', q'] 25)) w3) :
    w3.cell? ⟨w1.heap.size, 0, none⟩ = some p ∧ w3.cell? ⟨w1.heap.size, 1, none⟩ = some q ∧ w3.cell? ⟨w2.heap.size, 0, none⟩ = some p' ∧ w3.cell? ⟨w2.heap.size, 1, none⟩ = some q' := by
  have hs := hb2.size
  have h1 : w1.heap.size < (w1.alloc (.cells #[p, q] 25)).heap.size := by simp
  have h2 : w2.heap.size < (w2.alloc (.cells #[p', q'] 25)).heap.size := by simp
  have h3 : w1.heap.size < (w2.alloc (.cells #[p', q'] 25)).heap.size := by omega
  have h4 : w1.heap.size < w2.heap.size := by omega
  refine ⟨?_, ?_, ?_, ?_⟩
  · rw [hb3.cell (p := ⟨w1.heap.size, 0, none⟩) h3, World.cell?_alloc_lt _ _ _ h4, hb2.cell (p := ⟨w1.heap.size, 0, none⟩) h1]; exact (two_new _ _ _).1
  · rw [hb3.cell (p := ⟨w1.heap.size, 1, none⟩) h3, World.cell?_alloc_lt _ _ _ h4, hb2.cell (p := ⟨w1.heap.size, 1, none⟩) h1]; exact (two_new _ _ _).2
  · rw [hb3.cell (p := ⟨w2.heap.size, 0, none⟩) h2]; exact (two_new _ _ _).1
  · rw [hb3.cell (p := ⟨w2.heap.size, 1, none⟩) h2]; exact (two_new _ _ _).2
theorem below_alloc {B : Nat} {w w1 w2 : World} {o : Obj} (hb1 : Below B w w1) (hB : B ≤ w.heap.size) (hb2 : Below (w1.alloc o).heap.size (w1.alloc o) w2) : Below B w w2 :=
  (hb1.alloc (Nat.le_trans hB hb1.size) _).trans (hb2.mono (by have := hb1.size; simp; omega))

set_option maxHeartbeats 2000000 in
theorem words_law (s : ByteArray) (w : World) (hs : s.size ≤ maxLen) (hr : Rng w) : Calls Tryd.prog 3 #[.string s] w fun e w' => e = .returned (.bool true) ∧ Below w.heap.size w w' := by
  have hr2 := hr.two
  go_enter Tryd.func3, Tryd.ntmps3
  go_wp2_with (go_at_call 8; refine (few_any s _ hs).mono ?_; rintro e w' ⟨t, ht, rfl, rfl⟩)
  obtain ⟨R, O, hL⟩ : ∃ R O, lexS t.data.toList = (R, O) := ⟨_, _, rfl⟩
  have hL := Lib.hid hL
  rcases O with _ | p
  · have hRl : R.length ≤ t.size := by
      have h := lexS_len t.data.toList
      rw [hL.out, Array.length_toList] at h
      exact h
    refine (lex_tks t _ (by omega) hr R hL).mono ?_
    rintro e w1 ⟨g1, c1, rfl, T1, hg1, hb1⟩
    go_wp2_with (first | (go_at_call 10; refine (rlex_tks t _ (by omega) R hL).mono ?_; rintro e w2 ⟨g2, c2, rfl, T2, hg2, hb2⟩) | (go_at_call 11; refine (awake_any _ ((hr.up (below_alloc hb1 (Nat.le_refl _) hb2)).up ((Below.refl _ _).alloc (Nat.le_refl _) _))).mono ?_; rintro e w3 ⟨rfl, hb3⟩; obtain ⟨k0, k1, k2, k3⟩ := flt_keep hb2 hb3) | (go_at_call 12; refine (same_any _ g1 g2 c1 c2 (R.length + 1) (R ++ [endT t.size]) (by simp) (by omega) (T1.out.below (below_alloc (below_alloc (Below.refl _ _) (Nat.le_refl _) hb2) (Nat.le_refl _) hb3) hg1) (T2.out.below (below_alloc (Below.refl _ _) (Nat.le_refl _) hb3) hg2)).mono ?_; rintro e w4 ⟨rfl, hb4⟩))
    go_ret
    have hb5 := below_alloc (below_alloc hb1 (Nat.le_refl _) hb2) (Nat.le_refl _) hb3
    exact ⟨rfl, hb5.trans (hb4.mono hb5.size)⟩
  · refine (lex_bad t _ (by omega) hr R p hL).mono ?_
    rintro e w1 ⟨rfl, hb1⟩
    go_wp2_with (first | (go_at_call 10; refine (rlex_bad t _ (by omega) R p hL).mono ?_; rintro e w2 ⟨rfl, hb2⟩) | (go_at_call 11; refine (awake_any _ ((hr.up (below_alloc hb1 (Nat.le_refl _) hb2)).up ((Below.refl _ _).alloc (Nat.le_refl _) _))).mono ?_; rintro e w3 ⟨rfl, hb3⟩; obtain ⟨k0, k1, k2, k3⟩ := flt_keep hb2 hb3) | (go_at_call 12; refine (same_nil _).mono ?_; rintro e w4 ⟨rfl, hb4⟩))
    go_ret
    have hb5 := below_alloc (below_alloc hb1 (Nat.le_refl _) hb2) (Nat.le_refl _) hb3
    exact ⟨rfl, hb5.trans (hb4.mono hb5.size)⟩
end Go.Proofs.YtmoeokfjfnegmaaDoor
