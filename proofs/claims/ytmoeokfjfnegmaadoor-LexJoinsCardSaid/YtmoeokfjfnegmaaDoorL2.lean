/-
  The laws' awake: three words.
-/
import Derived.Test.YtmoeokfjfnegmaaDoorL1
namespace Go.Proofs.YtmoeokfjfnegmaaDoor
open Go.RowKit

/-- Lex, of a text without a fault. -/
theorem lex_good (s : ByteArray) (w : World) (hs : s.size ≤ 1048576) (hr : Rng w) (R : List Tk) (hL : Hid (lexS s.data.toList = (R, none))) :
    Calls Tryd.prog 9 #[.string s] w fun e w' => ∃ g cap, e = .returned (.tuple #[.slice (some ⟨g, 0, none⟩) (R.length + 1) cap, .agg #[.int .i64 0, .int .i64 0]]) ∧ Hid (w'.ownsRow (w.heap.size + 1) 32 4 (.slice (some ⟨g, 0, none⟩) (R.length + 1) cap) (R.length + 1) ((R ++ [endT s.size]).flatMap tkC)) ∧ Below w.heap.size w w' :=
  (lex_any s w hs hr R none hL.out).mono fun _ _ ⟨hb, g, cap, he, ho⟩ => ⟨g, cap, he, ho, hb⟩
theorem lex_bad (s : ByteArray) (w : World) (hs : s.size ≤ 1048576) (hr : Rng w) (R : List Tk) (p : Nat) (hL : Hid (lexS s.data.toList = (R, some p))) :
    Calls Tryd.prog 9 #[.string s] w fun e w' => e = .returned (.tuple #[.slice none 0 0, .agg #[.int .i64 1, .int .i64 p]]) ∧ Below w.heap.size w w' :=
  (lex_any s w hs hr R (some p) hL.out).mono fun _ _ ⟨hb, he⟩ => ⟨he, hb⟩

def awakeR : List Tk := [⟨1, 0, 0, [97, 49]⟩, ⟨4, 2, 0, [62, 61]⟩, ⟨2, 4, 2, [50]⟩]
theorem awake_lex : lexS (⟨#[97, 49, 62, 61, 50]⟩ : ByteArray).data.toList = (awakeR, none) := by kernel_rfl
theorem lex_awake (w : World) (hr : Rng w) :
    Calls Tryd.prog 9 #[.string ⟨#[97, 49, 62, 61, 50]⟩] w fun e w' => ∃ g cap, e = .returned (.tuple #[.slice (some ⟨g, 0, none⟩) 4 cap, .agg #[.int .i64 0, .int .i64 0]]) ∧ w'.cell? ⟨g, 3, none⟩ = some (.string ⟨#[97, 49]⟩) ∧ w'.cell? ⟨g, 7, none⟩ = some (.string ⟨#[62, 61]⟩) ∧ w'.cell? ⟨g, 10, none⟩ = some (.int .i64 2) ∧ w'.cell? ⟨g, 13, none⟩ = some (.int .i64 5) ∧ g < w'.heap.size ∧ Below w.heap.size w w' :=
  (lex_good ⟨#[97, 49, 62, 61, 50]⟩ w (by decide) hr awakeR awake_lex).mono fun _ _ ⟨g, cap, he, hown, hb⟩ =>
    ⟨g, cap, he, hown.out.cellAt 3 (by decide), hown.out.cellAt 7 (by decide), hown.out.cellAt 10 (by decide), hown.out.cellAt 13 (by decide), (hown.out.lt g rfl).2, hb⟩

set_option maxHeartbeats 1000000 in
theorem awake_any (w : World) (hr : Rng w) : Calls Tryd.prog 11 #[] w fun e w' => e = .returned (.bool true) ∧ Below w.heap.size w w' := by
  go_enter Tryd.func11, Tryd.ntmps11
  go_wp2_with (go_at_call 9; refine (lex_awake _ hr).mono ?_; rintro e w1 ⟨g, cap, rfl, c0, c1, c2, c3, hg, hb⟩)
  go_ret
  exact ⟨rfl, hb.alloc hb.size _⟩
end Go.Proofs.YtmoeokfjfnegmaaDoor
