/-
  The seventh law's 'awake'.
-/
import Derived.Test.YtglobeajmdieaaaDoorIrF
namespace Go.Proofs.YtglobeajmdieaaaDoor
open Go.RowKit
set_option linter.unusedVariables false
set_option linter.unusedSimpArgs false

set_option maxRecDepth 100000 in
set_option maxHeartbeats 4000000 in
theorem awake7_any (w : World) :
    Calls Tryd.prog 5 #[] w fun e w' => e = .returned (.bool true) ∧ Below w.heap.size w w' := by
  have hR := fun w => ret_any (-1) w
  have p4 := fun w => pure_any 4 w
  have p7 := fun w => pure_any 7 w
  rw [show (!((4 : Int) == 7 || (4 : Int) == 8) && (decide ((1 : Int) ≤ 4) && decide ((4 : Int) ≤ 28))) = true by decide] at p4
  rw [show (!((7 : Int) == 7 || (7 : Int) == 8) && (decide ((1 : Int) ≤ 7) && decide ((7 : Int) ≤ 28))) = false by decide] at p7
  have HB := Lib.hid (Below.refl w.heap.size w)
  go_enter Tryd.func5, Tryd.ntmps5
  go_wp2_with (go_at_call 9; refine (hR _).mono ?_; rintro e w1 ⟨rfl, hb1⟩; have HB1 := Lib.hid (HB.out.trans (hb1.mono HB.out.size)); clear hb1)
  go_wp2_with (go_at_call 9; refine (hR _).mono ?_; rintro e w2 ⟨rfl, hb2⟩; have HB2 := Lib.hid (HB1.out.trans (hb2.mono HB1.out.size)); clear hb2)
  obtain ⟨w3, hw3, hb3, hz3, h03⟩ := r_one_al w2 #[.slice none 0 0, .slice none 0 0, .int .i64 3, .int .i64 (-1), .slice none 0 0, .slice none 0 0, .slice none 0 0, .int .i64 3, .int .i64 (-1), .slice none 0 0] 35
  rw [← hw3]
  have hC := compact_two w2.heap.size w3 h03
  have HB3 := Lib.hid (HB2.out.trans (hb3.mono HB2.out.size))
  clear hw3 hb3 hz3 h03 hR
  go_upto_region 2 with (go_at_call 8; refine hC.mono ?_; rintro e w4 ⟨g, c, rfl, hb4⟩; have HB4 := Lib.hid (HB3.out.trans (hb4.mono HB3.out.size)); clear hb4 hC)
  obtain ⟨w5, hw5, hb5, hz5, h05⟩ := r_one_al w4 #[.string ⟨#[102]⟩, .slice none 0 0, .int .i64 0, .slice none 0 0, .slice (some ⟨g, 0, none⟩) 1 c] 26
  rw [← hw5]
  have c0 := Lib.cell_of_heap h05 0
  have c4 := Lib.cell_of_heap h05 4
  have HB5 := Lib.hid (HB4.out.trans (hb5.mono HB4.out.size))
  clear hw5 hb5 hz5 h05
  go_wp2_with (go_at_call 10; with_reducible refine (p4 _).mono ?_; rintro e w6 ⟨rfl, rfl⟩)
  go_wp2_with (go_at_call 10; with_reducible refine (p7 _).mono ?_; rintro e w6 ⟨rfl, rfl⟩)
  go_ret
  exact ⟨rfl, HB5.out⟩

end Go.Proofs.YtglobeajmdieaaaDoor
