/-
  LexNames: the law's walk.
-/
import Derived.Test.YtmoeokfjfnegmaaDoorB2
namespace Go.Proofs.YtmoeokfjfnegmaaDoor
open Go.RowKit

theorem kept_is (s : ByteArray) (b : Bool) (h : Hid (keptB s.data.toList = b)) (w : World) : Calls Tryd.prog 13 #[.string s] w fun e w' => e = .returned (.bool b) ∧ w = w' :=
  (kept_any s w).mono fun _ _ ⟨he, hw⟩ => ⟨by rw [he, h.out], hw⟩
theorem rkept_is (s : ByteArray) (b : Bool) (h : Hid (keptB s.data.toList = b)) (w : World) : Calls Tryd.prog 14 #[.string s] w fun e w' => e = .returned (.bool b) ∧ Below w.heap.size w w' :=
  (rkept_any s w).mono fun _ _ ⟨he, hw⟩ => ⟨by rw [he, h.out], hw⟩
theorem lname_is (s : ByteArray) (b : Bool) (h : Hid (isNameB s.data.toList = b)) (w : World) (hs : s.size ≤ maxLen) : Calls Tryd.prog 15 #[.string s] w fun e w' => e = .returned (.bool b) ∧ Below w.heap.size w w' :=
  (lname_any s w hs).mono fun _ _ ⟨he, hw⟩ => ⟨by rw [he, h.out], hw⟩
theorem rname_is (s : ByteArray) (b : Bool) (h : Hid (isNameB s.data.toList = b)) (w : World) (hs : s.size ≤ maxLen) : Calls Tryd.prog 16 #[.string s] w fun e w' => e = .returned (.bool b) ∧ Below w.heap.size w w' :=
  (rname_any s w hs).mono fun _ _ ⟨he, hw⟩ => ⟨by rw [he, h.out], hw⟩

set_option maxHeartbeats 2000000 in
theorem names_law (s : ByteArray) (w : World) (hs : s.size ≤ maxLen) (hr : Rng w) : Calls Tryd.prog 4 #[.string s] w fun e w' => e = .returned (.bool true) ∧ Below w.heap.size w w' := by
  have K1 : Hid (keptB (⟨#[119, 104, 105, 108, 101]⟩ : ByteArray).data.toList = true) := Lib.hid (by decide)
  have K2 : Hid (isNameB (⟨#[119, 104, 105, 108]⟩ : ByteArray).data.toList = true) := Lib.hid (by decide)
  have hr2 := hr.two
  go_enter Tryd.func4, Tryd.ntmps4
  go_wp2_with (go_at_call 8; refine (few_any s _ hs).mono ?_; rintro e w' ⟨t, ht, rfl, rfl⟩)
  obtain ⟨b, hb⟩ : ∃ b, keptB t.data.toList = b := ⟨_, rfl⟩
  obtain ⟨c, hc⟩ : ∃ c, isNameB t.data.toList = c := ⟨_, rfl⟩
  have hm : t.size ≤ maxLen := by unfold maxLen; omega
  replace hb := Lib.hid hb
  replace hc := Lib.hid hc
  have hm1 : (⟨#[119, 104, 105, 108]⟩ : ByteArray).size ≤ maxLen := by decide
  go_wp2_with (first | (go_at_call 11; refine (awake_any _ hr).mono ?_; rintro e w1 ⟨rfl, hb1⟩) | (go_at_call 13; first | ((with_reducible refine (kept_is t b hb _).mono ?_); rintro e w' ⟨rfl, rfl⟩) | (refine (kept_is _ _ K1 _).mono ?_; rintro e w' ⟨rfl, rfl⟩)) | (go_at_call 14; refine (rkept_is t b hb _).mono ?_; rintro e w2 ⟨rfl, hb2⟩) | (go_at_call 15; first | ((with_reducible refine (lname_is t c hc _ hm).mono ?_); rintro e w3 ⟨rfl, hb3⟩) | (refine (lname_is _ _ K2 _ hm1).mono ?_; rintro e w5 ⟨rfl, hb5⟩)) | (go_at_call 16; refine (rname_is t c hc _ hm).mono ?_; rintro e w4 ⟨rfl, hb4⟩))
  go_ret
  have h1 := hb1.size
  have h2 := hb2.size
  have h3 := hb3.size
  have h4 := hb4.size
  exact ⟨rfl, hb1.trans ((hb2.mono h1).trans ((hb3.mono (by omega)).trans ((hb4.mono (by omega)).trans (hb5.mono (by omega)))))⟩
end Go.Proofs.YtmoeokfjfnegmaaDoor
