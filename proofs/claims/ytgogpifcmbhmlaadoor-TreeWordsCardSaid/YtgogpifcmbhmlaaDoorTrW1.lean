/-
  The law TreeWords' walk: whatever the numbers, it answers true; nothing that was there has changed.
-/
import Derived.Test.YtgogpifcmbhmlaaDoorTrB3
import Derived.Test.YtgogpifcmbhmlaaDoorTrF1
import Derived.Test.YtgogpifcmbhmlaaDoorTrF2
import Derived.Test.YtgogpifcmbhmlaaDoorTrF3
namespace Go.Proofs.YtgogpifcmbhmlaaDoor
open Go.RowKit

theorem powTab_on {w w' : World} (h : PowTab w) (hb : Below w.heap.size w w') : PowTab w' := Lib.tabBelow_of_tabIs h w' hb

set_option maxHeartbeats 4000000 in
theorem words_law (n k : Int) (w : World) (hT : PowTab w) : Calls Tryd.prog 3 #[.int .i64 n, .int .i64 k] w fun e w' => e = .returned (.bool true) ∧ Below w.heap.size w w' := by
  have hwr := u64N_wrap n
  have hl := u64N_lt n
  have HD := fun w1 => digits_any n (u64N n) hwr hl w1
  have HR := fun w1 h1 => refDigits_any n w1 h1
  obtain ⟨D, hD⟩ : ∃ D : ByteArray, D = ⟨(Lib.decDigits (u64N n)).toArray⟩ := ⟨_, rfl⟩
  rw [← hD] at HD HR
  have HS := fun w1 => sign_any k w1
  have HS' := fun w1 => rsign_any k w1
  obtain ⟨S, hS⟩ : ∃ S : ByteArray, S = signA k := ⟨_, rfl⟩
  rw [← hS] at HS HS'
  have HT := fun w1 => type_any k w1
  have HT' := fun w1 => rtype_any k w1
  obtain ⟨T, hT'⟩ : ∃ T : ByteArray, T = typeA k := ⟨_, rfl⟩
  rw [← hT'] at HT HT'
  clear hwr hl hD hS hT'
  have eD : (D.toList == D.toList) = true := by simp
  have eS : (S.toList == S.toList) = true := by simp
  have eT : (T.toList == T.toList) = true := by simp
  have HW := Lib.hid hT
  clear hT
  go_enter Tryd.func3, Tryd.ntmps3
  go_wp2_with (first
    | (go_at_call 4; refine (awake_any _).mono ?_; rintro e w1 ⟨rfl, hb1⟩; have Hb1 := Lib.hid hb1; clear hb1)
    | (go_at_call 5; refine (HD _).mono ?_; rintro e w2 ⟨rfl, hb2⟩; have Hb2 := Lib.hid (Hb1.out.trans (hb2.mono Hb1.out.size)); clear hb2)
    | (go_at_call 6; refine (HR _ (powTab_on HW.out Hb2.out)).mono ?_; rintro e w3 ⟨rfl, hb3⟩; have Hb3 := Lib.hid (Hb2.out.trans (hb3.mono Hb2.out.size)); clear hb3)
    | (go_at_call 7; refine (HS _).mono ?_; rintro e w4 ⟨rfl, rfl⟩)
    | (go_at_call 8; refine (HS' _).mono ?_; rintro e w5 ⟨rfl, hb5⟩; have Hb5 := Lib.hid (Hb3.out.trans (hb5.mono Hb3.out.size)); clear hb5)
    | (go_at_call 9; refine (HT _).mono ?_; rintro e w6 ⟨rfl, rfl⟩)
    | (go_at_call 10; refine (HT' _).mono ?_; rintro e w7 ⟨rfl, hb7⟩; have Hb7 := Lib.hid (Hb5.out.trans (hb7.mono Hb5.out.size)); clear hb7))
  go_ret
  exact ⟨rfl, Hb7.out⟩
end Go.Proofs.YtgogpifcmbhmlaaDoor
