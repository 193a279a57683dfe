/-
  Programs as bytes: the library's Clone at this program's numbers; the reader's New, Text.
-/
import Derived.Test.YthjlpbglnnebkaaCdJ
import Derived.Shelf.Pu.Clone
namespace Go.Proofs.Ythjlpbglnnebkaa
open Go.RowKit Go.Shelf
set_option linter.unusedVariables false
set_option linter.unusedSimpArgs false

def cloneRen : Go.Shelf.Ren := ⟨fun | 25 => 43 | n => n, fun | 3 => 3 | 4 => 4 | 5 => 5 | 9 => 9 | 37 => 51 | 47 => 111 | n => n, fun | n => n⟩
theorem cloneLays : Go.Proofs.LaysPu.n25 Try.prog cloneRen := {
  mixed := by kernel_rfl
  f25 := Try.func43.trans (congrArg some (by kernel_rfl))
  t0 := Try.underlying0
  a0 := Try.isAgg0
  z0 := Try.sizeOf0
  v0 := Try.zeroValue0
  i0 := by kernel_rfl
  t3 := Try.underlying3
  a3 := Try.isAgg3
  z3 := Try.sizeOf3
  v3 := Try.zeroValue3
  i3 := by kernel_rfl
  t4 := Try.underlying4
  a4 := Try.isAgg4
  z4 := Try.sizeOf4
  v4 := Try.zeroValue4
  i4 := by kernel_rfl
  t5 := Try.underlying5
  a5 := Try.isAgg5
  z5 := Try.sizeOf5
  v5 := Try.zeroValue5
  i5 := by kernel_rfl
  t9 := Try.underlying9
  a9 := Try.isAgg9
  z9 := Try.sizeOf9
  v9 := Try.zeroValue9
  i9 := by kernel_rfl
  t37 := Try.underlying51
  a37 := Try.isAgg51
  z37 := Try.sizeOf51
  v37 := Try.zeroValue51
  i37 := by kernel_rfl
  t47 := Try.underlying111
  a47 := Try.isAgg111
  z47 := Try.sizeOf111
  v47 := Try.zeroValue111
  i47 := by kernel_rfl }
theorem sclone_q (l : List UInt8) (w : World) (hl : l.length ≤ 1099511627776) : Calls Try.prog 27 #[.string ⟨l.toArray⟩] w fun e w' => e = .returned (.string ⟨l.toArray⟩) ∧ Below w.heap.size w w' := by
  have hs : (⟨l.toArray⟩ : ByteArray).size ≤ 281474976710656 := by simp [ByteArray.size]; omega
  have hC : Calls Try.prog 43 #[.string ⟨l.toArray⟩] w fun e w' => e = .returned (.string ⟨l.toArray⟩) ∧ Below w.heap.size w w' := AnyPu.stringslite_Clone cloneLays ⟨l.toArray⟩ w hs
  clear hs
  go_enter Try.func27, Try.ntmps27
  go_wp2_with (go_at_call 43; refine hC.mono ?_; rintro e w1 ⟨rfl, hb⟩; have Hb := Lib.hid hb; clear hb hC)
  go_ret
  exact ⟨rfl, Hb.out⟩
set_option maxRecDepth 100000 in
theorem new_c (l : List UInt8) (w : World) (hl : l.length ≤ 1099511627776) : Calls Try.prog 7 #[.string ⟨l.toArray⟩] w fun e w' => ∃ E, e = .returned (.pointer (some ⟨E, 0, none⟩)) ∧ RdAt E (some l) w' ∧ w.heap.size ≤ E ∧ Below w.heap.size w w' := by
  have hC := sclone_q l w hl
  go_enter Try.func7, Try.ntmps7
  go_wp2_with (go_at_call 27; refine hC.mono ?_; rintro e w1 ⟨rfl, hb⟩; have Hb := Lib.hid hb; clear hb hC)
  go_ret
  exact ⟨_, rfl, heap_alloc_new w1 _, Hb.out.size, Hb.out.alloc Hb.out.size _⟩
def textS (n : Int) : Option (List UInt8) → List UInt8 × Option (List UInt8)
  | none => ([], none)
  | some l => if n < 0 ∨ (l.length : Int) < n then ([], none) else (l.take n.toNat, some (l.drop n.toNat))
set_option maxRecDepth 100000 in
theorem text_nil (n : Int) (w : World) : Calls Try.prog 26 #[.pointer none, .int .i64 n] w fun e w' => e = .returned (.string ⟨#[]⟩) ∧ w' = w := by
  have hO := ok_nil w
  go_enter Try.func26, Try.ntmps26
  go_wp2_with (go_at_call 14; refine hO.mono ?_; rintro e w1 ⟨rfl, rfl⟩; clear hO)
  go_ret
  exact ⟨rfl, rfl⟩
end Go.Proofs.Ythjlpbglnnebkaa
