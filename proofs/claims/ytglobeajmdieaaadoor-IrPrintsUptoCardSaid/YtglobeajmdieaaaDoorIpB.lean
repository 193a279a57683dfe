/-
  The reference's numbers with spaces ahead.
-/
import Derived.Test.YtglobeajmdieaaaDoorIpA
namespace Go.Proofs.YtglobeajmdieaaaDoor
open Go.RowKit
set_option linter.unusedVariables false
set_option linter.unusedSimpArgs false

def rowP (l : List Int) : List UInt8 := l.flatMap (fun x => 32 :: Lib.itoa x)
theorem rowP_succ (l : List Int) (i : Nat) (hi : i < l.length) : rowP (l.take (i + 1)) = rowP (l.take i) ++ (32 :: Lib.itoa l[i]) := by
  unfold rowP
  rw [List.take_succ_eq_append_getElem hi, List.flatMap_append]
  simp

theorem ba_add (a b : List UInt8) : (⟨a.toArray⟩ : ByteArray) ++ ⟨b.toArray⟩ = ⟨(a ++ b).toArray⟩ := by
  apply ByteArray.ext
  simp [ByteArray.data_append]
theorem grow_below (w : World) (k : Nat) (os : Array Obj) {B : Nat} (hB : B ≤ w.heap.size) : Below B w (Sort.grow (w.drewN k) os) := by
  refine ⟨rfl, rfl, rfl, ?_, fun j hj => ?_⟩
  · simp [Sort.grow]
  · simp [Sort.grow]
    rw [Array.getElem?_append_left (by omega)]
theorem rowP_len (l : List Int) (h : ∀ x ∈ l, InR x) : (rowP l).length ≤ 22 * l.length := by
  have := say_len [] l h
  simpa [sayP, rowP] using this

set_option maxRecDepth 100000 in
set_option maxHeartbeats 8000000 in
theorem row_any (B : Nat) (v : Value) (l : List Int) (w : World) (hBw : B ≤ w.heap.size) (hl : ∀ x ∈ l, InR x) (hr : RdN B w v l) (hlim : 22 * l.length ≤ 140737488355328) (htab : Lib.TabBelow Tryd.prog B w "internal/strconv.uint64pow10" .u64 Lib.pow10Tab) :
    Calls Tryd.prog 14 #[v] w fun e w' => e = .returned (.string ⟨(rowP l).toArray⟩) ∧ Below w.heap.size w w' := by
  obtain ⟨VA, Vc, rfl, hrv⟩ := hr
  have Hrv : Hid (RdN B w (.slice VA l.length Vc) l) := Lib.hid ⟨VA, Vc, rfl, hrv⟩
  obtain ⟨m, hm⟩ : ∃ m, m = l.length := ⟨_, rfl⟩
  have Hm := Lib.hid hm
  rw [← hm] at hlim Hrv ⊢
  have Hl := Lib.hid hl
  have Htab := Lib.hid htab
  clear hm hl htab hrv
  go_enter Tryd.func14, Tryd.ntmps14
  go_wp2
  go_loopw [3, 4] (fun u3 u4 wr => ∃ i : Nat, i ≤ m ∧ u4 = .int .i64 i ∧ u3 = .string ⟨(rowP (l.take i)).toArray⟩ ∧ Hid (Below w.heap.size w wr)) (fun _ u4 _ => m - (intOf u4).toNat)
  case atStart => exact ⟨0, Nat.zero_le _, rfl, rfl, Lib.hid (Below.refl _ _)⟩
  case round =>
    obtain ⟨i, hi, rfl, rfl, HB⟩ := hrel
    by_cases hlt : i < m
    · have hil : i < l.length := by rw [← Hm.out]; exact hlt
      obtain ⟨A, c, hv, hr⟩ := Hrv.out.keep (HB.out.mono hBw) (kept_below HB.out)
      obtain ⟨b, o, ob, hA, hob, hobn, hc⟩ := hr (by rw [← Hm.out]; omega)
      have hva : VA = some ⟨b, o, none⟩ := by injection hv with e1; rw [e1, hA]
      subst hva
      have hcx := hc i l[i] (List.getElem?_eq_getElem hil)
      have hS := rowP_succ l i hil
      have hin := Hl.out l[i] (List.getElem_mem hil)
      obtain ⟨y, hy⟩ : ∃ y, y = l[i] := ⟨_, rfl⟩
      rw [← hy] at hcx hS hin
      have hI := strconv_Itoa y hin.1 hin.2 wr ((Htab.out.on (HB.out.mono hBw)).here)
      have HS := Lib.hid hS
      have hy21 := Lib.itoa_length_le y hin.1 hin.2
      have hpl : (rowP (l.take i)).length ≤ 22 * m := by
        have h1 := rowP_len (l.take i) (fun z hz => Hl.out z (List.mem_of_mem_take hz))
        have h2 : (l.take i).length ≤ i := by rw [List.length_take]; omega
        omega
      obtain ⟨p, hp⟩ : ∃ p, p = rowP (l.take i) := ⟨_, rfl⟩
      have Hp := Lib.hid hp
      rw [← hp] at hpl ⊢
      clear hv hr hob hobn hc hS hin hy hA hp
      go_wp2_with (go_at_call 15; refine hI.mono ?_; rintro e w3 ⟨rfl, k, os, h3⟩; have Hw3 := Lib.hid h3; clear h3 hI)
      go_roundw
      case rel => exact ⟨i + 1, by omega, by go_num, by
        rw [show (⟨#[32]⟩ : ByteArray) = ⟨([32] : List UInt8).toArray⟩ from rfl, ba_add, ba_add, HS.out, Hp.out]
        simp, Lib.hid (by rw [Hw3.out]; exact HB.out.trans (grow_below _ _ _ HB.out.size))⟩
      case measure => simp [intOf]; omega
    · obtain rfl : i = m := by omega
      go_wp2
      go_ret
      have e : l.take i = l := by rw [Hm.out, List.take_length]
      rw [e]
      exact ⟨rfl, HB.out⟩
end Go.Proofs.YtglobeajmdieaaaDoor
