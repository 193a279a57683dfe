/-
  Decimal numerals laid behind rows of bytes of which no cell is frozen.
-/
import Derived.Test.YtglobeajmdieaaaDoorIpX
import Derived.WalkKit
import Derived.BigCall
import Derived.BigGuard
namespace Go.Proofs.YtglobeajmdieaaaDoor
open Go.RowKit Go.Sort
set_option linter.unusedVariables false
set_option linter.unusedSimpArgs false

theorem OwnX.row {w : World} {B : Nat} {e : TypeId} {v : Value} {n : Nat} {xs : List Value} (h : OwnX w B e v n xs) : ∀ g, v.ownBlock = some g → ∃ c fz, w.heap[g]? = some (.cells c e fz) := by
  obtain ⟨hl, g, cap, cur, fz, rfl, hB, hg, rest⟩ := h
  intro k hk
  simp [Value.ownBlock] at hk
  subst hk
  exact ⟨_, _, hg⟩
/-- What comes of a call that lays bytes behind a row. -/
def XPost (B n : Nat) (xs : List Value) (w : World) (t : List UInt8) : Ending → World → Prop := fun e w' => ∃ v', e = .returned v' ∧ OwnX w' B 5 v' (n + t.length) (xs ++ Lib.byteCells t) ∧ Below B w w' ∧ Lib.OthersKept 5 none w w'

set_option maxHeartbeats 2000000 in
theorem appU_small (B n u : Nat) (hu : u < 100) (sv : Value) (xs : List Value) (w : World) (h : OwnX w B 5 sv n xs) (hB : B ≤ w.heap.size) (hlim : n + 20 ≤ 140737488355328) :
    Calls Tryd.prog 38 #[sv, .int .u64 u, .int .i64 10] w (XPost B n xs w (Lib.decDigits u)) := by
  obtain ⟨i0, hi0, hz0, hz1, hz2⟩ := info_parts infoByte
  have hd : (Lib.decDigits u).length ≤ 20 := by rw [Lib.decDigits_length]; exact Lib.nDigits_le20 u (by omega)
  have hsz : (⟨(Lib.decDigits u).toArray⟩ : ByteArray).size = (Lib.decDigits u).length := by simp [ByteArray.size]
  go_enter Tryd.func38, Tryd.ntmps38
  go_wp2_with first
    | (go_at_call 31; refine (internal_strconv_small u hu _).mono ?_; rintro e w' ⟨rfl, rfl⟩)
    | (at_builtin; refine wpList_appendX_string _ rfl (.tmp 13) (.tmp 16) 37 9 rfl B 5 i0 Tryd.underlying37 Tryd.underlying9 hi0 hz0 hz1 hz2 sv n xs rfl h hB ⟨(Lib.decDigits u).toArray⟩ rfl (by rw [hsz]; omega) ?_)
  intro v' w2 ho hg
  have e : Lib.strCells ⟨(Lib.decDigits u).toArray⟩ = Lib.byteCells (Lib.decDigits u) := by simp [Lib.strCells, Lib.byteCells]
  rw [e] at ho
  have hend := Lib.hid (And.intro ho (And.intro ((Below.refl B w').grown hg hB (fun g' e => (h.lt g' e).1)) ((Lib.OthersKept.refl 5 none w').grown hg h.row)))
  clear ho hg e
  go_wp2
  go_ret
  exact ⟨v', rfl, hend.out.1, hend.out.2.1, hend.out.2.2⟩

set_option maxHeartbeats 8000000 in
set_option maxRecDepth 100000 in
theorem appU_big (B n u : Nat) (hu : 100 ≤ u) (hu64 : u < 18446744073709551616) (sv : Value) (xs : List Value) (w : World) (h : OwnX w B 5 sv n xs) (hB : B ≤ w.heap.size) (hlim : n + 20 ≤ 140737488355328) (htab : Lib.TabIs Tryd.prog w "internal/strconv.uint64pow10" .u64 Lib.pow10Tab) :
    Calls Tryd.prog 38 #[sv, .int .u64 u, .int .i64 10] w (XPost B n xs w (Lib.decDigits u)) := by
  have hu1 : 1 ≤ u := by omega
  have hnd20 : Lib.nDigits u ≤ 20 := by have := Lib.numDigits_eq u hu1 hu64; split at this <;> omega
  have hal : Tryd.prog.arrayLen 62 = 24 := by simp [Program.arrayLen, Tryd.underlying62]
  have hsl : ∀ W, (Instr.sliceAt 62 (.pointer (some ⟨w.heap.size, 0, none⟩)) none (some (.int .i64 (Lib.nDigits u : Int))) none).run Tryd.prog W = .ok (.slice (some ⟨w.heap.size, 0, none⟩) (Lib.nDigits u) 24) W := fun W => by
    rw [run_sliceAt_array_h W 62 ⟨w.heap.size, 0, none⟩ (by simp [Program.arrayLen, Program.elem, Tryd.underlying62]) .i64 (Lib.nDigits u : Int) (by omega) (by rw [hal]; omega)]
    go_simp
  have hH0 := Lib.holds_zero0 w 62 (Lib.nDigits u) (by omega)
  have hfmt := internal_strconv_formatBase10 w.heap.size 0 24 u (Array.replicate (Lib.nDigits u) 0) (w.alloc (.cells Lib.zeros24 62)) hH0 (by rw [Array.size_replicate]; exact Lib.lt_pow_nDigits u) hu64 (by rw [Array.size_replicate]; omega)
  rw [Array.size_replicate] at hfmt
  obtain ⟨i0, hi0, hz0, hz1, hz2⟩ := info_parts infoByte
  have Hi := Lib.hid hi0
  have Hz0 := Lib.hid hz0
  have Hz1 := Lib.hid hz1
  have Hz2 := Lib.hid hz2
  have H := Lib.hid h
  have HH0 := Lib.hid hH0
  have iu : (100 : Int) ≤ (u : Int) := by omega
  clear hH0 hal hi0 hz0 hz1 hz2 h
  go_enter Tryd.func38, Tryd.ntmps38
  go_wp2_with (first
    | (go_at_call 32; refine (internal_strconv_numDigits u hu1 hu64 _ (Lib.tabIs_alloc htab _)).mono ?_; rintro e w' ⟨rfl, rfl⟩))
  go_at_call 33
  refine hfmt.mono ?_
  rintro e w' ⟨rfl, k, v', dk, rfl, hF⟩
  have hnw : ∀ j (hj : j < (Lib.decDigits u).length), ((putRow (fun (b : UInt8) => Value.int .u8 (b.toNat : Int)) (w.alloc (.cells Lib.zeros24 62)) w.heap.size 0 dk).drewN k).cell? ((⟨w.heap.size, 0, none⟩ : Addr).add j) = some (.int .u8 (((Lib.decDigits u)[j]).toNat : Int)) := fun j hj => by
    rw [Lib.row_is_numeral hF j hj, Lib.add_plain, World.cell?_drewN]
    exact cell?_putRow (fun (b : UInt8) => Value.int .u8 (b.toNat : Int)) _ w.heap.size 0 _ dk HH0.out (by rw [hF.size, Array.size_replicate]) j (by rw [hF.size]; rw [Lib.decDigits_length] at hj; exact hj)
  obtain ⟨os, eo⟩ := Lib.fin_at w (.cells Lib.zeros24 62) dk k 0
  obtain ⟨W, hW⟩ : ∃ W, W = (putRow (fun (b : UInt8) => Value.int .u8 (b.toNat : Int)) (w.alloc (.cells Lib.zeros24 62)) w.heap.size 0 dk).drewN k := ⟨_, rfl⟩
  have hbW : Below w.heap.size w W := by rw [hW, eo]; exact Lib.below_grow w.heap.size w (Nat.le_refl _) k os
  rw [← hW] at hnw
  have HX := Lib.hid (H.out.keep hbW)
  have HNW : Hid (∀ j u', (Lib.byteCells (Lib.decDigits u))[j]? = some u' → W.cell? ((⟨w.heap.size, 0, none⟩ : Addr).add j) = some u') := Lib.hid (fun j u' hj => by
    have hjl : j < (Lib.decDigits u).length := by have := (List.getElem?_eq_some_iff.mp hj).1; simpa [Lib.byteCells] using this
    rw [hnw j hjl]
    simp [Lib.byteCells, hjl] at hj
    rw [← hj])
  have HO : Hid (∀ u' ∈ Lib.byteCells (Lib.decDigits u), u'.oneCell' = true) := Lib.hid (by
    intro x hx
    obtain ⟨y, _, rfl⟩ := List.mem_map.mp hx
    rfl)
  have HbW := Lib.hid hbW
  have hl : (Lib.byteCells (Lib.decDigits u)).length = Lib.nDigits u := by rw [Lib.byteCells_length, Lib.decDigits_length]
  rw [← hW]
  clear hW eo hnw hbW hfmt HH0
  go_wp2_with (at_builtin; refine wpList_appendX _ rfl (.tmp 24) (.tmp 26) 37 rfl B 5 i0 Tryd.underlying37 Hi.out Hz0.out Hz1.out Hz2.out sv n xs rfl HX.out (Nat.le_trans hB HbW.out.size) ⟨w.heap.size, 0, none⟩ (Lib.nDigits u) 24 (Lib.byteCells (Lib.decDigits u)) rfl hl HNW.out HO.out (by omega) ?_)
  intro v2 w2 ho hg
  rw [← Lib.decDigits_length] at ho
  have hend := Lib.hid (And.intro ho (And.intro (((HbW.out.mono hB) : Below B w W).grown hg (Nat.le_trans hB HbW.out.size) (fun g' e => (HX.out.lt g' e).1)) ((kept_below (T := 5) HbW.out).grown hg HX.out.row)))
  clear ho hg
  go_wp2
  go_ret
  exact ⟨v2, rfl, hend.out.1, hend.out.2.1, hend.out.2.2⟩
end Go.Proofs.YtglobeajmdieaaaDoor
