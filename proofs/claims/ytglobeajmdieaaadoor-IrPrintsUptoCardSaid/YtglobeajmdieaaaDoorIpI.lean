/-
  IrPrints: Small, and the law's own walk.
-/
import Derived.Test.YtglobeajmdieaaaDoorIpH
import Derived.Test.YtglobeajmdieaaaDoorIpE
import Derived.Test.YtglobeajmdieaaaDoorIrG
import Derived.Laws.Rows
namespace Go.Proofs.YtglobeajmdieaaaDoor
open Go.RowKit Go.Sort
set_option linter.unusedVariables false
set_option linter.unusedSimpArgs false

def fnV (s : ByteArray) (pv : Value) (r : Int) (iv bv : Value) : Value := .agg #[.string s, pv, .int .i64 r, iv, bv]
theorem cut_ins {A : Option Addr} {n c : Nat} (h : 60 < n) (hn : n ≤ c) (W : World) : (Instr.slice 23 (.slice A n c) none (some (.int .i64 60)) none).run Tryd.prog W = .ok (.slice A 60 c) W := by
  rw [run_slice_h W 23 A n c (by simp [Program.elem, Tryd.underlying23]) .i64 60 (by omega) (by omega)]
  have : c ≠ 0 := by omega
  go_simp
theorem cut_blk {A : Option Addr} {n c : Nat} (h : 30 < n) (hn : n ≤ c) (W : World) : (Instr.slice 24 (.slice A n c) none (some (.int .i64 30)) none).run Tryd.prog W = .ok (.slice A 30 c) W := by
  rw [run_slice_h W 24 A n c (by simp [Program.elem, Tryd.underlying24]) .i64 30 (by omega) (by omega)]
  have : c ≠ 0 := by omega
  go_simp
set_option maxRecDepth 100000 in
set_option maxHeartbeats 4000000 in
theorem small_any (s : ByteArray) (PA : Option Addr) (pn pc : Nat) (r : Int) (IA : Option Addr) (n ic : Nat) (BA : Option Addr) (m bc : Nat) (is : List InD) (bs : List BkD) (w : World) (hri : RdI w.heap.size w (.slice IA n ic) is) (hrb : RdB w.heap.size w (.slice BA m bc) bs) (hic : n ≤ ic) (hbc : m ≤ bc) :
    Calls Tryd.prog 4 #[fnV s (.slice PA pn pc) r (.slice IA n ic) (.slice BA m bc)] w fun e w' => ∃ iv bv, e = .returned (fnV s (.slice PA pn pc) r iv bv) ∧ RdI w'.heap.size w' iv (is.take 60) ∧ RdB w'.heap.size w' bv (bs.take 30) ∧ Below w.heap.size w w' := by
  have hn : n = is.length := by obtain ⟨A, c, e, -⟩ := hri; injection e
  have hm : m = bs.length := by obtain ⟨A, c, e, -⟩ := hrb; injection e
  obtain ⟨W, hW, hbW, hzW, h0W⟩ := r_one_al w #[.string s, .slice PA pn pc, .int .i64 r, .slice IA n ic, .slice BA m bc] 26
  obtain ⟨V, hV, hbV, hzV, h0V⟩ := r_one_al W #[.string ⟨#[]⟩, .slice none 0 0, .int .i64 0, .slice none 0 0, .slice none 0 0] 26
  have hwV : Below w.heap.size w V := hbW.trans (hbV.mono (by omega))
  have h1V := (hbV.block w.heap.size (by omega)).trans h0W
  rw [hzW] at h0V
  obtain ⟨x0, x1, x2, x3, x4, -⟩ := cells5 h1V
  obtain ⟨y0, y1, y2, y3, y4, yf⟩ := cells5 h0V
  have l3 : V.heap[w.heap.size + 1]? = _ := h0V
  -- what is stored
  obtain ⟨X, hX⟩ : ∃ X, X = ((((V.setCell ⟨w.heap.size + 1, 0, none⟩ (.string s)).setCell ⟨w.heap.size + 1, 1, none⟩ (.slice PA pn pc)).setCell ⟨w.heap.size + 1, 2, none⟩ (.int .i64 r)).setCell ⟨w.heap.size + 1, 3, none⟩ (.slice IA n ic)).setCell ⟨w.heap.size + 1, 4, none⟩ (.slice BA m bc) := ⟨_, rfl⟩
  have hq : X.heap[w.heap.size + 1]? = some (.cells #[.string s, .slice PA pn pc, .int .i64 r, .slice IA n ic, .slice BA m bc] 26 (0, 0)) := by
    rw [hX]
    exact heap_put (heap_put (heap_put (heap_put (heap_put h0V 0 _) 1 _) 2 _) 3 _) 4 _
  have hwX : Below w.heap.size w X := by
    rw [hX]
    exact ((((hwV.setCell (p := ⟨w.heap.size + 1, 0, none⟩) (Nat.le_succ _) _).setCell (p := ⟨w.heap.size + 1, 1, none⟩) (Nat.le_succ _) _).setCell (p := ⟨w.heap.size + 1, 2, none⟩) (Nat.le_succ _) _).setCell (p := ⟨w.heap.size + 1, 3, none⟩) (Nat.le_succ _) _).setCell (p := ⟨w.heap.size + 1, 4, none⟩) (Nat.le_succ _) _
  have HW := Lib.hid hW
  have HV := Lib.hid hV
  have HX := Lib.hid hX
  have HwX := Lib.hid hwX
  have Hq := Lib.hid hq
  have Hri := Lib.hid hri
  have Hrb := Lib.hid hrb
  have Hn := Lib.hid hn
  have Hm := Lib.hid hm
  obtain ⟨z0, z1, z2, z3, z4, zf⟩ := cells5 hq
  unfold fnV
  clear hW hbW hzW h0W hV hbV hzV h0V hwV h1V l3 hX hwX hq hri hrb hn hm
  go_enter Tryd.func4, Tryd.ntmps4
  go_upto_region 1 with fail
  rw [← HW.out, ← HV.out]
  go_upto_region 2 with fail
  rw [← HX.out]
  have HX : Hid (Below w.heap.size w X ∧ X.heap[w.heap.size + 1]? = some (.cells #[.string s, .slice PA pn pc, .int .i64 r, .slice IA n ic, .slice BA m bc] 26 (0, 0))) := Lib.hid ⟨HwX.out, Hq.out⟩
  clear x0 x1 x2 x3 x4 y0 y1 y2 y3 y4 yf HwX Hq
  by_cases h6 : 60 < n
  · have d1 : decide ((n : Int) > 60) = true := decide_eq_true (by omega)
    have hc1 := cut_ins (A := IA) h6 hic
    go_upto_region 4 with fail
    have HX1 : Hid (Below w.heap.size w (X.setCell ⟨w.heap.size + 1, 3, none⟩ (.slice IA 60 ic)) ∧ (X.setCell ⟨w.heap.size + 1, 3, none⟩ (.slice IA 60 ic)).heap[w.heap.size + 1]? = some (.cells #[.string s, .slice PA pn pc, .int .i64 r, .slice IA 60 ic, .slice BA m bc] 26 (0, 0))) := Lib.hid ⟨HX.out.1.setCell (p := ⟨w.heap.size + 1, 3, none⟩) (Nat.le_succ _) _, heap_put HX.out.2 3 _⟩
    obtain ⟨X1, hX1⟩ : ∃ X1, X1 = X.setCell ⟨w.heap.size + 1, 3, none⟩ (.slice IA 60 ic) := ⟨_, rfl⟩
    rw [← hX1] at HX1 ⊢
    clear hX1 z0 z1 z2 z3 z4 zf
    obtain ⟨z0, z1, z2, z3, z4, zf⟩ := cells5 HX1.out.2
    by_cases h3 : 30 < m
    · have d2 : decide ((m : Int) > 30) = true := decide_eq_true (by omega)
      have hc2 := cut_blk (A := BA) h3 hbc
      go_upto_region 6 with fail
      have HX2 : Hid (Below w.heap.size w (X1.setCell ⟨w.heap.size + 1, 4, none⟩ (.slice BA 30 bc)) ∧ (X1.setCell ⟨w.heap.size + 1, 4, none⟩ (.slice BA 30 bc)).heap[w.heap.size + 1]? = some (.cells #[.string s, .slice PA pn pc, .int .i64 r, .slice IA 60 ic, .slice BA 30 bc] 26 (0, 0))) := Lib.hid ⟨HX1.out.1.setCell (p := ⟨w.heap.size + 1, 4, none⟩) (Nat.le_succ _) _, heap_put HX1.out.2 4 _⟩
      obtain ⟨X2, hX2⟩ : ∃ X2, X2 = X1.setCell ⟨w.heap.size + 1, 4, none⟩ (.slice BA 30 bc) := ⟨_, rfl⟩
      rw [← hX2] at HX2 ⊢
      clear hX2 z0 z1 z2 z3 z4 zf
      obtain ⟨z0, z1, z2, z3, z4, zf⟩ := cells5 HX2.out.2
      have hB : Below w.heap.size w X2 := HX2.out.1
      have hq := HX2.out.2
      obtain ⟨Z, hZ⟩ : ∃ Z, Z = ((((X2.setCell ⟨w.heap.size + 1, 0, none⟩ (.string s)).setCell ⟨w.heap.size + 1, 1, none⟩ (.slice PA pn pc)).setCell ⟨w.heap.size + 1, 2, none⟩ (.int .i64 r)).setCell ⟨w.heap.size + 1, 3, none⟩ (.slice IA 60 ic)).setCell ⟨w.heap.size + 1, 4, none⟩ (.slice BA 30 bc) := ⟨_, rfl⟩
      have hqZ : Z.heap[w.heap.size + 1]? = some (.cells #[.string s, .slice PA pn pc, .int .i64 r, .slice IA 60 ic, .slice BA 30 bc] 26 (0, 0)) := by
        rw [hZ]
        exact heap_put (heap_put (heap_put (heap_put (heap_put hq 0 _) 1 _) 2 _) 3 _) 4 _
      have hBZ : Below w.heap.size w Z := by
        rw [hZ]
        exact ((((hB.setCell (p := ⟨w.heap.size + 1, 0, none⟩) (Nat.le_succ _) _).setCell (p := ⟨w.heap.size + 1, 1, none⟩) (Nat.le_succ _) _).setCell (p := ⟨w.heap.size + 1, 2, none⟩) (Nat.le_succ _) _).setCell (p := ⟨w.heap.size + 1, 3, none⟩) (Nat.le_succ _) _).setCell (p := ⟨w.heap.size + 1, 4, none⟩) (Nat.le_succ _) _
      have HZ := Lib.hid hZ
      have HqZ := Lib.hid hqZ
      have HBZ := Lib.hid hBZ
      clear hZ hqZ hBZ hB hq
      go_wp2
      rw [← HZ.out]
      try simp only [Exit.inBlock, Exit.then]
      refine bodyPost_ret (results_cell_row rfl _ _ (w.heap.size + 1) _ _ _ _ rfl HqZ.out Tryd.underlying26 rfl (by kernel_rfl)) rfl ?_
      have hi := (Hri.out.keep HBZ.out (kept_below HBZ.out)).mono HBZ.out.size
      have hb := (Hrb.out.keep HBZ.out (kept_below HBZ.out)).mono HBZ.out.size
      refine ⟨_, _, rfl, hi.cut 60 (by rw [← Hn.out]; omega), hb.cut 30 (by rw [← Hm.out]; omega), HBZ.out⟩
    · have d2 : decide ((m : Int) > 30) = false := decide_eq_false (by omega)
      go_upto_region 6 with fail
      have hB : Below w.heap.size w X1 := HX1.out.1
      have hq := HX1.out.2
      obtain ⟨Z, hZ⟩ : ∃ Z, Z = ((((X1.setCell ⟨w.heap.size + 1, 0, none⟩ (.string s)).setCell ⟨w.heap.size + 1, 1, none⟩ (.slice PA pn pc)).setCell ⟨w.heap.size + 1, 2, none⟩ (.int .i64 r)).setCell ⟨w.heap.size + 1, 3, none⟩ (.slice IA 60 ic)).setCell ⟨w.heap.size + 1, 4, none⟩ (.slice BA m bc) := ⟨_, rfl⟩
      have hqZ : Z.heap[w.heap.size + 1]? = some (.cells #[.string s, .slice PA pn pc, .int .i64 r, .slice IA 60 ic, .slice BA m bc] 26 (0, 0)) := by
        rw [hZ]
        exact heap_put (heap_put (heap_put (heap_put (heap_put hq 0 _) 1 _) 2 _) 3 _) 4 _
      have hBZ : Below w.heap.size w Z := by
        rw [hZ]
        exact ((((hB.setCell (p := ⟨w.heap.size + 1, 0, none⟩) (Nat.le_succ _) _).setCell (p := ⟨w.heap.size + 1, 1, none⟩) (Nat.le_succ _) _).setCell (p := ⟨w.heap.size + 1, 2, none⟩) (Nat.le_succ _) _).setCell (p := ⟨w.heap.size + 1, 3, none⟩) (Nat.le_succ _) _).setCell (p := ⟨w.heap.size + 1, 4, none⟩) (Nat.le_succ _) _
      have HZ := Lib.hid hZ
      have HqZ := Lib.hid hqZ
      have HBZ := Lib.hid hBZ
      clear hZ hqZ hBZ hB hq
      go_wp2
      rw [← HZ.out]
      try simp only [Exit.inBlock, Exit.then]
      refine bodyPost_ret (results_cell_row rfl _ _ (w.heap.size + 1) _ _ _ _ rfl HqZ.out Tryd.underlying26 rfl (by kernel_rfl)) rfl ?_
      have hi := (Hri.out.keep HBZ.out (kept_below HBZ.out)).mono HBZ.out.size
      have hb := (Hrb.out.keep HBZ.out (kept_below HBZ.out)).mono HBZ.out.size
      refine ⟨_, _, rfl, hi.cut 60 (by rw [← Hn.out]; omega), (by rw [List.take_of_length_le (by rw [← Hm.out]; omega)]; exact hb), HBZ.out⟩
  · have d1 : decide ((n : Int) > 60) = false := decide_eq_false (by omega)
    go_upto_region 4 with fail
    by_cases h3 : 30 < m
    · have d2 : decide ((m : Int) > 30) = true := decide_eq_true (by omega)
      have hc2 := cut_blk (A := BA) h3 hbc
      go_upto_region 6 with fail
      have HX2 : Hid (Below w.heap.size w (X.setCell ⟨w.heap.size + 1, 4, none⟩ (.slice BA 30 bc)) ∧ (X.setCell ⟨w.heap.size + 1, 4, none⟩ (.slice BA 30 bc)).heap[w.heap.size + 1]? = some (.cells #[.string s, .slice PA pn pc, .int .i64 r, .slice IA n ic, .slice BA 30 bc] 26 (0, 0))) := Lib.hid ⟨HX.out.1.setCell (p := ⟨w.heap.size + 1, 4, none⟩) (Nat.le_succ _) _, heap_put HX.out.2 4 _⟩
      obtain ⟨X2, hX2⟩ : ∃ X2, X2 = X.setCell ⟨w.heap.size + 1, 4, none⟩ (.slice BA 30 bc) := ⟨_, rfl⟩
      rw [← hX2] at HX2 ⊢
      clear hX2 z0 z1 z2 z3 z4 zf
      obtain ⟨z0, z1, z2, z3, z4, zf⟩ := cells5 HX2.out.2
      have hB : Below w.heap.size w X2 := HX2.out.1
      have hq := HX2.out.2
      obtain ⟨Z, hZ⟩ : ∃ Z, Z = ((((X2.setCell ⟨w.heap.size + 1, 0, none⟩ (.string s)).setCell ⟨w.heap.size + 1, 1, none⟩ (.slice PA pn pc)).setCell ⟨w.heap.size + 1, 2, none⟩ (.int .i64 r)).setCell ⟨w.heap.size + 1, 3, none⟩ (.slice IA n ic)).setCell ⟨w.heap.size + 1, 4, none⟩ (.slice BA 30 bc) := ⟨_, rfl⟩
      have hqZ : Z.heap[w.heap.size + 1]? = some (.cells #[.string s, .slice PA pn pc, .int .i64 r, .slice IA n ic, .slice BA 30 bc] 26 (0, 0)) := by
        rw [hZ]
        exact heap_put (heap_put (heap_put (heap_put (heap_put hq 0 _) 1 _) 2 _) 3 _) 4 _
      have hBZ : Below w.heap.size w Z := by
        rw [hZ]
        exact ((((hB.setCell (p := ⟨w.heap.size + 1, 0, none⟩) (Nat.le_succ _) _).setCell (p := ⟨w.heap.size + 1, 1, none⟩) (Nat.le_succ _) _).setCell (p := ⟨w.heap.size + 1, 2, none⟩) (Nat.le_succ _) _).setCell (p := ⟨w.heap.size + 1, 3, none⟩) (Nat.le_succ _) _).setCell (p := ⟨w.heap.size + 1, 4, none⟩) (Nat.le_succ _) _
      have HZ := Lib.hid hZ
      have HqZ := Lib.hid hqZ
      have HBZ := Lib.hid hBZ
      clear hZ hqZ hBZ hB hq
      go_wp2
      rw [← HZ.out]
      try simp only [Exit.inBlock, Exit.then]
      refine bodyPost_ret (results_cell_row rfl _ _ (w.heap.size + 1) _ _ _ _ rfl HqZ.out Tryd.underlying26 rfl (by kernel_rfl)) rfl ?_
      have hi := (Hri.out.keep HBZ.out (kept_below HBZ.out)).mono HBZ.out.size
      have hb := (Hrb.out.keep HBZ.out (kept_below HBZ.out)).mono HBZ.out.size
      refine ⟨_, _, rfl, (by rw [List.take_of_length_le (by rw [← Hn.out]; omega)]; exact hi), hb.cut 30 (by rw [← Hm.out]; omega), HBZ.out⟩
    · have d2 : decide ((m : Int) > 30) = false := decide_eq_false (by omega)
      go_upto_region 6 with fail
      have hB : Below w.heap.size w X := HX.out.1
      have hq := HX.out.2
      obtain ⟨Z, hZ⟩ : ∃ Z, Z = ((((X.setCell ⟨w.heap.size + 1, 0, none⟩ (.string s)).setCell ⟨w.heap.size + 1, 1, none⟩ (.slice PA pn pc)).setCell ⟨w.heap.size + 1, 2, none⟩ (.int .i64 r)).setCell ⟨w.heap.size + 1, 3, none⟩ (.slice IA n ic)).setCell ⟨w.heap.size + 1, 4, none⟩ (.slice BA m bc) := ⟨_, rfl⟩
      have hqZ : Z.heap[w.heap.size + 1]? = some (.cells #[.string s, .slice PA pn pc, .int .i64 r, .slice IA n ic, .slice BA m bc] 26 (0, 0)) := by
        rw [hZ]
        exact heap_put (heap_put (heap_put (heap_put (heap_put hq 0 _) 1 _) 2 _) 3 _) 4 _
      have hBZ : Below w.heap.size w Z := by
        rw [hZ]
        exact ((((hB.setCell (p := ⟨w.heap.size + 1, 0, none⟩) (Nat.le_succ _) _).setCell (p := ⟨w.heap.size + 1, 1, none⟩) (Nat.le_succ _) _).setCell (p := ⟨w.heap.size + 1, 2, none⟩) (Nat.le_succ _) _).setCell (p := ⟨w.heap.size + 1, 3, none⟩) (Nat.le_succ _) _).setCell (p := ⟨w.heap.size + 1, 4, none⟩) (Nat.le_succ _) _
      have HZ := Lib.hid hZ
      have HqZ := Lib.hid hqZ
      have HBZ := Lib.hid hBZ
      clear hZ hqZ hBZ hB hq
      go_wp2
      rw [← HZ.out]
      try simp only [Exit.inBlock, Exit.then]
      refine bodyPost_ret (results_cell_row rfl _ _ (w.heap.size + 1) _ _ _ _ rfl HqZ.out Tryd.underlying26 rfl (by kernel_rfl)) rfl ?_
      have hi := (Hri.out.keep HBZ.out (kept_below HBZ.out)).mono HBZ.out.size
      have hb := (Hrb.out.keep HBZ.out (kept_below HBZ.out)).mono HBZ.out.size
      refine ⟨_, _, rfl, (by rw [List.take_of_length_le (by rw [← Hn.out]; omega)]; exact hi), (by rw [List.take_of_length_le (by rw [← Hm.out]; omega)]; exact hb), HBZ.out⟩
end Go.Proofs.YtglobeajmdieaaaDoor
