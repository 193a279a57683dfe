/-
  The checker, over a program of one function.
  The sixth law's Tree, where the text is a program of main alone.
-/
import Derived.Test.YtlgpbllkhbgppaaGreatDoorJn29
import Derived.Test.YtlgpbllkhbgppaaGreatDoorJn39
import Derived.Deep.AppendLies
import Derived.Deep.RegionHeld3
namespace Go.Proofs.YtlgpbllkhbgppaaGreatDoor
set_option linter.unusedVariables false
set_option linter.unusedSimpArgs false
open Go.RowKit

theorem five_al (w : World) (x0 x1 x2 x4 : Array Value) (T0 T1 T2 T4 : TypeId) : ∃ W, W = ((((w.alloc (.cells x0 T0)).alloc (.cells x1 T1)).alloc (.cells x2 T2)).alloc (.map #[] 0)).alloc (.cells x4 T4) ∧ Below w.heap.size w W ∧ W.heap.size = w.heap.size + 5 ∧ W.heap[w.heap.size]? = some (.cells x0 T0 (0, 0)) ∧ W.heap[w.heap.size + 1]? = some (.cells x1 T1 (0, 0)) ∧ W.heap[w.heap.size + 2]? = some (.cells x2 T2 (0, 0)) ∧ W.heap[w.heap.size + 3]? = some (.map #[] 0) ∧ W.heap[w.heap.size + 4]? = some (.cells x4 T4 (0, 0)) := by
  obtain ⟨w2, e2, b2, z2, h0, h1⟩ := two_al w x0 x1 T0 T1
  obtain ⟨w3, e3, b3, z3, h2⟩ := ch_one_al w2 x2 T2
  have h3 := heap_alloc_new w3 (.map #[] 0)
  have b4 : Below w3.heap.size w3 (w3.alloc (.map #[] 0)) := (Below.refl _ _).alloc (Nat.le_refl _) _
  obtain ⟨w5, e5, b5, z5, h4⟩ := ch_one_al (w3.alloc (.map #[] 0)) x4 T4
  have z4 : (w3.alloc (.map #[] 0)).heap.size = w3.heap.size + 1 := by simp
  rw [z4] at b5 z5 h4
  refine ⟨w5, by rw [e5, e3, e2], b2.trans ((b3.mono (by omega)).trans ((b4.mono (by omega)).trans (b5.mono (by omega)))), by omega, ?_, ?_, ?_, ?_, ?_⟩
  · exact (b5.block _ (by omega)).trans ((b4.block _ (by omega)).trans ((b3.block _ (by omega)).trans h0))
  · exact (b5.block _ (by omega)).trans ((b4.block _ (by omega)).trans ((b3.block _ (by omega)).trans h1))
  · rw [z2] at h2
    exact (b5.block _ (by omega)).trans ((b4.block _ (by omega)).trans h2)
  · rw [z3, z2] at h3
    exact (b5.block _ (by omega)).trans h3
  · rw [z3, z2] at h4
    exact h4
theorem infoFn6 : (Tryz.prog.info? 64).map (fun i => (i.zero, i.size, i.bytes)) = some (some (.agg #[.string ⟨#[]⟩, .int .i64 0, .slice none 0 0, .int .i64 0, .slice none 0 0, .int .i64 0]), 6, 88) := by kernel_rfl
/-- What is told of main. -/
def fuT (at_ : Int) (l : List St) : Fu := ⟨mainB, at_, [], 1, l.map tyS, 0⟩
/-- Behind the loop. -/
def Mid (w : World) (r o fc bo : Nat) (at_ v0 : Int) (PA BA : Option Addr) (pc bc gp cp : Nat) (l : List St) (W : World) : Prop :=
  (∃ V I B N, CkB W (w.heap.size + 4) (.slice (some ⟨r, o, none⟩) 1 fc) (w.heap.size + 3) (.int .i64 1) V I B N 0) ∧ Main1 W r o at_ v0 PA BA pc l.length bc ∧ W.heap[w.heap.size + 3]? = some (.map #[⟨.string mainB, .int .i64 0, 0⟩] 1) ∧ W.cell? ⟨bo, 0, none⟩ = some (.slice (some ⟨gp, 0, none⟩) 1 cp) ∧
  W.heap[w.heap.size + 1]? = some (.cells #[.slice none 0 0] 24 (0, 0)) ∧ W.heap[w.heap.size + 2]? = some (.cells #[.int .i64 0, .int .i64 0] 34 (0, 0)) ∧ RdFs W (From (w.heap.size + 5) W) (some ⟨gp, 0, none⟩) [fuT at_ l] ∧ Below w.heap.size w W
theorem chk_mid {w D w5 w7 : World} {r o fc bo : Nat} {at_ v0 : Int} {PA BA : Option Addr} {pc bc gp cp : Nat} {l : List St} {K : Option Addr} {c : Nat} {V I B : Value} {N : Int} (hr : r < w.heap.size) (hf : Main1 w r o at_ v0 PA BA pc l.length bc) (hbo : w.heap.size + 5 ≤ bo) (hboD : bo < D.heap.size)
    (hm : D.heap[w.heap.size + 3]? = some (.map #[⟨.string mainB, .int .i64 0, 0⟩] 1)) (ho : D.heap[bo]? = some (.cells #[.slice none 0 0] 24 (0, 0))) (h1 : D.heap[w.heap.size + 1]? = some (.cells #[.slice none 0 0] 24 (0, 0))) (h2 : D.heap[w.heap.size + 2]? = some (.cells #[.int .i64 0, .int .i64 0] 34 (0, 0))) (hb : Below w.heap.size w D)
    (hS : RdSs w5 (From D.heap.size w5) K 0 (l.map tyS)) (hC : CkB w5 (w.heap.size + 4) (.slice (some ⟨r, o, none⟩) 1 fc) (w.heap.size + 3) (.int .i64 1) V I B N 0) (hbut : But (w.heap.size + 4) D w5)
    (hown : w7.ownsRow (w.heap.size + 5) 64 6 (.slice (some ⟨gp, 0, none⟩) 1 cp) 1 [.string mainB, .int .i64 at_, .slice none 0 0, .int .i64 1, .slice K l.length c, .int .i64 0]) (hg : (w5.alloc (.cells #[.string mainB, .int .i64 at_, .slice none 0 0, .int .i64 1, .slice K l.length c, .int .i64 0] 64)).grownBy w7 none) (hgp : gp = w5.heap.size + 1) : Mid w r o fc bo at_ v0 PA BA pc bc gp cp l (w7.setCell ⟨bo, 0, none⟩ (.slice (some ⟨gp, 0, none⟩) 1 cp)) := by
  have z5 := hbut.size
  have hk7 : ∀ k, k < w5.heap.size → w7.heap[k]? = w5.heap[k]? := fun k hk => (hg.block k (by simp; omega) (by simp)).trans (Below.heap_alloc _ _ _ hk)
  have hkW : ∀ k, k < w5.heap.size → k ≠ bo → (w7.setCell ⟨bo, 0, none⟩ (.slice (some ⟨gp, 0, none⟩) 1 cp)).heap[k]? = w5.heap[k]? := fun k hk hne => (Below.heap_setCell _ _ _ _ (by exact hne)).trans (hk7 k hk)
  have hkD : ∀ k, k < D.heap.size → k ≠ bo → k ≠ w.heap.size + 4 → (w7.setCell ⟨bo, 0, none⟩ (.slice (some ⟨gp, 0, none⟩) 1 cp)).heap[k]? = D.heap[k]? := fun k hk hne hng => (hkW k (by omega) hne).trans (hbut.block k hk hng)
  have z7 : w5.heap.size + 1 ≤ w7.heap.size := by have := hg.size; simpa using this
  have zW : (w7.setCell ⟨bo, 0, none⟩ (.slice (some ⟨gp, 0, none⟩) 1 cp)).heap.size = w7.heap.size := set_size _ _ _ _
  have hgl := (hown.lt gp rfl).2
  have hBW : Below w.heap.size w (w7.setCell ⟨bo, 0, none⟩ (.slice (some ⟨gp, 0, none⟩) 1 cp)) := by
    have b1 : Below w.heap.size w w5 := hbut.below hb (by omega) hb.size
    have b2 : Below w.heap.size w (w5.alloc (.cells #[.string mainB, .int .i64 at_, .slice none 0 0, .int .i64 1, .slice K l.length c, .int .i64 0] 64)) := b1.alloc b1.size _
    exact (b2.grown hg (by have := b1.size; simp; omega) (fun k hk => by simp at hk)).setCell (by show w.heap.size ≤ bo; omega) _
  refine ⟨⟨V, I, B, N, hC.of_eq (hkW _ (by omega) (by omega))⟩, hf.up (hBW.block r hr), (hkD _ (by omega) (by omega) (by omega)).trans hm, ?_, (hkD _ (by omega) (by omega) (by omega)).trans h1, (hkD _ (by omega) (by omega) (by omega)).trans h2, ?_, hBW⟩
  · have := heap_set ((hk7 bo (by omega)).trans ((hbut.block bo hboD (by omega)).trans ho)) 0 (.slice (some ⟨gp, 0, none⟩) 1 cp)
    exact Lib.cell_of_heap this 0
  · intro _
    refine ⟨gp, 0, rfl, ⟨by omega, by rw [zW]; exact hgl⟩, fun i f hi => ?_⟩
    have hi0 : i = 0 := by
      have := (List.getElem?_eq_some_iff.mp hi).1
      simpa using this
    subst hi0
    have hfe : f = fuT at_ l := by simpa using hi.symm
    subst hfe
    have hc : ∀ j, j < 6 → (w7.setCell ⟨bo, 0, none⟩ (.slice (some ⟨gp, 0, none⟩) 1 cp)).cell? ⟨gp, j, none⟩ = ([.string mainB, .int .i64 at_, .slice none 0 0, .int .i64 1, .slice K l.length c, .int .i64 0] : List Value)[j]? := fun j hj => (set_far (by show gp ≠ bo; omega)).trans (hown.cellAt j (by omega))
    simp only [Nat.zero_mul, Nat.zero_add]
    refine ⟨hc 0 (by omega), hc 1 (by omega), ⟨none, 0, hc 2 (by omega), fun h => by simp [fuT] at h⟩, hc 3 (by omega), ⟨K, c, ?_, ?_⟩, hc 5 (by omega)⟩
    · refine (hc 4 (by omega)).trans ?_
      simp [fuT]
    · refine RdSs.more (fun x hx => ⟨by have := hx.1; omega, by rw [zW]; have := hx.2; omega⟩) _ _ _ (RdSs.keep (w' := w7.setCell ⟨bo, 0, none⟩ (.slice (some ⟨gp, 0, none⟩) 1 cp)) (fun q hq => World.cell?_of_block (hkW _ hq.2 (by have := hq.1; omega))) _ _ _ hS)
theorem check_end {w W8 w9 W' : World} {gp cp : Nat} {f : Fu} (hfar : ∀ x, x ≠ w.heap.size + 1 → x ≠ w.heap.size + 1 + 1 → W'.heap[x]? = w9.heap[x]?) (hbel : Below w.heap.size w9 W') (hR : RdFs W8 (From (w.heap.size + 5) W8) (some ⟨gp, 0, none⟩) [f]) (h8 : Below w.heap.size w W8) (h9 : Below W8.heap.size W8 w9) :
    ∃ K c, Ending.returned (.tuple #[.agg #[.slice (some ⟨gp, 0, none⟩) 1 cp], .agg #[.int .i64 0, .int .i64 0]]) = .returned (.tuple #[.agg #[.slice K 1 c], .agg #[.int .i64 0, .int .i64 0]]) ∧ RdFs W' (From w.heap.size W') K [f] ∧ Below w.heap.size w W' := by
  have z9 := h9.size
  have zW := hbel.size
  refine ⟨_, _, rfl, ?_, (h8.trans (h9.mono h8.size)).trans hbel⟩
  exact RdFs.more (fun x hx => ⟨by have := hx.1; omega, by have := hx.2; omega⟩) (RdFs.keep (w' := W') (fun q hq => (World.cell?_of_block (hfar _ (by have := hq.1; omega) (by have := hq.1; omega))).trans (h9.cell hq.2)) hR)
set_option maxRecDepth 100000 in
set_option maxHeartbeats 8000000 in
theorem check_c (l : List St) (hl : ∀ x ∈ l, inS x) (m : Nat) (hm : l.length = m + 1) (hmm : m ≤ 1000) (a9 n9 p9 : Int) (s9 : ByteArray) (k9 : List Ex) (hlast : l[m]? = some (.mk 9 a9 n9 s9 p9 k9 [] [])) (r o fc : Nat) (at_ v0 : Int) (PA BA : Option Addr) (pc bc : Nat) (S : Nat → Prop) (w : World)
    (hr : r < w.heap.size) (hf : Main1 w r o at_ v0 PA BA pc l.length bc) (hS : ∀ b, S b → b < w.heap.size) (hR : RdSs w S BA 0 l) :
    Calls Tryz.prog 8 #[.agg #[.slice (some ⟨r, o, none⟩) 1 fc]] w fun e w' => ∃ K c, e = .returned (.tuple #[.agg #[.slice K 1 c], .agg #[.int .i64 0, .int .i64 0]]) ∧ RdFs w' (From w.heap.size w') K [fuT at_ l] ∧ Below w.heap.size w w' := by
  have hmk := @run_makeMap Tryz.prog
  obtain ⟨W, hW, hbW, hzW, h0W, h1W, h2W, h3W, h4W⟩ := five_al w #[.slice (some ⟨r, o, none⟩) 1 fc] #[.slice none 0 0] #[.int .i64 0, .int .i64 0] #[.slice (some ⟨r, o, none⟩) 1 fc, .map (some (w.heap.size + 3)), .int .i64 0, .int .i64 0, .int .i64 0, .map none, .map none, .slice none 0 0, .int .i64 0, .int .i64 0] 24 24 34 60
  have hN := nameFns_c (w.heap.size + 4) (w.heap.size + 3) r o fc (.int .i64 0) (.map none) (.map none) (.slice none 0 0) 0 0 at_ v0 PA BA pc l.length bc W h4W (by omega) (hf.up (hbW.block r hr)) h3W (by omega)
  have c0W := Lib.cell_of_heap h0W 0
  have H0W := Lib.hid h0W
  have HbW := Lib.hid hbW
  have HzW := Lib.hid hzW
  have H1W := Lib.hid h1W
  have H2W := Lib.hid h2W
  have H4W := Lib.hid h4W
  have Hf := Lib.hid hf
  have HR := Lib.hid hR
  have HS := Lib.hid hS
  have HL := Lib.hid hl
  have Hm := Lib.hid hm
  have Hlast := Lib.hid hlast
  clear hbW hzW h0W h1W h2W h3W h4W hf hR hS hl hm hlast
  obtain ⟨i0, hi, hz0, hz1, hz2⟩ := info_parts infoFn6
  have Hi := Lib.hid hi
  have HiA := Lib.hid hz0
  have HiB := Lib.hid hz1
  have HiC := Lib.hid hz2
  clear hi hz0 hz1 hz2
  go_enter Tryz.func8, Tryz.ntmps8
  go_upto_region 2 with fail
  rw [← hW]
  clear hW
  go_wp2_with (go_at_call 14; refine hN.mono ?_)
  clear hN c0W
  rintro e w2 ⟨rfl, hb2, hm2⟩
  have hzW := HzW.out
  have h0 := (hb2.block w.heap.size (by omega) (by omega)).trans H0W.out
  have h1 := (hb2.block (w.heap.size + 1) (by omega) (by omega)).trans H1W.out
  have h2 := (hb2.block (w.heap.size + 2) (by omega) (by omega)).trans H2W.out
  have h4 := (hb2.block (w.heap.size + 4) (by omega) (by omega)).trans H4W.out
  have hw2 : Below w.heap.size w w2 := hb2.below HbW.out (by omega) (by omega)
  have hz2 : w.heap.size + 5 ≤ w2.heap.size := by have := hb2.size; omega
  obtain ⟨w3, hw3, hb3, hz3, ho3⟩ := ch_one_al w2 #[.slice none 0 0] 24
  obtain ⟨w4, hw4, hb4, hz4, ht4⟩ := ch_one_al w3 #[.string mainB, .int .i64 at_, .slice PA 0 pc, .int .i64 1, .slice BA l.length bc, .int .i64 v0] 64
  have hb24 : Below w2.heap.size w2 w4 := hb3.trans (hb4.mono (by omega))
  have c0 := Lib.cell_of_heap h0 0
  have c03 : w3.cell? ⟨w.heap.size, 0, none⟩ = some (.slice (some ⟨r, o, none⟩) 1 fc) := (hb3.cell (p := ⟨w.heap.size, 0, none⟩) (by show w.heap.size < _; omega)).trans c0
  obtain ⟨x0, x1, x2, x3, x4, x5⟩ := Hf.out.up ((hb3.block r (by omega)).trans (hw2.block r hr))
  have hbw4 : Below w.heap.size w w4 := hw2.trans (hb24.mono hw2.size)
  obtain ⟨D, hD⟩ : ∃ D, D = w4.drew := ⟨_, rfl⟩
  have hbD : Below w.heap.size w D := by rw [hD]; exact hbw4.drew
  have hDk : ∀ k : Nat, D.heap[k]? = w4.heap[k]? := by rw [hD]; intro k; rfl
  have hDz : D.heap.size = w2.heap.size + 2 := by rw [hD]; show w4.heap.size = _; omega
  have h1D := (hDk (_ : Nat)).trans ((hb24.block (w.heap.size + 1) (by omega)).trans h1)
  have h2D := (hDk (_ : Nat)).trans ((hb24.block (w.heap.size + 2) (by omega)).trans h2)
  have hmD := (hDk (_ : Nat)).trans ((hb24.block (w.heap.size + 3) (by omega)).trans hm2)
  have h4D := (hDk (_ : Nat)).trans ((hb24.block (w.heap.size + 4) (by omega)).trans h4)
  have hoD := (hDk (_ : Nat)).trans ((hb4.block w2.heap.size (by omega)).trans ho3)
  have htD := (hDk (_ : Nat)).trans ht4
  have gd : D.cell? ⟨w3.heap.size, 0, none⟩ = some (.string mainB) ∧ D.cell? ⟨w3.heap.size, 1, none⟩ = some (.int .i64 at_) ∧ D.cell? ⟨w3.heap.size, 2, none⟩ = some (.slice PA 0 pc) ∧ D.cell? ⟨w3.heap.size, 3, none⟩ = some (.int .i64 1) ∧ D.cell? ⟨w3.heap.size, 4, none⟩ = some (.slice BA l.length bc) ∧ D.cell? ⟨w3.heap.size, 5, none⟩ = some (.int .i64 v0) := ⟨Lib.cell_of_heap htD 0, Lib.cell_of_heap htD 1, Lib.cell_of_heap htD 2, Lib.cell_of_heap htD 3, Lib.cell_of_heap htD 4, Lib.cell_of_heap htD 5⟩
  have od : D.cell? ⟨w2.heap.size, 0, none⟩ = some (.slice none 0 0) := Lib.cell_of_heap hoD 0
  have hF := fn_c mainB (by decide) l HL.out m Hm.out hmm a9 n9 p9 s9 k9 Hlast.out (w.heap.size + 4) (w.heap.size + 3) S (.slice (some ⟨r, o, none⟩) 1 fc) (.int .i64 0) (.map none) (.map none) (.slice none 0 0) 0 0 at_ v0 PA BA pc bc D (fun b hb => by have := HS.out b hb; omega) (fun b hb => by have := HS.out b hb; omega) (RdSs.keep (w' := D) (fun q hq => hbD.cell (HS.out _ hq)) _ _ _ HR.out) h4D
  have hall : ∀ w5 K c V I B N, RdSs w5 (From D.heap.size w5) K 0 (l.map tyS) → CkB w5 (w.heap.size + 4) (.slice (some ⟨r, o, none⟩) 1 fc) (w.heap.size + 3) (.int .i64 1) V I B N 0 → But (w.heap.size + 4) D w5 → (w5.cell? ⟨w2.heap.size, 0, none⟩ = some (.slice none 0 0) ∧ w5.frozen? ⟨w2.heap.size, 0, none⟩ = false ∧ (w5.cell? ⟨w3.heap.size, 0, none⟩ = some (.string mainB) ∧ w5.cell? ⟨w3.heap.size, 1, none⟩ = some (.int .i64 at_) ∧ w5.cell? ⟨w3.heap.size, 2, none⟩ = some (.slice PA 0 pc) ∧ w5.cell? ⟨w3.heap.size, 3, none⟩ = some (.int .i64 1) ∧ w5.cell? ⟨w3.heap.size, 4, none⟩ = some (.slice BA l.length bc) ∧ w5.cell? ⟨w3.heap.size, 5, none⟩ = some (.int .i64 v0)) ∧ w2.heap.size + 2 ≤ w5.heap.size) ∧ ∀ w7 gp cp, w7.ownsRow (w.heap.size + 5) 64 6 (.slice (some ⟨gp, 0, none⟩) 1 cp) 1 [.string mainB, .int .i64 at_, .slice none 0 0, .int .i64 1, .slice K l.length c, .int .i64 0] → (w5.alloc (.cells #[.string mainB, .int .i64 at_, .slice none 0 0, .int .i64 1, .slice K l.length c, .int .i64 0] 64)).grownBy w7 none → gp = w5.heap.size + 1 → Mid w r o fc w2.heap.size at_ v0 PA BA pc bc gp cp l (w7.setCell ⟨w2.heap.size, 0, none⟩ (.slice (some ⟨gp, 0, none⟩) 1 cp)) := fun w5 K c V I B N q1 q2 q3 => by
    have ho5 := (q3.block w2.heap.size (by omega) (by omega)).trans hoD
    have ht5 := (q3.block w3.heap.size (by omega) (by omega)).trans htD
    exact ⟨⟨Lib.cell_of_heap ho5 0, Lib.frozen_of_heap ho5 0, ⟨Lib.cell_of_heap ht5 0, Lib.cell_of_heap ht5 1, Lib.cell_of_heap ht5 2, Lib.cell_of_heap ht5 3, Lib.cell_of_heap ht5 4, Lib.cell_of_heap ht5 5⟩, by have := q3.size; omega⟩, fun w7 gp cp q4 q5 q6 => chk_mid hr Hf.out hz2 (by omega) hmD hoD h1D h2D hbD q1 q2 q3 q4 q5 q6⟩
  have Hall := Lib.hid hall
  have HF := Lib.hid hF
  have Hz2 := Lib.hid hz2
  have HZ3 := Lib.hid hz3
  clear h0 h1 h2 h4 hw2 hb3 hz3 ho3 hb4 hz4 ht4 hb24 hbw4 hbD hDk hDz h1D h2D hmD h4D hoD htD hall hF hb2 hm2
  have HW3 := Lib.hid hw3
  have HW4 := Lib.hid hw4
  have HD := Lib.hid hD
  clear hw3 hw4 hD
  go_upto_region 4 with fail
  rw [← HW3.out]
  go_upto_region 5 with fail
  refine wp_loop_rounds 2 ?_
  rw [rounds_succ]
  go_upto_region 7 with fail
  rw [← HW4.out]
  have gd' := gd
  rw [HD.out] at gd od
  have HFw := Lib.hid HF.out
  have hFw := HF.out
  rw [HD.out] at hFw
  refine wp_region_held_drew (S := fun w' => w'.cell? ⟨w3.heap.size, 0, none⟩ = some (.string mainB) ∧ w'.cell? ⟨w3.heap.size, 1, none⟩ = some (.int .i64 at_) ∧ w'.cell? ⟨w3.heap.size, 2, none⟩ = some (.slice PA 0 pc) ∧ w'.cell? ⟨w3.heap.size, 3, none⟩ = some (.int .i64 1) ∧ w'.cell? ⟨w3.heap.size, 4, none⟩ = some (.slice BA l.length bc) ∧ w'.cell? ⟨w3.heap.size, 5, none⟩ = some (.int .i64 v0)) (by kernel_rfl) gd (fun hHeld => ?_)
  refine wpAnyH_take (i := 0) (v := ?_) rfl (by kernel_rfl) (by kernel_rfl) (by kernel_rfl) (fun _ _ _ h => h) (Or.inl ⟨by rfl, ?_⟩) (by assumption) ?_
  rotate_left
  · (intro w hSw; (try dsimp only at hSw); first | (go_simp; done) | (go_simp; with_reducible rfl))
  try simp only [Act.put, List.setIfInBounds_toArray, List.set_cons_zero, List.set_cons_succ]
  refine wpAnyH_take (i := 2) (v := ?_) rfl (by kernel_rfl) (by kernel_rfl) (by kernel_rfl) (fun _ _ _ h => h) (Or.inl ⟨by rfl, ?_⟩) (by assumption) ?_
  rotate_left
  · (intro w hSw; (try dsimp only at hSw); first | (go_simp; done) | (go_simp; with_reducible rfl))
  try simp only [Act.put, List.setIfInBounds_toArray, List.set_cons_zero, List.set_cons_succ]
  refine wpAnyH_ready (rs := [1, 3]) (by kernel_rfl) (by simp) ?_
  refine AllReadyH.cons rfl (fun K hK => ?_) (AllReadyH.cons rfl (fun K hK => ?_) (AllReadyH.nil))
  · go_simp
    refine hK.out _ _ ?_ (fun hHeld => ?_)
    · ((try dsimp only); first | with_reducible exact gd | with_reducible exact g5 | with_reducible exact g6 | with_reducible exact g7 | with_reducible exact g8)
    clear hK K
    try simp only [Act.put, List.setIfInBounds_toArray, List.set_cons_zero, List.set_cons_succ]
    refine wpAnyH_ready (rs := [3]) (by kernel_rfl) (by simp) ?_
    refine AllReadyH.cons rfl (fun K hK => ?_) (AllReadyH.nil)
    go_simp
    refine hFw.mono ?_
    rintro e w5 ⟨KK, c, V, I, B, N, rfl, hS5, hC5, hb5⟩
    rw [← HD.out] at hb5 hS5
    obtain ⟨⟨o5, of5, g5, z5⟩, hM⟩ := Hall.out w5 KK c V I B N hS5 hC5 hb5
    have HM := Lib.hid hM
    have HOW := Lib.hid (World.ownsRow_nil (w5.alloc (.cells #[.string mainB, .int .i64 at_, .slice none 0 0, .int .i64 1, .slice KK l.length c, .int .i64 0] 64)) (w.heap.size + 5) 64 6)
    have HNW := Lib.hid (World.news_of_block (heap_alloc_new w5 (.cells #[.string mainB, .int .i64 at_, .slice none 0 0, .int .i64 1, .slice KK l.length c, .int .i64 0] 64)))
    have HO : Hid (∀ u ∈ ([.string mainB, .int .i64 at_, .slice none 0 0, .int .i64 1, .slice KK l.length c, .int .i64 0] : List Value), u.oneCell' = true) := Lib.hid (by
      intro u hu
      simp only [List.mem_cons, List.not_mem_nil, or_false] at hu
      rcases hu with rfl | rfl | rfl | rfl | rfl | rfl <;> rfl)
    have hsz : w.heap.size + 5 ≤ (w5.alloc (.cells #[.string mainB, .int .i64 at_, .slice none 0 0, .int .i64 1, .slice KK l.length c, .int .i64 0] 64)).heap.size := by have := Hz2.out; simp; omega
    have k6 : ∀ p : Addr, p.block < w5.heap.size → (w5.alloc (.cells #[.string mainB, .int .i64 at_, .slice none 0 0, .int .i64 1, .slice KK l.length c, .int .i64 0] 64)).cell? p = w5.cell? p := fun p hp => World.cell?_alloc_lt _ _ _ hp
    have g6 : (w5.alloc (.cells #[.string mainB, .int .i64 at_, .slice none 0 0, .int .i64 1, .slice KK l.length c, .int .i64 0] 64)).cell? ⟨w3.heap.size, 0, none⟩ = some (.string mainB) ∧ (w5.alloc (.cells #[.string mainB, .int .i64 at_, .slice none 0 0, .int .i64 1, .slice KK l.length c, .int .i64 0] 64)).cell? ⟨w3.heap.size, 1, none⟩ = some (.int .i64 at_) ∧ (w5.alloc (.cells #[.string mainB, .int .i64 at_, .slice none 0 0, .int .i64 1, .slice KK l.length c, .int .i64 0] 64)).cell? ⟨w3.heap.size, 2, none⟩ = some (.slice PA 0 pc) ∧ (w5.alloc (.cells #[.string mainB, .int .i64 at_, .slice none 0 0, .int .i64 1, .slice KK l.length c, .int .i64 0] 64)).cell? ⟨w3.heap.size, 3, none⟩ = some (.int .i64 1) ∧ (w5.alloc (.cells #[.string mainB, .int .i64 at_, .slice none 0 0, .int .i64 1, .slice KK l.length c, .int .i64 0] 64)).cell? ⟨w3.heap.size, 4, none⟩ = some (.slice BA l.length bc) ∧ (w5.alloc (.cells #[.string mainB, .int .i64 at_, .slice none 0 0, .int .i64 1, .slice KK l.length c, .int .i64 0] 64)).cell? ⟨w3.heap.size, 5, none⟩ = some (.int .i64 v0) := ⟨(k6 _ (by show w3.heap.size < _; have := HZ3.out; omega)).trans g5.1, (k6 _ (by show w3.heap.size < _; have := HZ3.out; omega)).trans g5.2.1, (k6 _ (by show w3.heap.size < _; have := HZ3.out; omega)).trans g5.2.2.1, (k6 _ (by show w3.heap.size < _; have := HZ3.out; omega)).trans g5.2.2.2.1, (k6 _ (by show w3.heap.size < _; have := HZ3.out; omega)).trans g5.2.2.2.2.1, (k6 _ (by show w3.heap.size < _; have := HZ3.out; omega)).trans g5.2.2.2.2.2⟩
    have o6 : (w5.alloc (.cells #[.string mainB, .int .i64 at_, .slice none 0 0, .int .i64 1, .slice KK l.length c, .int .i64 0] 64)).cell? ⟨w2.heap.size, 0, none⟩ = some (.slice none 0 0) := (k6 _ (by show w2.heap.size < _; omega)).trans o5
    clear hS5 hC5 hb5 hM k6 hFw HFw
    refine hK.out _ _ ?_ (fun hHeld => ?_)
    · ((try dsimp only); first | with_reducible exact gd | with_reducible exact g5 | with_reducible exact g6 | with_reducible exact g7 | with_reducible exact g8)
    clear hK K
    try simp only [Act.put, List.setIfInBounds_toArray, List.set_cons_zero, List.set_cons_succ]
    refine wpAnyH_ready (rs := [4]) (by kernel_rfl) (by simp) ?_
    refine AllReadyH.cons rfl (fun K hK => ?_) (AllReadyH.nil)
    go_simp
    refine hK.out _ _ ?_ (fun hHeld => ?_)
    · ((try dsimp only); first | with_reducible exact gd | with_reducible exact g5 | with_reducible exact g6 | with_reducible exact g7 | with_reducible exact g8)
    clear hK K
    try simp only [Act.put, List.setIfInBounds_toArray, List.set_cons_zero, List.set_cons_succ]
    refine wpAnyH_ready (rs := [5]) (by kernel_rfl) (by simp) ?_
    refine AllReadyH.cons rfl (fun K hK => ?_) (AllReadyH.nil)
    refine step_append_lies _ rfl (.tmp 21) (.tmp 24) 22 rfl (w.heap.size + 5) 64 i0 (.agg #[.string ⟨#[]⟩, .int .i64 0, .slice none 0 0, .int .i64 0, .slice none 0 0, .int .i64 0]) 6 88 Tryz.underlying22 Hi.out HiA.out HiB.out HiC.out rfl (by decide) (.slice none 0 0) 0 [] (by simp [Act.eval, Act.put]) HOW.out ⟨w5.heap.size, 0, none⟩ 1 1 [.string mainB, .int .i64 at_, .slice none 0 0, .int .i64 1, .slice KK l.length c, .int .i64 0] (by simp [Act.eval, Act.put]) rfl HNW.out HO.out (by decide) (by unfold maxLen; omega) (by omega) hsz _ rfl ?_
    intro gp cp2 w7 hown2 hgrow hat hlt
    have hgp : gp = w5.heap.size + 1 := by
      rcases hat with h | h
      · simp [Value.ownBlock] at h
      · rw [h]; simp
    have hgr : (w5.alloc (.cells #[.string mainB, .int .i64 at_, .slice none 0 0, .int .i64 1, .slice KK l.length c, .int .i64 0] 64)).grownBy w7 none := hgrow
    have hmid := HM.out w7 gp cp2 (by simpa using hown2) hgr hgp
    have hk7 : ∀ k, k < w5.heap.size → w7.heap[k]? = w5.heap[k]? := fun k hk => (hgr.block k (by simp; omega) (by simp)).trans (Below.heap_alloc _ _ _ hk)
    have k7 : ∀ j, w7.cell? ⟨w3.heap.size, j, none⟩ = w5.cell? ⟨w3.heap.size, j, none⟩ := fun j => World.cell?_of_block (a := ⟨w3.heap.size, j, none⟩) (hk7 w3.heap.size (by have := HZ3.out; omega))
    have g7 : w7.cell? ⟨w3.heap.size, 0, none⟩ = some (.string mainB) ∧ w7.cell? ⟨w3.heap.size, 1, none⟩ = some (.int .i64 at_) ∧ w7.cell? ⟨w3.heap.size, 2, none⟩ = some (.slice PA 0 pc) ∧ w7.cell? ⟨w3.heap.size, 3, none⟩ = some (.int .i64 1) ∧ w7.cell? ⟨w3.heap.size, 4, none⟩ = some (.slice BA l.length bc) ∧ w7.cell? ⟨w3.heap.size, 5, none⟩ = some (.int .i64 v0) := ⟨(k7 _).trans g5.1, (k7 _).trans g5.2.1, (k7 _).trans g5.2.2.1, (k7 _).trans g5.2.2.2.1, (k7 _).trans g5.2.2.2.2.1, (k7 _).trans g5.2.2.2.2.2⟩
    have o7 : w7.cell? ⟨w2.heap.size, 0, none⟩ = some (.slice none 0 0) := (World.cell?_of_block (a := ⟨w2.heap.size, 0, none⟩) (hk7 w2.heap.size (by omega))).trans o5
    have of7 : w7.frozen? ⟨w2.heap.size, 0, none⟩ = false := (World.frozen?_of_block (a := ⟨w2.heap.size, 0, none⟩) (hk7 w2.heap.size (by omega))).trans of5
    have k8 : ∀ j, (w7.setCell ⟨w2.heap.size, 0, none⟩ (.slice (some ⟨gp, 0, none⟩) 1 cp2)).cell? ⟨w3.heap.size, j, none⟩ = w7.cell? ⟨w3.heap.size, j, none⟩ := fun j => set_far (by show w3.heap.size ≠ w2.heap.size; have := HZ3.out; omega)
    have g8 : (w7.setCell ⟨w2.heap.size, 0, none⟩ (.slice (some ⟨gp, 0, none⟩) 1 cp2)).cell? ⟨w3.heap.size, 0, none⟩ = some (.string mainB) ∧ (w7.setCell ⟨w2.heap.size, 0, none⟩ (.slice (some ⟨gp, 0, none⟩) 1 cp2)).cell? ⟨w3.heap.size, 1, none⟩ = some (.int .i64 at_) ∧ (w7.setCell ⟨w2.heap.size, 0, none⟩ (.slice (some ⟨gp, 0, none⟩) 1 cp2)).cell? ⟨w3.heap.size, 2, none⟩ = some (.slice PA 0 pc) ∧ (w7.setCell ⟨w2.heap.size, 0, none⟩ (.slice (some ⟨gp, 0, none⟩) 1 cp2)).cell? ⟨w3.heap.size, 3, none⟩ = some (.int .i64 1) ∧ (w7.setCell ⟨w2.heap.size, 0, none⟩ (.slice (some ⟨gp, 0, none⟩) 1 cp2)).cell? ⟨w3.heap.size, 4, none⟩ = some (.slice BA l.length bc) ∧ (w7.setCell ⟨w2.heap.size, 0, none⟩ (.slice (some ⟨gp, 0, none⟩) 1 cp2)).cell? ⟨w3.heap.size, 5, none⟩ = some (.int .i64 v0) := ⟨(k8 _).trans g7.1, (k8 _).trans g7.2.1, (k8 _).trans g7.2.2.1, (k8 _).trans g7.2.2.2.1, (k8 _).trans g7.2.2.2.2.1, (k8 _).trans g7.2.2.2.2.2⟩
    have Hmid := Lib.hid hmid
    clear hown2 hgrow hat hlt hgp hgr hmid hk7 k7 k8
    refine hK.out _ _ ?_ (fun hHeld => ?_)
    · ((try dsimp only); first | with_reducible exact gd | with_reducible exact g5 | with_reducible exact g6 | with_reducible exact g7 | with_reducible exact g8)
    clear hK K
    try simp only [Act.put, List.setIfInBounds_toArray, List.set_cons_zero, List.set_cons_succ]
    refine wpAnyH_take (i := 6) (v := ?_) rfl (by kernel_rfl) (by kernel_rfl) (by kernel_rfl) (fun _ _ _ h => h) (Or.inl ⟨by rfl, ?_⟩) (by assumption) ?_
    rotate_left
    · (intro w hSw; (try dsimp only at hSw); first | (go_simp; done) | (go_simp; with_reducible rfl))
    try simp only [Act.put, List.setIfInBounds_toArray, List.set_cons_zero, List.set_cons_succ]
    refine wpAnyH_ready (rs := [7]) (by kernel_rfl) (by simp) ?_
    refine AllReadyH.cons rfl (fun K hK => ?_) (AllReadyH.nil)
    go_simp
    refine hK.out _ _ ?_ (fun hHeld => ?_)
    · ((try dsimp only); first | with_reducible exact gd | with_reducible exact g5 | with_reducible exact g6 | with_reducible exact g7 | with_reducible exact g8)
    clear hK K
    try simp only [Act.put, List.setIfInBounds_toArray, List.set_cons_zero, List.set_cons_succ]
    refine wpAnyH_done (by kernel_rfl) ?_ _
    obtain ⟨W8, hW8⟩ : ∃ W8, W8 = w7.setCell ⟨w2.heap.size, 0, none⟩ (.slice (some ⟨gp, 0, none⟩) 1 cp2) := ⟨_, rfl⟩
    have hmid8 := Hmid.out
    rw [← hW8] at hmid8
    rw [← hW8]
    clear hW8 gd g5 g6 g7 g8 o5 o6 o7 of5 of7 gd' od x0 x1 x2 x3 x4 x5
    obtain ⟨⟨V', I', B', N', hC8⟩, hf8, hm8, o8, b1, b2, hRd, hb8⟩ := hmid8
    have hz8 := hb8.size
    have hMn := main_c (w.heap.size + 4) (w.heap.size + 3) r o fc (.int .i64 1) V' I' B' N' 0 at_ v0 PA BA pc l.length bc W8 hC8 (by omega) hf8 hm8
    have hcl := heap_lt hC8
    have hb1l := heap_lt b1
    have hb2l := heap_lt b2
    have hol : w2.heap.size < W8.heap.size := by
      rcases Nat.lt_or_ge w2.heap.size W8.heap.size with h | h
      · exact h
      · simp [World.cell?, Array.getElem?_eq_none h] at o8
    have hall9 : ∀ w9, Below W8.heap.size W8 w9 → w9.cell? ⟨w.heap.size + 1 + 1 + 1 + 1, 2, none⟩ = some (.int .i64 0) ∧ w9.cell? ⟨w2.heap.size, 0, none⟩ = some (.slice (some ⟨gp, 0, none⟩) 1 cp2) ∧ (w9.cell? ⟨w.heap.size + 1, 0, none⟩ = some (.slice none 0 0) ∧ w9.frozen? ⟨w.heap.size + 1, 0, none⟩ = false) ∧ (w9.cell? ⟨w.heap.size + 1 + 1, 0, none⟩ = some (.int .i64 0) ∧ w9.frozen? ⟨w.heap.size + 1 + 1, 0, none⟩ = false) ∧ (w9.cell? ⟨w.heap.size + 1 + 1, 1, none⟩ = some (.int .i64 0) ∧ w9.frozen? ⟨w.heap.size + 1 + 1, 1, none⟩ = false) := fun w9 q => by
      have q1 := (q.block _ hb1l).trans b1
      have q2 := (q.block _ hb2l).trans b2
      have q4 := (q.block _ hcl).trans hC8
      exact ⟨Lib.cell_of_heap q4 2, (q.cell (p := ⟨w2.heap.size, 0, none⟩) hol).trans o8, ⟨Lib.cell_of_heap q1 0, Lib.frozen_of_heap q1 0⟩, ⟨Lib.cell_of_heap q2 0, Lib.frozen_of_heap q2 0⟩, ⟨Lib.cell_of_heap q2 1, Lib.frozen_of_heap q2 1⟩⟩
    have Hall9 := Lib.hid hall9
    have HRd := Lib.hid hRd
    have Hb8 := Lib.hid hb8
    clear hall9 hRd hb8 hC8 hf8 hm8 o8 b1 b2 hb1l hb2l hcl hol hz8 Hmid HM HOW HNW HO hsz Hall HF
    go_wp2
    rw [rounds_succ]
    go_wp2_with (go_at_call 16; refine hMn.mono ?_)
    rintro e w9 ⟨rfl, hb9⟩
    obtain ⟨k9, o9, ⟨y0, y1⟩, ⟨y2, y3⟩, ⟨y4, y5⟩⟩ := Hall9.out w9 hb9
    have Hb9 := Lib.hid hb9
    clear hb9 hMn Hall9
    go_wp2
    refine bodyPost_ret (v := .tuple #[.agg #[.slice (some ⟨gp, 0, none⟩) 1 cp2], .agg #[.int .i64 0, .int .i64 0]]) (by simp [results, Tryz.results8, go_sem, y0, y2, y4]) rfl ?_
    refine check_end ?_ ?_ HRd.out Hb8.out Hb9.out
    · intro x h1 h2
      repeat (with_reducible refine (Below.heap_setCell _ _ _ _ (by first | exact h1 | exact h2)).trans ?_)
      rfl
    · repeat (first | with_reducible exact Below.refl _ _ | with_reducible refine Below.setCell ?_ (by first | (simp; done) | (simp; omega)) _)
  · go_simp
    refine hFw.mono ?_
    rintro e w5 ⟨KK, c, V, I, B, N, rfl, hS5, hC5, hb5⟩
    rw [← HD.out] at hb5 hS5
    obtain ⟨⟨o5, of5, g5, z5⟩, hM⟩ := Hall.out w5 KK c V I B N hS5 hC5 hb5
    have HM := Lib.hid hM
    have HOW := Lib.hid (World.ownsRow_nil (w5.alloc (.cells #[.string mainB, .int .i64 at_, .slice none 0 0, .int .i64 1, .slice KK l.length c, .int .i64 0] 64)) (w.heap.size + 5) 64 6)
    have HNW := Lib.hid (World.news_of_block (heap_alloc_new w5 (.cells #[.string mainB, .int .i64 at_, .slice none 0 0, .int .i64 1, .slice KK l.length c, .int .i64 0] 64)))
    have HO : Hid (∀ u ∈ ([.string mainB, .int .i64 at_, .slice none 0 0, .int .i64 1, .slice KK l.length c, .int .i64 0] : List Value), u.oneCell' = true) := Lib.hid (by
      intro u hu
      simp only [List.mem_cons, List.not_mem_nil, or_false] at hu
      rcases hu with rfl | rfl | rfl | rfl | rfl | rfl <;> rfl)
    have hsz : w.heap.size + 5 ≤ (w5.alloc (.cells #[.string mainB, .int .i64 at_, .slice none 0 0, .int .i64 1, .slice KK l.length c, .int .i64 0] 64)).heap.size := by have := Hz2.out; simp; omega
    have k6 : ∀ p : Addr, p.block < w5.heap.size → (w5.alloc (.cells #[.string mainB, .int .i64 at_, .slice none 0 0, .int .i64 1, .slice KK l.length c, .int .i64 0] 64)).cell? p = w5.cell? p := fun p hp => World.cell?_alloc_lt _ _ _ hp
    have g6 : (w5.alloc (.cells #[.string mainB, .int .i64 at_, .slice none 0 0, .int .i64 1, .slice KK l.length c, .int .i64 0] 64)).cell? ⟨w3.heap.size, 0, none⟩ = some (.string mainB) ∧ (w5.alloc (.cells #[.string mainB, .int .i64 at_, .slice none 0 0, .int .i64 1, .slice KK l.length c, .int .i64 0] 64)).cell? ⟨w3.heap.size, 1, none⟩ = some (.int .i64 at_) ∧ (w5.alloc (.cells #[.string mainB, .int .i64 at_, .slice none 0 0, .int .i64 1, .slice KK l.length c, .int .i64 0] 64)).cell? ⟨w3.heap.size, 2, none⟩ = some (.slice PA 0 pc) ∧ (w5.alloc (.cells #[.string mainB, .int .i64 at_, .slice none 0 0, .int .i64 1, .slice KK l.length c, .int .i64 0] 64)).cell? ⟨w3.heap.size, 3, none⟩ = some (.int .i64 1) ∧ (w5.alloc (.cells #[.string mainB, .int .i64 at_, .slice none 0 0, .int .i64 1, .slice KK l.length c, .int .i64 0] 64)).cell? ⟨w3.heap.size, 4, none⟩ = some (.slice BA l.length bc) ∧ (w5.alloc (.cells #[.string mainB, .int .i64 at_, .slice none 0 0, .int .i64 1, .slice KK l.length c, .int .i64 0] 64)).cell? ⟨w3.heap.size, 5, none⟩ = some (.int .i64 v0) := ⟨(k6 _ (by show w3.heap.size < _; have := HZ3.out; omega)).trans g5.1, (k6 _ (by show w3.heap.size < _; have := HZ3.out; omega)).trans g5.2.1, (k6 _ (by show w3.heap.size < _; have := HZ3.out; omega)).trans g5.2.2.1, (k6 _ (by show w3.heap.size < _; have := HZ3.out; omega)).trans g5.2.2.2.1, (k6 _ (by show w3.heap.size < _; have := HZ3.out; omega)).trans g5.2.2.2.2.1, (k6 _ (by show w3.heap.size < _; have := HZ3.out; omega)).trans g5.2.2.2.2.2⟩
    have o6 : (w5.alloc (.cells #[.string mainB, .int .i64 at_, .slice none 0 0, .int .i64 1, .slice KK l.length c, .int .i64 0] 64)).cell? ⟨w2.heap.size, 0, none⟩ = some (.slice none 0 0) := (k6 _ (by show w2.heap.size < _; omega)).trans o5
    clear hS5 hC5 hb5 hM k6 hFw HFw
    refine hK.out _ _ ?_ (fun hHeld => ?_)
    · ((try dsimp only); first | with_reducible exact gd | with_reducible exact g5 | with_reducible exact g6 | with_reducible exact g7 | with_reducible exact g8)
    clear hK K
    try simp only [Act.put, List.setIfInBounds_toArray, List.set_cons_zero, List.set_cons_succ]
    refine wpAnyH_ready (rs := [1, 4]) (by kernel_rfl) (by simp) ?_
    refine AllReadyH.cons rfl (fun K hK => ?_) (AllReadyH.cons rfl (fun K hK => ?_) (AllReadyH.nil))
    · go_simp
      refine hK.out _ _ ?_ (fun hHeld => ?_)
      · ((try dsimp only); first | with_reducible exact gd | with_reducible exact g5 | with_reducible exact g6 | with_reducible exact g7 | with_reducible exact g8)
      clear hK K
      try simp only [Act.put, List.setIfInBounds_toArray, List.set_cons_zero, List.set_cons_succ]
      refine wpAnyH_ready (rs := [4]) (by kernel_rfl) (by simp) ?_
      refine AllReadyH.cons rfl (fun K hK => ?_) (AllReadyH.nil)
      go_simp
      refine hK.out _ _ ?_ (fun hHeld => ?_)
      · ((try dsimp only); first | with_reducible exact gd | with_reducible exact g5 | with_reducible exact g6 | with_reducible exact g7 | with_reducible exact g8)
      clear hK K
      try simp only [Act.put, List.setIfInBounds_toArray, List.set_cons_zero, List.set_cons_succ]
      refine wpAnyH_ready (rs := [5]) (by kernel_rfl) (by simp) ?_
      refine AllReadyH.cons rfl (fun K hK => ?_) (AllReadyH.nil)
      refine step_append_lies _ rfl (.tmp 21) (.tmp 24) 22 rfl (w.heap.size + 5) 64 i0 (.agg #[.string ⟨#[]⟩, .int .i64 0, .slice none 0 0, .int .i64 0, .slice none 0 0, .int .i64 0]) 6 88 Tryz.underlying22 Hi.out HiA.out HiB.out HiC.out rfl (by decide) (.slice none 0 0) 0 [] (by simp [Act.eval, Act.put]) HOW.out ⟨w5.heap.size, 0, none⟩ 1 1 [.string mainB, .int .i64 at_, .slice none 0 0, .int .i64 1, .slice KK l.length c, .int .i64 0] (by simp [Act.eval, Act.put]) rfl HNW.out HO.out (by decide) (by unfold maxLen; omega) (by omega) hsz _ rfl ?_
      intro gp cp2 w7 hown2 hgrow hat hlt
      have hgp : gp = w5.heap.size + 1 := by
        rcases hat with h | h
        · simp [Value.ownBlock] at h
        · rw [h]; simp
      have hgr : (w5.alloc (.cells #[.string mainB, .int .i64 at_, .slice none 0 0, .int .i64 1, .slice KK l.length c, .int .i64 0] 64)).grownBy w7 none := hgrow
      have hmid := HM.out w7 gp cp2 (by simpa using hown2) hgr hgp
      have hk7 : ∀ k, k < w5.heap.size → w7.heap[k]? = w5.heap[k]? := fun k hk => (hgr.block k (by simp; omega) (by simp)).trans (Below.heap_alloc _ _ _ hk)
      have k7 : ∀ j, w7.cell? ⟨w3.heap.size, j, none⟩ = w5.cell? ⟨w3.heap.size, j, none⟩ := fun j => World.cell?_of_block (a := ⟨w3.heap.size, j, none⟩) (hk7 w3.heap.size (by have := HZ3.out; omega))
      have g7 : w7.cell? ⟨w3.heap.size, 0, none⟩ = some (.string mainB) ∧ w7.cell? ⟨w3.heap.size, 1, none⟩ = some (.int .i64 at_) ∧ w7.cell? ⟨w3.heap.size, 2, none⟩ = some (.slice PA 0 pc) ∧ w7.cell? ⟨w3.heap.size, 3, none⟩ = some (.int .i64 1) ∧ w7.cell? ⟨w3.heap.size, 4, none⟩ = some (.slice BA l.length bc) ∧ w7.cell? ⟨w3.heap.size, 5, none⟩ = some (.int .i64 v0) := ⟨(k7 _).trans g5.1, (k7 _).trans g5.2.1, (k7 _).trans g5.2.2.1, (k7 _).trans g5.2.2.2.1, (k7 _).trans g5.2.2.2.2.1, (k7 _).trans g5.2.2.2.2.2⟩
      have o7 : w7.cell? ⟨w2.heap.size, 0, none⟩ = some (.slice none 0 0) := (World.cell?_of_block (a := ⟨w2.heap.size, 0, none⟩) (hk7 w2.heap.size (by omega))).trans o5
      have of7 : w7.frozen? ⟨w2.heap.size, 0, none⟩ = false := (World.frozen?_of_block (a := ⟨w2.heap.size, 0, none⟩) (hk7 w2.heap.size (by omega))).trans of5
      have k8 : ∀ j, (w7.setCell ⟨w2.heap.size, 0, none⟩ (.slice (some ⟨gp, 0, none⟩) 1 cp2)).cell? ⟨w3.heap.size, j, none⟩ = w7.cell? ⟨w3.heap.size, j, none⟩ := fun j => set_far (by show w3.heap.size ≠ w2.heap.size; have := HZ3.out; omega)
      have g8 : (w7.setCell ⟨w2.heap.size, 0, none⟩ (.slice (some ⟨gp, 0, none⟩) 1 cp2)).cell? ⟨w3.heap.size, 0, none⟩ = some (.string mainB) ∧ (w7.setCell ⟨w2.heap.size, 0, none⟩ (.slice (some ⟨gp, 0, none⟩) 1 cp2)).cell? ⟨w3.heap.size, 1, none⟩ = some (.int .i64 at_) ∧ (w7.setCell ⟨w2.heap.size, 0, none⟩ (.slice (some ⟨gp, 0, none⟩) 1 cp2)).cell? ⟨w3.heap.size, 2, none⟩ = some (.slice PA 0 pc) ∧ (w7.setCell ⟨w2.heap.size, 0, none⟩ (.slice (some ⟨gp, 0, none⟩) 1 cp2)).cell? ⟨w3.heap.size, 3, none⟩ = some (.int .i64 1) ∧ (w7.setCell ⟨w2.heap.size, 0, none⟩ (.slice (some ⟨gp, 0, none⟩) 1 cp2)).cell? ⟨w3.heap.size, 4, none⟩ = some (.slice BA l.length bc) ∧ (w7.setCell ⟨w2.heap.size, 0, none⟩ (.slice (some ⟨gp, 0, none⟩) 1 cp2)).cell? ⟨w3.heap.size, 5, none⟩ = some (.int .i64 v0) := ⟨(k8 _).trans g7.1, (k8 _).trans g7.2.1, (k8 _).trans g7.2.2.1, (k8 _).trans g7.2.2.2.1, (k8 _).trans g7.2.2.2.2.1, (k8 _).trans g7.2.2.2.2.2⟩
      have Hmid := Lib.hid hmid
      clear hown2 hgrow hat hlt hgp hgr hmid hk7 k7 k8
      refine hK.out _ _ ?_ (fun hHeld => ?_)
      · ((try dsimp only); first | with_reducible exact gd | with_reducible exact g5 | with_reducible exact g6 | with_reducible exact g7 | with_reducible exact g8)
      clear hK K
      try simp only [Act.put, List.setIfInBounds_toArray, List.set_cons_zero, List.set_cons_succ]
      refine wpAnyH_take (i := 6) (v := ?_) rfl (by kernel_rfl) (by kernel_rfl) (by kernel_rfl) (fun _ _ _ h => h) (Or.inl ⟨by rfl, ?_⟩) (by assumption) ?_
      rotate_left
      · (intro w hSw; (try dsimp only at hSw); first | (go_simp; done) | (go_simp; with_reducible rfl))
      try simp only [Act.put, List.setIfInBounds_toArray, List.set_cons_zero, List.set_cons_succ]
      refine wpAnyH_ready (rs := [7]) (by kernel_rfl) (by simp) ?_
      refine AllReadyH.cons rfl (fun K hK => ?_) (AllReadyH.nil)
      go_simp
      refine hK.out _ _ ?_ (fun hHeld => ?_)
      · ((try dsimp only); first | with_reducible exact gd | with_reducible exact g5 | with_reducible exact g6 | with_reducible exact g7 | with_reducible exact g8)
      clear hK K
      try simp only [Act.put, List.setIfInBounds_toArray, List.set_cons_zero, List.set_cons_succ]
      refine wpAnyH_done (by kernel_rfl) ?_ _
      obtain ⟨W8, hW8⟩ : ∃ W8, W8 = w7.setCell ⟨w2.heap.size, 0, none⟩ (.slice (some ⟨gp, 0, none⟩) 1 cp2) := ⟨_, rfl⟩
      have hmid8 := Hmid.out
      rw [← hW8] at hmid8
      rw [← hW8]
      clear hW8 gd g5 g6 g7 g8 o5 o6 o7 of5 of7 gd' od x0 x1 x2 x3 x4 x5
      obtain ⟨⟨V', I', B', N', hC8⟩, hf8, hm8, o8, b1, b2, hRd, hb8⟩ := hmid8
      have hz8 := hb8.size
      have hMn := main_c (w.heap.size + 4) (w.heap.size + 3) r o fc (.int .i64 1) V' I' B' N' 0 at_ v0 PA BA pc l.length bc W8 hC8 (by omega) hf8 hm8
      have hcl := heap_lt hC8
      have hb1l := heap_lt b1
      have hb2l := heap_lt b2
      have hol : w2.heap.size < W8.heap.size := by
        rcases Nat.lt_or_ge w2.heap.size W8.heap.size with h | h
        · exact h
        · simp [World.cell?, Array.getElem?_eq_none h] at o8
      have hall9 : ∀ w9, Below W8.heap.size W8 w9 → w9.cell? ⟨w.heap.size + 1 + 1 + 1 + 1, 2, none⟩ = some (.int .i64 0) ∧ w9.cell? ⟨w2.heap.size, 0, none⟩ = some (.slice (some ⟨gp, 0, none⟩) 1 cp2) ∧ (w9.cell? ⟨w.heap.size + 1, 0, none⟩ = some (.slice none 0 0) ∧ w9.frozen? ⟨w.heap.size + 1, 0, none⟩ = false) ∧ (w9.cell? ⟨w.heap.size + 1 + 1, 0, none⟩ = some (.int .i64 0) ∧ w9.frozen? ⟨w.heap.size + 1 + 1, 0, none⟩ = false) ∧ (w9.cell? ⟨w.heap.size + 1 + 1, 1, none⟩ = some (.int .i64 0) ∧ w9.frozen? ⟨w.heap.size + 1 + 1, 1, none⟩ = false) := fun w9 q => by
        have q1 := (q.block _ hb1l).trans b1
        have q2 := (q.block _ hb2l).trans b2
        have q4 := (q.block _ hcl).trans hC8
        exact ⟨Lib.cell_of_heap q4 2, (q.cell (p := ⟨w2.heap.size, 0, none⟩) hol).trans o8, ⟨Lib.cell_of_heap q1 0, Lib.frozen_of_heap q1 0⟩, ⟨Lib.cell_of_heap q2 0, Lib.frozen_of_heap q2 0⟩, ⟨Lib.cell_of_heap q2 1, Lib.frozen_of_heap q2 1⟩⟩
      have Hall9 := Lib.hid hall9
      have HRd := Lib.hid hRd
      have Hb8 := Lib.hid hb8
      clear hall9 hRd hb8 hC8 hf8 hm8 o8 b1 b2 hb1l hb2l hcl hol hz8 Hmid HM HOW HNW HO hsz Hall HF
      go_wp2
      rw [rounds_succ]
      go_wp2_with (go_at_call 16; refine hMn.mono ?_)
      rintro e w9 ⟨rfl, hb9⟩
      obtain ⟨k9, o9, ⟨y0, y1⟩, ⟨y2, y3⟩, ⟨y4, y5⟩⟩ := Hall9.out w9 hb9
      have Hb9 := Lib.hid hb9
      clear hb9 hMn Hall9
      go_wp2
      refine bodyPost_ret (v := .tuple #[.agg #[.slice (some ⟨gp, 0, none⟩) 1 cp2], .agg #[.int .i64 0, .int .i64 0]]) (by simp [results, Tryz.results8, go_sem, y0, y2, y4]) rfl ?_
      refine check_end ?_ ?_ HRd.out Hb8.out Hb9.out
      · intro x h1 h2
        repeat (with_reducible refine (Below.heap_setCell _ _ _ _ (by first | exact h1 | exact h2)).trans ?_)
        rfl
      · repeat (first | with_reducible exact Below.refl _ _ | with_reducible refine Below.setCell ?_ (by first | (simp; done) | (simp; omega)) _)
    · go_simp
      refine hK.out _ _ ?_ (fun hHeld => ?_)
      · ((try dsimp only); first | with_reducible exact gd | with_reducible exact g5 | with_reducible exact g6 | with_reducible exact g7 | with_reducible exact g8)
      clear hK K
      try simp only [Act.put, List.setIfInBounds_toArray, List.set_cons_zero, List.set_cons_succ]
      refine wpAnyH_ready (rs := [1]) (by kernel_rfl) (by simp) ?_
      refine AllReadyH.cons rfl (fun K hK => ?_) (AllReadyH.nil)
      go_simp
      refine hK.out _ _ ?_ (fun hHeld => ?_)
      · ((try dsimp only); first | with_reducible exact gd | with_reducible exact g5 | with_reducible exact g6 | with_reducible exact g7 | with_reducible exact g8)
      clear hK K
      try simp only [Act.put, List.setIfInBounds_toArray, List.set_cons_zero, List.set_cons_succ]
      refine wpAnyH_ready (rs := [5]) (by kernel_rfl) (by simp) ?_
      refine AllReadyH.cons rfl (fun K hK => ?_) (AllReadyH.nil)
      refine step_append_lies _ rfl (.tmp 21) (.tmp 24) 22 rfl (w.heap.size + 5) 64 i0 (.agg #[.string ⟨#[]⟩, .int .i64 0, .slice none 0 0, .int .i64 0, .slice none 0 0, .int .i64 0]) 6 88 Tryz.underlying22 Hi.out HiA.out HiB.out HiC.out rfl (by decide) (.slice none 0 0) 0 [] (by simp [Act.eval, Act.put]) HOW.out ⟨w5.heap.size, 0, none⟩ 1 1 [.string mainB, .int .i64 at_, .slice none 0 0, .int .i64 1, .slice KK l.length c, .int .i64 0] (by simp [Act.eval, Act.put]) rfl HNW.out HO.out (by decide) (by unfold maxLen; omega) (by omega) hsz _ rfl ?_
      intro gp cp2 w7 hown2 hgrow hat hlt
      have hgp : gp = w5.heap.size + 1 := by
        rcases hat with h | h
        · simp [Value.ownBlock] at h
        · rw [h]; simp
      have hgr : (w5.alloc (.cells #[.string mainB, .int .i64 at_, .slice none 0 0, .int .i64 1, .slice KK l.length c, .int .i64 0] 64)).grownBy w7 none := hgrow
      have hmid := HM.out w7 gp cp2 (by simpa using hown2) hgr hgp
      have hk7 : ∀ k, k < w5.heap.size → w7.heap[k]? = w5.heap[k]? := fun k hk => (hgr.block k (by simp; omega) (by simp)).trans (Below.heap_alloc _ _ _ hk)
      have k7 : ∀ j, w7.cell? ⟨w3.heap.size, j, none⟩ = w5.cell? ⟨w3.heap.size, j, none⟩ := fun j => World.cell?_of_block (a := ⟨w3.heap.size, j, none⟩) (hk7 w3.heap.size (by have := HZ3.out; omega))
      have g7 : w7.cell? ⟨w3.heap.size, 0, none⟩ = some (.string mainB) ∧ w7.cell? ⟨w3.heap.size, 1, none⟩ = some (.int .i64 at_) ∧ w7.cell? ⟨w3.heap.size, 2, none⟩ = some (.slice PA 0 pc) ∧ w7.cell? ⟨w3.heap.size, 3, none⟩ = some (.int .i64 1) ∧ w7.cell? ⟨w3.heap.size, 4, none⟩ = some (.slice BA l.length bc) ∧ w7.cell? ⟨w3.heap.size, 5, none⟩ = some (.int .i64 v0) := ⟨(k7 _).trans g5.1, (k7 _).trans g5.2.1, (k7 _).trans g5.2.2.1, (k7 _).trans g5.2.2.2.1, (k7 _).trans g5.2.2.2.2.1, (k7 _).trans g5.2.2.2.2.2⟩
      have o7 : w7.cell? ⟨w2.heap.size, 0, none⟩ = some (.slice none 0 0) := (World.cell?_of_block (a := ⟨w2.heap.size, 0, none⟩) (hk7 w2.heap.size (by omega))).trans o5
      have of7 : w7.frozen? ⟨w2.heap.size, 0, none⟩ = false := (World.frozen?_of_block (a := ⟨w2.heap.size, 0, none⟩) (hk7 w2.heap.size (by omega))).trans of5
      have k8 : ∀ j, (w7.setCell ⟨w2.heap.size, 0, none⟩ (.slice (some ⟨gp, 0, none⟩) 1 cp2)).cell? ⟨w3.heap.size, j, none⟩ = w7.cell? ⟨w3.heap.size, j, none⟩ := fun j => set_far (by show w3.heap.size ≠ w2.heap.size; have := HZ3.out; omega)
      have g8 : (w7.setCell ⟨w2.heap.size, 0, none⟩ (.slice (some ⟨gp, 0, none⟩) 1 cp2)).cell? ⟨w3.heap.size, 0, none⟩ = some (.string mainB) ∧ (w7.setCell ⟨w2.heap.size, 0, none⟩ (.slice (some ⟨gp, 0, none⟩) 1 cp2)).cell? ⟨w3.heap.size, 1, none⟩ = some (.int .i64 at_) ∧ (w7.setCell ⟨w2.heap.size, 0, none⟩ (.slice (some ⟨gp, 0, none⟩) 1 cp2)).cell? ⟨w3.heap.size, 2, none⟩ = some (.slice PA 0 pc) ∧ (w7.setCell ⟨w2.heap.size, 0, none⟩ (.slice (some ⟨gp, 0, none⟩) 1 cp2)).cell? ⟨w3.heap.size, 3, none⟩ = some (.int .i64 1) ∧ (w7.setCell ⟨w2.heap.size, 0, none⟩ (.slice (some ⟨gp, 0, none⟩) 1 cp2)).cell? ⟨w3.heap.size, 4, none⟩ = some (.slice BA l.length bc) ∧ (w7.setCell ⟨w2.heap.size, 0, none⟩ (.slice (some ⟨gp, 0, none⟩) 1 cp2)).cell? ⟨w3.heap.size, 5, none⟩ = some (.int .i64 v0) := ⟨(k8 _).trans g7.1, (k8 _).trans g7.2.1, (k8 _).trans g7.2.2.1, (k8 _).trans g7.2.2.2.1, (k8 _).trans g7.2.2.2.2.1, (k8 _).trans g7.2.2.2.2.2⟩
      have Hmid := Lib.hid hmid
      clear hown2 hgrow hat hlt hgp hgr hmid hk7 k7 k8
      refine hK.out _ _ ?_ (fun hHeld => ?_)
      · ((try dsimp only); first | with_reducible exact gd | with_reducible exact g5 | with_reducible exact g6 | with_reducible exact g7 | with_reducible exact g8)
      clear hK K
      try simp only [Act.put, List.setIfInBounds_toArray, List.set_cons_zero, List.set_cons_succ]
      refine wpAnyH_take (i := 6) (v := ?_) rfl (by kernel_rfl) (by kernel_rfl) (by kernel_rfl) (fun _ _ _ h => h) (Or.inl ⟨by rfl, ?_⟩) (by assumption) ?_
      rotate_left
      · (intro w hSw; (try dsimp only at hSw); first | (go_simp; done) | (go_simp; with_reducible rfl))
      try simp only [Act.put, List.setIfInBounds_toArray, List.set_cons_zero, List.set_cons_succ]
      refine wpAnyH_ready (rs := [7]) (by kernel_rfl) (by simp) ?_
      refine AllReadyH.cons rfl (fun K hK => ?_) (AllReadyH.nil)
      go_simp
      refine hK.out _ _ ?_ (fun hHeld => ?_)
      · ((try dsimp only); first | with_reducible exact gd | with_reducible exact g5 | with_reducible exact g6 | with_reducible exact g7 | with_reducible exact g8)
      clear hK K
      try simp only [Act.put, List.setIfInBounds_toArray, List.set_cons_zero, List.set_cons_succ]
      refine wpAnyH_done (by kernel_rfl) ?_ _
      obtain ⟨W8, hW8⟩ : ∃ W8, W8 = w7.setCell ⟨w2.heap.size, 0, none⟩ (.slice (some ⟨gp, 0, none⟩) 1 cp2) := ⟨_, rfl⟩
      have hmid8 := Hmid.out
      rw [← hW8] at hmid8
      rw [← hW8]
      clear hW8 gd g5 g6 g7 g8 o5 o6 o7 of5 of7 gd' od x0 x1 x2 x3 x4 x5
      obtain ⟨⟨V', I', B', N', hC8⟩, hf8, hm8, o8, b1, b2, hRd, hb8⟩ := hmid8
      have hz8 := hb8.size
      have hMn := main_c (w.heap.size + 4) (w.heap.size + 3) r o fc (.int .i64 1) V' I' B' N' 0 at_ v0 PA BA pc l.length bc W8 hC8 (by omega) hf8 hm8
      have hcl := heap_lt hC8
      have hb1l := heap_lt b1
      have hb2l := heap_lt b2
      have hol : w2.heap.size < W8.heap.size := by
        rcases Nat.lt_or_ge w2.heap.size W8.heap.size with h | h
        · exact h
        · simp [World.cell?, Array.getElem?_eq_none h] at o8
      have hall9 : ∀ w9, Below W8.heap.size W8 w9 → w9.cell? ⟨w.heap.size + 1 + 1 + 1 + 1, 2, none⟩ = some (.int .i64 0) ∧ w9.cell? ⟨w2.heap.size, 0, none⟩ = some (.slice (some ⟨gp, 0, none⟩) 1 cp2) ∧ (w9.cell? ⟨w.heap.size + 1, 0, none⟩ = some (.slice none 0 0) ∧ w9.frozen? ⟨w.heap.size + 1, 0, none⟩ = false) ∧ (w9.cell? ⟨w.heap.size + 1 + 1, 0, none⟩ = some (.int .i64 0) ∧ w9.frozen? ⟨w.heap.size + 1 + 1, 0, none⟩ = false) ∧ (w9.cell? ⟨w.heap.size + 1 + 1, 1, none⟩ = some (.int .i64 0) ∧ w9.frozen? ⟨w.heap.size + 1 + 1, 1, none⟩ = false) := fun w9 q => by
        have q1 := (q.block _ hb1l).trans b1
        have q2 := (q.block _ hb2l).trans b2
        have q4 := (q.block _ hcl).trans hC8
        exact ⟨Lib.cell_of_heap q4 2, (q.cell (p := ⟨w2.heap.size, 0, none⟩) hol).trans o8, ⟨Lib.cell_of_heap q1 0, Lib.frozen_of_heap q1 0⟩, ⟨Lib.cell_of_heap q2 0, Lib.frozen_of_heap q2 0⟩, ⟨Lib.cell_of_heap q2 1, Lib.frozen_of_heap q2 1⟩⟩
      have Hall9 := Lib.hid hall9
      have HRd := Lib.hid hRd
      have Hb8 := Lib.hid hb8
      clear hall9 hRd hb8 hC8 hf8 hm8 o8 b1 b2 hb1l hb2l hcl hol hz8 Hmid HM HOW HNW HO hsz Hall HF
      go_wp2
      rw [rounds_succ]
      go_wp2_with (go_at_call 16; refine hMn.mono ?_)
      rintro e w9 ⟨rfl, hb9⟩
      obtain ⟨k9, o9, ⟨y0, y1⟩, ⟨y2, y3⟩, ⟨y4, y5⟩⟩ := Hall9.out w9 hb9
      have Hb9 := Lib.hid hb9
      clear hb9 hMn Hall9
      go_wp2
      refine bodyPost_ret (v := .tuple #[.agg #[.slice (some ⟨gp, 0, none⟩) 1 cp2], .agg #[.int .i64 0, .int .i64 0]]) (by simp [results, Tryz.results8, go_sem, y0, y2, y4]) rfl ?_
      refine check_end ?_ ?_ HRd.out Hb8.out Hb9.out
      · intro x h1 h2
        repeat (with_reducible refine (Below.heap_setCell _ _ _ _ (by first | exact h1 | exact h2)).trans ?_)
        rfl
      · repeat (first | with_reducible exact Below.refl _ _ | with_reducible refine Below.setCell ?_ (by first | (simp; done) | (simp; omega)) _)
end Go.Proofs.YtlgpbllkhbgppaaGreatDoor
namespace Go.Proofs.YtlgpbllkhbgppaaGreatDoor
set_option linter.unusedVariables false
set_option linter.unusedSimpArgs false
open Go.RowKit

set_option maxRecDepth 100000 in
set_option maxHeartbeats 8000000 in
theorem tree_of (s : ByteArray) (hs : s.size ≤ 3000) (R : List Tk) (P : PS) (at_ v0 : Int) (l : List St) (hlex : lexS s.data.toList = (R, none)) (hprog : progK 60 [] (begin0 s R) = some ([⟨mainB, at_, [], 1, l, v0⟩], P)) (hfk : (P.fk != 0) = false)
    (hl : ∀ x ∈ l, inS x) (m : Nat) (hm : l.length = m + 1) (hmm : m ≤ 1000) (a9 n9 p9 : Int) (s9 : ByteArray) (k9 : List Ex) (hlast : l[m]? = some (.mk 9 a9 n9 s9 p9 k9 [] [])) (w : World) (hr : Rng w) :
    Calls Tryz.prog 4 #[.string s] w fun e w' => ∃ K c, e = .returned (.tuple #[.agg #[.slice K 1 c], .bool true]) ∧ RdFs w' (From w.heap.size w') K [fuT at_ l] ∧ Below w.heap.size w w' := by
  obtain ⟨W, hW, hbW, hzW, h0W⟩ := ch_one_al w #[.slice none 0 0] 24
  have hP := parse_good s W (by omega) (hr.up hbW) R hlex 60 [⟨mainB, at_, [], 1, l, v0⟩] P (by omega) hprog hfk
  have hC := check_c l hl m hm hmm a9 n9 p9 s9 k9 hlast
  have e0 : ((3000 : Int) < (s.size : Int)) = False := by simp; omega
  have HbW := Lib.hid hbW
  have HzW := Lib.hid hzW
  have H0W := Lib.hid h0W
  have HC := Lib.hid hC
  have HW := Lib.hid hW
  clear hbW hzW h0W hC hlex hprog hfk hl hm hlast hr hW hs
  go_enter Tryz.func4, Tryz.ntmps4
  go_upto_region 1 with fail
  rw [← HW.out]
  go_upto_region 4 with (go_at_call 7; refine hP.mono ?_; rintro e w1 ⟨A, c, rfl, hA, hb⟩; rw [show ([⟨mainB, at_, [], 1, l, v0⟩] : List Fu).length = 1 from rfl]; have HA := Lib.hid hA; have HB := Lib.hid hb; clear hA hb hP)
  obtain ⟨w2, hw2, hb2, hz2, hc2⟩ := ch_one_al w1 #[.slice A 1 c] 24
  rw [← hw2]
  obtain ⟨w3, hw3, hb3, hz3, hc3⟩ := ch_one_al w2 #[.int .i64 0, .int .i64 0] 34
  rw [← hw3]
  clear hw2 hw3
  have hb13 : Below w1.heap.size w1 w3 := hb2.trans (hb3.mono (by omega))
  have hz1 : w.heap.size + 1 ≤ w1.heap.size := by have := HB.out.size; have := HzW.out; omega
  obtain ⟨r, o, rfl, hro, hx⟩ := HA.out (by simp)
  obtain ⟨q0, q1, ⟨PA, pc, q2, -⟩, q3, ⟨BA, bc, q4, q4r⟩, q5⟩ := hx 0 _ rfl
  simp only [Nat.zero_mul, Nat.add_zero] at q0 q1 q2 q3 q4 q5
  have hrl : r < w1.heap.size := hro.2
  have hk : ∀ j, w3.cell? ⟨r, j, none⟩ = w1.cell? ⟨r, j, none⟩ := fun j => hb13.cell (p := ⟨r, j, none⟩) hrl
  have hCC := HC.out r o c at_ v0 PA BA pc bc (From W.heap.size w1) w3 (by omega) ⟨(hk _).trans q0, (hk _).trans q1, (hk _).trans q2, (hk _).trans q3, (hk _).trans q4, (hk _).trans q5⟩ (fun b hb => by have := hb.2; omega) (RdSs.keep (w' := w3) (fun p hp => hb13.cell hp.2) _ _ _ q4r)
  have c1 : w3.cell? ⟨w1.heap.size, 0, none⟩ = some (.slice (some ⟨r, o, none⟩) 1 c) := Lib.cell_of_heap ((hb3.block w1.heap.size (by omega)).trans hc2) 0
  rw [hz2] at hc3
  have c2 : w3.cell? ⟨w1.heap.size + 1, 0, none⟩ = some (.int .i64 0) := Lib.cell_of_heap hc3 0
  have h03 : w3.heap[w.heap.size]? = some (.cells #[.slice none 0 0] 24 (0, 0)) := (hb13.block _ (by omega)).trans ((HB.out.block _ (by have := HzW.out; omega)).trans H0W.out)
  have hbw3 : Below w.heap.size w w3 := HbW.out.trans ((HB.out.mono (by have := HzW.out; omega)).trans (hb13.mono (by omega)))
  have hz3' : w.heap.size + 3 ≤ w3.heap.size := by omega
  have H03 := Lib.hid h03
  have Hbw3 := Lib.hid hbw3
  have Hz3 := Lib.hid hz3'
  clear hb2 hb3 hc2 hc3 hb13 hz1 hro hx q0 q1 q2 q3 q4 q4r q5 hrl hk h03 hbw3 hz3' hz2 hz3 HA HB HC H0W HzW HbW HW e0
  go_upto_region 7 with (go_at_call 8; refine hCC.mono ?_; rintro e w4 ⟨K, cK, rfl, hK, hb⟩; have HK := Lib.hid hK; have Hb4 := Lib.hid hb; clear hK hb hCC c1 c2)
  obtain ⟨w5, hw5, hb5, hz5, hc5⟩ := ch_one_al w4 #[.slice K 1 cK] 24
  rw [← hw5]
  obtain ⟨w6, hw6, hb6, hz6, hc6⟩ := ch_one_al w5 #[.int .i64 0, .int .i64 0] 34
  rw [← hw6]
  clear hw5 hw6
  have hb46 : Below w4.heap.size w4 w6 := hb5.trans (hb6.mono (by omega))
  have z4 : w.heap.size + 3 ≤ w4.heap.size := Nat.le_trans Hz3.out Hb4.out.size
  have h06 := (hb46.block _ (by omega)).trans ((Hb4.out.block _ (by have := Hz3.out; omega)).trans H03.out)
  rw [hz5] at hc6
  have gd : w6.drew.cell? ⟨w4.heap.size, 0, none⟩ = some (.slice K 1 cK) ∧ w6.drew.cell? ⟨w4.heap.size + 1, 0, none⟩ = some (.int .i64 0) := ⟨Lib.cell_of_heap ((hb6.block w4.heap.size (by omega)).trans hc5) 0, Lib.cell_of_heap hc6 0⟩
  have o6 : w6.drew.cell? ⟨w.heap.size, 0, none⟩ = some (.slice none 0 0) := Lib.cell_of_heap h06 0
  have of6 : w6.drew.frozen? ⟨w.heap.size, 0, none⟩ = false := Lib.frozen_of_heap h06 0
  have g8 : (w6.setCell ⟨w.heap.size, 0, none⟩ (.slice K 1 cK)).drew.cell? ⟨w4.heap.size, 0, none⟩ = some (.slice K 1 cK) ∧ (w6.setCell ⟨w.heap.size, 0, none⟩ (.slice K 1 cK)).drew.cell? ⟨w4.heap.size + 1, 0, none⟩ = some (.int .i64 0) := ⟨(set_far (by show w4.heap.size ≠ w.heap.size; omega)).trans gd.1, (set_far (by show w4.heap.size + 1 ≠ w.heap.size; omega)).trans gd.2⟩
  have hbe : Below w.heap.size w (w6.setCell ⟨w.heap.size, 0, none⟩ (.slice K 1 cK)).drew := ((Hbw3.out.trans ((Hb4.out.mono (by have := Hz3.out; omega)).trans (hb46.mono (by omega)))).setCell (p := ⟨w.heap.size, 0, none⟩) (Nat.le_refl _) _).drew
  have hbK : RdFs (w6.setCell ⟨w.heap.size, 0, none⟩ (.slice K 1 cK)).drew (From w.heap.size (w6.setCell ⟨w.heap.size, 0, none⟩ (.slice K 1 cK)).drew) K [fuT at_ l] := RdFs.more (fun x hx => ⟨by have := hx.1; have := Hz3.out; omega, by show x < (w6.setCell _ _).heap.size; rw [set_size]; exact Nat.lt_of_lt_of_le hx.2 hb46.size⟩) (RdFs.keep (w' := (w6.setCell ⟨w.heap.size, 0, none⟩ (.slice K 1 cK)).drew) (fun q hq => (set_far (by have := hq.1; have := Hz3.out; omega)).trans (hb46.cell hq.2)) HK.out)
  have o8 : (w6.setCell ⟨w.heap.size, 0, none⟩ (.slice K 1 cK)).drew.cell? ⟨w.heap.size, 0, none⟩ = some (.slice K 1 cK) := Lib.cell_of_heap (w := w6.setCell ⟨w.heap.size, 0, none⟩ (.slice K 1 cK)) (heap_set h06 0 _) 0
  have Hbe := Lib.hid hbe
  have HbK := Lib.hid hbK
  clear hb5 hz5 hc5 hb6 hz6 hc6 hb46 z4 h06 hbe hbK HK Hb4 H03 Hbw3 Hz3
  refine wp_region_held_drew (S := fun w' => w'.cell? ⟨w4.heap.size, 0, none⟩ = some (.slice K 1 cK) ∧ w'.cell? ⟨w4.heap.size + 1, 0, none⟩ = some (.int .i64 0)) (by kernel_rfl) gd (fun hHeld => ?_)
  refine wpAnyH_take (i := 0) (v := ?_) rfl (by kernel_rfl) (by kernel_rfl) (by kernel_rfl) (fun _ _ _ h => h) (Or.inl ⟨by rfl, ?_⟩) (by assumption) ?_
  rotate_left
  · (intro w hSw; (try dsimp only at hSw); first | (go_simp; done) | (go_simp; with_reducible rfl))
  try simp only [Act.put, List.setIfInBounds_toArray, List.set_cons_zero, List.set_cons_succ]
  refine wpAnyH_take (i := 1) (v := ?_) rfl (by kernel_rfl) (by kernel_rfl) (by kernel_rfl) (fun _ _ _ h => h) (Or.inl ⟨by rfl, ?_⟩) (by assumption) ?_
  rotate_left
  · (intro w hSw; (try dsimp only at hSw); first | (go_simp; done) | (go_simp; with_reducible rfl))
  try simp only [Act.put, List.setIfInBounds_toArray, List.set_cons_zero, List.set_cons_succ]
  refine wpAnyH_take (i := 2) (v := ?_) rfl (by kernel_rfl) (by kernel_rfl) (by kernel_rfl) (fun _ _ _ h => h) (Or.inl ⟨by rfl, ?_⟩) (by assumption) ?_
  rotate_left
  · (intro w hSw; (try dsimp only at hSw); first | (go_simp; done) | (go_simp; with_reducible rfl))
  try simp only [Act.put, List.setIfInBounds_toArray, List.set_cons_zero, List.set_cons_succ]
  refine wpAnyH_take (i := 3) (v := ?_) rfl (by kernel_rfl) (by kernel_rfl) (by kernel_rfl) (fun _ _ _ h => h) (Or.inl ⟨by rfl, ?_⟩) (by assumption) ?_
  rotate_left
  · (intro w hSw; (try dsimp only at hSw); first | (go_simp; done) | (go_simp; with_reducible rfl))
  try simp only [Act.put, List.setIfInBounds_toArray, List.set_cons_zero, List.set_cons_succ]
  refine wpAnyH_ready (rs := [4]) (by kernel_rfl) (by simp) ?_
  refine AllReadyH.cons rfl (fun K hK => ?_) (AllReadyH.nil)
  go_simp
  refine hK.out _ _ ?_ (fun hHeld => ?_)
  · ((try dsimp only); first | with_reducible exact gd | with_reducible exact g8)
  clear hK K
  try simp only [Act.put, List.setIfInBounds_toArray, List.set_cons_zero, List.set_cons_succ]
  refine wpAnyH_take (i := 5) (v := ?_) rfl (by kernel_rfl) (by kernel_rfl) (by kernel_rfl) (fun _ _ _ h => h) (Or.inl ⟨by rfl, ?_⟩) (by assumption) ?_
  rotate_left
  · (intro w hSw; (try dsimp only at hSw); first | (go_simp; done) | (go_simp; with_reducible rfl))
  try simp only [Act.put, List.setIfInBounds_toArray, List.set_cons_zero, List.set_cons_succ]
  refine wpAnyH_done (by kernel_rfl) ?_ _
  go_simp
  go_wp2
  refine bodyPost_ret (v := .tuple #[.agg #[.slice K 1 cK], .bool true]) (by simp [results, Tryz.results4, go_sem, o8]) rfl ?_
  exact ⟨K, cK, rfl, HbK.out, Hbe.out⟩
end Go.Proofs.YtlgpbllkhbgppaaGreatDoor
