/-
  Which blocks of two are come to, if the first one goes to none; their new numbers.
-/
import Derived.Test.YtglobeajmdieaaaDoorIrM
namespace Go.Proofs.YtglobeajmdieaaaDoor
open Go.RowKit
set_option linter.unusedVariables false
set_option linter.unusedSimpArgs false

set_option maxRecDepth 100000 in
set_option maxHeartbeats 4000000 in
/-- The first block is entered. -/
theorem enter_first (B n : Nat) (A : Option Addr) (c : Nat) (w : World) (hB : B ≤ n) (hz : n + 4 ≤ w.heap.size)
    (h0 : w.heap[n]? = some (.cells #[.slice A 2 c] 24 (0, 0))) (h1 : w.heap[n + 1]? = some (.cells #[.bool false, .bool false] 4 (0, 0)))
    (h2 : w.heap[n + 2]? = some (.cells #[.slice (some ⟨n + 1, 0, none⟩) 2 2] 54 (0, 0))) (h3 : w.heap[n + 3]? = some (.cells #[.slice none 0 0] 22 (0, 0))) :
    Calls Tryd.prog 35 #[.int .i64 0, .pointer (some ⟨n, 0, none⟩), .pointer (some ⟨n + 2, 0, none⟩), .pointer (some ⟨n + 3, 0, none⟩)] w fun e w' => e = .returned (.tuple #[]) ∧ Below B w w' ∧ (∀ k, k < w.heap.size → k ≠ n + 1 → k ≠ n + 3 → w'.heap[k]? = w.heap[k]?) ∧ w'.heap[n + 1]? = some (.cells #[.bool true, .bool false] 4 (0, 0)) ∧
      ∃ g p, n + 4 ≤ g ∧ w'.heap[n + 3]? = some (.cells #[.slice (some ⟨g, 0, none⟩) 1 p] 22 (0, 0)) ∧ w'.cell? ⟨g, 0, none⟩ = some (.int .i64 0) := by
  have c0 := Lib.cell_of_heap h0 0
  have c1 := Lib.cell_of_heap h1 0
  have c2 := Lib.cell_of_heap h2 0
  have c3 := Lib.cell_of_heap h3 0
  have f1 := Lib.frozen_of_heap h1
  have f3 := Lib.frozen_of_heap h3
  obtain ⟨i0, hi, hz0, hz1, hz2⟩ := info_parts infoInt
  obtain ⟨w1, hw1⟩ : ∃ w1, w1 = (w.setCell ⟨n + 1, 0, none⟩ (.bool true)).alloc (.cells #[.int .i64 0] 3) := ⟨_, rfl⟩
  have hz1' : w1.heap.size = w.heap.size + 1 := by rw [hw1]; simp
  have hk1 : ∀ k, k < w.heap.size → k ≠ n + 1 → w1.heap[k]? = w.heap[k]? := fun k hk hn => by rw [hw1]; exact (Below.heap_alloc _ _ _ (by simpa using hk)).trans (Below.heap_setCell _ _ _ _ (by show k ≠ n + 1; omega))
  have hb1 : Below B w w1 := by rw [hw1]; exact ((Below.refl _ _).setCell (by show B ≤ n + 1; omega) _).alloc (by simp; omega) _
  have hn1 : w1.heap[n + 1]? = some (.cells #[.bool true, .bool false] 4 (0, 0)) := by rw [hw1]; exact (Below.heap_alloc _ _ _ (by simp; omega)).trans (heap_put h1 0 _)
  have ha1 : w1.heap[w.heap.size]? = some (.cells #[.int .i64 0] 3 (0, 0)) := by
    rw [hw1]
    have := heap_alloc_new (w.setCell ⟨n + 1, 0, none⟩ (.bool true)) (.cells #[.int .i64 0] 3)
    rw [show (w.setCell ⟨n + 1, 0, none⟩ (.bool true)).heap.size = w.heap.size by simp] at this
    exact this
  have h31 := (hk1 (n + 3) (by omega) (by omega)).trans h3
  have d3 := Lib.cell_of_heap h31 0
  have HNW := Lib.hid (World.news_of_block ha1)
  have HO : Hid (∀ u ∈ ([.int .i64 0] : List Value), u.oneCell' = true) := Lib.hid (by intro u hu; simp at hu; subst hu; rfl)
  have HOW := Lib.hid (World.ownsRow_nil w1 (w.heap.size + 1) 3 1)
  have hsz : w.heap.size + 1 ≤ w1.heap.size := by omega
  have Hi := Lib.hid hi
  have Hz0 := Lib.hid hz0
  have Hz1 := Lib.hid hz1
  have Hz2 := Lib.hid hz2
  have Hb1 := Lib.hid hb1
  have Hn1 := Lib.hid hn1
  have Hk1 := Lib.hid hk1
  have H31 := Lib.hid h31
  have Hs1 := Lib.hid hz1'
  rw [hw1] at HOW HNW hsz
  have Hw1 := Lib.hid hw1
  clear hi hz0 hz1 hz2 hb1 hn1 hk1 h31 hz1' hw1 ha1 d3 f3
  go_enter Tryd.func35, Tryd.ntmps35
  go_wp2_with (at_builtin; refine wpList_append_lies _ rfl (.tmp 23) (.tmp 25) 22 rfl (w.heap.size + 1) 3 i0 (.int .i64 0) 1 8 Tryd.underlying22 Hi.out Hz0.out Hz1.out Hz2.out rfl (by decide) (.slice none 0 0) 0 [] rfl HOW.out ⟨w.heap.size, 0, none⟩ 1 1 [.int .i64 0] rfl rfl HNW.out HO.out (by decide) (by decide) (by decide) hsz _ rfl ?_)
  intro gp cp w2 hown2 hgrow hat hlt2
  rw [← Hw1.out] at hgrow
  clear HOW HNW hsz
  have hs1 := Hs1.out
  have hk2 : ∀ k, k < w1.heap.size → w2.heap[k]? = w1.heap[k]? := fun k hk => hgrow.block k hk (by simp [Value.ownBlock])
  have hg : gp = w.heap.size + 1 := by
    rcases hat with e | e
    · simp [Value.ownBlock] at e
    · exact e
  have h32 := (hk2 (n + 3) (by omega)).trans H31.out
  have c32 := Lib.cell_of_heap h32 0
  have f32 := Lib.frozen_of_heap h32 0
  have hset := heap_put h32 0 (.slice (some ⟨gp, 0, none⟩) 1 cp)
  have hn2 := (hk2 (n + 1) (by omega)).trans Hn1.out
  have hn3 := (Below.heap_setCell w2 ⟨n + 3, 0, none⟩ (.slice (some ⟨gp, 0, none⟩) 1 cp) (n + 1) (by show n + 1 ≠ n + 3; omega)).trans hn2
  have hgc := hown2.cellAt 0 (by decide)
  have hgc2 : (w2.setCell ⟨n + 3, 0, none⟩ (.slice (some ⟨gp, 0, none⟩) 1 cp)).cell? ⟨gp, 0, none⟩ = some (.int .i64 0) := (set_off (by show gp ≠ n + 3; omega)).trans hgc
  have hb2 : Below B w w2 := (Hb1.out).trans ⟨hgrow.os, hgrow.tape, hgrow.output, hgrow.size, fun k hk => hk2 k (by omega)⟩
  have hend := Lib.hid (And.intro (hb2.setCell (p := ⟨n + 3, 0, none⟩) (by show B ≤ n + 3; omega) (.slice (some ⟨gp, 0, none⟩) 1 cp)) (And.intro (fun k (h : k < w.heap.size) (ha : k ≠ n + 1) (hb : k ≠ n + 3) => (Below.heap_setCell w2 ⟨n + 3, 0, none⟩ (.slice (some ⟨gp, 0, none⟩) 1 cp) k (by show k ≠ n + 3; omega)).trans ((hk2 k (by omega)).trans (Hk1.out k h ha))) (And.intro hn3 (And.intro (show n + 4 ≤ gp by omega) (And.intro hset hgc2)))))
  clear hset hn2 hn3 hgc hgc2 hb2 hown2 hgrow hat hlt2 hk2 h32 hg
  go_wp2
  go_end0
  obtain ⟨q1, q2, q3, q4, q5, q6⟩ := hend.out
  exact ⟨rfl, q1, q2, q3, gp, cp, q4, q5, q6⟩

set_option maxRecDepth 100000 in
set_option maxHeartbeats 4000000 in
/-- Of two blocks, of which the first one goes to none, the first one is come to. -/
theorem reach_two (b o c : Nat) (A : Option Addr) (cT : Nat) (w : World) (hT : w.cell? ⟨b, o + 4, none⟩ = some (.slice A 0 cT)) (hb : b < w.heap.size) :
    Calls Tryd.prog 24 #[.slice (some ⟨b, o, none⟩) 2 c] w fun e w' => ∃ g, e = .returned (.slice (some ⟨g, 0, none⟩) 2 2) ∧ Below w.heap.size w w' ∧ w'.heap[g]? = some (.cells #[.bool true, .bool false] 4 (0, 0)) ∧ w.heap.size ≤ g := by
  obtain ⟨W, hW, hbW, hzW, h0, h1, h2, h3⟩ := r_four_al w #[.slice (some ⟨b, o, none⟩) 2 c] #[.bool false, .bool false] #[.slice (some ⟨w.heap.size + 1, 0, none⟩) 2 2] #[.slice none 0 0] 24 4 54 22
  have hE := enter_first w.heap.size w.heap.size (some ⟨b, o, none⟩) c W (Nat.le_refl _) (by omega) h0 h1 h2 h3
  have c0 := Lib.cell_of_heap h0 0
  have hT1 := (hbW.cell (p := ⟨b, o + 4, none⟩) hb).trans hT
  have hmk : ∀ w : World, (Instr.makeSlice 54 (.int .i64 2) (.int .i64 2)).run Tryd.prog w = .ok (.slice (some ⟨w.heap.size, 0, none⟩) 2 2) (w.alloc (.cells #[.bool false, .bool false] 4)) := fun _ => by kernel_rfl
  have hmf : ∀ (fn : Fn) (first cap : Array Value) (w : World), (Instr.makeFunc fn first cap).run Tryd.prog w = .ok (.func fn first cap) w := fun _ _ _ _ => rfl
  have HW := Lib.hid hW
  have HbW := Lib.hid hbW
  have H0 := Lib.hid h0
  have H2 := Lib.hid h2
  clear hW h1 h2 h3 hbW h0
  go_enter Tryd.func24, Tryd.ntmps24
  go_upto_region 3 with fail
  rw [← HW.out]
  go_wp2_with (go_at_call 35; refine hE.mono ?_; rintro e w1 ⟨rfl, hb1, hk1, hr1, g, p, hg, hl1, hc1⟩)
  have d0 : w1.cell? ⟨w.heap.size, 0, none⟩ = some (.slice (some ⟨b, o, none⟩) 2 c) := (World.cell?_of_block (hk1 w.heap.size (by omega) (by omega) (by omega))).trans c0
  have dT : w1.cell? ⟨b, o + 4, none⟩ = some (.slice A 0 cT) := (World.cell?_of_block (a := ⟨b, o + 4, none⟩) (hk1 b (by omega) (by omega) (by omega))).trans hT1
  have dl : w1.cell? ⟨w.heap.size + 3, 0, none⟩ = some (.slice (some ⟨g, 0, none⟩) 1 p) := Lib.cell_of_heap hl1 0
  have fl := Lib.frozen_of_heap hl1
  have d2 : w1.cell? ⟨w.heap.size + 2, 0, none⟩ = some (.slice (some ⟨w.heap.size + 1, 0, none⟩) 2 2) := (World.cell?_of_block (a := ⟨w.heap.size + 2, 0, none⟩) (hk1 (w.heap.size + 2) (by omega) (by omega) (by omega))).trans (Lib.cell_of_heap H2.out 0)
  obtain ⟨w2, hw2⟩ : ∃ w2, w2 = w1.setCell ⟨w.heap.size + 3, 0, none⟩ (.slice (some ⟨g, 0, none⟩) 0 p) := ⟨_, rfl⟩
  have e0 : w2.cell? ⟨w.heap.size, 0, none⟩ = some (.slice (some ⟨b, o, none⟩) 2 c) := by rw [hw2]; exact (set_off (by show w.heap.size ≠ w.heap.size + 3; omega)).trans d0
  have eT : w2.cell? ⟨b, o + 4, none⟩ = some (.slice A 0 cT) := by rw [hw2]; exact (set_off (by show b ≠ w.heap.size + 3; omega)).trans dT
  have e2 : w2.cell? ⟨w.heap.size + 2, 0, none⟩ = some (.slice (some ⟨w.heap.size + 1, 0, none⟩) 2 2) := by rw [hw2]; exact (set_off (by show w.heap.size + 2 ≠ w.heap.size + 3; omega)).trans d2
  have el : w2.cell? ⟨w.heap.size + 3, 0, none⟩ = some (.slice (some ⟨g, 0, none⟩) 0 p) := by rw [hw2]; exact Lib.cell_of_heap (heap_put hl1 0 _) 0
  have hr2 : w2.heap[w.heap.size + 1]? = some (.cells #[.bool true, .bool false] 4 (0, 0)) := by rw [hw2]; exact (Below.heap_setCell _ _ _ _ (by show w.heap.size + 1 ≠ w.heap.size + 3; omega)).trans hr1
  have hb2 : Below w.heap.size w w2 := by rw [hw2]; exact (HbW.out.trans hb1).setCell (by show w.heap.size ≤ w.heap.size + 3; omega) _
  have HE := Lib.hid (And.intro hb2 hr2)
  have Hw2 := Lib.hid hw2
  clear hw2 hr2 hb2 hb1 hk1 hr1 hl1 dT d2 hT1 c0
  refine wp_loop_rounds 2 ?_
  rw [rounds_succ]
  go_upto_region 8 with fail
  rw [← Hw2.out]
  go_wp2
  refine wp_loop_rounds 1 ?_
  rw [rounds_succ]
  go_wp2
  rw [rounds_succ]
  go_wp2
  go_ret
  exact ⟨w.heap.size + 1, rfl, HE.out.1, HE.out.2, by omega⟩
end Go.Proofs.YtglobeajmdieaaaDoor
