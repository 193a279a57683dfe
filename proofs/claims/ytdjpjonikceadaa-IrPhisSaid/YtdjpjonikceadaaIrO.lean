/-
  A block of the function that is changed; ends; copies of lists.
-/
import Derived.Test.YtdjpjonikceadaaIrN
namespace Go.Proofs.Ytdjpjonikceadaa
open Go.RowKit
set_option linter.unusedVariables false
set_option linter.unusedSimpArgs false

set_option maxRecDepth 100000 in
set_option maxHeartbeats 4000000 in
theorem block_ptr (E b N g c : Nat) (IV : Value) (w : World) (hE : EdC w E IV (.slice (some ⟨g, 0, none⟩) N c)) (hb : b < N) :
    Calls Try.prog 22 #[.pointer (some ⟨E, 0, none⟩), .int .i64 b] w fun e w' => e = .returned (.pointer (some ⟨g, b * 5, none⟩)) ∧ w' = w := by
  unfold EdC at hE
  have c4 := Lib.cell_of_heap hE 4
  have d1 : decide ((b : Int) < 0) = false := by simp
  have d2 : decide ((N : Int) ≤ (b : Int)) = false := by simp; omega
  have l1 : (b : Int) < N := by omega
  have l0 : (0 : Int) ≤ b := by omega
  clear hE
  go_enter Try.func22, Try.ntmps22
  go_wp2
  go_ret
  exact ⟨rfl, rfl⟩

set_option maxRecDepth 100000 in
/-- An end that goes to a block. -/
theorem jump_any (n : Int) (w : World) :
    Calls Try.prog 11 #[.int .i64 n] w fun e w' => ∃ g, e = .returned (.agg #[.int .i64 1, .int .i64 (-1), .slice (some ⟨g, 0, none⟩) 1 1]) ∧ Below w.heap.size w w' ∧ w'.heap[g]? = some (.cells #[.int .i64 n] 3 (0, 0)) ∧ w.heap.size ≤ g := by
  go_enter Try.func11, Try.ntmps11
  go_wp2
  obtain ⟨W, hW, hbW, hzW, h0, h1⟩ := r_two_al w #[.int .i64 1, .int .i64 (-1), .slice (some ⟨w.heap.size + 1, 0, none⟩) 1 1] #[.int .i64 n] 34 3
  rw [← hW]
  have s0 : W.cell? ⟨w.heap.size, 0, none⟩ = some (.int .i64 1) := Lib.cell_of_heap h0 0
  have s1 : W.cell? ⟨w.heap.size, 1, none⟩ = some (.int .i64 (-1)) := Lib.cell_of_heap h0 1
  have s2 : W.cell? ⟨w.heap.size, 2, none⟩ = some (.slice (some ⟨w.heap.size + 1, 0, none⟩) 1 1) := Lib.cell_of_heap h0 2
  clear hW
  refine ⟨rfl, _, by simp [results, Try.results11, go_sem, s0, s1, s2], w.heap.size + 1, rfl, hbW, h1, by omega⟩

set_option maxRecDepth 100000 in
set_option maxHeartbeats 4000000 in
/-- A copy of numbers that there are. -/
theorem cloneI_some (base b o c : Nat) (l : List Int) (w : World) (hl : 0 < l.length) (hn : l.length ≤ 1000) (hb : base ≤ w.heap.size) (hbl : b < w.heap.size) (hc : ∀ j u, (l.map (fun x => Value.int .i64 x))[j]? = some u → w.cell? ((⟨b, o, none⟩ : Addr).add j) = some u) :
    Calls Try.prog 33 #[.slice (some ⟨b, o, none⟩) l.length c] w fun e w' => ∃ g d, e = .returned (.slice (some ⟨g, 0, none⟩) l.length d) ∧ Below w.heap.size w w' ∧ w'.ownsRow base 3 1 (.slice (some ⟨g, 0, none⟩) l.length d) l.length (l.map (fun x => Value.int .i64 x)) ∧ w.heap.size ≤ g := by
  have hq : ∀ w, (binOp .eql 26 (.slice (some ⟨b, o, none⟩) l.length c) (.slice none 0 0)).run Try.prog w = .ok (.bool false) w := fun _ => by kernel_rfl
  obtain ⟨W, hW, hbW, hzW, h0⟩ := r_one_al w #[] 3
  have hown : W.ownsRow base 3 1 (.slice (some ⟨w.heap.size, 0, none⟩) 0 0) 0 [] := by rw [hW]; exact World.ownsRow_made w #[] 0 hb (by decide) rfl
  have hnw : ∀ j u, (l.map (fun x => Value.int .i64 x))[j]? = some u → W.cell? ((⟨b, o, none⟩ : Addr).add j) = some u := fun j u h => (hbW.cell (p := (⟨b, o, none⟩ : Addr).add j) (by unfold Addr.add; split <;> exact hbl)).trans (hc j u h)
  have HOW := Lib.hid hown
  have HNW := Lib.hid hnw
  have HO : Hid (∀ u ∈ l.map (fun x => Value.int .i64 x), u.oneCell' = true) := Lib.hid (by
    intro u hu
    obtain ⟨x, _, rfl⟩ := List.mem_map.mp hu
    rfl)
  have hsz : base ≤ W.heap.size := by omega
  have HL : Hid ((l.map (fun x => Value.int .i64 x)).length = l.length * 1) := Lib.hid (by simp)
  have Hl := Lib.hid hl
  have Hn : Hid (0 + l.length ≤ maxLen) := Lib.hid (by unfold maxLen; omega)
  have Hn2 : Hid ((0 + l.length) * 8 ≤ 140737488355328) := Lib.hid (by omega)
  obtain ⟨i0, hi, hz0, hz1, hz2⟩ := info_parts infoInt
  have Hi := Lib.hid hi
  have Hz0 := Lib.hid hz0
  have Hz1 := Lib.hid hz1
  have Hz2 := Lib.hid hz2
  have HbW := Lib.hid hbW
  have HzW := Lib.hid hzW
  rw [hW] at HOW HNW hsz
  have HW := Lib.hid hW
  clear hW hbW hzW h0 hown hnw hi hz0 hz1 hz2 hc hn hl
  go_enter Try.func33, Try.ntmps33
  go_wp2_with (at_builtin; refine wpList_append_lies _ rfl (.tmp 5) (.tmp 6) 26 rfl base 3 i0 (.int .i64 0) 1 8 Try.underlying26 Hi.out Hz0.out Hz1.out Hz2.out rfl (by decide) (.slice (some ⟨w.heap.size, 0, none⟩) 0 0) 0 [] rfl HOW.out ⟨b, o, none⟩ l.length c (l.map (fun x => Value.int .i64 x)) rfl HL.out HNW.out HO.out Hl.out Hn.out Hn2.out hsz _ rfl ?_)
  intro gp cp w2 hown2 hgrow hat hlt2
  rw [← HW.out] at hgrow
  have hg : w.heap.size ≤ gp := by
    rcases hat with e | e
    · simp [Value.ownBlock] at e; omega
    · omega
  have hk : ∀ k, k < w.heap.size → w2.heap[k]? = w.heap[k]? := fun k hk => (hgrow.block k (by have := HzW.out; omega) (by simp [Value.ownBlock]; omega)).trans (HbW.out.block k hk)
  have hb2 : Below w.heap.size w w2 := ⟨hgrow.os.trans HbW.out.os, hgrow.tape.trans HbW.out.tape, hgrow.output.trans HbW.out.output, Nat.le_trans HbW.out.size hgrow.size, hk⟩
  have hend := Lib.hid (And.intro hb2 (And.intro hown2 hg))
  clear hown2 hgrow hat hlt2 hk hb2 hg HOW HNW hsz
  go_wp2
  go_ret
  exact ⟨gp, cp, rfl, hend.out.1, hend.out.2.1, hend.out.2.2⟩

set_option maxRecDepth 100000 in
set_option maxHeartbeats 4000000 in
/-- A copy of an end that goes to one block. -/
theorem cloneTerm_one (base k : Nat) (a : Int) (t c : Nat) (n : Int) (w : World) (hb : base ≤ w.heap.size) (ht : w.heap[t]? = some (.cells #[.int .i64 n] 3 (0, 0))) :
    Calls Try.prog 23 #[.agg #[.int .i64 k, .int .i64 a, .slice (some ⟨t, 0, none⟩) 1 c]] w fun e w' => ∃ g d, e = .returned (.agg #[.int .i64 k, .int .i64 a, .slice (some ⟨g, 0, none⟩) 1 d]) ∧ Below w.heap.size w w' ∧ w'.ownsRow base 3 1 (.slice (some ⟨g, 0, none⟩) 1 d) 1 [.int .i64 n] ∧ w.heap.size ≤ g := by
  obtain ⟨W, hW, hbW, hzW, h0, h1⟩ := r_two_al w #[.int .i64 k, .int .i64 a, .slice (some ⟨t, 0, none⟩) 1 c] #[.int .i64 0, .int .i64 0, .slice none 0 0] 34 34
  have htl := heap_in ht
  have hT := (hbW.block t htl).trans ht
  have hC := cloneI_some base t 0 c [n] W (by simp) (by simp) (by omega) (by omega) (World.news_of_block hT)
  simp only [List.length_cons, List.length_nil, Nat.zero_add, List.map_cons, List.map_nil] at hC
  have c2 := Lib.cell_of_heap h0 2
  have HW := Lib.hid hW
  have HbW := Lib.hid hbW
  have HzW := Lib.hid hzW
  have H0 := Lib.hid h0
  have H1 := Lib.hid h1
  clear hW hbW hzW h0 h1 hT ht htl
  go_enter Try.func23, Try.ntmps23
  go_upto_region 1 with fail
  rw [← HW.out]
  go_wp2_with (go_at_call 33; refine hC.mono ?_; rintro e w1 ⟨g, d, rfl, hb1, ho1, hg1⟩; have q0 := (hb1.block _ (heap_in H0.out)).trans H0.out; have q1 := (hb1.block _ (heap_in H1.out)).trans H1.out; have z0 := Lib.cell_of_heap q0 0; have z1 := Lib.cell_of_heap q0 1; have z2 := Lib.cell_of_heap q0 2; have f0 := Lib.frozen_of_heap q0; have r0 := Lib.cell_of_heap q1 0; have r1 := Lib.cell_of_heap q1 1; have r2 := Lib.cell_of_heap q1 2; have f1 := Lib.frozen_of_heap q1; have Hb1 := Lib.hid hb1; have Ho1 := Lib.hid ho1; have Hg1 := Lib.hid hg1; have Q0 := Lib.hid q0; have Q1 := Lib.hid q1; clear hb1 ho1 hg1 q0 q1 hC)
  obtain ⟨w2, hw2⟩ : ∃ w2, w2 = w1.setCell ⟨w.heap.size, 2, none⟩ (.slice (some ⟨g, 0, none⟩) 1 d) := ⟨_, rfl⟩
  obtain ⟨w3, hw3⟩ : ∃ w3, w3 = ((w2.setCell ⟨w.heap.size + 1, 0, none⟩ (.int .i64 k)).setCell ⟨w.heap.size + 1, 1, none⟩ (.int .i64 a)).setCell ⟨w.heap.size + 1, 2, none⟩ (.slice (some ⟨g, 0, none⟩) 1 d) := ⟨_, rfl⟩
  rw [← hw2, ← hw3]
  have g2 : Bu w.heap.size w1 w2 := by rw [hw2]; exact Bu.setCell (p := ⟨w.heap.size, 2, none⟩) (Bu.refl w.heap.size w1) (Or.inl rfl) _
  have g3 : Bu (w.heap.size + 1) w2 w3 := by rw [hw3]; exact Bu.setCell (p := ⟨w.heap.size + 1, 2, none⟩) (Bu.setCell (p := ⟨w.heap.size + 1, 1, none⟩) (Bu.setCell (p := ⟨w.heap.size + 1, 0, none⟩) (Bu.refl (w.heap.size + 1) w2) (Or.inl rfl) _) (Or.inl rfl) _) (Or.inl rfl) _
  have hz1 := Hb1.out.size
  have hgW := Hg1.out
  have hzW := HzW.out
  have q2 : w2.heap[w.heap.size + 1]? = some (.cells #[.int .i64 0, .int .i64 0, .slice none 0 0] 34 (0, 0)) := (g2.block _ (by omega) (by omega)).trans Q1.out
  have q3 : w3.heap[w.heap.size + 1]? = some (.cells #[.int .i64 k, .int .i64 a, .slice (some ⟨g, 0, none⟩) 1 d] 34 (0, 0)) := by rw [hw3]; exact heap_put (heap_put (heap_put q2 0 _) 1 _) 2 _
  have b1 : Below w.heap.size w w1 := HbW.out.trans (Hb1.out.mono (by omega))
  have b3 : Below w.heap.size w w3 := g3.below (g2.below b1 (Nat.le_refl _) (by omega)) (by omega) (by have := g2.size; omega)
  have og : ∀ r, r < W.heap.size → (Value.slice (some ⟨g, 0, none⟩) 1 d).ownBlock ≠ some r := fun r hr e => by simp [Value.ownBlock] at e; omega
  have o2 := Ho1.out.kept (row := some w.heap.size) (w' := w2) ⟨g2.os, g2.tape, g2.output, g2.size, fun j hj hne => g2.block j hj (fun e => hne (by rw [e]))⟩ (.inr (og _ (by omega)))
  have o3 := o2.kept (row := some (w.heap.size + 1)) (w' := w3) ⟨g3.os, g3.tape, g3.output, g3.size, fun j hj hne => g3.block j hj (fun e => hne (by rw [e]))⟩ (.inr (og _ (by omega)))
  have s0 := Lib.cell_of_heap q3 0
  have s1 := Lib.cell_of_heap q3 1
  have s2 := Lib.cell_of_heap q3 2
  clear hw2 hw3
  refine ⟨rfl, _, by simp [results, Try.results23, go_sem, s0, s1, s2], g, d, rfl, b3, o3, by omega⟩
end Go.Proofs.Ytdjpjonikceadaa
