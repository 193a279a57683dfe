/-
  Blocks on all ways: whole rows of numbers; slices.Repeat of one number.
  Blocks on all ways: a struct in a block, its rows and others, no two in one block; numbers read and written where they are there.
-/
import Derived.Test.YtagagpappjkgbaaJx6
import Derived.Test.YtagagpappjkgbaaJx7
import Derived.Laws.CopyOwn
import Derived.Deep.RegionLaw
namespace Go.Proofs.Ytagagpappjkgbaa
set_option linter.unusedVariables false
set_option linter.unusedSimpArgs false
open Go.RowKit Go.Shelf

/-- A whole row of numbers. -/
def IRow (w : World) (b : Nat) (l : List Int) : Prop := w.heap[b]? = some (.cells (intsV l).toArray 3 (0, 0))
theorem IRow.cell {w : World} {b : Nat} {l : List Int} (h : IRow w b l) {j : Nat} (hj : j < l.length) : w.cell? ⟨b, j, none⟩ = some (.int .i64 (l.getD j 0)) := by
  rw [Lib.cell_of_heap h j]
  simp [intsV, List.getD, hj]
theorem IRow.fro {w : World} {b : Nat} {l : List Int} (h : IRow w b l) (j : Nat) : w.frozen? ⟨b, j, none⟩ = false := Lib.frozen_of_heap h j
theorem IRow.put {w : World} {b : Nat} {l : List Int} (h : IRow w b l) (j : Nat) (x : Int) : IRow (w.setCell ⟨b, j, none⟩ (.int .i64 x)) b (l.set j x) := by
  unfold IRow
  rw [gr_put h j]
  simp only [List.setIfInBounds_toArray, intsV, List.map_set]
theorem IRow.keep {w w' : World} {b : Nat} {l : List Int} (h : IRow w b l) (hb : w'.heap[b]? = w.heap[b]?) : IRow w' b l := hb.trans h
theorem IRow.lt {w : World} {b : Nat} {l : List Int} (h : IRow w b l) : b < w.heap.size := gr_in h
theorem IRow.own {w : World} {b n base : Nat} {l : List Int} (h : IRow w b l) (hl : l.length = n) (hb : base ≤ b) (hn : n ≤ 1048576) : w.ownsRow base 3 1 (.slice (some ⟨b, 0, none⟩) n n) n (intsV l) := full_own h (by simpa [intsV] using hl) hb (by unfold maxLen; omega)
theorem IRow.of_own {w : World} {b n base : Nat} {l : List Int} (h : w.ownsRow base 3 1 (.slice (some ⟨b, 0, none⟩) n n) n (intsV l)) : IRow w b l := own_full h

theorem gr_clt {w : World} {a : Addr} {v : Value} (h : w.cell? a = some v) : a.block < w.heap.size := by
  unfold World.cell? at h
  split at h <;> simp_all
  all_goals (rcases Nat.lt_or_ge a.block w.heap.size with h' | h'; exact h'; simp_all)
theorem gr_add (b o j : Nat) : (⟨b, o, none⟩ : Addr).add j = ⟨b, o + j, none⟩ := by unfold Addr.add; split <;> simp_all
def repV (n k : Nat) (v : Int) : List Value := List.replicate k (Value.int .i64 v) ++ List.replicate (n - k) (Value.int .i64 0)
theorem repV_len (n k : Nat) (v : Int) (h : k ≤ n) : (repV n k v).length = n := by simp [repV]; omega
theorem repV_splice (n k c : Nat) (v : Int) (h : k + c ≤ n) : splice (repV n k v) k (List.replicate c (Value.int .i64 v)) = repV n (k + c) v := by
  unfold splice repV
  rw [List.take_append_of_le_length (by simp), List.take_of_length_le (by simp), ← List.append_assoc, List.replicate_append_replicate]
  congr 1
  rw [List.length_replicate, List.drop_append, List.length_replicate, List.drop_of_length_le (by simp), List.nil_append, show k + c - k = c by omega, List.drop_replicate]
  congr 1
  omega
theorem repV_end (n : Nat) (v : Int) : repV n n v = intsV (List.replicate n v) := by simp [repV, intsV]

theorem cut_low {nb n : Nat} (k : Nat) (hk : k < n) (W : World) : (Instr.slice 64 (.slice (some ⟨nb, 0, none⟩) n n) (some (.int .i64 (k : Int))) none none).run Try.prog W = .ok (.slice (some ⟨nb, k, none⟩) (n - k) (n - k)) W := by
  rw [run_slice_l W 64 (some ⟨nb, 0, none⟩) n n (by simp [Program.elem, Try.underlying64]) .i64 (k : Int) (by omega) (by omega)]
  have : n - k ≠ 0 := by omega
  go_simp
  intro h
  omega
theorem cut_high {nb n c : Nat} (m : Nat) (hm : m ≤ n) (hn : n ≤ c) (hc : 0 < c) (W : World) : (Instr.slice 64 (.slice (some ⟨nb, 0, none⟩) n c) none (some (.int .i64 (m : Int))) none).run Try.prog W = .ok (.slice (some ⟨nb, 0, none⟩) m c) W := by
  rw [run_slice_h W 64 (some ⟨nb, 0, none⟩) n c (by simp [Program.elem, Try.underlying64]) .i64 (m : Int) (by omega) (by omega)]
  have : c ≠ 0 := by omega
  go_simp

set_option maxRecDepth 100000 in
set_option maxHeartbeats 8000000 in
theorem repeat_g (xb xo : Nat) (v : Int) (n : Nat) (w : World) (hx : w.cell? ⟨xb, xo, none⟩ = some (.int .i64 v)) (h1 : 1 ≤ n) (hn : n ≤ 1048576) :
    Calls Try.prog 115 #[.slice (some ⟨xb, xo, none⟩) 1 1, .int .i64 (n : Int)] w fun e w' => ∃ nb, e = .returned (.slice (some ⟨nb, 0, none⟩) n n) ∧ w.heap.size ≤ nb ∧ IRow w' nb (List.replicate n v) ∧ Below w.heap.size w w' := by
  have hM := bits_Mul 1 n (by omega) (by omega) w
  rw [Nat.one_mul, Nat.div_eq_of_lt (by omega), Nat.mod_eq_of_lt (by omega)] at hM
  obtain ⟨j1, hj1, jz0, jz1, jz2⟩ := info_parts infoIntG
  have Ji := Lib.hid hj1
  have Jz0 := Lib.hid jz0
  have Jz1 := Lib.hid jz1
  have Jz2 := Lib.hid jz2
  clear hj1 jz0 jz1 jz2
  have hw1 : IntKind.u64.wrap (1 : Int) = 1 := by rw [IntKind.wrap_u64]; omega
  have hwn : IntKind.u64.wrap (n : Int) = n := by rw [IntKind.wrap_u64]; omega
  go_enter Try.func115, Try.ntmps115
  go_upto_region 6 with (go_at_call 134; refine hM.mono ?_; rintro e w1 ⟨rfl, h1⟩; rw [h1]; clear h1 w1)
  have hsI : (Try.prog.info? 3).map (·.size) = some 1 := by kernel_rfl
  have HsI := Lib.hid hsI
  have Hx := Lib.hid hx
  clear hsI hx hw1 hwn hM
  go_wp2_with (at_make; refine wpList_make_full _ rfl (.tmp 29) (.tmp 29) 64 rfl w.heap.size 3 j1 (.int .i64 0) 1 Try.underlying64 Ji.out Jz0.out Jz1.out _ _ _ _ n rfl rfl (by first | rfl | (rw [wrap64_id] <;> omega)) (by first | rfl | (rw [wrap64_id] <;> omega)) (by rw [Jz2.out]; omega) (by unfold maxLen; omega) (Nat.le_refl _) ?_)
  intro w2 ho2 hg2
  have hb2 : Below w.heap.size w w2 := (Below.refl _ _).grown hg2 (Nat.le_refl _) (fun k e => by cases e)
  rw [madeInt] at ho2
  have h2 := own_full ho2
  have hr0 : repV n 0 v = List.replicate n (Value.int .i64 0) := by simp [repV]
  rw [← hr0] at h2
  have H2 := Lib.hid h2
  have Hb2 := Lib.hid hb2
  obtain ⟨X1, hX1⟩ : ∃ X1 : List Value, X1 = List.replicate 1 (Value.int .i64 v) := ⟨_, rfl⟩
  have hX1l : X1.length = 1 := by rw [hX1]; rfl
  have hX1c : ∀ j u, X1[j]? = some u → w2.cell? ((⟨xb, xo, none⟩ : Addr).add j) = some u := fun j u hj => by
    rw [hX1] at hj
    rcases j with _ | j
    · injection hj with hj
      subst hj
      rw [gr_add, Nat.add_zero]
      exact (hb2.cell (p := ⟨xb, xo, none⟩) (gr_clt Hx.out)).trans Hx.out
    · simp at hj
  have hX1o : ∀ u ∈ X1, u.oneCell' = true := fun u hu => by rw [hX1] at hu; simp at hu; rw [hu]; rfl
  have HX1 := Lib.hid hX1
  have HX1c := Lib.hid hX1c
  have HX1o := Lib.hid hX1o
  clear ho2 hg2 hb2 h2 hr0 hX1 hX1c hX1o
  go_wp2_with (refine wpList_copy_splice rfl (.tmp 31) (.tmp 32) 64 64 rfl 3 Try.underlying64 HsI.out (some ⟨w.heap.size, 0, none⟩) (some ⟨xb, xo, none⟩) n n 1 1 rfl rfl w.heap.size 0 (repV n 0 v) 3 H2.out X1 (by rw [hX1l]; show 1 = min 1 n; omega) (fun _ => ⟨rfl, _, rfl, HX1c.out⟩) (by rw [hX1l, repV_len n 0 v (by omega)]; omega) HX1o.out w.heap.size w Hb2.out (Nat.le_refl _) ?_)
  intro w3 H3 hb3
  rw [HX1.out, repV_splice n 0 1 v (by omega), Nat.zero_add] at H3
  have Hb3 := Lib.hid hb3
  clear hb3 Hb2 H2 HX1 HX1c HX1o
  clear hX1l
  go_upto_region 8 with fail
  go_loopw [8] (fun u8 wr => ∃ k : Nat, 1 ≤ k ∧ k ≤ n ∧ u8 = .int .i64 k ∧ Hid (wr.heap[w.heap.size]? = some (.cells (repV n k v).toArray 3 (0, 0))) ∧ Hid (Below w.heap.size w wr)) (fun u8 _ => n - (intOf u8).toNat)
  case atStart => exact ⟨1, Nat.le_refl _, h1, by go_num, H3, Hb3⟩
  case round =>
    clear H3 Hb3
    obtain ⟨k, hk1, hk, rfl, H3, HB⟩ := hrel
    by_cases hlt : k < n
    · obtain ⟨q, hq⟩ : ∃ q, n = k + q := ⟨n - k, by omega⟩
      obtain ⟨c, hc⟩ : ∃ c, c = min k q := ⟨_, rfl⟩
      have hck : c ≤ k := by omega
      have hcq : k + c ≤ n := by omega
      have hc1 : 1 ≤ c := by omega
      have hcm : c = min k (n - k) := by omega
      have hcl := cut_low (nb := w.heap.size) (n := n) k hlt
      have hch := cut_high (nb := w.heap.size) (n := n) (c := n) k hk (Nat.le_refl _) (by omega)
      obtain ⟨X, hX⟩ : ∃ X : List Value, X = List.replicate c (Value.int .i64 v) := ⟨_, rfl⟩
      have hXl : X.length = c := by rw [hX]; simp
      have hXc : ∀ j u, X[j]? = some u → wr.drew.cell? ((⟨w.heap.size, 0, none⟩ : Addr).add j) = some u := fun j u hj => by
        have hjc : j < c := by rw [← hXl]; exact (List.getElem?_eq_some_iff.1 hj).1
        rw [gr_add, Nat.zero_add]
        have h := Lib.cell_of_heap (w := wr.drew) H3.out j
        rw [h]
        rw [hX] at hj
        rw [List.getElem?_toArray, repV, List.getElem?_append_left (by simp; omega), List.getElem?_replicate, if_pos (by omega)]
        rw [List.getElem?_replicate, if_pos hjc] at hj
        exact hj
      have hXo : ∀ u ∈ X, u.oneCell' = true := fun u hu => by rw [hX] at hu; rw [(List.mem_replicate.1 hu).2]; rfl
      have HX := Lib.hid hX
      have HXc := Lib.hid hXc
      have HXo := Lib.hid hXo
      have Hc := Lib.hid hcm
      have H3d : wr.drew.heap[w.heap.size]? = some (.cells (repV n k v).toArray 3 (0, 0)) := H3.out
      have HBd : Below w.heap.size w wr.drew := HB.out.drew
      clear hX hXc hXo hc hcm hq q
      go_upto_region 9 with fail
      -- REG
      refine wp_region_held_drew (S := fun _ => True) (by kernel_rfl) trivial (fun hHeld => ?_)
      refine wpAnyH_take (i := 0) (v := ?_) rfl (by kernel_rfl) (by kernel_rfl) (by kernel_rfl) (fun _ _ _ h => h) (Or.inl ⟨by rfl, ?_⟩) (by assumption) ?_
      rotate_left
      · (intro w hSw; (try dsimp only at hSw); first | (go_simp; done) | (go_simp; with_reducible rfl))
      try simp only [Act.put, List.setIfInBounds_toArray, List.set_cons_zero, List.set_cons_succ]
      refine wpAnyH_take (i := 1) (v := ?_) rfl (by kernel_rfl) (by kernel_rfl) (by kernel_rfl) (fun _ _ _ h => h) (Or.inl ⟨by rfl, ?_⟩) (by assumption) ?_
      rotate_left
      · (intro w hSw; (try dsimp only at hSw); first | (go_simp; done) | (go_simp; with_reducible rfl))
      try simp only [Act.put, List.setIfInBounds_toArray, List.set_cons_zero, List.set_cons_succ]
      refine wpAnyH_take (i := 2) (v := ?_) rfl (by kernel_rfl) (by kernel_rfl) (by kernel_rfl) (fun _ _ _ h => h) (Or.inl ⟨by rfl, ?_⟩) (by assumption) ?_
      rotate_left
      · (intro w hSw; (try dsimp only at hSw); first | (go_simp; done) | (go_simp; with_reducible rfl))
      try simp only [Act.put, List.setIfInBounds_toArray, List.set_cons_zero, List.set_cons_succ]
      refine wpAnyH_take (i := 3) (v := ?_) rfl (by kernel_rfl) (by kernel_rfl) (by kernel_rfl) (fun _ _ _ h => h) (Or.inl ⟨by rfl, ?_⟩) (by assumption) ?_
      rotate_left
      · (intro w hSw; (try dsimp only at hSw); first | (go_simp; done) | (go_simp; with_reducible rfl))
      try simp only [Act.put, List.setIfInBounds_toArray, List.set_cons_zero, List.set_cons_succ]
      refine wpAnyH_take (i := 4) (v := ?_) rfl (by kernel_rfl) (by kernel_rfl) (by kernel_rfl) (fun _ _ _ h => h) (Or.inl ⟨by rfl, ?_⟩) (by assumption) ?_
      rotate_left
      · (intro w hSw; (try dsimp only at hSw); first | (go_simp; done) | (go_simp; with_reducible rfl))
      try simp only [Act.put, List.setIfInBounds_toArray, List.set_cons_zero, List.set_cons_succ]
      refine wpAnyH_take (i := 5) (v := ?_) rfl (by kernel_rfl) (by kernel_rfl) (by kernel_rfl) (fun _ _ _ h => h) (Or.inl ⟨by rfl, ?_⟩) (by assumption) ?_
      rotate_left
      · (intro w hSw; (try dsimp only at hSw); first | (go_simp; done) | (go_simp; with_reducible rfl))
      try simp only [Act.put, List.setIfInBounds_toArray, List.set_cons_zero, List.set_cons_succ]
      refine wpAnyH_take (i := 6) (v := ?_) rfl (by kernel_rfl) (by kernel_rfl) (by kernel_rfl) (fun _ _ _ h => h) (Or.inl ⟨by rfl, ?_⟩) (by assumption) ?_
      rotate_left
      · (intro w hSw; (try dsimp only at hSw); first | (go_simp; done) | (go_simp; with_reducible rfl))
      try simp only [Act.put, List.setIfInBounds_toArray, List.set_cons_zero, List.set_cons_succ]
      refine wpAnyH_ready (rs := [7]) (by kernel_rfl) (by simp) ?_
      refine AllReadyH.cons rfl (fun K hK => ?_) (AllReadyH.nil)
      refine step_copy_splice rfl (.tmp 41) (.tmp 44) 64 64 rfl 3 Try.underlying64 HsI.out (some ⟨w.heap.size, k, none⟩) (some ⟨w.heap.size, 0, none⟩) (n - k) (n - k) k n (by simp [Act.eval, Act.put]) (by simp [Act.eval, Act.put]) w.heap.size k (repV n k v) 3 H3d X (by rw [hXl, Hc.out]; first | done | rfl) (fun _ => ⟨rfl, _, rfl, HXc.out⟩) (by rw [hXl, repV_len n k v (by omega)]; omega) HXo.out w.heap.size w HBd (Nat.le_refl _) ?_
      intro w4 H4 hb4
      rw [HX.out, repV_splice n k c v (by omega)] at H4
      have Hb4 := Lib.hid hb4
      have hXl2 := hXl
      clear hb4
      refine hK.out _ _ ?_ (fun hHeld => ?_)
      · ((try dsimp only); first | done | exact trivial)
      clear hK K
      try simp only [Act.put, List.setIfInBounds_toArray, List.set_cons_zero, List.set_cons_succ]
      refine wpAnyH_take (i := 8) (v := ?_) rfl (by kernel_rfl) (by kernel_rfl) (by kernel_rfl) (fun _ _ _ h => h) (Or.inl ⟨by rfl, ?_⟩) (by assumption) ?_
      rotate_left
      · (intro w hSw; (try dsimp only at hSw); first | (go_simp; done) | (go_simp; with_reducible rfl))
      try simp only [Act.put, List.setIfInBounds_toArray, List.set_cons_zero, List.set_cons_succ]
      refine wpAnyH_ready (rs := [9]) (by kernel_rfl) (by simp) ?_
      refine AllReadyH.cons rfl (fun K hK => ?_) (AllReadyH.nil)
      go_simp
      refine hK.out _ _ ?_ (fun hHeld => ?_)
      · ((try dsimp only); first | done | exact trivial)
      clear hK K
      try simp only [Act.put, List.setIfInBounds_toArray, List.set_cons_zero, List.set_cons_succ]
      refine wpAnyH_done (by kernel_rfl) ?_ _
      skip
      clear hXl hXl2 hcl hch H3d HBd HX HXc HXo Hc X
      have hw : IntKind.i64.wrap ((k : Int) + (c : Int)) = ((k + c : Nat) : Int) := by rw [IntKind.wrap_i64]; omega
      rw [hw]
      clear hw
      go_wp2
      go_roundw
      case rel => exact ⟨k + c, by omega, by omega, by go_num, H4, Hb4⟩
      case measure => simp [intOf]; omega
    · obtain rfl : k = n := by omega
      rw [repV_end] at H3
      go_wp2
      go_ret
      exact ⟨_, rfl, Nat.le_refl _, H3.out, HB.out⟩
end Go.Proofs.Ytagagpappjkgbaa
namespace Go.Proofs.Ytagagpappjkgbaa
set_option linter.unusedVariables false
set_option linter.unusedSimpArgs false
open Go.RowKit Go.Shelf

/-- A struct in the block E, and rows of the call's own, apart from it and from each other. -/
structure Sq (T : TypeId) (w : World) (base E : Nat) (F : Nat → GRw) (cs : List Value) : Prop where
  fam : GFam w base E F
  box : w.heap[E]? = some (.cells cs.toArray T (0, 0))
  bE : base ≤ E
  hb : base ≤ w.heap.size
theorem Sq.keep {T : TypeId} {w w' : World} {base E : Nat} {F : Nat → GRw} {cs : List Value} (h : Sq T w base E F cs) (hb : Below w.heap.size w w') : Sq T w' base E F cs :=
  ⟨h.fam.keep hb, (hb.block E h.fam.el).trans h.box, h.bE, Nat.le_trans h.hb hb.size⟩
theorem Sq.grown {T : TypeId} {w w' : World} {base E : Nat} {F : Nat → GRw} {cs : List Value} (h : Sq T w base E F cs) (k : Nat) (hg : w.grownBy w' (F k).v.ownBlock) (r : GRw) (hown : w'.ownsRow base r.T r.z r.v r.n r.xs)
    (hat : ∀ g, r.v.ownBlock = some g → (F k).v.ownBlock = some g ∨ w.heap.size ≤ g) : Sq T w' base E (upG F k r) cs :=
  ⟨h.fam.grown k hg r hown hat, (hg.block E h.fam.el (fun e => h.fam.av k e.symm)).trans h.box, h.bE, Nat.le_trans h.hb hg.size⟩
theorem Sq.put {T : TypeId} {w : World} {base E : Nat} {F : Nat → GRw} {cs : List Value} (h : Sq T w base E F cs) {k : Nat} {T' : TypeId} {z g n c : Nat} {xs : List Value} (hk : F k = ⟨T', z, .slice (some ⟨g, 0, none⟩) n c, n, xs⟩) (j : Nat) (u : Value) :
    Sq T (w.setCell ⟨g, j, none⟩ u) base E (upG F k ⟨T', z, .slice (some ⟨g, 0, none⟩) n c, n, xs.set j u⟩) cs := by
  obtain ⟨s1, s2⟩ := h.fam.put hk j u
  have hav := h.fam.av k
  rw [hk] at hav
  exact ⟨s1, (s2.block E h.fam.el (fun e => hav e.symm)).trans h.box, h.bE, Nat.le_trans h.hb s2.size⟩
theorem Sq.field {T : TypeId} {w : World} {base E : Nat} {F : Nat → GRw} {cs : List Value} (h : Sq T w base E F cs) (j : Nat) (u : Value) : Sq T (w.setCell ⟨E, j, none⟩ u) base E F (cs.set j u) :=
  ⟨h.fam.bu (GBu.setCell (GBu.refl E w) (.inl rfl) u), by rw [gr_put h.box j]; simp only [List.setIfInBounds_toArray], h.bE, by simpa [World.setCell] using h.hb⟩
theorem Sq.cell {T : TypeId} {w : World} {base E : Nat} {F : Nat → GRw} {cs : List Value} (h : Sq T w base E F cs) (j : Nat) (v : Value) (hj : cs[j]? = some v) : w.cell? ⟨E, j, none⟩ = some v := by
  rw [Lib.cell_of_heap h.box j, List.getElem?_toArray, hj]
theorem Sq.fro {T : TypeId} {w : World} {base E : Nat} {F : Nat → GRw} {cs : List Value} (h : Sq T w base E F cs) (j : Nat) : w.frozen? ⟨E, j, none⟩ = false := Lib.frozen_of_heap h.box j
theorem Sq.at {T : TypeId} {w : World} {base E : Nat} {F : Nat → GRw} {cs : List Value} (h : Sq T w base E F cs) {k : Nat} {r : GRw} (hk : F k = r) : w.ownsRow base r.T r.z r.v r.n r.xs := h.fam.at hk
/-- What one step leaves of what lies below base. -/
theorem Sq.b_grown {T : TypeId} {w w' : World} {base E : Nat} {F : Nat → GRw} {cs : List Value} (h : Sq T w base E F cs) (k : Nat) (hg : w.grownBy w' (F k).v.ownBlock) : Below base w w' :=
  (Below.refl base w).grown hg h.hb (fun g e => ((h.fam.own k).lt g e).1)
theorem Sq.b_field {T : TypeId} {w : World} {base E : Nat} {F : Nat → GRw} {cs : List Value} (h : Sq T w base E F cs) (j : Nat) (u : Value) : Below base w (w.setCell ⟨E, j, none⟩ u) := (Below.refl base w).setCell (p := ⟨E, j, none⟩) h.bE u
theorem Sq.b_put {T : TypeId} {w : World} {base E : Nat} {F : Nat → GRw} {cs : List Value} (h : Sq T w base E F cs) {k : Nat} {T' : TypeId} {z g n c : Nat} {xs : List Value} (hk : F k = ⟨T', z, .slice (some ⟨g, 0, none⟩) n c, n, xs⟩) (j : Nat) (u : Value) : Below base w (w.setCell ⟨g, j, none⟩ u) :=
  (Below.refl base w).setCell (p := ⟨g, j, none⟩) (by have := (h.at hk).lt g rfl; exact this.1) u
def noRow : GRw := ⟨3, 1, .slice none 0 0, 0, []⟩
theorem grown_none {w w' : World} (h : Below w.heap.size w w') : w.grownBy w' none := ⟨h.os, h.tape, h.output, h.size, fun k hk _ => h.block k hk⟩
/-- A row that was nothing is a new one now. -/
theorem Sq.new {T : TypeId} {w w' : World} {base E : Nat} {F : Nat → GRw} {cs : List Value} (h : Sq T w base E F cs) (k : Nat) (hk : (F k).v.ownBlock = none) (hb : Below w.heap.size w w') (r : GRw) (hown : w'.ownsRow w.heap.size r.T r.z r.v r.n r.xs) : Sq T w' base E (upG F k r) cs :=
  h.grown k (by rw [hk]; exact grown_none hb) r (gr_mono hown h.hb) (fun g e => .inr (hown.lt g e).1)
/-- The start: a struct, no rows yet. -/
theorem Sq.start {T : TypeId} {w : World} {base : Nat} {E : Nat} {cs : List Value} (hbox : w.heap[E]? = some (.cells cs.toArray T (0, 0))) (hb : base ≤ E) : Sq T w base E (fun _ => noRow) cs :=
  ⟨⟨gr_in hbox, fun k => by simp [noRow, Value.ownBlock], fun k => World.ownsRow_nil _ _ _ _, fun k l _ => .inl rfl⟩, hbox, hb, by have := gr_in hbox; omega⟩

/-- A row of numbers, and one that is whole. -/
def intR (v : Value) (l : List Int) : GRw := ⟨3, 1, v, l.length, intsV l⟩
def wholeR (b : Nat) (l : List Int) : GRw := ⟨3, 1, .slice (some ⟨b, 0, none⟩) l.length l.length, l.length, intsV l⟩
theorem Sq.whole {T : TypeId} {w : World} {base E : Nat} {F : Nat → GRw} {cs : List Value} (h : Sq T w base E F cs) {k b : Nat} {l : List Int} (hk : F k = wholeR b l) : IRow w b l := own_full (h.at hk)
theorem Sq.set {T : TypeId} {w : World} {base E : Nat} {F : Nat → GRw} {cs : List Value} (h : Sq T w base E F cs) {k b : Nat} {l : List Int} (hk : F k = wholeR b l) (j : Nat) (x : Int) : Sq T (w.setCell ⟨b, j, none⟩ (.int .i64 x)) base E (upG F k (wholeR b (l.set j x))) cs := by
  have := h.put (k := k) hk j (.int .i64 x)
  have e : wholeR b (l.set j x) = ⟨3, 1, .slice (some ⟨b, 0, none⟩) l.length l.length, l.length, (intsV l).set j (.int .i64 x)⟩ := by simp [wholeR, intsV, List.map_set]
  rw [e]
  exact this
/-- A number of a row, where it is there; a row with another number. -/
def rdI (l : List Int) (i : Int) : Option Int := if 0 ≤ i ∧ i < l.length then some (l.getD i.toNat 0) else none
def wrI (l : List Int) (i v : Int) : Option (List Int) := if 0 ≤ i ∧ i < l.length then some (l.set i.toNat v) else none
theorem rdI_some {l : List Int} {i v : Int} (h : rdI l i = some v) : ∃ k : Nat, i = k ∧ k < l.length ∧ v = l.getD k 0 := by
  unfold rdI at h
  split at h
  · next hc =>
    injection h with h
    exact ⟨i.toNat, by omega, by omega, h.symm⟩
  · cases h
theorem wrI_some {l : List Int} {i v : Int} {r : List Int} (h : wrI l i v = some r) : ∃ k : Nat, i = k ∧ k < l.length ∧ r = l.set k v := by
  unfold wrI at h
  split at h
  · next hc =>
    injection h with h
    exact ⟨i.toNat, by omega, by omega, h.symm⟩
  · cases h
end Go.Proofs.Ytagagpappjkgbaa
