/-
  Programs as bytes: rows of instructions, blocks and functions of one's own.
  The base with changes: what its rows are, whatever numbers are changed.
-/
import Derived.Test.YthhjhdmdfneegaaJc6
import Derived.Test.YthhjhdmdfneegaaJc12
namespace Go.Proofs.Ythhjhdmdfneegaa
set_option linter.unusedVariables false
set_option linter.unusedSimpArgs false
open Go.RowKit Go.Shelf

/-- From `base` on only blocks of type T may have changed. -/
def Kp (base : Nat) (T : TypeId) (w w' : World) : Prop := ∀ g cs T' fr, base ≤ g → w.heap[g]? = some (.cells cs T' fr) → T' ≠ T → w'.heap[g]? = some (.cells cs T' fr)
theorem own_kp {w w' : World} {base z n : Nat} {T T' : TypeId} {v : Value} {xs : List Value} (h : w.ownsRow base T' z v n xs) (k : Kp base T w w') (hT : T' ≠ T) : w'.ownsRow base T' z v n xs := by
  refine ⟨h.1, ?_⟩
  rcases h.2 with e | ⟨g, cap, cur, hv, hb, hh, h1, h2, h3, h4⟩
  · exact .inl e
  · exact .inr ⟨g, cap, cur, hv, hb, k g cur T' (0, 0) hb hh hT, h1, h2, h3, h4⟩
theorem Kp.low {base base' : Nat} {T : TypeId} {w w' : World} (k : Kp base T w w') (h : base ≤ base') : Kp base' T w w' := fun g cs T' fr hb hh hT => k g cs T' fr (Nat.le_trans h hb) hh hT
theorem Kp.of_reader {base E : Nat} {s : Option (List UInt8)} {w w' : World} (h : RdAt E s w) (hg : GBu E w w') : Kp base 78 w w' := fun g cs T' fr hb hh hT => by
  refine (hg.block g (gr_in hh) (fun e => ?_)).trans hh
  subst e
  unfold RdAt at h
  rw [hh] at h
  injection h with h
  injection h with _ h _
  exact hT h
theorem Kp.of_below {base : Nat} (T : TypeId) {w w' : World} (h : Below w.heap.size w w') : Kp base T w w' := fun g cs T' fr hb hh hT => (h.block g (gr_in hh)).trans hh
theorem Kp.of_grown {base n z B : Nat} {T : TypeId} {w w' : World} {v : Value} {xs : List Value} (ho : w.ownsRow B T z v n xs) (hg : w.grownBy w' v.ownBlock) : Kp base T w w' := fun g cs T' fr hb hh hT => by
  refine (hg.block g (gr_in hh) (fun e => ?_)).trans hh
  rcases ho.2 with ⟨rfl, -⟩ | ⟨g', cap, cur, rfl, -, h', -⟩
  · cases e
  · have e' : g = g' := by simpa [Value.ownBlock] using e
    subst e'
    rw [hh] at h'
    injection h' with h'
    injection h' with _ h' _
    exact hT h'
theorem Kp.of_lay {base c j : Nat} (T : TypeId) {w : World} {x : Value} (hc : c < base) : Kp base T w (w.setCell ⟨c, j, none⟩ x) := fun g cs T' fr hb hh hT =>
  (Below.heap_setCell _ _ _ _ (by show g ≠ c; omega)).trans hh
theorem Kp.trans {base : Nat} {T : TypeId} {a b c : World} (h : Kp base T a b) (k : Kp base T b c) : Kp base T a c := fun g cs T' fr hb hh hT => k g cs T' fr hb (h g cs T' fr hb hh hT) hT

/-- Instructions in rows of one's own: the row, and each one's Args. -/
def InsO (base : Nat) (w : World) (v : Value) (l : List SIn) : Prop := ∃ a : List (SIn × Value), l = a.map Prod.fst ∧ w.ownsRow base 46 5 v a.length (insRow a) ∧ ∀ p ∈ a, w.ownsRow base 3 1 p.2 p.1.args.length (intsV p.1.args)
theorem InsO.nil (base : Nat) (w : World) : InsO base w (.slice none 0 0) [] := ⟨[], rfl, World.ownsRow_nil _ _ _ _, fun _ h => by cases h⟩
theorem InsO.kp {base : Nat} {T : TypeId} {w w' : World} {v : Value} {l : List SIn} (h : InsO base w v l) (k : Kp base T w w') (h1 : 46 ≠ T) (h2 : 3 ≠ T) : InsO base w' v l := by
  obtain ⟨a, ha, ho, hi⟩ := h
  exact ⟨a, ha, own_kp ho k h1, fun p hp => own_kp (hi p hp) k h2⟩
theorem InsO.low {base base' : Nat} {w : World} {v : Value} {l : List SIn} (h : InsO base w v l) (hb : base' ≤ base) : InsO base' w v l := by
  obtain ⟨a, ha, ho, hi⟩ := h
  exact ⟨a, ha, own_low ho hb, fun p hp => own_low (hi p hp) hb⟩
theorem InsO.slice {base : Nat} {w : World} {v : Value} {l : List SIn} (h : InsO base w v l) : ∃ A c, v = .slice A l.length c := by
  obtain ⟨a, rfl, ho, -⟩ := h
  rw [List.length_map]
  exact gr_slice ho
theorem insRow_snoc : ∀ (a : List (SIn × Value)) (d : SIn) (av : Value), insRow (a ++ [(d, av)]) = insRow a ++ [.int .i64 d.op, .int .i64 d.ty, av, .int .i64 d.n, .int .i64 d.to_]
  | [], _, _ => rfl
  | (d', v') :: r, d, av => by show _ :: _ :: _ :: _ :: _ :: insRow (r ++ [(d, av)]) = _; rw [insRow_snoc r]; rfl
theorem GNs.of_own' {w : World} {base n0 : Nat} {v : Value} {T : TypeId} {l : List Int} (h : w.ownsRow base T 1 v l.length (intsV l)) (hn : w.heap.size ≤ n0) : GNs n0 w v l := (GNs.of_own h).mono hn
theorem row5_at {w : World} {base n : Nat} {T : TypeId} {v : Value} {xs : List Value} (h : w.ownsRow base T 5 v n xs) (hn : 0 < n) : ∃ b c, v = .slice (some ⟨b, 0, none⟩) n c ∧ b < w.heap.size ∧ ∀ q u, xs[q]? = some u → w.cell? ⟨b, 0 + q, none⟩ = some u := by
  rcases id h.2 with ⟨-, h0⟩ | ⟨g, cap, cur, rfl, hb, hh, -⟩
  · omega
  · refine ⟨g, cap, rfl, gr_in hh, fun q u hq => ?_⟩
    have := h.cells (g := g) rfl q u hq
    have hadd : (⟨g, 0, none⟩ : Addr).add q = ⟨g, 0 + q, none⟩ := by unfold Addr.add; split <;> simp_all
    rwa [hadd] at this
theorem InsO.sis {base : Nat} {w : World} {v : Value} {l : List SIn} (h : InsO base w v l) : SIs w.heap.size w v l := by
  obtain ⟨a, rfl, ho, hi⟩ := h
  obtain ⟨A, c, rfl⟩ := gr_slice ho
  refine ⟨A, c, by rw [List.length_map], fun hp => ?_⟩
  rw [List.length_map] at hp
  obtain ⟨b, c', hv, hb, hc⟩ := row5_at ho hp
  injection hv with e1 _ _
  refine ⟨b, 0, e1, hb, fun j d hd => ?_⟩
  rw [List.getElem?_map] at hd
  cases hl : a[j]? with
  | none => rw [hl] at hd; cases hd
  | some p =>
    obtain ⟨d', av⟩ := p
    rw [hl] at hd
    injection hd with hd
    subst hd
    obtain ⟨h0, h1, h2, h3, h4⟩ := insRow_at a j d' av hl
    refine ⟨av, hc _ _ h0, ?_, ?_, ?_, ?_, GNs.of_own (hi (d', av) (List.mem_of_getElem? hl))⟩
    · have := hc _ _ h1; rwa [show 0 + (j * 5 + 1) = 0 + j * 5 + 1 by omega] at this
    · have := hc _ _ h2; rwa [show 0 + (j * 5 + 2) = 0 + j * 5 + 2 by omega] at this
    · have := hc _ _ h3; rwa [show 0 + (j * 5 + 3) = 0 + j * 5 + 3 by omega] at this
    · have := hc _ _ h4; rwa [show 0 + (j * 5 + 4) = 0 + j * 5 + 4 by omega] at this

/-- Blocks in rows of one's own. -/
def BlkO (base : Nat) (w : World) (v : Value) (l : List SB) : Prop := ∃ a : List (SB × BV), l = a.map Prod.fst ∧ w.ownsRow base 51 5 v a.length (blkRow a) ∧ ∀ p ∈ a, w.ownsRow base 3 1 p.2.l p.1.list.length (intsV p.1.list) ∧ w.ownsRow base 3 1 p.2.p p.1.preds.length (intsV p.1.preds) ∧ w.ownsRow base 3 1 p.2.t p.1.to_.length (intsV p.1.to_)
theorem BlkO.nil (base : Nat) (w : World) : BlkO base w (.slice none 0 0) [] := ⟨[], rfl, World.ownsRow_nil _ _ _ _, fun _ h => by cases h⟩
theorem BlkO.kp {base : Nat} {T : TypeId} {w w' : World} {v : Value} {l : List SB} (h : BlkO base w v l) (k : Kp base T w w') (h1 : 51 ≠ T) (h2 : 3 ≠ T) : BlkO base w' v l := by
  obtain ⟨a, ha, ho, hi⟩ := h
  exact ⟨a, ha, own_kp ho k h1, fun p hp => ⟨own_kp (hi p hp).1 k h2, own_kp (hi p hp).2.1 k h2, own_kp (hi p hp).2.2 k h2⟩⟩
theorem BlkO.low {base base' : Nat} {w : World} {v : Value} {l : List SB} (h : BlkO base w v l) (hb : base' ≤ base) : BlkO base' w v l := by
  obtain ⟨a, ha, ho, hi⟩ := h
  exact ⟨a, ha, own_low ho hb, fun p hp => ⟨own_low (hi p hp).1 hb, own_low (hi p hp).2.1 hb, own_low (hi p hp).2.2 hb⟩⟩
theorem BlkO.slice {base : Nat} {w : World} {v : Value} {l : List SB} (h : BlkO base w v l) : ∃ A c, v = .slice A l.length c := by
  obtain ⟨a, rfl, ho, -⟩ := h
  rw [List.length_map]
  exact gr_slice ho
theorem blkRow_snoc : ∀ (a : List (SB × BV)) (d : SB) (v : BV), blkRow (a ++ [(d, v)]) = blkRow a ++ [v.l, v.p, .int .i64 d.kind, .int .i64 d.arg, v.t]
  | [], _, _ => rfl
  | (d', v') :: r, d, av => by show _ :: _ :: _ :: _ :: _ :: blkRow (r ++ [(d, av)]) = _; rw [blkRow_snoc r]; rfl
theorem BlkO.sbs {base : Nat} {w : World} {v : Value} {l : List SB} (h : BlkO base w v l) : SBs w.heap.size w v l := by
  obtain ⟨a, rfl, ho, hi⟩ := h
  obtain ⟨A, c, rfl⟩ := gr_slice ho
  refine ⟨A, c, by rw [List.length_map], fun hp => ?_⟩
  rw [List.length_map] at hp
  obtain ⟨b, c', hv, hb, hc⟩ := row5_at ho hp
  injection hv with e1 _ _
  refine ⟨b, 0, e1, hb, fun j d hd => ?_⟩
  rw [List.getElem?_map] at hd
  cases hl : a[j]? with
  | none => rw [hl] at hd; cases hd
  | some p =>
    obtain ⟨d', v⟩ := p
    rw [hl] at hd
    injection hd with hd
    subst hd
    obtain ⟨h0, h1, h2, h3, h4⟩ := blkRow_at a j d' v hl
    obtain ⟨g0, g1, g2⟩ := hi (d', v) (List.mem_of_getElem? hl)
    refine ⟨v.l, v.p, v.t, hc _ _ h0, ?_, ?_, ?_, ?_, GNs.of_own g0, GNs.of_own g1, GNs.of_own g2⟩
    · have := hc _ _ h1; rwa [show 0 + (j * 5 + 1) = 0 + j * 5 + 1 by omega] at this
    · have := hc _ _ h2; rwa [show 0 + (j * 5 + 2) = 0 + j * 5 + 2 by omega] at this
    · have := hc _ _ h3; rwa [show 0 + (j * 5 + 3) = 0 + j * 5 + 3 by omega] at this
    · have := hc _ _ h4; rwa [show 0 + (j * 5 + 4) = 0 + j * 5 + 4 by omega] at this

/-- Functions with their names in rows of one's own. -/
structure NV where
  p : Value
  i : Value
  b : Value
def fnsRow : List ((List UInt8 × SF) × NV) → List Value
  | [] => []
  | (d, v) :: r => .string ⟨d.1.toArray⟩ :: v.p :: .int .i64 d.2.ret :: v.i :: v.b :: fnsRow r
theorem fnsRow_at : ∀ (l : List ((List UInt8 × SF) × NV)) (j : Nat) (d : List UInt8 × SF) (v : NV), l[j]? = some (d, v) →
    (fnsRow l)[j * 5]? = some (.string ⟨d.1.toArray⟩) ∧ (fnsRow l)[j * 5 + 1]? = some v.p ∧ (fnsRow l)[j * 5 + 2]? = some (.int .i64 d.2.ret) ∧ (fnsRow l)[j * 5 + 3]? = some v.i ∧ (fnsRow l)[j * 5 + 4]? = some v.b
  | [], j, d, v, h => by cases h
  | (d', v') :: r, 0, d, v, h => by
    injection h with h
    injection h with h1 h2
    subst h1; subst h2
    exact ⟨rfl, rfl, rfl, rfl, rfl⟩
  | p :: r, j + 1, d, v, h => by
    have := fnsRow_at r j d v h
    obtain ⟨d', v'⟩ := p
    rw [show (j + 1) * 5 = j * 5 + 5 by omega]
    exact this
theorem fnsRow_snoc : ∀ (a : List ((List UInt8 × SF) × NV)) (d : List UInt8 × SF) (v : NV), fnsRow (a ++ [(d, v)]) = fnsRow a ++ [.string ⟨d.1.toArray⟩, v.p, .int .i64 d.2.ret, v.i, v.b]
  | [], _, _ => rfl
  | (d', v') :: r, d, av => by show _ :: _ :: _ :: _ :: _ :: fnsRow (r ++ [(d, av)]) = _; rw [fnsRow_snoc r]; rfl
def FnsO (base : Nat) (w : World) (v : Value) (l : List (List UInt8 × SF)) : Prop := ∃ a : List ((List UInt8 × SF) × NV), l = a.map Prod.fst ∧ w.ownsRow base 43 5 v a.length (fnsRow a) ∧ ∀ p ∈ a, w.ownsRow base 3 1 p.2.p p.1.2.params.length (intsV p.1.2.params) ∧ InsO base w p.2.i p.1.2.ins ∧ BlkO base w p.2.b p.1.2.blocks
theorem FnsO.nil (base : Nat) (w : World) : FnsO base w (.slice none 0 0) [] := ⟨[], rfl, World.ownsRow_nil _ _ _ _, fun _ h => by cases h⟩
theorem FnsO.slice {base : Nat} {w : World} {v : Value} {l : List (List UInt8 × SF)} (h : FnsO base w v l) : ∃ A c, v = .slice A l.length c := by
  obtain ⟨a, rfl, ho, -⟩ := h
  rw [List.length_map]
  exact gr_slice ho
theorem FnsO.kp {base : Nat} {T : TypeId} {w w' : World} {v : Value} {l : List (List UInt8 × SF)} (h : FnsO base w v l) (k : Kp base T w w') (h0 : 43 ≠ T) (h1 : 46 ≠ T) (h2 : 51 ≠ T) (h3 : 3 ≠ T) : FnsO base w' v l := by
  obtain ⟨a, ha, ho, hi⟩ := h
  exact ⟨a, ha, own_kp ho k h0, fun p hp => ⟨own_kp (hi p hp).1 k h3, (hi p hp).2.1.kp k h1 h3, (hi p hp).2.2.kp k h2 h3⟩⟩
theorem FnsO.cfs {base : Nat} {w : World} {v : Value} {l : List (List UInt8 × SF)} (h : FnsO base w v l) : CFs w.heap.size w v l := by
  obtain ⟨a, rfl, ho, hi⟩ := h
  obtain ⟨A, c, rfl⟩ := gr_slice ho
  refine ⟨A, c, by rw [List.length_map], fun hp => ?_⟩
  rw [List.length_map] at hp
  obtain ⟨b, c', hv, hb, hc⟩ := row5_at ho hp
  injection hv with e1 _ _
  refine ⟨b, 0, e1, hb, fun j d hd => ?_⟩
  rw [List.getElem?_map] at hd
  cases hl : a[j]? with
  | none => rw [hl] at hd; cases hd
  | some p =>
    obtain ⟨d', v⟩ := p
    rw [hl] at hd
    injection hd with hd
    subst hd
    obtain ⟨h0, h1, h2, h3, h4⟩ := fnsRow_at a j d' v hl
    obtain ⟨g0, g1, g2⟩ := hi (d', v) (List.mem_of_getElem? hl)
    refine ⟨v.p, v.i, v.b, hc _ _ h0, ?_, ?_, ?_, ?_, GNs.of_own g0, g1.sis, g2.sbs⟩
    · have := hc _ _ h1; rwa [show 0 + (j * 5 + 1) = 0 + j * 5 + 1 by omega] at this
    · have := hc _ _ h2; rwa [show 0 + (j * 5 + 2) = 0 + j * 5 + 2 by omega] at this
    · have := hc _ _ h3; rwa [show 0 + (j * 5 + 3) = 0 + j * 5 + 3 by omega] at this
    · have := hc _ _ h4; rwa [show 0 + (j * 5 + 4) = 0 + j * 5 + 4 by omega] at this
theorem InsO.snoc {base B : Nat} {w3 w5 : World} {v' av : Value} {a : List (SIn × Value)} {d : SIn} (ho : w5.ownsRow base 46 5 v' (a.length + 1) (insRow a ++ [.int .i64 d.op, .int .i64 d.ty, av, .int .i64 d.n, .int .i64 d.to_])) (hi : ∀ p ∈ a, w3.ownsRow base 3 1 p.2 p.1.args.length (intsV p.1.args)) (hv : w3.ownsRow B 3 1 av d.args.length (intsV d.args)) (hB : base ≤ B) (k : Kp base 46 w3 w5) : InsO base w5 v' (a.map Prod.fst ++ [d]) := by
  refine ⟨a ++ [(d, av)], by simp, by rw [insRow_snoc, List.length_append]; exact ho, fun p hp => ?_⟩
  rcases List.mem_append.mp hp with h | h
  · exact own_kp (hi p h) k (by decide)
  · rw [List.mem_singleton] at h
    subst h
    exact own_kp (own_low hv hB) k (by decide)
theorem BlkO.snoc {base B : Nat} {w3 w5 : World} {v' lv pv tv : Value} {a : List (SB × BV)} {d : SB} (ho : w5.ownsRow base 51 5 v' (a.length + 1) (blkRow a ++ [lv, pv, .int .i64 d.kind, .int .i64 d.arg, tv])) (hi : ∀ p ∈ a, w3.ownsRow base 3 1 p.2.l p.1.list.length (intsV p.1.list) ∧ w3.ownsRow base 3 1 p.2.p p.1.preds.length (intsV p.1.preds) ∧ w3.ownsRow base 3 1 p.2.t p.1.to_.length (intsV p.1.to_)) (hv : w3.ownsRow B 3 1 lv d.list.length (intsV d.list) ∧ w3.ownsRow B 3 1 pv d.preds.length (intsV d.preds) ∧ w3.ownsRow B 3 1 tv d.to_.length (intsV d.to_)) (hB : base ≤ B) (k : Kp base 51 w3 w5) : BlkO base w5 v' (a.map Prod.fst ++ [d]) := by
  refine ⟨a ++ [(d, ⟨lv, pv, tv⟩)], by simp, by rw [blkRow_snoc, List.length_append]; exact ho, fun p hp => ?_⟩
  rcases List.mem_append.mp hp with h | h
  · exact ⟨own_kp (hi p h).1 k (by decide), own_kp (hi p h).2.1 k (by decide), own_kp (hi p h).2.2 k (by decide)⟩
  · rw [List.mem_singleton] at h
    subst h
    exact ⟨own_kp (own_low hv.1 hB) k (by decide), own_kp (own_low hv.2.1 hB) k (by decide), own_kp (own_low hv.2.2 hB) k (by decide)⟩
theorem FnsO.snoc {base B : Nat} {w3 w5 : World} {v' pv iv bv : Value} {a : List ((List UInt8 × SF) × NV)} {d : List UInt8 × SF} (ho : w5.ownsRow base 43 5 v' (a.length + 1) (fnsRow a ++ [.string ⟨d.1.toArray⟩, pv, .int .i64 d.2.ret, iv, bv])) (hi : ∀ p ∈ a, w3.ownsRow base 3 1 p.2.p p.1.2.params.length (intsV p.1.2.params) ∧ InsO base w3 p.2.i p.1.2.ins ∧ BlkO base w3 p.2.b p.1.2.blocks) (hv : w3.ownsRow B 3 1 pv d.2.params.length (intsV d.2.params) ∧ InsO B w3 iv d.2.ins ∧ BlkO B w3 bv d.2.blocks) (hB : base ≤ B) (k : Kp base 43 w3 w5) : FnsO base w5 v' (a.map Prod.fst ++ [d]) := by
  refine ⟨a ++ [(d, ⟨pv, iv, bv⟩)], by simp, by rw [fnsRow_snoc, List.length_append]; exact ho, fun p hp => ?_⟩
  rcases List.mem_append.mp hp with h | h
  · exact ⟨own_kp (hi p h).1 k (by decide), (hi p h).2.1.kp k (by decide) (by decide), (hi p h).2.2.kp k (by decide) (by decide)⟩
  · rw [List.mem_singleton] at h
    subst h
    exact ⟨own_kp (own_low hv.1 hB) k (by decide), (hv.2.1.low hB).kp k (by decide) (by decide), (hv.2.2.low hB).kp k (by decide) (by decide)⟩
theorem infoInsQ : (Try.prog.info? 46).map (fun i => (i.zero, i.size, i.bytes)) = some (some (.agg #[.int .i64 0, .int .i64 0, .slice none 0 0, .int .i64 0, .int .i64 0]), 5, 56) := by kernel_rfl
theorem infoBlkQ : (Try.prog.info? 51).map (fun i => (i.zero, i.size, i.bytes)) = some (some (.agg #[.slice none 0 0, .slice none 0 0, .int .i64 0, .int .i64 0, .slice none 0 0]), 5, 88) := by kernel_rfl
theorem infoFnQ : (Try.prog.info? 43).map (fun i => (i.zero, i.size, i.bytes)) = some (some (.agg #[.string ⟨#[]⟩, .slice none 0 0, .int .i64 0, .slice none 0 0, .slice none 0 0]), 5, 96) := by kernel_rfl
/-- append of one struct of five cells. -/
theorem app_five {T TS : TypeId} {z : Value} {bytes : Nat} (hinfo : (Try.prog.info? T).map (fun i => (i.zero, i.size, i.bytes)) = some (some z, 5, bytes)) (hzc : z.cells.size = 5) (hby : bytes ≤ 128) (hu : Try.prog.underlying TS = some (.slice T)) {ops : Array Oper} {rest : List Oper} {o : Oper} {a : Act} {w : World} {Q : Exit → Act → World → Prop} (hgd : o.guard = none) (s x : Operand)
    (ho : o.op = .call { callee := .builtin .append, args := #[s, x], argTypes := #[TS, TS] }) (base : Nat) (v : Value) (n : Nat) (l : List Value) (hs : a.eval s = v) (hown : w.ownsRow base T 5 v n l)
    (g0 : Nat) (u : List Value) (hx : a.eval x = .slice (some ⟨g0, 0, none⟩) 1 1) (hul : u.length = 5) (hc : ∀ j y, u[j]? = some y → w.cell? ((⟨g0, 0, none⟩ : Addr).add j) = some y) (h1 : ∀ y ∈ u, y.oneCell' = true) (hl : n ≤ 1048576) (hb : base ≤ w.heap.size)
    (h : ∀ v' w', w'.ownsRow base T 5 v' (n + 1) (l ++ u) → w.grownBy w' v.ownBlock → wpList Try.prog ops Q rest (a.put o.dst v') w') : wpList Try.prog ops Q (o :: rest) a w := by
  obtain ⟨i0, hi0, hz0, hz1, hz2⟩ := info_parts hinfo
  refine wpList_append_lies w hgd s x TS ho base T i0 z 5 bytes hu hi0 hz0 hz1 hz2 hzc (by decide) v n l hs hown ⟨g0, 0, none⟩ 1 1 u hx (by omega) hc h1 (by decide) (by unfold maxLen; omega) ?_ hb _ rfl ?_
  · have : (n + 1) * bytes ≤ (n + 1) * 128 := Nat.mul_le_mul_left _ hby
    omega
  intro g cap w' ho' hg' hat _
  exact h _ _ ho' hg'
end Go.Proofs.Ythhjhdmdfneegaa
namespace Go.Proofs.Ythhjhdmdfneegaa
set_option linter.unusedVariables false
set_option linter.unusedSimpArgs false
open Go.RowKit

def isI (v : Value) : Prop := ∃ x : Int, v = .int .i64 x ∧ InG x
/-- A row of at most n numbers. -/
def IRw (n : Nat) (r : GRw) : Prop := ∃ l : List Int, r.T = 3 ∧ r.z = 1 ∧ r.n = l.length ∧ r.xs = intsV l ∧ (∀ x ∈ l, InG x) ∧ l.length ≤ n
/-- What a cell of a row of structs is: a number, a text, or where another row lies. -/
inductive CK where
  | i
  | s
  | r (j : Nat)
def Cell (F : Nat → GRw) : CK → Value → Prop
  | .i, v => isI v
  | .s, v => ∃ s : ByteArray, v = .string s ∧ s.size ≤ 4
  | .r j, v => v = (F j).v
def sN (f t : Nat) : Nat := 1 + 3 * f + t
def aN (f k : Nat) : Nat := 10 + 20 * f + k
def bN (f k t : Nat) : Nat := 50 + 20 * f + 4 * k + t
def insM (f : Nat) : Nat := if f = 0 then 15 else 4
def blkM (f : Nat) : Nat := if f = 0 then 4 else 1
def funP (q : Nat) : CK := if q % 5 = 0 then .s else if q % 5 = 2 then .i else if q % 5 = 1 then .r (sN (q / 5) 0) else .r (sN (q / 5) (q % 5 - 2))
def insP (f q : Nat) : CK := if q % 5 = 2 then .r (aN f (q / 5)) else .i
def blkP (f q : Nat) : CK := if q % 5 = 0 then .r (bN f (q / 5) 0) else if q % 5 = 1 then .r (bN f (q / 5) 1) else if q % 5 = 4 then .r (bN f (q / 5) 2) else .i
inductive RK where
  | st (T : TypeId) (m : Nat) (P : Nat → CK)
  | ints
def rk (j : Nat) : RK :=
  if j = 0 then .st 43 2 funP else if j = 2 then .st 46 15 (insP 0) else if j = 5 then .st 46 4 (insP 1) else if j = 3 then .st 51 4 (blkP 0) else if j = 6 then .st 51 1 (blkP 1) else .ints
def SRw (F : Nat → GRw) (T : TypeId) (m : Nat) (P : Nat → CK) (r : GRw) : Prop := (∃ g, r = ⟨T, 5, .slice (some ⟨g, 0, none⟩) m m, m, r.xs⟩) ∧ r.xs.length = m * 5 ∧ ∀ q, q < m * 5 → ∃ v, r.xs[q]? = some v ∧ Cell F (P q) v
def RKs (n : Nat) (F : Nat → GRw) (r : GRw) : RK → Prop
  | .st T m P => SRw F T m P r
  | .ints => IRw n r
/-- Each instruction stands in some block's list. -/
def allC (F : Nat → GRw) : Prop := ∀ f, f < 2 → ∀ id, id < insM f → ∃ k, k < blkM f ∧ ∃ l : List Int, (F (bN f k 0)).xs = intsV l ∧ (id : Int) ∈ l
structure CI (n : Nat) (F : Nat → GRw) : Prop where
  row : ∀ j, RKs n F (F j) (rk j)
  all : allC F
theorem IRw.mono {n m : Nat} {r : GRw} (h : IRw n r) (hm : n ≤ m) : IRw m r := by
  obtain ⟨l, a, b, c, d, e, f⟩ := h
  exact ⟨l, a, b, c, d, e, by omega⟩
theorem Cell.same {F F' : Nat → GRw} (h : ∀ j, (F' j).v = (F j).v) {c : CK} {v : Value} (hc : Cell F c v) : Cell F' c v := by
  cases c with
  | i => exact hc
  | s => exact hc
  | r j => exact hc.trans (h j).symm
theorem SRw.same {F F' : Nat → GRw} (h : ∀ j, (F' j).v = (F j).v) {T : TypeId} {m : Nat} {P : Nat → CK} {r : GRw} (hs : SRw F T m P r) : SRw F' T m P r :=
  ⟨hs.1, hs.2.1, fun q hq => by obtain ⟨v, h1, h2⟩ := hs.2.2 q hq; exact ⟨v, h1, h2.same h⟩⟩
theorem RKs.mono {n m : Nat} {F : Nat → GRw} {r : GRw} {k : RK} (h : RKs n F r k) (hm : n ≤ m) : RKs m F r k := by
  cases k with
  | st T m' P => exact h
  | ints => exact IRw.mono h hm
theorem CI.mono {n m : Nat} {F : Nat → GRw} (h : CI n F) (hm : n ≤ m) : CI m F := ⟨fun j => (h.row j).mono hm, h.all⟩
/-- A cell of a row of structs is another number. -/
theorem CI.cell {n : Nat} {F : Nat → GRw} (h : CI n F) {j : Nat} {T : TypeId} {m : Nat} {P : Nat → CK} (hj : rk j = .st T m P) {q : Nat} (hq : q < m * 5) {u : Value} (hu : Cell F (P q) u) {r' : GRw} (hr : r' = { F j with xs := (F j).xs.set q u }) : CI n (upG F j r') := by
  have hv : ∀ i, (upG F j r' i).v = (F i).v := fun i => by
    by_cases hi : i = j
    · subst hi; rw [upG_at, hr]
    · rw [upG_off _ _ _ _ hi]
  refine ⟨fun i => ?_, ?_⟩
  · by_cases hi : i = j
    · subst hi
      rw [upG_at, hj]
      have hs := h.row i
      rw [hj] at hs
      refine SRw.same hv ⟨?_, ?_, fun p hp => ?_⟩
      · obtain ⟨g, hg⟩ := hs.1
        refine ⟨g, ?_⟩
        rw [hr]
        show (⟨(F i).T, (F i).z, (F i).v, (F i).n, (F i).xs.set q u⟩ : GRw) = _
        rw [hg]
      · rw [hr]
        show ((F i).xs.set q u).length = _
        rw [List.length_set]
        exact hs.2.1
      · rw [hr]
        show ∃ v, ((F i).xs.set q u)[p]? = some v ∧ _
        obtain ⟨v, h1, h2⟩ := hs.2.2 p hp
        by_cases hpq : p = q
        · subst hpq
          exact ⟨u, by rw [List.getElem?_set_self (by rw [hs.2.1]; exact hp)], hu⟩
        · exact ⟨v, by rw [List.getElem?_set_ne (fun e => hpq e.symm)]; exact h1, h2⟩
    · rw [upG_off _ _ _ _ hi]
      have hs := h.row i
      cases hk : rk i with
      | st T' m' P' => rw [hk] at hs; exact SRw.same hv hs
      | ints => rw [hk] at hs; exact hs
  · intro f hf id hid
    obtain ⟨k, hk, l, h1, h2⟩ := h.all f hf id hid
    refine ⟨k, hk, l, ?_, h2⟩
    rw [upG_off]
    · exact h1
    · intro e
      have h3 : rk (bN f k 0) = .ints := by
        unfold rk bN
        rw [if_neg (by omega), if_neg (by omega), if_neg (by omega), if_neg (by omega), if_neg (by omega)]
      rw [e, hj] at h3
      cases h3
theorem rk_ints {j : Nat} (h0 : j ≠ 0) (h2 : j ≠ 2) (h3 : j ≠ 3) (h5 : j ≠ 5) (h6 : j ≠ 6) : rk j = .ints := by
  unfold rk
  rw [if_neg h0, if_neg h2, if_neg h5, if_neg h3, if_neg h6]
theorem rk_a (f k : Nat) : rk (aN f k) = .ints := rk_ints (by unfold aN; omega) (by unfold aN; omega) (by unfold aN; omega) (by unfold aN; omega) (by unfold aN; omega)
theorem rk_b (f k t : Nat) : rk (bN f k t) = .ints := rk_ints (by unfold bN; omega) (by unfold bN; omega) (by unfold bN; omega) (by unfold bN; omega) (by unfold bN; omega)
theorem rk_p {f : Nat} (hf : f < 2) : rk (sN f 0) = .ints := rk_ints (by unfold sN; omega) (by unfold sN; omega) (by unfold sN; omega) (by unfold sN; omega) (by unfold sN; omega)
theorem rk_i {f : Nat} (hf : f < 2) : rk (sN f 1) = .st 46 (insM f) (insP f) := by
  rcases Nat.lt_or_ge f 1 with h | h
  · obtain rfl : f = 0 := by omega
    rfl
  · obtain rfl : f = 1 := by omega
    rfl
theorem rk_k {f : Nat} (hf : f < 2) : rk (sN f 2) = .st 51 (blkM f) (blkP f) := by
  rcases Nat.lt_or_ge f 1 with h | h
  · obtain rfl : f = 0 := by omega
    rfl
  · obtain rfl : f = 1 := by omega
    rfl
/-- Where a row of numbers is named: in which row of structs, in which cell. -/
theorem named {s : Nat} {T : TypeId} {m : Nat} {P : Nat → CK} (hs : rk s = .st T m P) {q j : Nat} (hq : q < m * 5) (h : P q = .r j) :
    (s = 0 ∧ ∃ f t, f < 2 ∧ t < 3 ∧ j = sN f t ∧ q = 5 * f + (if t = 0 then 1 else t + 2)) ∨ (∃ f k, f < 2 ∧ k < insM f ∧ s = sN f 1 ∧ j = aN f k ∧ q = 5 * k + 2) ∨ (∃ f k t, f < 2 ∧ k < blkM f ∧ t < 3 ∧ s = sN f 2 ∧ j = bN f k t ∧ q = 5 * k + (if t = 2 then 4 else t)) := by
  unfold rk at hs
  have hI : ∀ f mm, f < 2 → insM f = mm → m = mm → P = insP f → s = sN f 1 → ∃ f k, f < 2 ∧ k < insM f ∧ s = sN f 1 ∧ j = aN f k ∧ q = 5 * k + 2 := by
    intro f mm hf hm1 hm2 hP hs1
    subst hP
    unfold insP at h
    split at h
    · next h5 =>
      injection h with h
      exact ⟨f, q / 5, hf, by rw [hm1]; omega, hs1, h.symm, by omega⟩
    · cases h
  have hB : ∀ f mm, f < 2 → blkM f = mm → m = mm → P = blkP f → s = sN f 2 → ∃ f k t, f < 2 ∧ k < blkM f ∧ t < 3 ∧ s = sN f 2 ∧ j = bN f k t ∧ q = 5 * k + (if t = 2 then 4 else t) := by
    intro f mm hf hm1 hm2 hP hs1
    subst hP
    unfold blkP at h
    split at h
    · injection h with h
      exact ⟨f, q / 5, 0, hf, by rw [hm1]; omega, by omega, hs1, h.symm, by simp; omega⟩
    · split at h
      · injection h with h
        exact ⟨f, q / 5, 1, hf, by rw [hm1]; omega, by omega, hs1, h.symm, by simp; omega⟩
      · split at h
        · injection h with h
          exact ⟨f, q / 5, 2, hf, by rw [hm1]; omega, by omega, hs1, h.symm, by simp; omega⟩
        · cases h
  split at hs
  · next h0 =>
    injection hs with _ e2 e3
    subst e3; subst e2
    refine .inl ⟨h0, ?_⟩
    unfold funP at h
    split at h
    · cases h
    · split at h
      · cases h
      · split at h
        · injection h with h
          exact ⟨q / 5, 0, by omega, by omega, h.symm, by simp; omega⟩
        · injection h with h
          refine ⟨q / 5, q % 5 - 2, by omega, by omega, h.symm, ?_⟩
          rw [if_neg (by omega)]
          omega
  · split at hs
    · next h2 =>
      injection hs with _ e2 e3
      exact .inr (.inl (hI 0 15 (by omega) rfl e2.symm e3.symm (by rw [h2]; rfl)))
    · split at hs
      · next h5 =>
        injection hs with _ e2 e3
        exact .inr (.inl (hI 1 4 (by omega) rfl e2.symm e3.symm (by rw [h5]; rfl)))
      · split at hs
        · next h3 =>
          injection hs with _ e2 e3
          exact .inr (.inr (hB 0 4 (by omega) rfl e2.symm e3.symm (by rw [h3]; rfl)))
        · split at hs
          · next h6 =>
            injection hs with _ e2 e3
            exact .inr (.inr (hB 1 1 (by omega) rfl e2.symm e3.symm (by rw [h6]; rfl)))
          · cases hs
theorem named_one {s s' : Nat} {T T' : TypeId} {m m' : Nat} {P P' : Nat → CK} (hs : rk s = .st T m P) (hs' : rk s' = .st T' m' P') {q q' j : Nat} (hq : q < m * 5) (hq' : q' < m' * 5) (h : P q = .r j) (h' : P' q' = .r j) : s = s' ∧ q = q' := by
  have i0 : ∀ f, f < 2 → insM f ≤ 15 := fun f _ => by unfold insM; split <;> omega
  have b0 : ∀ f, f < 2 → blkM f ≤ 4 := fun f _ => by unfold blkM; split <;> omega
  rcases named hs hq h with ⟨a, f, t, a1, a2, a3, a4⟩ | ⟨f, k, a1, a2, a3, a4, a5⟩ | ⟨f, k, t, a1, a2, a3, a4, a5, a6⟩
  · rcases named hs' hq' h' with ⟨b, f', t', b1, b2, b3, b4⟩ | ⟨f', k', b1, b2, b3, b4, b5⟩ | ⟨f', k', t', b1, b2, b3, b4, b5, b6⟩
    · unfold sN at a3 b3
      have : f = f' ∧ t = t' := by omega
      obtain ⟨rfl, rfl⟩ := this
      exact ⟨by omega, by omega⟩
    · unfold sN aN at *; omega
    · unfold sN bN at *; omega
  · have := i0 f a1
    rcases named hs' hq' h' with ⟨b, f', t', b1, b2, b3, b4⟩ | ⟨f', k', b1, b2, b3, b4, b5⟩ | ⟨f', k', t', b1, b2, b3, b4, b5, b6⟩
    · unfold sN aN at *; omega
    · have := i0 f' b1
      unfold aN at a4 b4
      have : f = f' ∧ k = k' := by omega
      obtain ⟨rfl, rfl⟩ := this
      exact ⟨by omega, by omega⟩
    · unfold aN bN at *; omega
  · have := b0 f a1
    rcases named hs' hq' h' with ⟨b, f', t', b1, b2, b3, b4⟩ | ⟨f', k', b1, b2, b3, b4, b5⟩ | ⟨f', k', t', b1, b2, b3, b4, b5, b6⟩
    · unfold sN bN at *; omega
    · have := i0 f' b1
      unfold aN bN at *; omega
    · have := b0 f' b1
      unfold bN at a5 b5
      have : f = f' ∧ k = k' ∧ t = t' := by omega
      obtain ⟨rfl, rfl, rfl⟩ := this
      exact ⟨by omega, by omega⟩
/-- A row of numbers has other numbers. -/
theorem CI.ints {n : Nat} {F : Nat → GRw} (h : CI n F) {j : Nat} (hj : rk j = .ints) {r' : GRw} (hv : r'.v = (F j).v) (hr : IRw n r') (ha : allC (upG F j r')) : CI n (upG F j r') := by
  have hvv : ∀ i, (upG F j r' i).v = (F i).v := fun i => by
    by_cases hi : i = j
    · subst hi; rw [upG_at, hv]
    · rw [upG_off _ _ _ _ hi]
  refine ⟨fun i => ?_, ha⟩
  by_cases hi : i = j
  · subst hi
    rw [upG_at, hj]
    exact hr
  · rw [upG_off _ _ _ _ hi]
    have hs := h.row i
    cases hk : rk i with
    | st T' m' P' => rw [hk] at hs; exact SRw.same hvv hs
    | ints => rw [hk] at hs; exact hs
theorem all_off {F : Nat → GRw} (h : allC F) {j : Nat} {r' : GRw} (hj : ∀ f k, f < 2 → k < blkM f → bN f k 0 ≠ j) : allC (upG F j r') := fun f hf id hid => by
  obtain ⟨k, hk, l, h1, h2⟩ := h f hf id hid
  exact ⟨k, hk, l, by rw [upG_off _ _ _ _ (hj f k hf hk)]; exact h1, h2⟩
theorem all_on {F : Nat → GRw} (h : allC F) {j : Nat} {r' : GRw} (hj : ∀ l : List Int, (F j).xs = intsV l → ∃ l' : List Int, r'.xs = intsV l' ∧ ∀ x ∈ l, x ∈ l') : allC (upG F j r') := fun f hf id hid => by
  obtain ⟨k, hk, l, h1, h2⟩ := h f hf id hid
  by_cases e : bN f k 0 = j
  · subst e
    obtain ⟨l', h3, h4⟩ := hj l h1
    exact ⟨k, hk, l', by rw [upG_at]; exact h3, h4 _ h2⟩
  · exact ⟨k, hk, l, by rw [upG_off _ _ _ _ e]; exact h1, h2⟩
/-- A row of numbers has one more, and lies elsewhere: where it is named, it is named so. -/
theorem CI.grow {n : Nat} {F : Nat → GRw} (h : CI n F) {j : Nat} (hj : rk j = .ints) {r' : GRw} (hr : IRw (n + 1) r') (ha : allC (upG F j r')) {s : Nat} {T : TypeId} {m : Nat} {P : Nat → CK} (hs : rk s = .st T m P) {q : Nat} (hq : q < m * 5) (hP : P q = .r j)
    {r2 : GRw} (h2 : r2 = { F s with xs := (F s).xs.set q r'.v }) : CI (n + 1) (upG (upG F j r') s r2) := by
  have hjs : j ≠ s := fun e => by rw [e, hs] at hj; cases hj
  have hv : ∀ i, i ≠ j → (upG (upG F j r') s r2 i).v = (F i).v := fun i hi => by
    by_cases his : i = s
    · subst his; rw [upG_at, h2]
    · rw [upG_off _ _ _ _ his, upG_off _ _ _ _ hi]
  have hvj : (upG (upG F j r') s r2 j).v = r'.v := by rw [upG_off _ _ _ _ hjs, upG_at]
  have hcell : ∀ c v, c ≠ CK.r j → Cell F c v → Cell (upG (upG F j r') s r2) c v := fun c v hc hx => by
    cases c with
    | i => exact hx
    | s => exact hx
    | r i => exact hx.trans (hv i (fun e => hc (by rw [e]))).symm
  refine ⟨fun i => ?_, ?_⟩
  · by_cases his : i = s
    · subst his
      rw [upG_at, hs]
      have hS := h.row i
      rw [hs] at hS
      refine ⟨?_, ?_, fun p hp => ?_⟩
      · obtain ⟨g, hg⟩ := hS.1
        refine ⟨g, ?_⟩
        rw [h2]
        show (⟨(F i).T, (F i).z, (F i).v, (F i).n, (F i).xs.set q r'.v⟩ : GRw) = _
        rw [hg]
      · rw [h2]
        show ((F i).xs.set q r'.v).length = _
        rw [List.length_set]
        exact hS.2.1
      · rw [h2]
        show ∃ v, ((F i).xs.set q r'.v)[p]? = some v ∧ _
        by_cases hpq : p = q
        · subst hpq
          refine ⟨r'.v, by rw [List.getElem?_set_self (by rw [hS.2.1]; exact hp)], ?_⟩
          rw [hP]
          have hx := hvj
          rw [h2] at hx
          exact hx.symm
        · obtain ⟨v, e1, e2⟩ := hS.2.2 p hp
          refine ⟨v, by rw [List.getElem?_set_ne (fun e => hpq e.symm)]; exact e1, ?_⟩
          have := hcell (P p) v (fun e => hpq (named_one hs hs hp hq e hP).2) e2
          rw [h2] at this
          exact this
    · rw [upG_off _ _ _ _ his]
      by_cases hij : i = j
      · subst hij
        rw [upG_at, hj]
        exact hr
      · rw [upG_off _ _ _ _ hij]
        have hS := h.row i
        cases hk : rk i with
        | st T' m' P' =>
          rw [hk] at hS
          refine ⟨hS.1, hS.2.1, fun p hp => ?_⟩
          obtain ⟨v, e1, e2⟩ := hS.2.2 p hp
          exact ⟨v, e1, hcell (P' p) v (fun e => his (named_one hk hs hp hq e hP).1) e2⟩
        | ints => rw [hk] at hS; exact IRw.mono hS (Nat.le_succ n)
  · intro f hf id hid
    obtain ⟨k, hk, l, e1, e2⟩ := ha f hf id hid
    refine ⟨k, hk, l, ?_, e2⟩
    rw [upG_off]
    · exact e1
    · intro e
      have h3 := rk_b f k 0
      rw [e, hs] at h3
      cases h3
end Go.Proofs.Ythhjhdmdfneegaa
