/-
  Programs as bytes: rows of instructions, blocks and functions of one's own.
-/
import Derived.Test.YthjlpbglnnebkaaCdQ
import Derived.Test.YthjlpbglnnebkaaCdG
namespace Go.Proofs.Ythjlpbglnnebkaa
open Go.RowKit Go.Shelf
set_option linter.unusedVariables false
set_option linter.unusedSimpArgs false

/-- From `base` on only blocks of type T may have changed. -/
def Kp (base : Nat) (T : TypeId) (w w' : World) : Prop := ∀ g cs T' fr, base ≤ g → w.heap[g]? = some (.cells cs T' fr) → T' ≠ T → w'.heap[g]? = some (.cells cs T' fr)
theorem own_kp {w w' : World} {base z n : Nat} {T T' : TypeId} {v : Value} {xs : List Value} (h : w.ownsRow base T' z v n xs) (k : Kp base T w w') (hT : T' ≠ T) : w'.ownsRow base T' z v n xs := by
  refine ⟨h.1, ?_⟩
  rcases h.2 with e | ⟨g, cap, cur, hv, hb, hh, h1, h2, h3, h4⟩
  · exact .inl e
  · exact .inr ⟨g, cap, cur, hv, hb, k g cur T' (0, 0) hb hh hT, h1, h2, h3, h4⟩
theorem Kp.low {base base' : Nat} {T : TypeId} {w w' : World} (k : Kp base T w w') (h : base ≤ base') : Kp base' T w w' := fun g cs T' fr hb hh hT => k g cs T' fr (Nat.le_trans h hb) hh hT
theorem Kp.of_reader {base E : Nat} {s : Option (List UInt8)} {w w' : World} (h : RdAt E s w) (hg : GBu E w w') : Kp base 50 w w' := fun g cs T' fr hb hh hT => by
  refine (hg.block g (gr_in hh) (fun e => ?_)).trans hh
  subst e
  unfold RdAt at h
  rw [hh] at h
  injection h with h
  injection h with _ h _
  exact hT h
theorem Kp.of_below {base : Nat} (T : TypeId) {w w' : World} (h : Below w.heap.size w w') : Kp base T w w' := fun g cs T' fr hb hh hT => (h.block g (gr_in hh)).trans hh
theorem Kp.of_grown {base n z B : Nat} {T : TypeId} {w w' : World} {v : Value} {xs : List Value} (ho : w.ownsRow B T z v n xs) (hg : w.grownBy w' v.ownBlock) : Kp base T w w' := fun g cs T' fr hb hh hT => by
  refine (hg.block g (gr_in hh) (fun e => ?_)).trans hh
  rcases ho.2 with ⟨rfl, -⟩ | ⟨g', cap, cur, rfl, -, h', -⟩
  · cases e
  · have e' : g = g' := by simpa [Value.ownBlock] using e
    subst e'
    rw [hh] at h'
    injection h' with h'
    injection h' with _ h' _
    exact hT h'
theorem Kp.of_lay {base c j : Nat} (T : TypeId) {w : World} {x : Value} (hc : c < base) : Kp base T w (w.setCell ⟨c, j, none⟩ x) := fun g cs T' fr hb hh hT =>
  (Below.heap_setCell _ _ _ _ (by show g ≠ c; omega)).trans hh
theorem Kp.trans {base : Nat} {T : TypeId} {a b c : World} (h : Kp base T a b) (k : Kp base T b c) : Kp base T a c := fun g cs T' fr hb hh hT => k g cs T' fr hb (h g cs T' fr hb hh hT) hT

/-- Instructions in rows of one's own: the row, and each one's Args. -/
def InsO (base : Nat) (w : World) (v : Value) (l : List SIn) : Prop := ∃ a : List (SIn × Value), l = a.map Prod.fst ∧ w.ownsRow base 66 5 v a.length (insRow a) ∧ ∀ p ∈ a, w.ownsRow base 3 1 p.2 p.1.args.length (intsV p.1.args)
theorem InsO.nil (base : Nat) (w : World) : InsO base w (.slice none 0 0) [] := ⟨[], rfl, World.ownsRow_nil _ _ _ _, fun _ h => by cases h⟩
theorem InsO.kp {base : Nat} {T : TypeId} {w w' : World} {v : Value} {l : List SIn} (h : InsO base w v l) (k : Kp base T w w') (h1 : 66 ≠ T) (h2 : 3 ≠ T) : InsO base w' v l := by
  obtain ⟨a, ha, ho, hi⟩ := h
  exact ⟨a, ha, own_kp ho k h1, fun p hp => own_kp (hi p hp) k h2⟩
theorem InsO.low {base base' : Nat} {w : World} {v : Value} {l : List SIn} (h : InsO base w v l) (hb : base' ≤ base) : InsO base' w v l := by
  obtain ⟨a, ha, ho, hi⟩ := h
  exact ⟨a, ha, own_low ho hb, fun p hp => own_low (hi p hp) hb⟩
theorem InsO.slice {base : Nat} {w : World} {v : Value} {l : List SIn} (h : InsO base w v l) : ∃ A c, v = .slice A l.length c := by
  obtain ⟨a, rfl, ho, -⟩ := h
  rw [List.length_map]
  exact gr_slice ho
theorem insRow_snoc : ∀ (a : List (SIn × Value)) (d : SIn) (av : Value), insRow (a ++ [(d, av)]) = insRow a ++ [.int .i64 d.op, .int .i64 d.ty, av, .int .i64 d.n, .int .i64 d.to_]
  | [], _, _ => rfl
  | (d', v') :: r, d, av => by show _ :: _ :: _ :: _ :: _ :: insRow (r ++ [(d, av)]) = _; rw [insRow_snoc r]; rfl
theorem GNs.of_own' {w : World} {base n0 : Nat} {v : Value} {T : TypeId} {l : List Int} (h : w.ownsRow base T 1 v l.length (intsV l)) (hn : w.heap.size ≤ n0) : GNs n0 w v l := (GNs.of_own h).mono hn
theorem row5_at {w : World} {base n : Nat} {T : TypeId} {v : Value} {xs : List Value} (h : w.ownsRow base T 5 v n xs) (hn : 0 < n) : ∃ b c, v = .slice (some ⟨b, 0, none⟩) n c ∧ b < w.heap.size ∧ ∀ q u, xs[q]? = some u → w.cell? ⟨b, 0 + q, none⟩ = some u := by
  rcases id h.2 with ⟨-, h0⟩ | ⟨g, cap, cur, rfl, hb, hh, -⟩
  · omega
  · refine ⟨g, cap, rfl, gr_in hh, fun q u hq => ?_⟩
    have := h.cells (g := g) rfl q u hq
    have hadd : (⟨g, 0, none⟩ : Addr).add q = ⟨g, 0 + q, none⟩ := by unfold Addr.add; split <;> simp_all
    rwa [hadd] at this
theorem InsO.sis {base : Nat} {w : World} {v : Value} {l : List SIn} (h : InsO base w v l) : SIs w.heap.size w v l := by
  obtain ⟨a, rfl, ho, hi⟩ := h
  obtain ⟨A, c, rfl⟩ := gr_slice ho
  refine ⟨A, c, by rw [List.length_map], fun hp => ?_⟩
  rw [List.length_map] at hp
  obtain ⟨b, c', hv, hb, hc⟩ := row5_at ho hp
  injection hv with e1 _ _
  refine ⟨b, 0, e1, hb, fun j d hd => ?_⟩
  rw [List.getElem?_map] at hd
  cases hl : a[j]? with
  | none => rw [hl] at hd; cases hd
  | some p =>
    obtain ⟨d', av⟩ := p
    rw [hl] at hd
    injection hd with hd
    subst hd
    obtain ⟨h0, h1, h2, h3, h4⟩ := insRow_at a j d' av hl
    refine ⟨av, hc _ _ h0, ?_, ?_, ?_, ?_, GNs.of_own (hi (d', av) (List.mem_of_getElem? hl))⟩
    · have := hc _ _ h1; rwa [show 0 + (j * 5 + 1) = 0 + j * 5 + 1 by omega] at this
    · have := hc _ _ h2; rwa [show 0 + (j * 5 + 2) = 0 + j * 5 + 2 by omega] at this
    · have := hc _ _ h3; rwa [show 0 + (j * 5 + 3) = 0 + j * 5 + 3 by omega] at this
    · have := hc _ _ h4; rwa [show 0 + (j * 5 + 4) = 0 + j * 5 + 4 by omega] at this

/-- Blocks in rows of one's own. -/
def BlkO (base : Nat) (w : World) (v : Value) (l : List SB) : Prop := ∃ a : List (SB × BV), l = a.map Prod.fst ∧ w.ownsRow base 71 5 v a.length (blkRow a) ∧ ∀ p ∈ a, w.ownsRow base 3 1 p.2.l p.1.list.length (intsV p.1.list) ∧ w.ownsRow base 3 1 p.2.p p.1.preds.length (intsV p.1.preds) ∧ w.ownsRow base 3 1 p.2.t p.1.to_.length (intsV p.1.to_)
theorem BlkO.nil (base : Nat) (w : World) : BlkO base w (.slice none 0 0) [] := ⟨[], rfl, World.ownsRow_nil _ _ _ _, fun _ h => by cases h⟩
theorem BlkO.kp {base : Nat} {T : TypeId} {w w' : World} {v : Value} {l : List SB} (h : BlkO base w v l) (k : Kp base T w w') (h1 : 71 ≠ T) (h2 : 3 ≠ T) : BlkO base w' v l := by
  obtain ⟨a, ha, ho, hi⟩ := h
  exact ⟨a, ha, own_kp ho k h1, fun p hp => ⟨own_kp (hi p hp).1 k h2, own_kp (hi p hp).2.1 k h2, own_kp (hi p hp).2.2 k h2⟩⟩
theorem BlkO.low {base base' : Nat} {w : World} {v : Value} {l : List SB} (h : BlkO base w v l) (hb : base' ≤ base) : BlkO base' w v l := by
  obtain ⟨a, ha, ho, hi⟩ := h
  exact ⟨a, ha, own_low ho hb, fun p hp => ⟨own_low (hi p hp).1 hb, own_low (hi p hp).2.1 hb, own_low (hi p hp).2.2 hb⟩⟩
theorem BlkO.slice {base : Nat} {w : World} {v : Value} {l : List SB} (h : BlkO base w v l) : ∃ A c, v = .slice A l.length c := by
  obtain ⟨a, rfl, ho, -⟩ := h
  rw [List.length_map]
  exact gr_slice ho
theorem blkRow_snoc : ∀ (a : List (SB × BV)) (d : SB) (v : BV), blkRow (a ++ [(d, v)]) = blkRow a ++ [v.l, v.p, .int .i64 d.kind, .int .i64 d.arg, v.t]
  | [], _, _ => rfl
  | (d', v') :: r, d, av => by show _ :: _ :: _ :: _ :: _ :: blkRow (r ++ [(d, av)]) = _; rw [blkRow_snoc r]; rfl
theorem BlkO.sbs {base : Nat} {w : World} {v : Value} {l : List SB} (h : BlkO base w v l) : SBs w.heap.size w v l := by
  obtain ⟨a, rfl, ho, hi⟩ := h
  obtain ⟨A, c, rfl⟩ := gr_slice ho
  refine ⟨A, c, by rw [List.length_map], fun hp => ?_⟩
  rw [List.length_map] at hp
  obtain ⟨b, c', hv, hb, hc⟩ := row5_at ho hp
  injection hv with e1 _ _
  refine ⟨b, 0, e1, hb, fun j d hd => ?_⟩
  rw [List.getElem?_map] at hd
  cases hl : a[j]? with
  | none => rw [hl] at hd; cases hd
  | some p =>
    obtain ⟨d', v⟩ := p
    rw [hl] at hd
    injection hd with hd
    subst hd
    obtain ⟨h0, h1, h2, h3, h4⟩ := blkRow_at a j d' v hl
    obtain ⟨g0, g1, g2⟩ := hi (d', v) (List.mem_of_getElem? hl)
    refine ⟨v.l, v.p, v.t, hc _ _ h0, ?_, ?_, ?_, ?_, GNs.of_own g0, GNs.of_own g1, GNs.of_own g2⟩
    · have := hc _ _ h1; rwa [show 0 + (j * 5 + 1) = 0 + j * 5 + 1 by omega] at this
    · have := hc _ _ h2; rwa [show 0 + (j * 5 + 2) = 0 + j * 5 + 2 by omega] at this
    · have := hc _ _ h3; rwa [show 0 + (j * 5 + 3) = 0 + j * 5 + 3 by omega] at this
    · have := hc _ _ h4; rwa [show 0 + (j * 5 + 4) = 0 + j * 5 + 4 by omega] at this

/-- Functions with their names in rows of one's own. -/
structure NV where
  p : Value
  i : Value
  b : Value
def fnsRow : List ((List UInt8 × SF) × NV) → List Value
  | [] => []
  | (d, v) :: r => .string ⟨d.1.toArray⟩ :: v.p :: .int .i64 d.2.ret :: v.i :: v.b :: fnsRow r
theorem fnsRow_at : ∀ (l : List ((List UInt8 × SF) × NV)) (j : Nat) (d : List UInt8 × SF) (v : NV), l[j]? = some (d, v) →
    (fnsRow l)[j * 5]? = some (.string ⟨d.1.toArray⟩) ∧ (fnsRow l)[j * 5 + 1]? = some v.p ∧ (fnsRow l)[j * 5 + 2]? = some (.int .i64 d.2.ret) ∧ (fnsRow l)[j * 5 + 3]? = some v.i ∧ (fnsRow l)[j * 5 + 4]? = some v.b
  | [], j, d, v, h => by cases h
  | (d', v') :: r, 0, d, v, h => by
    injection h with h
    injection h with h1 h2
    subst h1; subst h2
    exact ⟨rfl, rfl, rfl, rfl, rfl⟩
  | p :: r, j + 1, d, v, h => by
    have := fnsRow_at r j d v h
    obtain ⟨d', v'⟩ := p
    rw [show (j + 1) * 5 = j * 5 + 5 by omega]
    exact this
theorem fnsRow_snoc : ∀ (a : List ((List UInt8 × SF) × NV)) (d : List UInt8 × SF) (v : NV), fnsRow (a ++ [(d, v)]) = fnsRow a ++ [.string ⟨d.1.toArray⟩, v.p, .int .i64 d.2.ret, v.i, v.b]
  | [], _, _ => rfl
  | (d', v') :: r, d, av => by show _ :: _ :: _ :: _ :: _ :: fnsRow (r ++ [(d, av)]) = _; rw [fnsRow_snoc r]; rfl
def FnsO (base : Nat) (w : World) (v : Value) (l : List (List UInt8 × SF)) : Prop := ∃ a : List ((List UInt8 × SF) × NV), l = a.map Prod.fst ∧ w.ownsRow base 63 5 v a.length (fnsRow a) ∧ ∀ p ∈ a, w.ownsRow base 3 1 p.2.p p.1.2.params.length (intsV p.1.2.params) ∧ InsO base w p.2.i p.1.2.ins ∧ BlkO base w p.2.b p.1.2.blocks
theorem FnsO.nil (base : Nat) (w : World) : FnsO base w (.slice none 0 0) [] := ⟨[], rfl, World.ownsRow_nil _ _ _ _, fun _ h => by cases h⟩
theorem FnsO.slice {base : Nat} {w : World} {v : Value} {l : List (List UInt8 × SF)} (h : FnsO base w v l) : ∃ A c, v = .slice A l.length c := by
  obtain ⟨a, rfl, ho, -⟩ := h
  rw [List.length_map]
  exact gr_slice ho
theorem FnsO.kp {base : Nat} {T : TypeId} {w w' : World} {v : Value} {l : List (List UInt8 × SF)} (h : FnsO base w v l) (k : Kp base T w w') (h0 : 63 ≠ T) (h1 : 66 ≠ T) (h2 : 71 ≠ T) (h3 : 3 ≠ T) : FnsO base w' v l := by
  obtain ⟨a, ha, ho, hi⟩ := h
  exact ⟨a, ha, own_kp ho k h0, fun p hp => ⟨own_kp (hi p hp).1 k h3, (hi p hp).2.1.kp k h1 h3, (hi p hp).2.2.kp k h2 h3⟩⟩
theorem FnsO.cfs {base : Nat} {w : World} {v : Value} {l : List (List UInt8 × SF)} (h : FnsO base w v l) : CFs w.heap.size w v l := by
  obtain ⟨a, rfl, ho, hi⟩ := h
  obtain ⟨A, c, rfl⟩ := gr_slice ho
  refine ⟨A, c, by rw [List.length_map], fun hp => ?_⟩
  rw [List.length_map] at hp
  obtain ⟨b, c', hv, hb, hc⟩ := row5_at ho hp
  injection hv with e1 _ _
  refine ⟨b, 0, e1, hb, fun j d hd => ?_⟩
  rw [List.getElem?_map] at hd
  cases hl : a[j]? with
  | none => rw [hl] at hd; cases hd
  | some p =>
    obtain ⟨d', v⟩ := p
    rw [hl] at hd
    injection hd with hd
    subst hd
    obtain ⟨h0, h1, h2, h3, h4⟩ := fnsRow_at a j d' v hl
    obtain ⟨g0, g1, g2⟩ := hi (d', v) (List.mem_of_getElem? hl)
    refine ⟨v.p, v.i, v.b, hc _ _ h0, ?_, ?_, ?_, ?_, GNs.of_own g0, g1.sis, g2.sbs⟩
    · have := hc _ _ h1; rwa [show 0 + (j * 5 + 1) = 0 + j * 5 + 1 by omega] at this
    · have := hc _ _ h2; rwa [show 0 + (j * 5 + 2) = 0 + j * 5 + 2 by omega] at this
    · have := hc _ _ h3; rwa [show 0 + (j * 5 + 3) = 0 + j * 5 + 3 by omega] at this
    · have := hc _ _ h4; rwa [show 0 + (j * 5 + 4) = 0 + j * 5 + 4 by omega] at this
theorem InsO.snoc {base B : Nat} {w3 w5 : World} {v' av : Value} {a : List (SIn × Value)} {d : SIn} (ho : w5.ownsRow base 66 5 v' (a.length + 1) (insRow a ++ [.int .i64 d.op, .int .i64 d.ty, av, .int .i64 d.n, .int .i64 d.to_])) (hi : ∀ p ∈ a, w3.ownsRow base 3 1 p.2 p.1.args.length (intsV p.1.args)) (hv : w3.ownsRow B 3 1 av d.args.length (intsV d.args)) (hB : base ≤ B) (k : Kp base 66 w3 w5) : InsO base w5 v' (a.map Prod.fst ++ [d]) := by
  refine ⟨a ++ [(d, av)], by simp, by rw [insRow_snoc, List.length_append]; exact ho, fun p hp => ?_⟩
  rcases List.mem_append.mp hp with h | h
  · exact own_kp (hi p h) k (by decide)
  · rw [List.mem_singleton] at h
    subst h
    exact own_kp (own_low hv hB) k (by decide)
theorem BlkO.snoc {base B : Nat} {w3 w5 : World} {v' lv pv tv : Value} {a : List (SB × BV)} {d : SB} (ho : w5.ownsRow base 71 5 v' (a.length + 1) (blkRow a ++ [lv, pv, .int .i64 d.kind, .int .i64 d.arg, tv])) (hi : ∀ p ∈ a, w3.ownsRow base 3 1 p.2.l p.1.list.length (intsV p.1.list) ∧ w3.ownsRow base 3 1 p.2.p p.1.preds.length (intsV p.1.preds) ∧ w3.ownsRow base 3 1 p.2.t p.1.to_.length (intsV p.1.to_)) (hv : w3.ownsRow B 3 1 lv d.list.length (intsV d.list) ∧ w3.ownsRow B 3 1 pv d.preds.length (intsV d.preds) ∧ w3.ownsRow B 3 1 tv d.to_.length (intsV d.to_)) (hB : base ≤ B) (k : Kp base 71 w3 w5) : BlkO base w5 v' (a.map Prod.fst ++ [d]) := by
  refine ⟨a ++ [(d, ⟨lv, pv, tv⟩)], by simp, by rw [blkRow_snoc, List.length_append]; exact ho, fun p hp => ?_⟩
  rcases List.mem_append.mp hp with h | h
  · exact ⟨own_kp (hi p h).1 k (by decide), own_kp (hi p h).2.1 k (by decide), own_kp (hi p h).2.2 k (by decide)⟩
  · rw [List.mem_singleton] at h
    subst h
    exact ⟨own_kp (own_low hv.1 hB) k (by decide), own_kp (own_low hv.2.1 hB) k (by decide), own_kp (own_low hv.2.2 hB) k (by decide)⟩
theorem FnsO.snoc {base B : Nat} {w3 w5 : World} {v' pv iv bv : Value} {a : List ((List UInt8 × SF) × NV)} {d : List UInt8 × SF} (ho : w5.ownsRow base 63 5 v' (a.length + 1) (fnsRow a ++ [.string ⟨d.1.toArray⟩, pv, .int .i64 d.2.ret, iv, bv])) (hi : ∀ p ∈ a, w3.ownsRow base 3 1 p.2.p p.1.2.params.length (intsV p.1.2.params) ∧ InsO base w3 p.2.i p.1.2.ins ∧ BlkO base w3 p.2.b p.1.2.blocks) (hv : w3.ownsRow B 3 1 pv d.2.params.length (intsV d.2.params) ∧ InsO B w3 iv d.2.ins ∧ BlkO B w3 bv d.2.blocks) (hB : base ≤ B) (k : Kp base 63 w3 w5) : FnsO base w5 v' (a.map Prod.fst ++ [d]) := by
  refine ⟨a ++ [(d, ⟨pv, iv, bv⟩)], by simp, by rw [fnsRow_snoc, List.length_append]; exact ho, fun p hp => ?_⟩
  rcases List.mem_append.mp hp with h | h
  · exact ⟨own_kp (hi p h).1 k (by decide), (hi p h).2.1.kp k (by decide) (by decide), (hi p h).2.2.kp k (by decide) (by decide)⟩
  · rw [List.mem_singleton] at h
    subst h
    exact ⟨own_kp (own_low hv.1 hB) k (by decide), (hv.2.1.low hB).kp k (by decide) (by decide), (hv.2.2.low hB).kp k (by decide) (by decide)⟩
theorem infoInsQ : (Try.prog.info? 66).map (fun i => (i.zero, i.size, i.bytes)) = some (some (.agg #[.int .i64 0, .int .i64 0, .slice none 0 0, .int .i64 0, .int .i64 0]), 5, 56) := by kernel_rfl
theorem infoBlkQ : (Try.prog.info? 71).map (fun i => (i.zero, i.size, i.bytes)) = some (some (.agg #[.slice none 0 0, .slice none 0 0, .int .i64 0, .int .i64 0, .slice none 0 0]), 5, 88) := by kernel_rfl
theorem infoFnQ : (Try.prog.info? 63).map (fun i => (i.zero, i.size, i.bytes)) = some (some (.agg #[.string ⟨#[]⟩, .slice none 0 0, .int .i64 0, .slice none 0 0, .slice none 0 0]), 5, 96) := by kernel_rfl
/-- append of one struct of five cells. -/
theorem app_five {T TS : TypeId} {z : Value} {bytes : Nat} (hinfo : (Try.prog.info? T).map (fun i => (i.zero, i.size, i.bytes)) = some (some z, 5, bytes)) (hzc : z.cells.size = 5) (hby : bytes ≤ 128) (hu : Try.prog.underlying TS = some (.slice T)) {ops : Array Oper} {rest : List Oper} {o : Oper} {a : Act} {w : World} {Q : Exit → Act → World → Prop} (hgd : o.guard = none) (s x : Operand)
    (ho : o.op = .call { callee := .builtin .append, args := #[s, x], argTypes := #[TS, TS] }) (base : Nat) (v : Value) (n : Nat) (l : List Value) (hs : a.eval s = v) (hown : w.ownsRow base T 5 v n l)
    (g0 : Nat) (u : List Value) (hx : a.eval x = .slice (some ⟨g0, 0, none⟩) 1 1) (hul : u.length = 5) (hc : ∀ j y, u[j]? = some y → w.cell? ((⟨g0, 0, none⟩ : Addr).add j) = some y) (h1 : ∀ y ∈ u, y.oneCell' = true) (hl : n ≤ 1048576) (hb : base ≤ w.heap.size)
    (h : ∀ v' w', w'.ownsRow base T 5 v' (n + 1) (l ++ u) → w.grownBy w' v.ownBlock → wpList Try.prog ops Q rest (a.put o.dst v') w') : wpList Try.prog ops Q (o :: rest) a w := by
  obtain ⟨i0, hi0, hz0, hz1, hz2⟩ := info_parts hinfo
  refine wpList_append_lies w hgd s x TS ho base T i0 z 5 bytes hu hi0 hz0 hz1 hz2 hzc (by decide) v n l hs hown ⟨g0, 0, none⟩ 1 1 u hx (by omega) hc h1 (by decide) (by unfold maxLen; omega) ?_ hb _ rfl ?_
  · have : (n + 1) * bytes ≤ (n + 1) * 128 := Nat.mul_le_mul_left _ hby
    omega
  intro g cap w' ho' hg' hat _
  exact h _ _ ho' hg'
end Go.Proofs.Ythjlpbglnnebkaa
