/-
  Expressions in brackets: the closure, and the list that it makes.
  Expressions in brackets, as a list.
-/
import Derived.Test.YtiadbeglhnocoaaGreatDoorJb18
import Derived.Test.YtiadbeglhnocoaaGreatDoorJb19
import Derived.Deep.RegionLaw
import Derived.Deep.RegionHeld3
namespace Go.Proofs.YtiadbeglhnocoaaGreatDoor
set_option linter.unusedVariables false
set_option linter.unusedSimpArgs false
open Go.RowKit

/-- None that was there. -/
def NoB (_ : Nat) : Prop := False
/-- So far may blocks and brackets be open, with so much fuel. -/
def Ok (k : Nat) (s : PS) : Prop := k ≤ 33554432 ∧ 0 ≤ s.nest ∧ s.nest + k ≤ 1099511627776 ∧ 0 ≤ s.deep ∧ s.deep + k ≤ 1099511627776
/-- The reader of expressions, with so much fuel. -/
def ExC (k : Nat) : Prop := ∀ g s r w, exprK k s = some r → Ok k s → PAt w g s → Calls Tryz.prog 88 #[.pointer (some ⟨g, 0, none⟩)] w (WholePost g NoB w r)
theorem infoPart : (Tryz.prog.info? 124).map (fun i => (i.zero, i.size, i.bytes)) = some (some (.agg #[.int .i64 0, .int .i64 0, .int .i64 0, .int .i64 0, .int .i64 0, .string ⟨#[]⟩, .slice none 0 0, .int .i64 0]), 8, 88) := by kernel_rfl
theorem eight_one (k a t o n : Int) (s : ByteArray) (K : Option Addr) (m c : Nat) (d : Int) : ∀ u ∈ ([.int .i64 k, .int .i64 a, .int .i64 t, .int .i64 o, .int .i64 n, .string s, .slice K m c, .int .i64 d] : List Value), u.oneCell' = true := by
  intro u hu
  simp only [List.mem_cons, List.not_mem_nil, or_false] at hu
  rcases hu with rfl | rfl | rfl | rfl | rfl | rfl | rfl | rfl <;> rfl
/-- The parts of a row, by its cells; what lies behind them is apart from the row. -/
def PrC (w : World) (base : Nat) (v : Value) (xs : List Value) (l : List Part) : Prop := ∀ i p, l[i]? = some p → RdP w (fun b => base ≤ b ∧ b < w.heap.size ∧ some b ≠ v.ownBlock) (fun j => xs[i * 8 + j]?) p
/-- What the closure has captured. -/
def JP (g : Nat) (w0 : World) (l : List Part) (w : World) : Prop := ∃ v xs, w.heap[w0.heap.size]? = some (.cells #[.pointer (some ⟨g, 0, none⟩)] 59 (0, 0)) ∧ w.heap[w0.heap.size + 1]? = some (.cells #[v] 133 (0, 0)) ∧ w.ownsRow (w0.heap.size + 2) 124 8 v l.length xs ∧ PrC w (w0.heap.size + 2) v xs l ∧ But g w0 w
theorem own_but {w w' : World} {g base : Nat} {T : TypeId} {z n : Nat} {v : Value} {xs : List Value} (h : w.ownsRow base T z v n xs) (hb : But g w w') (hg : g < base) : w'.ownsRow base T z v n xs :=
  h.kept (row := some g) ⟨hb.os, hb.tape, hb.output, hb.size, fun k hk hne => hb.block k hk (fun e => hne (by rw [e]))⟩ (by
    rcases h.2 with ⟨rfl, _⟩ | ⟨b, c, cur, rfl, hbb, _⟩
    · exact Or.inl rfl
    · refine Or.inr (fun e => ?_)
      simp only [Value.ownBlock, Option.some.injEq] at e
      omega)
theorem PrC.but {w w' : World} {g base : Nat} {v : Value} {xs : List Value} {l : List Part} (h : PrC w base v xs l) (hb : But g w w') (hg : g < base) : PrC w' base v xs l := fun i p hp => by
  have h6 := RdP.keep (w' := w') (fun q hq => hb.cell hq.2.1 (fun e => by have := hq.1; omega)) (h i p hp)
  exact h6.more (fun b hS => ⟨hS.1, Nat.lt_of_lt_of_le hS.2.1 hb.size, hS.2.2⟩)
theorem JP.but {g : Nat} {w0 w w' : World} {l : List Part} (h : JP g w0 l w) (hb : But g w w') (hg : g < w0.heap.size) : JP g w0 l w' := by
  obtain ⟨v, xs, h1, h2, h3, h4, h5⟩ := h
  exact ⟨v, xs, (hb.block _ (heap_lt h1) (by omega)).trans h1, (hb.block _ (heap_lt h2) (by omega)).trans h2, own_but h3 hb (by omega), h4.but hb (by omega), h5.trans hb⟩
/-- One more. -/
theorem PrC.snoc {w1 w2 : World} {base lo : Nat} {v v' : Value} {xs : List Value} {l : List Part} {k a t o n : Int} {s : ByteArray} {kids : List Ex} {K : Option Addr} {c : Nat} {d : Int} (h : PrC w1 base v xs l) (hx : xs.length = l.length * 8) (hk : RdEs w1 (From lo w1) K 0 kids)
    (hlo : base ≤ lo) (hv : ∀ b, v.ownBlock = some b → b < lo) (hg : w1.grownBy w2 v.ownBlock) (hat : v'.ownBlock = v.ownBlock ∨ ∃ b, v'.ownBlock = some b ∧ w1.heap.size ≤ b) :
    PrC w2 base v' (xs ++ [.int .i64 k, .int .i64 a, .int .i64 t, .int .i64 o, .int .i64 n, .string s, .slice K kids.length (kids.length + c), .int .i64 d]) (l ++ [(.mk k a t o n s kids, d)]) := fun i p hp => by
  have hcell : ∀ q : Addr, q.block < w1.heap.size → some q.block ≠ v.ownBlock → w2.cell? q = w1.cell? q := fun q h1 h2 => hg.cell_far q h1 h2
  have hne : ∀ b, b < w1.heap.size → some b ≠ v.ownBlock → some b ≠ v'.ownBlock := fun b h1 h2 => by
    rcases hat with e | ⟨b', e, hge⟩
    · rw [e]; exact h2
    · rw [e]; intro e2; injection e2 with e2; omega
  by_cases hi : i < l.length
  · rw [List.getElem?_append_left hi] at hp
    have h1 := RdP.keep (w' := w2) (fun q hq => hcell q hq.2.1 hq.2.2) (h i p hp)
    have h2 := h1.more (S' := fun b => base ≤ b ∧ b < w2.heap.size ∧ some b ≠ v'.ownBlock) (fun b hS => ⟨hS.1, Nat.lt_of_lt_of_le hS.2.1 hg.size, hne b hS.2.1 hS.2.2⟩)
    exact h2.cells (fun j hj => by rw [List.getElem?_append_left (by omega)])
  · have hl : i < (l ++ [((.mk k a t o n s kids, d) : Part)]).length := (List.getElem?_eq_some_iff.mp hp).1
    rw [List.length_append, List.length_singleton] at hl
    obtain rfl : i = l.length := by omega
    have hpe : p = (.mk k a t o n s kids, d) := by simpa using hp.symm
    subst hpe
    have hvb : ∀ b, lo ≤ b → some b ≠ v.ownBlock := fun b h1 h2 => by have := hv b h2.symm; omega
    have h1 := RdEs.keep (w' := w2) (fun q hq => hcell q hq.2 (hvb _ hq.1)) _ _ _ hk
    have h2 := RdEs.more (S' := fun b => base ≤ b ∧ b < w2.heap.size ∧ some b ≠ v'.ownBlock) (fun b hS => ⟨Nat.le_trans hlo hS.1, Nat.lt_of_lt_of_le hS.2 hg.size, hne b hS.2 (hvb b hS.1)⟩) _ _ _ h1
    have h3 : RdP w2 (fun b => base ≤ b ∧ b < w2.heap.size ∧ some b ≠ v'.ownBlock) (fun j => ([.int .i64 k, .int .i64 a, .int .i64 t, .int .i64 o, .int .i64 n, .string s, .slice K kids.length (kids.length + c), .int .i64 d] : List Value)[j]?) (.mk k a t o n s kids, d) := by
      refine ⟨?_, rfl⟩
      unfold RdE
      exact ⟨rfl, rfl, rfl, rfl, rfl, rfl, K, c, rfl, h2⟩
    exact h3.cells (fun j hj => by rw [List.getElem?_append_right (by omega), hx, Nat.add_sub_cancel_left])
/-- One round of the list. -/
def StepP (k : Nat) (l : List Part) (s : PS) (l' : List Part) (s1 : PS) : Prop := ∃ j x, j ≤ k ∧ exprK j s = some (x, s1) ∧ l' = l ++ [x] ∧ Ok j s ∧ l.length ≤ 33554432
/-- What stands behind a round. -/
theorem partsF_end {g : Nat} {w0 w w1 w2 : World} (hg : g < w0.heap.size) {l : List Part} {s1 : PS} {V : Option Addr} {C : Nat} {xs : List Value} {k a t o n : Int} {s : ByteArray} {kids : List Ex} {K : Option Addr} {c : Nat} {d : Int} {gp cp2 : Nat}
    (hbp : w.heap[w0.heap.size]? = some (.cells #[.pointer (some ⟨g, 0, none⟩)] 59 (0, 0))) (hbl : w.heap[w0.heap.size + 1]? = some (.cells #[.slice V l.length C] 133 (0, 0))) (hown : w.ownsRow (w0.heap.size + 2) 124 8 (.slice V l.length C) l.length xs) (hpr : PrC w (w0.heap.size + 2) (.slice V l.length C) xs l) (hbut : But g w0 w)
    (hp1 : PAt w1 g s1) (hb1 : But g w w1) (hk : RdEs w1 (From w.heap.size w1) K 0 kids) {o8 : Obj}
    (hown2 : w2.ownsRow (w0.heap.size + 2) 124 8 (.slice (some ⟨gp, 0, none⟩) (l.length + 1) cp2) (l.length + 1) (xs ++ [.int .i64 k, .int .i64 a, .int .i64 t, .int .i64 o, .int .i64 n, .string s, .slice K kids.length (kids.length + c), .int .i64 d])) (hgrow : (w1.alloc o8).grownBy w2 (Value.slice V l.length C).ownBlock) (hat : (Value.slice V l.length C).ownBlock = some gp ∨ gp = w1.heap.size + 1) :
    PAt (w2.setCell ⟨w0.heap.size + 1, 0, none⟩ (.slice (some ⟨gp, 0, none⟩) (l.length + 1) cp2)) g s1 ∧ JP g w0 (l ++ [(.mk k a t o n s kids, d)]) (w2.setCell ⟨w0.heap.size + 1, 0, none⟩ (.slice (some ⟨gp, 0, none⟩) (l.length + 1) cp2)) := by
  have hz0 := heap_lt hbl
  have hz1 := hb1.size
  have hz2 := hgrow.size
  simp at hz2
  have hlt := fun b hb => hown.lt b hb
  have hmid : Below w1.heap.size w1 (w1.alloc o8) := (Below.refl _ _).alloc (Nat.le_refl _) o8
  have hb12 : Below (w0.heap.size + 2) w1 w2 := (hmid.mono (by omega)).grown hgrow (by simp; omega) (fun b hb => (hlt b hb).1)
  have hbW : Below (w0.heap.size + 1) w1 (w2.setCell ⟨w0.heap.size + 1, 0, none⟩ (.slice (some ⟨gp, 0, none⟩) (l.length + 1) cp2)) := (hb12.mono (by omega)).setCell (by simp) _
  have hbp1 := (hb1.block _ (heap_lt hbp) (by omega)).trans hbp
  have hbl1 := (hb1.block _ hz0 (by omega)).trans hbl
  have hbl2 := (hb12.block (w0.heap.size + 1) (by omega)).trans hbl1
  have hpr1 := hpr.but hb1 (by omega)
  have hprA : PrC (w1.alloc o8) (w0.heap.size + 2) (.slice V l.length C) xs l := hpr1.but (But.of_below (g := g) hmid) (by omega)
  have hkA := RdEs.more (S' := From w.heap.size (w1.alloc o8)) (fun b hS => ⟨hS.1, by have := hS.2; simp; omega⟩) _ _ _ (RdEs.keep (w' := w1.alloc o8) (fun q hq => hmid.cell hq.2) _ _ _ hk)
  have hpr2 := hprA.snoc (k := k) (a := a) (t := t) (o := o) (n := n) (s := s) (c := c) (d := d) (v' := .slice (some ⟨gp, 0, none⟩) (l.length + 1) cp2) hown.1 hkA (by omega) (fun b hb => (hlt b hb).2) hgrow (by
    rcases hat with h1 | h1
    · exact Or.inl h1.symm
    · exact Or.inr ⟨gp, rfl, by simp; omega⟩)
  refine ⟨hp1.up (hbW.mono (by omega)), _, xs ++ [.int .i64 k, .int .i64 a, .int .i64 t, .int .i64 o, .int .i64 n, .string s, .slice K kids.length (kids.length + c), .int .i64 d], (hbW.block _ (by omega)).trans hbp1, heap_set hbl2 0 _, ?_, fun i p hp => ?_, ?_⟩
  · rw [List.length_append, List.length_singleton]
    exact ownsRow_setCell_below hown2 (by simp) _
  · have h6 := RdP.keep (w' := w2.setCell ⟨w0.heap.size + 1, 0, none⟩ (.slice (some ⟨gp, 0, none⟩) (l.length + 1) cp2)) (fun q hq => World.cell?_of_block (Below.heap_setCell _ _ _ _ (by have := hq.1; simp; omega))) (hpr2 i p hp)
    exact h6.more (fun b hS => ⟨hS.1, by simpa [World.setCell] using hS.2.1, hS.2.2⟩)
  · have h1 : But g w0 w1 := hbut.trans hb1
    have h2 := But.up h1 ((Below.trans (hmid.mono (by omega)) (Below.grown (Below.refl (w0.heap.size) _) hgrow (by simp; omega) (fun b hb => by have := (hlt b hb).1; omega))))
    exact h2.setCell (Or.inr (by simp)) _
set_option maxRecDepth 100000 in
set_option maxHeartbeats 8000000 in
theorem partsF_any (k : Nat) (HE : ∀ j, j ≤ k → ExC j) (g : Nat) (w0 : World) (hg : g < w0.heap.size) (l : List Part) (s : PS) (l' : List Part) (s1 : PS) (w : World) (hs : StepP k l s l' s1) (h : PAt w g s) (hj : JP g w0 l w) :
    Calls Tryz.prog 118 #[.pointer (some ⟨w0.heap.size + 1, 0, none⟩), .pointer (some ⟨w0.heap.size, 0, none⟩)] w fun e w' => e = .returned (.tuple #[]) ∧ PAt w' g s1 ∧ JP g w0 l' w' := by
  obtain ⟨j, x, hjk, hx, rfl, hok, hll⟩ := hs
  obtain ⟨v, xs, hbp, hbl, hown, hpr, hbut⟩ := hj
  have hX := HE j hjk g s _ w.drew hx hok (h.keep ((Below.refl _ _).drew))
  have hgl := h.lt
  have hpl := heap_lt hbl
  have b0 : w.cell? ⟨w0.heap.size, 0, none⟩ = some (.pointer (some ⟨g, 0, none⟩)) := by rw [Lib.cell_of_heap hbp]; rfl
  have l0 : w.cell? ⟨w0.heap.size + 1, 0, none⟩ = some v := by rw [Lib.cell_of_heap hbl]; rfl
  obtain ⟨V, C, rfl⟩ := own_form hown
  have Hbp := Lib.hid hbp
  have Hbl := Lib.hid hbl
  have Hown := Lib.hid hown
  have Hpr := Lib.hid hpr
  have Hbut := Lib.hid hbut
  obtain ⟨i0, hi, hz0, hz1, hz2⟩ := info_parts infoPart
  have Hi := Lib.hid hi
  have Hz0 := Lib.hid hz0
  have Hz1 := Lib.hid hz1
  have Hz2 := Lib.hid hz2
  obtain ⟨n, hn⟩ : ∃ n, n = l.length := ⟨_, rfl⟩
  have Hn := Lib.hid hn
  rw [← hn] at hll l0
  clear hi hz0 hz1 hz2 hbp hbl hown hpr hbut hx hok h hn
  go_enter Tryz.func118, Tryz.ntmps118
  refine wp_region_held_drew (S := fun w' => w'.cell? ⟨w0.heap.size, 0, none⟩ = some (.pointer (some ⟨g, 0, none⟩))) (by kernel_rfl) b0 (fun hHeld => ?_)
  refine wpAnyH_take (i := 1) (v := ?_) rfl (by kernel_rfl) (by kernel_rfl) (by kernel_rfl) (fun _ _ _ h => h) (Or.inl ⟨by rfl, ?_⟩) (by assumption) ?_
  rotate_left
  · (intro w hSw; (try dsimp only at hSw); first | (go_simp; done) | (go_simp; with_reducible rfl))
  try simp only [Act.put, List.setIfInBounds_toArray, List.set_cons_zero, List.set_cons_succ]
  refine wpAnyH_ready (rs := [0, 2]) (by kernel_rfl) (by simp) ?_
  refine AllReadyH.cons rfl (fun K hK => ?_) (AllReadyH.cons rfl (fun K hK => ?_) (AllReadyH.nil))
  · go_simp
    refine hK.out _ _ ?_ (fun hHeld => ?_)
    · ((try dsimp only); first | assumption | exact b0 | exact b1 | exact bA | exact b2 | exact (World.cell?_setCell_other _ _ _ _ (by simp)).trans b2 | (simp [*]; done))
    clear hK K
    try simp only [Act.put, List.setIfInBounds_toArray, List.set_cons_zero, List.set_cons_succ]
    refine wpAnyH_ready (rs := [2]) (by kernel_rfl) (by simp) ?_
    refine AllReadyH.cons rfl (fun K hK => ?_) (AllReadyH.nil)
    go_simp
    refine hX.mono ?_
    rintro e w1 ⟨v1, rfl, hv1, hp1, hb1⟩
    obtain ⟨pk, pa, pt, po, pn, ps, kids, PK, c, d, hxe, rfl, hk⟩ := hv1
    simp only at hxe hp1
    have hbd : But g w w1 := ((But.refl g w).drew).trans hb1
    have b1 := (hbd.cell (p := ⟨w0.heap.size, 0, none⟩) (by simp; omega) (by simp; omega)).trans b0
    have l1 := (hbd.cell (p := ⟨w0.heap.size + 1, 0, none⟩) (by simp; omega) (by simp; omega)).trans l0
    have z1 : w0.heap.size + 1 < w1.heap.size := by have := hbd.size; omega
    have HOW := Lib.hid (own_but (own_but Hown.out hbd (by omega)) (But.of_below (g := g) ((Below.refl w1.heap.size w1).alloc (Nat.le_refl _) (.cells #[.int .i64 pk, .int .i64 pa, .int .i64 pt, .int .i64 po, .int .i64 pn, .string ps, .slice PK kids.length (kids.length + c), .int .i64 d] 124))) (by omega))
    have HNW := Lib.hid (World.news_of_block (heap_alloc_new w1 (.cells #[.int .i64 pk, .int .i64 pa, .int .i64 pt, .int .i64 po, .int .i64 pn, .string ps, .slice PK kids.length (kids.length + c), .int .i64 d] 124)))
    have HOC := Lib.hid (eight_one pk pa pt po pn ps PK kids.length (kids.length + c) d)
    have hsz : w0.heap.size + 2 ≤ (w1.alloc (.cells #[.int .i64 pk, .int .i64 pa, .int .i64 pt, .int .i64 po, .int .i64 pn, .string ps, .slice PK kids.length (kids.length + c), .int .i64 d] 124)).heap.size := by simp; omega
    have bA : (w1.alloc (.cells #[.int .i64 pk, .int .i64 pa, .int .i64 pt, .int .i64 po, .int .i64 pn, .string ps, .slice PK kids.length (kids.length + c), .int .i64 d] 124)).cell? ⟨w0.heap.size, 0, none⟩ = some (.pointer (some ⟨g, 0, none⟩)) := (World.cell?_alloc_lt _ _ _ (by simp; omega)).trans b1
    have Hp1 := Lib.hid hp1
    have Hbd := Lib.hid hbd
    have Hk := Lib.hid (RdEs.more (S' := From w.heap.size w1) (fun b hb => by rcases hb with hb | hb; exact absurd hb (by unfold NoB; simp); exact hb) _ _ _ hk)
    have Hxe := Lib.hid hxe
    clear hp1 hb1 hbd hk hxe
    unfold partV
    refine hK.out _ _ ?_ (fun hHeld => ?_)
    · ((try dsimp only); first | assumption | exact b0 | exact b1 | exact bA | exact b2 | exact (World.cell?_setCell_other _ _ _ _ (by simp)).trans b2 | (simp [*]; done))
    clear hK K
    try simp only [Act.put, List.setIfInBounds_toArray, List.set_cons_zero, List.set_cons_succ]
    refine wpAnyH_ready (rs := [3]) (by kernel_rfl) (by simp) ?_
    refine AllReadyH.cons rfl (fun K hK => ?_) (AllReadyH.nil)
    go_simp
    refine hK.out _ _ ?_ (fun hHeld => ?_)
    · ((try dsimp only); first | assumption | exact b0 | exact b1 | exact bA | exact b2 | exact (World.cell?_setCell_other _ _ _ _ (by simp)).trans b2 | (simp [*]; done))
    clear hK K
    try simp only [Act.put, List.setIfInBounds_toArray, List.set_cons_zero, List.set_cons_succ]
    refine wpAnyH_ready (rs := [4]) (by kernel_rfl) (by simp) ?_
    refine AllReadyH.cons rfl (fun K hK => ?_) (AllReadyH.nil)
    refine step_append_lies _ rfl (.tmp 2) (.tmp 5) 133 rfl (w0.heap.size + 2) 124 i0 (.agg #[.int .i64 0, .int .i64 0, .int .i64 0, .int .i64 0, .int .i64 0, .string ⟨#[]⟩, .slice none 0 0, .int .i64 0]) 8 88 Tryz.underlying133 Hi.out Hz0.out Hz1.out Hz2.out rfl (by decide) (.slice V n C) n xs (by simp [Act.eval, Act.put]) (by rw [Hn.out]; exact HOW.out) ⟨w1.heap.size, 0, none⟩ 1 1 [.int .i64 pk, .int .i64 pa, .int .i64 pt, .int .i64 po, .int .i64 pn, .string ps, .slice PK kids.length (kids.length + c), .int .i64 d] (by simp [Act.eval, Act.put]) rfl HNW.out HOC.out (by decide) (by unfold maxLen; omega) (by omega) hsz _ rfl ?_
    intro gp cp2 w2 hown2 hgrow hat hlt
    have hfar : ∀ k, k < w0.heap.size + 2 → w2.heap[k]? = w1.heap[k]? := fun k hk => (hgrow.block k (Nat.lt_of_lt_of_le (by omega) hsz) (fun e => by have := (HOW.out.lt k (by rw [← Hn.out]; exact e.symm)).1; omega)).trans (Below.heap_alloc _ _ _ (by omega))
    have b2 := (World.cell?_of_block (a := ⟨w0.heap.size, 0, none⟩) (hfar w0.heap.size (by omega))).trans b1
    have l2 := (World.cell?_of_block (a := ⟨w0.heap.size + 1, 0, none⟩) (hfar (w0.heap.size + 1) (by omega))).trans l1
    have lf2 : w2.frozen? ⟨w0.heap.size + 1, 0, none⟩ = false := (World.frozen?_of_block (a := ⟨w0.heap.size + 1, 0, none⟩) ((hfar (w0.heap.size + 1) (by omega)).trans (Hbd.out.block _ (by omega) (by omega)))).trans (Lib.frozen_of_heap Hbl.out 0)
    have hat2 : (Value.slice V n C).ownBlock = some gp ∨ gp = w1.heap.size + 1 := by
      rcases hat with h | h
      · exact Or.inl h
      · exact Or.inr (by rw [h]; simp)
    have Hend := Lib.hid (partsF_end (d := d) (c := c) (k := pk) (a := pa) (t := pt) (o := po) (n := pn) (s := ps) hg Hbp.out Hbl.out Hown.out Hpr.out Hbut.out Hp1.out Hbd.out Hk.out (by rw [← Hn.out]; exact hown2) (by rw [← Hn.out]; exact hgrow) (by rw [← Hn.out]; exact hat2))
    clear hown2 hgrow hat hat2 hlt hfar
    refine hK.out _ _ ?_ (fun hHeld => ?_)
    · ((try dsimp only); first | assumption | exact b0 | exact b1 | exact bA | exact b2 | exact (World.cell?_setCell_other _ _ _ _ (by simp)).trans b2 | (simp [*]; done))
    clear hK K
    try simp only [Act.put, List.setIfInBounds_toArray, List.set_cons_zero, List.set_cons_succ]
    refine wpAnyH_ready (rs := [5]) (by kernel_rfl) (by simp) ?_
    refine AllReadyH.cons rfl (fun K hK => ?_) (AllReadyH.nil)
    go_simp
    refine hK.out _ _ ?_ (fun hHeld => ?_)
    · ((try dsimp only); first | assumption | exact b0 | exact b1 | exact bA | exact b2 | exact (World.cell?_setCell_other _ _ _ _ (by simp)).trans b2 | (simp [*]; done))
    clear hK K
    try simp only [Act.put, List.setIfInBounds_toArray, List.set_cons_zero, List.set_cons_succ]
    refine wpAnyH_done (by kernel_rfl) ?_ _
    go_wp2
    go_end0
    rw [Hxe.out]
    have hE := Hend.out
    rw [← Hn.out] at hE
    exact ⟨rfl, hE⟩
  · go_simp
    refine hX.mono ?_
    rintro e w1 ⟨v1, rfl, hv1, hp1, hb1⟩
    obtain ⟨pk, pa, pt, po, pn, ps, kids, PK, c, d, hxe, rfl, hk⟩ := hv1
    simp only at hxe hp1
    have hbd : But g w w1 := ((But.refl g w).drew).trans hb1
    have b1 := (hbd.cell (p := ⟨w0.heap.size, 0, none⟩) (by simp; omega) (by simp; omega)).trans b0
    have l1 := (hbd.cell (p := ⟨w0.heap.size + 1, 0, none⟩) (by simp; omega) (by simp; omega)).trans l0
    have z1 : w0.heap.size + 1 < w1.heap.size := by have := hbd.size; omega
    have HOW := Lib.hid (own_but (own_but Hown.out hbd (by omega)) (But.of_below (g := g) ((Below.refl w1.heap.size w1).alloc (Nat.le_refl _) (.cells #[.int .i64 pk, .int .i64 pa, .int .i64 pt, .int .i64 po, .int .i64 pn, .string ps, .slice PK kids.length (kids.length + c), .int .i64 d] 124))) (by omega))
    have HNW := Lib.hid (World.news_of_block (heap_alloc_new w1 (.cells #[.int .i64 pk, .int .i64 pa, .int .i64 pt, .int .i64 po, .int .i64 pn, .string ps, .slice PK kids.length (kids.length + c), .int .i64 d] 124)))
    have HOC := Lib.hid (eight_one pk pa pt po pn ps PK kids.length (kids.length + c) d)
    have hsz : w0.heap.size + 2 ≤ (w1.alloc (.cells #[.int .i64 pk, .int .i64 pa, .int .i64 pt, .int .i64 po, .int .i64 pn, .string ps, .slice PK kids.length (kids.length + c), .int .i64 d] 124)).heap.size := by simp; omega
    have bA : (w1.alloc (.cells #[.int .i64 pk, .int .i64 pa, .int .i64 pt, .int .i64 po, .int .i64 pn, .string ps, .slice PK kids.length (kids.length + c), .int .i64 d] 124)).cell? ⟨w0.heap.size, 0, none⟩ = some (.pointer (some ⟨g, 0, none⟩)) := (World.cell?_alloc_lt _ _ _ (by simp; omega)).trans b1
    have Hp1 := Lib.hid hp1
    have Hbd := Lib.hid hbd
    have Hk := Lib.hid (RdEs.more (S' := From w.heap.size w1) (fun b hb => by rcases hb with hb | hb; exact absurd hb (by unfold NoB; simp); exact hb) _ _ _ hk)
    have Hxe := Lib.hid hxe
    clear hp1 hb1 hbd hk hxe
    unfold partV
    refine hK.out _ _ ?_ (fun hHeld => ?_)
    · ((try dsimp only); first | assumption | exact b0 | exact b1 | exact bA | exact b2 | exact (World.cell?_setCell_other _ _ _ _ (by simp)).trans b2 | (simp [*]; done))
    clear hK K
    try simp only [Act.put, List.setIfInBounds_toArray, List.set_cons_zero, List.set_cons_succ]
    refine wpAnyH_ready (rs := [0, 3]) (by kernel_rfl) (by simp) ?_
    refine AllReadyH.cons rfl (fun K hK => ?_) (AllReadyH.cons rfl (fun K hK => ?_) (AllReadyH.nil))
    · go_simp
      refine hK.out _ _ ?_ (fun hHeld => ?_)
      · ((try dsimp only); first | assumption | exact b0 | exact b1 | exact bA | exact b2 | exact (World.cell?_setCell_other _ _ _ _ (by simp)).trans b2 | (simp [*]; done))
      clear hK K
      try simp only [Act.put, List.setIfInBounds_toArray, List.set_cons_zero, List.set_cons_succ]
      refine wpAnyH_ready (rs := [3]) (by kernel_rfl) (by simp) ?_
      refine AllReadyH.cons rfl (fun K hK => ?_) (AllReadyH.nil)
      go_simp
      refine hK.out _ _ ?_ (fun hHeld => ?_)
      · ((try dsimp only); first | assumption | exact b0 | exact b1 | exact bA | exact b2 | exact (World.cell?_setCell_other _ _ _ _ (by simp)).trans b2 | (simp [*]; done))
      clear hK K
      try simp only [Act.put, List.setIfInBounds_toArray, List.set_cons_zero, List.set_cons_succ]
      refine wpAnyH_ready (rs := [4]) (by kernel_rfl) (by simp) ?_
      refine AllReadyH.cons rfl (fun K hK => ?_) (AllReadyH.nil)
      refine step_append_lies _ rfl (.tmp 2) (.tmp 5) 133 rfl (w0.heap.size + 2) 124 i0 (.agg #[.int .i64 0, .int .i64 0, .int .i64 0, .int .i64 0, .int .i64 0, .string ⟨#[]⟩, .slice none 0 0, .int .i64 0]) 8 88 Tryz.underlying133 Hi.out Hz0.out Hz1.out Hz2.out rfl (by decide) (.slice V n C) n xs (by simp [Act.eval, Act.put]) (by rw [Hn.out]; exact HOW.out) ⟨w1.heap.size, 0, none⟩ 1 1 [.int .i64 pk, .int .i64 pa, .int .i64 pt, .int .i64 po, .int .i64 pn, .string ps, .slice PK kids.length (kids.length + c), .int .i64 d] (by simp [Act.eval, Act.put]) rfl HNW.out HOC.out (by decide) (by unfold maxLen; omega) (by omega) hsz _ rfl ?_
      intro gp cp2 w2 hown2 hgrow hat hlt
      have hfar : ∀ k, k < w0.heap.size + 2 → w2.heap[k]? = w1.heap[k]? := fun k hk => (hgrow.block k (Nat.lt_of_lt_of_le (by omega) hsz) (fun e => by have := (HOW.out.lt k (by rw [← Hn.out]; exact e.symm)).1; omega)).trans (Below.heap_alloc _ _ _ (by omega))
      have b2 := (World.cell?_of_block (a := ⟨w0.heap.size, 0, none⟩) (hfar w0.heap.size (by omega))).trans b1
      have l2 := (World.cell?_of_block (a := ⟨w0.heap.size + 1, 0, none⟩) (hfar (w0.heap.size + 1) (by omega))).trans l1
      have lf2 : w2.frozen? ⟨w0.heap.size + 1, 0, none⟩ = false := (World.frozen?_of_block (a := ⟨w0.heap.size + 1, 0, none⟩) ((hfar (w0.heap.size + 1) (by omega)).trans (Hbd.out.block _ (by omega) (by omega)))).trans (Lib.frozen_of_heap Hbl.out 0)
      have hat2 : (Value.slice V n C).ownBlock = some gp ∨ gp = w1.heap.size + 1 := by
        rcases hat with h | h
        · exact Or.inl h
        · exact Or.inr (by rw [h]; simp)
      have Hend := Lib.hid (partsF_end (d := d) (c := c) (k := pk) (a := pa) (t := pt) (o := po) (n := pn) (s := ps) hg Hbp.out Hbl.out Hown.out Hpr.out Hbut.out Hp1.out Hbd.out Hk.out (by rw [← Hn.out]; exact hown2) (by rw [← Hn.out]; exact hgrow) (by rw [← Hn.out]; exact hat2))
      clear hown2 hgrow hat hat2 hlt hfar
      refine hK.out _ _ ?_ (fun hHeld => ?_)
      · ((try dsimp only); first | assumption | exact b0 | exact b1 | exact bA | exact b2 | exact (World.cell?_setCell_other _ _ _ _ (by simp)).trans b2 | (simp [*]; done))
      clear hK K
      try simp only [Act.put, List.setIfInBounds_toArray, List.set_cons_zero, List.set_cons_succ]
      refine wpAnyH_ready (rs := [5]) (by kernel_rfl) (by simp) ?_
      refine AllReadyH.cons rfl (fun K hK => ?_) (AllReadyH.nil)
      go_simp
      refine hK.out _ _ ?_ (fun hHeld => ?_)
      · ((try dsimp only); first | assumption | exact b0 | exact b1 | exact bA | exact b2 | exact (World.cell?_setCell_other _ _ _ _ (by simp)).trans b2 | (simp [*]; done))
      clear hK K
      try simp only [Act.put, List.setIfInBounds_toArray, List.set_cons_zero, List.set_cons_succ]
      refine wpAnyH_done (by kernel_rfl) ?_ _
      go_wp2
      go_end0
      rw [Hxe.out]
      have hE := Hend.out
      rw [← Hn.out] at hE
      exact ⟨rfl, hE⟩
    · go_simp
      refine hK.out _ _ ?_ (fun hHeld => ?_)
      · ((try dsimp only); first | assumption | exact b0 | exact b1 | exact bA | exact b2 | exact (World.cell?_setCell_other _ _ _ _ (by simp)).trans b2 | (simp [*]; done))
      clear hK K
      try simp only [Act.put, List.setIfInBounds_toArray, List.set_cons_zero, List.set_cons_succ]
      refine wpAnyH_ready (rs := [0]) (by kernel_rfl) (by simp) ?_
      refine AllReadyH.cons rfl (fun K hK => ?_) (AllReadyH.nil)
      go_simp
      refine hK.out _ _ ?_ (fun hHeld => ?_)
      · ((try dsimp only); first | assumption | exact b0 | exact b1 | exact bA | exact b2 | exact (World.cell?_setCell_other _ _ _ _ (by simp)).trans b2 | (simp [*]; done))
      clear hK K
      try simp only [Act.put, List.setIfInBounds_toArray, List.set_cons_zero, List.set_cons_succ]
      refine wpAnyH_ready (rs := [4]) (by kernel_rfl) (by simp) ?_
      refine AllReadyH.cons rfl (fun K hK => ?_) (AllReadyH.nil)
      refine step_append_lies _ rfl (.tmp 2) (.tmp 5) 133 rfl (w0.heap.size + 2) 124 i0 (.agg #[.int .i64 0, .int .i64 0, .int .i64 0, .int .i64 0, .int .i64 0, .string ⟨#[]⟩, .slice none 0 0, .int .i64 0]) 8 88 Tryz.underlying133 Hi.out Hz0.out Hz1.out Hz2.out rfl (by decide) (.slice V n C) n xs (by simp [Act.eval, Act.put]) (by rw [Hn.out]; exact HOW.out) ⟨w1.heap.size, 0, none⟩ 1 1 [.int .i64 pk, .int .i64 pa, .int .i64 pt, .int .i64 po, .int .i64 pn, .string ps, .slice PK kids.length (kids.length + c), .int .i64 d] (by simp [Act.eval, Act.put]) rfl HNW.out HOC.out (by decide) (by unfold maxLen; omega) (by omega) hsz _ rfl ?_
      intro gp cp2 w2 hown2 hgrow hat hlt
      have hfar : ∀ k, k < w0.heap.size + 2 → w2.heap[k]? = w1.heap[k]? := fun k hk => (hgrow.block k (Nat.lt_of_lt_of_le (by omega) hsz) (fun e => by have := (HOW.out.lt k (by rw [← Hn.out]; exact e.symm)).1; omega)).trans (Below.heap_alloc _ _ _ (by omega))
      have b2 := (World.cell?_of_block (a := ⟨w0.heap.size, 0, none⟩) (hfar w0.heap.size (by omega))).trans b1
      have l2 := (World.cell?_of_block (a := ⟨w0.heap.size + 1, 0, none⟩) (hfar (w0.heap.size + 1) (by omega))).trans l1
      have lf2 : w2.frozen? ⟨w0.heap.size + 1, 0, none⟩ = false := (World.frozen?_of_block (a := ⟨w0.heap.size + 1, 0, none⟩) ((hfar (w0.heap.size + 1) (by omega)).trans (Hbd.out.block _ (by omega) (by omega)))).trans (Lib.frozen_of_heap Hbl.out 0)
      have hat2 : (Value.slice V n C).ownBlock = some gp ∨ gp = w1.heap.size + 1 := by
        rcases hat with h | h
        · exact Or.inl h
        · exact Or.inr (by rw [h]; simp)
      have Hend := Lib.hid (partsF_end (d := d) (c := c) (k := pk) (a := pa) (t := pt) (o := po) (n := pn) (s := ps) hg Hbp.out Hbl.out Hown.out Hpr.out Hbut.out Hp1.out Hbd.out Hk.out (by rw [← Hn.out]; exact hown2) (by rw [← Hn.out]; exact hgrow) (by rw [← Hn.out]; exact hat2))
      clear hown2 hgrow hat hat2 hlt hfar
      refine hK.out _ _ ?_ (fun hHeld => ?_)
      · ((try dsimp only); first | assumption | exact b0 | exact b1 | exact bA | exact b2 | exact (World.cell?_setCell_other _ _ _ _ (by simp)).trans b2 | (simp [*]; done))
      clear hK K
      try simp only [Act.put, List.setIfInBounds_toArray, List.set_cons_zero, List.set_cons_succ]
      refine wpAnyH_ready (rs := [5]) (by kernel_rfl) (by simp) ?_
      refine AllReadyH.cons rfl (fun K hK => ?_) (AllReadyH.nil)
      go_simp
      refine hK.out _ _ ?_ (fun hHeld => ?_)
      · ((try dsimp only); first | assumption | exact b0 | exact b1 | exact bA | exact b2 | exact (World.cell?_setCell_other _ _ _ _ (by simp)).trans b2 | (simp [*]; done))
      clear hK K
      try simp only [Act.put, List.setIfInBounds_toArray, List.set_cons_zero, List.set_cons_succ]
      refine wpAnyH_done (by kernel_rfl) ?_ _
      go_wp2
      go_end0
      rw [Hxe.out]
      have hE := Hend.out
      rw [← Hn.out] at hE
      exact ⟨rfl, hE⟩
end Go.Proofs.YtiadbeglhnocoaaGreatDoor
namespace Go.Proofs.YtiadbeglhnocoaaGreatDoor
set_option linter.unusedVariables false
set_option linter.unusedSimpArgs false
open Go.RowKit

theorem Ok.less {k j : Nat} {s : PS} (h : Ok k s) (hj : j ≤ k) : Ok j s := by
  unfold Ok at *
  omega
theorem Ok.even {k : Nat} {s s' : PS} (h : Ok k s) (he : Even s s') : Ok k s' := by
  unfold Ok at *
  rw [he.1, he.2]
  exact h
/-- Within brackets. -/
theorem Ok.enter {k : Nat} {s : PS} (h : Ok (k + 1) s) : Ok k s.enter := by
  have h1 := enter_nest s
  unfold Ok at *
  rw [h1.1, h1.2]
  omega
theorem many_rounds (K : Nat) : ∀ (k : Nat) (l : List Part) (s : PS) (r : List Part × PS), k ≤ K + 1 → Ok k s → l.length + k ≤ 33554432 → manyK k l s = some r → Rounds (StepP K) k l s r.1 r.2
  | 0, l, s, r, _, _, _, h => by simp [manyK] at h
  | k + 1, l, s, r, hk, hok, hl, h => by
    simp only [manyK] at h
    cases hx : exprK k s with
    | none => rw [hx] at h; cases h
    | some q =>
      rw [hx] at h
      obtain ⟨x, s1⟩ := q
      have hev := ((pure_all k).expr _ _ hx).1
      simp only at h hev
      refine ⟨l ++ [x], s1, ⟨k, x, by omega, hx, rfl, hok.less (by omega), by omega⟩, ?_⟩
      split at h
      · rename_i hb
        exact Or.inr ⟨hb, many_rounds K k (l ++ [x]) s1.next r (by omega) ((hok.less (by omega)).even (hev.trans (even_next s1))) (by simp; omega) h⟩
      · rename_i hb
        simp only [Option.some.injEq] at h
        subst h
        exact Or.inl ⟨by simpa using hb, rfl, rfl⟩
/-- What a list of parts comes to. -/
def PartsPost (g : Nat) (w : World) (r : List Part × PS) (e : Ending) (w' : World) : Prop := ∃ A cap, e = .returned (.slice A r.1.length cap) ∧ r.1.length ≤ cap ∧ cap ≤ maxLen ∧ RdPs w' (From w.heap.size w') A r.1 ∧ PAt w' g r.2 ∧ But g w w'
theorem jp_read {g : Nat} {w0 w : World} {l : List Part} (h : JP g w0 l w) : ∃ A cap, w.cell? ⟨w0.heap.size + 1, 0, none⟩ = some (.slice A l.length cap) ∧ l.length ≤ cap ∧ cap ≤ maxLen ∧ RdPs w (From w0.heap.size w) A l ∧ But g w0 w := by
  obtain ⟨v, xs, h1, h2, h3, h4, h5⟩ := h
  obtain ⟨A, cap, rfl⟩ := own_form h3
  have hc : l.length ≤ cap ∧ cap ≤ maxLen := by
    rcases h3.2 with ⟨hv, h0⟩ | ⟨b, c, cur, hv, _, _, hnc, hcm, _⟩
    · injection hv with e1 e2 e3
      rw [h0, e3]
      exact ⟨Nat.le_refl _, by unfold maxLen; omega⟩
    · injection hv with e1 e2 e3
      rw [e3]
      exact ⟨hnc, hcm⟩
  refine ⟨A, cap, by rw [Lib.cell_of_heap h2]; rfl, hc.1, hc.2, fun hl => ?_, h5⟩
  obtain ⟨b, c, hv, hb, hbl⟩ := h3.form hl
  injection hv with e1 e2 e3
  subst e1
  refine ⟨b, 0, rfl, ⟨by omega, hbl⟩, fun i p hp => ?_⟩
  have h6 := (h4 i p hp).more (S' := From w0.heap.size w) (fun q hq => ⟨by have := hq.1; omega, hq.2.1⟩)
  have hi : i < l.length := (List.getElem?_eq_some_iff.mp hp).1
  refine h6.cells (fun j hj => ?_)
  rw [Nat.zero_add]
  exact h3.cellAt (i * 8 + j) (by omega)
set_option maxRecDepth 100000 in
set_option maxHeartbeats 8000000 in
theorem parts_any (k : Nat) (HE : ∀ j, j < k → ExC j) (g : Nat) (o e : List UInt8) (s : PS) (r : List Part × PS) (w : World) (hr : partsK (k + 1) o e s = some r) (hok : Ok (k + 1) s) (h : PAt w g s) :
    Calls Tryz.prog 111 #[.pointer (some ⟨g, 0, none⟩), .string ⟨o.toArray⟩, .string ⟨e.toArray⟩] w (PartsPost g w r) := by
  have hgl := h.lt
  obtain ⟨W, hW, hbW, hzW, hbE, hbR⟩ := two_al w #[.pointer (some ⟨g, 0, none⟩)] #[.slice none 0 0] 59 133
  have hJ0 : JP g w [] W := ⟨.slice none 0 0, [], hbE, hbR, World.ownsRow_nil _ _ _ _, fun i p hp => by simp at hp, But.of_below hbW⟩
  have hP := h.keep hbW
  have hF : ∀ W, (callFunc 118 #[.pointer (some ⟨w.heap.size + 1, 0, none⟩), .pointer (some ⟨w.heap.size, 0, none⟩)]).run Tryz.prog W = .ok (.enter 118 #[.pointer (some ⟨w.heap.size + 1, 0, none⟩), .pointer (some ⟨w.heap.size, 0, none⟩)]) W := fun _ => by kernel_rfl
  have hL : Calls Tryz.prog 40 #[.pointer (some ⟨g, 0, none⟩), .string ⟨o.toArray⟩, .string ⟨e.toArray⟩, .func (.func 118) #[] #[.pointer (some ⟨w.heap.size + 1, 0, none⟩), .pointer (some ⟨w.heap.size, 0, none⟩)]] W fun x w' => x = .returned (.tuple #[]) ∧ PAt w' g r.2 ∧ JP g w r.1 w' := by
    have hJ : ∀ a w1 w2, JP g w a w1 → But g w1 w2 → JP g w a w2 := fun a w1 w2 hj hb => hj.but hb hgl
    simp only [partsK] at hr
    have hok2 := hok
    unfold Ok at hok2
    split at hr
    · rename_i hB
      simp only [Option.some.injEq] at hr
      subst hr
      exact list_none g (JP g w) 118 _ s o e [] W hP (by omega) (by omega) hJ hB hJ0
    · rename_i hB
      cases hm : manyK k [] (s.need1 o).enter with
      | none => rw [hm] at hr; cases hr
      | some q =>
        rw [hm] at hr
        obtain ⟨l, s2⟩ := q
        simp only [Option.some.injEq] at hr
        subst hr
        have hoke : Ok k (s.need1 o).enter := (hok.even (even_need1 s o)).enter
        have hev := ((pure_all k).many (mostD k) [] _ _ (Int.le_refl _) (fun p hp => by simp at hp) hm).1
        cases k with
        | zero => simp [manyK] at hm
        | succ k =>
          have hro := many_rounds k (k + 1) [] _ _ (by omega) hoke (by simp; omega) hm
          exact list_some (StepP k) g (JP g w) 118 _ s o e (k + 1) [] l s2 W hP (by omega) (by omega) hev hF hJ (fun a s b s1 w1 hs hp hj => partsF_any k (fun j hj => HE j (by omega)) g w hgl a s b s1 w1 hs hp hj) (by simpa using hB) hro hJ0
  have hmf : ∀ (fn : Fn) (first cap : Array Value) (w : World), (Instr.makeFunc fn first cap).run Tryz.prog w = .ok (.func fn first cap) w := fun _ _ _ _ => rfl
  have b0 : W.cell? ⟨w.heap.size, 0, none⟩ = some (.pointer (some ⟨g, 0, none⟩)) := by rw [Lib.cell_of_heap hbE]; rfl
  rw [hW] at hL b0
  clear hF hJ0 hP hW hbW hbE hbR hzW hok hr HE h
  go_enter Tryz.func111, Tryz.ntmps111
  go_wp2_with (go_at_call 40; refine hL.mono ?_; rintro x w1 ⟨rfl, hp, hj⟩; obtain ⟨A, cap, l0, hc1, hc2, hrd, hbut⟩ := jp_read hj; have Hp := Lib.hid hp; have Hrd := Lib.hid hrd; have Hbut := Lib.hid hbut; have Hc1 := Lib.hid hc1; have Hc2 := Lib.hid hc2; clear hp hj hrd hbut hc1 hc2)
  go_ret
  exact ⟨A, cap, rfl, Hc1.out, Hc2.out, Hrd.out, Hp.out, Hbut.out⟩
end Go.Proofs.YtiadbeglhnocoaaGreatDoor
