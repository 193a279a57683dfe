/-
  The law's Graph, walked.
-/
import Derived.Test.YtoplllebaagnnaaJd4
namespace Go.Proofs.Ytoplllebaagnnaa
set_option linter.unusedVariables false
set_option linter.unusedSimpArgs false
open Go.RowKit

theorem gr_setoff {w : World} {b j : Nat} {u : Value} {p : Addr} (h : p.block ≠ b) : (w.setCell ⟨b, j, none⟩ u).cell? p = w.cell? p := World.cell?_setCell_other _ _ _ _ (fun e => h (by rw [← e]))
theorem infoBlockG : (Try.prog.info? 47).map (fun i => (i.zero, i.size, i.bytes)) = some (some (.agg #[.slice none 0 0, .slice none 0 0, .int .i64 0, .int .i64 0, .slice none 0 0]), 5, 88) := by kernel_rfl
def GD.sig (d : GD) : Int × Int × List Int := (d.kind, d.arg, d.to_)
def newG (tv : Value) (e : Int × Int × List Int) : GD := { pv := .slice none 0 0, tv := tv, preds := [], kind := e.1, arg := e.2.1, to_ := e.2.2 }
/-- So many blocks are made. -/
structure GOne (base E : Nat) (w0 w : World) (l : List (Int × Int)) (whole : Bool) (i : Nat) (BV : Value) (ds : List GD) : Prop where
  made : GMk base E w0 w BV ds
  len : ds.length = i
  sig : ds.map GD.sig = (endsG l whole).take i
  none_ : ∀ d ∈ ds, d.preds = []
theorem endsG_len (l : List (Int × Int)) (whole : Bool) : (endsG l whole).length = min l.length 14 := by simp [endsG]; omega
theorem endsG_at (l : List (Int × Int)) (whole : Bool) (i : Nat) (hi : i < min l.length 14) (hl : i < l.length) : (endsG l whole)[i]? = some (endG (min l.length 14) whole l[i]) := by
  unfold endsG
  rw [List.getElem?_map, List.getElem?_take, if_pos (by omega), List.getElem?_eq_getElem hl]
  rfl
theorem GOne.next {base E : Nat} {w0 w w3 : World} {l : List (Int × Int)} {whole : Bool} {i : Nat} {BV BV' tv : Value} {ds : List GD} (h : GOne base E w0 w l whole i BV ds) (hi : i < min l.length 14) (hl : i < l.length)
    (hm : GMk base E w0 w3 BV' (ds ++ [newG tv (endG (min l.length 14) whole l[i])])) : GOne base E w0 w3 l whole (i + 1) BV' (ds ++ [newG tv (endG (min l.length 14) whole l[i])]) :=
  ⟨hm, by simp [h.len], by
    have h2 : i < (endsG l whole).length := by rw [endsG_len]; exact hi
    rw [List.map_append, h.sig, List.take_succ_eq_append_getElem h2]
    congr 1
    have := endsG_at l whole i hi hl
    rw [List.getElem?_eq_getElem h2] at this
    injection this with this
    rw [this]
    rfl, fun d hd => by
      rcases List.mem_append.1 hd with hd | hd
      · exact h.none_ d hd
      · simp at hd; rw [hd]; rfl⟩
theorem term_store {X : World} {t : Nat} {p q r : Value} (h : X.heap[t]? = some (.cells #[p, q, r] 45 (0, 0))) (xs : Array Value) (a b c : Value) :
    ∃ V, V = (((X.alloc (.cells xs 3)).setCell ⟨t, 0, none⟩ a).setCell ⟨t, 1, none⟩ b).setCell ⟨t, 2, none⟩ c ∧ Below t X V ∧ V.heap.size = X.heap.size + 1 ∧ V.heap[t]? = some (.cells #[a, b, c] 45 (0, 0)) ∧ V.heap[X.heap.size]? = some (.cells xs 3 (0, 0)) := by
  have ht := gr_in h
  obtain ⟨Y, hY, hbY, hzY, h0Y⟩ := gr_one X xs 3
  have h1 := (hbY.block t ht).trans h
  rw [← hY]
  have s1 := gr_put h1 0 a
  have s2 := gr_put s1 1 b
  have s3 := gr_put s2 2 c
  refine ⟨_, rfl, (((hbY.mono (Nat.le_of_lt ht)).setCell (p := ⟨t, 0, none⟩) (Nat.le_refl _) a).setCell (p := ⟨t, 1, none⟩) (Nat.le_refl _) b).setCell (p := ⟨t, 2, none⟩) (Nat.le_refl _) c, by simp [World.setCell, hzY], s3, ?_⟩
  exact (Below.heap_setCell _ _ _ _ (by show X.heap.size ≠ t; omega)).trans ((Below.heap_setCell _ _ _ _ (by show X.heap.size ≠ t; omega)).trans ((Below.heap_setCell _ _ _ _ (by show X.heap.size ≠ t; omega)).trans h0Y))
theorem set_same {w : World} {b j : Nat} {cs : Array Value} {T : TypeId} {fr : Nat × Nat} {v : Value} (h : w.heap[b]? = some (.cells cs T fr)) (hv : cs[j]? = some v) : w.setCell ⟨b, j, none⟩ v = w := by
  have hc : cs.setIfInBounds j v = cs := by
    apply Array.ext_getElem?
    intro i
    rw [Array.getElem?_setIfInBounds]
    by_cases e : j = i
    · subst e
      rw [if_pos rfl, hv]
      have := (Array.getElem?_eq_some_iff.1 hv).1
      rw [if_pos this]
    · rw [if_neg e]
  have hh : (w.setCell ⟨b, j, none⟩ v).heap = w.heap := by
    apply Array.ext_getElem?
    intro i
    by_cases e : i = b
    · subst e
      rw [gr_put h j v, hc, h]
    · exact Below.heap_setCell _ _ _ _ e
  have : w.setCell ⟨b, j, none⟩ v = { w with heap := (w.setCell ⟨b, j, none⟩ v).heap } := rfl
  rw [this, hh]
theorem five_same {w : World} {b : Nat} {x0 x1 x2 x3 x4 : Value} {T : TypeId} (h : w.heap[b]? = some (.cells #[x0, x1, x2, x3, x4] T (0, 0))) : ((((w.setCell ⟨b, 0, none⟩ x0).setCell ⟨b, 1, none⟩ x1).setCell ⟨b, 2, none⟩ x2).setCell ⟨b, 3, none⟩ x3).setCell ⟨b, 4, none⟩ x4 = w := by
  rw [set_same (j := 0) (v := x0) h rfl, set_same (j := 1) (v := x1) h rfl, set_same (j := 2) (v := x2) h rfl, set_same (j := 3) (v := x3) h rfl, set_same (j := 4) (v := x4) h rfl]
def GD.gb (d : GD) : GB := { list := .slice none 0 0, preds := d.preds, kind := d.kind, arg := d.arg, to_ := d.to_ }
theorem mkG_of {es : List (Int × Int × List Int)} {E : List (Nat × Int)} {ds : List GD} (hs : ds.map GD.sig = es) (hp : ∀ j d, ds[j]? = some d → d.preds = predsG E j) : ds.map GD.gb = mkG es E := by
  subst hs
  unfold mkG
  apply List.ext_getElem?
  intro j
  rw [List.getElem?_map, List.getElem?_mapIdx, List.getElem?_map]
  cases hd : ds[j]? with
  | none => rfl
  | some d =>
    simp only [Option.map_some]
    rw [← hp j d hd]
    rfl
theorem GMk.blocks {base E : Nat} {w0 w : World} {A : Option Addr} {n c : Nat} {ds : List GD} (h : GMk base E w0 w (.slice A n c) ds) (hn : n = ds.length) (hl : ds.length ≤ 1048576) (hok : ∀ d ∈ ds, d.gb.ok) : GBs w.heap.size w (.slice A n c) (ds.map GD.gb) := by
  have ho := h.fam.own 0
  rw [famG_zero] at ho
  refine ⟨A, c, by simp [hn], by simpa using hl, fun d hd => ?_, fun hp => ?_⟩
  · obtain ⟨d', hd', rfl⟩ := List.mem_map.1 hd
    exact hok d' hd'
  · rw [List.length_map] at hp
    subst hn
    obtain ⟨g, hg, -, -, hgl⟩ := gr_some ho hp
    subst hg
    refine ⟨g, 0, rfl, hgl, fun j d hd => ?_⟩
    rw [List.getElem?_map] at hd
    obtain ⟨e, he, rfl⟩ := Option.map_eq_some_iff.1 hd
    have hj : j < ds.length := (List.getElem?_eq_some_iff.1 he).1
    have k : ∀ q, q < 5 → w.cell? ⟨g, 0 + j * 5 + q, none⟩ = e.cells[q]? := fun q hq => by
      rw [Nat.zero_add, ho.cellAt (j * 5 + q) (by show _ < ds.length * 5; omega)]
      exact blocksG_at ds j q e he hq
    have hT := h.fam.own (2 * j + 1)
    have hP := h.fam.own (2 * j + 2)
    rw [famG_t _ _ _ _ he] at hT
    rw [famG_p _ _ _ _ he] at hP
    exact ⟨e.pv, e.tv, k 0 (by omega), k 1 (by omega), k 2 (by omega), k 3 (by omega), k 4 (by omega), GNs.of_own hP, GNs.of_own hT, none, 0, 0, rfl⟩
theorem endG_ok {n : Nat} {whole : Bool} {x : Int × Int} (hn : 0 < n) (hn2 : n ≤ 14) (hx : InG x.1 ∧ InG x.2) : (endG n whole x).2.2.length ≤ 2 ∧ (∀ t ∈ (endG n whole x).2.2, InG t) ∧ (whole = true → ∀ t ∈ (endG n whole x).2.2, 0 ≤ t ∧ t < n) := by
  have na := normG_in n x.1 (by omega)
  have nb := normG_in n x.2 (by omega)
  cases whole with
  | false =>
    unfold endG
    simp only [Bool.false_eq_true, if_false, and_false]
    by_cases h2 : x.1 = x.2
    · rw [if_pos h2]
      exact ⟨by simp, by simpa using hx.1, fun h => by simp at h⟩
    · rw [if_neg h2]
      exact ⟨by simp, by simpa using hx, fun h => by simp at h⟩
  | true =>
    unfold endG
    simp only [if_true]
    by_cases h1 : x.1 = -1 ∧ True
    · rw [if_pos h1]
      exact ⟨by simp, by simp, by simp⟩
    · rw [if_neg h1]
      by_cases h2 : normG n x.1 = normG n x.2
      · rw [if_pos h2]
        exact ⟨by simp, fun t ht => by simp at ht; subst ht; unfold InG; omega, fun _ t ht => by simp at ht; subst ht; exact na⟩
      · rw [if_neg h2]
        exact ⟨by simp, fun t ht => by simp at ht; unfold InG; rcases ht with rfl | rfl <;> omega, fun _ t ht => by simp at ht; rcases ht with rfl | rfl <;> assumption⟩
theorem endsG_ok {l : List (Int × Int)} {whole : Bool} (hin : ∀ x ∈ l, InG x.1 ∧ InG x.2) : ∀ e ∈ endsG l whole, e.2.2.length ≤ 2 ∧ (∀ t ∈ e.2.2, InG t) ∧ (whole = true → ∀ t ∈ e.2.2, 0 ≤ t ∧ t < (min l.length 14 : Nat)) := by
  intro e he
  obtain ⟨x, hx, rfl⟩ := List.mem_map.1 he
  have hl : 0 < l.length := List.length_pos_of_mem (List.mem_of_mem_take hx)
  exact endG_ok (by omega) (by omega) (hin x (List.mem_of_mem_take hx))
theorem ends_ok {l : List (Int × Int)} {whole : Bool} {ds : List GD} (hs : ds.map GD.sig = endsG l whole) (hin : ∀ x ∈ l, InG x.1 ∧ InG x.2) : ∀ d ∈ ds, d.to_.length ≤ 2 ∧ (∀ t ∈ d.to_, InG t) ∧ (whole = true → ∀ t ∈ d.to_, 0 ≤ t ∧ t < (min l.length 14 : Nat)) := fun d hd => by
  have : d.sig ∈ endsG l whole := by rw [← hs]; exact List.mem_map_of_mem hd
  exact endsG_ok hin _ this
theorem GMk.end_ {base E : Nat} {w0 w : World} {A : Option Addr} {n c : Nat} {l : List (Int × Int)} {whole : Bool} {E2 : List (Nat × Int)} {ds : List GD} (h : GMk base E w0 w (.slice A n c) ds) (hlen : ds.length = n) (hn : n ≤ 14) (hsig : ds.map GD.sig = endsG l whole) (hin : ∀ x ∈ l, InG x.1 ∧ InG x.2)
    (hp : ∀ j d, ds[j]? = some d → d.preds = predsG E2 j) (hE : E2.length ≤ 1000) (hE2 : ∀ e ∈ E2, e.1 < 1000) (hg : graphP l whole = mkG (endsG l whole) E2) : GF w.heap.size w (.agg #[.string ⟨#[]⟩, .slice none 0 0, .int .i64 0, .slice none 0 0, .slice A n c]) (graphP l whole) := by
  have hgb := mkG_of hsig hp
  have hok := ends_ok hsig hin
  refine ⟨⟨#[]⟩, none, 0, 0, 0, none, 0, 0, A, n, c, rfl, ?_, ?_⟩
  · rw [hg, ← hgb]
    refine h.blocks hlen.symm (by omega) (fun d hd => ?_)
    obtain ⟨h1, h2, -⟩ := hok d hd
    obtain ⟨j, hj, hdj⟩ := List.getElem_of_mem hd
    have hpd := hp j d (by rw [List.getElem?_eq_getElem hj, hdj])
    refine ⟨?_, ?_, by show d.to_.length ≤ _; omega, h2⟩
    · show d.preds.length ≤ _
      rw [hpd]
      unfold predsG
      rw [List.length_map]
      have := List.length_filter_le (fun e : Nat × Int => e.2 == (j : Int)) E2
      omega
    · show ∀ x ∈ d.preds, InG x
      rw [hpd]
      intro x hx
      unfold predsG at hx
      obtain ⟨e, he, rfl⟩ := List.mem_map.1 hx
      have := hE2 e (List.mem_filter.1 he).1
      unfold InG
      omega
  · rw [hg, ← hgb, List.length_map, hlen]
/-- Which edges are entered, with k of block i. -/
def edgesTo (tos : List (List Int)) (i k : Nat) : List (Nat × Int) := edgesG 0 (tos.take i) ++ (((tos[i]?).getD []).take k).map fun x => (i, x)
theorem edgesTo_step {tos : List (List Int)} {i k : Nat} {ts : List Int} {x : Int} (h : tos[i]? = some ts) (hx : ts[k]? = some x) : edgesTo tos i (k + 1) = edgesTo tos i k ++ [(i, x)] := by
  unfold edgesTo
  obtain ⟨hk, rfl⟩ := List.getElem?_eq_some_iff.1 hx
  rw [h, Option.getD_some, List.take_succ_eq_append_getElem hk, List.map_append, List.append_assoc]
  rfl
theorem edgesTo_next {tos : List (List Int)} {i : Nat} {ts : List Int} (h : tos[i]? = some ts) : edgesTo tos i ts.length = edgesTo tos (i + 1) 0 := by
  unfold edgesTo
  obtain ⟨hi, rfl⟩ := List.getElem?_eq_some_iff.1 h
  rw [h, Option.getD_some, List.take_length, List.take_succ_eq_append_getElem hi, edgesG_app]
  simp [edgesG]
  omega
theorem edgesTo_end (tos : List (List Int)) : edgesTo tos tos.length 0 = edgesG 0 tos := by
  unfold edgesTo
  simp
theorem edgesG_len : ∀ (ts : List (List Int)) (i : Nat), (∀ t ∈ ts, t.length ≤ 2) → (edgesG i ts).length ≤ 2 * ts.length
  | [], _, _ => by simp [edgesG]
  | t :: ts, i, h => by
    have h1 := edgesG_len ts (i + 1) (fun x hx => h x (List.mem_cons_of_mem _ hx))
    have h2 := h t (by simp)
    simp [edgesG]
    omega
theorem edgesTo_len {tos : List (List Int)} {i k : Nat} (h : ∀ t ∈ tos, t.length ≤ 2) (hi : i ≤ 14) : (edgesTo tos i k).length ≤ 30 := by
  unfold edgesTo
  have h1 := edgesG_len (tos.take i) 0 (fun t ht => h t (List.mem_of_mem_take ht))
  have h2 : ((tos[i]?).getD []).length ≤ 2 := by
    cases ht : tos[i]? with
    | none => simp
    | some t => exact h t (List.mem_of_getElem? ht)
  simp at h1 ⊢
  omega
theorem edgesG_lt : ∀ (ts : List (List Int)) (i : Nat), ∀ e ∈ edgesG i ts, e.1 < i + ts.length
  | [], _, e, he => by simp [edgesG] at he
  | t :: ts, i, e, he => by
    simp only [edgesG, List.mem_append, List.mem_map] at he
    rcases he with ⟨x, _, rfl⟩ | he
    · simp
    · have := edgesG_lt ts (i + 1) e he
      simp; omega
def tosL (l : List (Int × Int)) : List (List Int) := (endsG l true).map fun e => e.2.2
/-- The second loop: k ends of block i are entered. -/
structure GTwo (base E : Nat) (w0 w : World) (l : List (Int × Int)) (i k : Nat) (BV : Value) (ds : List GD) : Prop where
  made : GMk base E w0 w BV ds
  sig : ds.map GD.sig = endsG l true
  prd : ∀ j d, ds[j]? = some d → d.preds = predsG (edgesTo (tosL l) i k) j
theorem GTwo.len {base E : Nat} {w0 w : World} {l : List (Int × Int)} {i k : Nat} {BV : Value} {ds : List GD} (h : GTwo base E w0 w l i k BV ds) : ds.length = min l.length 14 := by
  have := congrArg List.length h.sig
  rw [List.length_map, endsG_len] at this
  exact this
theorem GTwo.to_ {base E : Nat} {w0 w : World} {l : List (Int × Int)} {i k j : Nat} {BV : Value} {ds : List GD} {d : GD} (h : GTwo base E w0 w l i k BV ds) (hd : ds[j]? = some d) : (tosL l)[j]? = some d.to_ := by
  unfold tosL
  rw [← h.sig, List.map_map, List.getElem?_map, hd]
  rfl
theorem GTwo.step {base E : Nat} {w0 w w2 : World} {l : List (Int × Int)} {i k t gb n c g c2 m : Nat} {ds : List GD} {d e : GD} (h : GTwo base E w0 w l i k (.slice (some ⟨gb, 0, none⟩) n c) ds) (hd : ds[i]? = some d) (hx : d.to_[k]? = some (t : Int)) (he : ds[t]? = some e)
    (hg : w.grownBy w2 e.pv.ownBlock) (ho : w2.ownsRow base 3 1 (.slice (some ⟨g, 0, none⟩) m c2) m (intsV e.preds ++ [.int .i64 (i : Int)])) (hm : m = e.preds.length + 1) (hat : e.pv.ownBlock = some g ∨ w.heap.size ≤ g) :
    GTwo base E w0 (w2.setCell ⟨gb, t * 5 + 1, none⟩ (.slice (some ⟨g, 0, none⟩) m c2)) l i (k + 1) (.slice (some ⟨gb, 0, none⟩) n c) (ds.set t { e with pv := .slice (some ⟨g, 0, none⟩) m c2, preds := e.preds ++ [(i : Int)] }) := by
  refine ⟨h.made.pred he hg ho hm hat, ?_, fun j f hf => ?_⟩
  · rw [← h.sig]
    apply List.ext_getElem?
    intro j
    rw [List.getElem?_map, List.getElem?_map]
    by_cases hj : t = j
    · subst hj
      rw [List.getElem?_set_self (List.getElem?_eq_some_iff.1 he).1, he]
      rfl
    · rw [List.getElem?_set_ne hj]
  · rw [edgesTo_step (h.to_ hd) hx, predsG_app]
    by_cases hj : t = j
    · subst hj
      rw [List.getElem?_set_self (List.getElem?_eq_some_iff.1 he).1] at hf
      injection hf with hf
      rw [← hf, if_pos rfl, ← h.prd t e he]
    · rw [List.getElem?_set_ne hj] at hf
      rw [if_neg (by omega)]
      exact h.prd j f hf
theorem GTwo.next {base E : Nat} {w0 w : World} {l : List (Int × Int)} {i : Nat} {BV : Value} {ds : List GD} {d : GD} (h : GTwo base E w0 w l i d.to_.length BV ds) (hd : ds[i]? = some d) : GTwo base E w0 w l (i + 1) 0 BV ds :=
  ⟨h.made, h.sig, fun j e he => by rw [← edgesTo_next (h.to_ hd)]; exact h.prd j e he⟩
theorem GTwo.keep {base E : Nat} {w0 w w' : World} {l : List (Int × Int)} {i k : Nat} {BV : Value} {ds : List GD} (h : GTwo base E w0 w l i k BV ds) (hb : Below w.heap.size w w') : GTwo base E w0 w' l i k BV ds := ⟨h.made.keep hb, h.sig, h.prd⟩
theorem GTwo.few {base E : Nat} {w0 w : World} {l : List (Int × Int)} {i k j : Nat} {BV : Value} {ds : List GD} {d : GD} (h : GTwo base E w0 w l i k BV ds) (hin : ∀ x ∈ l, InG x.1 ∧ InG x.2) (hi : i ≤ 14) (hd : ds[j]? = some d) : d.preds.length ≤ 30 := by
  rw [h.prd j d hd]
  unfold predsG
  rw [List.length_map]
  have h1 := List.length_filter_le (fun e : Nat × Int => e.2 == (j : Int)) (edgesTo (tosL l) i k)
  have h2 := edgesTo_len (tos := tosL l) (k := k) (fun t ht => by
    obtain ⟨e, he, rfl⟩ := List.mem_map.1 ht
    exact (endsG_ok hin e he).1) hi
  omega
theorem eqb_ne {a b : Int} (h : a ≠ b) : (a == b) = false := beq_eq_false_iff_ne.2 h
set_option maxRecDepth 100000 in
set_option maxHeartbeats 16000000 in
theorem graph_false (n0 : Nat) (v : Value) (l : List (Int × Int)) (w : World) (hv : GPr n0 w v l) (hn : n0 ≤ w.heap.size) (hl : l.length ≤ 9223372036854775807) (hin : ∀ x ∈ l, InG x.1 ∧ InG x.2) :
    Calls Try.prog 9 #[v, .bool false] w fun e w' => ∃ f, e = .returned f ∧ GF w'.heap.size w' f (graphP l false) ∧ Below w.heap.size w w' := by
  obtain ⟨A, c, rfl, hr⟩ := id hv
  obtain ⟨m, hml⟩ : ∃ m, m = l.length := ⟨_, rfl⟩
  obtain ⟨n, hnn⟩ : ∃ n, n = min l.length 14 := ⟨_, rfl⟩
  have hmin : min (m : Int) 14 = (n : Int) := by omega
  have hn14 : n ≤ 14 := by omega
  have hnm : n ≤ m := by omega
  rw [← hml] at hv hl ⊢
  obtain ⟨W, hW, hbW, hzW, h0W⟩ := gr_one w #[.string ⟨#[]⟩, .slice none 0 0, .int .i64 0, .slice none 0 0, .slice none 0 0] 27
  have hM0 : GOne (w.heap.size + 1) w.heap.size W W l false 0 (.slice none 0 0) [] := ⟨⟨h0W, ⟨by omega, fun k => by cases k <;> simp [famG, rowNo, Value.ownBlock], fun k => by cases k <;> exact World.ownsRow_nil _ _ _ _, fun k j hkj => .inl (by cases k <;> rfl)⟩, GBd.refl _ _ _, by omega⟩, rfl, by simp, fun d hd => by cases hd⟩
  have HM0 := Lib.hid hM0
  have Hv := Lib.hid hv
  have Hml := Lib.hid hml
  have Hnn := Lib.hid hnn
  have Hin := Lib.hid hin
  have HbW := Lib.hid hbW
  have HW := Lib.hid hW
  have HzW := Lib.hid hzW
  obtain ⟨k1, hk1, kz0, kz1, kz2⟩ := info_parts infoBlockG
  have Ki := Lib.hid hk1
  have Kz0 := Lib.hid kz0
  have Kz1 := Lib.hid kz1
  have Kz2 := Lib.hid kz2
  obtain ⟨j1, hj1, jz0, jz1, jz2⟩ := info_parts infoIntG
  have Ji := Lib.hid hj1
  have Jz0 := Lib.hid jz0
  have Jz1 := Lib.hid jz1
  have Jz2 := Lib.hid jz2
  clear hk1 kz0 kz1 kz2 hj1 jz0 jz1 jz2 hr hv hml hnn hin hbW hW hzW h0W hM0
  go_enter Try.func9, Try.ntmps9
  go_upto_region 1 with fail
  rw [← HW.out]
  go_upto_region 3 with fail
  go_loopw [6] (fun u6 wr => ∃ (i : Nat) (BV : Value) (ds : List GD), i ≤ n ∧ u6 = .int .i64 i ∧ Hid (GOne (w.heap.size + 1) w.heap.size W wr l false i BV ds)) (fun u6 _ => n - (intOf u6).toNat)
  case atStart => exact ⟨0, _, _, Nat.zero_le _, rfl, HM0⟩
  case round =>
    clear HM0
    obtain ⟨i, BV, ds, hi, rfl, HO⟩ := hrel
    by_cases hlt : i < n
    · have hil : i < l.length := by rw [← Hml.out]; omega
      have him : i < min l.length 14 := by rw [← Hnn.out]; exact hlt
      have him2 : i < m := by omega
      have hMk := HO.out.made
      have hlen := HO.out.len
      have hbel : Below w.heap.size w wr := hMk.bd.below HbW.out (Nat.le_refl _) (by omega)
      obtain ⟨b0, o0, rfl, hb0, c0, c1⟩ := (Hv.out.keep (hbel.mono hn)).at hil
      have hx := Hin.out l[i] (List.getElem_mem hil)
      obtain ⟨x, hxx⟩ : ∃ x, x = l[i] := ⟨_, rfl⟩
      rw [← hxx] at c0 c1 hx
      have Hxx := Lib.hid hxx
      obtain ⟨x0, x1⟩ := x
      simp only at c0 c1 hx
      have Hx := Lib.hid hx
      obtain ⟨BA, BC, hBV⟩ := gr_slice (hMk.fam.own 0)
      have hBV2 : BV = .slice BA i BC := by rw [← hlen]; exact hBV
      subst hBV2
      obtain ⟨Y, hY, hbY, hzY, h0Y⟩ := gr_one wr #[.int .i64 3, .int .i64 (-1), .slice none 0 0] 45
      have e0 := (hbY.cell (p := ⟨b0, o0 + i * 2, none⟩) (by have := hbel.size; show b0 < wr.heap.size; omega)).trans c0
      have e1 := (hbY.cell (p := ⟨b0, o0 + i * 2 + 1, none⟩) (by have := hbel.size; show b0 < wr.heap.size; omega)).trans c1
      have HY := Lib.hid hY
      have HbY := Lib.hid hbY
      have H0Y := Lib.hid h0Y
      have HzY := Lib.hid hzY
      have HMk := Lib.hid hMk
      have Hlen := Lib.hid hlen
      clear hx hxx hBV hY hbY h0Y hzY c0 c1 hMk hlen hbel hb0
      go_upto_region 5 with fail
      go_upto_region 6 with fail
      rw [← HY.out]
      go_quiet (fail)
      generalize hX : World.drewN Y _ = X
      have bX : Below Y.heap.size Y X := by rw [← hX]; exact below_dr (Below.refl _ _) _
      have d0 : X.cell? ⟨b0, o0 + i * 2, none⟩ = some (.int .i64 x0) := by rw [← hX]; exact e0
      have h0X := (bX.block wr.heap.size (by have := HzY.out; omega)).trans H0Y.out
      have HbX := Lib.hid (HbY.out.trans (bX.mono (by have := HzY.out; omega)))
      have HzX : Hid (wr.heap.size < X.heap.size) := Lib.hid (gr_in h0X)
      have H0X := Lib.hid h0X
      clear hX bX e0 e1 h0X HY
      have hend : endG (min l.length 14) false l[i] = if x0 = x1 then (1, -1, [x0]) else (2, 0, [x0, x1]) := by rw [← Hxx.out]; simp [endG]
      have Hend := Lib.hid hend
      clear hend
      cases hab : (x0 == x1) with
      | true =>
        obtain rfl : x0 = x1 := by simpa using hab
        have Hend2 : Hid (endG (min l.length 14) false l[i] = (1, (-1), [x0])) := Lib.hid (by rw [Hend.out]; simp)
        obtain ⟨V, hV, hbV, hzV, h0V, htV⟩ := term_store H0X.out #[.int .i64 x0] (.int .i64 1) (.int .i64 (-1)) (.slice (some ⟨X.heap.size, 0, none⟩) 1 1)
        have HV := Lib.hid hV
        have HbV := Lib.hid (HbX.out.trans hbV)
        have H0V := Lib.hid h0V
        have HtV : Hid (V.ownsRow (w.heap.size + 1) 3 1 (.slice (some ⟨X.heap.size, 0, none⟩) 1 1) [x0].length (intsV [x0])) := Lib.hid ⟨rfl, .inr ⟨X.heap.size, 1, #[.int .i64 x0], rfl, by have := HMk.out.hb; have := HbX.out.size; omega, htV, Nat.le_refl _, by decide, rfl, rfl⟩⟩
        have HtN : Hid (∀ k, (Value.slice (some ⟨X.heap.size, 0, none⟩) 1 1).ownBlock = some k → wr.heap.size ≤ k) := Lib.hid (fun k e => by cases e; exact HbX.out.size)
        clear hV hbV hzV h0V htV
        have hXA := (Below.heap_alloc X (.cells #[.int .i64 x0] 3) wr.heap.size HzX.out).trans H0X.out
        have t0 := Lib.cell_of_heap hXA 0
        have t1 := Lib.cell_of_heap hXA 1
        have t2 := Lib.cell_of_heap hXA 2
        have tf0 := Lib.frozen_of_heap hXA 0
        have tf1 := Lib.frozen_of_heap hXA 1
        have tf2 := Lib.frozen_of_heap hXA 2
        clear hXA
        cases hq : (x0 == -1) with
        | true =>
          go_upto_region 13 with fail
          rw [← HV.out]
          clear t0 t1 t2 tf0 tf1 tf2 d0
          obtain ⟨A2, hA2, hbA, hzA, h0A⟩ := gr_one V #[.slice none 0 0, .slice none 0 0, .int .i64 1, .int .i64 (-1), .slice (some ⟨X.heap.size, 0, none⟩) 1 1] 47
          have hMV := HMk.out.keep HbV.out
          have hMA := hMV.keep hbA
          have hown := hMA.fam.own 0
          have hBX := hMV.box
          unfold boxG at hBX
          obtain ⟨x0, x1, x2, x3, x4, xf⟩ := gr_five hBX
          have xf4 := xf 4
          have y0 := Lib.cell_of_heap H0V.out 0
          have y1 := Lib.cell_of_heap H0V.out 1
          have y2 := Lib.cell_of_heap H0V.out 2
          have HOW := Lib.hid (show A2.ownsRow (w.heap.size + 1) 47 5 (.slice BA i BC) i (blocksG ds) by have := hown; rw [famG_zero] at this; rw [← Hlen.out]; rw [Hlen.out] at this; rw [Hlen.out]; exact this)
          have HNW := Lib.hid (World.news_of_block h0A)
          have HOn : Hid (∀ u ∈ ([.slice none 0 0, .slice none 0 0, .int .i64 1, .int .i64 (-1), .slice (some ⟨X.heap.size, 0, none⟩) 1 1] : List Value), u.oneCell' = true) := Lib.hid (by
            intro u hu
            simp only [List.mem_cons, List.not_mem_nil, or_false] at hu
            rcases hu with rfl | rfl | rfl | rfl | rfl <;> rfl)
          have hsz2 := hMA.hb
          have HbA := Lib.hid hbA
          have HzA := Lib.hid hzA
          rw [hA2] at HOW HNW hsz2
          have HA2 := Lib.hid hA2
          clear hMV hMA hown hBX hA2 hbA hzA h0A xf x0 x1 x2 x3
          go_wp2_with (at_builtin; refine wpList_append_lies _ rfl (.tmp 69) (.tmp 72) 25 rfl (w.heap.size + 1) 47 k1 (.agg #[.slice none 0 0, .slice none 0 0, .int .i64 0, .int .i64 0, .slice none 0 0]) 5 88 Try.underlying25 Ki.out Kz0.out Kz1.out Kz2.out rfl (by decide) (.slice BA i BC) i (blocksG ds) rfl HOW.out ⟨V.heap.size, 0, none⟩ 1 1 [.slice none 0 0, .slice none 0 0, .int .i64 1, .int .i64 (-1), .slice (some ⟨X.heap.size, 0, none⟩) 1 1] rfl rfl HNW.out HOn.out (by decide) (by unfold maxLen; omega) (by omega) hsz2 _ rfl ?_)
          intro gp cp w5 hown5 hgrow hat hlt5
          rw [← HA2.out] at hgrow
          clear HOW HNW hsz2 y0 y1 y2 x4 xf4
          have hd : newG (.slice (some ⟨X.heap.size, 0, none⟩) 1 1) (endG (min l.length 14) false l[i]) = { pv := .slice none 0 0, tv := .slice (some ⟨X.heap.size, 0, none⟩) 1 1, preds := [], kind := 1, arg := (-1), to_ := [x0] } := by
            unfold newG
            rw [Hend2.out]
          have hM5 := HMk.out.more (w1 := A2) (w2 := w5) (g := gp) (c2 := cp) (d := { pv := .slice none 0 0, tv := .slice (some ⟨X.heap.size, 0, none⟩) 1 1, preds := [], kind := 1, arg := (-1), to_ := [x0] }) (HbV.out.trans (HbA.out.mono HbV.out.size)) rfl rfl (gr_up HtV.out HbA.out) HtN.out hgrow (by rw [Hlen.out]; exact hown5) (by rcases hat with h | h; exact .inl h; exact .inr (by have := HzA.out; omega))
          rw [Hlen.out] at hM5
          rw [← hd] at hM5
          have hO5 := HO.out.next him hil hM5
          have hE5 : boxG w5 w.heap.size (.slice BA i BC) := by
            have hav := HMk.out.fam.av 0
            rw [famG_zero] at hav
            exact (hgrow.block _ (by have := HMk.out.fam.el; have := HbV.out.size; have := HbA.out.size; omega) (fun e => hav e.symm)).trans ((HbA.out.block _ (by have := HMk.out.fam.el; have := HbV.out.size; omega)).trans ((HbV.out.block _ HMk.out.fam.el).trans HMk.out.box))
          unfold boxG at hE5
          obtain ⟨x0, x1, x2, x3, x4, xf⟩ := gr_five hE5
          have xf4 := xf 4
          obtain ⟨Q, hQ⟩ : ∃ Q, Q = w5.setCell ⟨w.heap.size, 4, none⟩ (.slice (some ⟨gp, 0, none⟩) (i + 1) cp) := ⟨_, rfl⟩
          rw [← hQ] at hO5
          have HO5 := Lib.hid hO5
          have HQ := Lib.hid hQ
          clear hown5 hgrow hat hlt5 HA2 hd hM5 hO5 hE5 hQ x0 x1 x2 x3 xf
          go_wp2
          rw [← HQ.out]
          go_wp2
          go_roundw
          case rel => exact ⟨i + 1, _, _, by omega, by go_num, HO5⟩
          case measure => simp [intOf]; omega
        | false =>
          go_upto_region 13 with fail
          rw [← HV.out]
          clear t0 t1 t2 tf0 tf1 tf2 d0
          obtain ⟨A2, hA2, hbA, hzA, h0A⟩ := gr_one V #[.slice none 0 0, .slice none 0 0, .int .i64 1, .int .i64 (-1), .slice (some ⟨X.heap.size, 0, none⟩) 1 1] 47
          have hMV := HMk.out.keep HbV.out
          have hMA := hMV.keep hbA
          have hown := hMA.fam.own 0
          have hBX := hMV.box
          unfold boxG at hBX
          obtain ⟨x0, x1, x2, x3, x4, xf⟩ := gr_five hBX
          have xf4 := xf 4
          have y0 := Lib.cell_of_heap H0V.out 0
          have y1 := Lib.cell_of_heap H0V.out 1
          have y2 := Lib.cell_of_heap H0V.out 2
          have HOW := Lib.hid (show A2.ownsRow (w.heap.size + 1) 47 5 (.slice BA i BC) i (blocksG ds) by have := hown; rw [famG_zero] at this; rw [← Hlen.out]; rw [Hlen.out] at this; rw [Hlen.out]; exact this)
          have HNW := Lib.hid (World.news_of_block h0A)
          have HOn : Hid (∀ u ∈ ([.slice none 0 0, .slice none 0 0, .int .i64 1, .int .i64 (-1), .slice (some ⟨X.heap.size, 0, none⟩) 1 1] : List Value), u.oneCell' = true) := Lib.hid (by
            intro u hu
            simp only [List.mem_cons, List.not_mem_nil, or_false] at hu
            rcases hu with rfl | rfl | rfl | rfl | rfl <;> rfl)
          have hsz2 := hMA.hb
          have HbA := Lib.hid hbA
          have HzA := Lib.hid hzA
          rw [hA2] at HOW HNW hsz2
          have HA2 := Lib.hid hA2
          clear hMV hMA hown hBX hA2 hbA hzA h0A xf x0 x1 x2 x3
          go_wp2_with (at_builtin; refine wpList_append_lies _ rfl (.tmp 69) (.tmp 72) 25 rfl (w.heap.size + 1) 47 k1 (.agg #[.slice none 0 0, .slice none 0 0, .int .i64 0, .int .i64 0, .slice none 0 0]) 5 88 Try.underlying25 Ki.out Kz0.out Kz1.out Kz2.out rfl (by decide) (.slice BA i BC) i (blocksG ds) rfl HOW.out ⟨V.heap.size, 0, none⟩ 1 1 [.slice none 0 0, .slice none 0 0, .int .i64 1, .int .i64 (-1), .slice (some ⟨X.heap.size, 0, none⟩) 1 1] rfl rfl HNW.out HOn.out (by decide) (by unfold maxLen; omega) (by omega) hsz2 _ rfl ?_)
          intro gp cp w5 hown5 hgrow hat hlt5
          rw [← HA2.out] at hgrow
          clear HOW HNW hsz2 y0 y1 y2 x4 xf4
          have hd : newG (.slice (some ⟨X.heap.size, 0, none⟩) 1 1) (endG (min l.length 14) false l[i]) = { pv := .slice none 0 0, tv := .slice (some ⟨X.heap.size, 0, none⟩) 1 1, preds := [], kind := 1, arg := (-1), to_ := [x0] } := by
            unfold newG
            rw [Hend2.out]
          have hM5 := HMk.out.more (w1 := A2) (w2 := w5) (g := gp) (c2 := cp) (d := { pv := .slice none 0 0, tv := .slice (some ⟨X.heap.size, 0, none⟩) 1 1, preds := [], kind := 1, arg := (-1), to_ := [x0] }) (HbV.out.trans (HbA.out.mono HbV.out.size)) rfl rfl (gr_up HtV.out HbA.out) HtN.out hgrow (by rw [Hlen.out]; exact hown5) (by rcases hat with h | h; exact .inl h; exact .inr (by have := HzA.out; omega))
          rw [Hlen.out] at hM5
          rw [← hd] at hM5
          have hO5 := HO.out.next him hil hM5
          have hE5 : boxG w5 w.heap.size (.slice BA i BC) := by
            have hav := HMk.out.fam.av 0
            rw [famG_zero] at hav
            exact (hgrow.block _ (by have := HMk.out.fam.el; have := HbV.out.size; have := HbA.out.size; omega) (fun e => hav e.symm)).trans ((HbA.out.block _ (by have := HMk.out.fam.el; have := HbV.out.size; omega)).trans ((HbV.out.block _ HMk.out.fam.el).trans HMk.out.box))
          unfold boxG at hE5
          obtain ⟨x0, x1, x2, x3, x4, xf⟩ := gr_five hE5
          have xf4 := xf 4
          obtain ⟨Q, hQ⟩ : ∃ Q, Q = w5.setCell ⟨w.heap.size, 4, none⟩ (.slice (some ⟨gp, 0, none⟩) (i + 1) cp) := ⟨_, rfl⟩
          rw [← hQ] at hO5
          have HO5 := Lib.hid hO5
          have HQ := Lib.hid hQ
          clear hown5 hgrow hat hlt5 HA2 hd hM5 hO5 hE5 hQ x0 x1 x2 x3 xf
          go_wp2
          rw [← HQ.out]
          go_wp2
          go_roundw
          case rel => exact ⟨i + 1, _, _, by omega, by go_num, HO5⟩
          case measure => simp [intOf]; omega
      | false =>
        have Hend2 : Hid (endG (min l.length 14) false l[i] = (2, 0, [x0, x1])) := Lib.hid (by rw [Hend.out, if_neg (int_ne hab)])
        obtain ⟨V, hV, hbV, hzV, h0V, htV⟩ := term_store H0X.out #[.int .i64 x0, .int .i64 x1] (.int .i64 2) (.int .i64 0) (.slice (some ⟨X.heap.size, 0, none⟩) 2 2)
        have HV := Lib.hid hV
        have HbV := Lib.hid (HbX.out.trans hbV)
        have H0V := Lib.hid h0V
        have HtV : Hid (V.ownsRow (w.heap.size + 1) 3 1 (.slice (some ⟨X.heap.size, 0, none⟩) 2 2) [x0, x1].length (intsV [x0, x1])) := Lib.hid ⟨rfl, .inr ⟨X.heap.size, 2, #[.int .i64 x0, .int .i64 x1], rfl, by have := HMk.out.hb; have := HbX.out.size; omega, htV, Nat.le_refl _, by decide, rfl, rfl⟩⟩
        have HtN : Hid (∀ k, (Value.slice (some ⟨X.heap.size, 0, none⟩) 2 2).ownBlock = some k → wr.heap.size ≤ k) := Lib.hid (fun k e => by cases e; exact HbX.out.size)
        clear hV hbV hzV h0V htV
        have hXA := (Below.heap_alloc X (.cells #[.int .i64 x0, .int .i64 x1] 3) wr.heap.size HzX.out).trans H0X.out
        have t0 := Lib.cell_of_heap hXA 0
        have t1 := Lib.cell_of_heap hXA 1
        have t2 := Lib.cell_of_heap hXA 2
        have tf0 := Lib.frozen_of_heap hXA 0
        have tf1 := Lib.frozen_of_heap hXA 1
        have tf2 := Lib.frozen_of_heap hXA 2
        clear hXA
        cases hq : (x0 == -1) with
        | true =>
          go_upto_region 13 with fail
          rw [← HV.out]
          clear t0 t1 t2 tf0 tf1 tf2 d0
          obtain ⟨A2, hA2, hbA, hzA, h0A⟩ := gr_one V #[.slice none 0 0, .slice none 0 0, .int .i64 2, .int .i64 0, .slice (some ⟨X.heap.size, 0, none⟩) 2 2] 47
          have hMV := HMk.out.keep HbV.out
          have hMA := hMV.keep hbA
          have hown := hMA.fam.own 0
          have hBX := hMV.box
          unfold boxG at hBX
          obtain ⟨x0, x1, x2, x3, x4, xf⟩ := gr_five hBX
          have xf4 := xf 4
          have y0 := Lib.cell_of_heap H0V.out 0
          have y1 := Lib.cell_of_heap H0V.out 1
          have y2 := Lib.cell_of_heap H0V.out 2
          have HOW := Lib.hid (show A2.ownsRow (w.heap.size + 1) 47 5 (.slice BA i BC) i (blocksG ds) by have := hown; rw [famG_zero] at this; rw [← Hlen.out]; rw [Hlen.out] at this; rw [Hlen.out]; exact this)
          have HNW := Lib.hid (World.news_of_block h0A)
          have HOn : Hid (∀ u ∈ ([.slice none 0 0, .slice none 0 0, .int .i64 2, .int .i64 0, .slice (some ⟨X.heap.size, 0, none⟩) 2 2] : List Value), u.oneCell' = true) := Lib.hid (by
            intro u hu
            simp only [List.mem_cons, List.not_mem_nil, or_false] at hu
            rcases hu with rfl | rfl | rfl | rfl | rfl <;> rfl)
          have hsz2 := hMA.hb
          have HbA := Lib.hid hbA
          have HzA := Lib.hid hzA
          rw [hA2] at HOW HNW hsz2
          have HA2 := Lib.hid hA2
          clear hMV hMA hown hBX hA2 hbA hzA h0A xf x0 x1 x2 x3
          go_wp2_with (at_builtin; refine wpList_append_lies _ rfl (.tmp 69) (.tmp 72) 25 rfl (w.heap.size + 1) 47 k1 (.agg #[.slice none 0 0, .slice none 0 0, .int .i64 0, .int .i64 0, .slice none 0 0]) 5 88 Try.underlying25 Ki.out Kz0.out Kz1.out Kz2.out rfl (by decide) (.slice BA i BC) i (blocksG ds) rfl HOW.out ⟨V.heap.size, 0, none⟩ 1 1 [.slice none 0 0, .slice none 0 0, .int .i64 2, .int .i64 0, .slice (some ⟨X.heap.size, 0, none⟩) 2 2] rfl rfl HNW.out HOn.out (by decide) (by unfold maxLen; omega) (by omega) hsz2 _ rfl ?_)
          intro gp cp w5 hown5 hgrow hat hlt5
          rw [← HA2.out] at hgrow
          clear HOW HNW hsz2 y0 y1 y2 x4 xf4
          have hd : newG (.slice (some ⟨X.heap.size, 0, none⟩) 2 2) (endG (min l.length 14) false l[i]) = { pv := .slice none 0 0, tv := .slice (some ⟨X.heap.size, 0, none⟩) 2 2, preds := [], kind := 2, arg := 0, to_ := [x0, x1] } := by
            unfold newG
            rw [Hend2.out]
          have hM5 := HMk.out.more (w1 := A2) (w2 := w5) (g := gp) (c2 := cp) (d := { pv := .slice none 0 0, tv := .slice (some ⟨X.heap.size, 0, none⟩) 2 2, preds := [], kind := 2, arg := 0, to_ := [x0, x1] }) (HbV.out.trans (HbA.out.mono HbV.out.size)) rfl rfl (gr_up HtV.out HbA.out) HtN.out hgrow (by rw [Hlen.out]; exact hown5) (by rcases hat with h | h; exact .inl h; exact .inr (by have := HzA.out; omega))
          rw [Hlen.out] at hM5
          rw [← hd] at hM5
          have hO5 := HO.out.next him hil hM5
          have hE5 : boxG w5 w.heap.size (.slice BA i BC) := by
            have hav := HMk.out.fam.av 0
            rw [famG_zero] at hav
            exact (hgrow.block _ (by have := HMk.out.fam.el; have := HbV.out.size; have := HbA.out.size; omega) (fun e => hav e.symm)).trans ((HbA.out.block _ (by have := HMk.out.fam.el; have := HbV.out.size; omega)).trans ((HbV.out.block _ HMk.out.fam.el).trans HMk.out.box))
          unfold boxG at hE5
          obtain ⟨x0, x1, x2, x3, x4, xf⟩ := gr_five hE5
          have xf4 := xf 4
          obtain ⟨Q, hQ⟩ : ∃ Q, Q = w5.setCell ⟨w.heap.size, 4, none⟩ (.slice (some ⟨gp, 0, none⟩) (i + 1) cp) := ⟨_, rfl⟩
          rw [← hQ] at hO5
          have HO5 := Lib.hid hO5
          have HQ := Lib.hid hQ
          clear hown5 hgrow hat hlt5 HA2 hd hM5 hO5 hE5 hQ x0 x1 x2 x3 xf
          go_wp2
          rw [← HQ.out]
          go_wp2
          go_roundw
          case rel => exact ⟨i + 1, _, _, by omega, by go_num, HO5⟩
          case measure => simp [intOf]; omega
        | false =>
          go_upto_region 13 with fail
          rw [← HV.out]
          clear t0 t1 t2 tf0 tf1 tf2 d0
          obtain ⟨A2, hA2, hbA, hzA, h0A⟩ := gr_one V #[.slice none 0 0, .slice none 0 0, .int .i64 2, .int .i64 0, .slice (some ⟨X.heap.size, 0, none⟩) 2 2] 47
          have hMV := HMk.out.keep HbV.out
          have hMA := hMV.keep hbA
          have hown := hMA.fam.own 0
          have hBX := hMV.box
          unfold boxG at hBX
          obtain ⟨x0, x1, x2, x3, x4, xf⟩ := gr_five hBX
          have xf4 := xf 4
          have y0 := Lib.cell_of_heap H0V.out 0
          have y1 := Lib.cell_of_heap H0V.out 1
          have y2 := Lib.cell_of_heap H0V.out 2
          have HOW := Lib.hid (show A2.ownsRow (w.heap.size + 1) 47 5 (.slice BA i BC) i (blocksG ds) by have := hown; rw [famG_zero] at this; rw [← Hlen.out]; rw [Hlen.out] at this; rw [Hlen.out]; exact this)
          have HNW := Lib.hid (World.news_of_block h0A)
          have HOn : Hid (∀ u ∈ ([.slice none 0 0, .slice none 0 0, .int .i64 2, .int .i64 0, .slice (some ⟨X.heap.size, 0, none⟩) 2 2] : List Value), u.oneCell' = true) := Lib.hid (by
            intro u hu
            simp only [List.mem_cons, List.not_mem_nil, or_false] at hu
            rcases hu with rfl | rfl | rfl | rfl | rfl <;> rfl)
          have hsz2 := hMA.hb
          have HbA := Lib.hid hbA
          have HzA := Lib.hid hzA
          rw [hA2] at HOW HNW hsz2
          have HA2 := Lib.hid hA2
          clear hMV hMA hown hBX hA2 hbA hzA h0A xf x0 x1 x2 x3
          go_wp2_with (at_builtin; refine wpList_append_lies _ rfl (.tmp 69) (.tmp 72) 25 rfl (w.heap.size + 1) 47 k1 (.agg #[.slice none 0 0, .slice none 0 0, .int .i64 0, .int .i64 0, .slice none 0 0]) 5 88 Try.underlying25 Ki.out Kz0.out Kz1.out Kz2.out rfl (by decide) (.slice BA i BC) i (blocksG ds) rfl HOW.out ⟨V.heap.size, 0, none⟩ 1 1 [.slice none 0 0, .slice none 0 0, .int .i64 2, .int .i64 0, .slice (some ⟨X.heap.size, 0, none⟩) 2 2] rfl rfl HNW.out HOn.out (by decide) (by unfold maxLen; omega) (by omega) hsz2 _ rfl ?_)
          intro gp cp w5 hown5 hgrow hat hlt5
          rw [← HA2.out] at hgrow
          clear HOW HNW hsz2 y0 y1 y2 x4 xf4
          have hd : newG (.slice (some ⟨X.heap.size, 0, none⟩) 2 2) (endG (min l.length 14) false l[i]) = { pv := .slice none 0 0, tv := .slice (some ⟨X.heap.size, 0, none⟩) 2 2, preds := [], kind := 2, arg := 0, to_ := [x0, x1] } := by
            unfold newG
            rw [Hend2.out]
          have hM5 := HMk.out.more (w1 := A2) (w2 := w5) (g := gp) (c2 := cp) (d := { pv := .slice none 0 0, tv := .slice (some ⟨X.heap.size, 0, none⟩) 2 2, preds := [], kind := 2, arg := 0, to_ := [x0, x1] }) (HbV.out.trans (HbA.out.mono HbV.out.size)) rfl rfl (gr_up HtV.out HbA.out) HtN.out hgrow (by rw [Hlen.out]; exact hown5) (by rcases hat with h | h; exact .inl h; exact .inr (by have := HzA.out; omega))
          rw [Hlen.out] at hM5
          rw [← hd] at hM5
          have hO5 := HO.out.next him hil hM5
          have hE5 : boxG w5 w.heap.size (.slice BA i BC) := by
            have hav := HMk.out.fam.av 0
            rw [famG_zero] at hav
            exact (hgrow.block _ (by have := HMk.out.fam.el; have := HbV.out.size; have := HbA.out.size; omega) (fun e => hav e.symm)).trans ((HbA.out.block _ (by have := HMk.out.fam.el; have := HbV.out.size; omega)).trans ((HbV.out.block _ HMk.out.fam.el).trans HMk.out.box))
          unfold boxG at hE5
          obtain ⟨x0, x1, x2, x3, x4, xf⟩ := gr_five hE5
          have xf4 := xf 4
          obtain ⟨Q, hQ⟩ : ∃ Q, Q = w5.setCell ⟨w.heap.size, 4, none⟩ (.slice (some ⟨gp, 0, none⟩) (i + 1) cp) := ⟨_, rfl⟩
          rw [← hQ] at hO5
          have HO5 := Lib.hid hO5
          have HQ := Lib.hid hQ
          clear hown5 hgrow hat hlt5 HA2 hd hM5 hO5 hE5 hQ x0 x1 x2 x3 xf
          go_wp2
          rw [← HQ.out]
          go_wp2
          go_roundw
          case rel => exact ⟨i + 1, _, _, by omega, by go_num, HO5⟩
          case measure => simp [intOf]; omega

    · obtain rfl : i = n := by omega
      have hsig : ds.map GD.sig = endsG l false := by rw [HO.out.sig, Hnn.out, ← endsG_len l false, List.take_length]
      have Hsig := Lib.hid hsig
      have hMk := HO.out.made
      have hlen := HO.out.len
      have hbel : Below w.heap.size w wr := hMk.bd.below HbW.out (Nat.le_refl _) (by omega)
      obtain ⟨BA, BC, hBV⟩ := gr_slice (hMk.fam.own 0)
      have hBV2 : BV = .slice BA i BC := by rw [← hlen]; exact hBV
      subst hBV2
      have Hbel := Lib.hid hbel
      have HMk := Lib.hid hMk
      have Hlen := Lib.hid hlen
      clear hsig hBV hbel hMk hlen
      have hBX := HMk.out.box
      unfold boxG at hBX
      obtain ⟨x0, x1, x2, x3, x4, xf⟩ := gr_five hBX
      have xf0 := xf 0
      have xf1 := xf 1
      have xf2 := xf 2
      have xf3 := xf 3
      have xf4 := xf 4
      clear hBX xf
      go_upto_region 15 with fail
      refine wp_loop_rounds 1 ?_
      rw [rounds_succ]
      rcases Nat.eq_zero_or_pos i with h0 | h0
      · subst h0
        go_wp2
        rw [five_same HMk.out.box]
        refine ⟨rfl, _, by simp [results, Try.results9, go_sem, x0, x1, x2, x3, x4], _, rfl, HMk.out.end_ Hlen.out hn14 Hsig.out Hin.out (E2 := []) (fun j d hd => by rw [HO.out.none_ d (List.mem_of_getElem? hd)]; rfl) (by simp) (by simp) (by simp [graphP]), Hbel.out⟩
      · go_wp2
        rw [five_same HMk.out.box]
        refine ⟨rfl, _, by simp [results, Try.results9, go_sem, x0, x1, x2, x3, x4], _, rfl, HMk.out.end_ Hlen.out hn14 Hsig.out Hin.out (E2 := []) (fun j d hd => by rw [HO.out.none_ d (List.mem_of_getElem? hd)]; rfl) (by simp) (by simp) (by simp [graphP]), Hbel.out⟩
set_option maxRecDepth 100000 in
set_option maxHeartbeats 16000000 in
theorem graph_true (n0 : Nat) (v : Value) (l : List (Int × Int)) (w : World) (hv : GPr n0 w v l) (hn : n0 ≤ w.heap.size) (hl : l.length ≤ 9223372036854775807) (hin : ∀ x ∈ l, InG x.1 ∧ InG x.2) :
    Calls Try.prog 9 #[v, .bool true] w fun e w' => ∃ f, e = .returned f ∧ GF w'.heap.size w' f (graphP l true) ∧ Below w.heap.size w w' := by
  obtain ⟨A, c, rfl, hr⟩ := id hv
  obtain ⟨m, hml⟩ : ∃ m, m = l.length := ⟨_, rfl⟩
  obtain ⟨n, hnn⟩ : ∃ n, n = min l.length 14 := ⟨_, rfl⟩
  have hmin : min (m : Int) 14 = (n : Int) := by omega
  have hn14 : n ≤ 14 := by omega
  have hnm : n ≤ m := by omega
  rw [← hml] at hv hl ⊢
  obtain ⟨W, hW, hbW, hzW, h0W⟩ := gr_one w #[.string ⟨#[]⟩, .slice none 0 0, .int .i64 0, .slice none 0 0, .slice none 0 0] 27
  have hM0 : GOne (w.heap.size + 1) w.heap.size W W l true 0 (.slice none 0 0) [] := ⟨⟨h0W, ⟨by omega, fun k => by cases k <;> simp [famG, rowNo, Value.ownBlock], fun k => by cases k <;> exact World.ownsRow_nil _ _ _ _, fun k j hkj => .inl (by cases k <;> rfl)⟩, GBd.refl _ _ _, by omega⟩, rfl, by simp, fun d hd => by cases hd⟩
  have HM0 := Lib.hid hM0
  have Hv := Lib.hid hv
  have Hml := Lib.hid hml
  have Hnn := Lib.hid hnn
  have Hin := Lib.hid hin
  have HbW := Lib.hid hbW
  have HW := Lib.hid hW
  have HzW := Lib.hid hzW
  obtain ⟨k1, hk1, kz0, kz1, kz2⟩ := info_parts infoBlockG
  have Ki := Lib.hid hk1
  have Kz0 := Lib.hid kz0
  have Kz1 := Lib.hid kz1
  have Kz2 := Lib.hid kz2
  obtain ⟨j1, hj1, jz0, jz1, jz2⟩ := info_parts infoIntG
  have Ji := Lib.hid hj1
  have Jz0 := Lib.hid jz0
  have Jz1 := Lib.hid jz1
  have Jz2 := Lib.hid jz2
  clear hk1 kz0 kz1 kz2 hj1 jz0 jz1 jz2 hr hv hml hnn hin hbW hW hzW h0W hM0
  go_enter Try.func9, Try.ntmps9
  go_upto_region 1 with fail
  rw [← HW.out]
  go_upto_region 3 with fail
  go_loopw [6] (fun u6 wr => ∃ (i : Nat) (BV : Value) (ds : List GD), i ≤ n ∧ u6 = .int .i64 i ∧ Hid (GOne (w.heap.size + 1) w.heap.size W wr l true i BV ds)) (fun u6 _ => n - (intOf u6).toNat)
  case atStart => exact ⟨0, _, _, Nat.zero_le _, rfl, HM0⟩
  case round =>
    clear HM0
    obtain ⟨i, BV, ds, hi, rfl, HO⟩ := hrel
    by_cases hlt : i < n
    · have hil : i < l.length := by rw [← Hml.out]; omega
      have him : i < min l.length 14 := by rw [← Hnn.out]; exact hlt
      have him2 : i < m := by omega
      have hMk := HO.out.made
      have hlen := HO.out.len
      have hbel : Below w.heap.size w wr := hMk.bd.below HbW.out (Nat.le_refl _) (by omega)
      obtain ⟨b0, o0, rfl, hb0, c0, c1⟩ := (Hv.out.keep (hbel.mono hn)).at hil
      have hx := Hin.out l[i] (List.getElem_mem hil)
      obtain ⟨x, hxx⟩ : ∃ x, x = l[i] := ⟨_, rfl⟩
      rw [← hxx] at c0 c1 hx
      have Hxx := Lib.hid hxx
      obtain ⟨x0, x1⟩ := x
      simp only at c0 c1 hx
      have Hx := Lib.hid hx
      obtain ⟨BA, BC, hBV⟩ := gr_slice (hMk.fam.own 0)
      have hBV2 : BV = .slice BA i BC := by rw [← hlen]; exact hBV
      subst hBV2
      obtain ⟨Y, hY, hbY, hzY, h0Y⟩ := gr_one wr #[.int .i64 3, .int .i64 (-1), .slice none 0 0] 45
      have e0 := (hbY.cell (p := ⟨b0, o0 + i * 2, none⟩) (by have := hbel.size; show b0 < wr.heap.size; omega)).trans c0
      have e1 := (hbY.cell (p := ⟨b0, o0 + i * 2 + 1, none⟩) (by have := hbel.size; show b0 < wr.heap.size; omega)).trans c1
      have HY := Lib.hid hY
      have HbY := Lib.hid hbY
      have H0Y := Lib.hid h0Y
      have HzY := Lib.hid hzY
      have HMk := Lib.hid hMk
      have Hlen := Lib.hid hlen
      clear hx hxx hBV hY hbY h0Y hzY c0 c1 hMk hlen hbel hb0
      go_upto_region 5 with fail
      go_upto_region 6 with fail
      rw [← HY.out]
      go_quiet (fail)
      generalize hX : World.drewN Y _ = X
      have bX : Below Y.heap.size Y X := by rw [← hX]; exact below_dr (Below.refl _ _) _
      have d0 : X.cell? ⟨b0, o0 + i * 2, none⟩ = some (.int .i64 x0) := by rw [← hX]; exact e0
      have h0X := (bX.block wr.heap.size (by have := HzY.out; omega)).trans H0Y.out
      have HbX := Lib.hid (HbY.out.trans (bX.mono (by have := HzY.out; omega)))
      have HzX : Hid (wr.heap.size < X.heap.size) := Lib.hid (gr_in h0X)
      have H0X := Lib.hid h0X
      clear hX bX e0 e1 h0X HY
      obtain ⟨ra, hra⟩ : ∃ ra, x0.tmod (n : Int) = ra := ⟨_, rfl⟩
      obtain ⟨rb, hrb⟩ : ∃ rb, x1.tmod (n : Int) = rb := ⟨_, rfl⟩
      have hra1 : -14 < ra ∧ ra < 14 := by
        have h1 := Int.lt_tmod_of_pos x0 (show (0 : Int) < n by omega)
        have h2 := Int.tmod_lt_of_pos x0 (show (0 : Int) < n by omega)
        rw [hra] at h1 h2
        omega
      have hrb1 : -14 < rb ∧ rb < 14 := by
        have h1 := Int.lt_tmod_of_pos x1 (show (0 : Int) < n by omega)
        have h2 := Int.tmod_lt_of_pos x1 (show (0 : Int) < n by omega)
        rw [hrb] at h1 h2
        omega
      obtain ⟨na, hna⟩ : ∃ na, (ra + (n : Int)).tmod (n : Int) = na := ⟨_, rfl⟩
      obtain ⟨nb, hnb⟩ : ∃ nb, (rb + (n : Int)).tmod (n : Int) = nb := ⟨_, rfl⟩
      have ha : normG ((min l.length 14 : Nat) : Int) x0 = na := by unfold normG; rw [← Hnn.out, hra, hna]
      have hb : normG ((min l.length 14 : Nat) : Int) x1 = nb := by unfold normG; rw [← Hnn.out, hrb, hnb]
      have hend : endG (min l.length 14) true l[i] = if x0 = -1 then (3, -1, []) else if na = nb then (1, -1, [na]) else (2, 0, [na, nb]) := by rw [← Hxx.out]; simp [endG, ha, hb]
      have Hend := Lib.hid hend
      have hn0 : (((n : Nat) : Int) == 0) = false := eqb_ne (by omega)
      obtain ⟨hra2, hra3⟩ := hra1
      obtain ⟨hrb2, hrb3⟩ := hrb1
      have HRA := Lib.hid hra
      have HRB := Lib.hid hrb
      have HNA := Lib.hid hna
      have HNB := Lib.hid hnb
      clear hend ha hb hra hrb hna hnb
      go_upto_region 8 with fail
      have hra := HRA.out
      have hrb := HRB.out
      have hna := HNA.out
      have hnb := HNB.out
      go_quiet (fail)
      generalize hX2 : World.drewN X _ = X2
      have bX2 : Below X.heap.size X X2 := by rw [← hX2]; exact below_dr (Below.refl _ _) _
      have d02 : X2.cell? ⟨b0, o0 + i * 2, none⟩ = some (.int .i64 x0) := by rw [← hX2]; exact d0
      have h0X2 := (bX2.block wr.heap.size HzX.out).trans H0X.out
      have HbX2 := Lib.hid (HbX.out.trans (bX2.mono HbX.out.size))
      have HzX2 : Hid (wr.heap.size < X2.heap.size) := Lib.hid (gr_in h0X2)
      have H0X2 := Lib.hid h0X2
      clear hX2 bX2 d0 h0X2 hra hrb hna hnb hra2 hra3 hrb2 hrb3 HRA HRB HNA HNB HbX HzX H0X
      cases hq : (x0 == -1) with
      | true =>
        have Hend2 : Hid (endG (min l.length 14) true l[i] = (3, (-1), [])) := Lib.hid (by rw [Hend.out, if_pos (by simpa using hq)])
        have HbV := HbX2
        have H0V := H0X2
        have HtV : Hid (X2.ownsRow (w.heap.size + 1) 3 1 (.slice none 0 0) ([] : List Int).length (intsV [])) := Lib.hid (World.ownsRow_nil _ _ _ _)
        have HtN : Hid (∀ k, (Value.slice none 0 0).ownBlock = some k → wr.heap.size ≤ k) := Lib.hid (fun k e => by cases e)
        go_upto_region 13 with fail
        clear d02
        obtain ⟨A2, hA2, hbA, hzA, h0A⟩ := gr_one X2 #[.slice none 0 0, .slice none 0 0, .int .i64 3, .int .i64 (-1), .slice none 0 0] 47
        have hMV := HMk.out.keep HbV.out
        have hMA := hMV.keep hbA
        have hown := hMA.fam.own 0
        have hBX := hMV.box
        unfold boxG at hBX
        obtain ⟨x0, x1, x2, x3, x4, xf⟩ := gr_five hBX
        have xf4 := xf 4
        have y0 := Lib.cell_of_heap H0V.out 0
        have y1 := Lib.cell_of_heap H0V.out 1
        have y2 := Lib.cell_of_heap H0V.out 2
        have HOW := Lib.hid (show A2.ownsRow (w.heap.size + 1) 47 5 (.slice BA i BC) i (blocksG ds) by have := hown; rw [famG_zero] at this; rw [← Hlen.out]; rw [Hlen.out] at this; rw [Hlen.out]; exact this)
        have HNW := Lib.hid (World.news_of_block h0A)
        have HOn : Hid (∀ u ∈ ([.slice none 0 0, .slice none 0 0, .int .i64 3, .int .i64 (-1), .slice none 0 0] : List Value), u.oneCell' = true) := Lib.hid (by
          intro u hu
          simp only [List.mem_cons, List.not_mem_nil, or_false] at hu
          rcases hu with rfl | rfl | rfl | rfl | rfl <;> rfl)
        have hsz2 := hMA.hb
        have HbA := Lib.hid hbA
        have HzA := Lib.hid hzA
        rw [hA2] at HOW HNW hsz2
        have HA2 := Lib.hid hA2
        clear hMV hMA hown hBX hA2 hbA hzA h0A xf x0 x1 x2 x3
        go_wp2_with (at_builtin; refine wpList_append_lies _ rfl (.tmp 69) (.tmp 72) 25 rfl (w.heap.size + 1) 47 k1 (.agg #[.slice none 0 0, .slice none 0 0, .int .i64 0, .int .i64 0, .slice none 0 0]) 5 88 Try.underlying25 Ki.out Kz0.out Kz1.out Kz2.out rfl (by decide) (.slice BA i BC) i (blocksG ds) rfl HOW.out ⟨X2.heap.size, 0, none⟩ 1 1 [.slice none 0 0, .slice none 0 0, .int .i64 3, .int .i64 (-1), .slice none 0 0] rfl rfl HNW.out HOn.out (by decide) (by unfold maxLen; omega) (by omega) hsz2 _ rfl ?_)
        intro gp cp w5 hown5 hgrow hat hlt5
        rw [← HA2.out] at hgrow
        clear HOW HNW hsz2 y0 y1 y2 x4 xf4
        have hd : newG (.slice none 0 0) (endG (min l.length 14) true l[i]) = { pv := .slice none 0 0, tv := .slice none 0 0, preds := [], kind := 3, arg := (-1), to_ := [] } := by
          unfold newG
          rw [Hend2.out]
        have hM5 := HMk.out.more (w1 := A2) (w2 := w5) (g := gp) (c2 := cp) (d := { pv := .slice none 0 0, tv := .slice none 0 0, preds := [], kind := 3, arg := (-1), to_ := [] }) (HbV.out.trans (HbA.out.mono HbV.out.size)) rfl rfl (gr_up HtV.out HbA.out) HtN.out hgrow (by rw [Hlen.out]; exact hown5) (by rcases hat with h | h; exact .inl h; exact .inr (by have := HzA.out; omega))
        rw [Hlen.out] at hM5
        rw [← hd] at hM5
        have hO5 := HO.out.next him hil hM5
        have hE5 : boxG w5 w.heap.size (.slice BA i BC) := by
          have hav := HMk.out.fam.av 0
          rw [famG_zero] at hav
          exact (hgrow.block _ (by have := HMk.out.fam.el; have := HbV.out.size; have := HbA.out.size; omega) (fun e => hav e.symm)).trans ((HbA.out.block _ (by have := HMk.out.fam.el; have := HbV.out.size; omega)).trans ((HbV.out.block _ HMk.out.fam.el).trans HMk.out.box))
        unfold boxG at hE5
        obtain ⟨x0, x1, x2, x3, x4, xf⟩ := gr_five hE5
        have xf4 := xf 4
        obtain ⟨Q, hQ⟩ : ∃ Q, Q = w5.setCell ⟨w.heap.size, 4, none⟩ (.slice (some ⟨gp, 0, none⟩) (i + 1) cp) := ⟨_, rfl⟩
        rw [← hQ] at hO5
        have HO5 := Lib.hid hO5
        have HQ := Lib.hid hQ
        clear hown5 hgrow hat hlt5 HA2 hd hM5 hO5 hE5 hQ x0 x1 x2 x3 xf
        go_wp2
        rw [← HQ.out]
        go_wp2
        go_roundw
        case rel => exact ⟨i + 1, _, _, by omega, by go_num, HO5⟩
        case measure => simp [intOf]; omega
      | false =>
        have hend := Hend.out
        rw [if_neg (int_ne hq)] at hend
        have Hend := Lib.hid hend
        clear hend
        cases hab : (na == nb) with
        | true =>
          obtain rfl : na = nb := by simpa using hab
          have Hend2 : Hid (endG (min l.length 14) true l[i] = (1, (-1), [na])) := Lib.hid (by rw [Hend.out]; simp)
          obtain ⟨V, hV, hbV, hzV, h0V, htV⟩ := term_store H0X2.out #[.int .i64 na] (.int .i64 1) (.int .i64 (-1)) (.slice (some ⟨X2.heap.size, 0, none⟩) 1 1)
          have HV := Lib.hid hV
          have HbV := Lib.hid (HbX2.out.trans hbV)
          have H0V := Lib.hid h0V
          have HtV : Hid (V.ownsRow (w.heap.size + 1) 3 1 (.slice (some ⟨X2.heap.size, 0, none⟩) 1 1) [na].length (intsV [na])) := Lib.hid ⟨rfl, .inr ⟨X2.heap.size, 1, #[.int .i64 na], rfl, by have := HMk.out.hb; have := HbX2.out.size; omega, htV, Nat.le_refl _, by decide, rfl, rfl⟩⟩
          have HtN : Hid (∀ k, (Value.slice (some ⟨X2.heap.size, 0, none⟩) 1 1).ownBlock = some k → wr.heap.size ≤ k) := Lib.hid (fun k e => by cases e; exact HbX2.out.size)
          clear hV hbV hzV h0V htV
          have hXA := (Below.heap_alloc X2 (.cells #[.int .i64 na] 3) wr.heap.size HzX2.out).trans H0X2.out
          have t0 := Lib.cell_of_heap hXA 0
          have t1 := Lib.cell_of_heap hXA 1
          have t2 := Lib.cell_of_heap hXA 2
          have tf0 := Lib.frozen_of_heap hXA 0
          have tf1 := Lib.frozen_of_heap hXA 1
          have tf2 := Lib.frozen_of_heap hXA 2
          clear hXA
          go_upto_region 13 with fail
          rw [← HV.out]
          clear t0 t1 t2 tf0 tf1 tf2 d02
          obtain ⟨A2, hA2, hbA, hzA, h0A⟩ := gr_one V #[.slice none 0 0, .slice none 0 0, .int .i64 1, .int .i64 (-1), .slice (some ⟨X2.heap.size, 0, none⟩) 1 1] 47
          have hMV := HMk.out.keep HbV.out
          have hMA := hMV.keep hbA
          have hown := hMA.fam.own 0
          have hBX := hMV.box
          unfold boxG at hBX
          obtain ⟨x0, x1, x2, x3, x4, xf⟩ := gr_five hBX
          have xf4 := xf 4
          have y0 := Lib.cell_of_heap H0V.out 0
          have y1 := Lib.cell_of_heap H0V.out 1
          have y2 := Lib.cell_of_heap H0V.out 2
          have HOW := Lib.hid (show A2.ownsRow (w.heap.size + 1) 47 5 (.slice BA i BC) i (blocksG ds) by have := hown; rw [famG_zero] at this; rw [← Hlen.out]; rw [Hlen.out] at this; rw [Hlen.out]; exact this)
          have HNW := Lib.hid (World.news_of_block h0A)
          have HOn : Hid (∀ u ∈ ([.slice none 0 0, .slice none 0 0, .int .i64 1, .int .i64 (-1), .slice (some ⟨X2.heap.size, 0, none⟩) 1 1] : List Value), u.oneCell' = true) := Lib.hid (by
            intro u hu
            simp only [List.mem_cons, List.not_mem_nil, or_false] at hu
            rcases hu with rfl | rfl | rfl | rfl | rfl <;> rfl)
          have hsz2 := hMA.hb
          have HbA := Lib.hid hbA
          have HzA := Lib.hid hzA
          rw [hA2] at HOW HNW hsz2
          have HA2 := Lib.hid hA2
          clear hMV hMA hown hBX hA2 hbA hzA h0A xf x0 x1 x2 x3
          go_wp2_with (at_builtin; refine wpList_append_lies _ rfl (.tmp 69) (.tmp 72) 25 rfl (w.heap.size + 1) 47 k1 (.agg #[.slice none 0 0, .slice none 0 0, .int .i64 0, .int .i64 0, .slice none 0 0]) 5 88 Try.underlying25 Ki.out Kz0.out Kz1.out Kz2.out rfl (by decide) (.slice BA i BC) i (blocksG ds) rfl HOW.out ⟨V.heap.size, 0, none⟩ 1 1 [.slice none 0 0, .slice none 0 0, .int .i64 1, .int .i64 (-1), .slice (some ⟨X2.heap.size, 0, none⟩) 1 1] rfl rfl HNW.out HOn.out (by decide) (by unfold maxLen; omega) (by omega) hsz2 _ rfl ?_)
          intro gp cp w5 hown5 hgrow hat hlt5
          rw [← HA2.out] at hgrow
          clear HOW HNW hsz2 y0 y1 y2 x4 xf4
          have hd : newG (.slice (some ⟨X2.heap.size, 0, none⟩) 1 1) (endG (min l.length 14) true l[i]) = { pv := .slice none 0 0, tv := .slice (some ⟨X2.heap.size, 0, none⟩) 1 1, preds := [], kind := 1, arg := (-1), to_ := [na] } := by
            unfold newG
            rw [Hend2.out]
          have hM5 := HMk.out.more (w1 := A2) (w2 := w5) (g := gp) (c2 := cp) (d := { pv := .slice none 0 0, tv := .slice (some ⟨X2.heap.size, 0, none⟩) 1 1, preds := [], kind := 1, arg := (-1), to_ := [na] }) (HbV.out.trans (HbA.out.mono HbV.out.size)) rfl rfl (gr_up HtV.out HbA.out) HtN.out hgrow (by rw [Hlen.out]; exact hown5) (by rcases hat with h | h; exact .inl h; exact .inr (by have := HzA.out; omega))
          rw [Hlen.out] at hM5
          rw [← hd] at hM5
          have hO5 := HO.out.next him hil hM5
          have hE5 : boxG w5 w.heap.size (.slice BA i BC) := by
            have hav := HMk.out.fam.av 0
            rw [famG_zero] at hav
            exact (hgrow.block _ (by have := HMk.out.fam.el; have := HbV.out.size; have := HbA.out.size; omega) (fun e => hav e.symm)).trans ((HbA.out.block _ (by have := HMk.out.fam.el; have := HbV.out.size; omega)).trans ((HbV.out.block _ HMk.out.fam.el).trans HMk.out.box))
          unfold boxG at hE5
          obtain ⟨x0, x1, x2, x3, x4, xf⟩ := gr_five hE5
          have xf4 := xf 4
          obtain ⟨Q, hQ⟩ : ∃ Q, Q = w5.setCell ⟨w.heap.size, 4, none⟩ (.slice (some ⟨gp, 0, none⟩) (i + 1) cp) := ⟨_, rfl⟩
          rw [← hQ] at hO5
          have HO5 := Lib.hid hO5
          have HQ := Lib.hid hQ
          clear hown5 hgrow hat hlt5 HA2 hd hM5 hO5 hE5 hQ x0 x1 x2 x3 xf
          go_wp2
          rw [← HQ.out]
          go_wp2
          go_roundw
          case rel => exact ⟨i + 1, _, _, by omega, by go_num, HO5⟩
          case measure => simp [intOf]; omega
        | false =>
          have Hend2 : Hid (endG (min l.length 14) true l[i] = (2, 0, [na, nb])) := Lib.hid (by rw [Hend.out, if_neg (int_ne hab)])
          obtain ⟨V, hV, hbV, hzV, h0V, htV⟩ := term_store H0X2.out #[.int .i64 na, .int .i64 nb] (.int .i64 2) (.int .i64 0) (.slice (some ⟨X2.heap.size, 0, none⟩) 2 2)
          have HV := Lib.hid hV
          have HbV := Lib.hid (HbX2.out.trans hbV)
          have H0V := Lib.hid h0V
          have HtV : Hid (V.ownsRow (w.heap.size + 1) 3 1 (.slice (some ⟨X2.heap.size, 0, none⟩) 2 2) [na, nb].length (intsV [na, nb])) := Lib.hid ⟨rfl, .inr ⟨X2.heap.size, 2, #[.int .i64 na, .int .i64 nb], rfl, by have := HMk.out.hb; have := HbX2.out.size; omega, htV, Nat.le_refl _, by decide, rfl, rfl⟩⟩
          have HtN : Hid (∀ k, (Value.slice (some ⟨X2.heap.size, 0, none⟩) 2 2).ownBlock = some k → wr.heap.size ≤ k) := Lib.hid (fun k e => by cases e; exact HbX2.out.size)
          clear hV hbV hzV h0V htV
          have hXA := (Below.heap_alloc X2 (.cells #[.int .i64 na, .int .i64 nb] 3) wr.heap.size HzX2.out).trans H0X2.out
          have t0 := Lib.cell_of_heap hXA 0
          have t1 := Lib.cell_of_heap hXA 1
          have t2 := Lib.cell_of_heap hXA 2
          have tf0 := Lib.frozen_of_heap hXA 0
          have tf1 := Lib.frozen_of_heap hXA 1
          have tf2 := Lib.frozen_of_heap hXA 2
          clear hXA
          go_upto_region 13 with fail
          rw [← HV.out]
          clear t0 t1 t2 tf0 tf1 tf2 d02
          obtain ⟨A2, hA2, hbA, hzA, h0A⟩ := gr_one V #[.slice none 0 0, .slice none 0 0, .int .i64 2, .int .i64 0, .slice (some ⟨X2.heap.size, 0, none⟩) 2 2] 47
          have hMV := HMk.out.keep HbV.out
          have hMA := hMV.keep hbA
          have hown := hMA.fam.own 0
          have hBX := hMV.box
          unfold boxG at hBX
          obtain ⟨x0, x1, x2, x3, x4, xf⟩ := gr_five hBX
          have xf4 := xf 4
          have y0 := Lib.cell_of_heap H0V.out 0
          have y1 := Lib.cell_of_heap H0V.out 1
          have y2 := Lib.cell_of_heap H0V.out 2
          have HOW := Lib.hid (show A2.ownsRow (w.heap.size + 1) 47 5 (.slice BA i BC) i (blocksG ds) by have := hown; rw [famG_zero] at this; rw [← Hlen.out]; rw [Hlen.out] at this; rw [Hlen.out]; exact this)
          have HNW := Lib.hid (World.news_of_block h0A)
          have HOn : Hid (∀ u ∈ ([.slice none 0 0, .slice none 0 0, .int .i64 2, .int .i64 0, .slice (some ⟨X2.heap.size, 0, none⟩) 2 2] : List Value), u.oneCell' = true) := Lib.hid (by
            intro u hu
            simp only [List.mem_cons, List.not_mem_nil, or_false] at hu
            rcases hu with rfl | rfl | rfl | rfl | rfl <;> rfl)
          have hsz2 := hMA.hb
          have HbA := Lib.hid hbA
          have HzA := Lib.hid hzA
          rw [hA2] at HOW HNW hsz2
          have HA2 := Lib.hid hA2
          clear hMV hMA hown hBX hA2 hbA hzA h0A xf x0 x1 x2 x3
          go_wp2_with (at_builtin; refine wpList_append_lies _ rfl (.tmp 69) (.tmp 72) 25 rfl (w.heap.size + 1) 47 k1 (.agg #[.slice none 0 0, .slice none 0 0, .int .i64 0, .int .i64 0, .slice none 0 0]) 5 88 Try.underlying25 Ki.out Kz0.out Kz1.out Kz2.out rfl (by decide) (.slice BA i BC) i (blocksG ds) rfl HOW.out ⟨V.heap.size, 0, none⟩ 1 1 [.slice none 0 0, .slice none 0 0, .int .i64 2, .int .i64 0, .slice (some ⟨X2.heap.size, 0, none⟩) 2 2] rfl rfl HNW.out HOn.out (by decide) (by unfold maxLen; omega) (by omega) hsz2 _ rfl ?_)
          intro gp cp w5 hown5 hgrow hat hlt5
          rw [← HA2.out] at hgrow
          clear HOW HNW hsz2 y0 y1 y2 x4 xf4
          have hd : newG (.slice (some ⟨X2.heap.size, 0, none⟩) 2 2) (endG (min l.length 14) true l[i]) = { pv := .slice none 0 0, tv := .slice (some ⟨X2.heap.size, 0, none⟩) 2 2, preds := [], kind := 2, arg := 0, to_ := [na, nb] } := by
            unfold newG
            rw [Hend2.out]
          have hM5 := HMk.out.more (w1 := A2) (w2 := w5) (g := gp) (c2 := cp) (d := { pv := .slice none 0 0, tv := .slice (some ⟨X2.heap.size, 0, none⟩) 2 2, preds := [], kind := 2, arg := 0, to_ := [na, nb] }) (HbV.out.trans (HbA.out.mono HbV.out.size)) rfl rfl (gr_up HtV.out HbA.out) HtN.out hgrow (by rw [Hlen.out]; exact hown5) (by rcases hat with h | h; exact .inl h; exact .inr (by have := HzA.out; omega))
          rw [Hlen.out] at hM5
          rw [← hd] at hM5
          have hO5 := HO.out.next him hil hM5
          have hE5 : boxG w5 w.heap.size (.slice BA i BC) := by
            have hav := HMk.out.fam.av 0
            rw [famG_zero] at hav
            exact (hgrow.block _ (by have := HMk.out.fam.el; have := HbV.out.size; have := HbA.out.size; omega) (fun e => hav e.symm)).trans ((HbA.out.block _ (by have := HMk.out.fam.el; have := HbV.out.size; omega)).trans ((HbV.out.block _ HMk.out.fam.el).trans HMk.out.box))
          unfold boxG at hE5
          obtain ⟨x0, x1, x2, x3, x4, xf⟩ := gr_five hE5
          have xf4 := xf 4
          obtain ⟨Q, hQ⟩ : ∃ Q, Q = w5.setCell ⟨w.heap.size, 4, none⟩ (.slice (some ⟨gp, 0, none⟩) (i + 1) cp) := ⟨_, rfl⟩
          rw [← hQ] at hO5
          have HO5 := Lib.hid hO5
          have HQ := Lib.hid hQ
          clear hown5 hgrow hat hlt5 HA2 hd hM5 hO5 hE5 hQ x0 x1 x2 x3 xf
          go_wp2
          rw [← HQ.out]
          go_wp2
          go_roundw
          case rel => exact ⟨i + 1, _, _, by omega, by go_num, HO5⟩
          case measure => simp [intOf]; omega

    · obtain rfl : i = n := by omega
      have hsig : ds.map GD.sig = endsG l true := by rw [HO.out.sig, Hnn.out, ← endsG_len l true, List.take_length]
      have Hsig := Lib.hid hsig
      have hMk := HO.out.made
      have hlen := HO.out.len
      have hbel : Below w.heap.size w wr := hMk.bd.below HbW.out (Nat.le_refl _) (by omega)
      obtain ⟨BA, BC, hBV⟩ := gr_slice (hMk.fam.own 0)
      have hBV2 : BV = .slice BA i BC := by rw [← hlen]; exact hBV
      subst hBV2
      have Hbel := Lib.hid hbel
      have HMk := Lib.hid hMk
      have Hlen := Lib.hid hlen
      clear hsig hBV hbel hMk hlen
      have hT0 : GTwo (w.heap.size + 1) w.heap.size W wr l 0 0 (.slice BA i BC) ds := ⟨HMk.out, Hsig.out, fun j d hd => by rw [HO.out.none_ d (List.mem_of_getElem? hd)]; simp [edgesTo, edgesG, predsG]⟩
      have HT0 := Lib.hid hT0
      clear hT0 HO HMk Hsig Hlen Hbel
      go_upto_region 15 with fail
      go_loopw [10] (fun u10 wr => ∃ (q : Nat) (ds : List GD), q ≤ i ∧ u10 = .int .i64 q ∧ Hid (GTwo (w.heap.size + 1) w.heap.size W wr l q 0 (.slice BA i BC) ds)) (fun u10 _ => i - (intOf u10).toNat)
      case atStart => exact ⟨0, _, Nat.zero_le _, rfl, HT0⟩
      case round =>
        clear HT0
        obtain ⟨q, ds, hq, rfl, HT⟩ := hrel
        by_cases hlt : q < i
        · have hlen : ds.length = i := by rw [HT.out.len, ← Hnn.out]
          have hrow : wr.ownsRow (w.heap.size + 1) 47 5 (.slice BA i BC) i (blocksG ds) := by
            have h := HT.out.made.fam.own 0
            rw [famG_zero, hlen] at h
            exact h
          obtain ⟨gb, hgb, -, -, -⟩ := gr_some hrow (by omega)
          subst hgb
          obtain ⟨d0, hd0⟩ : ∃ d0, ds[q]? = some d0 := ⟨_, List.getElem?_eq_getElem (by omega)⟩
          have hto0 := HT.out.to_ hd0
          obtain ⟨ts, hts⟩ : ∃ ts, ts = d0.to_ := ⟨_, rfl⟩
          rw [← hts] at hto0
          have Hto0 := Lib.hid hto0
          have hok := ends_ok HT.out.sig Hin.out d0 (List.mem_of_getElem? hd0)
          rw [← hts] at hok
          obtain ⟨mq, hmq⟩ : ∃ mq, mq = ts.length := ⟨_, rfl⟩
          have hmq2 : mq ≤ 2 := by rw [hmq]; exact hok.1
          have Hok := Lib.hid hok
          have Hmq := Lib.hid hmq
          clear hrow hlen hto0 hok hmq hts hd0
          go_upto_region 18 with fail
          go_loopw [11] (fun u11 wr => ∃ (k : Nat) (ds : List GD), k ≤ mq ∧ u11 = .int .i64 k ∧ Hid (GTwo (w.heap.size + 1) w.heap.size W wr l q k (.slice (some ⟨gb, 0, none⟩) i BC) ds)) (fun u11 _ => mq - (intOf u11).toNat)
          case atStart => exact ⟨0, _, Nat.zero_le _, rfl, HT⟩
          case round =>
            clear HT
            obtain ⟨k, ds, hk, rfl, HT⟩ := hrel
            have hlen : ds.length = i := by rw [HT.out.len, ← Hnn.out]
            have hrow : wr.ownsRow (w.heap.size + 1) 47 5 (.slice (some ⟨gb, 0, none⟩) i BC) i (blocksG ds) := by
              have h := HT.out.made.fam.own 0
              rw [famG_zero, hlen] at h
              exact h
            obtain ⟨d, hd⟩ : ∃ d, ds[q]? = some d := ⟨_, List.getElem?_eq_getElem (by omega)⟩
            have htd := HT.out.to_ hd
            rw [Hto0.out] at htd
            injection htd with htd
            have c4 : wr.cell? ⟨gb, q * 5 + 4, none⟩ = some d.tv := by rw [hrow.cellAt (q * 5 + 4) (by omega), blocksG_at ds q 4 d hd (by omega)]; rfl
            have hT : wr.ownsRow (w.heap.size + 1) 3 1 d.tv mq (intsV ts) := by
              have h := HT.out.made.fam.own (2 * q + 1)
              rw [famG_t _ _ _ _ hd] at h
              unfold rowT at h
              rw [← htd, ← Hmq.out] at h
              exact h
            obtain ⟨TA, TC, hTV⟩ := gr_slice hT
            rw [hTV] at c4 hT
            have hBX := HT.out.made.box
            unfold boxG at hBX
            obtain ⟨-, -, -, -, x4, -⟩ := gr_five hBX
            have hnT : GNs wr.heap.size wr (.slice TA mq TC) ts := by rw [Hmq.out] at hT ⊢; exact GNs.of_own hT
            have Hd := Lib.hid hd
            have Htd := Lib.hid htd
            have HnT := Lib.hid hnT
            have Hrow := Lib.hid hrow
            have Hlen := Lib.hid hlen
            have HBX := Lib.hid hBX
            clear hd htd hT hTV hBX hnT hrow hlen
            by_cases hltk : k < mq
            · have hkl : k < ts.length := by rw [← Hmq.out]; exact hltk
              obtain ⟨b2, o2, rfl, hb2, hc2⟩ := HnT.out.at hkl
              have hx0 : ts[k]? = some ts[k] := List.getElem?_eq_getElem hkl
              obtain ⟨t0, t1⟩ := Hok.out.2.2 trivial ts[k] (List.getElem_mem hkl)
              rw [← Hnn.out] at t1
              obtain ⟨t, ht⟩ : ∃ t : Nat, (t : Int) = ts[k] := ⟨ts[k].toNat, by omega⟩
              rw [← ht] at hc2 hx0 t0 t1
              have hti : t < i := by omega
              obtain ⟨e, he⟩ : ∃ e, ds[t]? = some e := ⟨_, List.getElem?_eq_getElem (by rw [Hlen.out]; exact hti)⟩
              have hP : wr.ownsRow (w.heap.size + 1) 3 1 e.pv e.preds.length (intsV e.preds) := by
                have h := HT.out.made.fam.own (2 * t + 2)
                rw [famG_p _ _ _ _ he] at h
                exact h
              have hfew := HT.out.few Hin.out (by omega) he
              obtain ⟨PA, PC, hPV⟩ := gr_slice hP
              have p1 : wr.cell? ⟨gb, t * 5 + 1, none⟩ = some (.slice PA e.preds.length PC) := by rw [Hrow.out.cellAt (t * 5 + 1) (by omega), blocksG_at ds t 1 e he (by omega)]; simp only [GD.cells, List.getElem?_cons_succ, List.getElem?_cons_zero]; rw [← hPV]
              have pf := Hrow.out.frozenAt (t * 5 + 1)
              have Hx0 := Lib.hid hx0
              have He := Lib.hid he
              have HPV := Lib.hid hPV
              have HP := Lib.hid hP
              have gd : wr.drew.cell? ⟨w.heap.size, 4, none⟩ = some (.slice (some ⟨gb, 0, none⟩) i BC) := x4
              have HEgb : Hid ((⟨w.heap.size, 4, none⟩ : Addr).block ≠ gb) := Lib.hid (by
                have := (Hrow.out.lt gb rfl).1
                show w.heap.size ≠ gb
                omega)
              obtain ⟨Y, hY, hbY, hzY, h0Y⟩ := gr_one wr #[.int .i64 (q : Int)] 3
              have hbD : Below wr.heap.size wr Y.drew := hbY.drew
              have hP2 := HP.out
              rw [HPV.out] at hP2
              have HOW := Lib.hid (gr_up hP2 hbD)
              have HNW := Lib.hid (World.news_of_block (w := Y.drew) h0Y)
              have HOn : Hid (∀ u ∈ ([.int .i64 (q : Int)] : List Value), u.oneCell' = true) := Lib.hid (by intro u hu; simp at hu; subst hu; rfl)
              have hsz2 : w.heap.size + 1 ≤ Y.drew.heap.size := Nat.le_trans HT.out.made.hb hbD.size
              have ga : Y.drew.cell? ⟨w.heap.size, 4, none⟩ = some (.slice (some ⟨gb, 0, none⟩) i BC) := (hbD.cell (p := ⟨w.heap.size, 4, none⟩) HT.out.made.fam.el).trans x4
              have pa : Y.drew.cell? ⟨gb, t * 5 + 1, none⟩ = some (.slice PA e.preds.length PC) := (hbD.cell (p := ⟨gb, _, none⟩) (Hrow.out.lt gb rfl).2).trans p1
              have HTY := Lib.hid (HT.out.keep hbD)
              have HbD := Lib.hid hbD
              rw [hY] at HOW HNW hsz2 ga pa
              have HY := Lib.hid (show Y.drew = (wr.alloc (.cells #[.int .i64 (q : Int)] 3)).drew by rw [hY])
              clear hx0 ht t0 t1 he hP hPV hb2 hkl hY hbY hzY h0Y hP2 hbD
              go_upto_region 21 with fail
              clear c4 hc2 x4
              refine wp_region_noPanic ?_
              refine wp_region_held_drew (S := fun w' => w'.cell? ⟨w.heap.size, 4, none⟩ = some (.slice (some ⟨gb, 0, none⟩) i BC)) (by kernel_rfl) gd (fun hHeld => ?_)
              refine wpAnyH_take (i := 0) (v := ?_) rfl (by kernel_rfl) (by kernel_rfl) (by kernel_rfl) (fun _ _ _ h => h) (Or.inl ⟨by rfl, ?_⟩) (by assumption) ?_
              rotate_left
              · (intro w hSw; (try dsimp only at hSw); first | (go_simp; done) | (go_simp; with_reducible rfl))
              try simp only [Act.put, List.setIfInBounds_toArray, List.set_cons_zero, List.set_cons_succ]
              refine wpAnyH_take (i := 1) (v := ?_) rfl (by kernel_rfl) (by kernel_rfl) (by kernel_rfl) (fun _ _ _ h => h) (Or.inl ⟨by rfl, ?_⟩) (by assumption) ?_
              rotate_left
              · (intro w hSw; (try dsimp only at hSw); first | (go_simp; done) | (go_simp; with_reducible rfl))
              try simp only [Act.put, List.setIfInBounds_toArray, List.set_cons_zero, List.set_cons_succ]
              refine wpAnyH_take (i := 2) (v := ?_) rfl (by kernel_rfl) (by kernel_rfl) (by kernel_rfl) (fun _ _ _ h => h) (Or.inl ⟨by rfl, ?_⟩) (by assumption) ?_
              rotate_left
              · (intro w hSw; (try dsimp only at hSw); first | (go_simp; done) | (go_simp; with_reducible rfl))
              try simp only [Act.put, List.setIfInBounds_toArray, List.set_cons_zero, List.set_cons_succ]
              refine wpAnyH_take (i := 3) (v := ?_) rfl (by kernel_rfl) (by kernel_rfl) (by kernel_rfl) (fun _ _ _ h => h) (Or.inl ⟨by rfl, ?_⟩) (by assumption) ?_
              rotate_left
              · (intro w hSw; (try dsimp only at hSw); first | (go_simp; done) | (go_simp; with_reducible rfl))
              try simp only [Act.put, List.setIfInBounds_toArray, List.set_cons_zero, List.set_cons_succ]
              refine wpAnyH_take (i := 4) (v := ?_) rfl (by kernel_rfl) (by kernel_rfl) (by kernel_rfl) (fun _ _ _ h => h) (Or.inl ⟨by rfl, ?_⟩) (by assumption) ?_
              rotate_left
              · (intro w hSw; (try dsimp only at hSw); first | (go_simp; done) | (go_simp; with_reducible rfl))
              try simp only [Act.put, List.setIfInBounds_toArray, List.set_cons_zero, List.set_cons_succ]
              refine wpAnyH_take (i := 5) (v := ?_) rfl (by kernel_rfl) (by kernel_rfl) (by kernel_rfl) (fun _ _ _ h => h) (Or.inl ⟨by rfl, ?_⟩) (by assumption) ?_
              rotate_left
              · (intro w hSw; (try dsimp only at hSw); first | (go_simp; done) | (go_simp; with_reducible rfl))
              try simp only [Act.put, List.setIfInBounds_toArray, List.set_cons_zero, List.set_cons_succ]
              refine wpAnyH_take (i := 6) (v := ?_) rfl (by kernel_rfl) (by kernel_rfl) (by kernel_rfl) (fun _ _ _ h => h) (Or.inl ⟨by rfl, ?_⟩) (by assumption) ?_
              rotate_left
              · (intro w hSw; (try dsimp only at hSw); first | (go_simp; done) | (go_simp; with_reducible rfl))
              try simp only [Act.put, List.setIfInBounds_toArray, List.set_cons_zero, List.set_cons_succ]
              refine wpAnyH_take (i := 7) (v := ?_) rfl (by kernel_rfl) (by kernel_rfl) (by kernel_rfl) (fun _ _ _ h => h) (Or.inl ⟨by rfl, ?_⟩) (by assumption) ?_
              rotate_left
              · (intro w hSw; (try dsimp only at hSw); first | (go_simp; done) | (go_simp; with_reducible rfl))
              try simp only [Act.put, List.setIfInBounds_toArray, List.set_cons_zero, List.set_cons_succ]
              refine wpAnyH_take (i := 9) (v := ?_) rfl (by kernel_rfl) (by kernel_rfl) (by kernel_rfl) (fun _ _ _ h => h) (Or.inl ⟨by rfl, ?_⟩) (by assumption) ?_
              rotate_left
              · (intro w hSw; (try dsimp only at hSw); first | (go_simp; done) | (go_simp; with_reducible rfl))
              try simp only [Act.put, List.setIfInBounds_toArray, List.set_cons_zero, List.set_cons_succ]
              refine wpAnyH_ready (rs := [8, 10]) (by kernel_rfl) (by simp) ?_
              refine AllReadyH.cons rfl (fun K hK => ?_) (AllReadyH.cons rfl (fun K hK => ?_) (AllReadyH.nil))
              · go_simp
                refine hK.out _ _ ?_ (fun hHeld => ?_)
                · ((try dsimp only); first | with_reducible exact gd | with_reducible exact ga | with_reducible exact g5 | exact (gr_setoff HEgb.out).trans g5)
                clear hK K
                try simp only [Act.put, List.setIfInBounds_toArray, List.set_cons_zero, List.set_cons_succ]
                refine wpAnyH_ready (rs := [10]) (by kernel_rfl) (by simp) ?_
                refine AllReadyH.cons rfl (fun K hK => ?_) (AllReadyH.nil)
                go_simp
                refine hK.out _ _ ?_ (fun hHeld => ?_)
                · ((try dsimp only); first | with_reducible exact gd | with_reducible exact ga | with_reducible exact g5 | exact (gr_setoff HEgb.out).trans g5)
                clear hK K
                try simp only [Act.put, List.setIfInBounds_toArray, List.set_cons_zero, List.set_cons_succ]
                refine wpAnyH_ready (rs := [11]) (by kernel_rfl) (by simp) ?_
                refine AllReadyH.cons rfl (fun K hK => ?_) (AllReadyH.nil)
                skip
                refine step_append_lies _ rfl (.tmp 113) (.tmp 115) 23 rfl (w.heap.size + 1) 3 j1 (.int .i64 0) 1 8 Try.underlying23 Ji.out Jz0.out Jz1.out Jz2.out rfl (by decide) (.slice PA e.preds.length PC) e.preds.length (intsV e.preds) (by simp [Act.eval, Act.put]) HOW.out ⟨wr.heap.size, 0, none⟩ 1 1 [.int .i64 (q : Int)] (by simp [Act.eval, Act.put]) rfl HNW.out HOn.out (by decide) (by unfold maxLen; omega) (by omega) hsz2 _ rfl ?_
                intro gp cp w5 hown5 hgrow hat hlt5
                rw [← HY.out] at hgrow hat
                rw [← HPV.out] at hgrow hat
                have hS5 := HTY.out.step Hd.out (by rw [← Htd.out]; exact Hx0.out) He.out hgrow hown5 rfl (by rcases hat with h | h; exact .inl h; exact .inr (by rw [h]; exact Nat.le_refl _))
                have hfam := HTY.out.made.fam
                have hfp := famG_p (.slice (some ⟨gb, 0, none⟩) i BC) ds t e He.out
                have hav := hfam.av (2 * t + 2)
                rw [hfp] at hav
                have hne := hfam.ne 0 (2 * t + 2) (by omega)
                rw [hfp, famG_zero] at hne
                have hE5 := (hgrow.block w.heap.size hfam.el (fun e => hav e.symm)).trans HTY.out.made.box
                have hr5 : w5.ownsRow (w.heap.size + 1) 47 5 (.slice (some ⟨gb, 0, none⟩) i BC) i (blocksG ds) := (gr_up Hrow.out HbD.out).kept hgrow hne
                have g5 : w5.cell? ⟨w.heap.size, 4, none⟩ = some (.slice (some ⟨gb, 0, none⟩) i BC) := Lib.cell_of_heap hE5 4
                have p5 : w5.cell? ⟨gb, t * 5 + 1, none⟩ = some (.slice PA e.preds.length PC) := by rw [hr5.cellAt (t * 5 + 1) (by omega), blocksG_at ds t 1 e He.out (by omega)]; simp only [GD.cells, List.getElem?_cons_succ, List.getElem?_cons_zero]; rw [← HPV.out]
                have pf5 := hr5.frozenAt (t * 5 + 1)
                have HS5 := Lib.hid hS5
                clear hown5 hgrow hat hlt5 hS5 hfam hfp hav hne hE5 hr5 HOW HNW hsz2 HY HTY HbD
                refine hK.out _ _ ?_ (fun hHeld => ?_)
                · ((try dsimp only); first | with_reducible exact gd | with_reducible exact ga | with_reducible exact g5 | exact (gr_setoff HEgb.out).trans g5)
                clear hK K
                try simp only [Act.put, List.setIfInBounds_toArray, List.set_cons_zero, List.set_cons_succ]
                refine wpAnyH_take (i := 12) (v := ?_) rfl (by kernel_rfl) (by kernel_rfl) (by kernel_rfl) (fun _ _ _ h => h) (Or.inl ⟨by rfl, ?_⟩) (by assumption) ?_
                rotate_left
                · (intro w hSw; (try dsimp only at hSw); first | (go_simp; done) | (go_simp; with_reducible rfl))
                try simp only [Act.put, List.setIfInBounds_toArray, List.set_cons_zero, List.set_cons_succ]
                refine wpAnyH_take (i := 13) (v := ?_) rfl (by kernel_rfl) (by kernel_rfl) (by kernel_rfl) (fun _ _ _ h => h) (Or.inl ⟨by rfl, ?_⟩) (by assumption) ?_
                rotate_left
                · (intro w hSw; (try dsimp only at hSw); first | (go_simp; done) | (go_simp; with_reducible rfl))
                try simp only [Act.put, List.setIfInBounds_toArray, List.set_cons_zero, List.set_cons_succ]
                refine wpAnyH_ready (rs := [14]) (by kernel_rfl) (by simp) ?_
                refine AllReadyH.cons rfl (fun K hK => ?_) (AllReadyH.nil)
                go_simp
                refine hK.out _ _ ?_ (fun hHeld => ?_)
                · ((try dsimp only); first | with_reducible exact gd | with_reducible exact ga | with_reducible exact g5 | exact (gr_setoff HEgb.out).trans g5)
                clear hK K
                try simp only [Act.put, List.setIfInBounds_toArray, List.set_cons_zero, List.set_cons_succ]
                refine wpAnyH_done (by kernel_rfl) ?_ _
                refine NoPanic.normal ?_
                clear gd ga pa pf p1 g5 p5 pf5
                go_wp2
                go_roundw
                case rel => exact ⟨k + 1, _, by omega, by go_num, HS5⟩
                case measure => simp [intOf]; omega
              · go_simp
                refine hK.out _ _ ?_ (fun hHeld => ?_)
                · ((try dsimp only); first | with_reducible exact gd | with_reducible exact ga | with_reducible exact g5 | exact (gr_setoff HEgb.out).trans g5)
                clear hK K
                try simp only [Act.put, List.setIfInBounds_toArray, List.set_cons_zero, List.set_cons_succ]
                refine wpAnyH_ready (rs := [8]) (by kernel_rfl) (by simp) ?_
                refine AllReadyH.cons rfl (fun K hK => ?_) (AllReadyH.nil)
                go_simp
                refine hK.out _ _ ?_ (fun hHeld => ?_)
                · ((try dsimp only); first | with_reducible exact gd | with_reducible exact ga | with_reducible exact g5 | exact (gr_setoff HEgb.out).trans g5)
                clear hK K
                try simp only [Act.put, List.setIfInBounds_toArray, List.set_cons_zero, List.set_cons_succ]
                refine wpAnyH_ready (rs := [11]) (by kernel_rfl) (by simp) ?_
                refine AllReadyH.cons rfl (fun K hK => ?_) (AllReadyH.nil)
                skip
                refine step_append_lies _ rfl (.tmp 113) (.tmp 115) 23 rfl (w.heap.size + 1) 3 j1 (.int .i64 0) 1 8 Try.underlying23 Ji.out Jz0.out Jz1.out Jz2.out rfl (by decide) (.slice PA e.preds.length PC) e.preds.length (intsV e.preds) (by simp [Act.eval, Act.put]) HOW.out ⟨wr.heap.size, 0, none⟩ 1 1 [.int .i64 (q : Int)] (by simp [Act.eval, Act.put]) rfl HNW.out HOn.out (by decide) (by unfold maxLen; omega) (by omega) hsz2 _ rfl ?_
                intro gp cp w5 hown5 hgrow hat hlt5
                rw [← HY.out] at hgrow hat
                rw [← HPV.out] at hgrow hat
                have hS5 := HTY.out.step Hd.out (by rw [← Htd.out]; exact Hx0.out) He.out hgrow hown5 rfl (by rcases hat with h | h; exact .inl h; exact .inr (by rw [h]; exact Nat.le_refl _))
                have hfam := HTY.out.made.fam
                have hfp := famG_p (.slice (some ⟨gb, 0, none⟩) i BC) ds t e He.out
                have hav := hfam.av (2 * t + 2)
                rw [hfp] at hav
                have hne := hfam.ne 0 (2 * t + 2) (by omega)
                rw [hfp, famG_zero] at hne
                have hE5 := (hgrow.block w.heap.size hfam.el (fun e => hav e.symm)).trans HTY.out.made.box
                have hr5 : w5.ownsRow (w.heap.size + 1) 47 5 (.slice (some ⟨gb, 0, none⟩) i BC) i (blocksG ds) := (gr_up Hrow.out HbD.out).kept hgrow hne
                have g5 : w5.cell? ⟨w.heap.size, 4, none⟩ = some (.slice (some ⟨gb, 0, none⟩) i BC) := Lib.cell_of_heap hE5 4
                have p5 : w5.cell? ⟨gb, t * 5 + 1, none⟩ = some (.slice PA e.preds.length PC) := by rw [hr5.cellAt (t * 5 + 1) (by omega), blocksG_at ds t 1 e He.out (by omega)]; simp only [GD.cells, List.getElem?_cons_succ, List.getElem?_cons_zero]; rw [← HPV.out]
                have pf5 := hr5.frozenAt (t * 5 + 1)
                have HS5 := Lib.hid hS5
                clear hown5 hgrow hat hlt5 hS5 hfam hfp hav hne hE5 hr5 HOW HNW hsz2 HY HTY HbD
                refine hK.out _ _ ?_ (fun hHeld => ?_)
                · ((try dsimp only); first | with_reducible exact gd | with_reducible exact ga | with_reducible exact g5 | exact (gr_setoff HEgb.out).trans g5)
                clear hK K
                try simp only [Act.put, List.setIfInBounds_toArray, List.set_cons_zero, List.set_cons_succ]
                refine wpAnyH_take (i := 12) (v := ?_) rfl (by kernel_rfl) (by kernel_rfl) (by kernel_rfl) (fun _ _ _ h => h) (Or.inl ⟨by rfl, ?_⟩) (by assumption) ?_
                rotate_left
                · (intro w hSw; (try dsimp only at hSw); first | (go_simp; done) | (go_simp; with_reducible rfl))
                try simp only [Act.put, List.setIfInBounds_toArray, List.set_cons_zero, List.set_cons_succ]
                refine wpAnyH_take (i := 13) (v := ?_) rfl (by kernel_rfl) (by kernel_rfl) (by kernel_rfl) (fun _ _ _ h => h) (Or.inl ⟨by rfl, ?_⟩) (by assumption) ?_
                rotate_left
                · (intro w hSw; (try dsimp only at hSw); first | (go_simp; done) | (go_simp; with_reducible rfl))
                try simp only [Act.put, List.setIfInBounds_toArray, List.set_cons_zero, List.set_cons_succ]
                refine wpAnyH_ready (rs := [14]) (by kernel_rfl) (by simp) ?_
                refine AllReadyH.cons rfl (fun K hK => ?_) (AllReadyH.nil)
                go_simp
                refine hK.out _ _ ?_ (fun hHeld => ?_)
                · ((try dsimp only); first | with_reducible exact gd | with_reducible exact ga | with_reducible exact g5 | exact (gr_setoff HEgb.out).trans g5)
                clear hK K
                try simp only [Act.put, List.setIfInBounds_toArray, List.set_cons_zero, List.set_cons_succ]
                refine wpAnyH_done (by kernel_rfl) ?_ _
                refine NoPanic.normal ?_
                clear gd ga pa pf p1 g5 p5 pf5
                go_wp2
                go_roundw
                case rel => exact ⟨k + 1, _, by omega, by go_num, HS5⟩
                case measure => simp [intOf]; omega
            · obtain rfl : k = mq := by omega
              have hN : GTwo (w.heap.size + 1) w.heap.size W wr l (q + 1) 0 (.slice (some ⟨gb, 0, none⟩) i BC) ds := (show GTwo (w.heap.size + 1) w.heap.size W wr l q d.to_.length (.slice (some ⟨gb, 0, none⟩) i BC) ds by rw [← Htd.out, ← Hmq.out]; exact HT.out).next Hd.out
              have HN := Lib.hid hN
              clear hN
              go_wp2
              go_roundw
              case rel => exact ⟨q + 1, _, by omega, by go_num, HN⟩
              case measure => simp [intOf]; omega
        · obtain rfl : q = i := by omega
          have hBX := HT.out.made.box
          unfold boxG at hBX
          obtain ⟨x0, x1, x2, x3, x4, xf⟩ := gr_five hBX
          have xf0 := xf 0
          have xf1 := xf 1
          have xf2 := xf 2
          have xf3 := xf 3
          have xf4 := xf 4
          clear hBX xf
          go_wp2
          rw [five_same HT.out.made.box]
          have hlen : ds.length = q := by rw [HT.out.len, ← Hnn.out]
          have hE : edgesTo (tosL l) q 0 = edgesG 0 (tosL l) := by
            have h1 : (tosL l).length = q := by unfold tosL; rw [List.length_map, endsG_len, ← Hnn.out]
            have h2 := edgesTo_end (tosL l)
            rw [h1] at h2
            exact h2
          have hlt2 := fun e he => edgesG_lt (tosL l) 0 e he
          have h1 : (tosL l).length = q := by unfold tosL; rw [List.length_map, endsG_len, ← Hnn.out]
          have hll := edgesTo_len (tos := tosL l) (i := q) (k := 0) (fun t ht => by
            obtain ⟨e, he, rfl⟩ := List.mem_map.1 ht
            exact (endsG_ok Hin.out e he).1) hn14
          rw [hE] at hll
          refine ⟨rfl, _, by simp [results, Try.results9, go_sem, x0, x1, x2, x3, x4], _, rfl, HT.out.made.end_ hlen hn14 HT.out.sig Hin.out (E2 := edgesG 0 (tosL l)) (fun j d hd => by rw [HT.out.prd j d hd, hE]) (by omega) (fun e he => by have := hlt2 e he; omega) (by simp [graphP, tosL]), HT.out.made.bd.below HbW.out (Nat.le_refl _) (by omega)⟩
end Go.Proofs.Ytoplllebaagnnaa
