/-
  The law's Graph, walked.
-/
import Derived.Test.YtagagpappjkgbaaJx4
namespace Go.Proofs.Ytagagpappjkgbaa
set_option linter.unusedVariables false
set_option linter.unusedSimpArgs false
open Go.RowKit

def GD.sig (d : GD) : Int × Int × List Int := (d.kind, d.arg, d.to_)
def newG (tv : Value) (e : Int × Int × List Int) : GD := { pv := .slice none 0 0, tv := tv, preds := [], kind := e.1, arg := e.2.1, to_ := e.2.2 }
/-- So many blocks are made. -/
structure GOne (base E : Nat) (w0 w : World) (l : List (Int × Int)) (whole : Bool) (i : Nat) (BV : Value) (ds : List GD) : Prop where
  made : GMk base E w0 w BV ds
  len : ds.length = i
  sig : ds.map GD.sig = (endsG l whole).take i
  none_ : ∀ d ∈ ds, d.preds = []
theorem endsG_len (l : List (Int × Int)) (whole : Bool) : (endsG l whole).length = min l.length 14 := by simp [endsG]; omega
theorem endsG_at (l : List (Int × Int)) (whole : Bool) (i : Nat) (hi : i < min l.length 14) (hl : i < l.length) : (endsG l whole)[i]? = some (endG (min l.length 14) whole l[i]) := by
  unfold endsG
  rw [List.getElem?_map, List.getElem?_take, if_pos (by omega), List.getElem?_eq_getElem hl]
  rfl
theorem GOne.next {base E : Nat} {w0 w w3 : World} {l : List (Int × Int)} {whole : Bool} {i : Nat} {BV BV' tv : Value} {ds : List GD} (h : GOne base E w0 w l whole i BV ds) (hi : i < min l.length 14) (hl : i < l.length)
    (hm : GMk base E w0 w3 BV' (ds ++ [newG tv (endG (min l.length 14) whole l[i])])) : GOne base E w0 w3 l whole (i + 1) BV' (ds ++ [newG tv (endG (min l.length 14) whole l[i])]) :=
  ⟨hm, by simp [h.len], by
    have h2 : i < (endsG l whole).length := by rw [endsG_len]; exact hi
    rw [List.map_append, h.sig, List.take_succ_eq_append_getElem h2]
    congr 1
    have := endsG_at l whole i hi hl
    rw [List.getElem?_eq_getElem h2] at this
    injection this with this
    rw [this]
    rfl, fun d hd => by
      rcases List.mem_append.1 hd with hd | hd
      · exact h.none_ d hd
      · simp at hd; rw [hd]; rfl⟩
def GD.gb (d : GD) : GB := { list := .slice none 0 0, preds := d.preds, kind := d.kind, arg := d.arg, to_ := d.to_ }
theorem GMk.blocks {base E : Nat} {w0 w : World} {A : Option Addr} {n c : Nat} {ds : List GD} (h : GMk base E w0 w (.slice A n c) ds) (hn : n = ds.length) (hl : ds.length ≤ 1048576) (hok : ∀ d ∈ ds, d.gb.ok) : GBs w.heap.size w (.slice A n c) (ds.map GD.gb) := by
  have ho := h.fam.own 0
  rw [famG_zero] at ho
  refine ⟨A, c, by simp [hn], by simpa using hl, fun d hd => ?_, fun hp => ?_⟩
  · obtain ⟨d', hd', rfl⟩ := List.mem_map.1 hd
    exact hok d' hd'
  · rw [List.length_map] at hp
    subst hn
    obtain ⟨g, hg, -, -, hgl⟩ := gr_some ho hp
    subst hg
    refine ⟨g, 0, rfl, hgl, fun j d hd => ?_⟩
    rw [List.getElem?_map] at hd
    obtain ⟨e, he, rfl⟩ := Option.map_eq_some_iff.1 hd
    have hj : j < ds.length := (List.getElem?_eq_some_iff.1 he).1
    have k : ∀ q, q < 5 → w.cell? ⟨g, 0 + j * 5 + q, none⟩ = e.cells[q]? := fun q hq => by
      rw [Nat.zero_add, ho.cellAt (j * 5 + q) (by show _ < ds.length * 5; omega)]
      exact blocksG_at ds j q e he hq
    have hT := h.fam.own (2 * j + 1)
    have hP := h.fam.own (2 * j + 2)
    rw [famG_t _ _ _ _ he] at hT
    rw [famG_p _ _ _ _ he] at hP
    exact ⟨e.pv, e.tv, k 0 (by omega), k 1 (by omega), k 2 (by omega), k 3 (by omega), k 4 (by omega), GNs.of_own hP, GNs.of_own hT, none, 0, 0, rfl⟩
theorem endG_ok {n : Nat} {whole : Bool} {x : Int × Int} (hn : 0 < n) (hn2 : n ≤ 14) (hx : InG x.1 ∧ InG x.2) : (endG n whole x).2.2.length ≤ 2 ∧ (∀ t ∈ (endG n whole x).2.2, InG t) ∧ (whole = true → ∀ t ∈ (endG n whole x).2.2, 0 ≤ t ∧ t < n) := by
  have na := normG_in n x.1 (by omega)
  have nb := normG_in n x.2 (by omega)
  cases whole with
  | false =>
    unfold endG
    simp only [Bool.false_eq_true, if_false, and_false]
    by_cases h2 : x.1 = x.2
    · rw [if_pos h2]
      exact ⟨by simp, by simpa using hx.1, fun h => by simp at h⟩
    · rw [if_neg h2]
      exact ⟨by simp, by simpa using hx, fun h => by simp at h⟩
  | true =>
    unfold endG
    simp only [if_true]
    by_cases h1 : x.1 = -1 ∧ True
    · rw [if_pos h1]
      exact ⟨by simp, by simp, by simp⟩
    · rw [if_neg h1]
      by_cases h2 : normG n x.1 = normG n x.2
      · rw [if_pos h2]
        exact ⟨by simp, fun t ht => by simp at ht; subst ht; unfold InG; omega, fun _ t ht => by simp at ht; subst ht; exact na⟩
      · rw [if_neg h2]
        exact ⟨by simp, fun t ht => by simp at ht; unfold InG; rcases ht with rfl | rfl <;> omega, fun _ t ht => by simp at ht; rcases ht with rfl | rfl <;> assumption⟩
theorem endsG_ok {l : List (Int × Int)} {whole : Bool} (hin : ∀ x ∈ l, InG x.1 ∧ InG x.2) : ∀ e ∈ endsG l whole, e.2.2.length ≤ 2 ∧ (∀ t ∈ e.2.2, InG t) ∧ (whole = true → ∀ t ∈ e.2.2, 0 ≤ t ∧ t < (min l.length 14 : Nat)) := by
  intro e he
  obtain ⟨x, hx, rfl⟩ := List.mem_map.1 he
  have hl : 0 < l.length := List.length_pos_of_mem (List.mem_of_mem_take hx)
  exact endG_ok (by omega) (by omega) (hin x (List.mem_of_mem_take hx))
/-- Which edges are entered, with k of block i. -/
def edgesTo (tos : List (List Int)) (i k : Nat) : List (Nat × Int) := edgesG 0 (tos.take i) ++ (((tos[i]?).getD []).take k).map fun x => (i, x)
theorem edgesTo_step {tos : List (List Int)} {i k : Nat} {ts : List Int} {x : Int} (h : tos[i]? = some ts) (hx : ts[k]? = some x) : edgesTo tos i (k + 1) = edgesTo tos i k ++ [(i, x)] := by
  unfold edgesTo
  obtain ⟨hk, rfl⟩ := List.getElem?_eq_some_iff.1 hx
  rw [h, Option.getD_some, List.take_succ_eq_append_getElem hk, List.map_append, List.append_assoc]
  rfl
theorem edgesTo_next {tos : List (List Int)} {i : Nat} {ts : List Int} (h : tos[i]? = some ts) : edgesTo tos i ts.length = edgesTo tos (i + 1) 0 := by
  unfold edgesTo
  obtain ⟨hi, rfl⟩ := List.getElem?_eq_some_iff.1 h
  rw [h, Option.getD_some, List.take_length, List.take_succ_eq_append_getElem hi, edgesG_app]
  simp [edgesG]
  omega
theorem edgesG_len : ∀ (ts : List (List Int)) (i : Nat), (∀ t ∈ ts, t.length ≤ 2) → (edgesG i ts).length ≤ 2 * ts.length
  | [], _, _ => by simp [edgesG]
  | t :: ts, i, h => by
    have h1 := edgesG_len ts (i + 1) (fun x hx => h x (List.mem_cons_of_mem _ hx))
    have h2 := h t (by simp)
    simp [edgesG]
    omega
theorem edgesTo_len {tos : List (List Int)} {i k : Nat} (h : ∀ t ∈ tos, t.length ≤ 2) (hi : i ≤ 14) : (edgesTo tos i k).length ≤ 30 := by
  unfold edgesTo
  have h1 := edgesG_len (tos.take i) 0 (fun t ht => h t (List.mem_of_mem_take ht))
  have h2 : ((tos[i]?).getD []).length ≤ 2 := by
    cases ht : tos[i]? with
    | none => simp
    | some t => exact h t (List.mem_of_getElem? ht)
  simp at h1 ⊢
  omega
def tosL (l : List (Int × Int)) : List (List Int) := (endsG l true).map fun e => e.2.2
/-- The second loop: k ends of block i are entered. -/
structure GTwo (base E : Nat) (w0 w : World) (l : List (Int × Int)) (i k : Nat) (BV : Value) (ds : List GD) : Prop where
  made : GMk base E w0 w BV ds
  sig : ds.map GD.sig = endsG l true
  prd : ∀ j d, ds[j]? = some d → d.preds = predsG (edgesTo (tosL l) i k) j
theorem GTwo.len {base E : Nat} {w0 w : World} {l : List (Int × Int)} {i k : Nat} {BV : Value} {ds : List GD} (h : GTwo base E w0 w l i k BV ds) : ds.length = min l.length 14 := by
  have := congrArg List.length h.sig
  rw [List.length_map, endsG_len] at this
  exact this
theorem GTwo.to_ {base E : Nat} {w0 w : World} {l : List (Int × Int)} {i k j : Nat} {BV : Value} {ds : List GD} {d : GD} (h : GTwo base E w0 w l i k BV ds) (hd : ds[j]? = some d) : (tosL l)[j]? = some d.to_ := by
  unfold tosL
  rw [← h.sig, List.map_map, List.getElem?_map, hd]
  rfl
theorem GTwo.step {base E : Nat} {w0 w w2 : World} {l : List (Int × Int)} {i k t gb n c g c2 m : Nat} {ds : List GD} {d e : GD} (h : GTwo base E w0 w l i k (.slice (some ⟨gb, 0, none⟩) n c) ds) (hd : ds[i]? = some d) (hx : d.to_[k]? = some (t : Int)) (he : ds[t]? = some e)
    (hg : w.grownBy w2 e.pv.ownBlock) (ho : w2.ownsRow base 3 1 (.slice (some ⟨g, 0, none⟩) m c2) m (intsV e.preds ++ [.int .i64 (i : Int)])) (hm : m = e.preds.length + 1) (hat : e.pv.ownBlock = some g ∨ w.heap.size ≤ g) :
    GTwo base E w0 (w2.setCell ⟨gb, t * 5 + 1, none⟩ (.slice (some ⟨g, 0, none⟩) m c2)) l i (k + 1) (.slice (some ⟨gb, 0, none⟩) n c) (ds.set t { e with pv := .slice (some ⟨g, 0, none⟩) m c2, preds := e.preds ++ [(i : Int)] }) := by
  refine ⟨h.made.pred he hg ho hm hat, ?_, fun j f hf => ?_⟩
  · rw [← h.sig]
    apply List.ext_getElem?
    intro j
    rw [List.getElem?_map, List.getElem?_map]
    by_cases hj : t = j
    · subst hj
      rw [List.getElem?_set_self (List.getElem?_eq_some_iff.1 he).1, he]
      rfl
    · rw [List.getElem?_set_ne hj]
  · rw [edgesTo_step (h.to_ hd) hx, predsG_app]
    by_cases hj : t = j
    · subst hj
      rw [List.getElem?_set_self (List.getElem?_eq_some_iff.1 he).1] at hf
      injection hf with hf
      rw [← hf, if_pos rfl, ← h.prd t e he]
    · rw [List.getElem?_set_ne hj] at hf
      rw [if_neg (by omega)]
      exact h.prd j f hf
theorem GTwo.next {base E : Nat} {w0 w : World} {l : List (Int × Int)} {i : Nat} {BV : Value} {ds : List GD} {d : GD} (h : GTwo base E w0 w l i d.to_.length BV ds) (hd : ds[i]? = some d) : GTwo base E w0 w l (i + 1) 0 BV ds :=
  ⟨h.made, h.sig, fun j e he => by rw [← edgesTo_next (h.to_ hd)]; exact h.prd j e he⟩
theorem GTwo.keep {base E : Nat} {w0 w w' : World} {l : List (Int × Int)} {i k : Nat} {BV : Value} {ds : List GD} (h : GTwo base E w0 w l i k BV ds) (hb : Below w.heap.size w w') : GTwo base E w0 w' l i k BV ds := ⟨h.made.keep hb, h.sig, h.prd⟩
theorem GTwo.few {base E : Nat} {w0 w : World} {l : List (Int × Int)} {i k j : Nat} {BV : Value} {ds : List GD} {d : GD} (h : GTwo base E w0 w l i k BV ds) (hin : ∀ x ∈ l, InG x.1 ∧ InG x.2) (hi : i ≤ 14) (hd : ds[j]? = some d) : d.preds.length ≤ 30 := by
  rw [h.prd j d hd]
  unfold predsG
  rw [List.length_map]
  have h1 := List.length_filter_le (fun e : Nat × Int => e.2 == (j : Int)) (edgesTo (tosL l) i k)
  have h2 := edgesTo_len (tos := tosL l) (k := k) (fun t ht => by
    obtain ⟨e, he, rfl⟩ := List.mem_map.1 ht
    exact (endsG_ok hin e he).1) hi
  omega
end Go.Proofs.Ytagagpappjkgbaa
