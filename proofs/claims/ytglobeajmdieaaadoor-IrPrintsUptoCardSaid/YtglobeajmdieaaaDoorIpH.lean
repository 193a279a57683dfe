/-
  Both texts are the same; Small.
-/
import Derived.Test.YtglobeajmdieaaaDoorIpG
namespace Go.Proofs.YtglobeajmdieaaaDoor
open Go.RowKit Go.Sort
set_option linter.unusedVariables false
set_option linter.unusedSimpArgs false

theorem RdN.mono {B B' : Nat} {w : World} {v : Value} {l : List Int} (h : RdN B w v l) (hB : B ≤ B') : RdN B' w v l := by
  obtain ⟨A, c, hv, hr⟩ := h
  refine ⟨A, c, hv, fun hp => ?_⟩
  obtain ⟨b, o, ob, hA, hb, hn, hc⟩ := hr hp
  exact ⟨b, o, ob, hA, hb, hn.imp (fun h => by omega) id, hc⟩
theorem RdI.mono {B B' : Nat} {w : World} {v : Value} {l : List InD} (h : RdI B w v l) (hB : B ≤ B') : RdI B' w v l := by
  obtain ⟨A, c, hv, hl, hr⟩ := h
  refine ⟨A, c, hv, hl, fun hp => ?_⟩
  obtain ⟨b, o, ob, hA, hb, hn, hc⟩ := hr hp
  refine ⟨b, o, ob, hA, hb, by omega, fun j d hd => ?_⟩
  obtain ⟨va, h0, h1, h2, h3, h4, h5⟩ := hc j d hd
  exact ⟨va, h0, h1, h2, h3, h4, h5.mono hB⟩
theorem RdB.mono {B B' : Nat} {w : World} {v : Value} {l : List BkD} (h : RdB B w v l) (hB : B ≤ B') : RdB B' w v l := by
  obtain ⟨A, c, hv, hl, hr⟩ := h
  refine ⟨A, c, hv, hl, fun hp => ?_⟩
  obtain ⟨b, o, ob, hA, hb, hn, hc⟩ := hr hp
  refine ⟨b, o, ob, hA, hb, by omega, fun j d hd => ?_⟩
  obtain ⟨lv, pv, tv, h0, h1, h2, h3, h4, h5, h6, h7⟩ := hc j d hd
  exact ⟨lv, pv, tv, h0, h1, h2, h3, h4, h5.mono hB, h6.mono hB, h7.mono hB⟩
theorem RdI.cut {B n c : Nat} {w : World} {A : Option Addr} {l : List InD} (h : RdI B w (.slice A n c) l) (k : Nat) (hk : k ≤ l.length) : RdI B w (.slice A k c) (l.take k) := by
  obtain ⟨A', c', hv, hl, hr⟩ := h
  injection hv with e1 e2 e3
  subst e1; subst e3
  refine ⟨A, c, by rw [List.length_take, Nat.min_eq_left hk], by rw [List.length_take]; omega, fun hp => ?_⟩
  obtain ⟨b, o, ob, hA, hb, hn, hc⟩ := hr (by rw [List.length_take] at hp; omega)
  refine ⟨b, o, ob, hA, hb, hn, fun j d hd => hc j d ?_⟩
  rw [List.getElem?_take] at hd
  split at hd
  · exact hd
  · cases hd
theorem RdB.cut {B n c : Nat} {w : World} {A : Option Addr} {l : List BkD} (h : RdB B w (.slice A n c) l) (k : Nat) (hk : k ≤ l.length) : RdB B w (.slice A k c) (l.take k) := by
  obtain ⟨A', c', hv, hl, hr⟩ := h
  injection hv with e1 e2 e3
  subst e1; subst e3
  refine ⟨A, c, by rw [List.length_take, Nat.min_eq_left hk], by rw [List.length_take]; omega, fun hp => ?_⟩
  obtain ⟨b, o, ob, hA, hb, hn, hc⟩ := hr (by rw [List.length_take] at hp; omega)
  refine ⟨b, o, ob, hA, hb, hn, fun j d hd => hc j d ?_⟩
  rw [List.getElem?_take] at hd
  split at hd
  · exact hd
  · cases hd

theorem sayP_row (word : List UInt8) (l : List Int) : sayP word l = word ++ rowP l := rfl
theorem line_eq' (is : List InD) (id : Int) (X : List UInt8) : lineP is id ++ 10 :: X = 10 :: (rLineOf is id ++ X) := by
  unfold lineP rLineOf
  by_cases h : 0 ≤ id ∧ id < is.length
  · rw [if_pos h, if_pos h]
    cases is[id.toNat]? with
    | none => simp
    | some d => simp [insP, rLine, sayP, rowP, List.flatMap_cons]
  · rw [if_neg h, if_neg h]
    simp
theorem lines_eq (is : List InD) : ∀ (l : List Int) (X : List UInt8), linesP is l ++ 10 :: X = 10 :: (rLines is l ++ X)
  | [], X => by simp [linesP, rLines]
  | id :: l, X => by
    have h := lines_eq is l X
    have e1 : linesP is (id :: l) = lineP is id ++ linesP is l := by simp [linesP]
    have e2 : rLines is (id :: l) = rLineOf is id ++ rLines is l := by simp [rLines]
    rw [e1, e2, List.append_assoc, h, line_eq', List.append_assoc]
theorem block_eq (is : List InD) (b : Nat) (d : BkD) (X : List UInt8) : blockP is b d ++ 10 :: X = 10 :: (rBlock is b d ++ X) := by
  have h := lines_eq is d.list ([32, 32, 101, 110, 100] ++ (rowP [d.kind, d.arg] ++ (sayP [32, 116, 111] d.to_ ++ 10 :: X)))
  unfold blockP rBlock rBeg rEnd
  simp only [sayP_row, List.append_assoc, List.cons_append, List.nil_append] at h ⊢
  rw [h]
  simp [rowP, List.flatMap_cons]
theorem blocks_eq (is : List InD) : ∀ (l : List BkD) (b : Nat), blocksP is l b ++ [10] = 10 :: rBlocks is l b
  | [], b => by simp [blocksP, rBlocks]
  | d :: l, b => by
    unfold blocksP rBlocks
    rw [List.append_assoc, blocks_eq is l (b + 1), block_eq]
theorem texts_eq (s : List UInt8) (ps : List Int) (r : Int) (is : List InD) (bs : List BkD) : [102, 117, 110, 99, 32] ++ s ++ (sayP [] ps ++ (sayP [32, 58] [r] ++ (blocksP is bs 0 ++ [10]))) = rHead s ps r ++ rBlocks is bs 0 := by
  rw [blocks_eq]
  simp [rHead, sayP, rowP, List.flatMap_cons]
end Go.Proofs.YtglobeajmdieaaaDoor
