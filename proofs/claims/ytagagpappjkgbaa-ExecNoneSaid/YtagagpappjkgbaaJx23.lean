/-
  No table has too many cells: steps keep it.
-/
import Derived.Test.YtagagpappjkgbaaJx18
namespace Go.Proofs.Ytagagpappjkgbaa
set_option linter.unusedVariables false
set_option linter.unusedSimpArgs false
open Go.RowKit

theorem TabsOk.same {r r' : XR} (h : TabsOk r) (e : r'.tabs = r.tabs) : TabsOk r' := fun T hT => h T (by rw [← e]; exact hT)
theorem set_tabs {r r' : XR} {id : Int} {v : XV} (hs : setX r id v = some r') : r'.tabs = r.tabs := by
  obtain ⟨k, ps, p, -, -, -, -, rfl⟩ := setX_some hs
  rfl
theorem tabs_create {r r' : XR} {id : Int} {x : SIn} (h : TabsOk r) (hx : createX r id x = some r') : TabsOk r' := by
  unfold createX at hx
  rw [Option.bind_eq_some_iff] at hx
  obtain ⟨n, hn, hx⟩ := hx
  rw [Option.bind_eq_some_iff] at hx
  obtain ⟨m, hm, hx⟩ := hx
  split at hx
  · injection hx with hx
    subst hx
    exact h.same rfl
  · next hb =>
    split at hx
    · injection hx with hx
      subst hx
      exact tabs_take h _
    · refine TabsOk.same ?_ (set_tabs hx)
      intro T hT
      rcases List.mem_append.mp hT with h1 | h1
      · exact tabs_take h _ T h1
      · rw [List.mem_singleton] at h1
        subst h1
        show (List.replicate _ _).length ≤ _
        rw [List.length_replicate]
        simp only [Bool.or_eq_true, Bool.not_eq_true', decide_eq_true_eq, not_or] at hb
        omega
theorem tabs_cell {r r' : XR} {id : Int} {x : SIn} (h : TabsOk r) (hx : cellX r id x = some r') : TabsOk r' := by
  unfold cellX at hx
  rw [Option.bind_eq_some_iff] at hx
  obtain ⟨v, hv, hx⟩ := hx
  rw [Option.bind_eq_some_iff] at hx
  obtain ⟨t, ht, hx⟩ := hx
  rw [Option.bind_eq_some_iff] at hx
  obtain ⟨T, hT, hx⟩ := hx
  rw [Option.bind_eq_some_iff] at hx
  obtain ⟨i, hi, hx⟩ := hx
  split at hx
  · injection hx with hx
    subst hx
    exact h.same rfl
  · split at hx
    · rw [Option.map_eq_some_iff] at hx
      obtain ⟨u, -, rfl⟩ := hx
      intro U hU
      rcases List.mem_or_eq_of_mem_set hU with h1 | h1
      · exact h U h1
      · subst h1
        show (T.cells.set _ _).length ≤ _
        rw [List.length_set]
        exact h T (List.mem_of_getElem? hT)
    · rw [Option.bind_eq_some_iff] at hx
      obtain ⟨c, -, hx⟩ := hx
      exact h.same (set_tabs hx)
theorem input_tabs {r r' : XR} {id : Int} (hx : inputX r id = some r') : r'.tabs = r.tabs := by
  unfold inputX at hx
  split at hx
  · injection hx with hx
    subst hx
    rfl
  · rw [Option.map_eq_some_iff] at hx
    obtain ⟨r1, h1, rfl⟩ := hx
    have := set_tabs h1
    exact this
theorem reckon_tabs {r r' : XR} {id : Int} {x : SIn} (hx : reckonX r id x = some r') : r'.tabs = r.tabs := by
  unfold reckonX at hx
  rw [Option.bind_eq_some_iff] at hx
  obtain ⟨a, -, hx⟩ := hx
  split at hx
  · exact set_tabs hx
  · rw [Option.bind_eq_some_iff] at hx
    obtain ⟨b, -, hx⟩ := hx
    split at hx
    · exact set_tabs hx
    · injection hx with hx
      subst hx
      rfl
theorem call_tabs {r r' : XR} {x : SIn} (hx : callX r x = some r') : r'.tabs = r.tabs := by
  unfold callX at hx
  split at hx
  · rw [Option.map_eq_some_iff] at hx
    obtain ⟨l, hl, rfl⟩ := hx
    rfl
  · cases hx
theorem turn_tabs {fs : List SF} {cm : List (List (Int × Int))} {r r' : XR} {way : Nat} (hx : turnX fs cm r way = some r') : r'.tabs = r.tabs := by
  unfold turnX at hx
  rw [Option.bind_eq_some_iff] at hx
  obtain ⟨f, hf, hx⟩ := hx
  rw [Option.bind_eq_some_iff] at hx
  obtain ⟨L, hL, hx⟩ := hx
  rw [Option.bind_eq_some_iff] at hx
  obtain ⟨c, hc, hx⟩ := hx
  rw [Option.bind_eq_some_iff] at hx
  obtain ⟨k, hk, hx⟩ := hx
  rw [Option.bind_eq_some_iff] at hx
  obtain ⟨t, ht, hx⟩ := hx
  split at hx
  case isFalse => cases hx
  case isTrue ht0 =>
  rw [Option.bind_eq_some_iff] at hx
  obtain ⟨k2, hk2, hx⟩ := hx
  rw [Option.map_eq_some_iff] at hx
  obtain ⟨l, hl, rfl⟩ := hx
  rfl
theorem leave_tabs {fs : List SF} {r r' : XR} {v : XV} (h : RefsOk r) (hx : leaveX fs r v = some r') : r'.tabs = r.tabs := by
  unfold leaveX at hx
  rw [Option.bind_eq_some_iff] at hx
  obtain ⟨r1, h1, hx⟩ := hx
  obtain ⟨hr1, ht1⟩ := refs_back _ _ _ _ h h1
  split at hx
  · dsimp only at hx
    split at hx
    · injection hx with hx
      subst hx
      exact ht1
    · rw [Option.bind_eq_some_iff] at hx
      obtain ⟨k, hk, hx⟩ := hx
      split at hx
      · rw [Option.bind_eq_some_iff] at hx
        obtain ⟨id, hid, hx⟩ := hx
        exact (set_tabs hx).trans ht1
      · cases hx
  · cases hx
theorem end_tabs {fs : List SF} {cm : List (List (Int × Int))} {r r' : XR} (h : RefsOk r) (hx : endX fs cm r = some r') : r'.tabs = r.tabs := by
  unfold endX at hx
  rw [Option.bind_eq_some_iff] at hx
  obtain ⟨k, hk, hx⟩ := hx
  split at hx
  · exact turn_tabs hx
  · split at hx
    · rw [Option.bind_eq_some_iff] at hx
      obtain ⟨v, hv, hx⟩ := hx
      exact turn_tabs hx
    · split at hx
      · split at hx
        · exact leave_tabs h hx
        · rw [Option.bind_eq_some_iff] at hx
          obtain ⟨v, hv, hx⟩ := hx
          exact leave_tabs h hx
      · cases hx
theorem tabs_do {fs : List SF} {r r' : XR} {id : Int} {at_ : Nat} (h : TabsOk r) (hx : doX fs r id at_ = some r') : TabsOk r' := by
  unfold doX at hx
  rw [Option.bind_eq_some_iff] at hx
  obtain ⟨f, hf, hx⟩ := hx
  by_cases h0 : 0 ≤ id
  case neg => rw [if_neg h0] at hx; cases hx
  rw [if_pos h0] at hx
  rw [Option.bind_eq_some_iff] at hx
  obtain ⟨x, hxx, hx⟩ := hx
  by_cases c0 : x.op = 1
  · rw [if_pos c0] at hx
    exact h.same (set_tabs hx)
  rw [if_neg c0] at hx
  by_cases c1 : x.op = 2
  · rw [if_pos c1] at hx
    split at hx
    · rw [Option.bind_eq_some_iff] at hx
      obtain ⟨v, hv, hx⟩ := hx
      exact h.same (set_tabs hx)
    · cases hx
  rw [if_neg c1] at hx
  by_cases c2 : x.op = 3
  · rw [if_pos c2, Option.bind_eq_some_iff] at hx
    obtain ⟨v, hv, hx⟩ := hx
    exact h.same (set_tabs hx)
  rw [if_neg c2] at hx
  by_cases c3 : x.op = 25
  · rw [if_pos c3, Option.bind_eq_some_iff] at hx
    obtain ⟨c, hc, hx⟩ := hx
    rw [Option.bind_eq_some_iff] at hx
    obtain ⟨v, hv, hx⟩ := hx
    exact h.same (set_tabs hx)
  rw [if_neg c3] at hx
  by_cases c4 : x.op = 26 ∨ x.op = 27
  · rw [if_pos c4, Option.bind_eq_some_iff] at hx
    obtain ⟨c, hc, hx⟩ := hx
    rw [Option.bind_eq_some_iff] at hx
    obtain ⟨T, hT, hx⟩ := hx
    exact h.same (set_tabs hx)
  rw [if_neg c4] at hx
  by_cases c5 : x.op = 28
  · rw [if_pos c5, Option.bind_eq_some_iff] at hx
    obtain ⟨c, hc, hx⟩ := hx
    rw [Option.bind_eq_some_iff] at hx
    obtain ⟨T, hT, hx⟩ := hx
    exact h.same (set_tabs hx)
  rw [if_neg c5] at hx
  by_cases c6 : x.op = 30 ∨ x.op = 31
  · rw [if_pos c6] at hx
    exact tabs_create h hx
  rw [if_neg c6] at hx
  by_cases c7 : x.op = 29 ∨ x.op = 32
  · rw [if_pos c7] at hx
    exact tabs_cell h hx
  rw [if_neg c7] at hx
  by_cases c8 : x.op = 33
  · rw [if_pos c8] at hx
    split at hx
    · rw [Option.map_eq_some_iff] at hx
      obtain ⟨v, hv, rfl⟩ := hx
      exact h.same rfl
    · cases hx
  rw [if_neg c8] at hx
  by_cases c9 : x.op = 34
  · rw [if_pos c9] at hx
    exact h.same (input_tabs hx)
  rw [if_neg c9] at hx
  by_cases c10 : x.op = 35
  · rw [if_pos c10, Option.map_eq_some_iff] at hx
    obtain ⟨v, hv, rfl⟩ := hx
    split
    · exact h.same rfl
    · exact h
  rw [if_neg c10] at hx
  by_cases c11 : x.op = 36
  · rw [if_pos c11] at hx
    exact h.same (call_tabs hx)
  rw [if_neg c11] at hx
  exact h.same (reckon_tabs hx)
theorem tabs_step {fs : List SF} {cm : List (List (Int × Int))} {r r' : XR} (hr : RefsOk r) (h : TabsOk r) (hx : stepX fs cm r = some r') : TabsOk r' := by
  unfold stepX at hx
  split at hx
  · injection hx with hx
    subst hx
    exact tabs_take h _
  · dsimp only at hx
    rw [Option.bind_eq_some_iff] at hx
    obtain ⟨k, hk, hx⟩ := hx
    split at hx
    · exact (tabs_take h 1).same (end_tabs (refs_take' hr 1) hx)
    · rw [Option.bind_eq_some_iff] at hx
      obtain ⟨id, hid, hx⟩ := hx
      refine tabs_do ?_ hx
      exact (tabs_take h 1).same rfl
end Go.Proofs.Ytagagpappjkgbaa
