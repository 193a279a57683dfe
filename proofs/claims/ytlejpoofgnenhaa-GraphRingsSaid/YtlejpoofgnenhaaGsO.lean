/-
  The row that says in which part a block stands.
-/
import Derived.Test.YtlejpoofgnenhaaGsN
namespace Go.Proofs.Ytlejpoofgnenhaa
open Go.RowKit Go.Shelf
set_option linter.unusedVariables false
set_option linter.unusedSimpArgs false

def Vis (parts : List (List Nat)) (i k b : Nat) : Prop := (∃ j p, j < i ∧ parts[j]? = some p ∧ b ∈ p) ∨ (∃ p, parts[i]? = some p ∧ b ∈ p.take k)
structure PR (n : Nat) (parts : List (List Nat)) (i k : Nat) (pr : List Int) : Prop where
  len : pr.length = n
  at_ : ∀ b, b < n → (pr.getD b 0 = -1 ∧ ¬ Vis parts i k b) ∨ (Vis parts i k b ∧ ∃ j p, pr.getD b 0 = ((j : Nat) : Int) ∧ parts[j]? = some p ∧ b ∈ p)
theorem PR.start (n : Nat) (parts : List (List Nat)) : PR n parts 0 0 (List.replicate n (-1)) :=
  ⟨by simp, fun b hb => .inl ⟨by simp [List.getD, hb], by
    rintro (⟨j, p, h, _⟩ | ⟨p, _, h⟩)
    · omega
    · simp at h⟩⟩
theorem vis_step {parts : List (List Nat)} {i k b c : Nat} {p : List Nat} (hp : parts[i]? = some p) (hb : p[k]? = some b) : Vis parts i (k + 1) c ↔ (Vis parts i k c ∨ c = b) := by
  have hk := (List.getElem?_eq_some_iff.1 hb)
  obtain ⟨hk, he⟩ := hk
  have ht : p.take (k + 1) = p.take k ++ [b] := by rw [List.take_succ_eq_append_getElem hk, he]
  unfold Vis
  constructor
  · rintro (h | ⟨q, hq, h⟩)
    · exact .inl (.inl h)
    · rw [hp] at hq
      injection hq with hq
      subst hq
      rw [ht] at h
      rcases List.mem_append.1 h with h | h
      · exact .inl (.inr ⟨p, hp, h⟩)
      · simp at h; exact .inr h
  · rintro ((h | ⟨q, hq, h⟩) | rfl)
    · exact .inl h
    · rw [hp] at hq
      injection hq with hq
      subst hq
      exact .inr ⟨p, hp, by rw [ht]; exact List.mem_append_left _ h⟩
    · exact .inr ⟨p, hp, by rw [ht]; simp⟩
theorem PR.put {n : Nat} {parts : List (List Nat)} {i k b : Nat} {p : List Nat} {pr : List Int} (h : PR n parts i k pr) (hp : parts[i]? = some p) (hb : p[k]? = some b) : PR n parts i (k + 1) (pr.set b (i : Int)) := by
  refine ⟨by simpa using h.len, fun c hc => ?_⟩
  rw [vis_step hp hb]
  by_cases e : b = c
  · subst e
    refine .inr ⟨.inr rfl, i, p, ?_, hp, List.mem_of_getElem? hb⟩
    have : b < pr.length := by rw [h.len]; exact hc
    simp [List.getD, this]
  · have hg : (pr.set b (i : Int)).getD c 0 = pr.getD c 0 := by simp [List.getD, List.getElem?_set_ne e]
    rw [hg]
    rcases h.at_ c hc with ⟨h1, h2⟩ | ⟨h1, h2⟩
    · exact .inl ⟨h1, by rintro (h | h); exact h2 h; exact e h.symm⟩
    · exact .inr ⟨.inl h1, h2⟩
theorem PR.next {n : Nat} {parts : List (List Nat)} {i : Nat} {p : List Nat} {pr : List Int} (h : PR n parts i p.length pr) (hp : parts[i]? = some p) : PR n parts (i + 1) 0 pr := by
  have hv : ∀ c, Vis parts (i + 1) 0 c ↔ Vis parts i p.length c := fun c => by
    unfold Vis
    constructor
    · rintro (⟨j, q, hj, hq, hc⟩ | ⟨q, _, hc⟩)
      · by_cases e : j = i
        · subst e
          rw [hp] at hq
          injection hq with hq
          subst hq
          exact .inr ⟨p, hp, by rw [List.take_length]; exact hc⟩
        · exact .inl ⟨j, q, by omega, hq, hc⟩
      · simp at hc
    · rintro (⟨j, q, hj, hq, hc⟩ | ⟨q, hq, hc⟩)
      · exact .inl ⟨j, q, by omega, hq, hc⟩
      · exact .inl ⟨i, q, by omega, hq, List.mem_of_mem_take hc⟩
  exact ⟨h.len, fun c hc => by rw [hv]; exact h.at_ c hc⟩
theorem PS8.apart {g : List GB} {parts : List (List Nat)} (h : PS8 g parts) {i j : Nat} {p q : List Nat} (hi : parts[i]? = some p) (hj : parts[j]? = some q) (hlt : i < j) {a b : Nat} (ha : a ∈ p) (hb : b ∈ q) : ¬ RR g a b := by
  obtain ⟨h1, e1⟩ := List.getElem?_eq_some_iff.1 hi
  obtain ⟨h2, e2⟩ := List.getElem?_eq_some_iff.1 hj
  have := List.pairwise_iff_getElem.1 h.ord i j h1 h2 hlt
  rw [e1, e2] at this
  exact this a ha b hb
theorem PS8.rise {g : List GB} {parts : List (List Nat)} (h : PS8 g parts) {i k l : Nat} {p : List Nat} (hi : parts[i]? = some p) {a b : Nat} (ha : p[k]? = some a) (hb : p[l]? = some b) (hlt : k < l) : a < b := by
  obtain ⟨h1, e1⟩ := List.getElem?_eq_some_iff.1 ha
  obtain ⟨h2, e2⟩ := List.getElem?_eq_some_iff.1 hb
  have := List.pairwise_iff_getElem.1 (h.up p (List.mem_of_getElem? hi)) k l h1 h2 hlt
  rw [e1, e2] at this
  exact this
theorem PR.fresh {g : List GB} {n : Nat} {parts : List (List Nat)} {i k b : Nat} {p : List Nat} {pr : List Int} (hP : PS8 g parts) (h : PR n parts i k pr) (hp : parts[i]? = some p) (hb : p[k]? = some b) (hbn : b < n) : pr.getD b 0 = -1 := by
  rcases h.at_ b hbn with ⟨h1, _⟩ | ⟨h1, _⟩
  · exact h1
  · exfalso
    rcases h1 with ⟨j, q, hj, hq, hc⟩ | ⟨q, hq, hc⟩
    · exact hP.apart hq hp hj hc (List.mem_of_getElem? hb) FR.here
    · rw [hp] at hq
      injection hq with hq
      subst hq
      obtain ⟨m, hm⟩ := List.getElem?_of_mem hc
      rw [List.getElem?_take] at hm
      split at hm
      · next hlt => have := hP.rise hp hm hb hlt; omega
      · cases hm
theorem PR.fin {g : List GB} {n : Nat} {parts : List (List Nat)} {pr : List Int} (hP : PS8 g parts) (h : PR n parts parts.length 0 pr) (b : Nat) (hb : b < n) : (pr.getD b 0 = -1 ∧ ¬ RR g 0 b) ∨ (RR g 0 b ∧ ∃ j p, pr.getD b 0 = ((j : Nat) : Int) ∧ parts[j]? = some p ∧ b ∈ p) := by
  rcases h.at_ b hb with ⟨h1, h2⟩ | ⟨_, j, p, h1, h2, h3⟩
  · refine .inl ⟨h1, fun hr => h2 ?_⟩
    obtain ⟨p, hp, hbp⟩ := (hP.all b).1 hr
    obtain ⟨j, hj⟩ := List.getElem?_of_mem hp
    exact .inl ⟨j, p, (List.getElem?_eq_some_iff.1 hj).1, hj, hbp⟩
  · exact .inr ⟨(hP.all b).2 ⟨p, List.mem_of_getElem? h2, h3⟩, j, p, h1, h2, h3⟩
theorem PR.ge {g : List GB} {n : Nat} {parts : List (List Nat)} {pr : List Int} (hP : PS8 g parts) (h : PR n parts parts.length 0 pr) (b : Nat) (hb : b < n) (hr : RR g 0 b) : 0 ≤ pr.getD b 0 := by
  rcases h.fin hP b hb with ⟨_, h2⟩ | ⟨_, j, p, h1, _⟩
  · exact absurd hr h2
  · rw [h1]; omega
theorem PR.no {g : List GB} {n : Nat} {parts : List (List Nat)} {pr : List Int} (hP : PS8 g parts) (h : PR n parts parts.length 0 pr) (b : Nat) (hb : b < n) (hr : ¬ RR g 0 b) : pr.getD b 0 = -1 := by
  rcases h.fin hP b hb with ⟨h1, _⟩ | ⟨h2, _⟩
  · exact h1
  · exact absurd h2 hr
theorem PR.le {g : List GB} {n : Nat} {parts : List (List Nat)} {pr : List Int} (hP : PS8 g parts) (h : PR n parts parts.length 0 pr) (a b : Nat) (ha : a < n) (hb : b < n) (hr : RR g 0 a) (hab : RR g a b) : pr.getD b 0 ≤ pr.getD a 0 := by
  rcases h.fin hP a ha with ⟨_, h2⟩ | ⟨_, i, p, h1, h2, h3⟩
  · exact absurd hr h2
  rcases h.fin hP b hb with ⟨_, k2⟩ | ⟨_, j, q, k1, k2, k3⟩
  · exact absurd (hr.trans hab) k2
  · rw [h1, k1]
    rcases Nat.lt_or_ge i j with h | h
    · exact absurd hab (hP.apart h2 k2 h h3 k3)
    · omega
theorem PR.eq {g : List GB} {n : Nat} {parts : List (List Nat)} {pr : List Int} (hP : PS8 g parts) (h : PR n parts parts.length 0 pr) (a b : Nat) (ha : a < n) (hb : b < n) (hr : RR g 0 a) : pr.getD a 0 = pr.getD b 0 ↔ (RR g a b ∧ RR g b a) := by
  constructor
  · intro e
    rcases h.fin hP a ha with ⟨_, h2⟩ | ⟨_, i, p, h1, h2, h3⟩
    · exact absurd hr h2
    rcases h.fin hP b hb with ⟨k1, _⟩ | ⟨_, j, q, k1, k2, k3⟩
    · omega
    · obtain rfl : i = j := by omega
      rw [h2] at k2
      injection k2 with k2
      subst k2
      obtain ⟨r, hrr⟩ := hP.scc p (List.mem_of_getElem? h2)
      obtain ⟨-, a1, a2⟩ := (hrr a).1 h3
      obtain ⟨-, b1, b2⟩ := (hrr b).1 k3
      exact ⟨a2.trans b1, b2.trans a1⟩
  · rintro ⟨h1, h2⟩
    have := h.le hP a b ha hb hr h1
    have := h.le hP b a hb ha (hr.trans h1) h2
    omega
theorem edgesOf_len {g : List GB} (h : ∀ b, (tosG g b).length ≤ 2) : ∀ l : List Nat, (edgesOf g l).length ≤ 2 * l.length
  | [] => by simp [edgesOf]
  | b :: l => by
    have h1 := edgesOf_len h l
    have h2 := h b
    unfold edgesOf at h1 ⊢
    simp only [List.flatMap_cons, List.length_append, List.length_map, List.length_cons]
    omega
theorem tos_two {l : List (Int × Int)} (hin : ∀ x ∈ l, InG x.1 ∧ InG x.2) (b : Nat) : (tosG (graphP l true) b).length ≤ 2 := by
  rw [tosG_graphP]
  cases hq : (tosL l)[b]? with
  | none => simp
  | some u =>
    have hm : u ∈ tosL l := List.mem_of_getElem? hq
    unfold tosL at hm
    obtain ⟨e, he, rfl⟩ := List.mem_map.1 hm
    exact (endsG_ok hin e he).1
theorem from_rr {g : List GB} (hg : tosOk g) {a : Nat} (ha : a < g.length) (b : Nat) : (fromP g (a : Int) (-1)).getD b false = true ↔ RR g a b := fromP_spec hg ha (by omega) b
end Go.Proofs.Ytlejpoofgnenhaa
