/-
  slices.Sorted over an iterator that keeps a state of its own.
  graph.Rings.
-/
import Derived.Test.YtoplllebaagnnaaJd9
import Derived.Test.YtoplllebaagnnaaJd12
import Derived.Sort.OwnSortedInts
namespace Go.Proofs.Ytoplllebaagnnaa
set_option linter.unusedVariables false
set_option linter.unusedSimpArgs false
open Go.RowKit Go.Shelf

def sortN (xs : List Nat) : List Nat := xs.mergeSort fun x y => decide (x ≤ y)
theorem sortN_len (xs : List Nat) : (sortN xs).length = xs.length := List.length_mergeSort _
theorem sortN_mem (xs : List Nat) (b : Nat) : b ∈ sortN xs ↔ b ∈ xs := List.mem_mergeSort
theorem sortN_ints (xs : List Nat) : intsV ((xs.map fun (b : Nat) => (b : Int)).mergeSort fun x y => decide (x ≤ y)) = natsV (sortN xs) := by
  unfold sortN
  rw [← List.map_mergeSort (r := fun x y : Nat => decide (x ≤ y)) (f := fun (b : Nat) => (b : Int)) (fun a _ b _ => by simp)]
  simp [intsV, natsV]
theorem natsV_ints (xs : List Nat) : natsV xs = intsV (xs.map fun (b : Nat) => (b : Int)) := by simp [natsV, intsV]

set_option maxHeartbeats 2000000 in
theorem sort_g (base g n c : Nat) (xs : List Nat) (w : World) (h : w.ownsRow base 3 1 (.slice (some ⟨g, 0, none⟩) n c) n (natsV xs)) (hn : n ≤ 1048576) :
    Calls Try.prog 33 #[.slice (some ⟨g, 0, none⟩) n c] w fun e w' => (∃ r, e = .returned r) ∧ w'.ownsRow base 3 1 (.slice (some ⟨g, 0, none⟩) n c) n (natsV (sortN xs)) ∧ w.grownBy w' (some g) := by
  have hl : n = (xs.map fun (b : Nat) => (b : Int)).length := by have := h.1; simp [natsV] at this; simp; omega
  rcases h.2 with ⟨h', _⟩ | ⟨g', cap, cur, h', hb, hg, hnc, hcm, hcs, ht⟩
  · simp at h'
  · simp only [Value.slice.injEq, Option.some.injEq, Addr.mk.injEq, and_true, true_and] at h'
    obtain ⟨rfl, rfl⟩ := h'
    subst hl
    have hS := slices_Sort_int g 0 c (xs.map fun (b : Nat) => (b : Int)) w (holds_of_blockI hg (by rw [Nat.mul_one] at ht; rw [ht, natsV_ints]; rfl)) (gr_in hg) (by omega)
    refine hS.mono ?_
    rintro e w' ⟨rfl, q, os, rfl⟩
    refine ⟨⟨_, rfl⟩, ?_, grownBy_sortedI _⟩
    rw [← sortN_ints]
    exact ownsRow_sortedI (List.length_mergeSort _) hb hg hnc hcm hcs

end Go.Proofs.Ytoplllebaagnnaa
namespace Go.Proofs.Ytoplllebaagnnaa
set_option linter.unusedVariables false
set_option linter.unusedSimpArgs false
open Go.RowKit Go.Shelf

def bkE (g : List GB) (l : List Nat) (b : Nat) : List Int := predsG (edgesOf g l) b
def ringsRun (bk : Nat → List Int) (n : Nat) : List Nat → List Bool → List (List Nat) → List (List Nat)
  | [], _, ps => ps
  | b :: l, sh, ps => if sh.getD b false then ringsRun bk n l sh ps else ringsRun bk n l (srcP bk n sh b).1 (ps ++ [sortN (srcP bk n sh b).2])
def ringsP (g : List GB) : List (List Nat) := (ringsRun (bkE g (orderP g)) g.length (orderP g) (List.replicate g.length false) []).reverse
/-- Rows of numbers. -/
def GRows (w : World) (base : Nat) (v : Value) (rs : List (Value × List Nat)) : Prop := w.ownsRow base 23 1 v rs.length (rs.map (·.1)) ∧ ∀ r ∈ rs, w.ownsRow base 3 1 r.1 r.2.length (natsV r.2)
theorem bkE_in {g : List GB} {l : List Nat} (hl : ∀ b ∈ l, b < g.length) : ∀ b, b < g.length → ∀ x ∈ bkE g l b, 0 ≤ x ∧ x < g.length := fun b _ x hx => by
  unfold bkE predsG at hx
  obtain ⟨e, he, rfl⟩ := List.mem_map.1 hx
  have h1 := (List.mem_filter.1 he).1
  unfold edgesOf at h1
  obtain ⟨c, hc, he2⟩ := List.mem_flatMap.1 h1
  obtain ⟨y, _, rfl⟩ := List.mem_map.1 he2
  have := hl c hc
  exact ⟨by simp, by simpa using this⟩
theorem GRows.keep {w w' : World} {base : Nat} {v : Value} {rs : List (Value × List Nat)} (h : GRows w base v rs) (hb : Below w.heap.size w w') : GRows w' base v rs := ⟨gr_up h.1 hb, fun r hr => gr_up (h.2 r hr) hb⟩
/-- While all that is older but one block lies as it lay, rows of one's own do. -/
theorem own_far {w w' : World} {base s : Nat} {T : TypeId} {n : Nat} {v : Value} {xs : List Value} (h : w.ownsRow base T 1 v n xs) (hz : w.heap.size ≤ w'.heap.size) (hb : ∀ k, k < w.heap.size → k ≠ s → w'.heap[k]? = w.heap[k]?) (hs : v.ownBlock ≠ some s) : w'.ownsRow base T 1 v n xs := by
  refine ⟨h.1, ?_⟩
  rcases h.2 with h1 | ⟨g, cap, cur, hv, h2, h3, rest⟩
  · exact .inl h1
  · exact .inr ⟨g, cap, cur, hv, h2, (hb g (gr_in h3) (fun e => hs (by rw [hv, ← e]; rfl))).trans h3, rest⟩
theorem not_own {w : World} {base s : Nat} {T T' : TypeId} {z n : Nat} {v : Value} {xs : List Value} {cur : Array Value} (h : w.ownsRow base T z v n xs) (hs : w.heap[s]? = some (.cells cur T' (0, 0))) (hne : T ≠ T') : v.ownBlock ≠ some s := fun e => by
  rcases h.2 with ⟨rfl, _⟩ | ⟨g, cap, cur', rfl, _, hg, _⟩
  · simp [Value.ownBlock] at e
  · simp [Value.ownBlock] at e
    subst e
    rw [hg] at hs
    simp at hs
    exact hne hs.2
theorem enterP_eq (b : Nat) (s : List Bool × List Nat) (hb : b < s.1.length) : unseen (enterP b s).1 + (enterP b s).2.length = unseen s.1 + s.2.length := by
  unfold enterP
  cases h : s.1.getD b false with
  | true => simp [h]
  | false =>
    have := unseen_set s.1 b hb h
    simp [h]
    omega
theorem fold_eq (n : Nat) : ∀ (l : List Int) (s : List Bool × List Nat), s.1.length = n → (∀ x ∈ l, 0 ≤ x ∧ x < n) → unseen (l.foldl (fun s x => enterP x.toNat s) s).1 + (l.foldl (fun s x => enterP x.toNat s) s).2.length = unseen s.1 + s.2.length
  | [], s, _, _ => rfl
  | x :: l, s, hs, hl => by
    have hx := hl x (by simp)
    have h1 := fold_eq n l (enterP x.toNat s) (by rw [enterP_len]; exact hs) (fun y hy => hl y (List.mem_cons_of_mem _ hy))
    have h2 := enterP_eq x.toNat s (by omega)
    rw [List.foldl_cons]
    omega
theorem srcRun_len (bk : Nat → List Int) (n : Nat) (hbk : ∀ b, b < n → ∀ x ∈ bk b, 0 ≤ x ∧ x < n) : ∀ (k : Nat) (sh : List Bool) (left o : List Nat) (sh' : List Bool) (xs : List Nat), srcRun bk k sh left o = some (sh', xs) → sh.length = n → (∀ b ∈ left, b < n) → xs.length + unseen sh' = o.length + left.length + unseen sh
  | k, sh, [], o, sh', xs, h, _, _ => by
    have : (sh, o) = (sh', xs) := by cases k <;> simpa [srcRun] using h
    injection this with e1 e2
    subst e1 e2
    simp
  | 0, sh, b :: left, o, sh', xs, h, _, _ => by simp [srcRun] at h
  | k + 1, sh, b :: left, o, sh', xs, h, hs, hl => by
    unfold srcRun at h
    have hb := hl b (by simp)
    have h1 := fold_eq n (bk b) (sh, left) hs (hbk b hb)
    have h2 := srcRun_len bk n hbk k _ _ _ _ _ h (by rw [fold_len]; exact hs) (foldl_enter_lt n (bk b) (sh, left) (hbk b hb) (fun c hc => hl c (List.mem_cons_of_mem _ hc)))
    simp at h1 h2 ⊢
    omega
theorem srcP_len {bk : Nat → List Int} {n : Nat} {sh : List Bool} {b : Nat} (hbk : ∀ b, b < n → ∀ x ∈ bk b, 0 ≤ x ∧ x < n) (hs : sh.length = n) (hb : b < n) : (srcP bk n sh b).2.length ≤ n := by
  have hr := srcP_run hbk hs hb
  have h1 := enterP_eq b (sh, []) (by simpa [hs] using hb)
  have h2 := unseen_le sh
  have h3 := srcRun_len bk n hbk _ _ _ _ (srcP bk n sh b).1 (srcP bk n sh b).2 hr (by rw [enterP_len]; exact hs) (fun c hc => by
    unfold enterP at hc
    split at hc
    · cases hc
    · simp at hc; omega)
  simp at h1 h3
  omega
theorem walkP_lt {g : List GB} (hg : tosOk g) : ∀ (k b : Nat) (s : List Bool) (o : List Nat) (s' : List Bool) (o' : List Nat), walkP g k b s o = some (s', o') → b < g.length → (∀ c ∈ o, c < g.length) → ∀ c ∈ o', c < g.length := by
  intro k
  induction k with
  | zero => intro b s o s' o' h; simp [walkP] at h
  | succ k ih =>
    intro b s o s' o' h hb ho
    unfold walkP at h
    cases hw : goP (walkP g k) (tosG g b) (s.set b true) o with
    | none => rw [hw] at h; cases h
    | some r =>
      obtain ⟨s1, o1⟩ := r
      rw [hw] at h
      simp only [Option.some.injEq, Prod.mk.injEq] at h
      obtain ⟨rfl, rfl⟩ := h
      have key : ∀ (ts : List Int) (s : List Bool) (o : List Nat) (s1 : List Bool) (o1 : List Nat), goP (walkP g k) ts s o = some (s1, o1) → (∀ t ∈ ts, 0 ≤ t ∧ t < g.length) → (∀ c ∈ o, c < g.length) → ∀ c ∈ o1, c < g.length := by
        intro ts
        induction ts with
        | nil => intro s o s1 o1 h _ ho; simp [goP] at h; rw [← h.2]; exact ho
        | cons t ts iht =>
          intro s o s1 o1 h ht ho
          unfold goP at h
          have h0 := ht t (by simp)
          split at h
          · exact iht s o s1 o1 h (fun x hx => ht x (List.mem_cons_of_mem _ hx)) ho
          · cases hf : walkP g k t.toNat s o with
            | none => rw [hf] at h; cases h
            | some r =>
              obtain ⟨s2, o2⟩ := r
              rw [hf] at h
              exact iht s2 o2 s1 o1 h (fun x hx => ht x (List.mem_cons_of_mem _ hx)) (ih _ _ _ _ _ hf (by omega) ho)
      intro c hc
      rcases List.mem_append.1 hc with hc | hc
      · exact key _ _ _ _ _ hw (fun t ht => hg b t ht) ho c hc
      · simp at hc; omega
theorem orderP_lt (g : List GB) : ∀ b ∈ orderP g, b < g.length := fun b hb => by
  unfold orderP at hb
  rw [List.mem_reverse] at hb
  cases h : wholeG g with
  | false => unfold postP at hb; rw [h] at hb; simp at hb
  | true =>
    obtain ⟨s', h1, _⟩ := postP_run h
    obtain ⟨hp, _⟩ := wholeG_all h
    exact walkP_lt (tosOk_of h) _ _ _ _ _ _ h1 hp (fun c hc => by cases hc) b hb
theorem orderP_ends (g : List GB) : ∀ (j : Nat) (d : GB), j ∈ orderP g → g[j]? = some d → ∀ t ∈ d.to_, 0 ≤ t ∧ t < g.length := fun j d hj hd t ht => by
  cases h : wholeG g with
  | false => unfold orderP postP at hj; rw [h] at hj; simp at hj
  | true => exact (wholeG_all h).2 j d hd t ht

end Go.Proofs.Ytoplllebaagnnaa
