/-
  graph.Reach.
-/
import Derived.Test.YtlejpoofgnenhaaGrU
namespace Go.Proofs.Ytlejpoofgnenhaa
open Go.RowKit Go.Shelf
set_option linter.unusedVariables false
set_option linter.unusedSimpArgs false

attribute [local go_sem] Oper.semAt_some

/-- The same, where the loop's variable is slot q. -/
theorem wp_range_sep_at {P : Program} {α : Type} {g : Operand} {p q : Tmp} {assign body : Code} {Q : Exit → Act → World → Prop} {a : Act} {w : World} {gf : Nat} {lb : Array Value}
    (hg : a.eval g = .func (.func gf) #[] lb) (eg : ∀ args w, (callFunc gf args).run P w = .ok (.enter gf args) w)
    {enc : α → Value} {xs : List α} {S Wr : Nat → Prop} {Post : World → Prop} (hseq : ∀ W1, Below w.heap.size w W1 → SepGives P gf lb enc xs S Wr Post W1)
    (hPost : ∀ A B : World, Post A → A.heap.size ≤ B.heap.size → (∀ k, k < w.heap.size → B.heap[k]? = A.heap[k]?) → Post B)
    (I : List α → (Nat → Prop) → World → Prop) (F0 : Nat → Prop)
    (hIoff : ∀ pre F A B, I pre F A → StepOff F A B → I pre F B) (hIlt : ∀ pre F A, I pre F A → ∀ k, F k → k < A.heap.size)
    (hF0 : ∀ k, F0 k → ¬ S k) (hS : ∀ k, S k → k < w.heap.size) (h0 : I [] F0 w)
    (hassign : ∀ (l : Nat) (x : α) (W : World) (K : Act → World → Prop), K { tmps := (a.tmps.setIfInBounds p (enc x)).setIfInBounds q (enc x), defers := [] } W →
      assign.wpIn (Fence.wide.inRound l) 0 P (Exit.then K (fun _ _ _ => False)) { tmps := a.tmps.setIfInBounds p (enc x), defers := [] } W)
    (hbody : ∀ (l : Nat) (pre : List α) (x : α) (F : Nat → Prop) (A : World), I pre F A → (pre ++ [x]) <+: xs → body.wpIn (Fence.wide.inRound l) 0 P (fun e a' B => e = .normal ∧ ∃ F', I (pre ++ [x]) F' B ∧ StepOn F F' A B) { tmps := (a.tmps.setIfInBounds p (enc x)).setIfInBounds q (enc x), defers := [] } A)
    (hdone : ∀ (D : Nat) (F' : Nat → Prop) (W' : World), I xs F' W' → Post W' → Framed F0 F' Wr w W' → W'.heap[D]? = some (.deferred (some [])) → w.heap.size ≤ D → ¬ F' D → Q .normal { a with defers := { target := .collected D, args := #[] } :: a.defers } W') :
    (Code.rangeFunc g #[p] assign body).wp P Q a w :=
  wp_range_sep hg eg hseq rfl hPost I F0 hIoff hIlt hF0 hS h0 (fun x => { tmps := (a.tmps.setIfInBounds p (enc x)).setIfInBounds q (enc x), defers := [] }) (fun l x W K hK => by
    have := hassign l x W K hK
    simpa using this) hbody hdone
theorem own_full {w : World} {base : Nat} {T : TypeId} {g n : Nat} {xs : List Value} (h : w.ownsRow base T 1 (.slice (some ⟨g, 0, none⟩) n n) n xs) : w.heap[g]? = some (.cells xs.toArray T (0, 0)) := by
  rcases h.2 with ⟨h', _⟩ | ⟨g', cap, cur, h', hb, hg, hnc, hcm, hcs, ht⟩
  · simp at h'
  · simp only [Value.slice.injEq, Option.some.injEq, Addr.mk.injEq, and_true, true_and] at h'
    obtain ⟨rfl, rfl⟩ := h'
    rw [hg, ← ht, Nat.mul_one, List.take_of_length_le (by rw [Array.length_toList, hcs]; omega)]
theorem full_own {w : World} {base : Nat} {T : TypeId} {g n : Nat} {xs : List Value} (h : w.heap[g]? = some (.cells xs.toArray T (0, 0))) (hl : xs.length = n) (hb : base ≤ g) (hm : n ≤ maxLen) : w.ownsRow base T 1 (.slice (some ⟨g, 0, none⟩) n n) n xs :=
  ⟨by omega, .inr ⟨g, n, xs.toArray, rfl, hb, h, Nat.le_refl _, hm, by simp; omega, by rw [Nat.mul_one]; simp; rw [← hl, List.take_length]⟩⟩
def markP (l : List Bool) (xs : List Nat) : List Bool := xs.foldl (fun s b => s.set b true) l
theorem markP_len : ∀ (xs : List Nat) (l : List Bool), (markP l xs).length = l.length
  | [], _ => rfl
  | x :: xs, l => by unfold markP; rw [List.foldl_cons]; have := markP_len xs (l.set x true); unfold markP at this; rw [this]; simp
theorem markP_snoc (l : List Bool) (xs : List Nat) (b : Nat) : markP l (xs ++ [b]) = (markP l xs).set b true := by simp [markP]
/-- The ways back of a function by Preds. -/
def bkG (g : List GB) (b : Nat) : List Int := ((g[b]?.map GB.preds).getD []).filter (hasG g.length)
theorem bkG_in (g : List GB) : ∀ b, b < g.length → ∀ x ∈ bkG g b, 0 ≤ x ∧ x < g.length := fun b _ x hx => by
  unfold bkG at hx
  exact of_decide_eq_true (List.mem_filter.1 hx).2
def shutG (n : Nat) (without : Int) : List Bool := if hasG n without then (List.replicate n false).set without.toNat true else List.replicate n false
theorem shutG_len (n : Nat) (without : Int) : (shutG n without).length = n := by unfold shutG; split <;> simp
def reachP (g : List GB) (to_ without : Int) : List Bool := if wholeG g && hasG g.length to_ then markP (List.replicate g.length false) (srcP (bkG g) g.length (shutG g.length without) to_.toNat).2 else List.replicate g.length false

end Go.Proofs.Ytlejpoofgnenhaa
