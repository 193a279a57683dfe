/-
  slices.Sorted over an iterator that keeps a state of its own.
-/
import Derived.Test.YtlejpoofgnenhaaGrV
import Derived.Test.YtlejpoofgnenhaaGrShelf
import Derived.Sort.OwnSortedInts
namespace Go.Proofs.Ytlejpoofgnenhaa
open Go.RowKit Go.Shelf
set_option linter.unusedVariables false
set_option linter.unusedSimpArgs false

def sortN (xs : List Nat) : List Nat := xs.mergeSort fun x y => decide (x ≤ y)
theorem sortN_len (xs : List Nat) : (sortN xs).length = xs.length := List.length_mergeSort _
theorem sortN_mem (xs : List Nat) (b : Nat) : b ∈ sortN xs ↔ b ∈ xs := List.mem_mergeSort
theorem sortN_ints (xs : List Nat) : intsV ((xs.map fun (b : Nat) => (b : Int)).mergeSort fun x y => decide (x ≤ y)) = natsV (sortN xs) := by
  unfold sortN
  rw [← List.map_mergeSort (r := fun x y : Nat => decide (x ≤ y)) (f := fun (b : Nat) => (b : Int)) (fun a _ b _ => by simp)]
  simp [intsV, natsV]
theorem natsV_ints (xs : List Nat) : natsV xs = intsV (xs.map fun (b : Nat) => (b : Int)) := by simp [natsV, intsV]

set_option maxHeartbeats 2000000 in
theorem sort_g (base g n c : Nat) (xs : List Nat) (w : World) (h : w.ownsRow base 3 1 (.slice (some ⟨g, 0, none⟩) n c) n (natsV xs)) (hn : n ≤ 1048576) :
    Calls Try.prog 37 #[.slice (some ⟨g, 0, none⟩) n c] w fun e w' => (∃ r, e = .returned r) ∧ w'.ownsRow base 3 1 (.slice (some ⟨g, 0, none⟩) n c) n (natsV (sortN xs)) ∧ w.grownBy w' (some g) := by
  have hl : n = (xs.map fun (b : Nat) => (b : Int)).length := by have := h.1; simp [natsV] at this; simp; omega
  rcases h.2 with ⟨h', _⟩ | ⟨g', cap, cur, h', hb, hg, hnc, hcm, hcs, ht⟩
  · simp at h'
  · simp only [Value.slice.injEq, Option.some.injEq, Addr.mk.injEq, and_true, true_and] at h'
    obtain ⟨rfl, rfl⟩ := h'
    subst hl
    have hS := slices_Sort_int g 0 c (xs.map fun (b : Nat) => (b : Int)) w (holds_of_blockI hg (by rw [Nat.mul_one] at ht; rw [ht, natsV_ints]; rfl)) (gr_in hg) (by omega)
    refine hS.mono ?_
    rintro e w' ⟨rfl, q, os, rfl⟩
    refine ⟨⟨_, rfl⟩, ?_, grownBy_sortedI _⟩
    rw [← sortN_ints]
    exact ownsRow_sortedI (List.length_mergeSort _) hb hg hnc hcm hcs

set_option maxRecDepth 100000 in
set_option maxHeartbeats 4000000 in
theorem sorted_g (gf : Nat) (lb : Array Value) (xs : List Nat) (S Wr : Nat → Prop) (Post : World → Prop) (w : World) (eg : ∀ args w, (callFunc gf args).run Try.prog w = .ok (.enter gf args) w)
    (hseq : ∀ W1, Below w.heap.size w W1 → SepGives Try.prog gf lb (fun b : Nat => .int .i64 (b : Int)) xs S Wr Post W1) (hS : ∀ k, S k → k < w.heap.size) (hlen : xs.length ≤ 1048576) (hpos : 0 < xs.length)
    (hPost : ∀ A B : World, Post A → A.heap.size ≤ B.heap.size → (∀ k, k < w.heap.size → B.heap[k]? = A.heap[k]?) → Post B) :
    Calls Try.prog 28 #[.func (.func gf) #[] lb] w fun e w' => ∃ v, e = .returned v ∧ w'.ownsRow w.heap.size 3 1 v xs.length (natsV (sortN xs)) ∧ Post w' ∧ w.heap.size ≤ w'.heap.size ∧ w'.os = w.os ∧ w'.tape = w.tape ∧ w'.output = w.output ∧ ∀ k, k < w.heap.size → ¬ Wr k → w'.heap[k]? = w.heap[k]? := by
  have hA := collect_g gf lb xs S Wr Post w eg hseq hS hlen hPost
  have HPost := Lib.hid hPost
  clear hseq hS hPost
  go_enter Try.func28, Try.ntmps28
  go_wp2_with (first
    | (go_at_call 43; refine hA.mono ?_; rintro e w1 ⟨v, rfl, ho1, h1⟩; obtain ⟨g1, c1, rfl, hg1, hgl1⟩ := ho1.form hpos; have hSo := sort_g w.heap.size g1 xs.length c1 xs w1 ho1 hlen; have Ho1 := Lib.hid ho1; have H1 := Lib.hid h1; clear h1 ho1 hA)
    | (go_at_call 37; refine hSo.mono ?_; rintro e w2 ⟨⟨r2, rfl⟩, ho2, hg2⟩; have Ho2 := Lib.hid ho2; have Hg2 := Lib.hid hg2; clear ho2 hg2 hSo))
  go_ret
  obtain ⟨p1, p2, p3, p4, p5, p6⟩ := H1.out
  have hs := Hg2.out.size
  refine ⟨_, rfl, Ho2.out, HPost.out _ _ p1 hs (fun k hk => Hg2.out.block k (by omega) (fun e => by injection e with e; omega)), by omega, Hg2.out.os.trans p3, Hg2.out.tape.trans p4, Hg2.out.output.trans p5, fun k hk hw => (Hg2.out.block k (by omega) (fun e => by injection e with e; omega)).trans (p6 k hk hw)⟩
end Go.Proofs.Ytlejpoofgnenhaa
