/-
  graph.Order; graph.Places.
-/
import Derived.Test.YtlejpoofgnenhaaGrF
namespace Go.Proofs.Ytlejpoofgnenhaa
open Go.RowKit
set_option linter.unusedVariables false
set_option linter.unusedSimpArgs false

def orderP (g : List GB) : List Nat := (postP g).reverse
theorem unseen_le (s : List Bool) : unseen s ≤ s.length := List.count_le_length
theorem goP_len {g : List GB} {f : Nat → List Bool → List Nat → Option (List Bool × List Nat)} (hf : ∀ b s o s' o', f b s o = some (s', o') → s.length = g.length → b < g.length → s.getD b false = false → s'.length = g.length ∧ o'.length + unseen s' = o.length + unseen s) :
    ∀ (ts : List Int) (s : List Bool) (o : List Nat) (s' : List Bool) (o' : List Nat), (∀ t ∈ ts, 0 ≤ t ∧ t < g.length) → s.length = g.length → goP f ts s o = some (s', o') → s'.length = g.length ∧ o'.length + unseen s' = o.length + unseen s
  | [], s, o, s', o', _, hs, h => by
    simp [goP] at h
    obtain ⟨rfl, rfl⟩ := h
    exact ⟨hs, rfl⟩
  | t :: ts, s, o, s', o', ht, hs, h => by
    unfold goP at h
    have h0 := ht t (by simp)
    have hts : ∀ t ∈ ts, 0 ≤ t ∧ t < g.length := fun x hx => ht x (List.mem_cons_of_mem _ hx)
    cases hq : s.getD t.toNat false with
    | true => rw [hq, if_pos rfl] at h; exact goP_len hf ts s o s' o' hts hs h
    | false =>
      rw [hq, if_neg (by simp)] at h
      cases hw : f t.toNat s o with
      | none => rw [hw] at h; cases h
      | some r =>
        obtain ⟨s1, o1⟩ := r
        rw [hw] at h
        obtain ⟨h1, h2⟩ := hf _ _ _ _ _ hw hs (by omega) hq
        obtain ⟨h3, h4⟩ := goP_len hf ts s1 o1 s' o' hts h1 h
        exact ⟨h3, by omega⟩
theorem walkP_len {g : List GB} (hg : tosOk g) : ∀ (k b : Nat) (s : List Bool) (o : List Nat) (s' : List Bool) (o' : List Nat), walkP g k b s o = some (s', o') → s.length = g.length → b < g.length → s.getD b false = false → s'.length = g.length ∧ o'.length + unseen s' = o.length + unseen s
  | 0, b, s, o, s', o', h, _, _, _ => by simp [walkP] at h
  | k + 1, b, s, o, s', o', h, hs, hb, hq => by
    unfold walkP at h
    cases hw : goP (walkP g k) (tosG g b) (s.set b true) o with
    | none => rw [hw] at h; cases h
    | some r =>
      obtain ⟨s1, o1⟩ := r
      rw [hw] at h
      simp only [Option.some.injEq, Prod.mk.injEq] at h
      obtain ⟨rfl, rfl⟩ := h
      have h1 := unseen_set s b (by omega) hq
      obtain ⟨h2, h3⟩ := goP_len (walkP_len hg k) (tosG g b) (s.set b true) o s1 o1 (fun t ht => hg b t ht) (by simpa using hs) hw
      exact ⟨h2, by simp; omega⟩
theorem postP_len (g : List GB) : (postP g).length ≤ g.length := by
  cases h : wholeG g with
  | false => unfold postP; rw [h]; simp
  | true =>
    obtain ⟨s', h1, _⟩ := postP_run h
    obtain ⟨hp, _⟩ := wholeG_all h
    have := (walkP_len (tosOk_of h) _ _ _ _ _ _ h1 (by simp) hp (by simp [List.getD, hp])).2
    have h2 := unseen_le (List.replicate g.length false)
    simp at this h2
    omega
theorem natsV_rev (l : List Nat) : (natsV l).reverse = natsV l.reverse := by simp [natsV]
theorem natsV_int (l : List Nat) : ∀ u ∈ natsV l, ∃ q, u = Value.int .i64 q := fun u hu => by
  simp [natsV] at hu
  obtain ⟨a, _, rfl⟩ := hu
  exact ⟨_, rfl⟩

set_option maxRecDepth 100000 in
set_option maxHeartbeats 4000000 in
theorem order_g (n0 : Nat) (f : Value) (g : List GB) (w : World) (hf : GF n0 w f g) (hn : n0 ≤ w.heap.size) :
    Calls Try.prog 26 #[f] w fun e w' => ∃ v, e = .returned v ∧ w'.ownsRow w.heap.size 3 1 v (orderP g).length (natsV (orderP g)) ∧ Below w.heap.size w w' := by
  have hf0 := hf
  obtain ⟨s, pA, pn, pc, r, iA, in_, ic, bA, bn, bc, rfl, hG, hbn⟩ := hf
  obtain ⟨W, hW, hbW, hzW, h0W⟩ := gr_one w #[.string s, .slice pA pn pc, .int .i64 r, .slice iA in_ ic, .slice bA bn bc] 27
  obtain ⟨x0, x1, x2, x3, x4, -⟩ := gr_five h0W
  have hlen : bn ≤ 1048576 := by rw [hbn]; obtain ⟨_, _, _, h, _⟩ := hG; exact h
  have hfW : GF n0 W (.agg #[.string s, .slice pA pn pc, .int .i64 r, .slice iA in_ ic, .slice bA bn bc]) g := ⟨s, pA, pn, pc, r, iA, in_, ic, bA, bn, bc, rfl, hG.keep (hbW.mono hn), hbn⟩
  have hH := post_g n0 _ g W hfW (by omega)
  have hpl := postP_len g
  rw [← hbn] at hpl
  have HbW := Lib.hid hbW
  have HW := Lib.hid hW
  have HzW := Lib.hid hzW
  obtain ⟨P, hP⟩ : ∃ P, P = postP g := ⟨_, rfl⟩
  have ho : orderP g = P.reverse := by rw [hP]; rfl
  rw [← hP] at hH hpl
  rw [ho]
  clear hbW hW hG hbn hzW h0W hf0 hfW ho hP
  go_enter Try.func26, Try.ntmps26
  go_upto_region 1 with fail
  rw [← HW.out]
  go_wp2_with (go_at_call 39; refine hH.mono ?_; rintro e w1 ⟨v, rfl, ho1, hb1⟩; obtain ⟨A, c, rfl⟩ := gr_slice ho1; have hR := rev_int W.heap.size _ _ _ w1 ho1 hb1.size (by omega) (natsV_int P); have Ho1 := Lib.hid ho1; have Hb1 := Lib.hid hb1; clear hH ho1 hb1)
  go_wp2_with (go_at_call 40; refine hR.mono ?_; rintro e w2 ⟨⟨r2, rfl⟩, ho2, hg2⟩; have Ho2 := Lib.hid ho2; have Hg2 := Lib.hid hg2; clear hR ho2 hg2)
  go_ret
  have h2 := Hb1.out.grown Hg2.out Hb1.out.size (fun k e => (Ho1.out.lt k e).1)
  refine ⟨_, rfl, ?_, HbW.out.trans (h2.mono (by rw [HzW.out]; omega))⟩
  have := gr_mono Ho2.out (base' := w.heap.size) (by rw [HzW.out]; omega)
  rw [natsV_rev] at this
  simpa using this
end Go.Proofs.Ytlejpoofgnenhaa
