/-
  Blocks on all ways: Order and Kids of a tree.
-/
import Derived.Test.YtoplllebaagnnaaJd41
namespace Go.Proofs.Ytoplllebaagnnaa
set_option linter.unusedVariables false
set_option linter.unusedSimpArgs false
open Go.RowKit Go.Shelf

theorem row_ints {w : World} {base : Nat} {v : Value} {P : List Nat} (h : w.ownsRow base 3 1 v P.length (natsV P)) : GNs w.heap.size w v (natsI P) := by
  have e : natsV P = intsV (natsI P) := by simp [natsV, intsV, natsI]
  rw [e] at h
  exact GNs.of_own (l := natsI P) (v := v) (base := base) (by unfold natsI at h ⊢; rw [List.length_map]; exact h)
theorem clone_g (n0 : Nat) (v : Value) (l : List Int) (w : World) (h : GNs n0 w v l) (hl : l.length ≤ 1048576) :
    Calls Try.prog 32 #[v] w fun e w' => ∃ v', e = .returned v' ∧ GNs w'.heap.size w' v' l ∧ Below w.heap.size w w' := by
  obtain ⟨A, c, rfl, hr⟩ := h
  cases l with
  | nil =>
    cases A with
    | none =>
      refine (slices_Clone_int_nil 0 c w).mono ?_
      rintro e w' ⟨rfl, rfl⟩
      exact ⟨_, rfl, ⟨none, 0, rfl, fun h => by simp at h⟩, Below.refl _ _⟩
    | some a =>
      refine (slices_Clone_int_zero a c w).mono ?_
      rintro e w' ⟨v', rfl, h1, -, h2⟩
      exact ⟨v', rfl, GNs.of_own (l := []) h1, h2⟩
  | cons x l =>
    obtain ⟨b, o, rfl, -, hc⟩ := hr (by simp)
    refine (slices_Clone_int b o (x :: l).length c (x :: l) w (Nat.le_refl _) (by omega) (fun j hj => by
      rw [hc j _ (List.getElem?_eq_getElem hj), List.getD, List.getElem?_eq_getElem hj]
      rfl)).mono ?_
    rintro e w' ⟨v', rfl, h1, -, h2⟩
    rw [List.take_length] at h1
    exact ⟨v', rfl, GNs.of_own h1, h2⟩
set_option maxRecDepth 100000 in
theorem order_raw (tp : Nat) (vo : Value) (l : List Int) (w : World) (c0 : w.cell? ⟨tp, 0, none⟩ = some vo) (h : GNs w.heap.size w vo l) (hl : l.length ≤ 1048576) : Calls Try.prog 18 #[.pointer (some ⟨tp, 0, none⟩)] w fun e w' => ∃ v, e = .returned v ∧ GNs w'.heap.size w' v l ∧ Below w.heap.size w w' := by
  have hC := clone_g w.heap.size vo l w h hl
  clear h hl
  go_enter Try.func18, Try.ntmps18
  go_wp2_with (go_at_call 32; refine hC.mono ?_; rintro e w1 ⟨v, rfl, h1, h2⟩; have H1 := Lib.hid h1; have H2 := Lib.hid h2; clear h1 h2 hC)
  go_ret
  exact ⟨_, rfl, H1.out, H2.out⟩
theorem order_t (tp : Nat) (g : List GB) (T : TrP) (w : World) (h : TR w tp g T) : Calls Try.prog 18 #[.pointer (some ⟨tp, 0, none⟩)] w fun e w' => ∃ v, e = .returned v ∧ GNs w'.heap.size w' v (natsI (orderP g)) ∧ Below w.heap.size w w' := by
  rcases h with ⟨h0, h1, h2⟩ | ⟨h0, h1⟩
  · obtain ⟨vo, vu, vd, vp, vq, vt, vs, vst, gk, vk, t1, t2, -⟩ := h1
    have ho := h2.eq.ord
    have hl := h2.eq.ordl
    rw [ho] at t2 hl
    exact order_raw tp vo _ w (Lib.cell_of_heap t1 0) t2 hl
  · have : natsI (orderP g) = [] := by
      have := orderP_nil h0
      rw [List.eq_nil_of_length_eq_zero this]; rfl
    rw [this]
    exact order_raw tp _ [] w (Lib.cell_of_heap h1 0) ⟨none, 0, rfl, fun h => by simp at h⟩ (by simp)
noncomputable def kidV (g : List GB) (T : TrP) (b : Nat) : List Int := if rcB g b then natsI (kidsOf T.up (orderP g) b) else []
set_option maxRecDepth 100000 in
theorem kids_t (tp : Nat) (g : List GB) (T : TrP) (b : Nat) (w : World) (h : TR w tp g T) (hn : g.length ≤ 1000) : Calls Try.prog 19 #[.pointer (some ⟨tp, 0, none⟩), .int .i64 (b : Int)] w fun e w' => ∃ v, e = .returned v ∧ GNs w'.heap.size w' v (kidV g T b) ∧ Below w.heap.size w w' := by
  have hR := reached_t tp g T (b : Int) w h
  cases hq : rcB g b with
  | false =>
    rw [hq] at hR
    have : kidV g T b = [] := by unfold kidV; rw [hq]; rfl
    rw [this]
    clear h hq this
    go_enter Try.func19, Try.ntmps19
    go_wp2_with (go_at_call 15; refine hR.mono ?_; rintro e w1 ⟨rfl, rfl⟩; clear hR)
    go_ret
    exact ⟨_, rfl, ⟨none, 0, rfl, fun h => by simp at h⟩, Below.refl _ _⟩
  | true =>
    rw [hq] at hR
    obtain ⟨h0, x, hx, hr⟩ := rcB_iff.1 hq
    obtain rfl : b = x := by omega
    have hkv : kidV g T b = natsI (kidsOf T.up (orderP g) b) := by unfold kidV; rw [if_pos hq]
    rcases h with ⟨-, h1, h2⟩ | ⟨h0', -⟩
    · obtain ⟨vo, vu, vd, vp, vq, vt, vs, vst, gk, vk, t1, t2, t3, t4, t5, t6, t7, t8, t9, l1, l2, l3, l4, l5, l6, hgk, hk1, hk2⟩ := h1
      have hbl : b < g.length := by
        have := h2.ord.o.lt b ((h2.ord.o.mem b).2 hr)
        exact this
      have hvk : vk[b]? = some vk[b] := List.getElem?_eq_getElem (by omega)
      have hkl : T.kids[b]? = some (kidV g T b) := by
        have e1 : b < T.kids.length := by omega
        have := h2.kid b hbl
        rw [List.getElem?_eq_getElem e1, hkv, ← this]
        simp [List.getD, e1]
      have hg := hk2 b _ _ hvk hkl
      have c2 := Lib.cell_of_heap t1 2
      have c3 := hk1 b _ hvk
      obtain ⟨v, hv⟩ : ∃ v, v = vk[b] := ⟨_, rfl⟩
      rw [← hv] at hg c3
      have hlen : (kidV g T b).length ≤ 1048576 := by
        rw [hkv]
        unfold natsI kidsOf
        rw [List.length_map]
        have := List.length_filter_le (fun k => decide (T.up.getD k 0 = (b : Int))) (orderP g)
        have := h2.ord.len
        omega
      have hC := clone_g w.heap.size v _ w hg hlen
      obtain ⟨n, hn2⟩ : ∃ n, n = g.length := ⟨_, rfl⟩
      rw [← hn2] at c2 hbl
      clear hk1 hk2 t1 t2 t3 t4 t5 t6 t7 t8 t9 l1 l2 l3 l4 l5 l6 hgk hvk hkl hg hv hlen hkv hr hx hq h0 h2 hn2
      go_enter Try.func19, Try.ntmps19
      go_wp2_with (first
        | (go_at_call 15; refine hR.mono ?_; rintro e w1 ⟨rfl, rfl⟩; clear hR)
        | (go_at_call 32; refine hC.mono ?_; rintro e w1 ⟨v, rfl, h1, h2⟩; have H1 := Lib.hid h1; have H2 := Lib.hid h2; clear h1 h2 hC))
      go_ret
      exact ⟨_, rfl, H1.out, H2.out⟩
    · omega
end Go.Proofs.Ytoplllebaagnnaa
