/-
  Which programs may be, by the reference: an instruction's types: more of its simple tests.
-/
import Derived.Test.YthhjhdmdfneegaaJc42
namespace Go.Proofs.Ythhjhdmdfneegaa
set_option linter.unusedVariables false
set_option linter.unusedSimpArgs false
open Go.RowKit Go.Shelf

set_option maxRecDepth 100000 in
set_option maxHeartbeats 8000000 in
theorem iw9 {s : Nat → Value} {w0 w : World} {pb fb xb : Nat} {fA : Option Addr} {fn fc : Nat} {mn : Int} {V : RV} {f : SF} {x : SIn} {aA : Option Addr} {an ac : Nat} {k : Int} (h : Wi s w0 w pb fb xb fA fn fc mn V f x aA an ac k) (hop : x.op ≠ 36) (Q : Exit → Act → World → Prop) (hQ : InQ w0 f x Q) : (inW9).wp Try.prog Q (fi s) w := by
  obtain ⟨op, ty, args, nn, to_⟩ := x
  have HQ := Lib.hid hQ
  have HB := Lib.hid h.b
  have HZ := Lib.hid (h.to0 hop)
  obtain ⟨nm, pA, pn, pc, rt, iA, in_, ic, bA, bn, bc⟩ := V
  obtain ⟨f0, f1, f2, f3, f4, -⟩ := gr_five (show w.heap[fb]? = some (.cells #[.string nm, .slice pA pn pc, .int .i64 rt, .slice iA in_ ic, .slice bA bn bc] 43 (0, 0)) from h.cf)
  obtain ⟨x0, x1, x2, x3, x4, -⟩ := gr_five h.cx
  have HO := Lib.hid h.of_
  have h4 : s 4 = .pointer (some ⟨fb, 0, none⟩) := h.s4
  have h5 : s 5 = .pointer (some ⟨xb, 0, none⟩) := h.s5
  have h7 : s 7 = .int .i64 ty := h.s7
  have h8 : s 8 = .int .i64 k := h.s8
  rw [fi_lit]
  conv => arg 2; whnf
  rw [h4, h5, h7, h8]
  clear h hop hQ
  by_cases ht : ty = 1
  · subst ht
    have hO : Calls Try.prog 68 #[.agg #[.string nm, .slice pA pn pc, .int .i64 rt, .slice iA in_ ic, .slice bA bn bc], .agg #[.int .i64 op, .int .i64 1, .slice aA an ac, .int .i64 nn, .int .i64 to_], .slice (some ⟨w.heap.size, 0, none⟩) 1 1] (w.alloc (.cells #[.int .i64 4] 3)) (BP (OfOk f args [4]) (w.alloc (.cells #[.int .i64 4] 3))) := HO.out [4] (some ⟨w.heap.size, 0, none⟩) 1 1 _ ((Below.refl _ _).alloc (Nat.le_refl _) _) (GNs.fresh w [4] 3) (by decide)
    go_wp2_with (go_at_call 68; refine hO.mono ?_; rintro e w3 ⟨r, rfl, h3, hp⟩; have HB3 := Lib.hid (HB.out.trans (((Below.refl w.heap.size w).alloc (Nat.le_refl _) _ |>.trans (h3.mono (by simp))).mono HB.out.size)); have HP := Lib.hid hp; clear hO h3 hp)
    exact HQ.out _ _ r rfl rfl rfl HB3.out (fun e => insOk_of (by omega) (by omega) HZ.out ((HP.out e).args (by simp; try omega)))
  · have d1 : (ty == 1) = false := by simp [ht]
    go_wp2
    exact HQ.out _ _ false rfl rfl rfl HB.out (fun e => by cases e)
set_option maxRecDepth 100000 in
set_option maxHeartbeats 8000000 in
theorem iw10 {s : Nat → Value} {w0 w : World} {pb fb xb : Nat} {fA : Option Addr} {fn fc : Nat} {mn : Int} {V : RV} {f : SF} {x : SIn} {aA : Option Addr} {an ac : Nat} {k : Int} (h : Wi s w0 w pb fb xb fA fn fc mn V f x aA an ac k) (hop : x.op ≠ 36) (Q : Exit → Act → World → Prop) (hQ : InQ w0 f x Q) : (inW10).wp Try.prog Q (fi s) w := by
  obtain ⟨op, ty, args, nn, to_⟩ := x
  have HQ := Lib.hid hQ
  have HB := Lib.hid h.b
  have HZ := Lib.hid (h.to0 hop)
  obtain ⟨nm, pA, pn, pc, rt, iA, in_, ic, bA, bn, bc⟩ := V
  obtain ⟨f0, f1, f2, f3, f4, -⟩ := gr_five (show w.heap[fb]? = some (.cells #[.string nm, .slice pA pn pc, .int .i64 rt, .slice iA in_ ic, .slice bA bn bc] 43 (0, 0)) from h.cf)
  obtain ⟨x0, x1, x2, x3, x4, -⟩ := gr_five h.cx
  have HO := Lib.hid h.of_
  have h4 : s 4 = .pointer (some ⟨fb, 0, none⟩) := h.s4
  have h5 : s 5 = .pointer (some ⟨xb, 0, none⟩) := h.s5
  have h7 : s 7 = .int .i64 ty := h.s7
  have h8 : s 8 = .int .i64 k := h.s8
  rw [fi_lit]
  conv => arg 2; whnf
  rw [h4, h5, h7, h8]
  clear h hop hQ
  by_cases ht : ty = 1
  · subst ht
    by_cases k1 : k = 3
    · subst k1
      have hO : Calls Try.prog 68 #[.agg #[.string nm, .slice pA pn pc, .int .i64 rt, .slice iA in_ ic, .slice bA bn bc], .agg #[.int .i64 op, .int .i64 1, .slice aA an ac, .int .i64 nn, .int .i64 to_], .slice (some ⟨w.heap.size, 0, none⟩) 2 2] (w.alloc (.cells #[.int .i64 3, .int .i64 1] 3)) (BP (OfOk f args [3, 1]) (w.alloc (.cells #[.int .i64 3, .int .i64 1] 3))) := HO.out [3, 1] (some ⟨w.heap.size, 0, none⟩) 2 2 _ ((Below.refl _ _).alloc (Nat.le_refl _) _) (GNs.fresh w [3, 1] 3) (by decide)
      go_wp2_with (go_at_call 68; refine hO.mono ?_; rintro e w3 ⟨r, rfl, h3, hp⟩; have HB3 := Lib.hid (HB.out.trans (((Below.refl w.heap.size w).alloc (Nat.le_refl _) _ |>.trans (h3.mono (by simp))).mono HB.out.size)); have HP := Lib.hid hp; clear hO h3 hp)
      exact HQ.out _ _ r rfl rfl rfl HB3.out (fun e => insOk_of (by omega) (by omega) HZ.out ((HP.out e).args (by simp; try omega)))
    · have d2 : (k == 3) = false := by simp [k1]
      by_cases k2 : k = 4
      · subst k2
        have hO : Calls Try.prog 68 #[.agg #[.string nm, .slice pA pn pc, .int .i64 rt, .slice iA in_ ic, .slice bA bn bc], .agg #[.int .i64 op, .int .i64 1, .slice aA an ac, .int .i64 nn, .int .i64 to_], .slice (some ⟨w.heap.size, 0, none⟩) 2 2] (w.alloc (.cells #[.int .i64 4, .int .i64 1] 3)) (BP (OfOk f args [4, 1]) (w.alloc (.cells #[.int .i64 4, .int .i64 1] 3))) := HO.out [4, 1] (some ⟨w.heap.size, 0, none⟩) 2 2 _ ((Below.refl _ _).alloc (Nat.le_refl _) _) (GNs.fresh w [4, 1] 3) (by decide)
        go_wp2_with (go_at_call 68; refine hO.mono ?_; rintro e w3 ⟨r, rfl, h3, hp⟩; have HB3 := Lib.hid (HB.out.trans (((Below.refl w.heap.size w).alloc (Nat.le_refl _) _ |>.trans (h3.mono (by simp))).mono HB.out.size)); have HP := Lib.hid hp; clear hO h3 hp)
        exact HQ.out _ _ r rfl rfl rfl HB3.out (fun e => insOk_of (by omega) (by omega) HZ.out ((HP.out e).args (by simp; try omega)))
      · have d3 : (k == 4) = false := by simp [k2]
        go_wp2
        exact HQ.out _ _ false rfl rfl rfl HB.out (fun e => by cases e)
  · have d1 : (ty == 1) = false := by simp [ht]
    go_wp2
    exact HQ.out _ _ false rfl rfl rfl HB.out (fun e => by cases e)
set_option maxRecDepth 100000 in
set_option maxHeartbeats 8000000 in
theorem iw11 {s : Nat → Value} {w0 w : World} {pb fb xb : Nat} {fA : Option Addr} {fn fc : Nat} {mn : Int} {V : RV} {f : SF} {x : SIn} {aA : Option Addr} {an ac : Nat} {k : Int} (h : Wi s w0 w pb fb xb fA fn fc mn V f x aA an ac k) (hop : x.op ≠ 36) (Q : Exit → Act → World → Prop) (hQ : InQ w0 f x Q) : (inW11).wp Try.prog Q (fi s) w := by
  obtain ⟨op, ty, args, nn, to_⟩ := x
  have HQ := Lib.hid hQ
  have HB := Lib.hid h.b
  have HZ := Lib.hid (h.to0 hop)
  obtain ⟨nm, pA, pn, pc, rt, iA, in_, ic, bA, bn, bc⟩ := V
  obtain ⟨f0, f1, f2, f3, f4, -⟩ := gr_five (show w.heap[fb]? = some (.cells #[.string nm, .slice pA pn pc, .int .i64 rt, .slice iA in_ ic, .slice bA bn bc] 43 (0, 0)) from h.cf)
  obtain ⟨x0, x1, x2, x3, x4, -⟩ := gr_five h.cx
  have HO := Lib.hid h.of_
  have h4 : s 4 = .pointer (some ⟨fb, 0, none⟩) := h.s4
  have h5 : s 5 = .pointer (some ⟨xb, 0, none⟩) := h.s5
  have h7 : s 7 = .int .i64 ty := h.s7
  have h8 : s 8 = .int .i64 k := h.s8
  rw [fi_lit]
  conv => arg 2; whnf
  rw [h4, h5, h7, h8]
  clear h hop hQ
  by_cases ht : ty = 3
  · subst ht
    have hO : Calls Try.prog 68 #[.agg #[.string nm, .slice pA pn pc, .int .i64 rt, .slice iA in_ ic, .slice bA bn bc], .agg #[.int .i64 op, .int .i64 3, .slice aA an ac, .int .i64 nn, .int .i64 to_], .slice (some ⟨w.heap.size, 0, none⟩) 1 1] (w.alloc (.cells #[.int .i64 1] 3)) (BP (OfOk f args [1]) (w.alloc (.cells #[.int .i64 1] 3))) := HO.out [1] (some ⟨w.heap.size, 0, none⟩) 1 1 _ ((Below.refl _ _).alloc (Nat.le_refl _) _) (GNs.fresh w [1] 3) (by decide)
    go_wp2_with (go_at_call 68; refine hO.mono ?_; rintro e w3 ⟨r, rfl, h3, hp⟩; have HB3 := Lib.hid (HB.out.trans (((Below.refl w.heap.size w).alloc (Nat.le_refl _) _ |>.trans (h3.mono (by simp))).mono HB.out.size)); have HP := Lib.hid hp; clear hO h3 hp)
    exact HQ.out _ _ r rfl rfl rfl HB3.out (fun e => insOk_of (by omega) (by omega) HZ.out ((HP.out e).args (by simp; try omega)))
  · have d1 : (ty == 3) = false := by simp [ht]
    go_wp2
    exact HQ.out _ _ false rfl rfl rfl HB.out (fun e => by cases e)
set_option maxRecDepth 100000 in
set_option maxHeartbeats 8000000 in
theorem iw12 {s : Nat → Value} {w0 w : World} {pb fb xb : Nat} {fA : Option Addr} {fn fc : Nat} {mn : Int} {V : RV} {f : SF} {x : SIn} {aA : Option Addr} {an ac : Nat} {k : Int} (h : Wi s w0 w pb fb xb fA fn fc mn V f x aA an ac k) (hop : x.op ≠ 36) (Q : Exit → Act → World → Prop) (hQ : InQ w0 f x Q) : (inW12).wp Try.prog Q (fi s) w := by
  obtain ⟨op, ty, args, nn, to_⟩ := x
  have HQ := Lib.hid hQ
  have HB := Lib.hid h.b
  have HZ := Lib.hid (h.to0 hop)
  obtain ⟨nm, pA, pn, pc, rt, iA, in_, ic, bA, bn, bc⟩ := V
  obtain ⟨f0, f1, f2, f3, f4, -⟩ := gr_five (show w.heap[fb]? = some (.cells #[.string nm, .slice pA pn pc, .int .i64 rt, .slice iA in_ ic, .slice bA bn bc] 43 (0, 0)) from h.cf)
  obtain ⟨x0, x1, x2, x3, x4, -⟩ := gr_five h.cx
  have HO := Lib.hid h.of_
  have h4 : s 4 = .pointer (some ⟨fb, 0, none⟩) := h.s4
  have h5 : s 5 = .pointer (some ⟨xb, 0, none⟩) := h.s5
  have h7 : s 7 = .int .i64 ty := h.s7
  have h8 : s 8 = .int .i64 k := h.s8
  rw [fi_lit]
  conv => arg 2; whnf
  rw [h4, h5, h7, h8]
  clear h hop hQ
  by_cases ht : ty = 4
  · subst ht
    have hO : Calls Try.prog 68 #[.agg #[.string nm, .slice pA pn pc, .int .i64 rt, .slice iA in_ ic, .slice bA bn bc], .agg #[.int .i64 op, .int .i64 4, .slice aA an ac, .int .i64 nn, .int .i64 to_], .slice (some ⟨w.heap.size, 0, none⟩) 2 2] (w.alloc (.cells #[.int .i64 1, .int .i64 1] 3)) (BP (OfOk f args [1, 1]) (w.alloc (.cells #[.int .i64 1, .int .i64 1] 3))) := HO.out [1, 1] (some ⟨w.heap.size, 0, none⟩) 2 2 _ ((Below.refl _ _).alloc (Nat.le_refl _) _) (GNs.fresh w [1, 1] 3) (by decide)
    go_wp2_with (go_at_call 68; refine hO.mono ?_; rintro e w3 ⟨r, rfl, h3, hp⟩; have HB3 := Lib.hid (HB.out.trans (((Below.refl w.heap.size w).alloc (Nat.le_refl _) _ |>.trans (h3.mono (by simp))).mono HB.out.size)); have HP := Lib.hid hp; clear hO h3 hp)
    exact HQ.out _ _ r rfl rfl rfl HB3.out (fun e => insOk_of (by omega) (by omega) HZ.out ((HP.out e).args (by simp; try omega)))
  · have d1 : (ty == 4) = false := by simp [ht]
    go_wp2
    exact HQ.out _ _ false rfl rfl rfl HB.out (fun e => by cases e)
set_option maxRecDepth 100000 in
set_option maxHeartbeats 8000000 in
theorem iw13 {s : Nat → Value} {w0 w : World} {pb fb xb : Nat} {fA : Option Addr} {fn fc : Nat} {mn : Int} {V : RV} {f : SF} {x : SIn} {aA : Option Addr} {an ac : Nat} {k : Int} (h : Wi s w0 w pb fb xb fA fn fc mn V f x aA an ac k) (hop : x.op ≠ 36) (Q : Exit → Act → World → Prop) (hQ : InQ w0 f x Q) : (inW13).wp Try.prog Q (fi s) w := by
  obtain ⟨op, ty, args, nn, to_⟩ := x
  have HQ := Lib.hid hQ
  have HB := Lib.hid h.b
  have HZ := Lib.hid (h.to0 hop)
  obtain ⟨nm, pA, pn, pc, rt, iA, in_, ic, bA, bn, bc⟩ := V
  obtain ⟨f0, f1, f2, f3, f4, -⟩ := gr_five (show w.heap[fb]? = some (.cells #[.string nm, .slice pA pn pc, .int .i64 rt, .slice iA in_ ic, .slice bA bn bc] 43 (0, 0)) from h.cf)
  obtain ⟨x0, x1, x2, x3, x4, -⟩ := gr_five h.cx
  have HO := Lib.hid h.of_
  have h4 : s 4 = .pointer (some ⟨fb, 0, none⟩) := h.s4
  have h5 : s 5 = .pointer (some ⟨xb, 0, none⟩) := h.s5
  have h7 : s 7 = .int .i64 ty := h.s7
  have h8 : s 8 = .int .i64 k := h.s8
  rw [fi_lit]
  conv => arg 2; whnf
  rw [h4, h5, h7, h8]
  clear h hop hQ
  by_cases ht : ty = 0
  · subst ht
    by_cases k1 : k = 3
    · subst k1
      have hO : Calls Try.prog 68 #[.agg #[.string nm, .slice pA pn pc, .int .i64 rt, .slice iA in_ ic, .slice bA bn bc], .agg #[.int .i64 op, .int .i64 0, .slice aA an ac, .int .i64 nn, .int .i64 to_], .slice (some ⟨w.heap.size, 0, none⟩) 3 3] (w.alloc (.cells #[.int .i64 3, .int .i64 1, .int .i64 1] 3)) (BP (OfOk f args [3, 1, 1]) (w.alloc (.cells #[.int .i64 3, .int .i64 1, .int .i64 1] 3))) := HO.out [3, 1, 1] (some ⟨w.heap.size, 0, none⟩) 3 3 _ ((Below.refl _ _).alloc (Nat.le_refl _) _) (GNs.fresh w [3, 1, 1] 3) (by decide)
      go_wp2_with (go_at_call 68; refine hO.mono ?_; rintro e w3 ⟨r, rfl, h3, hp⟩; have HB3 := Lib.hid (HB.out.trans (((Below.refl w.heap.size w).alloc (Nat.le_refl _) _ |>.trans (h3.mono (by simp))).mono HB.out.size)); have HP := Lib.hid hp; clear hO h3 hp)
      exact HQ.out _ _ r rfl rfl rfl HB3.out (fun e => insOk_of (by omega) (by omega) HZ.out ((HP.out e).args (by simp; try omega)))
    · have d2 : (k == 3) = false := by simp [k1]
      by_cases k2 : k = 4
      · subst k2
        have hO : Calls Try.prog 68 #[.agg #[.string nm, .slice pA pn pc, .int .i64 rt, .slice iA in_ ic, .slice bA bn bc], .agg #[.int .i64 op, .int .i64 0, .slice aA an ac, .int .i64 nn, .int .i64 to_], .slice (some ⟨w.heap.size, 0, none⟩) 3 3] (w.alloc (.cells #[.int .i64 4, .int .i64 1, .int .i64 1] 3)) (BP (OfOk f args [4, 1, 1]) (w.alloc (.cells #[.int .i64 4, .int .i64 1, .int .i64 1] 3))) := HO.out [4, 1, 1] (some ⟨w.heap.size, 0, none⟩) 3 3 _ ((Below.refl _ _).alloc (Nat.le_refl _) _) (GNs.fresh w [4, 1, 1] 3) (by decide)
        go_wp2_with (go_at_call 68; refine hO.mono ?_; rintro e w3 ⟨r, rfl, h3, hp⟩; have HB3 := Lib.hid (HB.out.trans (((Below.refl w.heap.size w).alloc (Nat.le_refl _) _ |>.trans (h3.mono (by simp))).mono HB.out.size)); have HP := Lib.hid hp; clear hO h3 hp)
        exact HQ.out _ _ r rfl rfl rfl HB3.out (fun e => insOk_of (by omega) (by omega) HZ.out ((HP.out e).args (by simp; try omega)))
      · have d3 : (k == 4) = false := by simp [k2]
        go_wp2
        exact HQ.out _ _ false rfl rfl rfl HB.out (fun e => by cases e)
  · have d1 : (ty == 0) = false := by simp [ht]
    go_wp2
    exact HQ.out _ _ false rfl rfl rfl HB.out (fun e => by cases e)
set_option maxRecDepth 100000 in
set_option maxHeartbeats 8000000 in
theorem iw14 {s : Nat → Value} {w0 w : World} {pb fb xb : Nat} {fA : Option Addr} {fn fc : Nat} {mn : Int} {V : RV} {f : SF} {x : SIn} {aA : Option Addr} {an ac : Nat} {k : Int} (h : Wi s w0 w pb fb xb fA fn fc mn V f x aA an ac k) (hop : x.op ≠ 36) (Q : Exit → Act → World → Prop) (hQ : InQ w0 f x Q) : (inW14).wp Try.prog Q (fi s) w := by
  obtain ⟨op, ty, args, nn, to_⟩ := x
  have HQ := Lib.hid hQ
  have HB := Lib.hid h.b
  have HZ := Lib.hid (h.to0 hop)
  obtain ⟨nm, pA, pn, pc, rt, iA, in_, ic, bA, bn, bc⟩ := V
  obtain ⟨f0, f1, f2, f3, f4, -⟩ := gr_five (show w.heap[fb]? = some (.cells #[.string nm, .slice pA pn pc, .int .i64 rt, .slice iA in_ ic, .slice bA bn bc] 43 (0, 0)) from h.cf)
  obtain ⟨x0, x1, x2, x3, x4, -⟩ := gr_five h.cx
  have HO := Lib.hid h.of_
  have h4 : s 4 = .pointer (some ⟨fb, 0, none⟩) := h.s4
  have h5 : s 5 = .pointer (some ⟨xb, 0, none⟩) := h.s5
  have h7 : s 7 = .int .i64 ty := h.s7
  have h8 : s 8 = .int .i64 k := h.s8
  rw [fi_lit]
  conv => arg 2; whnf
  rw [h4, h5, h7, h8]
  clear h hop hQ
  by_cases ht : ty = 0
  · subst ht
    by_cases k1 : k = 1
    · subst k1
      have hO : Calls Try.prog 68 #[.agg #[.string nm, .slice pA pn pc, .int .i64 rt, .slice iA in_ ic, .slice bA bn bc], .agg #[.int .i64 op, .int .i64 0, .slice aA an ac, .int .i64 nn, .int .i64 to_], .slice (some ⟨w.heap.size, 0, none⟩) 1 1] (w.alloc (.cells #[.int .i64 1] 3)) (BP (OfOk f args [1]) (w.alloc (.cells #[.int .i64 1] 3))) := HO.out [1] (some ⟨w.heap.size, 0, none⟩) 1 1 _ ((Below.refl _ _).alloc (Nat.le_refl _) _) (GNs.fresh w [1] 3) (by decide)
      go_wp2_with (go_at_call 68; refine hO.mono ?_; rintro e w3 ⟨r, rfl, h3, hp⟩; have HB3 := Lib.hid (HB.out.trans (((Below.refl w.heap.size w).alloc (Nat.le_refl _) _ |>.trans (h3.mono (by simp))).mono HB.out.size)); have HP := Lib.hid hp; clear hO h3 hp)
      exact HQ.out _ _ r rfl rfl rfl HB3.out (fun e => insOk_of (by omega) (by omega) HZ.out ((HP.out e).args (by simp; try omega)))
    · have d2 : (k == 1) = false := by simp [k1]
      by_cases k2 : k = 2
      · subst k2
        have hO : Calls Try.prog 68 #[.agg #[.string nm, .slice pA pn pc, .int .i64 rt, .slice iA in_ ic, .slice bA bn bc], .agg #[.int .i64 op, .int .i64 0, .slice aA an ac, .int .i64 nn, .int .i64 to_], .slice (some ⟨w.heap.size, 0, none⟩) 1 1] (w.alloc (.cells #[.int .i64 2] 3)) (BP (OfOk f args [2]) (w.alloc (.cells #[.int .i64 2] 3))) := HO.out [2] (some ⟨w.heap.size, 0, none⟩) 1 1 _ ((Below.refl _ _).alloc (Nat.le_refl _) _) (GNs.fresh w [2] 3) (by decide)
        go_wp2_with (go_at_call 68; refine hO.mono ?_; rintro e w3 ⟨r, rfl, h3, hp⟩; have HB3 := Lib.hid (HB.out.trans (((Below.refl w.heap.size w).alloc (Nat.le_refl _) _ |>.trans (h3.mono (by simp))).mono HB.out.size)); have HP := Lib.hid hp; clear hO h3 hp)
        exact HQ.out _ _ r rfl rfl rfl HB3.out (fun e => insOk_of (by omega) (by omega) HZ.out ((HP.out e).args (by simp; try omega)))
      · have d3 : (k == 2) = false := by simp [k2]
        go_wp2
        exact HQ.out _ _ false rfl rfl rfl HB.out (fun e => by cases e)
  · have d1 : (ty == 0) = false := by simp [ht]
    go_wp2
    exact HQ.out _ _ false rfl rfl rfl HB.out (fun e => by cases e)
set_option maxRecDepth 100000 in
set_option maxHeartbeats 8000000 in
theorem iw16 {s : Nat → Value} {w0 w : World} {pb fb xb : Nat} {fA : Option Addr} {fn fc : Nat} {mn : Int} {V : RV} {f : SF} {x : SIn} {aA : Option Addr} {an ac : Nat} {k : Int} (h : Wi s w0 w pb fb xb fA fn fc mn V f x aA an ac k) (hop : x.op ≠ 36) (Q : Exit → Act → World → Prop) (hQ : InQ w0 f x Q) : (inW16).wp Try.prog Q (fi s) w := by
  obtain ⟨op, ty, args, nn, to_⟩ := x
  have HQ := Lib.hid hQ
  have HB := Lib.hid h.b
  have HZ := Lib.hid (h.to0 hop)
  obtain ⟨nm, pA, pn, pc, rt, iA, in_, ic, bA, bn, bc⟩ := V
  obtain ⟨f0, f1, f2, f3, f4, -⟩ := gr_five (show w.heap[fb]? = some (.cells #[.string nm, .slice pA pn pc, .int .i64 rt, .slice iA in_ ic, .slice bA bn bc] 43 (0, 0)) from h.cf)
  obtain ⟨x0, x1, x2, x3, x4, -⟩ := gr_five h.cx
  have HO := Lib.hid h.of_
  have h4 : s 4 = .pointer (some ⟨fb, 0, none⟩) := h.s4
  have h5 : s 5 = .pointer (some ⟨xb, 0, none⟩) := h.s5
  have h7 : s 7 = .int .i64 ty := h.s7
  have h8 : s 8 = .int .i64 k := h.s8
  rw [fi_lit]
  conv => arg 2; whnf
  rw [h4, h5, h7, h8]
  clear h hop hQ
  by_cases ht : ty = 0
  · subst ht
    by_cases r1 : 1 ≤ nn
    · by_cases r2 : nn ≤ 3
      · have hO : Calls Try.prog 68 #[.agg #[.string nm, .slice pA pn pc, .int .i64 rt, .slice iA in_ ic, .slice bA bn bc], .agg #[.int .i64 op, .int .i64 0, .slice aA an ac, .int .i64 nn, .int .i64 to_], .slice (some ⟨w.heap.size, 0, none⟩) 1 1] (w.alloc (.cells #[.int .i64 2] 3)) (BP (OfOk f args [2]) (w.alloc (.cells #[.int .i64 2] 3))) := HO.out [2] (some ⟨w.heap.size, 0, none⟩) 1 1 _ ((Below.refl _ _).alloc (Nat.le_refl _) _) (GNs.fresh w [2] 3) (by decide)
        go_wp2_with (go_at_call 68; refine hO.mono ?_; rintro e w3 ⟨r, rfl, h3, hp⟩; have HB3 := Lib.hid (HB.out.trans (((Below.refl w.heap.size w).alloc (Nat.le_refl _) _ |>.trans (h3.mono (by simp))).mono HB.out.size)); have HP := Lib.hid hp; clear hO h3 hp)
        exact HQ.out _ _ r rfl rfl rfl HB3.out (fun e => insOk_of (by omega) (by omega) HZ.out ((HP.out e).args (by simp; try omega)))
      · go_wp2
        exact HQ.out _ _ false rfl rfl rfl HB.out (fun e => by cases e)
    · go_wp2
      exact HQ.out _ _ false rfl rfl rfl HB.out (fun e => by cases e)
  · have d1 : (ty == 0) = false := by simp [ht]
    go_wp2
    exact HQ.out _ _ false rfl rfl rfl HB.out (fun e => by cases e)
set_option maxRecDepth 100000 in
set_option maxHeartbeats 8000000 in
theorem iwZ {s : Nat → Value} {w0 w : World} {pb fb xb : Nat} {fA : Option Addr} {fn fc : Nat} {mn : Int} {V : RV} {f : SF} {x : SIn} {aA : Option Addr} {an ac : Nat} {k : Int} (h : Wi s w0 w pb fb xb fA fn fc mn V f x aA an ac k) (hop : x.op ≠ 36) (Q : Exit → Act → World → Prop) (hQ : InQ w0 f x Q) : (sndC in6).wp Try.prog Q (fi s) w := by
  obtain ⟨op, ty, args, nn, to_⟩ := x
  have HQ := Lib.hid hQ
  have HB := Lib.hid h.b
  have HZ := Lib.hid (h.to0 hop)
  obtain ⟨nm, pA, pn, pc, rt, iA, in_, ic, bA, bn, bc⟩ := V
  obtain ⟨f0, f1, f2, f3, f4, -⟩ := gr_five (show w.heap[fb]? = some (.cells #[.string nm, .slice pA pn pc, .int .i64 rt, .slice iA in_ ic, .slice bA bn bc] 43 (0, 0)) from h.cf)
  obtain ⟨x0, x1, x2, x3, x4, -⟩ := gr_five h.cx
  have HO := Lib.hid h.of_
  have h4 : s 4 = .pointer (some ⟨fb, 0, none⟩) := h.s4
  have h5 : s 5 = .pointer (some ⟨xb, 0, none⟩) := h.s5
  have h7 : s 7 = .int .i64 ty := h.s7
  have h8 : s 8 = .int .i64 k := h.s8
  rw [fi_lit]
  conv => arg 2; whnf
  rw [h4, h5, h7, h8]
  clear h hop hQ
  by_cases ht : ty = 1
  · subst ht
    have hO : Calls Try.prog 68 #[.agg #[.string nm, .slice pA pn pc, .int .i64 rt, .slice iA in_ ic, .slice bA bn bc], .agg #[.int .i64 op, .int .i64 1, .slice aA an ac, .int .i64 nn, .int .i64 to_], .slice (some ⟨w.heap.size, 0, none⟩) 2 2] (w.alloc (.cells #[.int .i64 1, .int .i64 1] 3)) (BP (OfOk f args [1, 1]) (w.alloc (.cells #[.int .i64 1, .int .i64 1] 3))) := HO.out [1, 1] (some ⟨w.heap.size, 0, none⟩) 2 2 _ ((Below.refl _ _).alloc (Nat.le_refl _) _) (GNs.fresh w [1, 1] 3) (by decide)
    go_wp2_with (go_at_call 68; refine hO.mono ?_; rintro e w3 ⟨r, rfl, h3, hp⟩; have HB3 := Lib.hid (HB.out.trans (((Below.refl w.heap.size w).alloc (Nat.le_refl _) _ |>.trans (h3.mono (by simp))).mono HB.out.size)); have HP := Lib.hid hp; clear hO h3 hp)
    exact HQ.out _ _ r rfl rfl rfl HB3.out (fun e => insOk_of (by omega) (by omega) HZ.out ((HP.out e).args (by simp; try omega)))
  · have d1 : (ty == 1) = false := by simp [ht]
    go_wp2
    exact HQ.out _ _ false rfl rfl rfl HB.out (fun e => by cases e)
end Go.Proofs.Ythhjhdmdfneegaa
