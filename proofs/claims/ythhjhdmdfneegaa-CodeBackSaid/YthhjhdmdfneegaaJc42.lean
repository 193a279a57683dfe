/-
  Which programs may be, by the reference: an instruction's types: the code in pieces.
  Which programs may be, by the reference: an instruction's types: its simple tests.
-/
import Derived.Test.YthhjhdmdfneegaaJc17
import Derived.Test.YthhjhdmdfneegaaJc41
namespace Go.Proofs.Ythhjhdmdfneegaa
set_option linter.unusedVariables false
set_option linter.unusedSimpArgs false
open Go.RowKit Go.Shelf

def fi (s : Nat → Value) : Act := ⟨((List.range 373).map s).toArray, []⟩
set_option maxRecDepth 100000 in
theorem fi_lit (s : Nat → Value) : fi s = ⟨#[s 0, s 1, s 2, s 3, s 4, s 5, s 6, s 7, s 8, s 9, s 10, s 11, s 12, s 13, s 14, s 15, s 16, s 17, s 18, s 19, s 20, s 21, s 22, s 23, s 24, s 25, s 26, s 27, s 28, s 29, s 30, s 31, s 32, s 33, s 34, s 35, s 36, s 37, s 38, s 39, s 40, s 41, s 42, s 43, s 44, s 45, s 46, s 47, s 48, s 49, s 50, s 51, s 52, s 53, s 54, s 55, s 56, s 57, s 58, s 59, s 60, s 61, s 62, s 63, s 64, s 65, s 66, s 67, s 68, s 69, s 70, s 71, s 72, s 73, s 74, s 75, s 76, s 77, s 78, s 79, s 80, s 81, s 82, s 83, s 84, s 85, s 86, s 87, s 88, s 89, s 90, s 91, s 92, s 93, s 94, s 95, s 96, s 97, s 98, s 99, s 100, s 101, s 102, s 103, s 104, s 105, s 106, s 107, s 108, s 109, s 110, s 111, s 112, s 113, s 114, s 115, s 116, s 117, s 118, s 119, s 120, s 121, s 122, s 123, s 124, s 125, s 126, s 127, s 128, s 129, s 130, s 131, s 132, s 133, s 134, s 135, s 136, s 137, s 138, s 139, s 140, s 141, s 142, s 143, s 144, s 145, s 146, s 147, s 148, s 149, s 150, s 151, s 152, s 153, s 154, s 155, s 156, s 157, s 158, s 159, s 160, s 161, s 162, s 163, s 164, s 165, s 166, s 167, s 168, s 169, s 170, s 171, s 172, s 173, s 174, s 175, s 176, s 177, s 178, s 179, s 180, s 181, s 182, s 183, s 184, s 185, s 186, s 187, s 188, s 189, s 190, s 191, s 192, s 193, s 194, s 195, s 196, s 197, s 198, s 199, s 200, s 201, s 202, s 203, s 204, s 205, s 206, s 207, s 208, s 209, s 210, s 211, s 212, s 213, s 214, s 215, s 216, s 217, s 218, s 219, s 220, s 221, s 222, s 223, s 224, s 225, s 226, s 227, s 228, s 229, s 230, s 231, s 232, s 233, s 234, s 235, s 236, s 237, s 238, s 239, s 240, s 241, s 242, s 243, s 244, s 245, s 246, s 247, s 248, s 249, s 250, s 251, s 252, s 253, s 254, s 255, s 256, s 257, s 258, s 259, s 260, s 261, s 262, s 263, s 264, s 265, s 266, s 267, s 268, s 269, s 270, s 271, s 272, s 273, s 274, s 275, s 276, s 277, s 278, s 279, s 280, s 281, s 282, s 283, s 284, s 285, s 286, s 287, s 288, s 289, s 290, s 291, s 292, s 293, s 294, s 295, s 296, s 297, s 298, s 299, s 300, s 301, s 302, s 303, s 304, s 305, s 306, s 307, s 308, s 309, s 310, s 311, s 312, s 313, s 314, s 315, s 316, s 317, s 318, s 319, s 320, s 321, s 322, s 323, s 324, s 325, s 326, s 327, s 328, s 329, s 330, s 331, s 332, s 333, s 334, s 335, s 336, s 337, s 338, s 339, s 340, s 341, s 342, s 343, s 344, s 345, s 346, s 347, s 348, s 349, s 350, s 351, s 352, s 353, s 354, s 355, s 356, s 357, s 358, s 359, s 360, s 361, s 362, s 363, s 364, s 365, s 366, s 367, s 368, s 369, s 370, s 371, s 372
], []⟩ := by kernel_rfl
theorem fi_of (a : Act) (h : a.tmps.size = 373) (hd : a.defers = []) : ∃ s, a = fi s ∧ ∀ j, j < 373 → a.tmps[j]? = some (s j) := by
  obtain ⟨t, d⟩ := a
  simp only at h hd
  subst hd
  refine ⟨fun j => t.getD j undef, ?_, fun j hj => ?_⟩
  · unfold fi
    congr 1
    apply Array.ext
    · simp [h]
    · intro i h1 h2
      simp [Array.getD, h1]
  · simp [Array.getD, h, hj]
theorem wp_fi {c : Code} {Q : Exit → Act → World → Prop} {w : World} (a : Act) (h : a.tmps.size = 373) (hd : a.defers = []) (k : ∀ s, (∀ j, j < 373 → a.tmps[j]? = some (s j)) → c.wp Try.prog Q (fi s) w) : c.wp Try.prog Q a w := by
  obtain ⟨s, e, hs⟩ := fi_of a h hd
  rw [e]
  exact k s hs
theorem got2 {x y : Value} {o : Option Value} (h : o = some x) (h2 : o = some y) : x = y := Option.some.inj (h.symm.trans h2)
/-- The code from the first test on. -/
noncomputable def inT : Code := (Try.f55.body.getD .skip)
noncomputable def in1 : Code := sndC inT
noncomputable def in3 : Code := sndC in1
noncomputable def in4 : Code := sndC in3
noncomputable def in6 : Code := sndC in4
noncomputable def inS0 : Code := innC (sndC (fstC in6))
noncomputable def inS1 : Code := elsC (sndC inS0)
noncomputable def inW0 : Code := thnC (sndC inS0)
theorem inS0_eq : inS0 = .seq (fstC inS0) (.cond (.tmp 52) inW0 inS1) := by kernel_rfl
noncomputable def inS2 : Code := elsC (sndC inS1)
noncomputable def inW1 : Code := thnC (sndC inS1)
theorem inS1_eq : inS1 = .seq (fstC inS1) (.cond (.tmp 76) inW1 inS2) := by kernel_rfl
noncomputable def inS3 : Code := elsC (sndC inS2)
noncomputable def inW2 : Code := thnC (sndC inS2)
theorem inS2_eq : inS2 = .seq (fstC inS2) (.cond (.tmp 105) inW2 inS3) := by kernel_rfl
noncomputable def inS4 : Code := elsC (sndC inS3)
noncomputable def inW3 : Code := thnC (sndC inS3)
theorem inS3_eq : inS3 = .seq (fstC inS3) (.cond (.tmp 129) inW3 inS4) := by kernel_rfl
noncomputable def inS5 : Code := elsC (sndC inS4)
noncomputable def inW4 : Code := thnC (sndC inS4)
theorem inS4_eq : inS4 = .seq (fstC inS4) (.cond (.tmp 140) inW4 inS5) := by kernel_rfl
noncomputable def inS6 : Code := elsC (sndC inS5)
noncomputable def inW5 : Code := thnC (sndC inS5)
theorem inS5_eq : inS5 = .seq (fstC inS5) (.cond (.tmp 161) inW5 inS6) := by kernel_rfl
noncomputable def inS7 : Code := elsC (sndC inS6)
noncomputable def inW6 : Code := thnC (sndC inS6)
theorem inS6_eq : inS6 = .seq (fstC inS6) (.cond (.tmp 175) inW6 inS7) := by kernel_rfl
noncomputable def inS8 : Code := elsC (sndC inS7)
noncomputable def inW7 : Code := thnC (sndC inS7)
theorem inS7_eq : inS7 = .seq (fstC inS7) (.cond (.tmp 185) inW7 inS8) := by kernel_rfl
noncomputable def inS9 : Code := elsC (sndC inS8)
noncomputable def inW8 : Code := thnC (sndC inS8)
theorem inS8_eq : inS8 = .seq (fstC inS8) (.cond (.tmp 201) inW8 inS9) := by kernel_rfl
noncomputable def inS10 : Code := elsC (sndC inS9)
noncomputable def inW9 : Code := thnC (sndC inS9)
theorem inS9_eq : inS9 = .seq (fstC inS9) (.cond (.tmp 211) inW9 inS10) := by kernel_rfl
noncomputable def inS11 : Code := elsC (sndC inS10)
noncomputable def inW10 : Code := thnC (sndC inS10)
theorem inS10_eq : inS10 = .seq (fstC inS10) (.cond (.tmp 222) inW10 inS11) := by kernel_rfl
noncomputable def inS12 : Code := elsC (sndC inS11)
noncomputable def inW11 : Code := thnC (sndC inS11)
theorem inS11_eq : inS11 = .seq (fstC inS11) (.cond (.tmp 241) inW11 inS12) := by kernel_rfl
noncomputable def inS13 : Code := elsC (sndC inS12)
noncomputable def inW12 : Code := thnC (sndC inS12)
theorem inS12_eq : inS12 = .seq (fstC inS12) (.cond (.tmp 251) inW12 inS13) := by kernel_rfl
noncomputable def inS14 : Code := elsC (sndC inS13)
noncomputable def inW13 : Code := thnC (sndC inS13)
theorem inS13_eq : inS13 = .seq (fstC inS13) (.cond (.tmp 261) inW13 inS14) := by kernel_rfl
noncomputable def inS15 : Code := elsC (sndC inS14)
noncomputable def inW14 : Code := thnC (sndC inS14)
theorem inS14_eq : inS14 = .seq (fstC inS14) (.cond (.tmp 280) inW14 inS15) := by kernel_rfl
noncomputable def inS16 : Code := elsC (sndC inS15)
noncomputable def inW15 : Code := thnC (sndC inS15)
theorem inS15_eq : inS15 = .seq (fstC inS15) (.cond (.tmp 299) inW15 inS16) := by kernel_rfl
noncomputable def inS17 : Code := elsC (sndC inS16)
noncomputable def inW16 : Code := thnC (sndC inS16)
theorem inS16_eq : inS16 = .seq (fstC inS16) (.cond (.tmp 309) inW16 inS17) := by kernel_rfl
noncomputable def inS18 : Code := elsC (sndC inS17)
noncomputable def inW17 : Code := thnC (sndC inS17)
theorem inS17_eq : inS17 = .seq (fstC inS17) (.cond (.tmp 329) inW17 inS18) := by kernel_rfl
theorem inT_eq : inT = .seq (fstC inT) (.seq (fstC in1) (.seq (fstC in3) (.seq (fstC in4) (.seq (.seq (fstC (fstC in6)) (.block 0 inS0)) (sndC in6))))) := by kernel_rfl
theorem GNs.fresh (w : World) (l : List Int) (T : TypeId) : GNs (w.alloc (.cells (intsV l).toArray T)).heap.size (w.alloc (.cells (intsV l).toArray T)) (.slice (some ⟨w.heap.size, 0, none⟩) l.length l.length) l := GNs.of l (heap_alloc_new w _) (by simp)
/-- Where a test stands, ahead of it. -/
structure Wi (s : Nat → Value) (w0 w : World) (pb fb xb : Nat) (fA : Option Addr) (fn fc : Nat) (mn : Int) (V : RV) (f : SF) (x : SIn) (aA : Option Addr) (an ac : Nat) (k : Int) : Prop where
  s3 : s 3 = .pointer (some ⟨pb, 0, none⟩)
  s4 : s 4 = .pointer (some ⟨fb, 0, none⟩)
  s5 : s 5 = .pointer (some ⟨xb, 0, none⟩)
  s7 : s 7 = .int .i64 x.ty
  s8 : s 8 = .int .i64 k
  s51 : s 51 = .int .i64 x.op
  cp : w.heap[pb]? = some (.cells #[.slice fA fn fc, .int .i64 mn] 25 (0, 0))
  cf : w.heap[fb]? = some (.cells V.cs 43 (0, 0))
  cx : w.heap[xb]? = some (.cells #[.int .i64 x.op, .int .i64 x.ty, .slice aA an ac, .int .i64 x.n, .int .i64 x.to_] 46 (0, 0))
  b : Below w0.heap.size w0 w
  of_ : ∀ (l : List Int) (lA : Option Addr) (ln lc : Nat) (X : World), Below w.heap.size w X → GNs X.heap.size X (.slice lA ln lc) l → ln ≤ 1000 → Calls Try.prog 68 #[.agg V.cs, .agg #[.int .i64 x.op, .int .i64 x.ty, .slice aA an ac, .int .i64 x.n, .int .i64 x.to_], .slice lA ln lc] X (BP (OfOk f x.args l) X)
  an_ : an = x.args.length
  an1 : an ≤ 1000
  to0 : x.op ≠ 36 → x.to_ = 0
/-- The arguments are in place, where their types are told. -/
theorem OfOk.args {f : SF} {args l : List Int} (h : OfOk f args l) (hl : ∀ y ∈ l, y ≠ -1) : ∀ a ∈ args, 0 ≤ a ∧ a < (f.ins.length : Int) := by
  intro a ha
  obtain ⟨j, hj, rfl⟩ := List.getElem_of_mem ha
  obtain ⟨h1, h2⟩ := h
  have hjl : j < l.length := by omega
  have e := h2 j hjl
  simp only [List.getD, List.getElem?_eq_getElem hj, List.getElem?_eq_getElem hjl, Option.getD_some] at e
  exact typQ_in (by rw [e]; exact hl _ (List.getElem_mem hjl))
theorem insOk_of {f : SF} {op ty nn to_ : Int} {args : List Int} (h0 : 0 ≤ ty) (h4 : ty ≤ 4) (hz : to_ = 0) (ha : ∀ a ∈ args, 0 ≤ a ∧ a < (f.ins.length : Int)) : InsOk f ⟨op, ty, args, nn, to_⟩ := by
  subst hz
  exact ⟨⟨h0, h4⟩, ⟨by show (0 : Int) ≤ 0; omega, by show (0 : Int) ≤ 256; omega⟩, ha⟩
/-- A test is over: it answers, or goes on. -/
def InQ (w0 : World) (f : SF) (x : SIn) (Q : Exit → Act → World → Prop) : Prop := ∀ (a' : Act) (w' : World) (r : Bool), a'.tmps[6]? = some (.bool r) → a'.defers = [] → a'.tmps.size = 373 → Below w0.heap.size w0 w' → (r = true → InsOk f x) → Q .ret a' w'
end Go.Proofs.Ythhjhdmdfneegaa
namespace Go.Proofs.Ythhjhdmdfneegaa
set_option linter.unusedVariables false
set_option linter.unusedSimpArgs false
open Go.RowKit Go.Shelf

set_option maxRecDepth 100000 in
set_option maxHeartbeats 8000000 in
theorem iw3 {s : Nat → Value} {w0 w : World} {pb fb xb : Nat} {fA : Option Addr} {fn fc : Nat} {mn : Int} {V : RV} {f : SF} {x : SIn} {aA : Option Addr} {an ac : Nat} {k : Int} (h : Wi s w0 w pb fb xb fA fn fc mn V f x aA an ac k) (hop : x.op ≠ 36) (Q : Exit → Act → World → Prop) (hQ : InQ w0 f x Q) : (inW3).wp Try.prog Q (fi s) w := by
  obtain ⟨op, ty, args, nn, to_⟩ := x
  have HQ := Lib.hid hQ
  have HB := Lib.hid h.b
  have HZ := Lib.hid (h.to0 hop)
  obtain ⟨nm, pA, pn, pc, rt, iA, in_, ic, bA, bn, bc⟩ := V
  obtain ⟨f0, f1, f2, f3, f4, -⟩ := gr_five (show w.heap[fb]? = some (.cells #[.string nm, .slice pA pn pc, .int .i64 rt, .slice iA in_ ic, .slice bA bn bc] 43 (0, 0)) from h.cf)
  obtain ⟨x0, x1, x2, x3, x4, -⟩ := gr_five h.cx
  have HO := Lib.hid h.of_
  have h4 : s 4 = .pointer (some ⟨fb, 0, none⟩) := h.s4
  have h5 : s 5 = .pointer (some ⟨xb, 0, none⟩) := h.s5
  have h7 : s 7 = .int .i64 ty := h.s7
  have h8 : s 8 = .int .i64 k := h.s8
  rw [fi_lit]
  conv => arg 2; whnf
  rw [h4, h5, h7, h8]
  clear h hop hQ
  by_cases ht : ty = 1
  · subst ht
    have hO : Calls Try.prog 68 #[.agg #[.string nm, .slice pA pn pc, .int .i64 rt, .slice iA in_ ic, .slice bA bn bc], .agg #[.int .i64 op, .int .i64 1, .slice aA an ac, .int .i64 nn, .int .i64 to_], .slice (some ⟨w.heap.size, 0, none⟩) 1 1] (w.alloc (.cells #[.int .i64 1] 3)) (BP (OfOk f args [1]) (w.alloc (.cells #[.int .i64 1] 3))) := HO.out [1] (some ⟨w.heap.size, 0, none⟩) 1 1 _ ((Below.refl _ _).alloc (Nat.le_refl _) _) (GNs.fresh w [1] 3) (by decide)
    go_wp2_with (go_at_call 68; refine hO.mono ?_; rintro e w3 ⟨r, rfl, h3, hp⟩; have HB3 := Lib.hid (HB.out.trans (((Below.refl w.heap.size w).alloc (Nat.le_refl _) _ |>.trans (h3.mono (by simp))).mono HB.out.size)); have HP := Lib.hid hp; clear hO h3 hp)
    exact HQ.out _ _ r rfl rfl rfl HB3.out (fun e => insOk_of (by omega) (by omega) HZ.out ((HP.out e).args (by simp; try omega)))
  · have d1 : (ty == 1) = false := by simp [ht]
    go_wp2
    exact HQ.out _ _ false rfl rfl rfl HB.out (fun e => by cases e)
set_option maxRecDepth 100000 in
set_option maxHeartbeats 8000000 in
theorem iw4 {s : Nat → Value} {w0 w : World} {pb fb xb : Nat} {fA : Option Addr} {fn fc : Nat} {mn : Int} {V : RV} {f : SF} {x : SIn} {aA : Option Addr} {an ac : Nat} {k : Int} (h : Wi s w0 w pb fb xb fA fn fc mn V f x aA an ac k) (hop : x.op ≠ 36) (Q : Exit → Act → World → Prop) (hQ : InQ w0 f x Q) : (inW4).wp Try.prog Q (fi s) w := by
  obtain ⟨op, ty, args, nn, to_⟩ := x
  have HQ := Lib.hid hQ
  have HB := Lib.hid h.b
  have HZ := Lib.hid (h.to0 hop)
  obtain ⟨nm, pA, pn, pc, rt, iA, in_, ic, bA, bn, bc⟩ := V
  obtain ⟨f0, f1, f2, f3, f4, -⟩ := gr_five (show w.heap[fb]? = some (.cells #[.string nm, .slice pA pn pc, .int .i64 rt, .slice iA in_ ic, .slice bA bn bc] 43 (0, 0)) from h.cf)
  obtain ⟨x0, x1, x2, x3, x4, -⟩ := gr_five h.cx
  have HO := Lib.hid h.of_
  have h4 : s 4 = .pointer (some ⟨fb, 0, none⟩) := h.s4
  have h5 : s 5 = .pointer (some ⟨xb, 0, none⟩) := h.s5
  have h7 : s 7 = .int .i64 ty := h.s7
  have h8 : s 8 = .int .i64 k := h.s8
  rw [fi_lit]
  conv => arg 2; whnf
  rw [h4, h5, h7, h8]
  clear h hop hQ
  by_cases ht : ty = 2
  · subst ht
    by_cases k1 : k = 1
    · subst k1
      have hO : Calls Try.prog 68 #[.agg #[.string nm, .slice pA pn pc, .int .i64 rt, .slice iA in_ ic, .slice bA bn bc], .agg #[.int .i64 op, .int .i64 2, .slice aA an ac, .int .i64 nn, .int .i64 to_], .slice (some ⟨w.heap.size, 0, none⟩) 2 2] (w.alloc (.cells #[.int .i64 1, .int .i64 1] 3)) (BP (OfOk f args [1, 1]) (w.alloc (.cells #[.int .i64 1, .int .i64 1] 3))) := HO.out [1, 1] (some ⟨w.heap.size, 0, none⟩) 2 2 _ ((Below.refl _ _).alloc (Nat.le_refl _) _) (GNs.fresh w [1, 1] 3) (by decide)
      go_wp2_with (go_at_call 68; refine hO.mono ?_; rintro e w3 ⟨r, rfl, h3, hp⟩; have HB3 := Lib.hid (HB.out.trans (((Below.refl w.heap.size w).alloc (Nat.le_refl _) _ |>.trans (h3.mono (by simp))).mono HB.out.size)); have HP := Lib.hid hp; clear hO h3 hp)
      exact HQ.out _ _ r rfl rfl rfl HB3.out (fun e => insOk_of (by omega) (by omega) HZ.out ((HP.out e).args (by simp; try omega)))
    · have d2 : (k == 1) = false := by simp [k1]
      by_cases k2 : k = 2
      · subst k2
        have hO : Calls Try.prog 68 #[.agg #[.string nm, .slice pA pn pc, .int .i64 rt, .slice iA in_ ic, .slice bA bn bc], .agg #[.int .i64 op, .int .i64 2, .slice aA an ac, .int .i64 nn, .int .i64 to_], .slice (some ⟨w.heap.size, 0, none⟩) 2 2] (w.alloc (.cells #[.int .i64 2, .int .i64 2] 3)) (BP (OfOk f args [2, 2]) (w.alloc (.cells #[.int .i64 2, .int .i64 2] 3))) := HO.out [2, 2] (some ⟨w.heap.size, 0, none⟩) 2 2 _ ((Below.refl _ _).alloc (Nat.le_refl _) _) (GNs.fresh w [2, 2] 3) (by decide)
        go_wp2_with (go_at_call 68; refine hO.mono ?_; rintro e w3 ⟨r, rfl, h3, hp⟩; have HB3 := Lib.hid (HB.out.trans (((Below.refl w.heap.size w).alloc (Nat.le_refl _) _ |>.trans (h3.mono (by simp))).mono HB.out.size)); have HP := Lib.hid hp; clear hO h3 hp)
        exact HQ.out _ _ r rfl rfl rfl HB3.out (fun e => insOk_of (by omega) (by omega) HZ.out ((HP.out e).args (by simp; try omega)))
      · have d3 : (k == 2) = false := by simp [k2]
        go_wp2
        exact HQ.out _ _ false rfl rfl rfl HB.out (fun e => by cases e)
  · have d1 : (ty == 2) = false := by simp [ht]
    go_wp2
    exact HQ.out _ _ false rfl rfl rfl HB.out (fun e => by cases e)
set_option maxRecDepth 100000 in
set_option maxHeartbeats 8000000 in
theorem iw5 {s : Nat → Value} {w0 w : World} {pb fb xb : Nat} {fA : Option Addr} {fn fc : Nat} {mn : Int} {V : RV} {f : SF} {x : SIn} {aA : Option Addr} {an ac : Nat} {k : Int} (h : Wi s w0 w pb fb xb fA fn fc mn V f x aA an ac k) (hop : x.op ≠ 36) (Q : Exit → Act → World → Prop) (hQ : InQ w0 f x Q) : (inW5).wp Try.prog Q (fi s) w := by
  obtain ⟨op, ty, args, nn, to_⟩ := x
  have HQ := Lib.hid hQ
  have HB := Lib.hid h.b
  have HZ := Lib.hid (h.to0 hop)
  obtain ⟨nm, pA, pn, pc, rt, iA, in_, ic, bA, bn, bc⟩ := V
  obtain ⟨f0, f1, f2, f3, f4, -⟩ := gr_five (show w.heap[fb]? = some (.cells #[.string nm, .slice pA pn pc, .int .i64 rt, .slice iA in_ ic, .slice bA bn bc] 43 (0, 0)) from h.cf)
  obtain ⟨x0, x1, x2, x3, x4, -⟩ := gr_five h.cx
  have HO := Lib.hid h.of_
  have h4 : s 4 = .pointer (some ⟨fb, 0, none⟩) := h.s4
  have h5 : s 5 = .pointer (some ⟨xb, 0, none⟩) := h.s5
  have h7 : s 7 = .int .i64 ty := h.s7
  have h8 : s 8 = .int .i64 k := h.s8
  rw [fi_lit]
  conv => arg 2; whnf
  rw [h4, h5, h7, h8]
  clear h hop hQ
  by_cases ht : ty = 2
  · subst ht
    have hO : Calls Try.prog 68 #[.agg #[.string nm, .slice pA pn pc, .int .i64 rt, .slice iA in_ ic, .slice bA bn bc], .agg #[.int .i64 op, .int .i64 2, .slice aA an ac, .int .i64 nn, .int .i64 to_], .slice (some ⟨w.heap.size, 0, none⟩) 2 2] (w.alloc (.cells #[.int .i64 1, .int .i64 1] 3)) (BP (OfOk f args [1, 1]) (w.alloc (.cells #[.int .i64 1, .int .i64 1] 3))) := HO.out [1, 1] (some ⟨w.heap.size, 0, none⟩) 2 2 _ ((Below.refl _ _).alloc (Nat.le_refl _) _) (GNs.fresh w [1, 1] 3) (by decide)
    go_wp2_with (go_at_call 68; refine hO.mono ?_; rintro e w3 ⟨r, rfl, h3, hp⟩; have HB3 := Lib.hid (HB.out.trans (((Below.refl w.heap.size w).alloc (Nat.le_refl _) _ |>.trans (h3.mono (by simp))).mono HB.out.size)); have HP := Lib.hid hp; clear hO h3 hp)
    exact HQ.out _ _ r rfl rfl rfl HB3.out (fun e => insOk_of (by omega) (by omega) HZ.out ((HP.out e).args (by simp; try omega)))
  · have d1 : (ty == 2) = false := by simp [ht]
    go_wp2
    exact HQ.out _ _ false rfl rfl rfl HB.out (fun e => by cases e)
set_option maxRecDepth 100000 in
set_option maxHeartbeats 8000000 in
theorem iw6 {s : Nat → Value} {w0 w : World} {pb fb xb : Nat} {fA : Option Addr} {fn fc : Nat} {mn : Int} {V : RV} {f : SF} {x : SIn} {aA : Option Addr} {an ac : Nat} {k : Int} (h : Wi s w0 w pb fb xb fA fn fc mn V f x aA an ac k) (hop : x.op ≠ 36) (Q : Exit → Act → World → Prop) (hQ : InQ w0 f x Q) : (inW6).wp Try.prog Q (fi s) w := by
  obtain ⟨op, ty, args, nn, to_⟩ := x
  have HQ := Lib.hid hQ
  have HB := Lib.hid h.b
  have HZ := Lib.hid (h.to0 hop)
  obtain ⟨nm, pA, pn, pc, rt, iA, in_, ic, bA, bn, bc⟩ := V
  obtain ⟨f0, f1, f2, f3, f4, -⟩ := gr_five (show w.heap[fb]? = some (.cells #[.string nm, .slice pA pn pc, .int .i64 rt, .slice iA in_ ic, .slice bA bn bc] 43 (0, 0)) from h.cf)
  obtain ⟨x0, x1, x2, x3, x4, -⟩ := gr_five h.cx
  have HO := Lib.hid h.of_
  have h4 : s 4 = .pointer (some ⟨fb, 0, none⟩) := h.s4
  have h5 : s 5 = .pointer (some ⟨xb, 0, none⟩) := h.s5
  have h7 : s 7 = .int .i64 ty := h.s7
  have h8 : s 8 = .int .i64 k := h.s8
  rw [fi_lit]
  conv => arg 2; whnf
  rw [h4, h5, h7, h8]
  clear h hop hQ
  by_cases ht : ty = 2
  · subst ht
    have hO : Calls Try.prog 68 #[.agg #[.string nm, .slice pA pn pc, .int .i64 rt, .slice iA in_ ic, .slice bA bn bc], .agg #[.int .i64 op, .int .i64 2, .slice aA an ac, .int .i64 nn, .int .i64 to_], .slice (some ⟨w.heap.size, 0, none⟩) 1 1] (w.alloc (.cells #[.int .i64 2] 3)) (BP (OfOk f args [2]) (w.alloc (.cells #[.int .i64 2] 3))) := HO.out [2] (some ⟨w.heap.size, 0, none⟩) 1 1 _ ((Below.refl _ _).alloc (Nat.le_refl _) _) (GNs.fresh w [2] 3) (by decide)
    go_wp2_with (go_at_call 68; refine hO.mono ?_; rintro e w3 ⟨r, rfl, h3, hp⟩; have HB3 := Lib.hid (HB.out.trans (((Below.refl w.heap.size w).alloc (Nat.le_refl _) _ |>.trans (h3.mono (by simp))).mono HB.out.size)); have HP := Lib.hid hp; clear hO h3 hp)
    exact HQ.out _ _ r rfl rfl rfl HB3.out (fun e => insOk_of (by omega) (by omega) HZ.out ((HP.out e).args (by simp; try omega)))
  · have d1 : (ty == 2) = false := by simp [ht]
    go_wp2
    exact HQ.out _ _ false rfl rfl rfl HB.out (fun e => by cases e)
set_option maxRecDepth 100000 in
set_option maxHeartbeats 8000000 in
theorem iw7 {s : Nat → Value} {w0 w : World} {pb fb xb : Nat} {fA : Option Addr} {fn fc : Nat} {mn : Int} {V : RV} {f : SF} {x : SIn} {aA : Option Addr} {an ac : Nat} {k : Int} (h : Wi s w0 w pb fb xb fA fn fc mn V f x aA an ac k) (hop : x.op ≠ 36) (Q : Exit → Act → World → Prop) (hQ : InQ w0 f x Q) : (inW7).wp Try.prog Q (fi s) w := by
  obtain ⟨op, ty, args, nn, to_⟩ := x
  have HQ := Lib.hid hQ
  have HB := Lib.hid h.b
  have HZ := Lib.hid (h.to0 hop)
  obtain ⟨nm, pA, pn, pc, rt, iA, in_, ic, bA, bn, bc⟩ := V
  obtain ⟨f0, f1, f2, f3, f4, -⟩ := gr_five (show w.heap[fb]? = some (.cells #[.string nm, .slice pA pn pc, .int .i64 rt, .slice iA in_ ic, .slice bA bn bc] 43 (0, 0)) from h.cf)
  obtain ⟨x0, x1, x2, x3, x4, -⟩ := gr_five h.cx
  have HO := Lib.hid h.of_
  have h4 : s 4 = .pointer (some ⟨fb, 0, none⟩) := h.s4
  have h5 : s 5 = .pointer (some ⟨xb, 0, none⟩) := h.s5
  have h7 : s 7 = .int .i64 ty := h.s7
  have h8 : s 8 = .int .i64 k := h.s8
  rw [fi_lit]
  conv => arg 2; whnf
  rw [h4, h5, h7, h8]
  clear h hop hQ
  by_cases r1 : 1 ≤ ty
  · by_cases r2 : ty ≤ 4
    · have hO : Calls Try.prog 68 #[.agg #[.string nm, .slice pA pn pc, .int .i64 rt, .slice iA in_ ic, .slice bA bn bc], .agg #[.int .i64 op, .int .i64 ty, .slice aA an ac, .int .i64 nn, .int .i64 to_], .slice (some ⟨w.heap.size, 0, none⟩) 3 3] (w.alloc (.cells #[.int .i64 2, .int .i64 ty, .int .i64 ty] 3)) (BP (OfOk f args [2, ty, ty]) (w.alloc (.cells #[.int .i64 2, .int .i64 ty, .int .i64 ty] 3))) := HO.out [2, ty, ty] (some ⟨w.heap.size, 0, none⟩) 3 3 _ ((Below.refl _ _).alloc (Nat.le_refl _) _) (GNs.fresh w [2, ty, ty] 3) (by decide)
      go_wp2_with (go_at_call 68; refine hO.mono ?_; rintro e w3 ⟨r, rfl, h3, hp⟩; have HB3 := Lib.hid (HB.out.trans (((Below.refl w.heap.size w).alloc (Nat.le_refl _) _ |>.trans (h3.mono (by simp))).mono HB.out.size)); have HP := Lib.hid hp; clear hO h3 hp)
      exact HQ.out _ _ r rfl rfl rfl HB3.out (fun e => insOk_of (by omega) (by omega) HZ.out ((HP.out e).args (by simp; try omega)))
    · go_wp2
      exact HQ.out _ _ false rfl rfl rfl HB.out (fun e => by cases e)
  · go_wp2
    exact HQ.out _ _ false rfl rfl rfl HB.out (fun e => by cases e)
set_option maxRecDepth 100000 in
set_option maxHeartbeats 8000000 in
theorem iw8 {s : Nat → Value} {w0 w : World} {pb fb xb : Nat} {fA : Option Addr} {fn fc : Nat} {mn : Int} {V : RV} {f : SF} {x : SIn} {aA : Option Addr} {an ac : Nat} {k : Int} (h : Wi s w0 w pb fb xb fA fn fc mn V f x aA an ac k) (hop : x.op ≠ 36) (Q : Exit → Act → World → Prop) (hQ : InQ w0 f x Q) : (inW8).wp Try.prog Q (fi s) w := by
  obtain ⟨op, ty, args, nn, to_⟩ := x
  have HQ := Lib.hid hQ
  have HB := Lib.hid h.b
  have HZ := Lib.hid (h.to0 hop)
  obtain ⟨nm, pA, pn, pc, rt, iA, in_, ic, bA, bn, bc⟩ := V
  obtain ⟨f0, f1, f2, f3, f4, -⟩ := gr_five (show w.heap[fb]? = some (.cells #[.string nm, .slice pA pn pc, .int .i64 rt, .slice iA in_ ic, .slice bA bn bc] 43 (0, 0)) from h.cf)
  obtain ⟨x0, x1, x2, x3, x4, -⟩ := gr_five h.cx
  have HO := Lib.hid h.of_
  have h4 : s 4 = .pointer (some ⟨fb, 0, none⟩) := h.s4
  have h5 : s 5 = .pointer (some ⟨xb, 0, none⟩) := h.s5
  have h7 : s 7 = .int .i64 ty := h.s7
  have h8 : s 8 = .int .i64 k := h.s8
  rw [fi_lit]
  conv => arg 2; whnf
  rw [h4, h5, h7, h8]
  clear h hop hQ
  by_cases ht : ty = 1
  · subst ht
    have hO : Calls Try.prog 68 #[.agg #[.string nm, .slice pA pn pc, .int .i64 rt, .slice iA in_ ic, .slice bA bn bc], .agg #[.int .i64 op, .int .i64 1, .slice aA an ac, .int .i64 nn, .int .i64 to_], .slice (some ⟨w.heap.size, 0, none⟩) 1 1] (w.alloc (.cells #[.int .i64 3] 3)) (BP (OfOk f args [3]) (w.alloc (.cells #[.int .i64 3] 3))) := HO.out [3] (some ⟨w.heap.size, 0, none⟩) 1 1 _ ((Below.refl _ _).alloc (Nat.le_refl _) _) (GNs.fresh w [3] 3) (by decide)
    go_wp2_with (go_at_call 68; refine hO.mono ?_; rintro e w3 ⟨r, rfl, h3, hp⟩; have HB3 := Lib.hid (HB.out.trans (((Below.refl w.heap.size w).alloc (Nat.le_refl _) _ |>.trans (h3.mono (by simp))).mono HB.out.size)); have HP := Lib.hid hp; clear hO h3 hp)
    exact HQ.out _ _ r rfl rfl rfl HB3.out (fun e => insOk_of (by omega) (by omega) HZ.out ((HP.out e).args (by simp; try omega)))
  · have d1 : (ty == 1) = false := by simp [ht]
    go_wp2
    exact HQ.out _ _ false rfl rfl rfl HB.out (fun e => by cases e)
end Go.Proofs.Ythhjhdmdfneegaa
