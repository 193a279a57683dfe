/-
  Programs as bytes: the reference's functions, read.
-/
import Derived.Test.YthjlpbglnnebkaaCeF
import Derived.Deep.DeepCutAuto
namespace Go.Proofs.Ythjlpbglnnebkaa
open Go.RowKit Go.Shelf
set_option linter.unusedVariables false
set_option linter.unusedSimpArgs false

set_option maxRecDepth 100000 in
set_option maxHeartbeats 64000000 in
theorem rtake_r (l : List UInt8) (b : Bool) (hl : l.length ≤ 1099511627776) (w : World) : Calls Try.prog 42 #[.agg #[.string ⟨l.toArray⟩, .bool b]] w (TakeP l (funQ (rR l b)) w) := by
  obtain ⟨⟨an, aq⟩, hA⟩ : ∃ a, a = numS 1048576 (rR l b) := ⟨_, rfl⟩
  obtain ⟨⟨tn, ts⟩, hT⟩ : ∃ a, a = textS (an : Int) aq := ⟨_, rfl⟩
  obtain ⟨⟨cn, cs⟩, hC⟩ : ∃ a, a = rowQ 16 ts := ⟨_, rfl⟩
  obtain ⟨⟨dn, ds⟩, hD⟩ : ∃ a, a = numS 4 cs := ⟨_, rfl⟩
  obtain ⟨⟨n1, es0⟩, hM1⟩ : ∃ a, a = numS 131072 ds := ⟨_, rfl⟩
  obtain ⟨⟨en, es⟩, hE⟩ : ∃ a, a = manyQ insQ n1 [] es0 := ⟨_, rfl⟩
  obtain ⟨⟨n2, gs0⟩, hM2⟩ : ∃ a, a = numS 65536 es := ⟨_, rfl⟩
  obtain ⟨⟨gn, gs⟩, hG⟩ : ∃ a, a = manyQ blockQ n2 [] gs0 := ⟨_, rfl⟩
  have hF : funQ (rR l b) = ((tn, ⟨cn, (dn : Int), en, gn⟩), gs) := by
    unfold funQ itemsQ
    simp only [← hA, ← hT, ← hC, ← hD, ← hM1, ← hE, ← hM2, ← hG]
  rw [hF]
  have ban : an ≤ 1048576 := by have := numS_le 1048576 (rR l b); rw [← hA] at this; exact this
  have bdn : dn ≤ 4 := by have := numS_le 4 cs; rw [← hD] at this; exact this
  have bn1 : n1 ≤ 131072 := by have := numS_le 131072 ds; rw [← hM1] at this; exact this
  have bn2 : n2 ≤ 65536 := by have := numS_le 65536 es; rw [← hM2] at this; exact this
  -- where the end is good, all before it was
  have hgood : gs ≠ none → cs ≠ none ∧ es ≠ none := by
    intro hg
    have h1 : es ≠ none := by
      rintro rfl
      rw [numS_nil] at hM2
      injection hM2 with e1 e2
      subst e1; subst e2
      exact hg (by rw [← show (gn, gs).2 = gs from rfl, hG]; rfl)
    refine ⟨?_, h1⟩
    rintro rfl
    rw [numS_nil] at hD
    injection hD with e1 e2
    subst e1; subst e2
    rw [numS_nil] at hM1
    injection hM1 with e1 e2
    subst e1; subst e2
    exact h1 (by rw [← show (en, es).2 = es from rfl, hE]; rfl)
  have A : ∀ (l1 : List UInt8) (b1 : Bool) (X : World), rR l1 b1 = rR l b → l1.length ≤ l.length → Calls Try.prog 41 #[.agg #[.string ⟨l1.toArray⟩, .bool b1], .int .u64 1048576] X fun e w' => ∃ (l' : List UInt8) (b' : Bool), e = .returned (.tuple #[.agg #[.string ⟨l'.toArray⟩, .bool b'], .int .u64 (an : Int)]) ∧ rR l' b' = aq ∧ l'.length ≤ l.length ∧ Below X.heap.size X w' := fun l1 b1 X hs h1 => by
    have h := rnum_r l1 b1 1048576 (by decide) (Nat.le_trans h1 hl) X
    rw [hs, ← hA] at h
    refine h.mono ?_
    rintro e w' ⟨l', b', q1, q2, q3, q4⟩
    exact ⟨l', b', q1, q2, Nat.le_trans q3 h1, q4⟩
  have KT : ∀ (l1 : List UInt8) (b1 : Bool) (X : World), rR l1 b1 = aq → l1.length ≤ l.length → Calls Try.prog 65 #[.agg #[.string ⟨l1.toArray⟩, .bool b1], .int .i64 (an : Int)] X fun e w' => ∃ (l' : List UInt8) (b' : Bool), e = .returned (.tuple #[.agg #[.string ⟨l'.toArray⟩, .bool b'], .string ⟨tn.toArray⟩]) ∧ rR l' b' = ts ∧ l'.length ≤ l.length ∧ Below X.heap.size X w' := fun l1 b1 X hs h1 => by
    have h := rtext_r l1 b1 (an : Int) (Nat.le_trans h1 hl) X
    rw [hs, ← hT] at h
    refine h.mono ?_
    rintro e w' ⟨l', b', q1, q2, q3, q4⟩
    exact ⟨l', b', q1, q2, Nat.le_trans q3 h1, q4⟩
  have C : ∀ (l1 : List UInt8) (b1 : Bool) (X : World), rR l1 b1 = ts → l1.length ≤ l.length → Calls Try.prog 66 #[.agg #[.string ⟨l1.toArray⟩, .bool b1], .int .u64 16] X fun e w' => ∃ (l' : List UInt8) (b' : Bool) (v : Value) (xs : List Int), e = .returned (.tuple #[.agg #[.string ⟨l'.toArray⟩, .bool b'], v]) ∧ rR l' b' = cs ∧ l'.length ≤ l.length ∧ w'.ownsRow X.heap.size 3 1 v xs.length (intsV xs) ∧ (cs ≠ none → xs = cn) ∧ Below X.heap.size X w' := fun l1 b1 X hs h1 => by
    have h := rrow_r l1 b1 16 (by decide) (Nat.le_trans h1 hl) X
    rw [hs, ← hC] at h
    refine h.mono ?_
    rintro e w' ⟨l', b', v, xs, q1, q2, q3, q4, q5, q6⟩
    exact ⟨l', b', v, xs, q1, q2, Nat.le_trans q3 h1, q4, q5, q6⟩
  have D : ∀ (l1 : List UInt8) (b1 : Bool) (X : World), rR l1 b1 = cs → l1.length ≤ l.length → Calls Try.prog 41 #[.agg #[.string ⟨l1.toArray⟩, .bool b1], .int .u64 4] X fun e w' => ∃ (l' : List UInt8) (b' : Bool), e = .returned (.tuple #[.agg #[.string ⟨l'.toArray⟩, .bool b'], .int .u64 (dn : Int)]) ∧ rR l' b' = ds ∧ l'.length ≤ l.length ∧ Below X.heap.size X w' := fun l1 b1 X hs h1 => by
    have h := rnum_r l1 b1 4 (by decide) (Nat.le_trans h1 hl) X
    rw [hs, ← hD] at h
    refine h.mono ?_
    rintro e w' ⟨l', b', q1, q2, q3, q4⟩
    exact ⟨l', b', q1, q2, Nat.le_trans q3 h1, q4⟩
  have M1 : ∀ (l1 : List UInt8) (b1 : Bool) (X : World), rR l1 b1 = ds → l1.length ≤ l.length → Calls Try.prog 41 #[.agg #[.string ⟨l1.toArray⟩, .bool b1], .int .u64 131072] X fun e w' => ∃ (l' : List UInt8) (b' : Bool), e = .returned (.tuple #[.agg #[.string ⟨l'.toArray⟩, .bool b'], .int .u64 (n1 : Int)]) ∧ rR l' b' = es0 ∧ l'.length ≤ l.length ∧ Below X.heap.size X w' := fun l1 b1 X hs h1 => by
    have h := rnum_r l1 b1 131072 (by decide) (Nat.le_trans h1 hl) X
    rw [hs, ← hM1] at h
    refine h.mono ?_
    rintro e w' ⟨l', b', q1, q2, q3, q4⟩
    exact ⟨l', b', q1, q2, Nat.le_trans q3 h1, q4⟩
  have M2 : ∀ (l1 : List UInt8) (b1 : Bool) (X : World), rR l1 b1 = es → l1.length ≤ l.length → Calls Try.prog 41 #[.agg #[.string ⟨l1.toArray⟩, .bool b1], .int .u64 65536] X fun e w' => ∃ (l' : List UInt8) (b' : Bool), e = .returned (.tuple #[.agg #[.string ⟨l'.toArray⟩, .bool b'], .int .u64 (n2 : Int)]) ∧ rR l' b' = gs0 ∧ l'.length ≤ l.length ∧ Below X.heap.size X w' := fun l1 b1 X hs h1 => by
    have h := rnum_r l1 b1 65536 (by decide) (Nat.le_trans h1 hl) X
    rw [hs, ← hM2] at h
    refine h.mono ?_
    rintro e w' ⟨l', b', q1, q2, q3, q4⟩
    exact ⟨l', b', q1, q2, Nat.le_trans q3 h1, q4⟩
  have hE0 : es0 = none → es = none := by
    rintro rfl
    rw [← show (en, es).2 = es from rfl, hE]
    exact manyQ_none _ _
  have hG0 : gs0 = none → gs = none := by
    rintro rfl
    rw [← show (gn, gs).2 = gs from rfl, hG]
    exact manyQ_none _ _
  obtain ⟨W1, hW1, hbW1, hzW1, h0W1⟩ := gr_one w #[.string ⟨l.toArray⟩, .bool b] 85
  obtain ⟨W2, hW2, hbW2, hzW2, h0W2⟩ := gr_one W1 #[.string ⟨#[]⟩, .bool false] 85
  obtain ⟨W3, hW3, hbW3, hzW3, h0W3⟩ := gr_one W2 #[.string ⟨#[]⟩, .slice none 0 0, .int .i64 0, .slice none 0 0, .slice none 0 0] 63
  obtain ⟨W4, hW4, hbW4, hzW4, h0W4⟩ := gr_one W3 #[.string ⟨#[]⟩, .slice none 0 0, .int .i64 0, .slice none 0 0, .slice none 0 0] 63
  have hs0 : TS w W4 l b [] (.slice none 0 0) (.slice none 0 0) (.slice none 0 0) ⟨[], 0, [], []⟩ :=
    ⟨(hbW4.block _ (by omega)).trans ((hbW3.block _ (by omega)).trans ((hbW2.block _ (by omega)).trans h0W1)),
     (hbW4.block _ (by omega)).trans ((hbW3.block _ (by omega)).trans (by rw [← hzW1]; exact h0W2)),
     (hbW4.block _ (by omega)).trans (by rw [show w.heap.size + 2 = W2.heap.size by omega]; exact h0W3),
     by rw [show w.heap.size + 3 = W3.heap.size by omega]; exact h0W4,
     World.ownsRow_nil _ _ _ _, InsO.nil _ _, BlkO.nil _ _, ((hbW1.trans (hbW2.mono (by omega))).trans (hbW3.mono (by omega))).trans (hbW4.mono (by omega)), by omega⟩
  have HS0 := Lib.hid hs0
  have HL0 : Hid (l.length ≤ l.length) := Lib.hid (Nat.le_refl _)
  have HW1 := Lib.hid hW1
  have HW2 := Lib.hid hW2
  have HW3 := Lib.hid hW3
  have HW4 := Lib.hid hW4
  have HE := Lib.hid hE
  have HG := Lib.hid hG
  have HE0 := Lib.hid hE0
  have HG0 := Lib.hid hG0
  have Hgood := Lib.hid hgood
  have Hl := Lib.hid hl
  have e2 : W2.heap.size = w.heap.size + 2 := by omega
  have e3 : W3.heap.size = w.heap.size + 3 := by omega
  obtain ⟨i0, hi0, hz0, hz1, hz2⟩ := info_parts infoInsQ
  have Ji := Lib.hid hi0
  have Jz0 := Lib.hid hz0
  have Jz1 := Lib.hid hz1
  have Jz2 := Lib.hid hz2
  obtain ⟨k0, hk0, kz0, kz1, kz2⟩ := info_parts infoBlkQ
  have Ki := Lib.hid hk0
  have Kz0 := Lib.hid kz0
  have Kz1 := Lib.hid kz1
  have Kz2 := Lib.hid kz2
  have hwa : IntKind.i64.wrap (an : Int) = (an : Int) := by rw [IntKind.wrap_i64]; omega
  have hwd : IntKind.i64.wrap (dn : Int) = (dn : Int) := by rw [IntKind.wrap_i64]; omega
  have hst0 : rR l b = rR l b := rfl
  clear hW1 hW2 hW3 hW4 hbW1 hbW2 hbW3 hbW4 hzW1 hzW2 hzW3 hzW4 h0W1 h0W2 h0W3 h0W4 hs0 hE hG hE0 hG0 hgood hF hA hT hC hD hM1 hM2 hi0 hz0 hz1 hz2 hk0 kz0 kz1 kz2
  go_enter Try.func42, Try.ntmps42
  go_upto_region 1 with fail
  rw [← HW1.out, ← HW2.out, ← HW3.out]
  go_upto_region 2 with fail
  rw [← HW4.out]
  clear e2 e3
  obtain ⟨x0, x1, f0, f1⟩ := HS0.out.r.cells
  go_upto_region 3 with (go_at_call 41; refine (A l b _ hst0 HL0.out).mono ?_; rintro e u0 ⟨l1, b1, rfl, h1, h2, h3⟩; have HT0 := Lib.hid (HS0.out.keep h3); obtain ⟨y0, y1, g0, g1⟩ := HT0.out.r.cells; obtain ⟨c0, c1, c2, c3, c4, cf⟩ := HT0.out.fc; have cf0 := cf 0; have cf1 := cf 1; have hst1 := h1; have HL1 := Lib.hid h2; clear cf h1 h2 h3 x0 x1 f0 f1)
  clear y0 y1 g0 g1 c0 c1 c2 c3 c4 cf0 cf1
  generalize hY : World.setCell _ _ _ = X1
  have HS1 := Lib.hid (show TS w X1 l1 b1 [] (.slice none 0 0) (.slice none 0 0) (.slice none 0 0) ⟨[], 0, [], []⟩ from by
    rw [← hY]
    have t := HT0.out.setR (l' := l1) (b' := b1)
    exact t)
  clear hY HT0 HS0 HL0 hst0
  obtain ⟨x0, x1, f0, f1⟩ := HS1.out.r.cells
  go_upto_region 4 with (go_at_call 65; refine (KT l1 b1 _ hst1 HL1.out).mono ?_; rintro e u1 ⟨l2, b2, rfl, h1, h2, h3⟩; have HT1 := Lib.hid (HS1.out.keep h3); obtain ⟨y0, y1, g0, g1⟩ := HT1.out.r.cells; obtain ⟨c0, c1, c2, c3, c4, cf⟩ := HT1.out.fc; have cf0 := cf 0; have cf1 := cf 1; have hst2 := h1; have HL2 := Lib.hid h2; clear cf h1 h2 h3 x0 x1 f0 f1)
  clear y0 y1 g0 g1 c0 c1 c2 c3 c4 cf0 cf1
  generalize hY : World.setCell _ _ _ = X2
  have HS2 := Lib.hid (show TS w X2 l2 b2 tn (.slice none 0 0) (.slice none 0 0) (.slice none 0 0) ⟨[], 0, [], []⟩ from by
    rw [← hY]
    have t := HT1.out.setR (l' := l2) (b' := b2)
    exact t.setF 0 _ tn _ _ _ ⟨[], 0, [], []⟩ rfl t.o1 t.o2 t.o3)
  clear hY HT1 HS1 HL1 hst1
  obtain ⟨x0, x1, f0, f1⟩ := HS2.out.r.cells
  go_upto_region 5 with (go_at_call 66; refine (C l2 b2 _ hst2 HL2.out).mono ?_; rintro e u2 ⟨l3, b3, v, xs, rfl, h1, h2, ho, hx, h3⟩; have HT2 := Lib.hid (HS2.out.keep h3); obtain ⟨y0, y1, g0, g1⟩ := HT2.out.r.cells; obtain ⟨c0, c1, c2, c3, c4, cf⟩ := HT2.out.fc; have cf0 := cf 0; have cf1 := cf 1; have hst3 := h1; have HL3 := Lib.hid h2; obtain ⟨A1, cp1, rfl⟩ := gr_slice ho; have HO1 := Lib.hid ho; have HX1 := Lib.hid hx; clear ho hx; clear cf h1 h2 h3 x0 x1 f0 f1)
  clear y0 y1 g0 g1 c0 c1 c2 c3 c4 cf0 cf1
  generalize hY : World.setCell _ _ _ = X3
  have HS3 := Lib.hid (show TS w X3 l3 b3 tn (.slice A1 xs.length cp1) (.slice none 0 0) (.slice none 0 0) ⟨xs, 0, [], []⟩ from by
    rw [← hY]
    have t := HT2.out.setR (l' := l3) (b' := b3)
    exact t.setF 1 _ tn _ _ _ ⟨xs, 0, [], []⟩ rfl (own_kp (own_low HO1.out (HS2.out.hi)) (RBx.set_kp HT2.out.r) (by decide)) t.o2 t.o3)
  clear hY HT2 HS2 HL2 hst2
  clear HO1
  obtain ⟨x0, x1, f0, f1⟩ := HS3.out.r.cells
  go_upto_region 6 with (go_at_call 41; refine (D l3 b3 _ hst3 HL3.out).mono ?_; rintro e u3 ⟨l4, b4, rfl, h1, h2, h3⟩; have HT3 := Lib.hid (HS3.out.keep h3); obtain ⟨y0, y1, g0, g1⟩ := HT3.out.r.cells; obtain ⟨c0, c1, c2, c3, c4, cf⟩ := HT3.out.fc; have cf0 := cf 0; have cf1 := cf 1; have hst4 := h1; have HL4 := Lib.hid h2; clear cf h1 h2 h3 x0 x1 f0 f1)
  clear y0 y1 g0 g1 c0 c1 c2 c3 c4 cf0 cf1
  generalize hY : World.setCell _ _ _ = X4
  have HS4 := Lib.hid (show TS w X4 l4 b4 tn (.slice A1 xs.length cp1) (.slice none 0 0) (.slice none 0 0) ⟨xs, 0, [], []⟩ from by
    rw [← hY]
    have t := HT3.out.setR (l' := l4) (b' := b4)
    exact t)
  clear hY HT3 HS3 HL3 hst3
  obtain ⟨c0, c1, c2, c3, c4, cf⟩ := HS4.out.fc
  have cf2 := cf 2
  clear cf
  go_upto_region 7 with fail
  clear c0 c1 c2 c3 c4 cf2
  generalize hY : World.setCell _ _ _ = X5
  have HS5 := Lib.hid (show TS w X5 l4 b4 tn (.slice A1 xs.length cp1) (.slice none 0 0) (.slice none 0 0) ⟨xs, (dn : Int), [], []⟩ from by
    rw [← hY]
    have t := HS4.out
    exact t.setF 2 _ tn _ _ _ ⟨xs, (dn : Int), [], []⟩ rfl t.o1 t.o2 t.o3)
  have HL5 := HL4
  have hst5 := hst4
  clear hY HS4 HL4 hst4
  obtain ⟨x0, x1, f0, f1⟩ := HS5.out.r.cells
  go_upto_region 8 with (go_at_call 41; refine (M1 l4 b4 _ hst5 HL5.out).mono ?_; rintro e u5 ⟨l6, b6, rfl, h1, h2, h3⟩; have HT5 := Lib.hid (HS5.out.keep h3); obtain ⟨y0, y1, g0, g1⟩ := HT5.out.r.cells; obtain ⟨c0, c1, c2, c3, c4, cf⟩ := HT5.out.fc; have cf0 := cf 0; have cf1 := cf 1; have hst6 := h1; have HL6 := Lib.hid h2; clear cf h1 h2 h3 x0 x1 f0 f1)
  clear y0 y1 g0 g1 c0 c1 c2 c3 c4 cf0 cf1
  generalize hY : World.setCell _ _ _ = X6
  have HS6 := Lib.hid (show TS w X6 l6 b6 tn (.slice A1 xs.length cp1) (.slice none 0 0) (.slice none 0 0) ⟨xs, (dn : Int), [], []⟩ from by
    rw [← hY]
    have t := HT5.out.setR (l' := l6) (b' := b6)
    exact t)
  clear hY HT5 HS5 HL5 hst5
  go_upto_block 0 with fail
  go_cut [7] (fun u7 wx => ∃ (l2 : List UInt8) (b2 : Bool) (v : Value) (acc : List SIn), Hid (TS w wx l2 b2 tn (.slice A1 xs.length cp1) v (.slice none 0 0) ⟨xs, (dn : Int), acc, []⟩) ∧ Hid (l2.length ≤ l.length) ∧ rR l2 b2 = es ∧ Hid (es ≠ none → acc = en))
  case first =>
    have H0 : Hid (∃ (v : Value) (acc : List SIn), TS w X6 l6 b6 tn (.slice A1 xs.length cp1) v (.slice none 0 0) ⟨xs, (dn : Int), acc, []⟩ ∧ acc.length ≤ 0 ∧ ((rR l6 b6 ≠ none → manyQ insQ (n1 - 0) acc (rR l6 b6) = (en, es)) ∧ (rR l6 b6 = none → es = none))) := Lib.hid ⟨_, [], HS6.out, Nat.le_refl _, fun _ => by rw [hst6]; exact HE.out.symm, fun h => HE0.out (by rw [← hst6]; exact h)⟩
    clear HS6 hst6
    go_wp2_with fail
    go_loopw [7] (fun u7 wr => ∃ (i : Nat) (acc : List SIn) (l2 : List UInt8) (b2 : Bool) (v : Value), i ≤ n1 ∧ u7 = .int .u64 (i : Int) ∧ Hid (TS w wr l2 b2 tn (.slice A1 xs.length cp1) v (.slice none 0 0) ⟨xs, (dn : Int), acc, []⟩) ∧ Hid (l2.length ≤ l.length ∧ acc.length ≤ i) ∧ Hid ((rR l2 b2 ≠ none → manyQ insQ (n1 - i) acc (rR l2 b2) = (en, es)) ∧ (rR l2 b2 = none → es = none))) (fun u7 _ => n1 - (intOf u7).toNat)
    case atStart =>
      obtain ⟨v, acc, q1, q2, q3⟩ := H0.out
      exact ⟨0, acc, l6, b6, v, Nat.zero_le _, rfl, Lib.hid q1, Lib.hid ⟨HL6.out, q2⟩, Lib.hid q3⟩
    case round =>
      clear H0 HL6
      obtain ⟨i, acc, l2, b2, v, hi, rfl, HS, HL, HM⟩ := hrel
      obtain ⟨wo, hwo⟩ : ∃ x, x = wr := ⟨_, rfl⟩
      rw [← hwo] at HS ⊢
      clear hwo
      obtain ⟨x0, x1, f0, f1⟩ := HS.out.r.cells
      by_cases hlt : i < n1 ∧ b2 = false
      · obtain ⟨hlt, rfl⟩ := hlt
        obtain ⟨A2, cp2, rfl⟩ := HS.out.o2.slice
        obtain ⟨⟨p1, t1⟩, hP1⟩ : ∃ a, a = numS 36 (some l2) := ⟨_, rfl⟩
        obtain ⟨⟨p2, t2⟩, hP2⟩ : ∃ a, a = numS 4 t1 := ⟨_, rfl⟩
        obtain ⟨⟨p3, t3⟩, hP3⟩ : ∃ a, a = rowQ 65536 t2 := ⟨_, rfl⟩
        obtain ⟨⟨p4, t4⟩, hP4⟩ : ∃ a, a = numS 18446744073709551615 t3 := ⟨_, rfl⟩
        obtain ⟨⟨p5, t5⟩, hP5⟩ : ∃ a, a = numS 256 t4 := ⟨_, rfl⟩
        have hI : insQ (some l2) = (⟨(p1 : Int), (p2 : Int), p3, unsQ p4, (p5 : Int)⟩, t5) := by
          unfold insQ
          simp only [← hP1, ← hP2, ← hP3, ← hP4, ← hP5]
        have hgd : t5 ≠ none → t3 ≠ none := by
          intro h h3
          subst h3
          rw [numS_nil] at hP4
          injection hP4 with a1 a2
          subst a2
          rw [numS_nil] at hP5
          injection hP5 with a1 a2
          exact h a2
        have b1' : p1 ≤ 36 := by have := numS_le 36 (some l2); rw [← hP1] at this; exact this
        have b2' : p2 ≤ 4 := by have := numS_le 4 t1; rw [← hP2] at this; exact this
        have b4' : p4 < 18446744073709551616 := by have := numS_lt 18446744073709551615 t3; rw [← hP4] at this; exact this
        have b5' : p5 ≤ 256 := by have := numS_le 256 t4; rw [← hP5] at this; exact this
        have P1 : ∀ (l1 : List UInt8) (b1 : Bool) (X : World), rR l1 b1 = some l2 → l1.length ≤ l.length → Calls Try.prog 41 #[.agg #[.string ⟨l1.toArray⟩, .bool b1], .int .u64 36] X fun e w' => ∃ (l' : List UInt8) (b' : Bool), e = .returned (.tuple #[.agg #[.string ⟨l'.toArray⟩, .bool b'], .int .u64 (p1 : Int)]) ∧ rR l' b' = t1 ∧ l'.length ≤ l.length ∧ Below X.heap.size X w' := fun l1 b1 X hs h1 => by
          have h := rnum_r l1 b1 36 (by decide) (Nat.le_trans h1 hl) X
          rw [hs, ← hP1] at h
          refine h.mono ?_
          rintro e w' ⟨l', b', q1, q2, q3, q4⟩
          exact ⟨l', b', q1, q2, Nat.le_trans q3 h1, q4⟩
        have P2 : ∀ (l1 : List UInt8) (b1 : Bool) (X : World), rR l1 b1 = t1 → l1.length ≤ l.length → Calls Try.prog 41 #[.agg #[.string ⟨l1.toArray⟩, .bool b1], .int .u64 4] X fun e w' => ∃ (l' : List UInt8) (b' : Bool), e = .returned (.tuple #[.agg #[.string ⟨l'.toArray⟩, .bool b'], .int .u64 (p2 : Int)]) ∧ rR l' b' = t2 ∧ l'.length ≤ l.length ∧ Below X.heap.size X w' := fun l1 b1 X hs h1 => by
          have h := rnum_r l1 b1 4 (by decide) (Nat.le_trans h1 hl) X
          rw [hs, ← hP2] at h
          refine h.mono ?_
          rintro e w' ⟨l', b', q1, q2, q3, q4⟩
          exact ⟨l', b', q1, q2, Nat.le_trans q3 h1, q4⟩
        have P3 : ∀ (l1 : List UInt8) (b1 : Bool) (X : World), rR l1 b1 = t2 → l1.length ≤ l.length → Calls Try.prog 66 #[.agg #[.string ⟨l1.toArray⟩, .bool b1], .int .u64 65536] X fun e w' => ∃ (l' : List UInt8) (b' : Bool) (v : Value) (xs : List Int), e = .returned (.tuple #[.agg #[.string ⟨l'.toArray⟩, .bool b'], v]) ∧ rR l' b' = t3 ∧ l'.length ≤ l.length ∧ w'.ownsRow X.heap.size 3 1 v xs.length (intsV xs) ∧ (t3 ≠ none → xs = p3) ∧ Below X.heap.size X w' := fun l1 b1 X hs h1 => by
          have h := rrow_r l1 b1 65536 (by decide) (Nat.le_trans h1 hl) X
          rw [hs, ← hP3] at h
          refine h.mono ?_
          rintro e w' ⟨l', b', v, xs, q1, q2, q3, q4, q5, q6⟩
          exact ⟨l', b', v, xs, q1, q2, Nat.le_trans q3 h1, q4, q5, q6⟩
        have P4 : ∀ (l1 : List UInt8) (b1 : Bool) (X : World), rR l1 b1 = t3 → l1.length ≤ l.length → Calls Try.prog 41 #[.agg #[.string ⟨l1.toArray⟩, .bool b1], .int .u64 18446744073709551615] X fun e w' => ∃ (l' : List UInt8) (b' : Bool), e = .returned (.tuple #[.agg #[.string ⟨l'.toArray⟩, .bool b'], .int .u64 (p4 : Int)]) ∧ rR l' b' = t4 ∧ l'.length ≤ l.length ∧ Below X.heap.size X w' := fun l1 b1 X hs h1 => by
          have h := rnum_r l1 b1 18446744073709551615 (by decide) (Nat.le_trans h1 hl) X
          rw [hs, ← hP4] at h
          refine h.mono ?_
          rintro e w' ⟨l', b', q1, q2, q3, q4⟩
          exact ⟨l', b', q1, q2, Nat.le_trans q3 h1, q4⟩
        have P5 : ∀ (l1 : List UInt8) (b1 : Bool) (X : World), rR l1 b1 = t4 → l1.length ≤ l.length → Calls Try.prog 41 #[.agg #[.string ⟨l1.toArray⟩, .bool b1], .int .u64 256] X fun e w' => ∃ (l' : List UInt8) (b' : Bool), e = .returned (.tuple #[.agg #[.string ⟨l'.toArray⟩, .bool b'], .int .u64 (p5 : Int)]) ∧ rR l' b' = t5 ∧ l'.length ≤ l.length ∧ Below X.heap.size X w' := fun l1 b1 X hs h1 => by
          have h := rnum_r l1 b1 256 (by decide) (Nat.le_trans h1 hl) X
          rw [hs, ← hP5] at h
          refine h.mono ?_
          rintro e w' ⟨l', b', q1, q2, q3, q4⟩
          exact ⟨l', b', q1, q2, Nat.le_trans q3 h1, q4⟩
        have HN : Hid (∀ x : List Int, (t5 ≠ none → x = p3) → (t5 ≠ none → manyQ insQ (n1 - (i + 1)) (acc ++ [⟨(p1 : Int), (p2 : Int), x, unsQ p4, (p5 : Int)⟩]) t5 = (en, es)) ∧ (t5 = none → es = none)) := Lib.hid (by
          have h := HM.out.1 (by simp [rR])
          rw [show n1 - i = (n1 - (i + 1)) + 1 by omega] at h
          have h : manyQ insQ (n1 - (i + 1)) (acc ++ [(insQ (some l2)).1]) (insQ (some l2)).2 = (en, es) := h
          rw [hI] at h
          intro x hx
          refine ⟨fun q => by rw [hx q]; exact h, fun q => ?_⟩
          rw [q] at h
          rw [← show (en, es).2 = es from rfl, ← h]
          exact manyQ_none _ _)
        have Hgd := Lib.hid hgd
        have w1' : IntKind.i64.wrap (p1 : Int) = (p1 : Int) := by rw [IntKind.wrap_i64]; omega
        have w2' : IntKind.i64.wrap (p2 : Int) = (p2 : Int) := by rw [IntKind.wrap_i64]; omega
        have w5' : IntKind.i64.wrap (p5 : Int) = (p5 : Int) := by rw [IntKind.wrap_i64]; omega
        have hU := fun X => runsign_c p4 b4' X
        obtain ⟨un, hun⟩ : ∃ un, un = unsQ p4 := ⟨_, rfl⟩
        rw [← hun] at hU HN
        clear hI hgd b1' b2' b4' b5' hP1 hP2 hP3 hP4 hP5 hun HM
        go_upto_region 12 with (go_at_call 41; refine (P1 l2 false _ rfl HL.out.1).mono ?_; rintro e u0 ⟨m1, c1, rfl, h1, h2, h3⟩; have HT0 := Lib.hid (HS.out.keep h3); have HQ1 := h1; have HR1 := Lib.hid h2; clear h1 h2 h3 x0 x1 f0 f1)
        generalize hY : World.alloc _ _ = Y1
        have HY1 : Hid (TS w Y1 l2 false tn (.slice A1 xs.length cp1) (.slice A2 acc.length cp2) (.slice none 0 0) ⟨xs, (dn : Int), acc, []⟩ ∧ RBx u0.heap.size m1 c1 Y1) := Lib.hid (by
          have hb : Below u0.heap.size u0 Y1 := by rw [← hY]; exact (Below.refl _ _).alloc (Nat.le_refl _) _
          exact ⟨HT0.out.keep hb, by rw [← hY]; exact heap_alloc_new u0 _⟩)
        obtain ⟨qb, hqb⟩ : ∃ qb, qb = u0.heap.size := ⟨_, rfl⟩
        have HQB : Hid (w.heap.size + 4 ≤ qb) := Lib.hid (by rw [hqb]; exact HT0.out.hi)
        rw [← hqb] at HY1 ⊢
        clear hY hqb HT0
        obtain ⟨x0, x1, f0, f1⟩ := HY1.out.2.cells
        go_upto_region 13 with (go_at_call 41; refine (P2 m1 c1 _ HQ1 HR1.out).mono ?_; rintro e u1 ⟨m2, c2, rfl, h1, h2, h3⟩; have HT := Lib.hid (HY1.out.1.keep h3); have HB := Lib.hid ((h3.block qb (gr_in HY1.out.2)).trans HY1.out.2); have HB' : RBx qb m1 c1 u1 := HB.out; obtain ⟨y0, y1, g0, g1⟩ := HB'.cells; have HQ2 := h1; have HR2 := Lib.hid h2; clear HB' h1 h2 h3 x0 x1 f0 f1)
        clear y0 y1 g0 g1
        generalize hY : World.setCell _ _ _ = Y2
        have HY2 : Hid (TS w Y2 l2 false tn (.slice A1 xs.length cp1) (.slice A2 acc.length cp2) (.slice none 0 0) ⟨xs, (dn : Int), acc, []⟩ ∧ RBx qb m2 c2 Y2) := Lib.hid (by
          rw [← hY]
          exact ⟨HT.out.setQ (lq := m1) (bq := c1) HB.out HQB.out, RBx.set (l := m1) (b := c1) HB.out⟩)
        clear hY HT HB HY1 HQ1 HR1
        obtain ⟨x0, x1, f0, f1⟩ := HY2.out.2.cells
        go_upto_region 14 with (go_at_call 66; refine (P3 m2 c2 _ HQ2 HR2.out).mono ?_; rintro e u2 ⟨m3, c3, va, ax, rfl, h1, h2, hoa, hxa, h3⟩; have HT := Lib.hid (HY2.out.1.keep h3); have HB := Lib.hid ((h3.block qb (gr_in HY2.out.2)).trans HY2.out.2); have HB' : RBx qb m2 c2 u2 := HB.out; obtain ⟨y0, y1, g0, g1⟩ := HB'.cells; have HQ3 := h1; have HR3 := Lib.hid h2; obtain ⟨A3, cp3, rfl⟩ := gr_slice hoa; have HOAU := Lib.hid (own_low hoa HY2.out.1.hi); have HXA := Lib.hid hxa; clear hoa hxa; clear HB' h1 h2 h3 x0 x1 f0 f1)
        clear y0 y1 g0 g1
        generalize hY : World.setCell _ _ _ = Y3
        have HY3 : Hid (TS w Y3 l2 false tn (.slice A1 xs.length cp1) (.slice A2 acc.length cp2) (.slice none 0 0) ⟨xs, (dn : Int), acc, []⟩ ∧ RBx qb m3 c3 Y3) := Lib.hid (by
          rw [← hY]
          exact ⟨HT.out.setQ (lq := m2) (bq := c2) HB.out HQB.out, RBx.set (l := m2) (b := c2) HB.out⟩)
        have HOA := Lib.hid (show Y3.ownsRow (w.heap.size + 4) 3 1 _ _ _ from by rw [← hY]; exact own_kp HOAU.out (RBx.set_kp (l := m2) (b := c2) HB.out) (by decide))
        clear HOAU
        clear hY HT HB HY2 HQ2 HR2
        obtain ⟨x0, x1, f0, f1⟩ := HY3.out.2.cells
        go_upto_region 15 with (go_at_call 41; refine (P4 m3 c3 _ HQ3 HR3.out).mono ?_; rintro e u3 ⟨m4, c4, rfl, h1, h2, h3⟩; have HT := Lib.hid (HY3.out.1.keep h3); have HB := Lib.hid ((h3.block qb (gr_in HY3.out.2)).trans HY3.out.2); have HB' : RBx qb m3 c3 u3 := HB.out; obtain ⟨y0, y1, g0, g1⟩ := HB'.cells; have HQ4 := h1; have HR4 := Lib.hid h2; have HOAU := Lib.hid (gr_up HOA.out h3); clear HOA; clear HB' h1 h2 h3 x0 x1 f0 f1)
        clear y0 y1 g0 g1
        generalize hY : World.setCell _ _ _ = Y4
        have HY4 : Hid (TS w Y4 l2 false tn (.slice A1 xs.length cp1) (.slice A2 acc.length cp2) (.slice none 0 0) ⟨xs, (dn : Int), acc, []⟩ ∧ RBx qb m4 c4 Y4) := Lib.hid (by
          rw [← hY]
          exact ⟨HT.out.setQ (lq := m3) (bq := c3) HB.out HQB.out, RBx.set (l := m3) (b := c3) HB.out⟩)
        have HOA := Lib.hid (show Y4.ownsRow (w.heap.size + 4) 3 1 _ _ _ from by rw [← hY]; exact own_kp HOAU.out (RBx.set_kp (l := m3) (b := c3) HB.out) (by decide))
        clear HOAU
        clear hY HT HB HY3 HQ3 HR3
        obtain ⟨x0, x1, f0, f1⟩ := HY4.out.2.cells
        go_upto_region 16 with (go_at_call 41; refine (P5 m4 c4 _ HQ4 HR4.out).mono ?_; rintro e u4 ⟨m5, c5, rfl, h1, h2, h3⟩; have HT := Lib.hid (HY4.out.1.keep h3); have HB := Lib.hid ((h3.block qb (gr_in HY4.out.2)).trans HY4.out.2); have HB' : RBx qb m4 c4 u4 := HB.out; obtain ⟨y0, y1, g0, g1⟩ := HB'.cells; have HQ5 := h1; have HR5 := Lib.hid h2; have HOAU := Lib.hid (gr_up HOA.out h3); clear HOA; clear HB' h1 h2 h3 x0 x1 f0 f1)
        clear y0 y1 g0 g1
        generalize hY : World.setCell _ _ _ = Y5
        have HY5 : Hid (TS w Y5 l2 false tn (.slice A1 xs.length cp1) (.slice A2 acc.length cp2) (.slice none 0 0) ⟨xs, (dn : Int), acc, []⟩ ∧ RBx qb m5 c5 Y5) := Lib.hid (by
          rw [← hY]
          exact ⟨HT.out.setQ (lq := m4) (bq := c4) HB.out HQB.out, RBx.set (l := m4) (b := c4) HB.out⟩)
        have HOA := Lib.hid (show Y5.ownsRow (w.heap.size + 4) 3 1 _ _ _ from by rw [← hY]; exact own_kp HOAU.out (RBx.set_kp (l := m4) (b := c4) HB.out) (by decide))
        clear HOAU
        clear hY HT HB HY4 HQ4 HR4
        obtain ⟨a2, ha2, ho2, hin2⟩ := HY5.out.1.o2
        have ha2 : acc = a2.map Prod.fst := ha2
        have hal : acc.length = a2.length := by rw [ha2]; simp
        have hla := HL.out.2
        obtain ⟨X, hX⟩ : ∃ X, X = (Y5.alloc (.cells #[.int .i64 (p1 : Int), .int .i64 (p2 : Int), .slice A3 ax.length cp3, .int .i64 un, .int .i64 (p5 : Int)] 66)).drew := ⟨_, rfl⟩
        have hbX : Below Y5.heap.size Y5 X := by rw [hX]; exact below_dr ((Below.refl Y5.heap.size Y5).alloc (Nat.le_refl _) (.cells #[.int .i64 (p1 : Int), .int .i64 (p2 : Int), .slice A3 ax.length cp3, .int .i64 un, .int .i64 (p5 : Int)] 66)) 1
        have hnX : ∀ j y, ([.int .i64 (p1 : Int), .int .i64 (p2 : Int), .slice A3 ax.length cp3, .int .i64 un, .int .i64 (p5 : Int)] : List Value)[j]? = some y → X.cell? ((⟨Y5.heap.size, 0, none⟩ : Addr).add j) = some y := by rw [hX]; exact World.news_of_block (w := (Y5.alloc (.cells #[.int .i64 (p1 : Int), .int .i64 (p2 : Int), .slice A3 ax.length cp3, .int .i64 un, .int .i64 (p5 : Int)] 66)).drew) (heap_alloc_new Y5 _)
        have hqX : RBx qb m5 c5 X := (hbX.block _ (gr_in HY5.out.2)).trans HY5.out.2
        have HTX := Lib.hid (HY5.out.1.keep hbX)
        have HoX := Lib.hid (gr_up ho2 hbX)
        have HinX := Lib.hid (show ∀ p ∈ a2, X.ownsRow (w.heap.size + 4) 3 1 p.2 p.1.args.length (intsV p.1.args) from fun p hp => gr_up (hin2 p hp) hbX)
        have HnX := Lib.hid hnX
        have HqX := Lib.hid hqX
        have HX := Lib.hid hX
        have Ha2 := Lib.hid ha2
        have Hal := Lib.hid hal
        have Hone : Hid (∀ y ∈ ([.int .i64 (p1 : Int), .int .i64 (p2 : Int), .slice A3 ax.length cp3, .int .i64 un, .int .i64 (p5 : Int)] : List Value), y.oneCell' = true) := Lib.hid (by intro y hy; simp at hy; rcases hy with rfl | rfl | rfl | rfl | rfl <;> rfl)
        have HbS : Hid (w.heap.size + 4 ≤ X.heap.size ∧ a2.length ≤ 131072) := Lib.hid ⟨HTX.out.hi, by omega⟩
        have s0 : Y5.drew.cell? ⟨qb, 0, none⟩ = some (.string ⟨m5.toArray⟩) ∧ Y5.drew.cell? ⟨qb, 1, none⟩ = some (.bool c5) := ⟨HY5.out.2.cells.1, HY5.out.2.cells.2.1⟩
        have s1 : X.cell? ⟨qb, 0, none⟩ = some (.string ⟨m5.toArray⟩) ∧ X.cell? ⟨qb, 1, none⟩ = some (.bool c5) := ⟨hqX.cells.1, hqX.cells.2.1⟩
        have n0 : Y5.cell? ⟨qb, 0, none⟩ = some (.string ⟨m5.toArray⟩) := HY5.out.2.cells.1
        have n1' : Y5.cell? ⟨qb, 1, none⟩ = some (.bool c5) := HY5.out.2.cells.2.1
        obtain ⟨fc0, fc1, fc2, fc3, fc4, ff⟩ := HY5.out.1.fc
        obtain ⟨xc0, xc1, xc2, xc3, xc4, xf⟩ := HTX.out.fc
        have xcX : X.cell? ⟨w.heap.size + 3, 3, none⟩ = some (.slice A2 acc.length cp2) := xc3
        rw [hX] at s1 xcX
        have HOAX := Lib.hid (gr_up HOA.out hbX)
        clear HOA
        clear hX hbX hnX hqX ha2 ho2 hin2 hal hla ff xf xc0 xc1 xc2 xc3 xc4 fc0 fc1 fc2 fc4
        refine wp_region_held_drew (S := fun w' => w'.cell? ⟨qb, 0, none⟩ = some (.string ⟨m5.toArray⟩) ∧ w'.cell? ⟨qb, 1, none⟩ = some (.bool c5)) (by kernel_rfl) s0 (fun hHeld => ?_)
        refine wpAnyH_take (i := 0) (v := ?_) rfl (by kernel_rfl) (by kernel_rfl) (by kernel_rfl) (fun _ _ _ h => h) (Or.inl ⟨by rfl, ?_⟩) (by assumption) ?_
        rotate_left
        · (intro w hSw; (try dsimp only at hSw); first | (go_simp; done) | (go_simp; with_reducible rfl))
        try simp only [Act.put, List.setIfInBounds_toArray, List.set_cons_zero, List.set_cons_succ]
        refine wpAnyH_take (i := 1) (v := ?_) rfl (by kernel_rfl) (by kernel_rfl) (by kernel_rfl) (fun _ _ _ h => h) (Or.inl ⟨by rfl, ?_⟩) (by assumption) ?_
        rotate_left
        · (intro w hSw; (try dsimp only at hSw); first | (go_simp; done) | (go_simp; with_reducible rfl))
        try simp only [Act.put, List.setIfInBounds_toArray, List.set_cons_zero, List.set_cons_succ]
        refine wpAnyH_take (i := 3) (v := ?_) rfl (by kernel_rfl) (by kernel_rfl) (by kernel_rfl) (fun _ _ _ h => h) (Or.inl ⟨by rfl, ?_⟩) (by assumption) ?_
        rotate_left
        · (intro w hSw; (try dsimp only at hSw); first | (go_simp; done) | (go_simp; with_reducible rfl))
        try simp only [Act.put, List.setIfInBounds_toArray, List.set_cons_zero, List.set_cons_succ]
        refine wpAnyH_take (i := 4) (v := ?_) rfl (by kernel_rfl) (by kernel_rfl) (by kernel_rfl) (fun _ _ _ h => h) (Or.inl ⟨by rfl, ?_⟩) (by assumption) ?_
        rotate_left
        · (intro w hSw; (try dsimp only at hSw); first | (go_simp; done) | (go_simp; with_reducible rfl))
        try simp only [Act.put, List.setIfInBounds_toArray, List.set_cons_zero, List.set_cons_succ]
        refine wpAnyH_take (i := 5) (v := ?_) rfl (by kernel_rfl) (by kernel_rfl) (by kernel_rfl) (fun _ _ _ h => h) (Or.inl ⟨by rfl, ?_⟩) (by assumption) ?_
        rotate_left
        · (intro w hSw; (try dsimp only at hSw); first | (go_simp; done) | (go_simp; with_reducible rfl))
        try simp only [Act.put, List.setIfInBounds_toArray, List.set_cons_zero, List.set_cons_succ]
        refine wpAnyH_take (i := 6) (v := ?_) rfl (by kernel_rfl) (by kernel_rfl) (by kernel_rfl) (fun _ _ _ h => h) (Or.inl ⟨by rfl, ?_⟩) (by assumption) ?_
        rotate_left
        · (intro w hSw; (try dsimp only at hSw); first | (go_simp; done) | (go_simp; with_reducible rfl))
        try simp only [Act.put, List.setIfInBounds_toArray, List.set_cons_zero, List.set_cons_succ]
        refine wpAnyH_take (i := 7) (v := ?_) rfl (by kernel_rfl) (by kernel_rfl) (by kernel_rfl) (fun _ _ _ h => h) (Or.inl ⟨by rfl, ?_⟩) (by assumption) ?_
        rotate_left
        · (intro w hSw; (try dsimp only at hSw); first | (go_simp; done) | (go_simp; with_reducible rfl))
        try simp only [Act.put, List.setIfInBounds_toArray, List.set_cons_zero, List.set_cons_succ]
        refine wpAnyH_take (i := 8) (v := ?_) rfl (by kernel_rfl) (by kernel_rfl) (by kernel_rfl) (fun _ _ _ h => h) (Or.inl ⟨by rfl, ?_⟩) (by assumption) ?_
        rotate_left
        · (intro w hSw; (try dsimp only at hSw); first | (go_simp; done) | (go_simp; with_reducible rfl))
        try simp only [Act.put, List.setIfInBounds_toArray, List.set_cons_zero, List.set_cons_succ]
        refine wpAnyH_take (i := 10) (v := ?_) rfl (by kernel_rfl) (by kernel_rfl) (by kernel_rfl) (fun _ _ _ h => h) (Or.inl ⟨by rfl, ?_⟩) (by assumption) ?_
        rotate_left
        · (intro w hSw; (try dsimp only at hSw); first | (go_simp; done) | (go_simp; with_reducible rfl))
        try simp only [Act.put, List.setIfInBounds_toArray, List.set_cons_zero, List.set_cons_succ]
        refine wpAnyH_take (i := 11) (v := ?_) rfl (by kernel_rfl) (by kernel_rfl) (by kernel_rfl) (fun _ _ _ h => h) (Or.inl ⟨by rfl, ?_⟩) (by assumption) ?_
        rotate_left
        · (intro w hSw; (try dsimp only at hSw); first | (go_simp; done) | (go_simp; with_reducible rfl))
        try simp only [Act.put, List.setIfInBounds_toArray, List.set_cons_zero, List.set_cons_succ]
        refine wpAnyH_ready (rs := [2, 9]) (by kernel_rfl) (by simp) ?_
        refine AllReadyH.cons rfl (fun K hK => ?_) (AllReadyH.cons rfl (fun K hK => ?_) (AllReadyH.nil))
        · go_simp
          refine hK.out _ _ ?_ (fun hHeld => ?_)
          · ((try dsimp only); first | with_reducible exact s0 | with_reducible exact s1 | with_reducible exact s2 | with_reducible exact s3 | with_reducible exact s4)
          clear hK K
          try simp only [Act.put, List.setIfInBounds_toArray, List.set_cons_zero, List.set_cons_succ]
          refine wpAnyH_ready (rs := [9]) (by kernel_rfl) (by simp) ?_
          refine AllReadyH.cons rfl (fun K hK => ?_) (AllReadyH.nil)
          go_simp
          refine (hU _).mono ?_
          rintro e w9 ⟨rfl, rfl⟩
          try dsimp only
          refine hK.out _ _ ?_ (fun hHeld => ?_)
          · ((try dsimp only); first | with_reducible exact s0 | with_reducible exact s1 | with_reducible exact s2 | with_reducible exact s3 | with_reducible exact s4)
          clear hK K
          try simp only [Act.put, List.setIfInBounds_toArray, List.set_cons_zero, List.set_cons_succ]
          refine wpAnyH_take (i := 12) (v := ?_) rfl (by kernel_rfl) (by kernel_rfl) (by kernel_rfl) (fun _ _ _ h => h) (Or.inl ⟨by rfl, ?_⟩) (by assumption) ?_
          rotate_left
          · (intro w hSw; (try dsimp only at hSw); first | (go_simp; done) | (go_simp; with_reducible rfl))
          try simp only [Act.put, List.setIfInBounds_toArray, List.set_cons_zero, List.set_cons_succ]
          refine wpAnyH_ready (rs := [13]) (by kernel_rfl) (by simp) ?_
          refine AllReadyH.cons rfl (fun K hK => ?_) (AllReadyH.nil)
          go_simp
          refine hK.out _ _ ?_ (fun hHeld => ?_)
          · ((try dsimp only); first | with_reducible exact s0 | with_reducible exact s1 | with_reducible exact s2 | with_reducible exact s3 | with_reducible exact s4)
          clear hK K
          try simp only [Act.put, List.setIfInBounds_toArray, List.set_cons_zero, List.set_cons_succ]
          refine wpAnyH_ready (rs := [14]) (by kernel_rfl) (by simp) ?_
          refine AllReadyH.cons rfl (fun K hK => ?_) (AllReadyH.nil)
          rw [← HX.out]
          refine step_append_lies _ rfl (.tmp 91) (.tmp 102) 60 rfl (w.heap.size + 4) 66 i0 (.agg #[.int .i64 0, .int .i64 0, .slice none 0 0, .int .i64 0, .int .i64 0]) 5 56 Try.underlying60 Ji.out Jz0.out Jz1.out Jz2.out rfl (by decide) (.slice A2 acc.length cp2) a2.length (insRow a2) (by simp [Act.eval, Act.put]) HoX.out ⟨Y5.heap.size, 0, none⟩ 1 1 [.int .i64 (p1 : Int), .int .i64 (p2 : Int), .slice A3 ax.length cp3, .int .i64 un, .int .i64 (p5 : Int)] (by simp [Act.eval, Act.put]) rfl HnX.out Hone.out (by decide) (by unfold maxLen; have := HbS.out.2; omega) (by have := HbS.out.2; omega) HbS.out.1 _ rfl ?_
          intro g cap w7 hown hgrow hat hlt7
          have kp : Kp (w.heap.size + 4) 66 X w7 := Kp.of_grown HoX.out hgrow
          obtain ⟨hlow, hbel, hhi⟩ := HTX.out.grown HoX.out hgrow
          have T7 := (show TS w (((w7.setCell ⟨w.heap.size, 0, none⟩ (.string ⟨m5.toArray⟩)).setCell ⟨w.heap.size, 1, none⟩ (.bool c5)).setCell ⟨w.heap.size + 3, 3, none⟩ (.slice (some ⟨g, 0, none⟩) (a2.length + 1) cap)) m5 c5 tn (.slice A1 xs.length cp1) (.slice (some ⟨g, 0, none⟩) (a2.length + 1) cap) (.slice none 0 0) ⟨xs, (dn : Int), acc ++ [⟨(p1 : Int), (p2 : Int), ax, un, (p5 : Int)⟩], []⟩ from by
            have hr : RBx w.heap.size l2 false w7 := (hlow _ (by omega)).trans HTX.out.r
            have ho5 : InsO (w.heap.size + 4) w7 (.slice (some ⟨g, 0, none⟩) (a2.length + 1) cap) (acc ++ [⟨(p1 : Int), (p2 : Int), ax, un, (p5 : Int)⟩]) := by
              rw [Ha2.out]
              exact InsO.snoc (d := ⟨(p1 : Int), (p2 : Int), ax, un, (p5 : Int)⟩) hown HinX.out HOAX.out (Nat.le_refl _) kp
            have k2 := RBx.set_kp (base := w.heap.size + 4) (l' := m5) (b' := c5) hr
            have fz : ((w7.setCell ⟨w.heap.size, 0, none⟩ (.string ⟨m5.toArray⟩)).setCell ⟨w.heap.size, 1, none⟩ (.bool c5)).heap[w.heap.size + 3]? = _ := (Below.heap_setCell _ _ _ _ (by simp)).trans ((Below.heap_setCell _ _ _ _ (by simp)).trans ((hlow _ (by omega)).trans HTX.out.f))
            have k3 : Kp (w.heap.size + 4) 63 _ (((w7.setCell ⟨w.heap.size, 0, none⟩ (.string ⟨m5.toArray⟩)).setCell ⟨w.heap.size, 1, none⟩ (.bool c5)).setCell ⟨w.heap.size + 3, 3, none⟩ (.slice (some ⟨g, 0, none⟩) (a2.length + 1) cap)) := Kp.of_set _ fz
            have off : ∀ q, q < w.heap.size + 4 → q ≠ w.heap.size → q ≠ w.heap.size + 3 → (((w7.setCell ⟨w.heap.size, 0, none⟩ (.string ⟨m5.toArray⟩)).setCell ⟨w.heap.size, 1, none⟩ (.bool c5)).setCell ⟨w.heap.size + 3, 3, none⟩ (.slice (some ⟨g, 0, none⟩) (a2.length + 1) cap)).heap[q]? = X.heap[q]? := fun q h1 h2 h3 => (Below.heap_setCell _ _ _ _ h3).trans ((Below.heap_setCell _ _ _ _ h2).trans ((Below.heap_setCell _ _ _ _ h2).trans (hlow _ h1)))
            exact ⟨(Below.heap_setCell _ _ _ _ (by simp)).trans hr.set, (off _ (by omega) (by omega) (by omega)).trans HTX.out.q, (off _ (by omega) (by omega) (by omega)).trans HTX.out.z, gr_put fz 3 _,
              own_kp (own_kp (own_kp HTX.out.o1 kp (by decide)) k2 (by decide)) k3 (by decide), (ho5.kp k2 (by decide) (by decide)).kp k3 (by decide) (by decide), ((HTX.out.o3.kp kp (by decide) (by decide)).kp k2 (by decide) (by decide)).kp k3 (by decide) (by decide),
              (RBx.set_below hbel (Nat.le_refl _)).setCell (p := ⟨w.heap.size + 3, 3, none⟩) (by show w.heap.size ≤ w.heap.size + 3; omega) _, by simp [World.setCell]; exact hhi⟩)
          have q7 : RBx qb m5 c5 w7 := kp _ _ _ _ HQB.out HqX.out (by decide)
          have s2 : w7.cell? ⟨qb, 0, none⟩ = some (.string ⟨m5.toArray⟩) ∧ w7.cell? ⟨qb, 1, none⟩ = some (.bool c5) := ⟨q7.cells.1, q7.cells.2.1⟩
          have hrc : RBx w.heap.size l2 false w7 := (hlow _ (by omega)).trans HTX.out.r
          obtain ⟨x0, x1, f0, f1⟩ := hrc.cells
          have hfc : w7.heap[w.heap.size + 3]? = _ := (hlow _ (by omega)).trans HTX.out.f
          have z3 := Lib.cell_of_heap hfc 3
          have zf3 := Lib.frozen_of_heap hfc 3
          have hne : qb ≠ w.heap.size := by have := HQB.out; omega
          have hne3 : qb ≠ w.heap.size + 3 := by have := HQB.out; omega
          have q8 : RBx qb m5 c5 ((w7.setCell ⟨w.heap.size, 0, none⟩ (.string ⟨m5.toArray⟩)).setCell ⟨w.heap.size, 1, none⟩ (.bool c5)) := q7.off hne
          have s3 := And.intro q8.cells.1 q8.cells.2.1
          have q9 : RBx qb m5 c5 (((w7.setCell ⟨w.heap.size, 0, none⟩ (.string ⟨m5.toArray⟩)).setCell ⟨w.heap.size, 1, none⟩ (.bool c5)).setCell ⟨w.heap.size + 3, 3, none⟩ (.slice (some ⟨g, 0, none⟩) (a2.length + 1) cap)) := (Below.heap_setCell _ _ _ _ hne3).trans q8
          have s4 := And.intro q9.cells.1 q9.cells.2.1
          have H8 := Lib.hid T7
          clear hown hgrow hat hlt7 kp hlow hbel hhi T7 q7 hrc hfc hne hne3 q8 q9
          refine hK.out _ _ ?_ (fun hHeld => ?_)
          · ((try dsimp only); first | with_reducible exact s0 | with_reducible exact s1 | with_reducible exact s2 | with_reducible exact s3 | with_reducible exact s4)
          clear hK K
          try simp only [Act.put, List.setIfInBounds_toArray, List.set_cons_zero, List.set_cons_succ]
          refine wpAnyH_ready (rs := [15]) (by kernel_rfl) (by simp) ?_
          refine AllReadyH.cons rfl (fun K hK => ?_) (AllReadyH.nil)
          go_simp
          refine hK.out _ _ ?_ (fun hHeld => ?_)
          · ((try dsimp only); first | with_reducible exact s0 | with_reducible exact s1 | with_reducible exact s2 | with_reducible exact s3 | with_reducible exact s4)
          clear hK K
          try simp only [Act.put, List.setIfInBounds_toArray, List.set_cons_zero, List.set_cons_succ]
          refine wpAnyH_take (i := 16) (v := ?_) rfl (by kernel_rfl) (by kernel_rfl) (by kernel_rfl) (fun _ _ _ h => h) (Or.inl ⟨by rfl, ?_⟩) (by assumption) ?_
          rotate_left
          · (intro w hSw; (try dsimp only at hSw); first | (go_simp; done) | (go_simp; with_reducible rfl))
          try simp only [Act.put, List.setIfInBounds_toArray, List.set_cons_zero, List.set_cons_succ]
          refine wpAnyH_ready (rs := [17]) (by kernel_rfl) (by simp) ?_
          refine AllReadyH.cons rfl (fun K hK => ?_) (AllReadyH.nil)
          go_simp
          refine hK.out _ _ ?_ (fun hHeld => ?_)
          · ((try dsimp only); first | with_reducible exact s0 | with_reducible exact s1 | with_reducible exact s2 | with_reducible exact s3 | with_reducible exact s4)
          clear hK K
          try simp only [Act.put, List.setIfInBounds_toArray, List.set_cons_zero, List.set_cons_succ]
          refine wpAnyH_done (by kernel_rfl) ?_ _
          clear x0 x1 f0 f1 s0 s1 s2 s3 s4 z3 zf3 n0 n1' fc3 xcX
          generalize hY8 : World.setCell _ _ _ = Y8
          rw [hY8] at H8
          clear hY8
          go_wp2
          go_roundw
          case rel => exact ⟨i + 1, _, m5, c5, _, by omega, by go_num, H8, Lib.hid ⟨HR5.out, by have := HL.out.2; simp; omega⟩, Lib.hid (by rw [HQ5]; exact HN.out ax (fun q => HXA.out (Hgd.out q)))⟩
          case measure => simp [intOf]; omega
        · go_simp
          refine (hU _).mono ?_
          rintro e w9 ⟨rfl, rfl⟩
          try dsimp only
          refine hK.out _ _ ?_ (fun hHeld => ?_)
          · ((try dsimp only); first | with_reducible exact s0 | with_reducible exact s1 | with_reducible exact s2 | with_reducible exact s3 | with_reducible exact s4)
          clear hK K
          try simp only [Act.put, List.setIfInBounds_toArray, List.set_cons_zero, List.set_cons_succ]
          refine wpAnyH_take (i := 12) (v := ?_) rfl (by kernel_rfl) (by kernel_rfl) (by kernel_rfl) (fun _ _ _ h => h) (Or.inl ⟨by rfl, ?_⟩) (by assumption) ?_
          rotate_left
          · (intro w hSw; (try dsimp only at hSw); first | (go_simp; done) | (go_simp; with_reducible rfl))
          try simp only [Act.put, List.setIfInBounds_toArray, List.set_cons_zero, List.set_cons_succ]
          refine wpAnyH_ready (rs := [2, 13]) (by kernel_rfl) (by simp) ?_
          refine AllReadyH.cons rfl (fun K hK => ?_) (AllReadyH.cons rfl (fun K hK => ?_) (AllReadyH.nil))
          · go_simp
            refine hK.out _ _ ?_ (fun hHeld => ?_)
            · ((try dsimp only); first | with_reducible exact s0 | with_reducible exact s1 | with_reducible exact s2 | with_reducible exact s3 | with_reducible exact s4)
            clear hK K
            try simp only [Act.put, List.setIfInBounds_toArray, List.set_cons_zero, List.set_cons_succ]
            refine wpAnyH_ready (rs := [13]) (by kernel_rfl) (by simp) ?_
            refine AllReadyH.cons rfl (fun K hK => ?_) (AllReadyH.nil)
            go_simp
            refine hK.out _ _ ?_ (fun hHeld => ?_)
            · ((try dsimp only); first | with_reducible exact s0 | with_reducible exact s1 | with_reducible exact s2 | with_reducible exact s3 | with_reducible exact s4)
            clear hK K
            try simp only [Act.put, List.setIfInBounds_toArray, List.set_cons_zero, List.set_cons_succ]
            refine wpAnyH_ready (rs := [14]) (by kernel_rfl) (by simp) ?_
            refine AllReadyH.cons rfl (fun K hK => ?_) (AllReadyH.nil)
            rw [← HX.out]
            refine step_append_lies _ rfl (.tmp 91) (.tmp 102) 60 rfl (w.heap.size + 4) 66 i0 (.agg #[.int .i64 0, .int .i64 0, .slice none 0 0, .int .i64 0, .int .i64 0]) 5 56 Try.underlying60 Ji.out Jz0.out Jz1.out Jz2.out rfl (by decide) (.slice A2 acc.length cp2) a2.length (insRow a2) (by simp [Act.eval, Act.put]) HoX.out ⟨Y5.heap.size, 0, none⟩ 1 1 [.int .i64 (p1 : Int), .int .i64 (p2 : Int), .slice A3 ax.length cp3, .int .i64 un, .int .i64 (p5 : Int)] (by simp [Act.eval, Act.put]) rfl HnX.out Hone.out (by decide) (by unfold maxLen; have := HbS.out.2; omega) (by have := HbS.out.2; omega) HbS.out.1 _ rfl ?_
            intro g cap w7 hown hgrow hat hlt7
            have kp : Kp (w.heap.size + 4) 66 X w7 := Kp.of_grown HoX.out hgrow
            obtain ⟨hlow, hbel, hhi⟩ := HTX.out.grown HoX.out hgrow
            have T7 := (show TS w (((w7.setCell ⟨w.heap.size, 0, none⟩ (.string ⟨m5.toArray⟩)).setCell ⟨w.heap.size, 1, none⟩ (.bool c5)).setCell ⟨w.heap.size + 3, 3, none⟩ (.slice (some ⟨g, 0, none⟩) (a2.length + 1) cap)) m5 c5 tn (.slice A1 xs.length cp1) (.slice (some ⟨g, 0, none⟩) (a2.length + 1) cap) (.slice none 0 0) ⟨xs, (dn : Int), acc ++ [⟨(p1 : Int), (p2 : Int), ax, un, (p5 : Int)⟩], []⟩ from by
              have hr : RBx w.heap.size l2 false w7 := (hlow _ (by omega)).trans HTX.out.r
              have ho5 : InsO (w.heap.size + 4) w7 (.slice (some ⟨g, 0, none⟩) (a2.length + 1) cap) (acc ++ [⟨(p1 : Int), (p2 : Int), ax, un, (p5 : Int)⟩]) := by
                rw [Ha2.out]
                exact InsO.snoc (d := ⟨(p1 : Int), (p2 : Int), ax, un, (p5 : Int)⟩) hown HinX.out HOAX.out (Nat.le_refl _) kp
              have k2 := RBx.set_kp (base := w.heap.size + 4) (l' := m5) (b' := c5) hr
              have fz : ((w7.setCell ⟨w.heap.size, 0, none⟩ (.string ⟨m5.toArray⟩)).setCell ⟨w.heap.size, 1, none⟩ (.bool c5)).heap[w.heap.size + 3]? = _ := (Below.heap_setCell _ _ _ _ (by simp)).trans ((Below.heap_setCell _ _ _ _ (by simp)).trans ((hlow _ (by omega)).trans HTX.out.f))
              have k3 : Kp (w.heap.size + 4) 63 _ (((w7.setCell ⟨w.heap.size, 0, none⟩ (.string ⟨m5.toArray⟩)).setCell ⟨w.heap.size, 1, none⟩ (.bool c5)).setCell ⟨w.heap.size + 3, 3, none⟩ (.slice (some ⟨g, 0, none⟩) (a2.length + 1) cap)) := Kp.of_set _ fz
              have off : ∀ q, q < w.heap.size + 4 → q ≠ w.heap.size → q ≠ w.heap.size + 3 → (((w7.setCell ⟨w.heap.size, 0, none⟩ (.string ⟨m5.toArray⟩)).setCell ⟨w.heap.size, 1, none⟩ (.bool c5)).setCell ⟨w.heap.size + 3, 3, none⟩ (.slice (some ⟨g, 0, none⟩) (a2.length + 1) cap)).heap[q]? = X.heap[q]? := fun q h1 h2 h3 => (Below.heap_setCell _ _ _ _ h3).trans ((Below.heap_setCell _ _ _ _ h2).trans ((Below.heap_setCell _ _ _ _ h2).trans (hlow _ h1)))
              exact ⟨(Below.heap_setCell _ _ _ _ (by simp)).trans hr.set, (off _ (by omega) (by omega) (by omega)).trans HTX.out.q, (off _ (by omega) (by omega) (by omega)).trans HTX.out.z, gr_put fz 3 _,
                own_kp (own_kp (own_kp HTX.out.o1 kp (by decide)) k2 (by decide)) k3 (by decide), (ho5.kp k2 (by decide) (by decide)).kp k3 (by decide) (by decide), ((HTX.out.o3.kp kp (by decide) (by decide)).kp k2 (by decide) (by decide)).kp k3 (by decide) (by decide),
                (RBx.set_below hbel (Nat.le_refl _)).setCell (p := ⟨w.heap.size + 3, 3, none⟩) (by show w.heap.size ≤ w.heap.size + 3; omega) _, by simp [World.setCell]; exact hhi⟩)
            have q7 : RBx qb m5 c5 w7 := kp _ _ _ _ HQB.out HqX.out (by decide)
            have s2 : w7.cell? ⟨qb, 0, none⟩ = some (.string ⟨m5.toArray⟩) ∧ w7.cell? ⟨qb, 1, none⟩ = some (.bool c5) := ⟨q7.cells.1, q7.cells.2.1⟩
            have hrc : RBx w.heap.size l2 false w7 := (hlow _ (by omega)).trans HTX.out.r
            obtain ⟨x0, x1, f0, f1⟩ := hrc.cells
            have hfc : w7.heap[w.heap.size + 3]? = _ := (hlow _ (by omega)).trans HTX.out.f
            have z3 := Lib.cell_of_heap hfc 3
            have zf3 := Lib.frozen_of_heap hfc 3
            have hne : qb ≠ w.heap.size := by have := HQB.out; omega
            have hne3 : qb ≠ w.heap.size + 3 := by have := HQB.out; omega
            have q8 : RBx qb m5 c5 ((w7.setCell ⟨w.heap.size, 0, none⟩ (.string ⟨m5.toArray⟩)).setCell ⟨w.heap.size, 1, none⟩ (.bool c5)) := q7.off hne
            have s3 := And.intro q8.cells.1 q8.cells.2.1
            have q9 : RBx qb m5 c5 (((w7.setCell ⟨w.heap.size, 0, none⟩ (.string ⟨m5.toArray⟩)).setCell ⟨w.heap.size, 1, none⟩ (.bool c5)).setCell ⟨w.heap.size + 3, 3, none⟩ (.slice (some ⟨g, 0, none⟩) (a2.length + 1) cap)) := (Below.heap_setCell _ _ _ _ hne3).trans q8
            have s4 := And.intro q9.cells.1 q9.cells.2.1
            have H8 := Lib.hid T7
            clear hown hgrow hat hlt7 kp hlow hbel hhi T7 q7 hrc hfc hne hne3 q8 q9
            refine hK.out _ _ ?_ (fun hHeld => ?_)
            · ((try dsimp only); first | with_reducible exact s0 | with_reducible exact s1 | with_reducible exact s2 | with_reducible exact s3 | with_reducible exact s4)
            clear hK K
            try simp only [Act.put, List.setIfInBounds_toArray, List.set_cons_zero, List.set_cons_succ]
            refine wpAnyH_ready (rs := [15]) (by kernel_rfl) (by simp) ?_
            refine AllReadyH.cons rfl (fun K hK => ?_) (AllReadyH.nil)
            go_simp
            refine hK.out _ _ ?_ (fun hHeld => ?_)
            · ((try dsimp only); first | with_reducible exact s0 | with_reducible exact s1 | with_reducible exact s2 | with_reducible exact s3 | with_reducible exact s4)
            clear hK K
            try simp only [Act.put, List.setIfInBounds_toArray, List.set_cons_zero, List.set_cons_succ]
            refine wpAnyH_take (i := 16) (v := ?_) rfl (by kernel_rfl) (by kernel_rfl) (by kernel_rfl) (fun _ _ _ h => h) (Or.inl ⟨by rfl, ?_⟩) (by assumption) ?_
            rotate_left
            · (intro w hSw; (try dsimp only at hSw); first | (go_simp; done) | (go_simp; with_reducible rfl))
            try simp only [Act.put, List.setIfInBounds_toArray, List.set_cons_zero, List.set_cons_succ]
            refine wpAnyH_ready (rs := [17]) (by kernel_rfl) (by simp) ?_
            refine AllReadyH.cons rfl (fun K hK => ?_) (AllReadyH.nil)
            go_simp
            refine hK.out _ _ ?_ (fun hHeld => ?_)
            · ((try dsimp only); first | with_reducible exact s0 | with_reducible exact s1 | with_reducible exact s2 | with_reducible exact s3 | with_reducible exact s4)
            clear hK K
            try simp only [Act.put, List.setIfInBounds_toArray, List.set_cons_zero, List.set_cons_succ]
            refine wpAnyH_done (by kernel_rfl) ?_ _
            clear x0 x1 f0 f1 s0 s1 s2 s3 s4 z3 zf3 n0 n1' fc3 xcX
            generalize hY8 : World.setCell _ _ _ = Y8
            rw [hY8] at H8
            clear hY8
            go_wp2
            go_roundw
            case rel => exact ⟨i + 1, _, m5, c5, _, by omega, by go_num, H8, Lib.hid ⟨HR5.out, by have := HL.out.2; simp; omega⟩, Lib.hid (by rw [HQ5]; exact HN.out ax (fun q => HXA.out (Hgd.out q)))⟩
            case measure => simp [intOf]; omega
          · go_simp
            refine hK.out _ _ ?_ (fun hHeld => ?_)
            · ((try dsimp only); first | with_reducible exact s0 | with_reducible exact s1 | with_reducible exact s2 | with_reducible exact s3 | with_reducible exact s4)
            clear hK K
            try simp only [Act.put, List.setIfInBounds_toArray, List.set_cons_zero, List.set_cons_succ]
            refine wpAnyH_ready (rs := [2]) (by kernel_rfl) (by simp) ?_
            refine AllReadyH.cons rfl (fun K hK => ?_) (AllReadyH.nil)
            go_simp
            refine hK.out _ _ ?_ (fun hHeld => ?_)
            · ((try dsimp only); first | with_reducible exact s0 | with_reducible exact s1 | with_reducible exact s2 | with_reducible exact s3 | with_reducible exact s4)
            clear hK K
            try simp only [Act.put, List.setIfInBounds_toArray, List.set_cons_zero, List.set_cons_succ]
            refine wpAnyH_ready (rs := [14]) (by kernel_rfl) (by simp) ?_
            refine AllReadyH.cons rfl (fun K hK => ?_) (AllReadyH.nil)
            rw [← HX.out]
            refine step_append_lies _ rfl (.tmp 91) (.tmp 102) 60 rfl (w.heap.size + 4) 66 i0 (.agg #[.int .i64 0, .int .i64 0, .slice none 0 0, .int .i64 0, .int .i64 0]) 5 56 Try.underlying60 Ji.out Jz0.out Jz1.out Jz2.out rfl (by decide) (.slice A2 acc.length cp2) a2.length (insRow a2) (by simp [Act.eval, Act.put]) HoX.out ⟨Y5.heap.size, 0, none⟩ 1 1 [.int .i64 (p1 : Int), .int .i64 (p2 : Int), .slice A3 ax.length cp3, .int .i64 un, .int .i64 (p5 : Int)] (by simp [Act.eval, Act.put]) rfl HnX.out Hone.out (by decide) (by unfold maxLen; have := HbS.out.2; omega) (by have := HbS.out.2; omega) HbS.out.1 _ rfl ?_
            intro g cap w7 hown hgrow hat hlt7
            have kp : Kp (w.heap.size + 4) 66 X w7 := Kp.of_grown HoX.out hgrow
            obtain ⟨hlow, hbel, hhi⟩ := HTX.out.grown HoX.out hgrow
            have T7 := (show TS w (((w7.setCell ⟨w.heap.size, 0, none⟩ (.string ⟨m5.toArray⟩)).setCell ⟨w.heap.size, 1, none⟩ (.bool c5)).setCell ⟨w.heap.size + 3, 3, none⟩ (.slice (some ⟨g, 0, none⟩) (a2.length + 1) cap)) m5 c5 tn (.slice A1 xs.length cp1) (.slice (some ⟨g, 0, none⟩) (a2.length + 1) cap) (.slice none 0 0) ⟨xs, (dn : Int), acc ++ [⟨(p1 : Int), (p2 : Int), ax, un, (p5 : Int)⟩], []⟩ from by
              have hr : RBx w.heap.size l2 false w7 := (hlow _ (by omega)).trans HTX.out.r
              have ho5 : InsO (w.heap.size + 4) w7 (.slice (some ⟨g, 0, none⟩) (a2.length + 1) cap) (acc ++ [⟨(p1 : Int), (p2 : Int), ax, un, (p5 : Int)⟩]) := by
                rw [Ha2.out]
                exact InsO.snoc (d := ⟨(p1 : Int), (p2 : Int), ax, un, (p5 : Int)⟩) hown HinX.out HOAX.out (Nat.le_refl _) kp
              have k2 := RBx.set_kp (base := w.heap.size + 4) (l' := m5) (b' := c5) hr
              have fz : ((w7.setCell ⟨w.heap.size, 0, none⟩ (.string ⟨m5.toArray⟩)).setCell ⟨w.heap.size, 1, none⟩ (.bool c5)).heap[w.heap.size + 3]? = _ := (Below.heap_setCell _ _ _ _ (by simp)).trans ((Below.heap_setCell _ _ _ _ (by simp)).trans ((hlow _ (by omega)).trans HTX.out.f))
              have k3 : Kp (w.heap.size + 4) 63 _ (((w7.setCell ⟨w.heap.size, 0, none⟩ (.string ⟨m5.toArray⟩)).setCell ⟨w.heap.size, 1, none⟩ (.bool c5)).setCell ⟨w.heap.size + 3, 3, none⟩ (.slice (some ⟨g, 0, none⟩) (a2.length + 1) cap)) := Kp.of_set _ fz
              have off : ∀ q, q < w.heap.size + 4 → q ≠ w.heap.size → q ≠ w.heap.size + 3 → (((w7.setCell ⟨w.heap.size, 0, none⟩ (.string ⟨m5.toArray⟩)).setCell ⟨w.heap.size, 1, none⟩ (.bool c5)).setCell ⟨w.heap.size + 3, 3, none⟩ (.slice (some ⟨g, 0, none⟩) (a2.length + 1) cap)).heap[q]? = X.heap[q]? := fun q h1 h2 h3 => (Below.heap_setCell _ _ _ _ h3).trans ((Below.heap_setCell _ _ _ _ h2).trans ((Below.heap_setCell _ _ _ _ h2).trans (hlow _ h1)))
              exact ⟨(Below.heap_setCell _ _ _ _ (by simp)).trans hr.set, (off _ (by omega) (by omega) (by omega)).trans HTX.out.q, (off _ (by omega) (by omega) (by omega)).trans HTX.out.z, gr_put fz 3 _,
                own_kp (own_kp (own_kp HTX.out.o1 kp (by decide)) k2 (by decide)) k3 (by decide), (ho5.kp k2 (by decide) (by decide)).kp k3 (by decide) (by decide), ((HTX.out.o3.kp kp (by decide) (by decide)).kp k2 (by decide) (by decide)).kp k3 (by decide) (by decide),
                (RBx.set_below hbel (Nat.le_refl _)).setCell (p := ⟨w.heap.size + 3, 3, none⟩) (by show w.heap.size ≤ w.heap.size + 3; omega) _, by simp [World.setCell]; exact hhi⟩)
            have q7 : RBx qb m5 c5 w7 := kp _ _ _ _ HQB.out HqX.out (by decide)
            have s2 : w7.cell? ⟨qb, 0, none⟩ = some (.string ⟨m5.toArray⟩) ∧ w7.cell? ⟨qb, 1, none⟩ = some (.bool c5) := ⟨q7.cells.1, q7.cells.2.1⟩
            have hrc : RBx w.heap.size l2 false w7 := (hlow _ (by omega)).trans HTX.out.r
            obtain ⟨x0, x1, f0, f1⟩ := hrc.cells
            have hfc : w7.heap[w.heap.size + 3]? = _ := (hlow _ (by omega)).trans HTX.out.f
            have z3 := Lib.cell_of_heap hfc 3
            have zf3 := Lib.frozen_of_heap hfc 3
            have hne : qb ≠ w.heap.size := by have := HQB.out; omega
            have hne3 : qb ≠ w.heap.size + 3 := by have := HQB.out; omega
            have q8 : RBx qb m5 c5 ((w7.setCell ⟨w.heap.size, 0, none⟩ (.string ⟨m5.toArray⟩)).setCell ⟨w.heap.size, 1, none⟩ (.bool c5)) := q7.off hne
            have s3 := And.intro q8.cells.1 q8.cells.2.1
            have q9 : RBx qb m5 c5 (((w7.setCell ⟨w.heap.size, 0, none⟩ (.string ⟨m5.toArray⟩)).setCell ⟨w.heap.size, 1, none⟩ (.bool c5)).setCell ⟨w.heap.size + 3, 3, none⟩ (.slice (some ⟨g, 0, none⟩) (a2.length + 1) cap)) := (Below.heap_setCell _ _ _ _ hne3).trans q8
            have s4 := And.intro q9.cells.1 q9.cells.2.1
            have H8 := Lib.hid T7
            clear hown hgrow hat hlt7 kp hlow hbel hhi T7 q7 hrc hfc hne hne3 q8 q9
            refine hK.out _ _ ?_ (fun hHeld => ?_)
            · ((try dsimp only); first | with_reducible exact s0 | with_reducible exact s1 | with_reducible exact s2 | with_reducible exact s3 | with_reducible exact s4)
            clear hK K
            try simp only [Act.put, List.setIfInBounds_toArray, List.set_cons_zero, List.set_cons_succ]
            refine wpAnyH_ready (rs := [15]) (by kernel_rfl) (by simp) ?_
            refine AllReadyH.cons rfl (fun K hK => ?_) (AllReadyH.nil)
            go_simp
            refine hK.out _ _ ?_ (fun hHeld => ?_)
            · ((try dsimp only); first | with_reducible exact s0 | with_reducible exact s1 | with_reducible exact s2 | with_reducible exact s3 | with_reducible exact s4)
            clear hK K
            try simp only [Act.put, List.setIfInBounds_toArray, List.set_cons_zero, List.set_cons_succ]
            refine wpAnyH_take (i := 16) (v := ?_) rfl (by kernel_rfl) (by kernel_rfl) (by kernel_rfl) (fun _ _ _ h => h) (Or.inl ⟨by rfl, ?_⟩) (by assumption) ?_
            rotate_left
            · (intro w hSw; (try dsimp only at hSw); first | (go_simp; done) | (go_simp; with_reducible rfl))
            try simp only [Act.put, List.setIfInBounds_toArray, List.set_cons_zero, List.set_cons_succ]
            refine wpAnyH_ready (rs := [17]) (by kernel_rfl) (by simp) ?_
            refine AllReadyH.cons rfl (fun K hK => ?_) (AllReadyH.nil)
            go_simp
            refine hK.out _ _ ?_ (fun hHeld => ?_)
            · ((try dsimp only); first | with_reducible exact s0 | with_reducible exact s1 | with_reducible exact s2 | with_reducible exact s3 | with_reducible exact s4)
            clear hK K
            try simp only [Act.put, List.setIfInBounds_toArray, List.set_cons_zero, List.set_cons_succ]
            refine wpAnyH_done (by kernel_rfl) ?_ _
            clear x0 x1 f0 f1 s0 s1 s2 s3 s4 z3 zf3 n0 n1' fc3 xcX
            generalize hY8 : World.setCell _ _ _ = Y8
            rw [hY8] at H8
            clear hY8
            go_wp2
            go_roundw
            case rel => exact ⟨i + 1, _, m5, c5, _, by omega, by go_num, H8, Lib.hid ⟨HR5.out, by have := HL.out.2; simp; omega⟩, Lib.hid (by rw [HQ5]; exact HN.out ax (fun q => HXA.out (Hgd.out q)))⟩
            case measure => simp [intOf]; omega
      · have HD : Hid (rR l2 b2 = es ∧ (es ≠ none → acc = en)) := Lib.hid (by
          cases b2 with
          | true =>
            have h := HM.out.2 rfl
            exact ⟨h.symm, fun q => absurd h q⟩
          | false =>
            have hin : i = n1 := by have : ¬ i < n1 := fun h => hlt ⟨h, rfl⟩; omega
            have h := HM.out.1 (by simp [rR])
            rw [hin, Nat.sub_self] at h
            injection h with h1 h2
            exact ⟨h2, fun _ => h1⟩)
        by_cases hin : i < n1
        · have hb : b2 = true := by cases b2 with | true => rfl | false => exact absurd ⟨hin, rfl⟩ hlt
          subst hb
          clear hlt
          go_wp2_with fail
          go_meet
          exact ⟨l2, true, _, acc, HS, Lib.hid HL.out.1, HD.out.1, Lib.hid HD.out.2⟩
        · clear hlt
          go_wp2_with fail
          go_meet
          exact ⟨l2, b2, _, acc, HS, Lib.hid HL.out.1, HD.out.1, Lib.hid HD.out.2⟩
  case rest =>
    obtain ⟨l7, b7, v7, acc7, HS7, HL7, hst7, HEN⟩ := hcut
    obtain ⟨A7, cp7, rfl⟩ := HS7.out.o2.slice
    obtain ⟨x0, x1, f0, f1⟩ := HS7.out.r.cells
    go_upto_region 18 with (go_at_call 41; refine (M2 l7 b7 _ hst7 HL7.out).mono ?_; rintro e u7 ⟨l8, b8, rfl, h1, h2, h3⟩; have HT7 := Lib.hid (HS7.out.keep h3); obtain ⟨y0, y1, g0, g1⟩ := HT7.out.r.cells; obtain ⟨c0, c1, c2, c3, c4, cf⟩ := HT7.out.fc; have cf0 := cf 0; have cf1 := cf 1; have hst8 := h1; have HL8 := Lib.hid h2; clear cf h1 h2 h3 x0 x1 f0 f1)
    clear y0 y1 g0 g1 c0 c1 c2 c3 c4 cf0 cf1
    generalize hY : World.setCell _ _ _ = X8
    have HS8 := Lib.hid (show TS w X8 l8 b8 tn (.slice A1 xs.length cp1) (.slice A7 acc7.length cp7) (.slice none 0 0) ⟨xs, (dn : Int), acc7, []⟩ from by
      rw [← hY]
      have t := HT7.out.setR (l' := l8) (b' := b8)
      exact t)
    clear hY HT7 HS7 HL7 hst7
    go_upto_block 2 with fail
    go_cut [14] (fun u14 wx => ∃ (l2 : List UInt8) (b2 : Bool) (v : Value) (acc : List SB), Hid (TS w wx l2 b2 tn (.slice A1 xs.length cp1) (.slice A7 acc7.length cp7) v ⟨xs, (dn : Int), acc7, acc⟩) ∧ Hid (l2.length ≤ l.length) ∧ rR l2 b2 = gs ∧ Hid (gs ≠ none → acc = gn))
    case first =>
      have H0 : Hid (∃ (v : Value) (acc : List SB), TS w X8 l8 b8 tn (.slice A1 xs.length cp1) (.slice A7 acc7.length cp7) v ⟨xs, (dn : Int), acc7, acc⟩ ∧ acc.length ≤ 0 ∧ ((rR l8 b8 ≠ none → manyQ blockQ (n2 - 0) acc (rR l8 b8) = (gn, gs)) ∧ (rR l8 b8 = none → gs = none))) := Lib.hid ⟨_, [], HS8.out, Nat.le_refl _, fun _ => by rw [hst8]; exact HG.out.symm, fun h => HG0.out (by rw [← hst8]; exact h)⟩
      clear HS8 hst8
      go_wp2_with fail
      go_loopw [14] (fun u14 wr => ∃ (i : Nat) (acc : List SB) (l2 : List UInt8) (b2 : Bool) (v : Value), i ≤ n2 ∧ u14 = .int .u64 (i : Int) ∧ Hid (TS w wr l2 b2 tn (.slice A1 xs.length cp1) (.slice A7 acc7.length cp7) v ⟨xs, (dn : Int), acc7, acc⟩) ∧ Hid (l2.length ≤ l.length ∧ acc.length ≤ i) ∧ Hid ((rR l2 b2 ≠ none → manyQ blockQ (n2 - i) acc (rR l2 b2) = (gn, gs)) ∧ (rR l2 b2 = none → gs = none))) (fun u14 _ => n2 - (intOf u14).toNat)
      case atStart =>
        obtain ⟨v, acc, q1, q2, q3⟩ := H0.out
        exact ⟨0, acc, l8, b8, v, Nat.zero_le _, rfl, Lib.hid q1, Lib.hid ⟨HL8.out, q2⟩, Lib.hid q3⟩
      case round =>
        clear H0 HL8
        obtain ⟨i, acc, l2, b2, v, hi, rfl, HS, HL, HM⟩ := hrel
        obtain ⟨wo, hwo⟩ : ∃ x, x = wr := ⟨_, rfl⟩
        rw [← hwo] at HS ⊢
        clear hwo
        obtain ⟨x0, x1, f0, f1⟩ := HS.out.r.cells
        by_cases hlt : i < n2 ∧ b2 = false
        · obtain ⟨hlt, rfl⟩ := hlt
          obtain ⟨A2, cp2, rfl⟩ := HS.out.o3.slice
          obtain ⟨⟨p1, t1⟩, hP1⟩ : ∃ a, a = rowQ 131072 (some l2) := ⟨_, rfl⟩
          obtain ⟨⟨p2, t2⟩, hP2⟩ : ∃ a, a = rowQ 65536 t1 := ⟨_, rfl⟩
          obtain ⟨⟨p3, t3⟩, hP3⟩ : ∃ a, a = numS 3 t2 := ⟨_, rfl⟩
          obtain ⟨⟨p4, t4⟩, hP4⟩ : ∃ a, a = numS 131072 t3 := ⟨_, rfl⟩
          obtain ⟨⟨p5, t5⟩, hP5⟩ : ∃ a, a = rowQ 2 t4 := ⟨_, rfl⟩
          have hI : blockQ (some l2) = (⟨p1, p2, (p3 : Int), (p4 : Int) - 1, p5⟩, t5) := by
            unfold blockQ endQ oneQ
            simp only [← hP1, ← hP2, ← hP3, ← hP4, ← hP5]
          have hgd : t5 ≠ none → t1 ≠ none ∧ t2 ≠ none := by
            have c4 : t4 = none → t5 = none := by
              rintro rfl
              rw [rowQ_nil] at hP5
              injection hP5
            have c3 : t3 = none → t4 = none := by
              rintro rfl
              rw [numS_nil] at hP4
              injection hP4
            have c2 : t2 = none → t3 = none := by
              rintro rfl
              rw [numS_nil] at hP3
              injection hP3
            have c1 : t1 = none → t2 = none := by
              rintro rfl
              rw [rowQ_nil] at hP2
              injection hP2
            exact fun h => ⟨fun q => h (c4 (c3 (c2 (c1 q)))), fun q => h (c4 (c3 (c2 q)))⟩
          have b3' : p3 ≤ 3 := by have := numS_le 3 t2; rw [← hP3] at this; exact this
          have b4' : p4 ≤ 131072 := by have := numS_le 131072 t3; rw [← hP4] at this; exact this
          have P1 : ∀ (l1 : List UInt8) (b1 : Bool) (X : World), rR l1 b1 = some l2 → l1.length ≤ l.length → Calls Try.prog 66 #[.agg #[.string ⟨l1.toArray⟩, .bool b1], .int .u64 131072] X fun e w' => ∃ (l' : List UInt8) (b' : Bool) (v : Value) (xs : List Int), e = .returned (.tuple #[.agg #[.string ⟨l'.toArray⟩, .bool b'], v]) ∧ rR l' b' = t1 ∧ l'.length ≤ l.length ∧ w'.ownsRow X.heap.size 3 1 v xs.length (intsV xs) ∧ (t1 ≠ none → xs = p1) ∧ Below X.heap.size X w' := fun l1 b1 X hs h1 => by
            have h := rrow_r l1 b1 131072 (by decide) (Nat.le_trans h1 hl) X
            rw [hs, ← hP1] at h
            refine h.mono ?_
            rintro e w' ⟨l', b', v, xs, q1, q2, q3, q4, q5, q6⟩
            exact ⟨l', b', v, xs, q1, q2, Nat.le_trans q3 h1, q4, q5, q6⟩
          have P2 : ∀ (l1 : List UInt8) (b1 : Bool) (X : World), rR l1 b1 = t1 → l1.length ≤ l.length → Calls Try.prog 66 #[.agg #[.string ⟨l1.toArray⟩, .bool b1], .int .u64 65536] X fun e w' => ∃ (l' : List UInt8) (b' : Bool) (v : Value) (xs : List Int), e = .returned (.tuple #[.agg #[.string ⟨l'.toArray⟩, .bool b'], v]) ∧ rR l' b' = t2 ∧ l'.length ≤ l.length ∧ w'.ownsRow X.heap.size 3 1 v xs.length (intsV xs) ∧ (t2 ≠ none → xs = p2) ∧ Below X.heap.size X w' := fun l1 b1 X hs h1 => by
            have h := rrow_r l1 b1 65536 (by decide) (Nat.le_trans h1 hl) X
            rw [hs, ← hP2] at h
            refine h.mono ?_
            rintro e w' ⟨l', b', v, xs, q1, q2, q3, q4, q5, q6⟩
            exact ⟨l', b', v, xs, q1, q2, Nat.le_trans q3 h1, q4, q5, q6⟩
          have P3 : ∀ (l1 : List UInt8) (b1 : Bool) (X : World), rR l1 b1 = t2 → l1.length ≤ l.length → Calls Try.prog 41 #[.agg #[.string ⟨l1.toArray⟩, .bool b1], .int .u64 3] X fun e w' => ∃ (l' : List UInt8) (b' : Bool), e = .returned (.tuple #[.agg #[.string ⟨l'.toArray⟩, .bool b'], .int .u64 (p3 : Int)]) ∧ rR l' b' = t3 ∧ l'.length ≤ l.length ∧ Below X.heap.size X w' := fun l1 b1 X hs h1 => by
            have h := rnum_r l1 b1 3 (by decide) (Nat.le_trans h1 hl) X
            rw [hs, ← hP3] at h
            refine h.mono ?_
            rintro e w' ⟨l', b', q1, q2, q3, q4⟩
            exact ⟨l', b', q1, q2, Nat.le_trans q3 h1, q4⟩
          have P4 : ∀ (l1 : List UInt8) (b1 : Bool) (X : World), rR l1 b1 = t3 → l1.length ≤ l.length → Calls Try.prog 41 #[.agg #[.string ⟨l1.toArray⟩, .bool b1], .int .u64 131072] X fun e w' => ∃ (l' : List UInt8) (b' : Bool), e = .returned (.tuple #[.agg #[.string ⟨l'.toArray⟩, .bool b'], .int .u64 (p4 : Int)]) ∧ rR l' b' = t4 ∧ l'.length ≤ l.length ∧ Below X.heap.size X w' := fun l1 b1 X hs h1 => by
            have h := rnum_r l1 b1 131072 (by decide) (Nat.le_trans h1 hl) X
            rw [hs, ← hP4] at h
            refine h.mono ?_
            rintro e w' ⟨l', b', q1, q2, q3, q4⟩
            exact ⟨l', b', q1, q2, Nat.le_trans q3 h1, q4⟩
          have P5 : ∀ (l1 : List UInt8) (b1 : Bool) (X : World), rR l1 b1 = t4 → l1.length ≤ l.length → Calls Try.prog 66 #[.agg #[.string ⟨l1.toArray⟩, .bool b1], .int .u64 2] X fun e w' => ∃ (l' : List UInt8) (b' : Bool) (v : Value) (xs : List Int), e = .returned (.tuple #[.agg #[.string ⟨l'.toArray⟩, .bool b'], v]) ∧ rR l' b' = t5 ∧ l'.length ≤ l.length ∧ w'.ownsRow X.heap.size 3 1 v xs.length (intsV xs) ∧ (t5 ≠ none → xs = p5) ∧ Below X.heap.size X w' := fun l1 b1 X hs h1 => by
            have h := rrow_r l1 b1 2 (by decide) (Nat.le_trans h1 hl) X
            rw [hs, ← hP5] at h
            refine h.mono ?_
            rintro e w' ⟨l', b', v, xs, q1, q2, q3, q4, q5, q6⟩
            exact ⟨l', b', v, xs, q1, q2, Nat.le_trans q3 h1, q4, q5, q6⟩
          have HN : Hid (∀ x y z : List Int, (t5 ≠ none → x = p1 ∧ y = p2 ∧ z = p5) → (t5 ≠ none → manyQ blockQ (n2 - (i + 1)) (acc ++ [⟨x, y, (p3 : Int), (p4 : Int) - 1, z⟩]) t5 = (gn, gs)) ∧ (t5 = none → gs = none)) := Lib.hid (by
            have h := HM.out.1 (by simp [rR])
            rw [show n2 - i = (n2 - (i + 1)) + 1 by omega] at h
            have h : manyQ blockQ (n2 - (i + 1)) (acc ++ [(blockQ (some l2)).1]) (blockQ (some l2)).2 = (gn, gs) := h
            rw [hI] at h
            intro x y z hx
            refine ⟨fun q => by obtain ⟨r1, r2, r3⟩ := hx q; rw [r1, r2, r3]; exact h, fun q => ?_⟩
            rw [q] at h
            rw [← show (gn, gs).2 = gs from rfl, ← h]
            exact manyQ_none _ _)
          have Hgd := Lib.hid hgd
          have w3' : IntKind.i64.wrap (p3 : Int) = (p3 : Int) := by rw [IntKind.wrap_i64]; omega
          have w4' : IntKind.i64.wrap (p4 : Int) = (p4 : Int) := by rw [IntKind.wrap_i64]; omega
          have w4s : IntKind.i64.wrap ((p4 : Int) - 1) = (p4 : Int) - 1 := by rw [IntKind.wrap_i64]; omega
          have w4t : wrap64 ((p4 : Int) - 1) = (p4 : Int) - 1 := IntWalk.wrap64_in _ (by omega)
          clear hI hgd b3' b4' hP1 hP2 hP3 hP4 hP5 HM
          go_upto_region 22 with (go_at_call 66; refine (P1 l2 false _ rfl HL.out.1).mono ?_; rintro e u0 ⟨m1, c1, va, ax, rfl, h1, h2, hoa, hxa, h3⟩; have HT0 := Lib.hid (HS.out.keep h3); have HQ1 := h1; have HR1 := Lib.hid h2; obtain ⟨A3, cp3, rfl⟩ := gr_slice hoa; have HOAU := Lib.hid (own_low hoa HS.out.hi); have HXA := Lib.hid hxa; clear hoa hxa; clear h1 h2 h3 x0 x1 f0 f1)
          generalize hY : World.alloc _ _ = Y1
          have HY1 : Hid (TS w Y1 l2 false tn (.slice A1 xs.length cp1) (.slice A7 acc7.length cp7) (.slice A2 acc.length cp2) ⟨xs, (dn : Int), acc7, acc⟩ ∧ RBx u0.heap.size m1 c1 Y1) := Lib.hid (by
            have hb : Below u0.heap.size u0 Y1 := by rw [← hY]; exact (Below.refl _ _).alloc (Nat.le_refl _) _
            exact ⟨HT0.out.keep hb, by rw [← hY]; exact heap_alloc_new u0 _⟩)
          obtain ⟨qb, hqb⟩ : ∃ qb, qb = u0.heap.size := ⟨_, rfl⟩
          have HQB : Hid (w.heap.size + 4 ≤ qb) := Lib.hid (by rw [hqb]; exact HT0.out.hi)
          have HOA := Lib.hid (show Y1.ownsRow (w.heap.size + 4) 3 1 _ _ _ from by rw [← hY]; exact gr_up HOAU.out ((Below.refl _ _).alloc (Nat.le_refl _) _))
          clear HOAU
          rw [← hqb] at HY1 ⊢
          clear hY hqb HT0
          obtain ⟨x0, x1, f0, f1⟩ := HY1.out.2.cells
          go_upto_region 23 with (go_at_call 66; refine (P2 m1 c1 _ HQ1 HR1.out).mono ?_; rintro e u1 ⟨m2, c2, vb, bx, rfl, h1, h2, hob, hxb, h3⟩; have HT := Lib.hid (HY1.out.1.keep h3); have HB := Lib.hid ((h3.block qb (gr_in HY1.out.2)).trans HY1.out.2); have HB' : RBx qb m1 c1 u1 := HB.out; obtain ⟨y0, y1, g0, g1⟩ := HB'.cells; have HQ2 := h1; have HR2 := Lib.hid h2; obtain ⟨A4, cp4, rfl⟩ := gr_slice hob; have HOBU := Lib.hid (own_low hob HY1.out.1.hi); have HXB := Lib.hid hxb; clear hob hxb; have HOAU := Lib.hid (gr_up HOA.out h3); clear HOA; clear HB' h1 h2 h3 x0 x1 f0 f1)
          clear y0 y1 g0 g1
          generalize hY : World.setCell _ _ _ = Y2
          have HY2 : Hid (TS w Y2 l2 false tn (.slice A1 xs.length cp1) (.slice A7 acc7.length cp7) (.slice A2 acc.length cp2) ⟨xs, (dn : Int), acc7, acc⟩ ∧ RBx qb m2 c2 Y2) := Lib.hid (by
            rw [← hY]
            exact ⟨HT.out.setQ (lq := m1) (bq := c1) HB.out HQB.out, RBx.set (l := m1) (b := c1) HB.out⟩)
          have HOB := Lib.hid (show Y2.ownsRow (w.heap.size + 4) 3 1 _ _ _ from by rw [← hY]; exact own_kp HOBU.out (RBx.set_kp (l := m1) (b := c1) HB.out) (by decide))
          clear HOBU
          have HOA := Lib.hid (show Y2.ownsRow (w.heap.size + 4) 3 1 _ _ _ from by rw [← hY]; exact own_kp HOAU.out (RBx.set_kp (l := m1) (b := c1) HB.out) (by decide))
          clear HOAU
          clear hY HT HB HY1 HQ1 HR1
          obtain ⟨x0, x1, f0, f1⟩ := HY2.out.2.cells
          go_upto_region 24 with (go_at_call 41; refine (P3 m2 c2 _ HQ2 HR2.out).mono ?_; rintro e u2 ⟨m3, c3, rfl, h1, h2, h3⟩; have HT := Lib.hid (HY2.out.1.keep h3); have HB := Lib.hid ((h3.block qb (gr_in HY2.out.2)).trans HY2.out.2); have HB' : RBx qb m2 c2 u2 := HB.out; obtain ⟨y0, y1, g0, g1⟩ := HB'.cells; have HQ3 := h1; have HR3 := Lib.hid h2; have HOAU := Lib.hid (gr_up HOA.out h3); clear HOA; have HOBU := Lib.hid (gr_up HOB.out h3); clear HOB; clear HB' h1 h2 h3 x0 x1 f0 f1)
          clear y0 y1 g0 g1
          generalize hY : World.setCell _ _ _ = Y3
          have HY3 : Hid (TS w Y3 l2 false tn (.slice A1 xs.length cp1) (.slice A7 acc7.length cp7) (.slice A2 acc.length cp2) ⟨xs, (dn : Int), acc7, acc⟩ ∧ RBx qb m3 c3 Y3) := Lib.hid (by
            rw [← hY]
            exact ⟨HT.out.setQ (lq := m2) (bq := c2) HB.out HQB.out, RBx.set (l := m2) (b := c2) HB.out⟩)
          have HOA := Lib.hid (show Y3.ownsRow (w.heap.size + 4) 3 1 _ _ _ from by rw [← hY]; exact own_kp HOAU.out (RBx.set_kp (l := m2) (b := c2) HB.out) (by decide))
          clear HOAU
          have HOB := Lib.hid (show Y3.ownsRow (w.heap.size + 4) 3 1 _ _ _ from by rw [← hY]; exact own_kp HOBU.out (RBx.set_kp (l := m2) (b := c2) HB.out) (by decide))
          clear HOBU
          clear hY HT HB HY2 HQ2 HR2
          obtain ⟨x0, x1, f0, f1⟩ := HY3.out.2.cells
          go_upto_region 25 with (go_at_call 41; refine (P4 m3 c3 _ HQ3 HR3.out).mono ?_; rintro e u3 ⟨m4, c4, rfl, h1, h2, h3⟩; have HT := Lib.hid (HY3.out.1.keep h3); have HB := Lib.hid ((h3.block qb (gr_in HY3.out.2)).trans HY3.out.2); have HB' : RBx qb m3 c3 u3 := HB.out; obtain ⟨y0, y1, g0, g1⟩ := HB'.cells; have HQ4 := h1; have HR4 := Lib.hid h2; have HOAU := Lib.hid (gr_up HOA.out h3); clear HOA; have HOBU := Lib.hid (gr_up HOB.out h3); clear HOB; clear HB' h1 h2 h3 x0 x1 f0 f1)
          clear y0 y1 g0 g1
          generalize hY : World.setCell _ _ _ = Y4
          have HY4 : Hid (TS w Y4 l2 false tn (.slice A1 xs.length cp1) (.slice A7 acc7.length cp7) (.slice A2 acc.length cp2) ⟨xs, (dn : Int), acc7, acc⟩ ∧ RBx qb m4 c4 Y4) := Lib.hid (by
            rw [← hY]
            exact ⟨HT.out.setQ (lq := m3) (bq := c3) HB.out HQB.out, RBx.set (l := m3) (b := c3) HB.out⟩)
          have HOA := Lib.hid (show Y4.ownsRow (w.heap.size + 4) 3 1 _ _ _ from by rw [← hY]; exact own_kp HOAU.out (RBx.set_kp (l := m3) (b := c3) HB.out) (by decide))
          clear HOAU
          have HOB := Lib.hid (show Y4.ownsRow (w.heap.size + 4) 3 1 _ _ _ from by rw [← hY]; exact own_kp HOBU.out (RBx.set_kp (l := m3) (b := c3) HB.out) (by decide))
          clear HOBU
          clear hY HT HB HY3 HQ3 HR3
          obtain ⟨x0, x1, f0, f1⟩ := HY4.out.2.cells
          go_upto_region 26 with (go_at_call 66; refine (P5 m4 c4 _ HQ4 HR4.out).mono ?_; rintro e u4 ⟨m5, c5, vc, cx, rfl, h1, h2, hoc, hxc, h3⟩; have HT := Lib.hid (HY4.out.1.keep h3); have HB := Lib.hid ((h3.block qb (gr_in HY4.out.2)).trans HY4.out.2); have HB' : RBx qb m4 c4 u4 := HB.out; obtain ⟨y0, y1, g0, g1⟩ := HB'.cells; have HQ5 := h1; have HR5 := Lib.hid h2; obtain ⟨A5, cp5, rfl⟩ := gr_slice hoc; have HOCU := Lib.hid (own_low hoc HY4.out.1.hi); have HXC := Lib.hid hxc; clear hoc hxc; have HOAU := Lib.hid (gr_up HOA.out h3); clear HOA; have HOBU := Lib.hid (gr_up HOB.out h3); clear HOB; clear HB' h1 h2 h3 x0 x1 f0 f1)
          clear y0 y1 g0 g1
          generalize hY : World.setCell _ _ _ = Y5
          have HY5 : Hid (TS w Y5 l2 false tn (.slice A1 xs.length cp1) (.slice A7 acc7.length cp7) (.slice A2 acc.length cp2) ⟨xs, (dn : Int), acc7, acc⟩ ∧ RBx qb m5 c5 Y5) := Lib.hid (by
            rw [← hY]
            exact ⟨HT.out.setQ (lq := m4) (bq := c4) HB.out HQB.out, RBx.set (l := m4) (b := c4) HB.out⟩)
          have HOC := Lib.hid (show Y5.ownsRow (w.heap.size + 4) 3 1 _ _ _ from by rw [← hY]; exact own_kp HOCU.out (RBx.set_kp (l := m4) (b := c4) HB.out) (by decide))
          clear HOCU
          have HOA := Lib.hid (show Y5.ownsRow (w.heap.size + 4) 3 1 _ _ _ from by rw [← hY]; exact own_kp HOAU.out (RBx.set_kp (l := m4) (b := c4) HB.out) (by decide))
          clear HOAU
          have HOB := Lib.hid (show Y5.ownsRow (w.heap.size + 4) 3 1 _ _ _ from by rw [← hY]; exact own_kp HOBU.out (RBx.set_kp (l := m4) (b := c4) HB.out) (by decide))
          clear HOBU
          clear hY HT HB HY4 HQ4 HR4
          obtain ⟨a2, ha2, ho2, hin2⟩ := HY5.out.1.o3
          have ha2 : acc = a2.map Prod.fst := ha2
          have hal : acc.length = a2.length := by rw [ha2]; simp
          have hla := HL.out.2
          obtain ⟨X, hX⟩ : ∃ X, X = (Y5.alloc (.cells #[.slice A3 ax.length cp3, .slice A4 bx.length cp4, .int .i64 (p3 : Int), .int .i64 ((p4 : Int) - 1), .slice A5 cx.length cp5] 71)).drew := ⟨_, rfl⟩
          have hbX : Below Y5.heap.size Y5 X := by rw [hX]; exact below_dr ((Below.refl Y5.heap.size Y5).alloc (Nat.le_refl _) (.cells #[.slice A3 ax.length cp3, .slice A4 bx.length cp4, .int .i64 (p3 : Int), .int .i64 ((p4 : Int) - 1), .slice A5 cx.length cp5] 71)) 1
          have hnX : ∀ j y, ([.slice A3 ax.length cp3, .slice A4 bx.length cp4, .int .i64 (p3 : Int), .int .i64 ((p4 : Int) - 1), .slice A5 cx.length cp5] : List Value)[j]? = some y → X.cell? ((⟨Y5.heap.size, 0, none⟩ : Addr).add j) = some y := by rw [hX]; exact World.news_of_block (w := (Y5.alloc (.cells #[.slice A3 ax.length cp3, .slice A4 bx.length cp4, .int .i64 (p3 : Int), .int .i64 ((p4 : Int) - 1), .slice A5 cx.length cp5] 71)).drew) (heap_alloc_new Y5 _)
          have hqX : RBx qb m5 c5 X := (hbX.block _ (gr_in HY5.out.2)).trans HY5.out.2
          have HTX := Lib.hid (HY5.out.1.keep hbX)
          have HoX := Lib.hid (gr_up ho2 hbX)
          have HinX := Lib.hid (show ∀ p ∈ a2, X.ownsRow (w.heap.size + 4) 3 1 p.2.l p.1.list.length (intsV p.1.list) ∧ X.ownsRow (w.heap.size + 4) 3 1 p.2.p p.1.preds.length (intsV p.1.preds) ∧ X.ownsRow (w.heap.size + 4) 3 1 p.2.t p.1.to_.length (intsV p.1.to_) from fun p hp => ⟨gr_up (hin2 p hp).1 hbX, gr_up (hin2 p hp).2.1 hbX, gr_up (hin2 p hp).2.2 hbX⟩)
          have HnX := Lib.hid hnX
          have HqX := Lib.hid hqX
          have HX := Lib.hid hX
          have Ha2 := Lib.hid ha2
          have Hal := Lib.hid hal
          have Hone : Hid (∀ y ∈ ([.slice A3 ax.length cp3, .slice A4 bx.length cp4, .int .i64 (p3 : Int), .int .i64 ((p4 : Int) - 1), .slice A5 cx.length cp5] : List Value), y.oneCell' = true) := Lib.hid (by intro y hy; simp at hy; rcases hy with rfl | rfl | rfl | rfl | rfl <;> rfl)
          have HbS : Hid (w.heap.size + 4 ≤ X.heap.size ∧ a2.length ≤ 131072) := Lib.hid ⟨HTX.out.hi, by omega⟩
          have s0 : Y5.drew.cell? ⟨qb, 0, none⟩ = some (.string ⟨m5.toArray⟩) ∧ Y5.drew.cell? ⟨qb, 1, none⟩ = some (.bool c5) := ⟨HY5.out.2.cells.1, HY5.out.2.cells.2.1⟩
          have s1 : X.cell? ⟨qb, 0, none⟩ = some (.string ⟨m5.toArray⟩) ∧ X.cell? ⟨qb, 1, none⟩ = some (.bool c5) := ⟨hqX.cells.1, hqX.cells.2.1⟩
          have n0 : Y5.cell? ⟨qb, 0, none⟩ = some (.string ⟨m5.toArray⟩) := HY5.out.2.cells.1
          have n1' : Y5.cell? ⟨qb, 1, none⟩ = some (.bool c5) := HY5.out.2.cells.2.1
          obtain ⟨fc0, fc1, fc2, fc3, fc4, ff⟩ := HY5.out.1.fc
          obtain ⟨xc0, xc1, xc2, xc3, xc4, xf⟩ := HTX.out.fc
          have xcX : X.cell? ⟨w.heap.size + 3, 4, none⟩ = some (.slice A2 acc.length cp2) := xc4
          rw [hX] at s1 xcX
          have HOX := Lib.hid (And.intro (gr_up HOA.out hbX) (And.intro (gr_up HOB.out hbX) (gr_up HOC.out hbX)))
          clear HOA HOB HOC
          clear hX hbX hnX hqX ha2 ho2 hin2 hal hla ff xf xc0 xc1 xc2 xc3 xc4 fc0 fc1 fc2 fc3
          refine wp_region_held_drew (S := fun w' => w'.cell? ⟨qb, 0, none⟩ = some (.string ⟨m5.toArray⟩) ∧ w'.cell? ⟨qb, 1, none⟩ = some (.bool c5)) (by kernel_rfl) s0 (fun hHeld => ?_)
          refine wpAnyH_take (i := 0) (v := ?_) rfl (by kernel_rfl) (by kernel_rfl) (by kernel_rfl) (fun _ _ _ h => h) (Or.inl ⟨by rfl, ?_⟩) (by assumption) ?_
          rotate_left
          · (intro w hSw; (try dsimp only at hSw); first | (go_simp; done) | (go_simp; with_reducible rfl))
          try simp only [Act.put, List.setIfInBounds_toArray, List.set_cons_zero, List.set_cons_succ]
          refine wpAnyH_take (i := 1) (v := ?_) rfl (by kernel_rfl) (by kernel_rfl) (by kernel_rfl) (fun _ _ _ h => h) (Or.inl ⟨by rfl, ?_⟩) (by assumption) ?_
          rotate_left
          · (intro w hSw; (try dsimp only at hSw); first | (go_simp; done) | (go_simp; with_reducible rfl))
          try simp only [Act.put, List.setIfInBounds_toArray, List.set_cons_zero, List.set_cons_succ]
          refine wpAnyH_take (i := 3) (v := ?_) rfl (by kernel_rfl) (by kernel_rfl) (by kernel_rfl) (fun _ _ _ h => h) (Or.inl ⟨by rfl, ?_⟩) (by assumption) ?_
          rotate_left
          · (intro w hSw; (try dsimp only at hSw); first | (go_simp; done) | (go_simp; with_reducible rfl))
          try simp only [Act.put, List.setIfInBounds_toArray, List.set_cons_zero, List.set_cons_succ]
          refine wpAnyH_take (i := 4) (v := ?_) rfl (by kernel_rfl) (by kernel_rfl) (by kernel_rfl) (fun _ _ _ h => h) (Or.inl ⟨by rfl, ?_⟩) (by assumption) ?_
          rotate_left
          · (intro w hSw; (try dsimp only at hSw); first | (go_simp; done) | (go_simp; with_reducible rfl))
          try simp only [Act.put, List.setIfInBounds_toArray, List.set_cons_zero, List.set_cons_succ]
          refine wpAnyH_take (i := 5) (v := ?_) rfl (by kernel_rfl) (by kernel_rfl) (by kernel_rfl) (fun _ _ _ h => h) (Or.inl ⟨by rfl, ?_⟩) (by assumption) ?_
          rotate_left
          · (intro w hSw; (try dsimp only at hSw); first | (go_simp; done) | (go_simp; with_reducible rfl))
          try simp only [Act.put, List.setIfInBounds_toArray, List.set_cons_zero, List.set_cons_succ]
          refine wpAnyH_take (i := 6) (v := ?_) rfl (by kernel_rfl) (by kernel_rfl) (by kernel_rfl) (fun _ _ _ h => h) (Or.inl ⟨by rfl, ?_⟩) (by assumption) ?_
          rotate_left
          · (intro w hSw; (try dsimp only at hSw); first | (go_simp; done) | (go_simp; with_reducible rfl))
          try simp only [Act.put, List.setIfInBounds_toArray, List.set_cons_zero, List.set_cons_succ]
          refine wpAnyH_take (i := 7) (v := ?_) rfl (by kernel_rfl) (by kernel_rfl) (by kernel_rfl) (fun _ _ _ h => h) (Or.inl ⟨by rfl, ?_⟩) (by assumption) ?_
          rotate_left
          · (intro w hSw; (try dsimp only at hSw); first | (go_simp; done) | (go_simp; with_reducible rfl))
          try simp only [Act.put, List.setIfInBounds_toArray, List.set_cons_zero, List.set_cons_succ]
          refine wpAnyH_take (i := 8) (v := ?_) rfl (by kernel_rfl) (by kernel_rfl) (by kernel_rfl) (fun _ _ _ h => h) (Or.inl ⟨by rfl, ?_⟩) (by assumption) ?_
          rotate_left
          · (intro w hSw; (try dsimp only at hSw); first | (go_simp; done) | (go_simp; with_reducible rfl))
          try simp only [Act.put, List.setIfInBounds_toArray, List.set_cons_zero, List.set_cons_succ]
          refine wpAnyH_take (i := 9) (v := ?_) rfl (by kernel_rfl) (by kernel_rfl) (by kernel_rfl) (fun _ _ _ h => h) (Or.inl ⟨by rfl, ?_⟩) (by assumption) ?_
          rotate_left
          · (intro w hSw; (try dsimp only at hSw); first | (go_simp; done) | (go_simp; with_reducible rfl))
          try simp only [Act.put, List.setIfInBounds_toArray, List.set_cons_zero, List.set_cons_succ]
          refine wpAnyH_take (i := 10) (v := ?_) rfl (by kernel_rfl) (by kernel_rfl) (by kernel_rfl) (fun _ _ _ h => h) (Or.inl ⟨by rfl, ?_⟩) (by assumption) ?_
          rotate_left
          · (intro w hSw; (try dsimp only at hSw); first | (go_simp; done) | (go_simp; with_reducible rfl))
          try simp only [Act.put, List.setIfInBounds_toArray, List.set_cons_zero, List.set_cons_succ]
          refine wpAnyH_take (i := 11) (v := ?_) rfl (by kernel_rfl) (by kernel_rfl) (by kernel_rfl) (fun _ _ _ h => h) (Or.inl ⟨by rfl, ?_⟩) (by assumption) ?_
          rotate_left
          · (intro w hSw; (try dsimp only at hSw); first | (go_simp; done) | (go_simp; with_reducible rfl))
          try simp only [Act.put, List.setIfInBounds_toArray, List.set_cons_zero, List.set_cons_succ]
          refine wpAnyH_take (i := 12) (v := ?_) rfl (by kernel_rfl) (by kernel_rfl) (by kernel_rfl) (fun _ _ _ h => h) (Or.inl ⟨by rfl, ?_⟩) (by assumption) ?_
          rotate_left
          · (intro w hSw; (try dsimp only at hSw); first | (go_simp; done) | (go_simp; with_reducible rfl))
          try simp only [Act.put, List.setIfInBounds_toArray, List.set_cons_zero, List.set_cons_succ]
          refine wpAnyH_ready (rs := [2, 13]) (by kernel_rfl) (by simp) ?_
          refine AllReadyH.cons rfl (fun K hK => ?_) (AllReadyH.cons rfl (fun K hK => ?_) (AllReadyH.nil))
          · go_simp
            refine hK.out _ _ ?_ (fun hHeld => ?_)
            · ((try dsimp only); first | with_reducible exact s0 | with_reducible exact s1 | with_reducible exact s2 | with_reducible exact s3 | with_reducible exact s4)
            clear hK K
            try simp only [Act.put, List.setIfInBounds_toArray, List.set_cons_zero, List.set_cons_succ]
            refine wpAnyH_ready (rs := [13]) (by kernel_rfl) (by simp) ?_
            refine AllReadyH.cons rfl (fun K hK => ?_) (AllReadyH.nil)
            go_simp
            refine hK.out _ _ ?_ (fun hHeld => ?_)
            · ((try dsimp only); first | with_reducible exact s0 | with_reducible exact s1 | with_reducible exact s2 | with_reducible exact s3 | with_reducible exact s4)
            clear hK K
            try simp only [Act.put, List.setIfInBounds_toArray, List.set_cons_zero, List.set_cons_succ]
            refine wpAnyH_ready (rs := [14]) (by kernel_rfl) (by simp) ?_
            refine AllReadyH.cons rfl (fun K hK => ?_) (AllReadyH.nil)
            rw [← HX.out]
            refine step_append_lies _ rfl (.tmp 147) (.tmp 158) 61 rfl (w.heap.size + 4) 71 k0 (.agg #[.slice none 0 0, .slice none 0 0, .int .i64 0, .int .i64 0, .slice none 0 0]) 5 88 Try.underlying61 Ki.out Kz0.out Kz1.out Kz2.out rfl (by decide) (.slice A2 acc.length cp2) a2.length (blkRow a2) (by simp [Act.eval, Act.put]) HoX.out ⟨Y5.heap.size, 0, none⟩ 1 1 [.slice A3 ax.length cp3, .slice A4 bx.length cp4, .int .i64 (p3 : Int), .int .i64 ((p4 : Int) - 1), .slice A5 cx.length cp5] (by simp [Act.eval, Act.put]) rfl HnX.out Hone.out (by decide) (by unfold maxLen; have := HbS.out.2; omega) (by have := HbS.out.2; omega) HbS.out.1 _ rfl ?_
            intro g cap w7 hown hgrow hat hlt7
            have kp : Kp (w.heap.size + 4) 71 X w7 := Kp.of_grown HoX.out hgrow
            obtain ⟨hlow, hbel, hhi⟩ := HTX.out.grown HoX.out hgrow
            have T7 := (show TS w (((w7.setCell ⟨w.heap.size, 0, none⟩ (.string ⟨m5.toArray⟩)).setCell ⟨w.heap.size, 1, none⟩ (.bool c5)).setCell ⟨w.heap.size + 3, 4, none⟩ (.slice (some ⟨g, 0, none⟩) (a2.length + 1) cap)) m5 c5 tn (.slice A1 xs.length cp1) (.slice A7 acc7.length cp7) (.slice (some ⟨g, 0, none⟩) (a2.length + 1) cap) ⟨xs, (dn : Int), acc7, acc ++ [⟨ax, bx, (p3 : Int), (p4 : Int) - 1, cx⟩]⟩ from by
              have hr : RBx w.heap.size l2 false w7 := (hlow _ (by omega)).trans HTX.out.r
              have ho5 : BlkO (w.heap.size + 4) w7 (.slice (some ⟨g, 0, none⟩) (a2.length + 1) cap) (acc ++ [⟨ax, bx, (p3 : Int), (p4 : Int) - 1, cx⟩]) := by
                rw [Ha2.out]
                exact BlkO.snoc (d := ⟨ax, bx, (p3 : Int), (p4 : Int) - 1, cx⟩) hown HinX.out HOX.out (Nat.le_refl _) kp
              have k2 := RBx.set_kp (base := w.heap.size + 4) (l' := m5) (b' := c5) hr
              have fz : ((w7.setCell ⟨w.heap.size, 0, none⟩ (.string ⟨m5.toArray⟩)).setCell ⟨w.heap.size, 1, none⟩ (.bool c5)).heap[w.heap.size + 3]? = _ := (Below.heap_setCell _ _ _ _ (by simp)).trans ((Below.heap_setCell _ _ _ _ (by simp)).trans ((hlow _ (by omega)).trans HTX.out.f))
              have k3 : Kp (w.heap.size + 4) 63 _ (((w7.setCell ⟨w.heap.size, 0, none⟩ (.string ⟨m5.toArray⟩)).setCell ⟨w.heap.size, 1, none⟩ (.bool c5)).setCell ⟨w.heap.size + 3, 4, none⟩ (.slice (some ⟨g, 0, none⟩) (a2.length + 1) cap)) := Kp.of_set _ fz
              have off : ∀ q, q < w.heap.size + 4 → q ≠ w.heap.size → q ≠ w.heap.size + 3 → (((w7.setCell ⟨w.heap.size, 0, none⟩ (.string ⟨m5.toArray⟩)).setCell ⟨w.heap.size, 1, none⟩ (.bool c5)).setCell ⟨w.heap.size + 3, 4, none⟩ (.slice (some ⟨g, 0, none⟩) (a2.length + 1) cap)).heap[q]? = X.heap[q]? := fun q h1 h2 h3 => (Below.heap_setCell _ _ _ _ h3).trans ((Below.heap_setCell _ _ _ _ h2).trans ((Below.heap_setCell _ _ _ _ h2).trans (hlow _ h1)))
              exact ⟨(Below.heap_setCell _ _ _ _ (by simp)).trans hr.set, (off _ (by omega) (by omega) (by omega)).trans HTX.out.q, (off _ (by omega) (by omega) (by omega)).trans HTX.out.z, gr_put fz 4 _,
                own_kp (own_kp (own_kp HTX.out.o1 kp (by decide)) k2 (by decide)) k3 (by decide), ((HTX.out.o2.kp kp (by decide) (by decide)).kp k2 (by decide) (by decide)).kp k3 (by decide) (by decide), (ho5.kp k2 (by decide) (by decide)).kp k3 (by decide) (by decide),
                (RBx.set_below hbel (Nat.le_refl _)).setCell (p := ⟨w.heap.size + 3, 4, none⟩) (by show w.heap.size ≤ w.heap.size + 3; omega) _, by simp [World.setCell]; exact hhi⟩)
            have q7 : RBx qb m5 c5 w7 := kp _ _ _ _ HQB.out HqX.out (by decide)
            have s2 : w7.cell? ⟨qb, 0, none⟩ = some (.string ⟨m5.toArray⟩) ∧ w7.cell? ⟨qb, 1, none⟩ = some (.bool c5) := ⟨q7.cells.1, q7.cells.2.1⟩
            have hrc : RBx w.heap.size l2 false w7 := (hlow _ (by omega)).trans HTX.out.r
            obtain ⟨x0, x1, f0, f1⟩ := hrc.cells
            have hfc : w7.heap[w.heap.size + 3]? = _ := (hlow _ (by omega)).trans HTX.out.f
            have z3 := Lib.cell_of_heap hfc 4
            have zf3 := Lib.frozen_of_heap hfc 4
            have hne : qb ≠ w.heap.size := by have := HQB.out; omega
            have hne3 : qb ≠ w.heap.size + 3 := by have := HQB.out; omega
            have q8 : RBx qb m5 c5 ((w7.setCell ⟨w.heap.size, 0, none⟩ (.string ⟨m5.toArray⟩)).setCell ⟨w.heap.size, 1, none⟩ (.bool c5)) := q7.off hne
            have s3 := And.intro q8.cells.1 q8.cells.2.1
            have q9 : RBx qb m5 c5 (((w7.setCell ⟨w.heap.size, 0, none⟩ (.string ⟨m5.toArray⟩)).setCell ⟨w.heap.size, 1, none⟩ (.bool c5)).setCell ⟨w.heap.size + 3, 4, none⟩ (.slice (some ⟨g, 0, none⟩) (a2.length + 1) cap)) := (Below.heap_setCell _ _ _ _ hne3).trans q8
            have s4 := And.intro q9.cells.1 q9.cells.2.1
            have H8 := Lib.hid T7
            clear hown hgrow hat hlt7 kp hlow hbel hhi T7 q7 hrc hfc hne hne3 q8 q9
            refine hK.out _ _ ?_ (fun hHeld => ?_)
            · ((try dsimp only); first | with_reducible exact s0 | with_reducible exact s1 | with_reducible exact s2 | with_reducible exact s3 | with_reducible exact s4)
            clear hK K
            try simp only [Act.put, List.setIfInBounds_toArray, List.set_cons_zero, List.set_cons_succ]
            refine wpAnyH_ready (rs := [15]) (by kernel_rfl) (by simp) ?_
            refine AllReadyH.cons rfl (fun K hK => ?_) (AllReadyH.nil)
            go_simp
            refine hK.out _ _ ?_ (fun hHeld => ?_)
            · ((try dsimp only); first | with_reducible exact s0 | with_reducible exact s1 | with_reducible exact s2 | with_reducible exact s3 | with_reducible exact s4)
            clear hK K
            try simp only [Act.put, List.setIfInBounds_toArray, List.set_cons_zero, List.set_cons_succ]
            refine wpAnyH_take (i := 16) (v := ?_) rfl (by kernel_rfl) (by kernel_rfl) (by kernel_rfl) (fun _ _ _ h => h) (Or.inl ⟨by rfl, ?_⟩) (by assumption) ?_
            rotate_left
            · (intro w hSw; (try dsimp only at hSw); first | (go_simp; done) | (go_simp; with_reducible rfl))
            try simp only [Act.put, List.setIfInBounds_toArray, List.set_cons_zero, List.set_cons_succ]
            refine wpAnyH_ready (rs := [17]) (by kernel_rfl) (by simp) ?_
            refine AllReadyH.cons rfl (fun K hK => ?_) (AllReadyH.nil)
            go_simp
            refine hK.out _ _ ?_ (fun hHeld => ?_)
            · ((try dsimp only); first | with_reducible exact s0 | with_reducible exact s1 | with_reducible exact s2 | with_reducible exact s3 | with_reducible exact s4)
            clear hK K
            try simp only [Act.put, List.setIfInBounds_toArray, List.set_cons_zero, List.set_cons_succ]
            refine wpAnyH_done (by kernel_rfl) ?_ _
            clear x0 x1 f0 f1 s0 s1 s2 s3 s4 z3 zf3 n0 n1' fc4 xcX
            generalize hY8 : World.setCell _ _ _ = Y8
            rw [hY8] at H8
            clear hY8
            go_wp2
            go_roundw
            case rel => exact ⟨i + 1, _, m5, c5, _, by omega, by go_num, H8, Lib.hid ⟨HR5.out, by have := HL.out.2; simp; omega⟩, Lib.hid (by rw [HQ5]; exact HN.out ax bx cx (fun q => ⟨HXA.out (Hgd.out q).1, HXB.out (Hgd.out q).2, HXC.out q⟩))⟩
            case measure => simp [intOf]; omega
          · go_simp
            refine hK.out _ _ ?_ (fun hHeld => ?_)
            · ((try dsimp only); first | with_reducible exact s0 | with_reducible exact s1 | with_reducible exact s2 | with_reducible exact s3 | with_reducible exact s4)
            clear hK K
            try simp only [Act.put, List.setIfInBounds_toArray, List.set_cons_zero, List.set_cons_succ]
            refine wpAnyH_ready (rs := [2]) (by kernel_rfl) (by simp) ?_
            refine AllReadyH.cons rfl (fun K hK => ?_) (AllReadyH.nil)
            go_simp
            refine hK.out _ _ ?_ (fun hHeld => ?_)
            · ((try dsimp only); first | with_reducible exact s0 | with_reducible exact s1 | with_reducible exact s2 | with_reducible exact s3 | with_reducible exact s4)
            clear hK K
            try simp only [Act.put, List.setIfInBounds_toArray, List.set_cons_zero, List.set_cons_succ]
            refine wpAnyH_ready (rs := [14]) (by kernel_rfl) (by simp) ?_
            refine AllReadyH.cons rfl (fun K hK => ?_) (AllReadyH.nil)
            rw [← HX.out]
            refine step_append_lies _ rfl (.tmp 147) (.tmp 158) 61 rfl (w.heap.size + 4) 71 k0 (.agg #[.slice none 0 0, .slice none 0 0, .int .i64 0, .int .i64 0, .slice none 0 0]) 5 88 Try.underlying61 Ki.out Kz0.out Kz1.out Kz2.out rfl (by decide) (.slice A2 acc.length cp2) a2.length (blkRow a2) (by simp [Act.eval, Act.put]) HoX.out ⟨Y5.heap.size, 0, none⟩ 1 1 [.slice A3 ax.length cp3, .slice A4 bx.length cp4, .int .i64 (p3 : Int), .int .i64 ((p4 : Int) - 1), .slice A5 cx.length cp5] (by simp [Act.eval, Act.put]) rfl HnX.out Hone.out (by decide) (by unfold maxLen; have := HbS.out.2; omega) (by have := HbS.out.2; omega) HbS.out.1 _ rfl ?_
            intro g cap w7 hown hgrow hat hlt7
            have kp : Kp (w.heap.size + 4) 71 X w7 := Kp.of_grown HoX.out hgrow
            obtain ⟨hlow, hbel, hhi⟩ := HTX.out.grown HoX.out hgrow
            have T7 := (show TS w (((w7.setCell ⟨w.heap.size, 0, none⟩ (.string ⟨m5.toArray⟩)).setCell ⟨w.heap.size, 1, none⟩ (.bool c5)).setCell ⟨w.heap.size + 3, 4, none⟩ (.slice (some ⟨g, 0, none⟩) (a2.length + 1) cap)) m5 c5 tn (.slice A1 xs.length cp1) (.slice A7 acc7.length cp7) (.slice (some ⟨g, 0, none⟩) (a2.length + 1) cap) ⟨xs, (dn : Int), acc7, acc ++ [⟨ax, bx, (p3 : Int), (p4 : Int) - 1, cx⟩]⟩ from by
              have hr : RBx w.heap.size l2 false w7 := (hlow _ (by omega)).trans HTX.out.r
              have ho5 : BlkO (w.heap.size + 4) w7 (.slice (some ⟨g, 0, none⟩) (a2.length + 1) cap) (acc ++ [⟨ax, bx, (p3 : Int), (p4 : Int) - 1, cx⟩]) := by
                rw [Ha2.out]
                exact BlkO.snoc (d := ⟨ax, bx, (p3 : Int), (p4 : Int) - 1, cx⟩) hown HinX.out HOX.out (Nat.le_refl _) kp
              have k2 := RBx.set_kp (base := w.heap.size + 4) (l' := m5) (b' := c5) hr
              have fz : ((w7.setCell ⟨w.heap.size, 0, none⟩ (.string ⟨m5.toArray⟩)).setCell ⟨w.heap.size, 1, none⟩ (.bool c5)).heap[w.heap.size + 3]? = _ := (Below.heap_setCell _ _ _ _ (by simp)).trans ((Below.heap_setCell _ _ _ _ (by simp)).trans ((hlow _ (by omega)).trans HTX.out.f))
              have k3 : Kp (w.heap.size + 4) 63 _ (((w7.setCell ⟨w.heap.size, 0, none⟩ (.string ⟨m5.toArray⟩)).setCell ⟨w.heap.size, 1, none⟩ (.bool c5)).setCell ⟨w.heap.size + 3, 4, none⟩ (.slice (some ⟨g, 0, none⟩) (a2.length + 1) cap)) := Kp.of_set _ fz
              have off : ∀ q, q < w.heap.size + 4 → q ≠ w.heap.size → q ≠ w.heap.size + 3 → (((w7.setCell ⟨w.heap.size, 0, none⟩ (.string ⟨m5.toArray⟩)).setCell ⟨w.heap.size, 1, none⟩ (.bool c5)).setCell ⟨w.heap.size + 3, 4, none⟩ (.slice (some ⟨g, 0, none⟩) (a2.length + 1) cap)).heap[q]? = X.heap[q]? := fun q h1 h2 h3 => (Below.heap_setCell _ _ _ _ h3).trans ((Below.heap_setCell _ _ _ _ h2).trans ((Below.heap_setCell _ _ _ _ h2).trans (hlow _ h1)))
              exact ⟨(Below.heap_setCell _ _ _ _ (by simp)).trans hr.set, (off _ (by omega) (by omega) (by omega)).trans HTX.out.q, (off _ (by omega) (by omega) (by omega)).trans HTX.out.z, gr_put fz 4 _,
                own_kp (own_kp (own_kp HTX.out.o1 kp (by decide)) k2 (by decide)) k3 (by decide), ((HTX.out.o2.kp kp (by decide) (by decide)).kp k2 (by decide) (by decide)).kp k3 (by decide) (by decide), (ho5.kp k2 (by decide) (by decide)).kp k3 (by decide) (by decide),
                (RBx.set_below hbel (Nat.le_refl _)).setCell (p := ⟨w.heap.size + 3, 4, none⟩) (by show w.heap.size ≤ w.heap.size + 3; omega) _, by simp [World.setCell]; exact hhi⟩)
            have q7 : RBx qb m5 c5 w7 := kp _ _ _ _ HQB.out HqX.out (by decide)
            have s2 : w7.cell? ⟨qb, 0, none⟩ = some (.string ⟨m5.toArray⟩) ∧ w7.cell? ⟨qb, 1, none⟩ = some (.bool c5) := ⟨q7.cells.1, q7.cells.2.1⟩
            have hrc : RBx w.heap.size l2 false w7 := (hlow _ (by omega)).trans HTX.out.r
            obtain ⟨x0, x1, f0, f1⟩ := hrc.cells
            have hfc : w7.heap[w.heap.size + 3]? = _ := (hlow _ (by omega)).trans HTX.out.f
            have z3 := Lib.cell_of_heap hfc 4
            have zf3 := Lib.frozen_of_heap hfc 4
            have hne : qb ≠ w.heap.size := by have := HQB.out; omega
            have hne3 : qb ≠ w.heap.size + 3 := by have := HQB.out; omega
            have q8 : RBx qb m5 c5 ((w7.setCell ⟨w.heap.size, 0, none⟩ (.string ⟨m5.toArray⟩)).setCell ⟨w.heap.size, 1, none⟩ (.bool c5)) := q7.off hne
            have s3 := And.intro q8.cells.1 q8.cells.2.1
            have q9 : RBx qb m5 c5 (((w7.setCell ⟨w.heap.size, 0, none⟩ (.string ⟨m5.toArray⟩)).setCell ⟨w.heap.size, 1, none⟩ (.bool c5)).setCell ⟨w.heap.size + 3, 4, none⟩ (.slice (some ⟨g, 0, none⟩) (a2.length + 1) cap)) := (Below.heap_setCell _ _ _ _ hne3).trans q8
            have s4 := And.intro q9.cells.1 q9.cells.2.1
            have H8 := Lib.hid T7
            clear hown hgrow hat hlt7 kp hlow hbel hhi T7 q7 hrc hfc hne hne3 q8 q9
            refine hK.out _ _ ?_ (fun hHeld => ?_)
            · ((try dsimp only); first | with_reducible exact s0 | with_reducible exact s1 | with_reducible exact s2 | with_reducible exact s3 | with_reducible exact s4)
            clear hK K
            try simp only [Act.put, List.setIfInBounds_toArray, List.set_cons_zero, List.set_cons_succ]
            refine wpAnyH_ready (rs := [15]) (by kernel_rfl) (by simp) ?_
            refine AllReadyH.cons rfl (fun K hK => ?_) (AllReadyH.nil)
            go_simp
            refine hK.out _ _ ?_ (fun hHeld => ?_)
            · ((try dsimp only); first | with_reducible exact s0 | with_reducible exact s1 | with_reducible exact s2 | with_reducible exact s3 | with_reducible exact s4)
            clear hK K
            try simp only [Act.put, List.setIfInBounds_toArray, List.set_cons_zero, List.set_cons_succ]
            refine wpAnyH_take (i := 16) (v := ?_) rfl (by kernel_rfl) (by kernel_rfl) (by kernel_rfl) (fun _ _ _ h => h) (Or.inl ⟨by rfl, ?_⟩) (by assumption) ?_
            rotate_left
            · (intro w hSw; (try dsimp only at hSw); first | (go_simp; done) | (go_simp; with_reducible rfl))
            try simp only [Act.put, List.setIfInBounds_toArray, List.set_cons_zero, List.set_cons_succ]
            refine wpAnyH_ready (rs := [17]) (by kernel_rfl) (by simp) ?_
            refine AllReadyH.cons rfl (fun K hK => ?_) (AllReadyH.nil)
            go_simp
            refine hK.out _ _ ?_ (fun hHeld => ?_)
            · ((try dsimp only); first | with_reducible exact s0 | with_reducible exact s1 | with_reducible exact s2 | with_reducible exact s3 | with_reducible exact s4)
            clear hK K
            try simp only [Act.put, List.setIfInBounds_toArray, List.set_cons_zero, List.set_cons_succ]
            refine wpAnyH_done (by kernel_rfl) ?_ _
            clear x0 x1 f0 f1 s0 s1 s2 s3 s4 z3 zf3 n0 n1' fc4 xcX
            generalize hY8 : World.setCell _ _ _ = Y8
            rw [hY8] at H8
            clear hY8
            go_wp2
            go_roundw
            case rel => exact ⟨i + 1, _, m5, c5, _, by omega, by go_num, H8, Lib.hid ⟨HR5.out, by have := HL.out.2; simp; omega⟩, Lib.hid (by rw [HQ5]; exact HN.out ax bx cx (fun q => ⟨HXA.out (Hgd.out q).1, HXB.out (Hgd.out q).2, HXC.out q⟩))⟩
            case measure => simp [intOf]; omega
        · have HD : Hid (rR l2 b2 = gs ∧ (gs ≠ none → acc = gn)) := Lib.hid (by
            cases b2 with
            | true =>
              have h := HM.out.2 rfl
              exact ⟨h.symm, fun q => absurd h q⟩
            | false =>
              have hin : i = n2 := by have : ¬ i < n2 := fun h => hlt ⟨h, rfl⟩; omega
              have h := HM.out.1 (by simp [rR])
              rw [hin, Nat.sub_self] at h
              injection h with h1 h2
              exact ⟨h2, fun _ => h1⟩)
          by_cases hin : i < n2
          · have hb : b2 = true := by cases b2 with | true => rfl | false => exact absurd ⟨hin, rfl⟩ hlt
            subst hb
            clear hlt
            go_wp2_with fail
            go_meet
            exact ⟨l2, true, _, acc, HS, Lib.hid HL.out.1, HD.out.1, Lib.hid HD.out.2⟩
          · clear hlt
            go_wp2_with fail
            go_meet
            exact ⟨l2, b2, _, acc, HS, Lib.hid HL.out.1, HD.out.1, Lib.hid HD.out.2⟩
    case rest =>
      obtain ⟨l9, b9, v9, acc9, HS9, HL9, hst9, HGN⟩ := hcut
      obtain ⟨A9, cp9, rfl⟩ := HS9.out.o3.slice
      obtain ⟨Z, s0, s1, s2, hZe, hZ1, hZ2, hZo1, hZo2, hZo3, hZb⟩ := HS9.out.fin
      obtain ⟨q0, q1, qf0, qf1⟩ := HS9.out.q.cells
      obtain ⟨x0, x1, -, -⟩ := HS9.out.r.cells
      obtain ⟨c0, c1, c2, c3, c4, -⟩ := HS9.out.fc
      obtain ⟨z0, z1, z2, z3, z4, zf⟩ := HS9.out.zc
      have zf0 := zf 0
      have zf1 := zf 1
      have zf2 := zf 2
      have zf3 := zf 3
      have zf4 := zf 4
      have s0 : wc.drew.cell? ⟨w.heap.size, 0, none⟩ = some (.string ⟨l9.toArray⟩) ∧ wc.drew.cell? ⟨w.heap.size, 1, none⟩ = some (.bool b9) ∧ wc.drew.cell? ⟨w.heap.size + 3, 0, none⟩ = some (.string ⟨tn.toArray⟩) ∧ wc.drew.cell? ⟨w.heap.size + 3, 1, none⟩ = some (.slice A1 xs.length cp1) ∧ wc.drew.cell? ⟨w.heap.size + 3, 2, none⟩ = some (.int .i64 (dn : Int)) ∧ wc.drew.cell? ⟨w.heap.size + 3, 3, none⟩ = some (.slice A7 acc7.length cp7) ∧ wc.drew.cell? ⟨w.heap.size + 3, 4, none⟩ = some (.slice A9 acc9.length cp9) := s0
      have s1 : ((wc.setCell ⟨w.heap.size + 1, 0, none⟩ (.string ⟨l9.toArray⟩)).setCell ⟨w.heap.size + 1, 1, none⟩ (.bool b9)).drew.cell? ⟨w.heap.size, 0, none⟩ = some (.string ⟨l9.toArray⟩) ∧ ((wc.setCell ⟨w.heap.size + 1, 0, none⟩ (.string ⟨l9.toArray⟩)).setCell ⟨w.heap.size + 1, 1, none⟩ (.bool b9)).drew.cell? ⟨w.heap.size, 1, none⟩ = some (.bool b9) ∧ ((wc.setCell ⟨w.heap.size + 1, 0, none⟩ (.string ⟨l9.toArray⟩)).setCell ⟨w.heap.size + 1, 1, none⟩ (.bool b9)).drew.cell? ⟨w.heap.size + 3, 0, none⟩ = some (.string ⟨tn.toArray⟩) ∧ ((wc.setCell ⟨w.heap.size + 1, 0, none⟩ (.string ⟨l9.toArray⟩)).setCell ⟨w.heap.size + 1, 1, none⟩ (.bool b9)).drew.cell? ⟨w.heap.size + 3, 1, none⟩ = some (.slice A1 xs.length cp1) ∧ ((wc.setCell ⟨w.heap.size + 1, 0, none⟩ (.string ⟨l9.toArray⟩)).setCell ⟨w.heap.size + 1, 1, none⟩ (.bool b9)).drew.cell? ⟨w.heap.size + 3, 2, none⟩ = some (.int .i64 (dn : Int)) ∧ ((wc.setCell ⟨w.heap.size + 1, 0, none⟩ (.string ⟨l9.toArray⟩)).setCell ⟨w.heap.size + 1, 1, none⟩ (.bool b9)).drew.cell? ⟨w.heap.size + 3, 3, none⟩ = some (.slice A7 acc7.length cp7) ∧ ((wc.setCell ⟨w.heap.size + 1, 0, none⟩ (.string ⟨l9.toArray⟩)).setCell ⟨w.heap.size + 1, 1, none⟩ (.bool b9)).drew.cell? ⟨w.heap.size + 3, 4, none⟩ = some (.slice A9 acc9.length cp9) := s1
      have hZe' : Z = (((((((wc.setCell ⟨w.heap.size + 1, 0, none⟩ (.string ⟨l9.toArray⟩)).setCell ⟨w.heap.size + 1, 1, none⟩ (.bool b9)).setCell ⟨w.heap.size + 2, 0, none⟩ (.string ⟨tn.toArray⟩)).setCell ⟨w.heap.size + 2, 1, none⟩ (.slice A1 xs.length cp1)).setCell ⟨w.heap.size + 2, 2, none⟩ (.int .i64 (dn : Int))).setCell ⟨w.heap.size + 2, 3, none⟩ (.slice A7 acc7.length cp7)).setCell ⟨w.heap.size + 2, 4, none⟩ (.slice A9 acc9.length cp9)).drew := hZe
      have s2 : Z.cell? ⟨w.heap.size, 0, none⟩ = some (.string ⟨l9.toArray⟩) ∧ Z.cell? ⟨w.heap.size, 1, none⟩ = some (.bool b9) ∧ Z.cell? ⟨w.heap.size + 3, 0, none⟩ = some (.string ⟨tn.toArray⟩) ∧ Z.cell? ⟨w.heap.size + 3, 1, none⟩ = some (.slice A1 xs.length cp1) ∧ Z.cell? ⟨w.heap.size + 3, 2, none⟩ = some (.int .i64 (dn : Int)) ∧ Z.cell? ⟨w.heap.size + 3, 3, none⟩ = some (.slice A7 acc7.length cp7) ∧ Z.cell? ⟨w.heap.size + 3, 4, none⟩ = some (.slice A9 acc9.length cp9) := s2
      rw [hZe'] at s2
      have HZe := Lib.hid hZe'
      have HZ1 := Lib.hid hZ1
      have HZ2 := Lib.hid hZ2
      have HZr := Lib.hid (And.intro hZo1 (And.intro hZo2 (And.intro hZo3 hZb)))
      clear zf hZe hZe' hZ1 hZ2 hZo1 hZo2 hZo3 hZb HS9
      go_upto_region 27 with fail
      refine wp_region_held_drew (S := fun w' : World => w'.cell? ⟨w.heap.size, 0, none⟩ = some (.string ⟨l9.toArray⟩) ∧ w'.cell? ⟨w.heap.size, 1, none⟩ = some (.bool b9) ∧ w'.cell? ⟨w.heap.size + 3, 0, none⟩ = some (.string ⟨tn.toArray⟩) ∧ w'.cell? ⟨w.heap.size + 3, 1, none⟩ = some (.slice A1 xs.length cp1) ∧ w'.cell? ⟨w.heap.size + 3, 2, none⟩ = some (.int .i64 (dn : Int)) ∧ w'.cell? ⟨w.heap.size + 3, 3, none⟩ = some (.slice A7 acc7.length cp7) ∧ w'.cell? ⟨w.heap.size + 3, 4, none⟩ = some (.slice A9 acc9.length cp9)) (by kernel_rfl) s0 (fun hHeld => ?_)
      refine wpAnyH_take (i := 0) (v := ?_) rfl (by kernel_rfl) (by kernel_rfl) (by kernel_rfl) (fun _ _ _ h => h) (Or.inl ⟨by rfl, ?_⟩) (by assumption) ?_
      rotate_left
      · (intro w hSw; (try dsimp only at hSw); first | (go_simp; done) | (go_simp; with_reducible rfl))
      try simp only [Act.put, List.setIfInBounds_toArray, List.set_cons_zero, List.set_cons_succ]
      refine wpAnyH_take (i := 1) (v := ?_) rfl (by kernel_rfl) (by kernel_rfl) (by kernel_rfl) (fun _ _ _ h => h) (Or.inl ⟨by rfl, ?_⟩) (by assumption) ?_
      rotate_left
      · (intro w hSw; (try dsimp only at hSw); first | (go_simp; done) | (go_simp; with_reducible rfl))
      try simp only [Act.put, List.setIfInBounds_toArray, List.set_cons_zero, List.set_cons_succ]
      refine wpAnyH_ready (rs := [2]) (by kernel_rfl) (by simp) ?_
      refine AllReadyH.cons rfl (fun K hK => ?_) (AllReadyH.nil)
      go_simp
      refine hK.out _ _ ?_ (fun hHeld => ?_)
      · ((try dsimp only); first | with_reducible exact s0 | with_reducible exact s1 | with_reducible exact s2)
      clear hK K
      try simp only [Act.put, List.setIfInBounds_toArray, List.set_cons_zero, List.set_cons_succ]
      refine wpAnyH_ready (rs := [3]) (by kernel_rfl) (by simp) ?_
      refine AllReadyH.cons rfl (fun K hK => ?_) (AllReadyH.nil)
      go_simp
      refine hK.out _ _ ?_ (fun hHeld => ?_)
      · ((try dsimp only); first | with_reducible exact s0 | with_reducible exact s1 | with_reducible exact s2)
      clear hK K
      try simp only [Act.put, List.setIfInBounds_toArray, List.set_cons_zero, List.set_cons_succ]
      refine wpAnyH_done (by kernel_rfl) ?_ _
      go_wp2_with fail
      rw [← HZe.out]
      try simp only [Exit.inBlock, Exit.then]
      refine bodyPost_ret (results_cell_cell rfl _ _ (w.heap.size + 1) (w.heap.size + 2) _ _ rfl rfl (run_loadVar_row _ (w.heap.size + 1) _ _ _ _ _ HZ1.out Try.underlying85 rfl (by kernel_rfl)) (run_loadVar_row _ (w.heap.size + 2) _ _ _ _ _ HZ2.out Try.underlying63 rfl (by kernel_rfl))) rfl ?_
      exact ⟨l9, b9, _, _, _, (tn, ⟨xs, (dn : Int), acc7, acc9⟩), rfl, hst9, HL9.out, ⟨HZr.out.1, HZr.out.2.1, HZr.out.2.2.1⟩, fun q => by
        obtain ⟨g1, g2⟩ := Hgood.out q
        rw [HX1.out g1, HEN.out g2, HGN.out q], HZr.out.2.2.2⟩
end Go.Proofs.Ythjlpbglnnebkaa
