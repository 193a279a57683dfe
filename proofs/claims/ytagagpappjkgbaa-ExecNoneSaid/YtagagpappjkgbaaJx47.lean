/-
  Blocks on all ways: dom.New.
  Blocks on all ways: what a tree tells: Reached, Up, Over.
  Programs that may be: uses, where it says yes.
  Programs that may be: stands, where it says yes.
  Programs that may be: Func, where it says yes.
  Programs that may be: all that Func asks of the base's two functions.
-/
import Derived.Test.YtagagpappjkgbaaJx25
import Derived.Test.YtagagpappjkgbaaJx39
import Derived.Test.YtagagpappjkgbaaJx46
import Derived.BigQuiet
import Derived.StillTailTactics
namespace Go.Proofs.Ytagagpappjkgbaa
set_option linter.unusedVariables false
set_option linter.unusedSimpArgs false
open Go.RowKit Go.Shelf

/-- The start with two rows. -/
theorem Sq.start2 {T : TypeId} {w : World} {base E : Nat} {cs : List Value} (hbox : w.heap[E]? = some (.cells cs.toArray T (0, 0))) (hb : base ≤ E) (r0 r1 : GRw) (h0 : w.ownsRow base r0.T r0.z r0.v r0.n r0.xs) (h1 : w.ownsRow base r1.T r1.z r1.v r1.n r1.xs) (n0 : r0.v.ownBlock ≠ some E) (n1 : r1.v.ownBlock ≠ some E) (hne : r0.v.ownBlock = none ∨ r0.v.ownBlock ≠ r1.v.ownBlock) (hne' : r1.v.ownBlock = none ∨ r1.v.ownBlock ≠ r0.v.ownBlock) :
    Sq T w base E (upG (upG (fun _ => noRow) 0 r0) 1 r1) cs := by
  have e0 : (upG (upG (fun _ => noRow) 0 r0) 1 r1) 0 = r0 := by rw [upG_off _ _ _ _ (by omega), upG_at]
  have e1 : (upG (upG (fun _ => noRow) 0 r0) 1 r1) 1 = r1 := upG_at _ _ _
  have e2 : ∀ k, 1 < k → (upG (upG (fun _ => noRow) 0 r0) 1 r1) k = noRow := fun k hk => by rw [upG_off _ _ _ _ (by omega), upG_off _ _ _ _ (by omega)]
  have hc : ∀ k, k = 0 ∨ k = 1 ∨ 1 < k := fun k => by omega
  refine ⟨⟨gr_in hbox, fun k => ?_, fun k => ?_, fun i j hij => ?_⟩, hbox, hb, by have := gr_in hbox; omega⟩
  · rcases hc k with rfl | rfl | h
    · rw [e0]; exact n0
    · rw [e1]; exact n1
    · rw [e2 k h]; simp [noRow, Value.ownBlock]
  · rcases hc k with rfl | rfl | h
    · rw [e0]; exact h0
    · rw [e1]; exact h1
    · rw [e2 k h]; exact World.ownsRow_nil _ _ _ _
  · rcases hc i with rfl | rfl | hi
    · rcases hc j with rfl | rfl | hj
      · exact absurd rfl hij
      · rw [e0, e1]; exact hne
      · rw [e0, e2 j hj]
        cases hr : r0.v.ownBlock with
        | none => exact .inl rfl
        | some g => right; simp [noRow, Value.ownBlock]
    · rcases hc j with rfl | rfl | hj
      · rw [e0, e1]; exact hne'
      · exact absurd rfl hij
      · rw [e1, e2 j hj]
        cases hr : r1.v.ownBlock with
        | none => exact .inl rfl
        | some g => right; simp [noRow, Value.ownBlock]
    · left; rw [e2 i hi]; rfl

/-- The tree over plain data. -/
structure TrP where
  order : List Int
  up : List Int
  kids : List (List Int)
  deep : List Int
  place : List Int
  past : List Int
  to_ : List Int
  skip : List Int
  start : List Int
/-- How it is made. -/
structure TrEq (g : List GB) (T : TrP) : Prop where
  mk ::
  ex : ∃ (ke k0 kf m : Nat) (en : En) (bk : List (List Int)) (sE : Sr) (upE many row : List Int), k0 ≤ 1048576 ∧ 1 ≤ m ∧ m ≤ 1048576 ∧
    enRun g ke ⟨[], List.replicate g.length (-1), []⟩ [(-1, 0)] = some en ∧ en.blocks.length = m ∧ en.from_.length = m ∧ en.turn.length ≤ 1048576 ∧
    bkRun g en.turn 0 en.blocks (List.replicate m []) = some bk ∧ (∀ t, (bk.getD t []).length ≤ 1048576) ∧
    rnRun k0 en.from_ bk (m - 1) ⟨List.replicate m (-1), upTo m m, List.replicate m (-1), upTo m m, List.replicate m []⟩ = some sE ∧ finP sE.early m 0 sE.up = some upE ∧ upE.length = m ∧
    outP en.blocks upE 0 (List.replicate g.length (-1)) = some T.up ∧
    grRun T.up T.order (List.replicate g.length []) (List.replicate g.length 0) = some (T.kids, T.deep) ∧
    mnRun T.up T.order.reverse (List.replicate g.length 0) = some many ∧ plRun T.up many T.order (List.replicate g.length (-1)) (List.replicate g.length 0) = some (T.place, T.past) ∧
    rwRun T.place T.order (List.replicate T.order.length 0) = some row ∧ toRun g row [] [0] = some (T.to_, T.start) ∧ skRun T.deep T.to_ kf T.to_.length (List.replicate T.to_.length 0) = some T.skip
  ord : T.order = (orderP g).map fun (b : Nat) => (b : Int)
  ordl : T.order.length ≤ 1048576
  ord1 : 1 ≤ T.order.length
  upl : T.up.length = g.length
  pos : 0 < g.length
/-- A tree in memory, for who reads it. -/
def TreeAt (w : World) (tp n : Nat) (T : TrP) : Prop := ∃ (vo vu vd vp vq vt vs vst : Value) (gk : Nat) (vk : List Value),
  w.heap[tp]? = some (.cells #[vo, vu, .slice (some ⟨gk, 0, none⟩) n n, vd, vp, vq, vt, vs, vst] 194 (0, 0)) ∧
  GNs w.heap.size w vo T.order ∧ GNs w.heap.size w vu T.up ∧ GNs w.heap.size w vd T.deep ∧ GNs w.heap.size w vp T.place ∧ GNs w.heap.size w vq T.past ∧ GNs w.heap.size w vt T.to_ ∧ GNs w.heap.size w vs T.skip ∧ GNs w.heap.size w vst T.start ∧
  T.up.length = n ∧ T.deep.length = n ∧ T.place.length = n ∧ T.past.length = n ∧ T.kids.length = n ∧ vk.length = n ∧ gk < w.heap.size ∧ (∀ j v, vk[j]? = some v → w.cell? ⟨gk, j, none⟩ = some v) ∧ (∀ (j : Nat) (v : Value) (l : List Int), vk[j]? = some v → T.kids[j]? = some l → GNs w.heap.size w v l)
theorem GNs.later {w w' : World} {v : Value} {l : List Int} (h : GNs w.heap.size w v l) (hb : Below w.heap.size w w') : GNs w'.heap.size w' v l := (h.keep hb).mono hb.size
theorem TreeAt.keep {w w' : World} {tp n : Nat} {T : TrP} (h : TreeAt w tp n T) (hb : Below w.heap.size w w') : TreeAt w' tp n T := by
  obtain ⟨vo, vu, vd, vp, vq, vt, vs, vst, gk, vk, h1, h2, h3, h4, h5, h6, h7, h8, h9, l1, l2, l3, l4, l5, l6, h10, h11, h12⟩ := h
  exact ⟨vo, vu, vd, vp, vq, vt, vs, vst, gk, vk, (hb.block tp (gr_in h1)).trans h1, h2.later hb, h3.later hb, h4.later hb, h5.later hb, h6.later hb, h7.later hb, h8.later hb, h9.later hb, l1, l2, l3, l4, l5, l6, Nat.lt_of_lt_of_le h10 hb.size, fun j v hv => (hb.cell (p := ⟨gk, j, none⟩) h10).trans (h11 j v hv), fun j v l hv hl => (h12 j v l hv hl).later hb⟩

theorem Sq.gns {T : TypeId} {w : World} {base E k : Nat} {F : Nat → GRw} {cs : List Value} {v : Value} {l : List Int} (h : Sq T w base E F cs) (hk : F k = intR v l) : GNs w.heap.size w v l := GNs.of_own (h.at hk)
theorem Sq.gnw {T : TypeId} {w : World} {base E k b n : Nat} {F : Nat → GRw} {cs : List Value} {l : List Int} (h : Sq T w base E F cs) (hk : F k = wholeR b l) (hl : l.length = n) : GNs w.heap.size w (.slice (some ⟨b, 0, none⟩) n n) l := by
  subst hl
  exact GNs.of_own (h.at hk)
theorem RowsAt.len {F : Nat → GRw} {k gb m : Nat} {vs : List Value} {ls : List (List Int)} (h : RowsAt F k gb m vs ls) : vs.length = m ∧ ls.length = m := ⟨h.1, h.2.1⟩

set_option maxRecDepth 100000 in
set_option maxHeartbeats 16000000 in
theorem new_g (n0 : Nat) (f : Value) (g : List GB) (T : TrP) (w : World) (hf : GF n0 w f g) (hn : n0 ≤ w.heap.size) (hT : TrEq g T) :
    Calls Try.prog 123 #[f] w fun e w' => ∃ tp, e = .returned (.pointer (some ⟨tp, 0, none⟩)) ∧ TreeAt w' tp g.length T ∧ Below w.heap.size w w' := by
  obtain ⟨ke, k0, kf, m, en, bk, sE, upE, many, row, hk0, hm1, hmb, q1, q2, q3, q4, q5, q6, q7, q8, q9, q10, q11, q12, q13, q14, q15, q16⟩ := hT.ex
  obtain ⟨s, pA, pn, pc, r, iA, in_, ic, bA, bn, bc, rfl, hG, hbn⟩ := id hf
  have hlen : bn ≤ 1048576 := by rw [hbn]; obtain ⟨_, _, _, h, _⟩ := hG; exact h
  have hpos : 0 < g.length := hT.pos
  obtain ⟨W1, hW1, hbW1, hzW1, h0W1⟩ := gr_one w #[.string s, .slice pA pn pc, .int .i64 r, .slice iA in_ ic, .slice bA bn bc] 68
  have hfr : ∀ A : World, Below W1.heap.size W1 A → GF n0 A (.agg #[.string s, .slice pA pn pc, .int .i64 r, .slice iA in_ ic, .slice bA bn bc]) g := fun A hA => ⟨s, pA, pn, pc, r, iA, in_, ic, bA, bn, bc, rfl, hG.keep ((hbW1.mono hn).trans (hA.mono (by omega))), hbn⟩
  have hx : ∀ A : World, Below W1.heap.size W1 A → A.cell? ⟨w.heap.size, 0, none⟩ = some (.string s) ∧ A.cell? ⟨w.heap.size, 1, none⟩ = some (.slice pA pn pc) ∧ A.cell? ⟨w.heap.size, 2, none⟩ = some (.int .i64 r) ∧ A.cell? ⟨w.heap.size, 3, none⟩ = some (.slice iA in_ ic) ∧ A.cell? ⟨w.heap.size, 4, none⟩ = some (.slice bA bn bc) := (fun A hA => by obtain ⟨x0, x1, x2, x3, x4, -⟩ := gr_five ((hA.block w.heap.size (by omega)).trans h0W1); exact ⟨x0, x1, x2, x3, x4⟩)
  have hO := order_g n0 _ g W1 (hfr W1 (Below.refl _ _)) (by omega)
  obtain ⟨x0, x1, x2, x3, x4⟩ := hx W1 (Below.refl _ _)
  obtain ⟨no, hno⟩ : ∃ no, no = T.order.length := ⟨_, rfl⟩
  have hol : (orderP g).length = no := by rw [hno, hT.ord, List.length_map]
  have hnv : natsV (orderP g) = intsV T.order := by rw [hT.ord]; simp [natsV, intsV]
  rw [hol, hnv] at hO
  have hno1 : 1 ≤ no := by rw [hno]; exact hT.ord1
  have hnob : no ≤ 1048576 := by rw [hno]; exact hT.ordl
  have hnz : ((no : Int) == 0) = false := by simp; omega
  have HT := Lib.hid hT
  have Hx := Lib.hid hx
  have Hfr := Lib.hid hfr
  have HW1 := Lib.hid hW1
  have HbW1 := Lib.hid hbW1
  have HzW1 := Lib.hid hzW1
  have Hbn := Lib.hid hbn
  have Hno := Lib.hid hno
  have Hq := Lib.hid (And.intro q1 (And.intro q2 (And.intro q3 (And.intro q4 (And.intro q5 (And.intro q6 (And.intro q7 (And.intro q8 (And.intro q9 (And.intro q10 (And.intro q11 (And.intro q12 (And.intro q13 (And.intro q14 (And.intro q15 q16)))))))))))))))
  clear hf hx hfr hW1 hbW1 hzW1 h0W1 hbn hG hT hno hol hnv q1 q2 q3 q4 q5 q6 q7 q8 q9 q10 q11 q12 q13 q14 q15 q16
  go_enter Try.func123, Try.ntmps123
  go_upto_region 1 with fail
  rw [← HW1.out]
  go_upto_region 2 with (go_at_call 117; refine hO.mono ?_; rintro e w2 ⟨vo, rfl, ho, hb2⟩; obtain ⟨A0, c0, rfl⟩ := gr_slice ho; have Ho := Lib.hid ho; have Hb2 := Lib.hid hb2; clear ho hb2 hO)
  clear x0 x1 x2 x3 x4
  have h12 := Hb2.out
  obtain ⟨x0, x1, x2, x3, x4⟩ := Hx.out w2 h12
  have hU := ups_g n0 _ g w2 ke k0 m en bk sE upE T.up (Hfr.out w2 h12) (by have := h12.size; have := HzW1.out; omega) hpos hk0 Hq.out.1 Hq.out.2.1 hm1 hmb Hq.out.2.2.1 Hq.out.2.2.2.1 Hq.out.2.2.2.2.1 Hq.out.2.2.2.2.2.1 Hq.out.2.2.2.2.2.2.1 Hq.out.2.2.2.2.2.2.2.1 Hq.out.2.2.2.2.2.2.2.2.1 Hq.out.2.2.2.2.2.2.2.2.2.1
  clear h12
  go_upto_region 5 with (go_at_call 142; refine hU.mono ?_; rintro e w3 ⟨ub, rfl, hub, hup, hb3⟩; have Hup := Lib.hid hup; have Hb3 := Lib.hid hb3; clear hup hb3 hU)
  clear x0 x1 x2 x3 x4
  obtain ⟨n, hn2⟩ : ∃ n, n = g.length := ⟨_, rfl⟩
  rw [← hn2] at hpos ⊢
  have hnb : n ≤ 1048576 := by rw [hn2, ← Hbn.out]; exact hlen
  obtain ⟨W4, hW4, hbW4, hzW4, h0W4⟩ := gr_one w3 #[.slice A0 no c0, .slice (some ⟨ub, 0, none⟩) n n, .slice none 0 0, .slice none 0 0, .slice none 0 0, .slice none 0 0, .slice none 0 0, .slice none 0 0, .slice none 0 0] 194
  have hz2 := Hb2.out.size
  have hz3 := Hb3.out.size
  have ho4 := gr_up (gr_up Ho.out Hb3.out) hbW4
  have hu4 : IRow W4 ub T.up := Hup.out.keep (hbW4.block ub Hup.out.lt)
  have hupl : T.up.length = n := by rw [hn2]; exact HT.out.upl
  have hol2 := fun g' hg => (Ho.out.lt g' hg).2
  have hsq4 := Sq.start2 (base := W1.heap.size) (cs := [.slice A0 no c0, .slice (some ⟨ub, 0, none⟩) n n, .slice none 0 0, .slice none 0 0, .slice none 0 0, .slice none 0 0, .slice none 0 0, .slice none 0 0, .slice none 0 0]) h0W4 (by omega) (intR (.slice A0 no c0) T.order) (wholeR ub T.up)
    (by simp only [intR, ← Hno.out]; exact ho4) (hu4.own rfl (by omega) (by rw [hupl]; exact hnb)) (fun e => by have := hol2 _ e; omega) (by simp only [wholeR, Value.ownBlock, ne_eq, Option.some.injEq]; have := Hup.out.lt; omega)
    (by
      cases ho : (Value.slice A0 no c0).ownBlock with
      | none => left; exact ho
      | some g' => right; simp only [intR, wholeR]; rw [ho]; simp only [Value.ownBlock, ne_eq, Option.some.injEq]; have := hol2 _ ho; omega)
    (by right; simp only [intR, wholeR]; intro e; have := hol2 ub (by rw [← e]; rfl); omega)
  obtain ⟨tp, htp⟩ : ∃ tp, tp = w3.heap.size := ⟨_, rfl⟩
  rw [← htp] at hsq4
  obtain ⟨F4, hF4⟩ : ∃ F4, F4 = upG (upG (fun _ => noRow) 0 (intR (.slice A0 no c0) T.order)) 1 (wholeR ub T.up) := ⟨_, rfl⟩
  have hf40 : F4 0 = intR (.slice A0 no c0) T.order := by rw [hF4, upG_off _ _ _ _ (by omega), upG_at]
  have hf41 : F4 1 = wholeR ub T.up := by rw [hF4]; exact upG_at _ _ _
  have hf4o : ∀ i, 1 < i → F4 i = noRow := fun i hi => by rw [hF4, upG_off _ _ _ _ (by omega), upG_off _ _ _ _ (by omega)]
  rw [← hF4] at hsq4
  have hGr := grow_g W1.heap.size tp n no ub A0 c0 T.order T.up (.slice none 0 0) (.slice none 0 0) (.slice none 0 0) (.slice none 0 0) (.slice none 0 0) F4 T.kids T.deep W4 hsq4 hf40 hf41 hf4o Hno.out.symm hnob hupl hnb (by rw [hn2]; exact Hq.out.2.2.2.2.2.2.2.2.2.2.1)
  have h14 : Below W1.heap.size W1 W4 := (Hb2.out.trans (Hb3.out.mono Hb2.out.size)).trans (hbW4.mono (by omega))
  have HW4 := Lib.hid hW4
  have H14 := Lib.hid h14
  have Hn2 := Lib.hid hn2
  have Hupl := Lib.hid hupl
  have Htp : Hid (W1.heap.size ≤ tp) := Lib.hid (by omega)
  have Hzz : Hid (W4.heap.size = tp + 1) := Lib.hid (by omega)
  rw [← htp]
  clear hn2 hW4 hbW4 hzW4 h0W4 hz2 hz3 ho4 hu4 hupl hol2 hsq4 hF4 hf40 hf41 hf4o h14 htp Ho Hup Hb2 Hb3 hub
  rw [← HW4.out]
  go_upto_region 6 with (go_at_call 143; refine hGr.mono ?_; rintro e w5 ⟨rfl, gk, vk, db, F5, hs5, g0, g1, g3, goff, gr, gdl, hb5⟩; have Hs5 := Lib.hid hs5; have Hg5 := Lib.hid (And.intro g0 (And.intro g1 (And.intro g3 (And.intro goff (And.intro gr gdl))))); have Hb5 := Lib.hid hb5; clear hs5 g0 g1 g3 goff gr gdl hb5 hGr)
  have hRw := row_g W1.heap.size tp n no ub gk db A0 c0 T.order T.up many T.place T.past (.slice none 0 0) (.slice none 0 0) (.slice none 0 0) F5 w5 Hs5.out Hg5.out.1 Hg5.out.2.1 Hg5.out.2.2.2.1 Hno.out.symm hnob Hupl.out hpos hnb (by rw [Hn2.out]; exact Hq.out.2.2.2.2.2.2.2.2.2.2.2.1) (by rw [Hn2.out]; exact Hq.out.2.2.2.2.2.2.2.2.2.2.2.2.1)
  go_upto_region 7 with (go_at_call 144; refine hRw.mono ?_; rintro e w6 ⟨rfl, pb, qb, F6, hs6, p0, p4, p5, ppl, pql, hb6⟩; have Hs6 := Lib.hid hs6; have Hg6 := Lib.hid (And.intro p0 (And.intro p4 (And.intro p5 (And.intro ppl pql)))); have Hb6 := Lib.hid hb6; clear hs6 p0 p4 p5 ppl pql hb6 hRw)
  have h16 : Below W1.heap.size W1 w6 := (H14.out.trans Hb5.out).trans Hb6.out
  obtain ⟨x0, x1, x2, x3, x4⟩ := Hx.out w6 h16
  have hLd := leads_g n0 W1.heap.size tp n no ub gk db pb qb _ g A0 c0 T.order T.place T.deep row T.to_ T.start T.skip (.slice none 0 0) (.slice none 0 0) (.slice none 0 0) F6 kf w6 (Hfr.out w6 h16) (by have := h16.size; have := HzW1.out; omega) Hs6.out ((Hg6.out.1 0 (by omega) (by omega)).trans Hg5.out.1) ((Hg6.out.1 3 (by omega) (by omega)).trans Hg5.out.2.2.1) Hg6.out.2.1 Hno.out.symm hnob hno1 Hg6.out.2.2.2.1 Hg5.out.2.2.2.2.2 hnb (by rw [Hno.out]; exact Hq.out.2.2.2.2.2.2.2.2.2.2.2.2.2.1) Hq.out.2.2.2.2.2.2.2.2.2.2.2.2.2.2.1 Hq.out.2.2.2.2.2.2.2.2.2.2.2.2.2.2.2
  have H16 := Lib.hid h16
  clear h16
  go_upto_region 8 with (go_at_call 145; refine hLd.mono ?_; rintro e w7 ⟨Vto, Vst, sb, F7, lb, rfl, hs7, t0, t1, t2, tsl, hb7⟩; obtain ⟨PA, PC, hPV⟩ := gr_slice (hs7.at t0); obtain ⟨SA, SC, hSV⟩ := gr_slice (hs7.at t2); simp only [intR] at hPV hSV; subst hPV hSV; simp only [sl]; have hst := Hs6.out.keep hb7; have y6 := hst.cell 6 _ rfl; have y7 := hst.cell 7 _ rfl; have y8 := hst.cell 8 _ rfl; have yf6 := hst.fro 6; have yf7 := hst.fro 7; have yf8 := hst.fro 8; have Hst := Lib.hid hst; have Hs7 := Lib.hid hs7; have Ht := Lib.hid (And.intro t0 (And.intro t1 (And.intro t2 tsl))); have Hb7 := Lib.hid hb7; clear hs7 t0 t1 t2 tsl hb7 hst hLd)
  have hs0 := Hst.out
  have h6 := hs0.field 6 (.slice PA T.to_.length PC)
  have h7 := h6.field 7 (.slice (some ⟨sb, 0, none⟩) T.to_.length T.to_.length)
  have h8 := h7.field 8 (.slice SA T.start.length SC)
  simp only [List.set_cons_succ, List.set_cons_zero] at h8
  obtain ⟨G, hG⟩ : ∃ G, G = ((w7.setCell ⟨tp, 6, none⟩ (.slice PA T.to_.length PC)).setCell ⟨tp, 7, none⟩ (.slice (some ⟨sb, 0, none⟩) T.to_.length T.to_.length)).setCell ⟨tp, 8, none⟩ (.slice SA T.start.length SC) := ⟨_, rfl⟩
  have hb8 : Below W1.heap.size w7 G := by rw [hG]; exact ((hs0.b_field 6 _).trans (h6.b_field 7 _)).trans (h7.b_field 8 _)
  have hGk : ∀ k, k ≠ tp → G.heap[k]? = w7.heap[k]? := fun k hk => by rw [hG, Below.heap_setCell _ _ _ _ hk, Below.heap_setCell _ _ _ _ hk, Below.heap_setCell _ _ _ _ hk]
  have hGz : G.heap.size = w7.heap.size := by rw [hG]; simp [World.setCell]
  rw [← hG] at h8
  have hsL := Hs7.out.mono_keep (Nat.le_refl _) (fun k hk => hGk k (by have := Hs6.out.fam.el; omega)) hGz
  have hrk := Hg5.out.2.2.2.2.1.same (F' := F6) (fun i h1 h2 => Hg6.out.1 i (by omega) (by omega))
  have hTA : TreeAt G tp n T := by
    refine ⟨.slice A0 no c0, .slice (some ⟨ub, 0, none⟩) n n, .slice (some ⟨db, 0, none⟩) n n, .slice (some ⟨pb, 0, none⟩) n n, .slice (some ⟨qb, 0, none⟩) n n, .slice PA T.to_.length PC, .slice (some ⟨sb, 0, none⟩) T.to_.length T.to_.length, .slice SA T.start.length SC, gk, vk, h8.box, ?_, ?_, ?_, ?_, ?_, ?_, ?_, ?_, Hupl.out, Hg5.out.2.2.2.2.2, Hg6.out.2.2.2.1, Hg6.out.2.2.2.2, hrk.len.2, hrk.len.1, ?_, ?_, ?_⟩
    · have := h8.gns ((Hg6.out.1 0 (by omega) (by omega)).trans Hg5.out.1); exact this
    · exact h8.gnw ((Hg6.out.1 1 (by omega) (by omega)).trans Hg5.out.2.1) Hupl.out
    · exact h8.gnw ((Hg6.out.1 3 (by omega) (by omega)).trans Hg5.out.2.2.1) Hg5.out.2.2.2.2.2
    · exact h8.gnw Hg6.out.2.1 Hg6.out.2.2.2.1
    · exact h8.gnw Hg6.out.2.2.1 Hg6.out.2.2.2.2
    · exact hsL.gns Ht.out.1
    · exact hsL.gnw Ht.out.2.1 Ht.out.2.2.2
    · exact hsL.gns Ht.out.2.2.1
    · exact ((h8.at hrk.2.2.1).lt gk rfl).2
    · exact fun j v hv => hrk.cell h8 hv
    · exact fun j v l hv hl => h8.gns (hrk.2.2.2 j v l hv hl)
  have HTA := Lib.hid hTA
  have HG := Lib.hid hG
  have HBG : Hid (Below w.heap.size w G) := Lib.hid (HbW1.out.trans (((H16.out.trans (Hb7.out.mono H16.out.size)).trans hb8).mono HbW1.out.size))
  clear hs0 h6 h7 h8 hG hb8 hGk hGz hsL hrk hTA
  first | rw [← HG.out] | skip
  go_wp2
  first | rw [← HG.out] | skip
  go_ret
  exact ⟨tp, rfl, by rw [← Hn2.out]; exact HTA.out, HBG.out⟩
end Go.Proofs.Ytagagpappjkgbaa
namespace Go.Proofs.Ytagagpappjkgbaa
set_option linter.unusedVariables false
set_option linter.unusedSimpArgs false
open Go.RowKit Go.Shelf

def reachedT (T : TrP) (b : Int) : Bool := decide (0 ≤ b) && decide (b < (T.place.length : Int)) && (T.place.getD b.toNat 0 != -1)
def overT (T : TrP) (a b : Int) : Bool := reachedT T a && reachedT T b && decide (T.place.getD a.toNat 0 ≤ T.place.getD b.toNat 0) && decide (T.place.getD b.toNat 0 < T.past.getD a.toNat 0)
theorem reachedT_in {T : TrP} {b : Int} (h : reachedT T b = true) : ∃ k : Nat, b = k ∧ k < T.place.length := by
  unfold reachedT at h
  simp only [Bool.and_eq_true, decide_eq_true_eq] at h
  exact ⟨b.toNat, by omega, by omega⟩
/-- One number of a row of the tree. -/
theorem GNs.get {n0 n c : Nat} {w : World} {A : Option Addr} {l : List Int} (h : GNs n0 w (.slice A n c) l) {j : Nat} (hj : j < l.length) : ∃ b o, A = some ⟨b, o, none⟩ ∧ w.cell? ⟨b, o + j, none⟩ = some (.int .i64 (l.getD j 0)) := by
  obtain ⟨b, o, hA, -, hc⟩ := h.at hj
  exact ⟨b, o, hA, by rw [hc]; simp [List.getD, hj]⟩

set_option maxRecDepth 100000 in
set_option maxHeartbeats 4000000 in
theorem reached_g (tp n : Nat) (T : TrP) (b : Int) (w : World) (h : TreeAt w tp n T) : Calls Try.prog 146 #[.pointer (some ⟨tp, 0, none⟩), .int .i64 b] w fun e w' => e = .returned (.bool (reachedT T b)) ∧ w' = w := by
  obtain ⟨vo, vu, vd, vp, vq, vt, vs, vst, gk, vk, h1, h2, h3, h4, h5, h6, h7, h8, h9, l1, l2, l3, l4, l5, l6, h10, h11, h12⟩ := h
  obtain ⟨Ap, cp, rfl, -⟩ := id h5
  rw [l3] at h1 h5
  have c4 := Lib.cell_of_heap h1 4
  obtain ⟨v, hv⟩ : ∃ v, v = reachedT T b := ⟨_, rfl⟩
  rw [← hv]
  by_cases hb0 : 0 ≤ b
  · have d0 : decide (b ≥ 0) = true := decide_eq_true hb0
    by_cases hbn : b < n
    · have d1 : decide (b < (n : Int)) = true := decide_eq_true hbn
      obtain ⟨k, rfl⟩ : ∃ k : Nat, b = k := ⟨b.toNat, by omega⟩
      obtain ⟨pb, po, rfl, cc⟩ := h5.get (j := k) (by omega)
      have hve : v = (T.place.getD k 0 != -1) := by rw [hv]; unfold reachedT; simp [hb0, l3]; omega
      obtain ⟨x, hx⟩ : ∃ x, x = T.place.getD k 0 := ⟨_, rfl⟩
      rw [← hx] at cc hve
      have Hve := Lib.hid hve
      clear hve hv hx h1 h2 h3 h4 h5 h6 h7 h8 h9 l1 l2 l3 l4 l5 l6 h10 h11 h12 hb0
      go_enter Try.func146, Try.ntmps146
      go_wp2
      go_ret
      exact ⟨by rw [Hve.out]; rfl, rfl⟩
    · have d1 : decide (b < (n : Int)) = false := decide_eq_false hbn
      have hve : v = false := by rw [hv]; unfold reachedT; rw [l3, d1]; simp
      subst hve
      clear hv h1 h2 h3 h4 h5 h6 h7 h8 h9 l1 l2 l3 l4 l5 l6 h10 h11 h12
      go_enter Try.func146, Try.ntmps146
      go_wp2
      go_ret
      exact ⟨rfl, rfl⟩
  · have d0 : decide (b ≥ 0) = false := decide_eq_false hb0
    have hve : v = false := by
      rw [hv]
      unfold reachedT
      have : decide (0 ≤ b) = false := decide_eq_false hb0
      rw [this]
      simp
    subst hve
    clear hv h1 h2 h3 h4 h5 h6 h7 h8 h9 l1 l2 l3 l4 l5 l6 h10 h11 h12
    go_enter Try.func146, Try.ntmps146
    go_wp2
    go_ret
    exact ⟨rfl, rfl⟩

set_option maxRecDepth 100000 in
set_option maxHeartbeats 8000000 in
theorem over_g (tp n : Nat) (T : TrP) (a b : Int) (w : World) (h : TreeAt w tp n T) : Calls Try.prog 125 #[.pointer (some ⟨tp, 0, none⟩), .int .i64 a, .int .i64 b] w fun e w' => e = .returned (.bool (overT T a b)) ∧ ∃ q, w' = w.drewN q := by
  have hRa : ∀ w', TreeAt w' tp n T → Calls Try.prog 146 #[.pointer (some ⟨tp, 0, none⟩), .int .i64 a] w' fun e w2 => e = .returned (.bool (reachedT T a)) ∧ ∃ q, w2 = w'.drewN q := fun w' h' => (reached_g tp n T a w' h').mono fun e w2 ⟨h1, h2⟩ => ⟨h1, 0, by rw [h2]; rfl⟩
  have hRb : ∀ w', TreeAt w' tp n T → Calls Try.prog 146 #[.pointer (some ⟨tp, 0, none⟩), .int .i64 b] w' fun e w2 => e = .returned (.bool (reachedT T b)) ∧ ∃ q, w2 = w'.drewN q := fun w' h' => (reached_g tp n T b w' h').mono fun e w2 ⟨h1, h2⟩ => ⟨h1, 0, by rw [h2]; rfl⟩
  have HTA := Lib.hid h
  obtain ⟨vo, vu, vd, vp, vq, vt, vs, vst, gk, vk, h1, h2, h3, h4, h5, h6, h7, h8, h9, l1, l2, l3, l4, l5, l6, h10, h11, h12⟩ := h
  obtain ⟨Ap, cp, rfl, -⟩ := id h5
  obtain ⟨Aq, cq, rfl, -⟩ := id h6
  rw [l3] at h1 h5
  rw [l4] at h1 h6
  have c4 := Lib.cell_of_heap h1 4
  have c5 := Lib.cell_of_heap h1 5
  obtain ⟨x, hx⟩ : ∃ x, x = overT T a b := ⟨_, rfl⟩
  rw [← hx]
  by_cases hra : reachedT T a = true
  · rw [hra] at hRa
    by_cases hrb : reachedT T b = true
    · rw [hrb] at hRb
      obtain ⟨ka, rfl, hka⟩ := reachedT_in hra
      obtain ⟨kb, rfl, hkb⟩ := reachedT_in hrb
      obtain ⟨pb, po, rfl, ca⟩ := h5.get (j := ka) (by omega)
      obtain ⟨pb2, po2, hpe, cb⟩ := h5.get (j := kb) (by omega)
      obtain ⟨rfl, rfl⟩ : pb = pb2 ∧ po = po2 := by simpa using hpe
      obtain ⟨qb, qo, rfl, cqa⟩ := h6.get (j := ka) (by omega)
      have hka2 : ka < n := by omega
      have hkb2 : kb < n := by omega
      have hxe : x = (decide (T.place.getD ka 0 ≤ T.place.getD kb 0) && decide (T.place.getD kb 0 < T.past.getD ka 0)) := by rw [hx]; unfold overT; rw [hra, hrb]; rfl
      obtain ⟨pa, hpa⟩ : ∃ pa, pa = T.place.getD ka 0 := ⟨_, rfl⟩
      obtain ⟨pc, hpc⟩ : ∃ pc, pc = T.place.getD kb 0 := ⟨_, rfl⟩
      obtain ⟨qa, hqa⟩ : ∃ qa, qa = T.past.getD ka 0 := ⟨_, rfl⟩
      rw [← hpa, ← hpc, ← hqa] at hxe
      rw [← hpa] at ca
      rw [← hpc] at cb
      rw [← hqa] at cqa
      clear hpa hpc hqa hx hpe hra hrb h1 h2 h3 h4 h5 h6 h7 h8 h9 l1 l2 l3 l4 l5 l6 h10 h11 h12 hka hkb
      by_cases hle : pa ≤ pc
      · have d1 : decide (pa ≤ pc) = true := decide_eq_true hle
        have hxe2 : x = decide (pc < qa) := by rw [hxe, d1]; rfl
        clear hxe
        subst hxe2
        have HRa := Lib.hid hRa
        have HRb := Lib.hid hRb
        clear hRa hRb
        go_enter Try.func125, Try.ntmps125
        go_upto_region 1 with fail
        go_quiet (first | (go_at_call 146; with_reducible refine Calls.quiet_of (HRa.out _ ?_); exact HTA.out.keep ⟨rfl, rfl, rfl, Nat.le_refl _, fun _ _ => rfl⟩) | (go_at_call 146; with_reducible refine Calls.quiet_of (HRb.out _ ?_); exact HTA.out.keep ⟨rfl, rfl, rfl, Nat.le_refl _, fun _ _ => rfl⟩))
        go_wp2
        go_ret
        exact ⟨rfl, _, rfl⟩
      · have d1 : decide (pa ≤ pc) = false := decide_eq_false hle
        have hxe2 : x = false := by rw [hxe, d1]; rfl
        clear hxe
        subst hxe2
        have HRa := Lib.hid hRa
        have HRb := Lib.hid hRb
        clear hRa hRb
        go_enter Try.func125, Try.ntmps125
        go_upto_region 1 with fail
        go_quiet (first | (go_at_call 146; with_reducible refine Calls.quiet_of (HRa.out _ ?_); exact HTA.out.keep ⟨rfl, rfl, rfl, Nat.le_refl _, fun _ _ => rfl⟩) | (go_at_call 146; with_reducible refine Calls.quiet_of (HRb.out _ ?_); exact HTA.out.keep ⟨rfl, rfl, rfl, Nat.le_refl _, fun _ _ => rfl⟩))
        go_wp2
        go_ret
        exact ⟨rfl, _, rfl⟩
    · have hrb : reachedT T b = false := by simpa using hrb
      have hxe : x = false := by rw [hx]; unfold overT; rw [hra, hrb]; rfl
      subst hxe
      rw [hrb] at hRb
      clear hx hra hrb h1 h2 h3 h4 h5 h6 h7 h8 h9 l1 l2 l3 l4 l5 l6 h10 h11 h12
      have HRa := Lib.hid hRa
      have HRb := Lib.hid hRb
      clear hRa hRb
      go_enter Try.func125, Try.ntmps125
      go_upto_region 1 with fail
      go_quiet (first | (go_at_call 146; with_reducible refine Calls.quiet_of (HRa.out _ ?_); exact HTA.out.keep ⟨rfl, rfl, rfl, Nat.le_refl _, fun _ _ => rfl⟩) | (go_at_call 146; with_reducible refine Calls.quiet_of (HRb.out _ ?_); exact HTA.out.keep ⟨rfl, rfl, rfl, Nat.le_refl _, fun _ _ => rfl⟩))
      go_wp2
      go_ret
      exact ⟨rfl, _, rfl⟩
  · have hra : reachedT T a = false := by simpa using hra
    have hxe : x = false := by rw [hx]; unfold overT; rw [hra]; rfl
    subst hxe
    rw [hra] at hRa
    clear hx hra h1 h2 h3 h4 h5 h6 h7 h8 h9 l1 l2 l3 l4 l5 l6 h10 h11 h12
    have HRa := Lib.hid hRa
    have HRb := Lib.hid hRb
    clear hRa hRb
    go_enter Try.func125, Try.ntmps125
    go_upto_region 1 with fail
    go_quiet (first | (go_at_call 146; with_reducible refine Calls.quiet_of (HRa.out _ ?_); exact HTA.out.keep ⟨rfl, rfl, rfl, Nat.le_refl _, fun _ _ => rfl⟩) | (go_at_call 146; with_reducible refine Calls.quiet_of (HRb.out _ ?_); exact HTA.out.keep ⟨rfl, rfl, rfl, Nat.le_refl _, fun _ _ => rfl⟩))
    go_wp2
    go_ret
    exact ⟨rfl, _, rfl⟩
end Go.Proofs.Ytagagpappjkgbaa
namespace Go.Proofs.Ytagagpappjkgbaa
set_option linter.unusedVariables false
set_option linter.unusedSimpArgs false
open Go.RowKit Go.Sort

theorem so_drewN (w : World) (q : Nat) : Below w.heap.size w (w.drewN q) := ⟨rfl, rfl, rfl, Nat.le_refl _, fun _ _ => rfl⟩
def predsOf (bl : List SB) (b : Int) : List Int := ((bl[b.toNat]?).map SB.preds).getD []
def useOne (f : SF) (P Q : List Int) (T : TrP) (id op : Int) (i : Nat) (a : Int) : Bool :=
  decide (0 ≤ a ∧ a < f.ins.length) && (if op = 3 then decide (0 ≤ P.getD id.toNat 0 ∧ P.getD id.toNat 0 < f.blocks.length ∧ i < (predsOf f.blocks (P.getD id.toNat 0)).length) && overT T (P.getD a.toNat 0) ((predsOf f.blocks (P.getD id.toNat 0)).getD i 0)
    else if P.getD a.toNat 0 = P.getD id.toNat 0 then decide (Q.getD a.toNat 0 < Q.getD id.toNat 0) else overT T (P.getD a.toNat 0) (P.getD id.toNat 0))
def useRow (f : SF) (P Q : List Int) (T : TrP) (id op : Int) : Nat → List Int → Bool
  | _, [] => true
  | i, a :: rs => useOne f P Q T id op i a && useRow f P Q T id op (i + 1) rs
set_option maxRecDepth 100000 in
set_option maxHeartbeats 8000000 in
theorem uses_t (n0 sb : Nat) (V : SV) (fs : List SF) (f : SF) (wz : World) (ib ab n : Nat) (P Q : List Int) (tp tn : Nat) (T : TrP) (k : Nat) (w : World) (h : Lst n0 sb V fs f wz ib ab n P Q w) (hT : TreeAt w tp tn T) (hn : n = f.ins.length) (hk : k < n) (hab : (((f.ins[k]?).map SIn.args).getD []).length ≤ 1048576) (hm : useRow f P Q T (k : Int) (opOf f.ins (k : Int)) 0 (((f.ins[k]?).map SIn.args).getD []) = true) :
    Calls Try.prog 124 #[.pointer (some ⟨sb, 0, none⟩), .pointer (some ⟨tp, 0, none⟩), .int .i64 (k : Int)] w fun e w' => e = .returned (.bool true) ∧ Below w.heap.size w w' := by
  obtain ⟨inn, hin⟩ : ∃ inn, V.in_ = inn := ⟨_, rfl⟩
  obtain ⟨bA, hbA⟩ : ∃ bA, V.bA = bA := ⟨_, rfl⟩
  obtain ⟨bn, hbn⟩ : ∃ bn, V.bn = bn := ⟨_, rfl⟩
  obtain ⟨bc, hbc⟩ : ∃ bc, V.bc = bc := ⟨_, rfl⟩
  obtain ⟨iA, hiA⟩ : ∃ iA, V.iA = iA := ⟨_, rfl⟩
  obtain ⟨ic, hic⟩ : ∃ ic, V.ic = ic := ⟨_, rfl⟩
  have hil : inn = n := by rw [hn]; exact hin ▸ h.s.il
  subst hil
  have hbb : bn ≤ 1048576 := hbn ▸ h.s.bb
  have hib : inn ≤ 1048576 := hin ▸ h.s.ib
  have hbl : bn = f.blocks.length := hbn ▸ h.s.bl
  have HV : Hid (∀ A, Below w.heap.size w A → A.cell? ⟨sb, 5, none⟩ = some (.slice iA inn ic) ∧ A.cell? ⟨sb, 6, none⟩ = some (.slice bA bn bc) ∧ A.cell? ⟨sb, 7, none⟩ = some (.slice (some ⟨ib, 0, none⟩) inn inn) ∧ A.cell? ⟨sb, 8, none⟩ = some (.slice (some ⟨ab, 0, none⟩) inn inn)) := Lib.hid fun A hA => by
    rw [← hbA, ← hbn, ← hbc, ← hiA, ← hin, ← hic, hin]
    exact ⟨by rw [← hin]; exact Lib.cell_of_heap (h.keep hA).s.c 5, Lib.cell_of_heap (h.keep hA).s.c 6, (h.keep hA).c7, (h.keep hA).c8⟩
  have HR : Hid (∀ A, Below w.heap.size w A → SBs n0 A (.slice bA bn bc) f.blocks ∧ SIs n0 A (.slice iA inn ic) f.ins ∧ n0 ≤ A.heap.size ∧ IRow A ib P ∧ IRow A ab Q ∧ TreeAt A tp tn T) := Lib.hid fun A hA => by
    rw [← hbA, ← hbn, ← hbc, ← hiA, ← hin, ← hic]
    exact ⟨(h.keep hA).s.br, (h.keep hA).s.ir, (h.keep hA).s.hn, (h.keep hA).ip, (h.keep hA).iq, hT.keep hA⟩
  have hkl : k < f.ins.length := by omega
  have hbd : Below w.heap.size w w.drew := (Below.refl _ _).drew
  obtain ⟨gb, o, aA, ac, rfl, -, n1, n2, n3, n4, n5, hg⟩ := (HR.out _ hbd).2.1.at hkl
  obtain ⟨d, hd⟩ : ∃ d, d = f.ins[k] := ⟨_, rfl⟩
  rw [← hd] at n1 n2 n3 n4 n5 hg
  obtain ⟨b, hb⟩ : ∃ b, b = P.getD k 0 := ⟨_, rfl⟩
  have m1 := (HR.out _ hbd).2.2.2.1.cell (j := k) (by have := h.lp; omega)
  rw [← hb] at m1
  obtain ⟨v5, v6, v7, v8⟩ := HV.out _ hbd
  have hs0 : w.drew.cell? ⟨sb, 5, none⟩ = some (.slice (some ⟨gb, o, none⟩) inn ic) ∧ w.drew.cell? ⟨sb, 7, none⟩ = some (.slice (some ⟨ib, 0, none⟩) inn inn) ∧ w.drew.cell? ⟨gb, o + k * 5, none⟩ = some (.int .i64 d.op) ∧ w.drew.cell? ⟨gb, o + k * 5 + 1, none⟩ = some (.int .i64 d.ty) ∧ w.drew.cell? ⟨gb, o + k * 5 + 2, none⟩ = some (.slice aA d.args.length ac) ∧ w.drew.cell? ⟨gb, o + k * 5 + 3, none⟩ = some (.int .i64 d.n) ∧ w.drew.cell? ⟨gb, o + k * 5 + 4, none⟩ = some (.int .i64 d.to_) ∧ w.drew.cell? ⟨ib, k, none⟩ = some (.int .i64 b) := ⟨v5, v7, n1, n2, n3, n4, n5, m1⟩
  clear v5 v6 v7 v8 n1 n2 n3 n4 n5 m1
  have Hd := Lib.hid hd
  have Hb := Lib.hid hb
  have HS : Hid (∀ A, Below w.heap.size w A → A.cell? ⟨sb, 5, none⟩ = some (.slice (some ⟨gb, o, none⟩) inn ic) ∧ A.cell? ⟨sb, 7, none⟩ = some (.slice (some ⟨ib, 0, none⟩) inn inn) ∧ A.cell? ⟨gb, o + k * 5, none⟩ = some (.int .i64 d.op) ∧ A.cell? ⟨gb, o + k * 5 + 1, none⟩ = some (.int .i64 d.ty) ∧ A.cell? ⟨gb, o + k * 5 + 2, none⟩ = some (.slice aA d.args.length ac) ∧ A.cell? ⟨gb, o + k * 5 + 3, none⟩ = some (.int .i64 d.n) ∧ A.cell? ⟨gb, o + k * 5 + 4, none⟩ = some (.int .i64 d.to_) ∧ A.cell? ⟨ib, k, none⟩ = some (.int .i64 b)) := Lib.hid fun A hA => by
    obtain ⟨g1, g2, g3, g4, g5, g6, g7, g8⟩ := hs0
    have K : ∀ {x : Addr} {v : Value}, w.drew.cell? x = some v → A.cell? x = some v := fun {x v} hx => (hA.cell (gr_clt hx)).trans hx
    exact ⟨K g1, K g2, K g3, K g4, K g5, K g6, K g7, K g8⟩
  have hxa : ((f.ins[k]?).map SIn.args).getD [] = d.args := by rw [hd, List.getElem?_eq_getElem hkl]; rfl
  rw [hxa] at hm hab
  rw [opOf_at hkl, ← hd] at hm
  have Hm := Lib.hid hm
  have HL := Lib.hid h
  have HG : Hid (∀ A, Below w.heap.size w A → GNs n0 A (.slice aA d.args.length ac) d.args) := Lib.hid fun A hA => hg.keep (w := w.drew) (Below.mono (B := w.heap.size) ⟨hA.os, hA.tape, hA.output, hA.size, hA.block⟩ (HR.out w (Below.refl _ _)).2.2.1)
  have Hn := Lib.hid hn
  have Hbl := Lib.hid hbl
  clear hd hb hxa hm h hT hg hn hbd hbA hbn hbc hiA hic hin hbl
  go_enter Try.func124, Try.ntmps124
  go_upto_region 1 with fail
  refine wp_region_noPanic ?_
  refine wp_region_held_drew (S := fun A : World => A.cell? ⟨sb, 5, none⟩ = some (.slice (some ⟨gb, o, none⟩) inn ic) ∧ A.cell? ⟨sb, 7, none⟩ = some (.slice (some ⟨ib, 0, none⟩) inn inn) ∧ A.cell? ⟨gb, o + k * 5, none⟩ = some (.int .i64 d.op) ∧ A.cell? ⟨gb, o + k * 5 + 1, none⟩ = some (.int .i64 d.ty) ∧ A.cell? ⟨gb, o + k * 5 + 2, none⟩ = some (.slice aA d.args.length ac) ∧ A.cell? ⟨gb, o + k * 5 + 3, none⟩ = some (.int .i64 d.n) ∧ A.cell? ⟨gb, o + k * 5 + 4, none⟩ = some (.int .i64 d.to_) ∧ A.cell? ⟨ib, k, none⟩ = some (.int .i64 b)) (by kernel_rfl) hs0 (fun hHeld => ?_)
  refine wpAnyH_take (i := 0) (v := ?_) rfl (by kernel_rfl) (by kernel_rfl) (by kernel_rfl) (fun _ _ _ h => h) (Or.inl ⟨by kernel_rfl, ?_⟩) (by assumption) ?_
  rotate_left
  · (intro w hSw; (try dsimp only at hSw); first | (go_simp; done) | (go_simp; with_reducible rfl))
  try simp only [Act.put, List.setIfInBounds_toArray, List.set_cons_zero, List.set_cons_succ]
  refine wpAnyH_take (i := 1) (v := ?_) rfl (by kernel_rfl) (by kernel_rfl) (by kernel_rfl) (fun _ _ _ h => h) (Or.inl ⟨by kernel_rfl, ?_⟩) (by assumption) ?_
  rotate_left
  · (intro w hSw; (try dsimp only at hSw); first | (go_simp; done) | (go_simp; with_reducible rfl))
  try simp only [Act.put, List.setIfInBounds_toArray, List.set_cons_zero, List.set_cons_succ]
  refine wpAnyH_take (i := 2) (v := ?_) rfl (by kernel_rfl) (by kernel_rfl) (by kernel_rfl) (fun _ _ _ h => h) (Or.inl ⟨by kernel_rfl, ?_⟩) (by assumption) ?_
  rotate_left
  · (intro w hSw; (try dsimp only at hSw); first | (go_simp; done) | (go_simp; with_reducible rfl))
  try simp only [Act.put, List.setIfInBounds_toArray, List.set_cons_zero, List.set_cons_succ]
  refine wpAnyH_take (i := 3) (v := ?_) rfl (by kernel_rfl) (by kernel_rfl) (by kernel_rfl) (fun _ _ _ h => h) (Or.inl ⟨by kernel_rfl, ?_⟩) (by assumption) ?_
  rotate_left
  · (intro w hSw; (try dsimp only at hSw); first | (go_simp; done) | (go_simp; with_reducible rfl))
  try simp only [Act.put, List.setIfInBounds_toArray, List.set_cons_zero, List.set_cons_succ]
  refine wpAnyH_take (i := 4) (v := ?_) rfl (by kernel_rfl) (by kernel_rfl) (by kernel_rfl) (fun _ _ _ h => h) (Or.inl ⟨by kernel_rfl, ?_⟩) (by assumption) ?_
  rotate_left
  · (intro w hSw; (try dsimp only at hSw); first | (go_simp; done) | (go_simp; with_reducible rfl))
  try simp only [Act.put, List.setIfInBounds_toArray, List.set_cons_zero, List.set_cons_succ]
  refine wpAnyH_take (i := 5) (v := ?_) rfl (by kernel_rfl) (by kernel_rfl) (by kernel_rfl) (fun _ _ _ h => h) (Or.inl ⟨by kernel_rfl, ?_⟩) (by assumption) ?_
  rotate_left
  · (intro w hSw; (try dsimp only at hSw); first | (go_simp; done) | (go_simp; with_reducible rfl))
  try simp only [Act.put, List.setIfInBounds_toArray, List.set_cons_zero, List.set_cons_succ]
  refine wpAnyH_take (i := 6) (v := ?_) rfl (by kernel_rfl) (by kernel_rfl) (by kernel_rfl) (fun _ _ _ h => h) (Or.inl ⟨by kernel_rfl, ?_⟩) (by assumption) ?_
  rotate_left
  · (intro w hSw; (try dsimp only at hSw); first | (go_simp; done) | (go_simp; with_reducible rfl))
  try simp only [Act.put, List.setIfInBounds_toArray, List.set_cons_zero, List.set_cons_succ]
  refine wpAnyH_take (i := 7) (v := ?_) rfl (by kernel_rfl) (by kernel_rfl) (by kernel_rfl) (fun _ _ _ h => h) (Or.inl ⟨by kernel_rfl, ?_⟩) (by assumption) ?_
  rotate_left
  · (intro w hSw; (try dsimp only at hSw); first | (go_simp; done) | (go_simp; with_reducible rfl))
  try simp only [Act.put, List.setIfInBounds_toArray, List.set_cons_zero, List.set_cons_succ]
  refine wpAnyH_take (i := 8) (v := ?_) rfl (by kernel_rfl) (by kernel_rfl) (by kernel_rfl) (fun _ _ _ h => h) (Or.inl ⟨by kernel_rfl, ?_⟩) (by assumption) ?_
  rotate_left
  · (intro w hSw; (try dsimp only at hSw); first | (go_simp; done) | (go_simp; with_reducible rfl))
  try simp only [Act.put, List.setIfInBounds_toArray, List.set_cons_zero, List.set_cons_succ]
  refine wpAnyH_take (i := 9) (v := ?_) rfl (by kernel_rfl) (by kernel_rfl) (by kernel_rfl) (fun _ _ _ h => h) (Or.inl ⟨by kernel_rfl, ?_⟩) (by assumption) ?_
  rotate_left
  · (intro w hSw; (try dsimp only at hSw); first | (go_simp; done) | (go_simp; with_reducible rfl))
  try simp only [Act.put, List.setIfInBounds_toArray, List.set_cons_zero, List.set_cons_succ]
  refine wpAnyH_take (i := 10) (v := ?_) rfl (by kernel_rfl) (by kernel_rfl) (by kernel_rfl) (fun _ _ _ h => h) (Or.inl ⟨by kernel_rfl, ?_⟩) (by assumption) ?_
  rotate_left
  · (intro w hSw; (try dsimp only at hSw); first | (go_simp; done) | (go_simp; with_reducible rfl))
  try simp only [Act.put, List.setIfInBounds_toArray, List.set_cons_zero, List.set_cons_succ]
  refine wpAnyH_take (i := 11) (v := ?_) rfl (by kernel_rfl) (by kernel_rfl) (by kernel_rfl) (fun _ _ _ h => h) (Or.inl ⟨by kernel_rfl, ?_⟩) (by assumption) ?_
  rotate_left
  · (intro w hSw; (try dsimp only at hSw); first | (go_simp; done) | (go_simp; with_reducible rfl))
  try simp only [Act.put, List.setIfInBounds_toArray, List.set_cons_zero, List.set_cons_succ]
  refine wpAnyH_take (i := 12) (v := ?_) rfl (by kernel_rfl) (by kernel_rfl) (by kernel_rfl) (fun _ _ _ h => h) (Or.inl ⟨by kernel_rfl, ?_⟩) (by assumption) ?_
  rotate_left
  · (intro w hSw; (try dsimp only at hSw); first | (go_simp; done) | (go_simp; with_reducible rfl))
  try simp only [Act.put, List.setIfInBounds_toArray, List.set_cons_zero, List.set_cons_succ]
  refine wpAnyH_take (i := 13) (v := ?_) rfl (by kernel_rfl) (by kernel_rfl) (by kernel_rfl) (fun _ _ _ h => h) (Or.inl ⟨by kernel_rfl, ?_⟩) (by assumption) ?_
  rotate_left
  · (intro w hSw; (try dsimp only at hSw); first | (go_simp; done) | (go_simp; with_reducible rfl))
  try simp only [Act.put, List.setIfInBounds_toArray, List.set_cons_zero, List.set_cons_succ]
  refine wpAnyH_take (i := 14) (v := ?_) rfl (by kernel_rfl) (by kernel_rfl) (by kernel_rfl) (fun _ _ _ h => h) (Or.inl ⟨by kernel_rfl, ?_⟩) (by assumption) ?_
  rotate_left
  · (intro w hSw; (try dsimp only at hSw); first | (go_simp; done) | (go_simp; with_reducible rfl))
  try simp only [Act.put, List.setIfInBounds_toArray, List.set_cons_zero, List.set_cons_succ]
  refine wpAnyH_ready (rs := [15]) (by kernel_rfl) (by simp) ?_
  refine AllReadyH.cons rfl (fun K hK => ?_) (AllReadyH.nil)
  go_simp
  refine hK.out _ _ ?_ (fun hHeld => ?_)
  · ((try dsimp only); first | with_reducible assumption | exact HS.out _ ((Below.refl _ _).alloc (Nat.le_refl _) _).drew | exact HS.out _ ((Below.refl _ _).drew.alloc (Nat.le_refl _) _) | exact HS.out _ ((((Below.refl _ _).alloc (Nat.le_refl _) _).drew).setCell (Nat.le_refl _) _))
  clear hK K
  try simp only [Act.put, List.setIfInBounds_toArray, List.set_cons_zero, List.set_cons_succ]
  refine wpAnyH_ready (rs := [16]) (by kernel_rfl) (by simp) ?_
  refine AllReadyH.cons rfl (fun K hK => ?_) (AllReadyH.nil)
  go_simp
  refine hK.out _ _ ?_ (fun hHeld => ?_)
  · ((try dsimp only); first | with_reducible assumption | exact HS.out _ ((Below.refl _ _).alloc (Nat.le_refl _) _).drew | exact HS.out _ ((Below.refl _ _).drew.alloc (Nat.le_refl _) _) | exact HS.out _ ((((Below.refl _ _).alloc (Nat.le_refl _) _).drew).setCell (Nat.le_refl _) _))
  clear hK K
  try simp only [Act.put, List.setIfInBounds_toArray, List.set_cons_zero, List.set_cons_succ]
  refine wpAnyH_ready (rs := [17]) (by kernel_rfl) (by simp) ?_
  refine AllReadyH.cons rfl (fun K hK => ?_) (AllReadyH.nil)
  go_simp
  refine hK.out _ _ ?_ (fun hHeld => ?_)
  · ((try dsimp only); first | with_reducible assumption | exact HS.out _ ((Below.refl _ _).alloc (Nat.le_refl _) _).drew | exact HS.out _ ((Below.refl _ _).drew.alloc (Nat.le_refl _) _) | exact HS.out _ ((((Below.refl _ _).alloc (Nat.le_refl _) _).drew).setCell (Nat.le_refl _) _))
  clear hK K
  try simp only [Act.put, List.setIfInBounds_toArray, List.set_cons_zero, List.set_cons_succ]
  refine wpAnyH_done (by kernel_rfl) ?_ _
  refine NoPanic.normal ?_
  clear hs0 HS
  obtain ⟨Z, hZ⟩ : ∃ Z, Z = (w.alloc (.cells #[.int .i64 d.op, .int .i64 d.ty, .slice aA d.args.length ac, .int .i64 d.n, .int .i64 d.to_] 71)).drew := ⟨_, rfl⟩
  rw [← hZ]
  have hbZ : Below w.heap.size w Z := by rw [hZ]; exact ((Below.refl _ _).alloc (Nat.le_refl _) _).drew
  have h0Z : Z.heap[w.heap.size]? = some (.cells #[.int .i64 d.op, .int .i64 d.ty, .slice aA d.args.length ac, .int .i64 d.n, .int .i64 d.to_] 71 (0, 0)) := by rw [hZ]; exact heap_alloc_new w _
  have hzZ : w.heap.size < Z.heap.size := gr_in h0Z
  have HX : Hid (∀ Y, Below Z.heap.size Z Y → Y.cell? ⟨w.heap.size, 0, none⟩ = some (.int .i64 d.op) ∧ Y.cell? ⟨w.heap.size, 2, none⟩ = some (.slice aA d.args.length ac) ∧ Below w.heap.size w Y) := Lib.hid fun Y hY => by
    have e := (hY.block w.heap.size hzZ).trans h0Z
    exact ⟨Lib.cell_of_heap e 0, Lib.cell_of_heap e 2, hbZ.trans (hY.mono hbZ.size)⟩
  have y2 := (HX.out Z (Below.refl _ _)).2.1
  have HN0 : Hid (Below Z.heap.size Z Z ∧ useRow f P Q T (k : Int) d.op 0 (d.args.drop 0) = true) := Lib.hid ⟨Below.refl _ _, Hm.out⟩
  obtain ⟨an, han⟩ : ∃ an, an = d.args.length := ⟨_, rfl⟩
  rw [← han] at y2 HX HG hab
  have Han := Lib.hid han
  clear hZ hbZ h0Z han Hm
  go_upto_block 0 with fail
  clear y2
  go_wp2_with fail
  go_loopw [29] (fun u29 wr => ∃ j : Nat, j ≤ an ∧ u29 = .int .i64 j ∧ Hid (Below Z.heap.size Z wr ∧ useRow f P Q T (k : Int) d.op j (d.args.drop j) = true)) (fun u29 _ => an - (intOf u29).toNat)
  case atStart => exact ⟨0, Nat.zero_le _, rfl, HN0⟩
  case round =>
    clear HN0
    obtain ⟨j, hj, rfl, HN⟩ := hrel
    obtain ⟨D, hD⟩ : ∃ D, D = wr := ⟨_, rfl⟩
    rw [← hD] at HN ⊢
    clear hD
    by_cases hlj : j < an
    · obtain ⟨hDZ, hmr⟩ := HN.out
      have hjl : j < d.args.length := by rw [← Han.out]; exact hlj
      obtain ⟨c0, -, hDw⟩ := HX.out D hDZ
      obtain ⟨tb, tq, rfl, c1⟩ := (HG.out D hDw).rd hlj
      rw [List.drop_eq_getElem_cons hjl] at hmr
      unfold useRow useOne at hmr
      simp only [Bool.and_eq_true, decide_eq_true_eq] at hmr
      have hge : d.args.getD j 0 = d.args[j] := by simp [List.getD, hjl]
      rw [hge] at c1
      obtain ⟨⟨ha, hu⟩, hrest⟩ := hmr
      obtain ⟨a, hte⟩ : ∃ a : Nat, d.args[j] = a := ⟨d.args[j].toNat, by omega⟩
      rw [hte] at hu c1 ha
      have hbe := Hb.out
      simp only [Int.toNat_natCast, ← hbe] at hu
      have hai : a < inn := by rw [Hn.out]; omega
      obtain ⟨hbr, -, hnD, hIp, hIq, hTD⟩ := HR.out D hDw
      have ma := hIp.cell (j := a) (by have := HL.out.lp; omega)
      obtain ⟨pa, hpa⟩ : ∃ pa, pa = P.getD a 0 := ⟨_, rfl⟩
      rw [← hpa] at ma
      simp only [← hpa] at hu
      obtain ⟨v5, v6, v7, v8⟩ := HV.out D hDw
      by_cases h3 : d.op = 3
      · clear hbe
        simp only [if_pos h3, Bool.and_eq_true, decide_eq_true_eq] at hu
        obtain ⟨⟨hb0, hb1, hpl⟩, hov⟩ := hu
        have e3 : (d.op == 3) = true := by simpa using h3
        obtain ⟨bk, hbk⟩ : ∃ bk : Nat, b = bk := ⟨b.toNat, by omega⟩
        subst hbk
        have hbl2 : bk < f.blocks.length := by omega
        have hbn2 : bk < bn := by rw [Hbl.out]; exact hbl2
        have hpo : predsOf f.blocks (bk : Int) = f.blocks[bk].preds := by unfold predsOf; rw [Int.toNat_natCast, List.getElem?_eq_getElem hbl2]; rfl
        rw [hpo] at hpl hov
        obtain ⟨gb2, o2, lA, lc, pA', pc', tA, tc, rfl, -, -, q1, -, -, -, -, hpr, -⟩ := hbr.at hbl2
        obtain ⟨pb, pq, rfl, q2⟩ := hpr.rd hpl
        obtain ⟨pv, hpv⟩ : ∃ pv, pv = f.blocks[bk].preds.getD j 0 := ⟨_, rfl⟩
        obtain ⟨pn, hpn⟩ : ∃ pn, pn = f.blocks[bk].preds.length := ⟨_, rfl⟩
        rw [← hpv] at q2 hov
        rw [← hpn] at q1 hpl
        have hOv := so_call D fun A hA => (over_g tp tn T pa pv A (hTD.keep hA)).mono fun e w' hh => (by
          obtain ⟨h1, q, h2⟩ := hh
          rw [hov] at h1
          exact ⟨h1, by rw [h2]; exact so_drewN _ q⟩ : e = .returned (.bool true) ∧ Below A.heap.size A w')
        have z1 := cell_regrown q1
        have z2 := cell_regrown q2
        have z3 := cell_regrown ma
        have z6 := cell_regrown v6
        have z7 := cell_regrown v7
        have HDZ := Lib.hid hDZ
        have Hre := Lib.hid hrest
        clear hDZ hjl hge ha hte hrest hbr hIp hIq hTD hpr hpa hpv hpn hpo hov hb0 hb1 hbl2 h3 q1 q2 v8 hDw hnD HN
        go_upto_region 6 with fail
        clear c0 c1 ma v5 v6 v7
        refine wp_region_quiet_below (by kernel_rfl) (by kernel_rfl) ?_
        repeat (go_big_quiet_step (first | exact hOv _))
        refine wpQuiet_nil ?_
        intro Y hw'
        obtain ⟨⟨dq, osq⟩, hw''⟩ := hw'
        have HN2 : Hid (Below Z.heap.size Z Y ∧ useRow f P Q T (k : Int) d.op (j + 1) (d.args.drop (j + 1)) = true) := Lib.hid ⟨by rw [hw'']; exact HDZ.out.trans ((below_regrown D dq osq).mono HDZ.out.size), Hre.out⟩
        clear hw'' hOv z1 z2 z3 z6 z7 HDZ
        go_wp2_with fail
        go_roundw
        case rel => exact ⟨j + 1, by omega, by go_num, HN2⟩
        case measure => simp [intOf]; omega
      · simp only [if_neg h3] at hu
        have e3 : (d.op == 3) = false := by simpa using h3
        have HDZ := Lib.hid hDZ
        have HDw := Lib.hid hDw
        have Hre := Lib.hid hrest
        by_cases hq : pa = b
        · simp only [if_pos hq, decide_eq_true_eq] at hu
          have e4 : (pa == b) = true := by simpa using hq
          have ca := hIq.cell (j := a) (by have := HL.out.lq; omega)
          have ck := hIq.cell (j := k) (by have := HL.out.lq; omega)
          obtain ⟨qa, hqa⟩ : ∃ qa, qa = Q.getD a 0 := ⟨_, rfl⟩
          obtain ⟨qk, hqk⟩ : ∃ qk, qk = Q.getD k 0 := ⟨_, rfl⟩
          rw [← hqa] at ca
          rw [← hqk] at ck
          simp only [← hqa, ← hqk] at hu
          have e5 : decide (qa ≥ qk) = false := decide_eq_false (by omega)
          have za := cell_regrown ca
          have zk := cell_regrown ck
          have z8 := cell_regrown v8
          clear hDZ hDw hjl hge ha hte hrest hbr hIp hIq hTD hpa h3 hnD HN hbe hu hqa hqk hq ca ck
          go_upto_region 9 with fail
          clear c0 c1 ma v5 v6 v7 v8
          refine wp_region_quiet_below (by kernel_rfl) (by kernel_rfl) ?_
          repeat (go_big_quiet_step (fail))
          refine wpQuiet_nil ?_
          intro Y hw'
          obtain ⟨⟨dq, osq⟩, hw''⟩ := hw'
          have HN2 : Hid (Below Z.heap.size Z Y ∧ useRow f P Q T (k : Int) d.op (j + 1) (d.args.drop (j + 1)) = true) := Lib.hid ⟨by rw [hw'']; exact HDZ.out.trans ((below_regrown D dq osq).mono HDZ.out.size), Hre.out⟩
          clear hw'' za zk z8 HDZ
          go_wp2_with fail
          go_roundw
          case rel => exact ⟨j + 1, by omega, by go_num, HN2⟩
          case measure => simp [intOf]; omega
        · simp only [if_neg hq] at hu
          have e4 : (pa == b) = false := by simpa using hq
          have hOv : Calls Try.prog 125 #[.pointer (some ⟨tp, 0, none⟩), .int .i64 pa, .int .i64 b] D fun e w' => e = .returned (.bool true) ∧ Below D.heap.size D w' := (over_g tp tn T pa b D hTD).mono fun e w' hh => by
            obtain ⟨h1, q, h2⟩ := hh
            rw [hu] at h1
            exact ⟨h1, by rw [h2]; exact so_drewN _ q⟩
          clear hDZ hDw hjl hge ha hte hrest hbr hIp hIq hTD hpa h3 hnD HN hbe hu hq v8
          go_wp2_with (first | (go_at_call 125; refine hOv.mono ?_; rintro e w7 ⟨rfl, hb7⟩; have HN2 : Hid (Below Z.heap.size Z w7 ∧ useRow f P Q T (k : Int) d.op (j + 1) (d.args.drop (j + 1)) = true) := Lib.hid ⟨HDZ.out.trans (hb7.mono HDZ.out.size), Hre.out⟩; clear hb7 hOv))
          go_roundw
          case rel => exact ⟨j + 1, by omega, by go_num, HN2⟩
          case measure => simp [intOf]; omega
    · obtain rfl : an = j := by omega
      have HE : Hid (Below w.heap.size w D) := Lib.hid (HX.out D HN.out.1).2.2
      go_wp2_with fail
      go_ret
      exact ⟨rfl, HE.out⟩
end Go.Proofs.Ytagagpappjkgbaa
namespace Go.Proofs.Ytagagpappjkgbaa
set_option linter.unusedVariables false
set_option linter.unusedSimpArgs false
open Go.RowKit Go.Sort

def idOk (f : SF) (P Q : List Int) (T : TrP) (a : Int) : Bool :=
  decide (0 ≤ a ∧ a < f.ins.length) && (decide ((((f.ins[a.toNat]?).map SIn.args).getD []).length ≤ 1048576) && useRow f P Q T a (opOf f.ins a) 0 (((f.ins[a.toNat]?).map SIn.args).getD []))
def standOne (f : SF) (P Q : List Int) (T : TrP) (i : Nat) (k : SB) : Bool :=
  k.list.all (idOk f P Q T) && (!(hasArgP f.ret k.kind) || (decide (0 ≤ k.arg ∧ k.arg < f.ins.length) && overT T (P.getD k.arg.toNat 0) (i : Int)))
set_option maxRecDepth 100000 in
set_option maxHeartbeats 8000000 in
theorem stands_t (n0 sb : Nat) (V : SV) (fs : List SF) (f : SF) (wz : World) (ib ab : Nat) (P Q : List Int) (T : TrP) (w : World) (h : Lst n0 sb V fs f wz ib ab f.ins.length P Q w) (hok : ∀ d ∈ f.blocks, okB d) (hlen : ∀ k ∈ f.blocks, k.list.length ≤ 1048576) (hTE : ∀ lvs : List Value, lvs.length = f.blocks.length → TrEq (gOf f.blocks lvs) T) (hm : ∀ (i : Nat) (hi : i < f.blocks.length), standOne f P Q T i f.blocks[i] = true) :
    Calls Try.prog 100 #[.pointer (some ⟨sb, 0, none⟩)] w fun e w' => e = .returned (.bool true) ∧ Below w.heap.size w w' := by
  obtain ⟨bA, hbA⟩ : ∃ bA, V.bA = bA := ⟨_, rfl⟩
  obtain ⟨bn, hbn⟩ : ∃ bn, V.bn = bn := ⟨_, rfl⟩
  obtain ⟨bc, hbc⟩ : ∃ bc, V.bc = bc := ⟨_, rfl⟩
  have hbb : bn ≤ 1048576 := hbn ▸ h.s.bb
  have hbl : bn = f.blocks.length := hbn ▸ h.s.bl
  obtain ⟨lvs, hlv, hgf⟩ := h.s.gf hok
  have hN := new_g n0 (fnV V) (gOf f.blocks lvs) T w hgf h.s.hn (hTE lvs hlv)
  unfold fnV at hN
  rw [hbA, hbn, hbc] at hN
  have HV : Hid (∀ A, Below w.heap.size w A → A.cell? ⟨sb, 6, none⟩ = some (.slice bA bn bc) ∧ A.cell? ⟨sb, 7, none⟩ = some (.slice (some ⟨ib, 0, none⟩) f.ins.length f.ins.length) ∧ SBs n0 A (.slice bA bn bc) f.blocks ∧ n0 ≤ A.heap.size) := Lib.hid fun A hA => by
    rw [← hbA, ← hbn, ← hbc]
    exact ⟨Lib.cell_of_heap (h.keep hA).s.c 6, (h.keep hA).c7, (h.keep hA).s.br, (h.keep hA).s.hn⟩
  have HL : Hid (∀ A, Below w.heap.size w A → Lst n0 sb V fs f wz ib ab f.ins.length P Q A) := Lib.hid fun A hA => h.keep hA
  obtain ⟨x2, x3, x4, x5, x6⟩ := h.s.s7
  rw [hbA, hbn, hbc] at x6
  have hil : f.ins.length ≤ 1048576 := by rw [← h.s.il]; exact h.s.ib
  obtain ⟨inn, hinn⟩ : ∃ inn, inn = f.ins.length := ⟨_, rfl⟩
  rw [← hinn] at HV hil
  have Hin := Lib.hid hinn
  have Hbl := Lib.hid hbl
  have Hlen := Lib.hid hlen
  have Hm := Lib.hid hm
  clear h hok hlen hTE hm hbA hbn hbc hbl hlv hgf hinn
  go_enter Try.func100, Try.ntmps100
  go_upto_region 2 with (first | (go_at_call 123; refine hN.mono ?_; rintro e w5 ⟨tp, rfl, hT5, hb5⟩; have HT := Lib.hid hT5; have Hb5 := Lib.hid hb5; clear hT5 hb5 hN))
  have x6' := (HV.out w5 Hb5.out).1
  have HN0 : Hid (Below w5.heap.size w5 w5) := Lib.hid (Below.refl _ _)
  clear x2 x3 x4 x5 x6
  go_upto_block 0 with fail
  clear x6'
  go_wp2_with fail
  go_loopw [19] (fun u19 wr => ∃ i : Nat, i ≤ bn ∧ u19 = .int .i64 i ∧ Hid (Below w5.heap.size w5 wr)) (fun u19 _ => bn - (intOf u19).toNat)
  case atStart => exact ⟨0, Nat.zero_le _, rfl, HN0⟩
  case round =>
    clear HN0
    obtain ⟨i, hi, rfl, HN⟩ := hrel
    obtain ⟨C, hC⟩ : ∃ C, C = wr := ⟨_, rfl⟩
    rw [← hC] at HN ⊢
    clear hC
    have hCw : Below w.heap.size w C := Hb5.out.trans (HN.out.mono Hb5.out.size)
    by_cases hli : i < bn
    · have hil2 : i < f.blocks.length := by rw [← Hbl.out]; exact hli
      obtain ⟨-, -, hbr, hnC⟩ := HV.out C hCw
      obtain ⟨gb, o, lA, lc, pA', pc', tA, tc, rfl, hgb, k0, k1, k2, k3, k4, hlr, -, -⟩ := hbr.at hil2
      obtain ⟨d, hd⟩ : ∃ d, d = f.blocks[i] := ⟨_, rfl⟩
      have hlb := Hlen.out d (by rw [hd]; exact List.getElem_mem hil2)
      have hst := Hm.out i hil2
      rw [← hd] at k0 k1 k2 k3 k4 hlr hst
      unfold standOne at hst
      simp only [Bool.and_eq_true] at hst
      have Hst := Lib.hid hst
      obtain ⟨Z, hZ, hbZ, hzZ, h0Z⟩ := gr_one C #[.slice lA d.list.length lc, .slice pA' d.preds.length pc', .int .i64 d.kind, .int .i64 d.arg, .slice tA d.to_.length tc] 76
      have HX : Hid (∀ Y, Below Z.heap.size Z Y → Y.cell? ⟨C.heap.size, 2, none⟩ = some (.int .i64 d.kind) ∧ Y.cell? ⟨C.heap.size, 3, none⟩ = some (.int .i64 d.arg) ∧ Y.cell? ⟨C.heap.size, 4, none⟩ = some (.slice tA d.to_.length tc) ∧ Below w5.heap.size w5 Y ∧ Below w.heap.size w Y ∧ GNs n0 Y (.slice lA d.list.length lc) d.list) := Lib.hid fun Y hY => by
        have e := (hY.block C.heap.size (by omega)).trans h0Z
        have e5 : Below w5.heap.size w5 Y := HN.out.trans ((hbZ.trans (hY.mono hbZ.size)).mono HN.out.size)
        exact ⟨Lib.cell_of_heap e 2, Lib.cell_of_heap e 3, Lib.cell_of_heap e 4, e5, Hb5.out.trans (e5.mono Hb5.out.size), (hlr.keep (hbZ.mono hnC)).keep (hY.mono (by omega))⟩
      have y0 := Lib.cell_of_heap h0Z 0
      have HNj : Hid (Below Z.heap.size Z Z) := Lib.hid (Below.refl _ _)
      have HZ := Lib.hid hZ
      obtain ⟨ln, hln⟩ : ∃ ln, ln = d.list.length := ⟨_, rfl⟩
      rw [← hln] at y0 hlb HZ HX k0
      have Hln := Lib.hid hln
      clear hln hZ hbZ hzZ h0Z hlr hd hil2 HN hgb hnC hbr hst hCw
      go_upto_region 5 with fail
      rw [← HZ.out]
      clear k0 k1 k2 k3 k4
      go_upto_block 2 with fail
      clear y0
      go_wp2_with fail
      go_loopw [27] (fun u27 wr => ∃ j : Nat, j ≤ ln ∧ u27 = .int .i64 j ∧ Hid (Below Z.heap.size Z wr)) (fun u27 _ => ln - (intOf u27).toNat)
      case atStart => exact ⟨0, Nat.zero_le _, rfl, HNj⟩
      case round =>
        clear HNj
        obtain ⟨j, hj, rfl, HN⟩ := hrel
        obtain ⟨D, hD⟩ : ∃ D, D = wr := ⟨_, rfl⟩
        rw [← hD] at HN ⊢
        clear hD
        obtain ⟨z2, z3, z4, hD5, hDw, hlr⟩ := HX.out D HN.out
        by_cases hlj : j < ln
        · have hjl : j < d.list.length := by rw [← Hln.out]; exact hlj
          obtain ⟨tb, tq, rfl, c1⟩ := hlr.rd hlj
          have hge : d.list.getD j 0 = d.list[j] := by simp [List.getD, hjl]
          rw [hge] at c1
          have hid := List.all_eq_true.1 Hst.out.1 d.list[j] (List.getElem_mem hjl)
          unfold idOk at hid
          simp only [Bool.and_eq_true, decide_eq_true_eq] at hid
          obtain ⟨ha, hab, hu⟩ := hid
          obtain ⟨a, hte⟩ : ∃ a : Nat, d.list[j] = a := ⟨d.list[j].toNat, by omega⟩
          rw [hte] at ha hab hu c1
          simp only [Int.toNat_natCast] at hab hu
          have hU := uses_t n0 sb V fs f wz ib ab f.ins.length P Q tp _ T a D (HL.out D hDw) (HT.out.keep hD5) rfl (by omega) hab hu
          have HD := HN
          clear hjl hge ha hab hu hte hlr HN z2 z3 z4 hD5 hDw
          go_wp2_with (first | (go_at_call 124; refine hU.mono ?_; rintro e w7 ⟨rfl, hb7⟩; have HN2 : Hid (Below Z.heap.size Z w7) := Lib.hid (HD.out.trans (hb7.mono HD.out.size)); clear hb7 hU))
          go_roundw
          case rel => exact ⟨j + 1, by omega, by go_num, HN2⟩
          case measure => simp [intOf]; omega
        · obtain rfl : ln = j := by omega
          have L := HL.out D hDw
          have hH := so_call D fun A hA => hasArg_g sb V.fA V.fn V.fc V.mn V.s V.pA V.pn V.pc V.r V.iA V.in_ V.ic V.bA V.bn V.bc _ _ d.kind d.arg tA d.to_.length tc A (L.keep hA).s.c
          rw [L.s.rr] at hH
          have hs2 := Hst.out.2
          have q2 := cell_regrown z2
          have q3 := cell_regrown z3
          have q4 := cell_regrown z4
          have q7 := cell_regrown (HV.out D hDw).2.1
          have hTD := HT.out.keep hD5
          cases hq : hasArgP f.ret d.kind with
          | false =>
            rw [hq] at hH
            clear L hs2 q7 hTD hlr hDw hq z2 z3 z4
            go_upto_region 11 with fail
            refine wp_region_quiet_below (by kernel_rfl) (by kernel_rfl) ?_
            repeat (go_big_quiet_step (first | exact hH _))
            refine wpQuiet_nil ?_
            intro D2 hw'
            obtain ⟨⟨dq, osq⟩, hw''⟩ := hw'
            have HN2 : Hid (Below w5.heap.size w5 D2) := Lib.hid (by rw [hw'']; exact hD5.trans ((below_regrown D dq osq).mono hD5.size))
            clear hw'' hH q2 q3 q4 hD5
            go_wp2_with fail
            go_roundw
            case rel => exact ⟨i + 1, by omega, by go_num, HN2⟩
            case measure => simp [intOf]; omega
          | true =>
            rw [hq] at hH hs2
            simp only [Bool.not_true, Bool.false_or, Bool.and_eq_true, decide_eq_true_eq] at hs2
            obtain ⟨⟨ha0, ha1⟩, hov⟩ := hs2
            obtain ⟨a, haa⟩ : ∃ a : Nat, d.arg = a := ⟨d.arg.toNat, by omega⟩
            rw [haa] at ha1 hov hH q3
            simp only [Int.toNat_natCast] at hov
            have hai : a < inn := by rw [Hin.out]; omega
            have m1 := L.ip.cell (j := a) (by rw [L.lp]; omega)
            obtain ⟨pa, hpa⟩ : ∃ pa, pa = P.getD a 0 := ⟨_, rfl⟩
            rw [← hpa] at m1 hov
            have qm := cell_regrown m1
            have hOv := so_call D fun A hA => (over_g tp _ T pa (i : Int) A (hTD.keep hA)).mono fun e w' hh => (by
              obtain ⟨h1, q, h2⟩ := hh
              rw [hov] at h1
              exact ⟨h1, by rw [h2]; exact so_drewN _ q⟩ : e = .returned (.bool true) ∧ Below A.heap.size A w')
            clear L hTD hlr hDw hq z2 z3 z4 ha0 ha1 hov haa m1 hpa
            go_upto_region 11 with fail
            refine wp_region_quiet_below (by kernel_rfl) (by kernel_rfl) ?_
            repeat (go_big_quiet_step (first | exact hH _ | exact hOv _))
            refine wpQuiet_nil ?_
            intro D2 hw'
            obtain ⟨⟨dq, osq⟩, hw''⟩ := hw'
            have HN2 : Hid (Below w5.heap.size w5 D2) := Lib.hid (by rw [hw'']; exact hD5.trans ((below_regrown D dq osq).mono hD5.size))
            clear hw'' hH hOv q2 q3 q4 q7 qm hD5
            go_wp2_with fail
            go_roundw
            case rel => exact ⟨i + 1, by omega, by go_num, HN2⟩
            case measure => simp [intOf]; omega
    · obtain rfl : bn = i := by omega
      go_wp2_with fail
      go_ret
      exact ⟨rfl, hCw⟩
end Go.Proofs.Ytagagpappjkgbaa
namespace Go.Proofs.Ytagagpappjkgbaa
set_option linter.unusedVariables false
set_option linter.unusedSimpArgs false
open Go.RowKit Go.Sort

/-- All that Func asks of a function, over plain data. -/
structure FnOk (fs : List SF) (f : SF) (many P Q : List Int) (T : TrP) : Prop where
  nb : f.blocks.length ≤ 1048576
  ni : f.ins.length ≤ 1048576
  n1 : 1 ≤ f.blocks.length
  i1 : 1 ≤ f.ins.length
  ok : ∀ d ∈ f.blocks, okB d
  ll : ∀ d ∈ f.blocks, d.list.length ≤ 1048576
  sh : shapedP f.ret f.ins.length f.blocks = true
  mm : manyFrom f.blocks (List.replicate f.blocks.length 0) = some many
  pp : predsFrom f.blocks many 0 f.blocks (List.replicate f.blocks.length (-1)) = true
  li : listFrom 0 f.blocks (List.replicate f.ins.length (-1)) (List.replicate f.ins.length 0) = some (P, Q)
  hP : ∀ j, j < f.ins.length → P.getD j 0 ≠ -1
  op : ∀ x ∈ f.ins, x.op ≠ 0
  re : ∀ lvs : List Value, lvs.length = f.blocks.length → (orderP (gOf f.blocks lvs)).length = f.blocks.length
  pl : placedFrom f.ins 0 f.blocks = true
  t1 : ∀ x ∈ f.ins, insB fs f x = true
  t2 : ∀ k ∈ f.blocks, endB f k = true
  tr : ∀ lvs : List Value, lvs.length = f.blocks.length → TrEq (gOf f.blocks lvs) T
  st : ∀ (i : Nat) (hi : i < f.blocks.length), standOne f P Q T i f.blocks[i] = true

set_option maxRecDepth 100000 in
set_option maxHeartbeats 8000000 in
theorem func_t (n0 : Nat) (fA : Option Addr) (fn fc : Nat) (mn : Int) (fs : List SF) (k : Nat) (f : SF) (hf : fs[k]? = some f) (many P Q : List Int) (T : TrP) (w : World) (hn : n0 ≤ w.heap.size) (hF : SFs n0 w (.slice fA fn fc) fs) (hfl : fn = fs.length) (hfb : fn ≤ 1048576) (K : FnOk fs f many P Q T) :
    Calls Try.prog 76 #[.agg #[.slice fA fn fc, .int .i64 mn], .int .i64 (k : Int)] w fun e w' => e = .returned (.int .i64 0) ∧ Below w.heap.size w w' := by
  obtain ⟨hkl, hfk⟩ := List.getElem?_eq_some_iff.mp hf
  obtain ⟨W, hW, hbW, hzW, h0W⟩ := gr_one w #[.slice fA fn fc, .int .i64 mn] 36
  have hH := sound_has_g fA fn fc mn (k : Int) W
  have ehas : hasG fn (k : Int) = true := by unfold hasG; simp; omega
  rw [ehas] at hH
  have HW := Lib.hid hW
  obtain ⟨b, o, s, pA, pc, iA, ic, bA, bc, efA, hbn, hc0, hc1, hc2, hc3, hc4, hgp, hgi, hgb⟩ := hF.at hkl
  subst efA
  rw [hfk] at hc1 hc2 hc3 hc4 hgp hgi hgb
  have HK : Hid (∀ A, Below W.heap.size W A → Below w.heap.size w A ∧ A.cell? ⟨w.heap.size, 0, none⟩ = some (.slice (some ⟨b, o, none⟩) fn fc) ∧ A.cell? ⟨w.heap.size, 1, none⟩ = some (.int .i64 mn) ∧ A.cell? ⟨b, o + k * 5, none⟩ = some (.string s) ∧ A.cell? ⟨b, o + k * 5 + 1, none⟩ = some (.slice pA f.params.length pc) ∧ A.cell? ⟨b, o + k * 5 + 2, none⟩ = some (.int .i64 f.ret) ∧ A.cell? ⟨b, o + k * 5 + 3, none⟩ = some (.slice iA f.ins.length ic) ∧ A.cell? ⟨b, o + k * 5 + 4, none⟩ = some (.slice bA f.blocks.length bc)) := Lib.hid fun A hA => by
    have hb := hbW.trans (hA.mono hbW.size)
    have e := (hA.block w.heap.size (by omega)).trans h0W
    have Kc : ∀ {x : Addr} {v : Value}, w.cell? x = some v → A.cell? x = some v := fun {x v} hx => (hb.cell (gr_clt hx)).trans hx
    exact ⟨hb, Lib.cell_of_heap e 0, Lib.cell_of_heap e 1, Kc hc0, Kc hc1, Kc hc2, Kc hc3, Kc hc4⟩
  have HR : Hid (∀ A, Below w.heap.size w A → SFs n0 A (.slice (some ⟨b, o, none⟩) fn fc) fs ∧ GNs n0 A (.slice pA f.params.length pc) f.params ∧ SIs n0 A (.slice iA f.ins.length ic) f.ins ∧ SBs n0 A (.slice bA f.blocks.length bc) f.blocks) := Lib.hid fun A hA => ⟨hF.keep (hA.mono hn), hgp.keep (hA.mono hn), hgi.keep (hA.mono hn), hgb.keep (hA.mono hn)⟩
  have hkn : k < fn := by omega
  obtain ⟨-, u0, u1, -⟩ := HK.out W (Below.refl _ _)
  have Hfl := Lib.hid hfl
  clear hW hbW hzW h0W ehas hF hbn hc0 hc1 hc2 hc3 hc4 hgp hgi hgb hf hfk hkl hfl
  go_enter Try.func76, Try.ntmps76
  go_upto_region 1 with fail
  rw [← HW.out]
  go_upto_region 3 with (first | (go_at_call 92; refine hH.mono ?_; rintro e X ⟨rfl, hbX⟩; have HbX := Lib.hid hbX; clear hbX hH))
  clear u0 u1
  obtain ⟨hXw, v0, v1, c0, c1, c2, c3, c4⟩ := HK.out X.drew HbX.out.drew
  obtain ⟨B, hB⟩ : ∃ B, B = X.drew.alloc (.cells #[.slice (some ⟨b, o, none⟩) fn fc, .int .i64 mn, .string s, .slice pA f.params.length pc, .int .i64 f.ret, .slice iA f.ins.length ic, .slice bA f.blocks.length bc, .slice none 0 0, .slice none 0 0] 150) := ⟨_, rfl⟩
  have hXB : Below X.drew.heap.size X.drew B := by rw [hB]; exact (Below.refl _ _).alloc (Nat.le_refl _) _
  have h0B : B.heap[X.heap.size]? = some (.cells #[.slice (some ⟨b, o, none⟩) fn fc, .int .i64 mn, .string s, .slice pA f.params.length pc, .int .i64 f.ret, .slice iA f.ins.length ic, .slice bA f.blocks.length bc, .slice none 0 0, .slice none 0 0] 150 (0, 0)) := by rw [hB]; exact heap_alloc_new X.drew _
  have hBw : Below w.heap.size w B := hXw.trans (hXB.mono hXw.size)
  obtain ⟨r1, r2, r3, r4⟩ := HR.out B hBw
  have S : Sbj n0 X.heap.size ⟨some ⟨b, o, none⟩, fn, fc, mn, s, pA, f.params.length, pc, f.ret, iA, f.ins.length, ic, bA, f.blocks.length, bc⟩ fs f (.slice none 0 0) (.slice none 0 0) B :=
    ⟨h0B, Nat.le_trans hn hBw.size, r1, Hfl.out, r2, rfl, r3, rfl, r4, rfl, K.ni, K.nb, hfb⟩
  have hns : n0 ≤ X.heap.size := Nat.le_trans hn hXw.size
  have hSh := shaped_g n0 X.heap.size _ _ _ _ _ _ _ _ _ _ _ _ _ _ _ _ _ f.blocks B S.c S.hn S.br rfl K.nb (fun d hd => (K.ok d hd).2.2.1)
  have e0 : shapedP f.ret f.ins.length f.blocks = true := K.sh
  rw [e0] at hSh
  have HS := Lib.hid S
  have HXw := Lib.hid hXw
  have HXB := Lib.hid hXB
  have HKK := Lib.hid K
  have Hns := Lib.hid hns
  rw [hB] at hSh
  have HB := Lib.hid hB
  have q0 : ∃ sb, sb = X.heap.size := ⟨_, rfl⟩
  clear S hB hXB h0B hBw r1 r2 r3 r4 e0 hXw K hns q0
  go_still_tail 7, (by kernel_rfl)
  change wpList _ _ _ _ _ X.drew
  go_wp2_with (first
    | (go_at_call 94; refine hSh.mono ?_; rintro e w1 ⟨rfl, hb1⟩; rw [← HB.out] at hb1; have S1 := HS.out.keep hb1; have hPr := preds_t _ _ _ _ _ _ _ w1 S1 HKK.out.n1 (fun d hd => ⟨(HKK.out.ok d hd).2.2.1, (HKK.out.ok d hd).1⟩) many HKK.out.mm HKK.out.pp; have HS1 := Lib.hid S1; have Hb1 := Lib.hid hb1; clear hSh S1 hb1)
    | (go_at_call 95; refine hPr.mono ?_; rintro e w2 ⟨rfl, hb2⟩; have S2 := HS1.out.keep hb2; have hLi := listed_t _ _ _ _ _ _ _ w2 S2 Hns.out HKK.out.i1 HKK.out.ll P Q HKK.out.li HKK.out.hP HKK.out.op; have Hb2 := Lib.hid hb2; clear hPr S2 hb2)
    | (go_at_call 96; refine hLi.mono ?_; rintro e w3 ⟨rfl, ib, ab, L3⟩; have hRe := reached_t _ _ _ _ _ _ _ w3 L3.s HKK.out.ok HKK.out.re; have HL3 := Lib.hid L3; clear hLi L3)
    | (go_at_call 97; refine hRe.mono ?_; rintro e w4 ⟨rfl, hb4⟩; have L4 := HL3.out.keep hb4; have hPl := placed_t _ _ _ _ _ _ _ w4 L4.s HKK.out.ll HKK.out.pl; have HL4 := Lib.hid L4; clear hRe L4 hb4)
    | (go_at_call 98; refine hPl.mono ?_; rintro e w5 ⟨rfl, hb5⟩; have L5 := HL4.out.keep hb5; have hTy := typed_t _ _ _ _ _ _ _ w5 L5.s HKK.out.t1 HKK.out.t2; have HL5 := Lib.hid L5; clear hPl L5 hb5)
    | (go_at_call 99; refine hTy.mono ?_; rintro e w6 ⟨rfl, hb6⟩; have L6 := HL5.out.keep hb6; have hSt := stands_t _ _ _ _ _ _ _ _ P Q T w6 L6 HKK.out.ok HKK.out.ll HKK.out.tr HKK.out.st; have HL6 := Lib.hid L6; clear hTy L6 hb6)
    | (go_at_call 100; refine hSt.mono ?_; rintro e w7 ⟨rfl, hb7⟩; have HL7 := Lib.hid (HL6.out.keep hb7); clear hSt hb7))
  go_ret
  refine ⟨rfl, ?_⟩
  have hXw := HXw.out
  have h1 : Below w.heap.size w B := hXw.trans (HXB.out.mono hXw.size)
  have h2 := h1.trans (Hb1.out.mono h1.size)
  have h3 := h2.trans (Hb2.out.mono h2.size)
  exact h3.trans (HL7.out.b.mono hXw.size)
end Go.Proofs.Ytagagpappjkgbaa
namespace Go.Proofs.Ytagagpappjkgbaa
set_option linter.unusedVariables false
set_option linter.unusedSimpArgs false
open Go.RowKit Go.Sort

def treeM : TrP := ⟨[0, 1, 3, 2], [-1, 0, 1, 1], [[1], [3, 2], [], []], [0, 1, 2, 2], [0, 1, 3, 2], [4, 4, 4, 3], [1, 2, 3, 1], [4, 3, 3, 4], [0, 1, 3, 3, 4]⟩
def treeF : TrP := ⟨[0], [-1], [[]], [0], [0], [1], [], [], [0, 0]⟩
theorem lvs4 {l : List Value} (h : l.length = 4) : ∃ a b c d, l = [a, b, c, d] := by
  match l, h with
  | [a, b, c, d], _ => exact ⟨a, b, c, d, rfl⟩
theorem lvs1 {l : List Value} (h : l.length = 1) : ∃ a, l = [a] := by
  match l, h with
  | [a], _ => exact ⟨a, rfl⟩
theorem baseM_tr (a b c d : Value) : TrEq (gOf baseM.blocks [a, b, c, d]) treeM where
  ex := ⟨40, 40, 40, 4, ⟨[0, 1, 3, 2], [0, 1, 3, 2], [-1, 0, 1, 1]⟩, [[], [0, 3], [1], [1]], ⟨[-1, 0, 1, 1], [0, 0, 1, 1], [-1, 0, 1, 1], [0, 1, 2, 3], [[], [], [], []]⟩, [-1, 0, 1, 1], [4, 3, 1, 1], [0, 1, 3, 2],
    by decide, by decide, by decide, by kernel_rfl, rfl, rfl, by decide, by kernel_rfl, (fun t => by
      rcases t with _ | _ | _ | _ | t <;> simp [List.getD]), by kernel_rfl, by kernel_rfl, rfl, by kernel_rfl, by kernel_rfl, by kernel_rfl, by kernel_rfl, by kernel_rfl, by kernel_rfl, by kernel_rfl⟩
  ord := by kernel_rfl
  ordl := by decide
  ord1 := by decide
  upl := by kernel_rfl
  pos := by
    have : (gOf baseM.blocks [a, b, c, d]).length = 4 := by kernel_rfl
    omega
theorem baseF_tr (a : Value) : TrEq (gOf baseF.blocks [a]) treeF where
  ex := ⟨40, 40, 40, 1, ⟨[0], [0], [-1]⟩, [[]], ⟨[-1], [0], [-1], [0], [[]]⟩, [-1], [1], [0],
    by decide, by decide, by decide, by kernel_rfl, rfl, rfl, by decide, by kernel_rfl, (fun t => by
      rcases t with _ | t <;> simp [List.getD]), by kernel_rfl, by kernel_rfl, rfl, by kernel_rfl, by kernel_rfl, by kernel_rfl, by kernel_rfl, by kernel_rfl, by kernel_rfl, by kernel_rfl⟩
  ord := by kernel_rfl
  ordl := by decide
  ord1 := by decide
  upl := by kernel_rfl
  pos := by
    have : (gOf baseF.blocks [a]).length = 1 := by kernel_rfl
    omega
theorem baseM_ok : FnOk baseFs baseM [0, 2, 1, 1] [0, 0, 0, 0, 1, 1, 2, 2, 2, 2, 2, 2, 3, 3, 3] [0, 1, 2, 3, 0, 1, 1, 2, 3, 5, 4, 0, 0, 1, 2] treeM where
  nb := by decide
  ni := by decide
  n1 := by decide
  i1 := by decide
  ok := by unfold okB InG; decide
  ll := by decide
  sh := by kernel_rfl
  mm := by kernel_rfl
  pp := by kernel_rfl
  li := by kernel_rfl
  hP := by decide
  op := by decide
  re := fun lvs h => by
    obtain ⟨a, b, c, d, rfl⟩ := lvs4 h
    kernel_rfl
  pl := by kernel_rfl
  t1 := by decide
  t2 := by decide
  tr := fun lvs h => by
    obtain ⟨a, b, c, d, rfl⟩ := lvs4 h
    exact baseM_tr a b c d
  st := by decide
theorem baseF_ok : FnOk baseFs baseF [0] [0, 0, 0, 0] [0, 1, 2, 3] treeF where
  nb := by decide
  ni := by decide
  n1 := by decide
  i1 := by decide
  ok := by unfold okB InG; decide
  ll := by decide
  sh := by kernel_rfl
  mm := by kernel_rfl
  pp := by kernel_rfl
  li := by kernel_rfl
  hP := by decide
  op := by decide
  re := fun lvs h => by
    obtain ⟨a, rfl⟩ := lvs1 h
    kernel_rfl
  pl := by kernel_rfl
  t1 := by decide
  t2 := by decide
  tr := fun lvs h => by
    obtain ⟨a, rfl⟩ := lvs1 h
    exact baseF_tr a
  st := by decide
end Go.Proofs.Ytagagpappjkgbaa
