/-
  Blocks on all ways: dom.New.
  Blocks on all ways: what a tree tells: Reached, Up, Over.
-/
import Derived.Test.YtglobeajmdieaaaJe44
import Derived.BigQuiet
namespace Go.Proofs.Ytglobeajmdieaaa
set_option linter.unusedVariables false
set_option linter.unusedSimpArgs false
open Go.RowKit Go.Shelf

/-- The start with two rows. -/
theorem Sq.start2 {T : TypeId} {w : World} {base E : Nat} {cs : List Value} (hbox : w.heap[E]? = some (.cells cs.toArray T (0, 0))) (hb : base ≤ E) (r0 r1 : GRw) (h0 : w.ownsRow base r0.T r0.z r0.v r0.n r0.xs) (h1 : w.ownsRow base r1.T r1.z r1.v r1.n r1.xs) (n0 : r0.v.ownBlock ≠ some E) (n1 : r1.v.ownBlock ≠ some E) (hne : r0.v.ownBlock = none ∨ r0.v.ownBlock ≠ r1.v.ownBlock) (hne' : r1.v.ownBlock = none ∨ r1.v.ownBlock ≠ r0.v.ownBlock) :
    Sq T w base E (upG (upG (fun _ => noRow) 0 r0) 1 r1) cs := by
  have e0 : (upG (upG (fun _ => noRow) 0 r0) 1 r1) 0 = r0 := by rw [upG_off _ _ _ _ (by omega), upG_at]
  have e1 : (upG (upG (fun _ => noRow) 0 r0) 1 r1) 1 = r1 := upG_at _ _ _
  have e2 : ∀ k, 1 < k → (upG (upG (fun _ => noRow) 0 r0) 1 r1) k = noRow := fun k hk => by rw [upG_off _ _ _ _ (by omega), upG_off _ _ _ _ (by omega)]
  have hc : ∀ k, k = 0 ∨ k = 1 ∨ 1 < k := fun k => by omega
  refine ⟨⟨gr_in hbox, fun k => ?_, fun k => ?_, fun i j hij => ?_⟩, hbox, hb, by have := gr_in hbox; omega⟩
  · rcases hc k with rfl | rfl | h
    · rw [e0]; exact n0
    · rw [e1]; exact n1
    · rw [e2 k h]; simp [noRow, Value.ownBlock]
  · rcases hc k with rfl | rfl | h
    · rw [e0]; exact h0
    · rw [e1]; exact h1
    · rw [e2 k h]; exact World.ownsRow_nil _ _ _ _
  · rcases hc i with rfl | rfl | hi
    · rcases hc j with rfl | rfl | hj
      · exact absurd rfl hij
      · rw [e0, e1]; exact hne
      · rw [e0, e2 j hj]
        cases hr : r0.v.ownBlock with
        | none => exact .inl rfl
        | some g => right; simp [noRow, Value.ownBlock]
    · rcases hc j with rfl | rfl | hj
      · rw [e0, e1]; exact hne'
      · exact absurd rfl hij
      · rw [e1, e2 j hj]
        cases hr : r1.v.ownBlock with
        | none => exact .inl rfl
        | some g => right; simp [noRow, Value.ownBlock]
    · left; rw [e2 i hi]; rfl

/-- The tree over plain data. -/
structure TrP where
  order : List Int
  up : List Int
  kids : List (List Int)
  deep : List Int
  place : List Int
  past : List Int
  to_ : List Int
  skip : List Int
  start : List Int
/-- How it is made. -/
structure TrEq (g : List GB) (T : TrP) : Prop where
  mk ::
  ex : ∃ (ke k0 kf m : Nat) (en : En) (bk : List (List Int)) (sE : Sr) (upE many row : List Int), k0 ≤ 1048576 ∧ 1 ≤ m ∧ m ≤ 1048576 ∧
    enRun g ke ⟨[], List.replicate g.length (-1), []⟩ [(-1, 0)] = some en ∧ en.blocks.length = m ∧ en.from_.length = m ∧ en.turn.length ≤ 1048576 ∧
    bkRun g en.turn 0 en.blocks (List.replicate m []) = some bk ∧ (∀ t, (bk.getD t []).length ≤ 1048576) ∧
    rnRun k0 en.from_ bk (m - 1) ⟨List.replicate m (-1), upTo m m, List.replicate m (-1), upTo m m, List.replicate m []⟩ = some sE ∧ finP sE.early m 0 sE.up = some upE ∧ upE.length = m ∧
    outP en.blocks upE 0 (List.replicate g.length (-1)) = some T.up ∧
    grRun T.up T.order (List.replicate g.length []) (List.replicate g.length 0) = some (T.kids, T.deep) ∧
    mnRun T.up T.order.reverse (List.replicate g.length 0) = some many ∧ plRun T.up many T.order (List.replicate g.length (-1)) (List.replicate g.length 0) = some (T.place, T.past) ∧
    rwRun T.place T.order (List.replicate T.order.length 0) = some row ∧ toRun g row [] [0] = some (T.to_, T.start) ∧ skRun T.deep T.to_ kf T.to_.length (List.replicate T.to_.length 0) = some T.skip
  ord : T.order = (orderP g).map fun (b : Nat) => (b : Int)
  ordl : T.order.length ≤ 1048576
  ord1 : 1 ≤ T.order.length
  upl : T.up.length = g.length
  pos : 0 < g.length
/-- A tree in memory, for who reads it. -/
def TreeAt (w : World) (tp n : Nat) (T : TrP) : Prop := ∃ (vo vu vd vp vq vt vs vst : Value) (gk : Nat) (vk : List Value),
  w.heap[tp]? = some (.cells #[vo, vu, .slice (some ⟨gk, 0, none⟩) n n, vd, vp, vq, vt, vs, vst] 100 (0, 0)) ∧
  GNs w.heap.size w vo T.order ∧ GNs w.heap.size w vu T.up ∧ GNs w.heap.size w vd T.deep ∧ GNs w.heap.size w vp T.place ∧ GNs w.heap.size w vq T.past ∧ GNs w.heap.size w vt T.to_ ∧ GNs w.heap.size w vs T.skip ∧ GNs w.heap.size w vst T.start ∧
  T.up.length = n ∧ T.deep.length = n ∧ T.place.length = n ∧ T.past.length = n ∧ T.kids.length = n ∧ vk.length = n ∧ gk < w.heap.size ∧ (∀ j v, vk[j]? = some v → w.cell? ⟨gk, j, none⟩ = some v) ∧ (∀ (j : Nat) (v : Value) (l : List Int), vk[j]? = some v → T.kids[j]? = some l → GNs w.heap.size w v l)
theorem GNs.later {w w' : World} {v : Value} {l : List Int} (h : GNs w.heap.size w v l) (hb : Below w.heap.size w w') : GNs w'.heap.size w' v l := (h.keep hb).mono hb.size
theorem TreeAt.keep {w w' : World} {tp n : Nat} {T : TrP} (h : TreeAt w tp n T) (hb : Below w.heap.size w w') : TreeAt w' tp n T := by
  obtain ⟨vo, vu, vd, vp, vq, vt, vs, vst, gk, vk, h1, h2, h3, h4, h5, h6, h7, h8, h9, l1, l2, l3, l4, l5, l6, h10, h11, h12⟩ := h
  exact ⟨vo, vu, vd, vp, vq, vt, vs, vst, gk, vk, (hb.block tp (gr_in h1)).trans h1, h2.later hb, h3.later hb, h4.later hb, h5.later hb, h6.later hb, h7.later hb, h8.later hb, h9.later hb, l1, l2, l3, l4, l5, l6, Nat.lt_of_lt_of_le h10 hb.size, fun j v hv => (hb.cell (p := ⟨gk, j, none⟩) h10).trans (h11 j v hv), fun j v l hv hl => (h12 j v l hv hl).later hb⟩

theorem Sq.gns {T : TypeId} {w : World} {base E k : Nat} {F : Nat → GRw} {cs : List Value} {v : Value} {l : List Int} (h : Sq T w base E F cs) (hk : F k = intR v l) : GNs w.heap.size w v l := GNs.of_own (h.at hk)
theorem Sq.gnw {T : TypeId} {w : World} {base E k b n : Nat} {F : Nat → GRw} {cs : List Value} {l : List Int} (h : Sq T w base E F cs) (hk : F k = wholeR b l) (hl : l.length = n) : GNs w.heap.size w (.slice (some ⟨b, 0, none⟩) n n) l := by
  subst hl
  exact GNs.of_own (h.at hk)
theorem RowsAt.len {F : Nat → GRw} {k gb m : Nat} {vs : List Value} {ls : List (List Int)} (h : RowsAt F k gb m vs ls) : vs.length = m ∧ ls.length = m := ⟨h.1, h.2.1⟩

set_option maxRecDepth 100000 in
set_option maxHeartbeats 16000000 in
theorem new_g (n0 : Nat) (f : Value) (g : List GB) (T : TrP) (w : World) (hf : GF n0 w f g) (hn : n0 ≤ w.heap.size) (hT : TrEq g T) :
    Calls Try.prog 41 #[f] w fun e w' => ∃ tp, e = .returned (.pointer (some ⟨tp, 0, none⟩)) ∧ TreeAt w' tp g.length T ∧ Below w.heap.size w w' := by
  obtain ⟨ke, k0, kf, m, en, bk, sE, upE, many, row, hk0, hm1, hmb, q1, q2, q3, q4, q5, q6, q7, q8, q9, q10, q11, q12, q13, q14, q15, q16⟩ := hT.ex
  obtain ⟨s, pA, pn, pc, r, iA, in_, ic, bA, bn, bc, rfl, hG, hbn⟩ := id hf
  have hlen : bn ≤ 1048576 := by rw [hbn]; obtain ⟨_, _, _, h, _⟩ := hG; exact h
  have hpos : 0 < g.length := hT.pos
  obtain ⟨W1, hW1, hbW1, hzW1, h0W1⟩ := gr_one w #[.string s, .slice pA pn pc, .int .i64 r, .slice iA in_ ic, .slice bA bn bc] 46
  have hfr : ∀ A : World, Below W1.heap.size W1 A → GF n0 A (.agg #[.string s, .slice pA pn pc, .int .i64 r, .slice iA in_ ic, .slice bA bn bc]) g := fun A hA => ⟨s, pA, pn, pc, r, iA, in_, ic, bA, bn, bc, rfl, hG.keep ((hbW1.mono hn).trans (hA.mono (by omega))), hbn⟩
  have hx : ∀ A : World, Below W1.heap.size W1 A → A.cell? ⟨w.heap.size, 0, none⟩ = some (.string s) ∧ A.cell? ⟨w.heap.size, 1, none⟩ = some (.slice pA pn pc) ∧ A.cell? ⟨w.heap.size, 2, none⟩ = some (.int .i64 r) ∧ A.cell? ⟨w.heap.size, 3, none⟩ = some (.slice iA in_ ic) ∧ A.cell? ⟨w.heap.size, 4, none⟩ = some (.slice bA bn bc) := (fun A hA => by obtain ⟨x0, x1, x2, x3, x4, -⟩ := gr_five ((hA.block w.heap.size (by omega)).trans h0W1); exact ⟨x0, x1, x2, x3, x4⟩)
  have hO := order_g n0 _ g W1 (hfr W1 (Below.refl _ _)) (by omega)
  obtain ⟨x0, x1, x2, x3, x4⟩ := hx W1 (Below.refl _ _)
  obtain ⟨no, hno⟩ : ∃ no, no = T.order.length := ⟨_, rfl⟩
  have hol : (orderP g).length = no := by rw [hno, hT.ord, List.length_map]
  have hnv : natsV (orderP g) = intsV T.order := by rw [hT.ord]; simp [natsV, intsV]
  rw [hol, hnv] at hO
  have hno1 : 1 ≤ no := by rw [hno]; exact hT.ord1
  have hnob : no ≤ 1048576 := by rw [hno]; exact hT.ordl
  have hnz : ((no : Int) == 0) = false := by simp; omega
  have HT := Lib.hid hT
  have Hx := Lib.hid hx
  have Hfr := Lib.hid hfr
  have HW1 := Lib.hid hW1
  have HbW1 := Lib.hid hbW1
  have HzW1 := Lib.hid hzW1
  have Hbn := Lib.hid hbn
  have Hno := Lib.hid hno
  have Hq := Lib.hid (And.intro q1 (And.intro q2 (And.intro q3 (And.intro q4 (And.intro q5 (And.intro q6 (And.intro q7 (And.intro q8 (And.intro q9 (And.intro q10 (And.intro q11 (And.intro q12 (And.intro q13 (And.intro q14 (And.intro q15 q16)))))))))))))))
  clear hf hx hfr hW1 hbW1 hzW1 h0W1 hbn hG hT hno hol hnv q1 q2 q3 q4 q5 q6 q7 q8 q9 q10 q11 q12 q13 q14 q15 q16
  go_enter Try.func41, Try.ntmps41
  go_upto_region 1 with fail
  rw [← HW1.out]
  go_upto_region 2 with (go_at_call 35; refine hO.mono ?_; rintro e w2 ⟨vo, rfl, ho, hb2⟩; obtain ⟨A0, c0, rfl⟩ := gr_slice ho; have Ho := Lib.hid ho; have Hb2 := Lib.hid hb2; clear ho hb2 hO)
  clear x0 x1 x2 x3 x4
  have h12 := Hb2.out
  obtain ⟨x0, x1, x2, x3, x4⟩ := Hx.out w2 h12
  have hU := ups_g n0 _ g w2 ke k0 m en bk sE upE T.up (Hfr.out w2 h12) (by have := h12.size; have := HzW1.out; omega) hpos hk0 Hq.out.1 Hq.out.2.1 hm1 hmb Hq.out.2.2.1 Hq.out.2.2.2.1 Hq.out.2.2.2.2.1 Hq.out.2.2.2.2.2.1 Hq.out.2.2.2.2.2.2.1 Hq.out.2.2.2.2.2.2.2.1 Hq.out.2.2.2.2.2.2.2.2.1 Hq.out.2.2.2.2.2.2.2.2.2.1
  clear h12
  go_upto_region 5 with (go_at_call 57; refine hU.mono ?_; rintro e w3 ⟨ub, rfl, hub, hup, hb3⟩; have Hup := Lib.hid hup; have Hb3 := Lib.hid hb3; clear hup hb3 hU)
  clear x0 x1 x2 x3 x4
  obtain ⟨n, hn2⟩ : ∃ n, n = g.length := ⟨_, rfl⟩
  rw [← hn2] at hpos ⊢
  have hnb : n ≤ 1048576 := by rw [hn2, ← Hbn.out]; exact hlen
  obtain ⟨W4, hW4, hbW4, hzW4, h0W4⟩ := gr_one w3 #[.slice A0 no c0, .slice (some ⟨ub, 0, none⟩) n n, .slice none 0 0, .slice none 0 0, .slice none 0 0, .slice none 0 0, .slice none 0 0, .slice none 0 0, .slice none 0 0] 100
  have hz2 := Hb2.out.size
  have hz3 := Hb3.out.size
  have ho4 := gr_up (gr_up Ho.out Hb3.out) hbW4
  have hu4 : IRow W4 ub T.up := Hup.out.keep (hbW4.block ub Hup.out.lt)
  have hupl : T.up.length = n := by rw [hn2]; exact HT.out.upl
  have hol2 := fun g' hg => (Ho.out.lt g' hg).2
  have hsq4 := Sq.start2 (base := W1.heap.size) (cs := [.slice A0 no c0, .slice (some ⟨ub, 0, none⟩) n n, .slice none 0 0, .slice none 0 0, .slice none 0 0, .slice none 0 0, .slice none 0 0, .slice none 0 0, .slice none 0 0]) h0W4 (by omega) (intR (.slice A0 no c0) T.order) (wholeR ub T.up)
    (by simp only [intR, ← Hno.out]; exact ho4) (hu4.own rfl (by omega) (by rw [hupl]; exact hnb)) (fun e => by have := hol2 _ e; omega) (by simp only [wholeR, Value.ownBlock, ne_eq, Option.some.injEq]; have := Hup.out.lt; omega)
    (by
      cases ho : (Value.slice A0 no c0).ownBlock with
      | none => left; exact ho
      | some g' => right; simp only [intR, wholeR]; rw [ho]; simp only [Value.ownBlock, ne_eq, Option.some.injEq]; have := hol2 _ ho; omega)
    (by right; simp only [intR, wholeR]; intro e; have := hol2 ub (by rw [← e]; rfl); omega)
  obtain ⟨tp, htp⟩ : ∃ tp, tp = w3.heap.size := ⟨_, rfl⟩
  rw [← htp] at hsq4
  obtain ⟨F4, hF4⟩ : ∃ F4, F4 = upG (upG (fun _ => noRow) 0 (intR (.slice A0 no c0) T.order)) 1 (wholeR ub T.up) := ⟨_, rfl⟩
  have hf40 : F4 0 = intR (.slice A0 no c0) T.order := by rw [hF4, upG_off _ _ _ _ (by omega), upG_at]
  have hf41 : F4 1 = wholeR ub T.up := by rw [hF4]; exact upG_at _ _ _
  have hf4o : ∀ i, 1 < i → F4 i = noRow := fun i hi => by rw [hF4, upG_off _ _ _ _ (by omega), upG_off _ _ _ _ (by omega)]
  rw [← hF4] at hsq4
  have hGr := grow_g W1.heap.size tp n no ub A0 c0 T.order T.up (.slice none 0 0) (.slice none 0 0) (.slice none 0 0) (.slice none 0 0) (.slice none 0 0) F4 T.kids T.deep W4 hsq4 hf40 hf41 hf4o Hno.out.symm hnob hupl hnb (by rw [hn2]; exact Hq.out.2.2.2.2.2.2.2.2.2.2.1)
  have h14 : Below W1.heap.size W1 W4 := (Hb2.out.trans (Hb3.out.mono Hb2.out.size)).trans (hbW4.mono (by omega))
  have HW4 := Lib.hid hW4
  have H14 := Lib.hid h14
  have Hn2 := Lib.hid hn2
  have Hupl := Lib.hid hupl
  have Htp : Hid (W1.heap.size ≤ tp) := Lib.hid (by omega)
  have Hzz : Hid (W4.heap.size = tp + 1) := Lib.hid (by omega)
  rw [← htp]
  clear hn2 hW4 hbW4 hzW4 h0W4 hz2 hz3 ho4 hu4 hupl hol2 hsq4 hF4 hf40 hf41 hf4o h14 htp Ho Hup Hb2 Hb3 hub
  rw [← HW4.out]
  go_upto_region 6 with (go_at_call 58; refine hGr.mono ?_; rintro e w5 ⟨rfl, gk, vk, db, F5, hs5, g0, g1, g3, goff, gr, gdl, hb5⟩; have Hs5 := Lib.hid hs5; have Hg5 := Lib.hid (And.intro g0 (And.intro g1 (And.intro g3 (And.intro goff (And.intro gr gdl))))); have Hb5 := Lib.hid hb5; clear hs5 g0 g1 g3 goff gr gdl hb5 hGr)
  have hRw := row_g W1.heap.size tp n no ub gk db A0 c0 T.order T.up many T.place T.past (.slice none 0 0) (.slice none 0 0) (.slice none 0 0) F5 w5 Hs5.out Hg5.out.1 Hg5.out.2.1 Hg5.out.2.2.2.1 Hno.out.symm hnob Hupl.out hpos hnb (by rw [Hn2.out]; exact Hq.out.2.2.2.2.2.2.2.2.2.2.2.1) (by rw [Hn2.out]; exact Hq.out.2.2.2.2.2.2.2.2.2.2.2.2.1)
  go_upto_region 7 with (go_at_call 59; refine hRw.mono ?_; rintro e w6 ⟨rfl, pb, qb, F6, hs6, p0, p4, p5, ppl, pql, hb6⟩; have Hs6 := Lib.hid hs6; have Hg6 := Lib.hid (And.intro p0 (And.intro p4 (And.intro p5 (And.intro ppl pql)))); have Hb6 := Lib.hid hb6; clear hs6 p0 p4 p5 ppl pql hb6 hRw)
  have h16 : Below W1.heap.size W1 w6 := (H14.out.trans Hb5.out).trans Hb6.out
  obtain ⟨x0, x1, x2, x3, x4⟩ := Hx.out w6 h16
  have hLd := leads_g n0 W1.heap.size tp n no ub gk db pb qb _ g A0 c0 T.order T.place T.deep row T.to_ T.start T.skip (.slice none 0 0) (.slice none 0 0) (.slice none 0 0) F6 kf w6 (Hfr.out w6 h16) (by have := h16.size; have := HzW1.out; omega) Hs6.out ((Hg6.out.1 0 (by omega) (by omega)).trans Hg5.out.1) ((Hg6.out.1 3 (by omega) (by omega)).trans Hg5.out.2.2.1) Hg6.out.2.1 Hno.out.symm hnob hno1 Hg6.out.2.2.2.1 Hg5.out.2.2.2.2.2 hnb (by rw [Hno.out]; exact Hq.out.2.2.2.2.2.2.2.2.2.2.2.2.2.1) Hq.out.2.2.2.2.2.2.2.2.2.2.2.2.2.2.1 Hq.out.2.2.2.2.2.2.2.2.2.2.2.2.2.2.2
  have H16 := Lib.hid h16
  clear h16
  go_upto_region 8 with (go_at_call 60; refine hLd.mono ?_; rintro e w7 ⟨Vto, Vst, sb, F7, lb, rfl, hs7, t0, t1, t2, tsl, hb7⟩; obtain ⟨PA, PC, hPV⟩ := gr_slice (hs7.at t0); obtain ⟨SA, SC, hSV⟩ := gr_slice (hs7.at t2); simp only [intR] at hPV hSV; subst hPV hSV; simp only [sl]; have hst := Hs6.out.keep hb7; have y6 := hst.cell 6 _ rfl; have y7 := hst.cell 7 _ rfl; have y8 := hst.cell 8 _ rfl; have yf6 := hst.fro 6; have yf7 := hst.fro 7; have yf8 := hst.fro 8; have Hst := Lib.hid hst; have Hs7 := Lib.hid hs7; have Ht := Lib.hid (And.intro t0 (And.intro t1 (And.intro t2 tsl))); have Hb7 := Lib.hid hb7; clear hs7 t0 t1 t2 tsl hb7 hst hLd)
  have hs0 := Hst.out
  have h6 := hs0.field 6 (.slice PA T.to_.length PC)
  have h7 := h6.field 7 (.slice (some ⟨sb, 0, none⟩) T.to_.length T.to_.length)
  have h8 := h7.field 8 (.slice SA T.start.length SC)
  simp only [List.set_cons_succ, List.set_cons_zero] at h8
  obtain ⟨G, hG⟩ : ∃ G, G = ((w7.setCell ⟨tp, 6, none⟩ (.slice PA T.to_.length PC)).setCell ⟨tp, 7, none⟩ (.slice (some ⟨sb, 0, none⟩) T.to_.length T.to_.length)).setCell ⟨tp, 8, none⟩ (.slice SA T.start.length SC) := ⟨_, rfl⟩
  have hb8 : Below W1.heap.size w7 G := by rw [hG]; exact ((hs0.b_field 6 _).trans (h6.b_field 7 _)).trans (h7.b_field 8 _)
  have hGk : ∀ k, k ≠ tp → G.heap[k]? = w7.heap[k]? := fun k hk => by rw [hG, Below.heap_setCell _ _ _ _ hk, Below.heap_setCell _ _ _ _ hk, Below.heap_setCell _ _ _ _ hk]
  have hGz : G.heap.size = w7.heap.size := by rw [hG]; simp [World.setCell]
  rw [← hG] at h8
  have hsL := Hs7.out.mono_keep (Nat.le_refl _) (fun k hk => hGk k (by have := Hs6.out.fam.el; omega)) hGz
  have hrk := Hg5.out.2.2.2.2.1.same (F' := F6) (fun i h1 h2 => Hg6.out.1 i (by omega) (by omega))
  have hTA : TreeAt G tp n T := by
    refine ⟨.slice A0 no c0, .slice (some ⟨ub, 0, none⟩) n n, .slice (some ⟨db, 0, none⟩) n n, .slice (some ⟨pb, 0, none⟩) n n, .slice (some ⟨qb, 0, none⟩) n n, .slice PA T.to_.length PC, .slice (some ⟨sb, 0, none⟩) T.to_.length T.to_.length, .slice SA T.start.length SC, gk, vk, h8.box, ?_, ?_, ?_, ?_, ?_, ?_, ?_, ?_, Hupl.out, Hg5.out.2.2.2.2.2, Hg6.out.2.2.2.1, Hg6.out.2.2.2.2, hrk.len.2, hrk.len.1, ?_, ?_, ?_⟩
    · have := h8.gns ((Hg6.out.1 0 (by omega) (by omega)).trans Hg5.out.1); exact this
    · exact h8.gnw ((Hg6.out.1 1 (by omega) (by omega)).trans Hg5.out.2.1) Hupl.out
    · exact h8.gnw ((Hg6.out.1 3 (by omega) (by omega)).trans Hg5.out.2.2.1) Hg5.out.2.2.2.2.2
    · exact h8.gnw Hg6.out.2.1 Hg6.out.2.2.2.1
    · exact h8.gnw Hg6.out.2.2.1 Hg6.out.2.2.2.2
    · exact hsL.gns Ht.out.1
    · exact hsL.gnw Ht.out.2.1 Ht.out.2.2.2
    · exact hsL.gns Ht.out.2.2.1
    · exact ((h8.at hrk.2.2.1).lt gk rfl).2
    · exact fun j v hv => hrk.cell h8 hv
    · exact fun j v l hv hl => h8.gns (hrk.2.2.2 j v l hv hl)
  have HTA := Lib.hid hTA
  have HG := Lib.hid hG
  have HBG : Hid (Below w.heap.size w G) := Lib.hid (HbW1.out.trans (((H16.out.trans (Hb7.out.mono H16.out.size)).trans hb8).mono HbW1.out.size))
  clear hs0 h6 h7 h8 hG hb8 hGk hGz hsL hrk hTA
  first | rw [← HG.out] | skip
  go_wp2
  first | rw [← HG.out] | skip
  go_ret
  exact ⟨tp, rfl, by rw [← Hn2.out]; exact HTA.out, HBG.out⟩
end Go.Proofs.Ytglobeajmdieaaa
namespace Go.Proofs.Ytglobeajmdieaaa
set_option linter.unusedVariables false
set_option linter.unusedSimpArgs false
open Go.RowKit Go.Shelf

def reachedT (T : TrP) (b : Int) : Bool := decide (0 ≤ b) && decide (b < (T.place.length : Int)) && (T.place.getD b.toNat 0 != -1)
def upT (T : TrP) (b : Int) : Int := if reachedT T b then T.up.getD b.toNat 0 else -1
def overT (T : TrP) (a b : Int) : Bool := reachedT T a && reachedT T b && decide (T.place.getD a.toNat 0 ≤ T.place.getD b.toNat 0) && decide (T.place.getD b.toNat 0 < T.past.getD a.toNat 0)
theorem reachedT_in {T : TrP} {b : Int} (h : reachedT T b = true) : ∃ k : Nat, b = k ∧ k < T.place.length := by
  unfold reachedT at h
  simp only [Bool.and_eq_true, decide_eq_true_eq] at h
  exact ⟨b.toNat, by omega, by omega⟩
/-- One number of a row of the tree. -/
theorem GNs.get {n0 n c : Nat} {w : World} {A : Option Addr} {l : List Int} (h : GNs n0 w (.slice A n c) l) {j : Nat} (hj : j < l.length) : ∃ b o, A = some ⟨b, o, none⟩ ∧ w.cell? ⟨b, o + j, none⟩ = some (.int .i64 (l.getD j 0)) := by
  obtain ⟨b, o, hA, -, hc⟩ := h.at hj
  exact ⟨b, o, hA, by rw [hc]; simp [List.getD, hj]⟩

theorem reached_nil (b : Int) (w : World) : Calls Try.prog 61 #[.pointer none, .int .i64 b] w fun e w' => e = .returned (.bool false) ∧ w' = w := by
  go_enter Try.func61, Try.ntmps61
  go_wp2
  go_ret
  exact ⟨rfl, rfl⟩
set_option maxRecDepth 100000 in
set_option maxHeartbeats 4000000 in
theorem reached_g (tp n : Nat) (T : TrP) (b : Int) (w : World) (h : TreeAt w tp n T) : Calls Try.prog 61 #[.pointer (some ⟨tp, 0, none⟩), .int .i64 b] w fun e w' => e = .returned (.bool (reachedT T b)) ∧ w' = w := by
  obtain ⟨vo, vu, vd, vp, vq, vt, vs, vst, gk, vk, h1, h2, h3, h4, h5, h6, h7, h8, h9, l1, l2, l3, l4, l5, l6, h10, h11, h12⟩ := h
  obtain ⟨Ap, cp, rfl, -⟩ := id h5
  rw [l3] at h1 h5
  have c4 := Lib.cell_of_heap h1 4
  obtain ⟨v, hv⟩ : ∃ v, v = reachedT T b := ⟨_, rfl⟩
  rw [← hv]
  by_cases hb0 : 0 ≤ b
  · have d0 : decide (b ≥ 0) = true := decide_eq_true hb0
    by_cases hbn : b < n
    · have d1 : decide (b < (n : Int)) = true := decide_eq_true hbn
      obtain ⟨k, rfl⟩ : ∃ k : Nat, b = k := ⟨b.toNat, by omega⟩
      obtain ⟨pb, po, rfl, cc⟩ := h5.get (j := k) (by omega)
      have hve : v = (T.place.getD k 0 != -1) := by rw [hv]; unfold reachedT; simp [hb0, l3]; omega
      obtain ⟨x, hx⟩ : ∃ x, x = T.place.getD k 0 := ⟨_, rfl⟩
      rw [← hx] at cc hve
      have Hve := Lib.hid hve
      clear hve hv hx h1 h2 h3 h4 h5 h6 h7 h8 h9 l1 l2 l3 l4 l5 l6 h10 h11 h12 hb0
      go_enter Try.func61, Try.ntmps61
      go_wp2
      go_ret
      exact ⟨by rw [Hve.out]; rfl, rfl⟩
    · have d1 : decide (b < (n : Int)) = false := decide_eq_false hbn
      have hve : v = false := by rw [hv]; unfold reachedT; rw [l3, d1]; simp
      subst hve
      clear hv h1 h2 h3 h4 h5 h6 h7 h8 h9 l1 l2 l3 l4 l5 l6 h10 h11 h12
      go_enter Try.func61, Try.ntmps61
      go_wp2
      go_ret
      exact ⟨rfl, rfl⟩
  · have d0 : decide (b ≥ 0) = false := decide_eq_false hb0
    have hve : v = false := by
      rw [hv]
      unfold reachedT
      have : decide (0 ≤ b) = false := decide_eq_false hb0
      rw [this]
      simp
    subst hve
    clear hv h1 h2 h3 h4 h5 h6 h7 h8 h9 l1 l2 l3 l4 l5 l6 h10 h11 h12
    go_enter Try.func61, Try.ntmps61
    go_wp2
    go_ret
    exact ⟨rfl, rfl⟩

theorem over_nil (a b : Int) (w : World) : Calls Try.prog 43 #[.pointer none, .int .i64 a, .int .i64 b] w fun e w' => e = .returned (.bool false) ∧ ∃ q, w' = w.drewN q := by
  have hR : ∀ w', Calls Try.prog 61 #[.pointer none, .int .i64 a] w' fun e w2 => e = .returned (.bool false) ∧ ∃ q, w2 = w'.drewN q := fun w' => (reached_nil a w').mono fun e w2 ⟨h1, h2⟩ => ⟨h1, 0, by rw [h2]; rfl⟩
  go_enter Try.func43, Try.ntmps43
  go_upto_region 1 with fail
  go_quiet (first | (go_at_call 61; exact Calls.quiet_of (hR _)))
  go_wp2
  go_ret
  exact ⟨rfl, _, rfl⟩
set_option maxRecDepth 100000 in
set_option maxHeartbeats 8000000 in
theorem over_g (tp n : Nat) (T : TrP) (a b : Int) (w : World) (h : TreeAt w tp n T) : Calls Try.prog 43 #[.pointer (some ⟨tp, 0, none⟩), .int .i64 a, .int .i64 b] w fun e w' => e = .returned (.bool (overT T a b)) ∧ ∃ q, w' = w.drewN q := by
  have hRa : ∀ w', TreeAt w' tp n T → Calls Try.prog 61 #[.pointer (some ⟨tp, 0, none⟩), .int .i64 a] w' fun e w2 => e = .returned (.bool (reachedT T a)) ∧ ∃ q, w2 = w'.drewN q := fun w' h' => (reached_g tp n T a w' h').mono fun e w2 ⟨h1, h2⟩ => ⟨h1, 0, by rw [h2]; rfl⟩
  have hRb : ∀ w', TreeAt w' tp n T → Calls Try.prog 61 #[.pointer (some ⟨tp, 0, none⟩), .int .i64 b] w' fun e w2 => e = .returned (.bool (reachedT T b)) ∧ ∃ q, w2 = w'.drewN q := fun w' h' => (reached_g tp n T b w' h').mono fun e w2 ⟨h1, h2⟩ => ⟨h1, 0, by rw [h2]; rfl⟩
  have HTA := Lib.hid h
  obtain ⟨vo, vu, vd, vp, vq, vt, vs, vst, gk, vk, h1, h2, h3, h4, h5, h6, h7, h8, h9, l1, l2, l3, l4, l5, l6, h10, h11, h12⟩ := h
  obtain ⟨Ap, cp, rfl, -⟩ := id h5
  obtain ⟨Aq, cq, rfl, -⟩ := id h6
  rw [l3] at h1 h5
  rw [l4] at h1 h6
  have c4 := Lib.cell_of_heap h1 4
  have c5 := Lib.cell_of_heap h1 5
  obtain ⟨x, hx⟩ : ∃ x, x = overT T a b := ⟨_, rfl⟩
  rw [← hx]
  by_cases hra : reachedT T a = true
  · rw [hra] at hRa
    by_cases hrb : reachedT T b = true
    · rw [hrb] at hRb
      obtain ⟨ka, rfl, hka⟩ := reachedT_in hra
      obtain ⟨kb, rfl, hkb⟩ := reachedT_in hrb
      obtain ⟨pb, po, rfl, ca⟩ := h5.get (j := ka) (by omega)
      obtain ⟨pb2, po2, hpe, cb⟩ := h5.get (j := kb) (by omega)
      obtain ⟨rfl, rfl⟩ : pb = pb2 ∧ po = po2 := by simpa using hpe
      obtain ⟨qb, qo, rfl, cqa⟩ := h6.get (j := ka) (by omega)
      have hka2 : ka < n := by omega
      have hkb2 : kb < n := by omega
      have hxe : x = (decide (T.place.getD ka 0 ≤ T.place.getD kb 0) && decide (T.place.getD kb 0 < T.past.getD ka 0)) := by rw [hx]; unfold overT; rw [hra, hrb]; rfl
      obtain ⟨pa, hpa⟩ : ∃ pa, pa = T.place.getD ka 0 := ⟨_, rfl⟩
      obtain ⟨pc, hpc⟩ : ∃ pc, pc = T.place.getD kb 0 := ⟨_, rfl⟩
      obtain ⟨qa, hqa⟩ : ∃ qa, qa = T.past.getD ka 0 := ⟨_, rfl⟩
      rw [← hpa, ← hpc, ← hqa] at hxe
      rw [← hpa] at ca
      rw [← hpc] at cb
      rw [← hqa] at cqa
      clear hpa hpc hqa hx hpe hra hrb h1 h2 h3 h4 h5 h6 h7 h8 h9 l1 l2 l3 l4 l5 l6 h10 h11 h12 hka hkb
      by_cases hle : pa ≤ pc
      · have d1 : decide (pa ≤ pc) = true := decide_eq_true hle
        have hxe2 : x = decide (pc < qa) := by rw [hxe, d1]; rfl
        clear hxe
        subst hxe2
        have HRa := Lib.hid hRa
        have HRb := Lib.hid hRb
        clear hRa hRb
        go_enter Try.func43, Try.ntmps43
        go_upto_region 1 with fail
        go_quiet (first | (go_at_call 61; with_reducible refine Calls.quiet_of (HRa.out _ ?_); exact HTA.out.keep ⟨rfl, rfl, rfl, Nat.le_refl _, fun _ _ => rfl⟩) | (go_at_call 61; with_reducible refine Calls.quiet_of (HRb.out _ ?_); exact HTA.out.keep ⟨rfl, rfl, rfl, Nat.le_refl _, fun _ _ => rfl⟩))
        go_wp2
        go_ret
        exact ⟨rfl, _, rfl⟩
      · have d1 : decide (pa ≤ pc) = false := decide_eq_false hle
        have hxe2 : x = false := by rw [hxe, d1]; rfl
        clear hxe
        subst hxe2
        have HRa := Lib.hid hRa
        have HRb := Lib.hid hRb
        clear hRa hRb
        go_enter Try.func43, Try.ntmps43
        go_upto_region 1 with fail
        go_quiet (first | (go_at_call 61; with_reducible refine Calls.quiet_of (HRa.out _ ?_); exact HTA.out.keep ⟨rfl, rfl, rfl, Nat.le_refl _, fun _ _ => rfl⟩) | (go_at_call 61; with_reducible refine Calls.quiet_of (HRb.out _ ?_); exact HTA.out.keep ⟨rfl, rfl, rfl, Nat.le_refl _, fun _ _ => rfl⟩))
        go_wp2
        go_ret
        exact ⟨rfl, _, rfl⟩
    · have hrb : reachedT T b = false := by simpa using hrb
      have hxe : x = false := by rw [hx]; unfold overT; rw [hra, hrb]; rfl
      subst hxe
      rw [hrb] at hRb
      clear hx hra hrb h1 h2 h3 h4 h5 h6 h7 h8 h9 l1 l2 l3 l4 l5 l6 h10 h11 h12
      have HRa := Lib.hid hRa
      have HRb := Lib.hid hRb
      clear hRa hRb
      go_enter Try.func43, Try.ntmps43
      go_upto_region 1 with fail
      go_quiet (first | (go_at_call 61; with_reducible refine Calls.quiet_of (HRa.out _ ?_); exact HTA.out.keep ⟨rfl, rfl, rfl, Nat.le_refl _, fun _ _ => rfl⟩) | (go_at_call 61; with_reducible refine Calls.quiet_of (HRb.out _ ?_); exact HTA.out.keep ⟨rfl, rfl, rfl, Nat.le_refl _, fun _ _ => rfl⟩))
      go_wp2
      go_ret
      exact ⟨rfl, _, rfl⟩
  · have hra : reachedT T a = false := by simpa using hra
    have hxe : x = false := by rw [hx]; unfold overT; rw [hra]; rfl
    subst hxe
    rw [hra] at hRa
    clear hx hra h1 h2 h3 h4 h5 h6 h7 h8 h9 l1 l2 l3 l4 l5 l6 h10 h11 h12
    have HRa := Lib.hid hRa
    have HRb := Lib.hid hRb
    clear hRa hRb
    go_enter Try.func43, Try.ntmps43
    go_upto_region 1 with fail
    go_quiet (first | (go_at_call 61; with_reducible refine Calls.quiet_of (HRa.out _ ?_); exact HTA.out.keep ⟨rfl, rfl, rfl, Nat.le_refl _, fun _ _ => rfl⟩) | (go_at_call 61; with_reducible refine Calls.quiet_of (HRb.out _ ?_); exact HTA.out.keep ⟨rfl, rfl, rfl, Nat.le_refl _, fun _ _ => rfl⟩))
    go_wp2
    go_ret
    exact ⟨rfl, _, rfl⟩
end Go.Proofs.Ytglobeajmdieaaa
