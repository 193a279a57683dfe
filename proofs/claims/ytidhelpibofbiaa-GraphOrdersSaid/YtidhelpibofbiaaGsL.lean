/-
  The law GraphOrders.
-/
import Derived.Test.YtidhelpibofbiaaGsK
namespace Go.Proofs.Ytidhelpibofbiaa
open Go.RowKit
set_option linter.unusedVariables false
set_option linter.unusedSimpArgs false

theorem gr_ints {w : World} {base : Nat} {v : Value} {P : List Nat} (h : w.ownsRow base 3 1 v P.length (natsV P)) : GNs w.heap.size w v (P.map fun (b : Nat) => (b : Int)) := by
  have e : natsV P = intsV (P.map fun (b : Nat) => (b : Int)) := by simp [natsV, intsV]
  rw [e] at h
  have := GNs.of_own (l := P.map fun (b : Nat) => (b : Int)) (v := v) (base := base) (by rw [List.length_map]; exact h)
  exact this
/-- Two rows of the same numbers. -/
theorem ints_same {w : World} {base base2 n : Nat} {v u : Value} {P : List Nat} (hn : n = P.length) (hb : n ≤ 1048576) (hv : w.ownsRow base 3 1 v n (natsV P)) (hu : w.ownsRow base2 3 1 u n (natsV P)) :
    Calls Try.prog 10 #[v, u] w fun e w' => e = .returned (.bool true) ∧ Below w.heap.size w w' := by
  subst hn
  have h := ints_g w.heap.size v u (P.map fun (b : Nat) => (b : Int)) (P.map fun (b : Nat) => (b : Int)) w (gr_ints hv) (gr_ints hu) (by simpa using hb) (by simpa using hb) (Nat.le_refl _)
  rw [decide_eq_true rfl] at h
  exact h

set_option maxRecDepth 100000 in
set_option maxHeartbeats 16000000 in
theorem graphOrders_any (n0 : Nat) (A : Option Addr) (L c : Nat) (l : List (Int × Int)) (whole : Bool) (w : World) (hv : GPr n0 w (.slice A L c) l) (hn : n0 ≤ w.heap.size) (hL : L ≤ c) (hc : c ≤ maxLen) (hin : ∀ x ∈ l, InG x.1 ∧ InG x.2) :
    Calls Try.prog 3 #[.slice A L c, .bool whole] w fun e w' => e = .returned (.bool true) ∧ Below w.heap.size w w' := by
  have hll : L = l.length := by obtain ⟨A', c', e, _⟩ := id hv; injection e
  have hGr : Calls Try.prog 8 #[.slice A L c, .bool whole] w fun e w' => ∃ f, e = .returned f ∧ GF w'.heap.size w' f (graphP l whole) ∧ Below w.heap.size w w' := by
    cases whole with
    | true => exact graph_true n0 _ l w hv hn (by unfold maxLen at hc; omega) hin
    | false => exact graph_false n0 _ l w hv hn (by unfold maxLen at hc; omega) hin
  obtain ⟨g, hge⟩ : ∃ g, g = graphP l whole := ⟨_, rfl⟩
  rw [← hge] at hGr
  obtain ⟨P, hP⟩ : ∃ P, P = postP g := ⟨_, rfl⟩
  obtain ⟨O, hO⟩ : ∃ O, O = orderP g := ⟨_, rfl⟩
  obtain ⟨m, hm⟩ : ∃ m, m = P.length := ⟨_, rfl⟩
  have hmO : m = O.length := by rw [hm, hP, hO]; simp [orderP]
  have hmb : m ≤ 14 := by
    have := postP_len g
    have hgl : g.length ≤ 14 := by rw [hge, graphP_len]; omega
    rw [hm, hP]; omega
  have HP := Lib.hid hP
  have HO := Lib.hid hO
  have Hm := Lib.hid hm
  have HmO := Lib.hid hmO
  clear hv hin hll hge hP hO hm hmO hL hc
  go_enter Try.func3, Try.ntmps3
  go_wp2_with (first
    | (go_at_call 8; refine hGr.mono ?_; rintro e w1 ⟨f, rfl, hf1, hb1⟩; obtain ⟨s, pA, pn, pc, r, iA, in_, ic, bA, bn, bc, rfl, hG1, hbn1⟩ := id hf1;
        obtain ⟨Y, hY, hbY, hzY, h0Y⟩ := gr_one w1 #[.string s, .slice pA pn pc, .int .i64 r, .slice iA in_ ic, .slice bA bn bc] 27;
        have hfr : ∀ A : World, Below Y.heap.size Y A → GF w1.heap.size A (.agg #[.string s, .slice pA pn pc, .int .i64 r, .slice iA in_ ic, .slice bA bn bc]) g := (fun A hA => ⟨s, pA, pn, pc, r, iA, in_, ic, bA, bn, bc, rfl, hG1.keep (hbY.trans (hA.mono (by omega))), hbn1⟩);
        have hx : ∀ A : World, Below Y.heap.size Y A → A.cell? ⟨w1.heap.size, 0, none⟩ = some (.string s) ∧ A.cell? ⟨w1.heap.size, 1, none⟩ = some (.slice pA pn pc) ∧ A.cell? ⟨w1.heap.size, 2, none⟩ = some (.int .i64 r) ∧ A.cell? ⟨w1.heap.size, 3, none⟩ = some (.slice iA in_ ic) ∧ A.cell? ⟨w1.heap.size, 4, none⟩ = some (.slice bA bn bc) := (fun A hA => by obtain ⟨x0, x1, x2, x3, x4, -⟩ := gr_five ((hA.block w1.heap.size (gr_in h0Y)).trans h0Y); exact ⟨x0, x1, x2, x3, x4⟩);
        have Hx := Lib.hid hx;
        have Hfr := Lib.hid hfr; have HY := Lib.hid hY; have HbY := Lib.hid hbY; have HzY := Lib.hid hzY; have H0Y := Lib.hid h0Y; have Hb1 := Lib.hid hb1; clear hf1 hb1 hGr hG1 hbn1 hfr hY hbY hzY h0Y hx))
  have hY2 := HY.out
  go_upto_region 2 with fail
  rw [← HY.out]
  clear hY2
  obtain ⟨x0, x1, x2, x3, x4, -⟩ := gr_five H0Y.out
  have hyd : Below Y.heap.size Y Y.drew := (Below.refl _ _).drew
  have hA := awake8_any Y.drew
  have hP1 : ∀ X : World, Below Y.heap.size Y X → Calls Try.prog 11 #[.agg #[.string s, .slice pA pn pc, .int .i64 r, .slice iA in_ ic, .slice bA bn bc]] X fun e w' => ∃ v, e = .returned v ∧ w'.ownsRow Y.heap.size 3 1 v m (natsV P) ∧ Below X.heap.size X w' := fun X hX => by
    rw [Hm.out, HP.out]
    exact (post_g w1.heap.size _ g X (Hfr.out X hX) (by have := HzY.out; have := hX.size; omega)).mono fun e w' ⟨v, h1, h2, h3⟩ => ⟨v, h1, gr_mono h2 hX.size, h3⟩
  have hP2 : ∀ X : World, Below Y.heap.size Y X → Calls Try.prog 12 #[.agg #[.string s, .slice pA pn pc, .int .i64 r, .slice iA in_ ic, .slice bA bn bc]] X fun e w' => ∃ v, e = .returned v ∧ w'.ownsRow Y.heap.size 3 1 v m (natsV P) ∧ Below X.heap.size X w' := fun X hX => by
    rw [Hm.out, HP.out]
    exact (rpost_g w1.heap.size _ g X (Hfr.out X hX) (by have := HzY.out; have := hX.size; omega)).mono fun e w' ⟨v, h1, h2, h3⟩ => ⟨v, h1, gr_mono h2 hX.size, h3⟩
  have hO1 : ∀ X : World, Below Y.heap.size Y X → Calls Try.prog 13 #[.agg #[.string s, .slice pA pn pc, .int .i64 r, .slice iA in_ ic, .slice bA bn bc]] X fun e w' => ∃ v, e = .returned v ∧ w'.ownsRow Y.heap.size 3 1 v m (natsV O) ∧ Below X.heap.size X w' := fun X hX => by
    rw [HmO.out, HO.out]
    exact (order_g w1.heap.size _ g X (Hfr.out X hX) (by have := HzY.out; have := hX.size; omega)).mono fun e w' ⟨v, h1, h2, h3⟩ => ⟨v, h1, gr_mono h2 hX.size, h3⟩
  have hO2 : ∀ X : World, Below Y.heap.size Y X → Calls Try.prog 14 #[.agg #[.string s, .slice pA pn pc, .int .i64 r, .slice iA in_ ic, .slice bA bn bc]] X fun e w' => ∃ v, e = .returned v ∧ w'.ownsRow Y.heap.size 3 1 v m (natsV O) ∧ Below X.heap.size X w' := fun X hX => by
    rw [HmO.out, HO.out]
    exact (rorder_g w1.heap.size _ g X (Hfr.out X hX) (by have := HzY.out; have := hX.size; omega)).mono fun e w' ⟨v, h1, h2, h3⟩ => ⟨v, h1, gr_mono h2 hX.size, h3⟩
  have HP1 := Lib.hid hP1
  have HP2 := Lib.hid hP2
  have HO1 := Lib.hid hO1
  have HO2 := Lib.hid hO2
  have Hyd := Lib.hid hyd
  clear hP1 hP2 hO1 hO2 hyd
  go_region_with (first
    | (go_at_call 9; refine hA.mono ?_; rintro e w2 ⟨rfl, hb2⟩; have hB2 := Hyd.out.trans hb2; obtain ⟨a0, a1, a2, a3, a4⟩ := Hx.out w2 hB2; have hK1 := HP1.out w2 hB2; have HB2 := Lib.hid hB2; clear hb2 hB2 hA)
    | (go_at_call 11; refine hK1.mono ?_; rintro e w3 ⟨v3, rfl, ho3, hb3⟩; have hB3 := HB2.out.trans (hb3.mono HB2.out.size); obtain ⟨b0, b1, b2, b3, b4⟩ := Hx.out w3 hB3; have hK2 := HP2.out w3 hB3; have HB3 := Lib.hid hB3; have Ho3 := Lib.hid ho3; clear hb3 hB3 ho3 hK1)
    | (go_at_call 12; refine hK2.mono ?_; rintro e w4 ⟨v4, rfl, ho4, hb4⟩; have hB4 := HB3.out.trans (hb4.mono HB3.out.size); obtain ⟨c0, c1, c2, c3, c4⟩ := Hx.out w4 hB4; have hI1 := ints_same Hm.out (by omega) (gr_up Ho3.out hb4) ho4; have HB4 := Lib.hid hB4; clear hb4 hB4 ho4 hK2)
    | (go_at_call 10; first
        | (refine hI1.mono ?_; rintro e w5 ⟨rfl, hb5⟩; have hB5 := HB4.out.trans (hb5.mono HB4.out.size); obtain ⟨d0, d1, d2, d3, d4⟩ := Hx.out w5 hB5; have hK3 := HO1.out w5 hB5; have HB5 := Lib.hid hB5; clear hb5 hB5 hI1)
        | (refine hI2.mono ?_; rintro e w8 ⟨rfl, hb8⟩; have HB8 := Lib.hid (HB7.out.trans (hb8.mono HB7.out.size)); clear hb8 hI2))
    | (go_at_call 13; refine hK3.mono ?_; rintro e w6 ⟨v6, rfl, ho6, hb6⟩; have hB6 := HB5.out.trans (hb6.mono HB5.out.size); obtain ⟨e0, e1, e2, e3, e4⟩ := Hx.out w6 hB6; have hK4 := HO2.out w6 hB6; have HB6 := Lib.hid hB6; have Ho6 := Lib.hid ho6; clear hb6 hB6 ho6 hK3)
    | (go_at_call 14; refine hK4.mono ?_; rintro e w7 ⟨v7, rfl, ho7, hb7⟩; have hB7 := HB6.out.trans (hb7.mono HB6.out.size); have hI2 := ints_same HmO.out (by omega) (gr_up Ho6.out hb7) ho7; have HB7 := Lib.hid hB7; clear hb7 hB7 ho7 hK4))
  all_goals
    go_wp2
    go_ret
    exact ⟨rfl, Hb1.out.trans ((HbY.out.trans (HB8.out.mono (by have := HzY.out; omega))).mono Hb1.out.size)⟩
end Go.Proofs.Ytidhelpibofbiaa
