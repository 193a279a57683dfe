/-
  Statements without blocks; all readers of statements.
  Types; arguments.
-/
import Derived.Test.YtiadbeglhnocoaaGreatDoorJb29
namespace Go.Proofs.YtiadbeglhnocoaaGreatDoor
set_option linter.unusedVariables false
set_option linter.unusedSimpArgs false
open Go.RowKit

def NaC (k : Nat) : Prop := ∀ g q a t s r w, namedK k a t s = some r → Ok k s → PAt w g s → g < q → w.heap[q]? = some (.cells (st0 a) 77 (0, 0)) → Calls Tryz.prog 91 #[.pointer (some ⟨g, 0, none⟩), .pointer (some ⟨q, 0, none⟩), tkV t] w (SmP g q w r)
set_option maxRecDepth 100000 in
set_option maxHeartbeats 8000000 in
theorem simple_any (k : Nat) (HN : NaC k) : SiC (k + 1) := by
  intro g q a s r w hr hok h hgq hq
  have hgl := h.lt
  have hql := heap_lt hq
  have H0 : Hid (St8 g q w w s #[.int .i64 0, .int .i64 a, .int .i64 0, .string ⟨#[]⟩, .int .i64 0, .slice none 0 0, .slice none 0 0, .slice none 0 0]) := Lib.hid ⟨h, Bt.refl _ _ _, hq⟩
  simp only [simpleK] at hr
  have hX := fun w' (hp : PAt w' g s) => next_any g s w' hp
  have hok1 : Ok k s.next := (hok.less (Nat.le_succ k)).even (even_next s)
  obtain ⟨t, ht⟩ : ∃ t, t = s.now := ⟨_, rfl⟩
  obtain ⟨s1, hs1⟩ : ∃ s1, s1 = s.next := ⟨_, rfl⟩
  rw [← ht, ← hs1] at hX hr
  rw [← hs1] at hok1
  obtain ⟨tk, ta, tn, tb⟩ := t
  unfold tkV at hX
  simp only at hX hr
  unfold NaC tkV at HN
  clear ht hs1 hok hq h
  by_cases hk : tk = 1
  · rw [if_pos hk] at hr
    have hkb : (tk == 1) = true := by simp [hk]
    clear hk
    go_enter Tryz.func76, Tryz.ntmps76
    go_upto_region 1 with (go_at_call 58; refine (hX w H0.out.at_).mono ?_; rintro e w1 ⟨rfl, hp, hb⟩; have H1 := Lib.hid (H0.out.but hgq hp hb); clear hp hb)
    obtain ⟨w2, hw, hbw, hzw, hbP⟩ := one_al w1 #[.int .i64 tk, .int .i64 ta, .int .i64 tn, .string ⟨tb.toArray⟩] 56
    rw [← hw]
    clear hw
    have hgx : g < w1.heap.size := H1.out.at_.lt
    have hqx : q < w1.heap.size := heap_lt H1.out.cell
    have H2 := Lib.hid (H1.out.below hgq hbw)
    have BT_2 := Lib.hid hbP
    clear hbw hbP hzw
    obtain ⟨t0, t1, t2, t3, tf⟩ := cells4 BT_2.out
    obtain ⟨q0, q1, q2, q3, q4, q5, q6, q7, qf⟩ := cells8 H2.out.cell
    go_wp2_with (go_at_call 91; refine (HN g q a ⟨tk, ta, tn, tb⟩ s1 r w2 hr hok1 H2.out.at_ hgq H2.out.cell).mono ?_; rintro e w9 ⟨rfl, hp, hbt, hst⟩; have Hp9 := Lib.hid hp; have Hb9 := Lib.hid (H2.out.bt.trans hbt); have Hst := Lib.hid hst; have hsz := H2.out.bt.size; clear hp hbt hst)
    first | go_end0 | refine bodyPost_ret (results_none rfl _ _ _) rfl ?_
    obtain ⟨k1, a1, n1, z1, p1, kids, body, els, K, kc, B, bc, E, ec, hx, hc, h1, h2, h3⟩ := Hst.out
    exact ⟨rfl, Hp9.out, Hb9.out, k1, a1, n1, z1, p1, kids, body, els, K, kc, B, bc, E, ec, hx, hc, RdEs.more (fun _ hS => hS.lo hsz) _ _ _ h1, RdSs.more (fun _ hS => hS.lo hsz) _ _ _ h2, RdSs.more (fun _ hS => hS.lo hsz) _ _ _ h3⟩
  · rw [if_neg hk] at hr
    have hkb : (tk == 1) = false := by simpa using hk
    clear hk HN
    by_cases hb0 : (tb == ([118, 97, 114] : List UInt8)) = true
    · rw [if_pos hb0] at hr
      have hok2 : Ok k (s1.nameP.need1 ([61] : List UInt8)) := (hok1.even (even_name _)).need _
      cases hx : exprK k (s1.nameP.need1 ([61] : List UInt8)) with
      | none => rw [hx] at hr; cases hr
      | some y =>
        rw [hx] at hr
        obtain ⟨x, s2⟩ := y
        simp only [Option.some.injEq] at hr
        subst hr
        have Hx := Lib.hid hx
        clear hx
        go_enter Tryz.func76, Tryz.ntmps76
        go_upto_region 1 with (go_at_call 58; refine (hX w H0.out.at_).mono ?_; rintro e w1 ⟨rfl, hp, hb⟩; have H1 := Lib.hid (H0.out.but hgq hp hb); clear hp hb)
        obtain ⟨w2, hw, hbw, hzw, hbP⟩ := one_al w1 #[.int .i64 tk, .int .i64 ta, .int .i64 tn, .string ⟨tb.toArray⟩] 56
        rw [← hw]
        clear hw
        have hgx : g < w1.heap.size := H1.out.at_.lt
        have hqx : q < w1.heap.size := heap_lt H1.out.cell
        have H2 := Lib.hid (H1.out.below hgq hbw)
        have BT_2 := Lib.hid hbP
        clear hbw hbP hzw
        obtain ⟨t0, t1, t2, t3, tf⟩ := cells4 BT_2.out
        obtain ⟨q0, q1, q2, q3, q4, q5, q6, q7, qf⟩ := cells8 H2.out.cell
        go_upto_region 7 with fail
        clear t0 t1 t2 t3 tf
        obtain ⟨w3, hw⟩ : ∃ W, W = w2.setCell ⟨q, 0, none⟩ (.int .i64 1) := ⟨_, rfl⟩
        rw [← hw]
        have H3 : Hid (St8 g q w w3 (s1) #[.int .i64 1, .int .i64 a, .int .i64 0, .string ⟨#[]⟩, .int .i64 0, .slice none 0 0, .slice none 0 0, .slice none 0 0]) := by
          rw [hw]
          have := H2.out.set hgq 0 (.int .i64 1)
          simp only [List.setIfInBounds_toArray, List.set_cons_zero, List.set_cons_succ] at this
          exact Lib.hid this
        have hbt : Bt g q w2 w3 := by rw [hw]; exact Bt.set g q w2 0 _
        have BT_3 := Lib.hid (((hbt).block w1.heap.size (heap_lt BT_2.out) (by omega) (by omega)).trans BT_2.out)
        clear BT_2
        clear hw hbt q0 q1 q2 q3 q4 q5 q6 q7 qf
        go_upto_region 8 with (go_at_call 39; refine (name_p g s1 w3 H3.out.at_).mono ?_; rintro e w4 ⟨rfl, hp, hb⟩; have H4 := Lib.hid (H3.out.but hgq hp hb); have BT_4 := Lib.hid (((Bt.of_but (g := g) (q := q) hb).block w1.heap.size (heap_lt BT_3.out) (by omega) (by omega)).trans BT_3.out); clear BT_3; clear hp hb; obtain ⟨q0, q1, q2, q3, q4, q5, q6, q7, qf⟩ := cells8 H4.out.cell)
        obtain ⟨w5, hw⟩ : ∃ W, W = w4.setCell ⟨q, 3, none⟩ (.string ⟨s1.now.bytes.toArray⟩) := ⟨_, rfl⟩
        rw [← hw]
        have H5 : Hid (St8 g q w w5 (s1.nameP) #[.int .i64 1, .int .i64 a, .int .i64 0, .string ⟨s1.now.bytes.toArray⟩, .int .i64 0, .slice none 0 0, .slice none 0 0, .slice none 0 0]) := by
          rw [hw]
          have := H4.out.set hgq 3 (.string ⟨s1.now.bytes.toArray⟩)
          simp only [List.setIfInBounds_toArray, List.set_cons_zero, List.set_cons_succ] at this
          exact Lib.hid this
        have hbt : Bt g q w4 w5 := by rw [hw]; exact Bt.set g q w4 3 _
        have BT_5 := Lib.hid (((hbt).block w1.heap.size (heap_lt BT_4.out) (by omega) (by omega)).trans BT_4.out)
        clear BT_4
        clear hw hbt q0 q1 q2 q3 q4 q5 q6 q7 qf
        go_upto_region 9 with (go_at_call 38; refine (need1_at g (s1.nameP) ([61] : List UInt8) w5 H5.out.at_).mono ?_; rintro e w6 ⟨rfl, hp, hb⟩; have H6 := Lib.hid (H5.out.but hgq hp hb); have BT_6 := Lib.hid (((Bt.of_but (g := g) (q := q) hb).block w1.heap.size (heap_lt BT_5.out) (by omega) (by omega)).trans BT_5.out); clear BT_5; clear hp hb)
        go_wp2_with (first
          | (go_at_call 88; refine (expr_c k w.heap.size g ((s1.nameP).need1 ([61] : List UInt8)) x s2 w6 Hx.out hok2 H6.out.at_ (H6.out.bt.size)).mono ?_; rintro e w7 ⟨pk, pa, pt, po, pn, pz, pkids, PK, pc, pd, rfl, hxe, hk, hp, hb⟩; have H7 := Lib.hid (H6.out.but hgq hp hb); have BT_7 := Lib.hid (((Bt.of_but (g := g) (q := q) hb).block w1.heap.size (heap_lt BT_6.out) (by omega) (by omega)).trans BT_6.out); clear BT_6; have PK_7 := Lib.hid hk; clear hk; have HX := Lib.hid hxe; clear hxe; clear hp hb)
          | (go_at_call 87; refine (exprs_one w.heap.size w7 (H7.out.bt.size) PK_7.out).mono ?_; rintro e w8 ⟨K, Kc, rfl, hk, hb⟩; have H8 := Lib.hid (H7.out.below hgq hb); have BT_8 := Lib.hid (((Bt.of_below (g := g) (q := q) hb).block w1.heap.size (heap_lt BT_7.out) (by omega) (by omega)).trans BT_7.out); clear BT_7; have FK_8 := Lib.hid hk; clear hk hb; obtain ⟨q0, q1, q2, q3, q4, q5, q6, q7, qf⟩ := cells8 H8.out.cell))
        first | go_end0 | refine bodyPost_ret (results_none rfl _ _ _) rfl ?_
        have HZ := H8.out.set hgq 5 (.slice K 1 Kc)
        simp only [List.setIfInBounds_toArray, List.set_cons_zero, List.set_cons_succ] at HZ
        have hxe := HX.out
        subst hxe
        exact ⟨rfl, HZ.at_, HZ.bt, 1, a, 0, _, 0, _, [], [], K, Kc, none, 0, none, 0, rfl, HZ.cell, RdEs.bt FK_8.out (Bt.set g q _ 5 _) hgl hql, by unfold RdSs; trivial, by unfold RdSs; trivial⟩
    · rw [if_neg hb0] at hr
      replace hb0 : (tb == ([118, 97, 114] : List UInt8)) = false := by simpa using hb0
      by_cases hb1 : (tb == ([98, 114, 101, 97, 107] : List UInt8)) = true
      · rw [if_pos hb1] at hr
        simp only [Option.some.injEq] at hr
        subst hr
        go_enter Tryz.func76, Tryz.ntmps76
        go_upto_region 1 with (go_at_call 58; refine (hX w H0.out.at_).mono ?_; rintro e w1 ⟨rfl, hp, hb⟩; have H1 := Lib.hid (H0.out.but hgq hp hb); clear hp hb)
        obtain ⟨w2, hw, hbw, hzw, hbP⟩ := one_al w1 #[.int .i64 tk, .int .i64 ta, .int .i64 tn, .string ⟨tb.toArray⟩] 56
        rw [← hw]
        clear hw
        have hgx : g < w1.heap.size := H1.out.at_.lt
        have hqx : q < w1.heap.size := heap_lt H1.out.cell
        have H2 := Lib.hid (H1.out.below hgq hbw)
        have BT_2 := Lib.hid hbP
        clear hbw hbP hzw
        obtain ⟨t0, t1, t2, t3, tf⟩ := cells4 BT_2.out
        obtain ⟨q0, q1, q2, q3, q4, q5, q6, q7, qf⟩ := cells8 H2.out.cell
        go_wp2
        first | go_end0 | refine bodyPost_ret (results_none rfl _ _ _) rfl ?_
        have HZ := H2.out.set hgq 0 (.int .i64 7)
        simp only [List.setIfInBounds_toArray, List.set_cons_zero, List.set_cons_succ] at HZ
        exact ⟨rfl, HZ.at_, HZ.bt, 7, a, 0, ⟨#[]⟩, 0, [], [], [], none, 0, none, 0, none, 0, rfl, HZ.cell, by unfold RdEs; trivial, by unfold RdSs; trivial, by unfold RdSs; trivial⟩
      · rw [if_neg hb1] at hr
        replace hb1 : (tb == ([98, 114, 101, 97, 107] : List UInt8)) = false := by simpa using hb1
        by_cases hb2 : (tb == ([99, 111, 110, 116, 105, 110, 117, 101] : List UInt8)) = true
        · rw [if_pos hb2] at hr
          simp only [Option.some.injEq] at hr
          subst hr
          go_enter Tryz.func76, Tryz.ntmps76
          go_upto_region 1 with (go_at_call 58; refine (hX w H0.out.at_).mono ?_; rintro e w1 ⟨rfl, hp, hb⟩; have H1 := Lib.hid (H0.out.but hgq hp hb); clear hp hb)
          obtain ⟨w2, hw, hbw, hzw, hbP⟩ := one_al w1 #[.int .i64 tk, .int .i64 ta, .int .i64 tn, .string ⟨tb.toArray⟩] 56
          rw [← hw]
          clear hw
          have hgx : g < w1.heap.size := H1.out.at_.lt
          have hqx : q < w1.heap.size := heap_lt H1.out.cell
          have H2 := Lib.hid (H1.out.below hgq hbw)
          have BT_2 := Lib.hid hbP
          clear hbw hbP hzw
          obtain ⟨t0, t1, t2, t3, tf⟩ := cells4 BT_2.out
          obtain ⟨q0, q1, q2, q3, q4, q5, q6, q7, qf⟩ := cells8 H2.out.cell
          go_wp2
          first | go_end0 | refine bodyPost_ret (results_none rfl _ _ _) rfl ?_
          have HZ := H2.out.set hgq 0 (.int .i64 8)
          simp only [List.setIfInBounds_toArray, List.set_cons_zero, List.set_cons_succ] at HZ
          exact ⟨rfl, HZ.at_, HZ.bt, 8, a, 0, ⟨#[]⟩, 0, [], [], [], none, 0, none, 0, none, 0, rfl, HZ.cell, by unfold RdEs; trivial, by unfold RdSs; trivial, by unfold RdSs; trivial⟩
        · rw [if_neg hb2] at hr
          replace hb2 : (tb == ([99, 111, 110, 116, 105, 110, 117, 101] : List UInt8)) = false := by simpa using hb2
          by_cases hb3 : (tb == ([114, 101, 116, 117, 114, 110] : List UInt8)) = true
          · rw [if_pos hb3] at hr
            have hI := fun w' (hp : PAt w' g s1) => is_any g s1 ([59] : List UInt8) w' hp
            by_cases hs : s1.isB ([59] : List UInt8) = true
            · rw [if_pos hs] at hr
              simp only [Option.some.injEq] at hr
              subst hr
              rw [hs] at hI
              clear hs
              go_enter Tryz.func76, Tryz.ntmps76
              go_upto_region 1 with (go_at_call 58; refine (hX w H0.out.at_).mono ?_; rintro e w1 ⟨rfl, hp, hb⟩; have H1 := Lib.hid (H0.out.but hgq hp hb); clear hp hb)
              obtain ⟨w2, hw, hbw, hzw, hbP⟩ := one_al w1 #[.int .i64 tk, .int .i64 ta, .int .i64 tn, .string ⟨tb.toArray⟩] 56
              rw [← hw]
              clear hw
              have hgx : g < w1.heap.size := H1.out.at_.lt
              have hqx : q < w1.heap.size := heap_lt H1.out.cell
              have H2 := Lib.hid (H1.out.below hgq hbw)
              have BT_2 := Lib.hid hbP
              clear hbw hbP hzw
              obtain ⟨t0, t1, t2, t3, tf⟩ := cells4 BT_2.out
              obtain ⟨q0, q1, q2, q3, q4, q5, q6, q7, qf⟩ := cells8 H2.out.cell
              go_upto_region 16 with fail
              clear t0 t1 t2 t3 tf
              obtain ⟨w3, hw⟩ : ∃ W, W = w2.setCell ⟨q, 0, none⟩ (.int .i64 9) := ⟨_, rfl⟩
              rw [← hw]
              have H3 : Hid (St8 g q w w3 (s1) #[.int .i64 9, .int .i64 a, .int .i64 0, .string ⟨#[]⟩, .int .i64 0, .slice none 0 0, .slice none 0 0, .slice none 0 0]) := by
                rw [hw]
                have := H2.out.set hgq 0 (.int .i64 9)
                simp only [List.setIfInBounds_toArray, List.set_cons_zero, List.set_cons_succ] at this
                exact Lib.hid this
              have hbt : Bt g q w2 w3 := by rw [hw]; exact Bt.set g q w2 0 _
              have BT_3 := Lib.hid (((hbt).block w1.heap.size (heap_lt BT_2.out) (by omega) (by omega)).trans BT_2.out)
              clear BT_2
              clear hw hbt q0 q1 q2 q3 q4 q5 q6 q7 qf
              go_wp2_with (go_at_call 61; with_reducible refine (hI w3 H3.out.at_).mono ?_; rintro e w4 ⟨rfl, hb⟩; have H4 := Lib.hid (H3.out.below hgq hb); have BT_4 := Lib.hid (((Bt.of_below (g := g) (q := q) hb).block w1.heap.size (heap_lt BT_3.out) (by omega) (by omega)).trans BT_3.out); clear BT_3; clear hb hI)
              first | go_end0 | refine bodyPost_ret (results_none rfl _ _ _) rfl ?_
              exact ⟨rfl, H4.out.at_, H4.out.bt, 9, a, 0, ⟨#[]⟩, 0, [], [], [], none, 0, none, 0, none, 0, rfl, H4.out.cell, by unfold RdEs; trivial, by unfold RdSs; trivial, by unfold RdSs; trivial⟩
            · rw [if_neg hs] at hr
              have hsf : s1.isB ([59] : List UInt8) = false := by simpa using hs
              rw [hsf] at hI
              clear hs hsf
              cases hx : exprK k s1 with
              | none => rw [hx] at hr; cases hr
              | some y =>
                rw [hx] at hr
                obtain ⟨x, s2⟩ := y
                simp only [Option.some.injEq] at hr
                subst hr
                have Hx := Lib.hid hx
                clear hx
                go_enter Tryz.func76, Tryz.ntmps76
                go_upto_region 1 with (go_at_call 58; refine (hX w H0.out.at_).mono ?_; rintro e w1 ⟨rfl, hp, hb⟩; have H1 := Lib.hid (H0.out.but hgq hp hb); clear hp hb)
                obtain ⟨w2, hw, hbw, hzw, hbP⟩ := one_al w1 #[.int .i64 tk, .int .i64 ta, .int .i64 tn, .string ⟨tb.toArray⟩] 56
                rw [← hw]
                clear hw
                have hgx : g < w1.heap.size := H1.out.at_.lt
                have hqx : q < w1.heap.size := heap_lt H1.out.cell
                have H2 := Lib.hid (H1.out.below hgq hbw)
                have BT_2 := Lib.hid hbP
                clear hbw hbP hzw
                obtain ⟨t0, t1, t2, t3, tf⟩ := cells4 BT_2.out
                obtain ⟨q0, q1, q2, q3, q4, q5, q6, q7, qf⟩ := cells8 H2.out.cell
                go_upto_region 16 with fail
                clear t0 t1 t2 t3 tf
                obtain ⟨w3, hw⟩ : ∃ W, W = w2.setCell ⟨q, 0, none⟩ (.int .i64 9) := ⟨_, rfl⟩
                rw [← hw]
                have H3 : Hid (St8 g q w w3 (s1) #[.int .i64 9, .int .i64 a, .int .i64 0, .string ⟨#[]⟩, .int .i64 0, .slice none 0 0, .slice none 0 0, .slice none 0 0]) := by
                  rw [hw]
                  have := H2.out.set hgq 0 (.int .i64 9)
                  simp only [List.setIfInBounds_toArray, List.set_cons_zero, List.set_cons_succ] at this
                  exact Lib.hid this
                have hbt : Bt g q w2 w3 := by rw [hw]; exact Bt.set g q w2 0 _
                have BT_3 := Lib.hid (((hbt).block w1.heap.size (heap_lt BT_2.out) (by omega) (by omega)).trans BT_2.out)
                clear BT_2
                clear hw hbt q0 q1 q2 q3 q4 q5 q6 q7 qf
                go_upto_region 17 with (go_at_call 61; with_reducible refine (hI w3 H3.out.at_).mono ?_; rintro e w4 ⟨rfl, hb⟩; have H4 := Lib.hid (H3.out.below hgq hb); have BT_4 := Lib.hid (((Bt.of_below (g := g) (q := q) hb).block w1.heap.size (heap_lt BT_3.out) (by omega) (by omega)).trans BT_3.out); clear BT_3; clear hb hI)
                go_wp2_with (first
                  | (go_at_call 88; refine (expr_c k w.heap.size g (s1) x s2 w4 Hx.out hok1 H4.out.at_ (H4.out.bt.size)).mono ?_; rintro e w5 ⟨pk, pa, pt, po, pn, pz, pkids, PK, pc, pd, rfl, hxe, hk, hp, hb⟩; have H5 := Lib.hid (H4.out.but hgq hp hb); have BT_5 := Lib.hid (((Bt.of_but (g := g) (q := q) hb).block w1.heap.size (heap_lt BT_4.out) (by omega) (by omega)).trans BT_4.out); clear BT_4; have PK_5 := Lib.hid hk; clear hk; have HX := Lib.hid hxe; clear hxe; clear hp hb)
                  | (go_at_call 87; refine (exprs_one w.heap.size w5 (H5.out.bt.size) PK_5.out).mono ?_; rintro e w6 ⟨K, Kc, rfl, hk, hb⟩; have H6 := Lib.hid (H5.out.below hgq hb); have BT_6 := Lib.hid (((Bt.of_below (g := g) (q := q) hb).block w1.heap.size (heap_lt BT_5.out) (by omega) (by omega)).trans BT_5.out); clear BT_5; have FK_6 := Lib.hid hk; clear hk hb; obtain ⟨q0, q1, q2, q3, q4, q5, q6, q7, qf⟩ := cells8 H6.out.cell))
                first | go_end0 | refine bodyPost_ret (results_none rfl _ _ _) rfl ?_
                have HZ := H6.out.set hgq 5 (.slice K 1 Kc)
                simp only [List.setIfInBounds_toArray, List.set_cons_zero, List.set_cons_succ] at HZ
                have hxe := HX.out
                subst hxe
                exact ⟨rfl, HZ.at_, HZ.bt, 9, a, 0, ⟨#[]⟩, 0, _, [], [], K, Kc, none, 0, none, 0, rfl, HZ.cell, RdEs.bt FK_6.out (Bt.set g q _ 5 _) hgl hql, by unfold RdSs; trivial, by unfold RdSs; trivial⟩
          · rw [if_neg hb3] at hr
            replace hb3 : (tb == ([114, 101, 116, 117, 114, 110] : List UInt8)) = false := by simpa using hb3
            by_cases hb4 : (tb == ([112, 114, 105, 110, 116] : List UInt8)) = true
            · rw [if_pos hb4] at hr
              cases hx : exprK k s1 with
              | none => rw [hx] at hr; cases hr
              | some y =>
                rw [hx] at hr
                obtain ⟨x, s2⟩ := y
                simp only [Option.some.injEq] at hr
                subst hr
                have Hx := Lib.hid hx
                clear hx
                go_enter Tryz.func76, Tryz.ntmps76
                go_upto_region 1 with (go_at_call 58; refine (hX w H0.out.at_).mono ?_; rintro e w1 ⟨rfl, hp, hb⟩; have H1 := Lib.hid (H0.out.but hgq hp hb); clear hp hb)
                obtain ⟨w2, hw, hbw, hzw, hbP⟩ := one_al w1 #[.int .i64 tk, .int .i64 ta, .int .i64 tn, .string ⟨tb.toArray⟩] 56
                rw [← hw]
                clear hw
                have hgx : g < w1.heap.size := H1.out.at_.lt
                have hqx : q < w1.heap.size := heap_lt H1.out.cell
                have H2 := Lib.hid (H1.out.below hgq hbw)
                have BT_2 := Lib.hid hbP
                clear hbw hbP hzw
                obtain ⟨t0, t1, t2, t3, tf⟩ := cells4 BT_2.out
                obtain ⟨q0, q1, q2, q3, q4, q5, q6, q7, qf⟩ := cells8 H2.out.cell
                go_upto_region 20 with fail
                clear t0 t1 t2 t3 tf
                obtain ⟨w3, hw⟩ : ∃ W, W = w2.setCell ⟨q, 0, none⟩ (.int .i64 10) := ⟨_, rfl⟩
                rw [← hw]
                have H3 : Hid (St8 g q w w3 (s1) #[.int .i64 10, .int .i64 a, .int .i64 0, .string ⟨#[]⟩, .int .i64 0, .slice none 0 0, .slice none 0 0, .slice none 0 0]) := by
                  rw [hw]
                  have := H2.out.set hgq 0 (.int .i64 10)
                  simp only [List.setIfInBounds_toArray, List.set_cons_zero, List.set_cons_succ] at this
                  exact Lib.hid this
                have hbt : Bt g q w2 w3 := by rw [hw]; exact Bt.set g q w2 0 _
                have BT_3 := Lib.hid (((hbt).block w1.heap.size (heap_lt BT_2.out) (by omega) (by omega)).trans BT_2.out)
                clear BT_2
                clear hw hbt q0 q1 q2 q3 q4 q5 q6 q7 qf
                go_wp2_with (first
                  | (go_at_call 88; refine (expr_c k w.heap.size g (s1) x s2 w3 Hx.out hok1 H3.out.at_ (H3.out.bt.size)).mono ?_; rintro e w4 ⟨pk, pa, pt, po, pn, pz, pkids, PK, pc, pd, rfl, hxe, hk, hp, hb⟩; have H4 := Lib.hid (H3.out.but hgq hp hb); have BT_4 := Lib.hid (((Bt.of_but (g := g) (q := q) hb).block w1.heap.size (heap_lt BT_3.out) (by omega) (by omega)).trans BT_3.out); clear BT_3; have PK_4 := Lib.hid hk; clear hk; have HX := Lib.hid hxe; clear hxe; clear hp hb)
                  | (go_at_call 87; refine (exprs_one w.heap.size w4 (H4.out.bt.size) PK_4.out).mono ?_; rintro e w5 ⟨K, Kc, rfl, hk, hb⟩; have H5 := Lib.hid (H4.out.below hgq hb); have BT_5 := Lib.hid (((Bt.of_below (g := g) (q := q) hb).block w1.heap.size (heap_lt BT_4.out) (by omega) (by omega)).trans BT_4.out); clear BT_4; have FK_5 := Lib.hid hk; clear hk hb; obtain ⟨q0, q1, q2, q3, q4, q5, q6, q7, qf⟩ := cells8 H5.out.cell))
                first | go_end0 | refine bodyPost_ret (results_none rfl _ _ _) rfl ?_
                have HZ := H5.out.set hgq 5 (.slice K 1 Kc)
                simp only [List.setIfInBounds_toArray, List.set_cons_zero, List.set_cons_succ] at HZ
                have hxe := HX.out
                subst hxe
                exact ⟨rfl, HZ.at_, HZ.bt, 10, a, 0, ⟨#[]⟩, 0, _, [], [], K, Kc, none, 0, none, 0, rfl, HZ.cell, RdEs.bt FK_5.out (Bt.set g q _ 5 _) hgl hql, by unfold RdSs; trivial, by unfold RdSs; trivial⟩
            · rw [if_neg hb4] at hr
              replace hb4 : (tb == ([112, 114, 105, 110, 116] : List UInt8)) = false := by simpa using hb4
              simp only [Option.some.injEq] at hr
              subst hr
              go_enter Tryz.func76, Tryz.ntmps76
              go_upto_region 1 with (go_at_call 58; refine (hX w H0.out.at_).mono ?_; rintro e w1 ⟨rfl, hp, hb⟩; have H1 := Lib.hid (H0.out.but hgq hp hb); clear hp hb)
              obtain ⟨w2, hw, hbw, hzw, hbP⟩ := one_al w1 #[.int .i64 tk, .int .i64 ta, .int .i64 tn, .string ⟨tb.toArray⟩] 56
              rw [← hw]
              clear hw
              have hgx : g < w1.heap.size := H1.out.at_.lt
              have hqx : q < w1.heap.size := heap_lt H1.out.cell
              have H2 := Lib.hid (H1.out.below hgq hbw)
              have BT_2 := Lib.hid hbP
              clear hbw hbP hzw
              obtain ⟨t0, t1, t2, t3, tf⟩ := cells4 BT_2.out
              obtain ⟨q0, q1, q2, q3, q4, q5, q6, q7, qf⟩ := cells8 H2.out.cell
              go_wp2_with (go_at_call 57; refine (refuse_any g s1 ⟨tk, ta, tn, tb⟩ w2 H2.out.at_).mono ?_; rintro e w3 ⟨rfl, hp, hb⟩; have H3 := Lib.hid (H2.out.but hgq hp hb); have BT_3 := Lib.hid (((Bt.of_but (g := g) (q := q) hb).block w1.heap.size (heap_lt BT_2.out) (by omega) (by omega)).trans BT_2.out); clear BT_2; clear hp hb)
              first | go_end0 | refine bodyPost_ret (results_none rfl _ _ _) rfl ?_
              exact ⟨rfl, H3.out.at_, H3.out.bt, 0, a, 0, ⟨#[]⟩, 0, [], [], [], none, 0, none, 0, none, 0, rfl, H3.out.cell, by unfold RdEs; trivial, by unfold RdSs; trivial, by unfold RdSs; trivial⟩
theorem named_c (k : Nat) : NaC k := by
  intro g q a t s r w hr hok h hgq hq
  cases k with
  | zero => simp [namedK] at hr
  | succ k => exact named_any k (by unfold Ok at hok; omega) g q a t s r w hr hok h hgq hq
/-- All readers of statements. -/
structure AllS (k : Nat) : Prop where
  bl : BlC k
  el : ElC k
  st : StC k
  ch : ChC k
  wh : WhC k
  co : CoC k
  si : SiC k
theorem allS_zero : AllS 0 where
  bl := fun g lo s r w hr => by simp [blockK] at hr
  el := fun g lo s r w hr => by simp [elseK] at hr
  st := fun g lo s r w hr => by simp [stmtK] at hr
  ch := fun g q a s r w hr => by simp [choiceK] at hr
  wh := fun g q a s r w hr => by simp [whileK] at hr
  co := fun g q a s r w hr => by simp [countK] at hr
  si := fun g q a s r w hr => by simp [simpleK] at hr
theorem allS_succ (k : Nat) (ih : ∀ j, j ≤ k → AllS j) : AllS (k + 1) where
  bl := block_any k (fun j hj => (ih j (Nat.le_of_lt hj)).st)
  el := otherwise_any k (ih k (Nat.le_refl _)).bl (ih k (Nat.le_refl _)).st
  st := statement_any k (ih k (Nat.le_refl _)).ch (ih k (Nat.le_refl _)).wh (ih k (Nat.le_refl _)).co (ih k (Nat.le_refl _)).si
  ch := choice_any k (ih k (Nat.le_refl _)).bl (ih k (Nat.le_refl _)).el
  wh := while_any k (ih k (Nat.le_refl _)).bl
  co := count_any k (ih k (Nat.le_refl _)).bl
  si := simple_any k (named_c k)
theorem allS_le : ∀ k, ∀ j, j ≤ k → AllS j
  | 0, j, h => by obtain rfl : j = 0 := by omega
                  exact allS_zero
  | k + 1, j, h => by
    rcases Nat.lt_or_ge j (k + 1) with h1 | h1
    · exact allS_le k j (by omega)
    · obtain rfl : j = k + 1 := by omega
      exact allS_succ k (allS_le k)
theorem block_c (k : Nat) : BlC k := (allS_le k k (Nat.le_refl _)).bl
end Go.Proofs.YtiadbeglhnocoaaGreatDoor
namespace Go.Proofs.YtiadbeglhnocoaaGreatDoor
set_option linter.unusedVariables false
set_option linter.unusedSimpArgs false
open Go.RowKit

/-- Where the parser stands. -/
structure Pt (g : Nat) (w0 w : World) (s : PS) : Prop where
  at_ : PAt w g s
  but : But g w0 w
theorem Pt.nxt {g : Nat} {w0 w w' : World} {s s' : PS} (h : Pt g w0 w s) (hp : PAt w' g s') (hb : But g w w') : Pt g w0 w' s' := ⟨hp, h.but.trans hb⟩
theorem Pt.below {g : Nat} {w0 w w' : World} {s : PS} (h : Pt g w0 w s) (hb : Below w.heap.size w w') : Pt g w0 w' s := ⟨h.at_.keep hb, h.but.up (hb.mono h.but.size)⟩
/-- What a call that hands a value back comes to. -/
def RetP (g : Nat) (w : World) (v : Value) (s' : PS) (e : Ending) (w' : World) : Prop := e = .returned v ∧ PAt w' g s' ∧ But g w w'
theorem take_yes (g : Nat) (s : PS) (b : List UInt8) (w : World) (h : PAt w g s) (hb : s.isB b = true) :
    Calls Tryz.prog 43 #[.pointer (some ⟨g, 0, none⟩), .string ⟨b.toArray⟩] w fun e w' => e = .returned (.bool true) ∧ PAt w' g s.next ∧ But g w w' := by
  have := take_any g s b w h
  rw [hb, show s.takeP b = s.next by unfold PS.takeP; rw [if_pos hb]] at this
  exact this
theorem take_no (g : Nat) (s : PS) (b : List UInt8) (w : World) (h : PAt w g s) (hb : s.isB b = false) :
    Calls Tryz.prog 43 #[.pointer (some ⟨g, 0, none⟩), .string ⟨b.toArray⟩] w fun e w' => e = .returned (.bool false) ∧ PAt w' g s ∧ But g w w' := by
  have := take_any g s b w h
  rw [hb, show s.takeP b = s by unfold PS.takeP; rw [if_neg (by simp [hb])]] at this
  exact this
theorem need4_at (g : Nat) (s : PS) (a b c d : List UInt8) (w : World) (h : PAt w g s) :
    Calls Tryz.prog 38 #[.pointer (some ⟨g, 0, none⟩), .slice (some ⟨w.heap.size, 0, none⟩) 4 4] (w.alloc (.cells #[.string ⟨a.toArray⟩, .string ⟨b.toArray⟩, .string ⟨c.toArray⟩, .string ⟨d.toArray⟩] 9)) (Mv g w (PS.needs [a, b, c, d] s)) := by
  have hgl := h.lt
  refine (need_any g s [a, b, c, d] w.heap.size (w.alloc (.cells #[.string ⟨a.toArray⟩, .string ⟨b.toArray⟩, .string ⟨c.toArray⟩, .string ⟨d.toArray⟩] 9)) (h.keep ((Below.refl _ _).alloc (Nat.le_refl _) _)) (by simp) (by omega) (heap_alloc_new w _)).mono ?_
  rintro e w' ⟨he, hp, hb⟩
  exact ⟨he, hp, ((But.refl g w).alloc _).trans hb⟩
set_option maxRecDepth 100000 in
set_option maxHeartbeats 8000000 in
theorem kind_any (g : Nat) (s : PS) (w : World) (h : PAt w g s) :
    Calls Tryz.prog 44 #[.pointer (some ⟨g, 0, none⟩)] w (RetP g w (.int .i64 (typeP s).1) (typeP s).2) := by
  have hgl := h.lt
  have H0 : Hid (Pt g w w s) := Lib.hid ⟨h, But.refl g w⟩
  unfold typeP
  by_cases h1 : s.isB ([105, 110, 116] : List UInt8) = true
  · rw [if_pos h1]
    have hT := fun w' (hp : PAt w' g s) => take_yes g s ([105, 110, 116] : List UInt8) w' hp h1
    clear h h1
    go_enter Tryz.func44, Tryz.ntmps44
    go_wp2_with (go_at_call 43; refine (hT w H0.out.at_).mono ?_; rintro e w1 ⟨rfl, hp, hb⟩; have H1 := Lib.hid (H0.out.nxt hp hb); clear hp hb)
    go_ret
    exact ⟨rfl, H1.out.at_, H1.out.but⟩
  · rw [if_neg h1]
    have hT := fun w' (hp : PAt w' g s) => take_no g s ([105, 110, 116] : List UInt8) w' hp (by simpa using h1)
    by_cases h2 : s.isB ([98, 111, 111, 108] : List UInt8) = true
    · rw [if_pos h2]
      have hU := fun w' (hp : PAt w' g s) => take_yes g s ([98, 111, 111, 108] : List UInt8) w' hp h2
      clear h h1 h2
      go_enter Tryz.func44, Tryz.ntmps44
      go_wp2_with (first
        | (go_at_call 43; with_reducible refine (hT w H0.out.at_).mono ?_; rintro e w1 ⟨rfl, hp, hb⟩; have H1 := Lib.hid (H0.out.nxt hp hb); clear hT; clear hp hb)
        | (go_at_call 43; with_reducible refine (hU w1 H1.out.at_).mono ?_; rintro e w2 ⟨rfl, hp, hb⟩; have H2 := Lib.hid (H1.out.nxt hp hb); clear hp hb))
      go_ret
      exact ⟨rfl, H2.out.at_, H2.out.but⟩
    · rw [if_neg h2]
      have hU := fun w' (hp : PAt w' g s) => take_no g s ([98, 111, 111, 108] : List UInt8) w' hp (by simpa using h2)
      clear h1 h2
      obtain ⟨s1, hs1⟩ : ∃ s1, s1 = s.need1 ([91] : List UInt8) := ⟨_, rfl⟩
      have hN := fun w' (hp : PAt w' g s) => need1_at g s ([91] : List UInt8) w' hp
      rw [← hs1] at hN ⊢
      by_cases h3 : s1.isB ([105, 110, 116] : List UInt8) = true
      · rw [if_pos h3]
        have hV := fun w' (hp : PAt w' g s1) => take_yes g s1 ([105, 110, 116] : List UInt8) w' hp h3
        clear h h3 hs1
        go_enter Tryz.func44, Tryz.ntmps44
        go_wp2_with (first
          | (go_at_call 43; with_reducible refine (hT w H0.out.at_).mono ?_; rintro e w1 ⟨rfl, hp, hb⟩; have H1 := Lib.hid (H0.out.nxt hp hb); clear hT; clear hp hb)
          | (go_at_call 43; with_reducible refine (hU w1 H1.out.at_).mono ?_; rintro e w2 ⟨rfl, hp, hb⟩; have H2 := Lib.hid (H1.out.nxt hp hb); clear hU; clear hp hb)
          | (go_at_call 38; refine (hN w2 H2.out.at_).mono ?_; rintro e w3 ⟨rfl, hp, hb⟩; have H3 := Lib.hid (H2.out.nxt hp hb); clear hN; clear hp hb)
          | (go_at_call 43; with_reducible refine (hV w3 H3.out.at_).mono ?_; rintro e w4 ⟨rfl, hp, hb⟩; have H4 := Lib.hid (H3.out.nxt hp hb); clear hV; clear hp hb)
          | (go_at_call 38; refine (need1_at g (s1.next) ([93] : List UInt8) w4 H4.out.at_).mono ?_; rintro e w5 ⟨rfl, hp, hb⟩; have H5 := Lib.hid (H4.out.nxt hp hb); clear hp hb))
        go_ret
        exact ⟨rfl, H5.out.at_, H5.out.but⟩
      · rw [if_neg h3]
        have hV := fun w' (hp : PAt w' g s1) => take_no g s1 ([105, 110, 116] : List UInt8) w' hp (by simpa using h3)
        clear h h3 hs1
        go_enter Tryz.func44, Tryz.ntmps44
        go_wp2_with (first
          | (go_at_call 43; with_reducible refine (hT w H0.out.at_).mono ?_; rintro e w1 ⟨rfl, hp, hb⟩; have H1 := Lib.hid (H0.out.nxt hp hb); clear hT; clear hp hb)
          | (go_at_call 43; with_reducible refine (hU w1 H1.out.at_).mono ?_; rintro e w2 ⟨rfl, hp, hb⟩; have H2 := Lib.hid (H1.out.nxt hp hb); clear hU; clear hp hb)
          | (go_at_call 38; refine (hN w2 H2.out.at_).mono ?_; rintro e w3 ⟨rfl, hp, hb⟩; have H3 := Lib.hid (H2.out.nxt hp hb); clear hN; clear hp hb)
          | (go_at_call 43; with_reducible refine (hV w3 H3.out.at_).mono ?_; rintro e w4 ⟨rfl, hp, hb⟩; have H4 := Lib.hid (H3.out.nxt hp hb); clear hV; clear hp hb)
          | (go_at_call 38; refine (need4_at g s1 ([91] : List UInt8) ([105, 110, 116] : List UInt8) ([93] : List UInt8) ([93] : List UInt8) w4 H4.out.at_).mono ?_; rintro e w5 ⟨rfl, hp, hb⟩; have H5 := Lib.hid (H4.out.nxt hp hb); clear hp hb))
        go_ret
        exact ⟨rfl, H5.out.at_, H5.out.but⟩
set_option maxRecDepth 100000 in
set_option maxHeartbeats 8000000 in
theorem param_any (g : Nat) (s : PS) (w : World) (h : PAt w g s) :
    Calls Tryz.prog 42 #[.pointer (some ⟨g, 0, none⟩)] w (RetP g w (.agg #[.string (paramP s).1.name, .int .i64 (paramP s).1.type]) (paramP s).2) := by
  have hgl := h.lt
  have hZ := h
  obtain ⟨w0, hw0, hbw, hzw, hbR⟩ := one_al w #[.string ⟨#[]⟩, .int .i64 0] 66
  have H0 : Hid (Pt g w w0 s) := Lib.hid ⟨h.keep hbw, But.of_below hbw⟩
  have HR_0 := Lib.hid hbR
  unfold paramP
  unfold strB
  simp only
  obtain ⟨ty, hty⟩ : ∃ ty, ty = (typeP (s.nameP.need1 ([58] : List UInt8))).1 := ⟨_, rfl⟩
  have HK := fun w' (hp : PAt w' g (s.nameP.need1 ([58] : List UInt8))) => kind_any g (s.nameP.need1 ([58] : List UInt8)) w' hp
  rw [← hty] at HK ⊢
  clear hbw hzw hbR hZ h hty
  go_enter Tryz.func42, Tryz.ntmps42
  go_upto_region 1 with fail
  rw [← hw0]
  clear hw0
  go_upto_region 2 with (go_at_call 39; refine (name_p g s w0 H0.out.at_).mono ?_; rintro e w1 ⟨rfl, hp, hb⟩; have H1 := Lib.hid (H0.out.nxt hp hb); have HR_1 := Lib.hid (((hb).block (w.heap.size) (heap_lt HR_0.out) (by omega)).trans HR_0.out); clear HR_0; clear hp hb)
  obtain ⟨w2, hw, hbw, hzw, hbA⟩ := one_al w1 #[.string ⟨s.now.bytes.toArray⟩, .int .i64 0] 66
  rw [← hw]
  clear hw hzw
  have hgx : g < w1.heap.size := H1.out.at_.lt
  have hrx : w.heap.size < w1.heap.size := heap_lt HR_1.out
  have H2 := Lib.hid (H1.out.below hbw)
  have HR_2 := Lib.hid (((But.of_below (g := g) hbw).block (w.heap.size) (heap_lt HR_1.out) (by omega)).trans HR_1.out)
  clear HR_1
  have HA_2 := Lib.hid hbA
  clear hbw hbA
  go_upto_region 3 with (go_at_call 38; refine (need1_at g (s.nameP) ([58] : List UInt8) w2 H2.out.at_).mono ?_; rintro e w3 ⟨rfl, hp, hb⟩; have H3 := Lib.hid (H2.out.nxt hp hb); have HR_3 := Lib.hid (((hb).block (w.heap.size) (heap_lt HR_2.out) (by omega)).trans HR_2.out); clear HR_2; have HA_3 := Lib.hid (((hb).block (w1.heap.size) (heap_lt HA_2.out) (by omega)).trans HA_2.out); clear HA_2; clear hp hb)
  go_wp2_with (go_at_call 44; refine (HK w3 H3.out.at_).mono ?_; rintro e w4 ⟨rfl, hp, hb⟩; have H4 := Lib.hid (H3.out.nxt hp hb); have HR_4 := Lib.hid (((hb).block (w.heap.size) (heap_lt HR_3.out) (by omega)).trans HR_3.out); clear HR_3; have HA_4 := Lib.hid (((hb).block (w1.heap.size) (heap_lt HA_3.out) (by omega)).trans HA_3.out); clear HA_3; clear hp hb; have a0 := Lib.cell_of_heap HA_4.out 0; have a1 := Lib.cell_of_heap HA_4.out 1; have af := fun j => Lib.frozen_of_heap HA_4.out j; have r0 := Lib.cell_of_heap HR_4.out 0; have r1 := Lib.cell_of_heap HR_4.out 1; have rf := fun j => Lib.frozen_of_heap HR_4.out j; have hrz := heap_lt HR_4.out; have haz := heap_lt HA_4.out)
  refine bodyPost_ret (v := .agg #[.string ⟨s.now.bytes.toArray⟩, .int .i64 ty]) (by simp [results, Tryz.results42, go_sem, a0, a1, r0, r1]) rfl ⟨rfl, ?_, ?_⟩
  · refine H4.out.at_.up ?_
    repeat (first | with_reducible exact Below.refl _ _ | with_reducible refine Below.setCell ?_ (by first | (simp; done) | (simp; omega)) _)
  · refine H4.out.but.up ?_
    repeat (first | with_reducible exact Below.refl _ _ | with_reducible refine Below.setCell ?_ (by first | (simp; done) | (simp; omega)) _)
end Go.Proofs.YtiadbeglhnocoaaGreatDoor
