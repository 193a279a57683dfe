/-
  A statement, whichever; a loop's step.
  What begins with a call or an index.
  Loops that count.
  Statements that begin with a name.
-/
import Derived.Test.YtiadbeglhnocoaaGreatDoorJb28
namespace Go.Proofs.YtiadbeglhnocoaaGreatDoor
set_option linter.unusedVariables false
set_option linter.unusedSimpArgs false
open Go.RowKit

theorem statement_any (k : Nat) (HCh : ChC k) (HWh : WhC k) (HCo : CoC k) (HSi : SiC k) : StC (k + 1) := by
  intro g lo s r w hr hok h hlo
  refine Calls.mono ?_ (fun _ _ h => StP.lo h hlo)
  rw [stmtK_succ] at hr
  by_cases h1 : s.down.isB ([105, 102] : List UInt8) = true
  · rw [if_pos h1] at hr
    cases hx : choiceK k s.now.at_ s.down with
    | none => rw [hx] at hr; cases hr
    | some y =>
      rw [hx] at hr
      obtain ⟨x, s6⟩ := y
      simp only [Option.some.injEq] at hr
      subst hr
      by_cases hc : s.deep + 1 > 256
      · exact st_choice_over k HCh g s x s6 w hx hok h hc h1
      · exact st_choice_in k HCh g s x s6 w hx hok h hc h1
  · rw [if_neg h1] at hr
    have h1 : s.down.isB ([105, 102] : List UInt8) = false := by simpa using h1
    by_cases h2 : s.down.isB ([119, 104, 105, 108, 101] : List UInt8) = true
    · rw [if_pos h2] at hr
      cases hx : whileK k s.now.at_ s.down with
      | none => rw [hx] at hr; cases hr
      | some y =>
        rw [hx] at hr
        obtain ⟨x, s6⟩ := y
        simp only [Option.some.injEq] at hr
        subst hr
        by_cases hc : s.deep + 1 > 256
        · exact st_while_over k HWh g s x s6 w hx hok h hc h1 h2
        · exact st_while_in k HWh g s x s6 w hx hok h hc h1 h2
    · rw [if_neg h2] at hr
      have h2 : s.down.isB ([119, 104, 105, 108, 101] : List UInt8) = false := by simpa using h2
      by_cases h3 : s.down.isB ([102, 111, 114] : List UInt8) = true
      · rw [if_pos h3] at hr
        cases hx : countK k s.now.at_ s.down with
        | none => rw [hx] at hr; cases hr
        | some y =>
          rw [hx] at hr
          obtain ⟨x, s6⟩ := y
          simp only [Option.some.injEq] at hr
          subst hr
          by_cases hc : s.deep + 1 > 256
          · exact st_count_over k HCo g s x s6 w hx hok h hc h1 h2 h3
          · exact st_count_in k HCo g s x s6 w hx hok h hc h1 h2 h3
      · rw [if_neg h3] at hr
        have h3 : s.down.isB ([102, 111, 114] : List UInt8) = false := by simpa using h3
        cases hx : simpleK k s.now.at_ s.down with
        | none => rw [hx] at hr; cases hr
        | some y =>
          rw [hx] at hr
          obtain ⟨x, s6⟩ := y
          simp only [Option.some.injEq] at hr
          subst hr
          by_cases hc : s.deep + 1 > 256
          · exact st_simple_over k HSi g s x s6 w hx hok h hc h1 h2 h3
          · exact st_simple_in k HSi g s x s6 w hx hok h hc h1 h2 h3
set_option maxRecDepth 100000 in
set_option maxHeartbeats 8000000 in
theorem step_any (g : Nat) (s : PS) (w : World) (h : PAt w g s) :
    Calls Tryz.prog 90 #[.pointer (some ⟨g, 0, none⟩)] w fun e w' => e = .returned (.int .i64 (stepP s).1) ∧ PAt w' g (stepP s).2 ∧ But g w w' := by
  have hgl := h.lt
  have hT := take_any g s ([115, 116, 101, 112] : List UInt8) w h
  have H := Lib.hid h
  unfold stepP
  by_cases hs : s.isB ([115, 116, 101, 112] : List UInt8) = true
  · rw [if_pos hs]
    rw [hs] at hT
    have htk : s.takeP ([115, 116, 101, 112] : List UInt8) = s.next := by unfold PS.takeP; rw [if_pos hs]
    rw [htk] at hT
    dsimp only
    obtain ⟨s1, hs1⟩ : ∃ s1, s1 = s.next := ⟨_, rfl⟩
    rw [← hs1] at hT ⊢
    have hM := fun w' (hp : PAt w' g s1) => take_any g s1 ([45] : List UInt8) w' hp
    obtain ⟨s2, hs2⟩ : ∃ s2, s2 = s1.takeP ([45] : List UInt8) := ⟨_, rfl⟩
    rw [← hs2] at hM ⊢
    have hX := fun w' (hp : PAt w' g s2) => next_any g s2 w' hp
    have hR := fun w' (hp : PAt w' g s2.next) => refuse_any g s2.next s2.now w' hp
    obtain ⟨t, ht⟩ : ∃ t, t = s2.now := ⟨_, rfl⟩
    rw [← ht] at hX hR ⊢
    obtain ⟨s3, hs3⟩ : ∃ s3, s3 = s2.next := ⟨_, rfl⟩
    rw [← hs3] at hX hR ⊢
    obtain ⟨tk, ta, tn, tb⟩ := t
    unfold tkV at hX hR
    simp only at hX hR ⊢
    clear h hs htk hs1 hs2 hs3 ht
    by_cases hk : tk = 2
    · have hkb : (tk != 2) = false := by simp [hk]
      by_cases hz : tn = 0
      · have hzb : (tn == 0) = true := by simp [hz]
        have h4 : (if tk ≠ 2 ∨ tn = 0 then s3.refuse ⟨tk, ta, tn, tb⟩ else s3) = s3.refuse ⟨tk, ta, tn, tb⟩ := if_pos (Or.inr hz)
        rw [h4]
        clear h4 hk hz
        cases hd : s1.isB ([45] : List UInt8) with
        | true =>
          rw [hd] at hM
          simp only [if_true]
          clear hd
          go_enter Tryz.func90, Tryz.ntmps90
          go_upto_region 3 with (go_at_call 43; refine hT.mono ?_; rintro e w1 ⟨rfl, hp, hb⟩; have Hp1 := Lib.hid hp; have Hb1 := Lib.hid hb; clear hp hb hT)
          go_upto_region 4 with (go_at_call 43; refine (hM w1 Hp1.out).mono ?_; rintro e w2 ⟨rfl, hp, hb⟩; have Hp2 := Lib.hid hp; have Hb2 := Lib.hid (Hb1.out.trans hb); clear hp hb hM)
          go_upto_region 5 with (go_at_call 58; refine (hX w2 Hp2.out).mono ?_; rintro e w3 ⟨rfl, hp, hb⟩; have Hp3 := Lib.hid hp; have Hb3 := Lib.hid (Hb2.out.trans hb); clear hp hb hX)
          obtain ⟨w4, hw4, hbw4, hz4, ht4⟩ := one_al w3 #[.int .i64 tk, .int .i64 ta, .int .i64 tn, .string ⟨tb.toArray⟩] 56
          rw [← hw4]
          clear hw4
          obtain ⟨t0, t1, t2, t3, tf⟩ := cells4 ht4
          have Hp4 := Lib.hid (Hp3.out.keep hbw4)
          have Hb4 := Lib.hid (Hb3.out.trans (But.of_below hbw4))
          have Ht4 := Lib.hid ht4
          have hg3 := Hp3.out.lt
          clear hbw4 ht4
          go_wp2_with (go_at_call 57; refine (hR w4 Hp4.out).mono ?_; rintro e w5 ⟨rfl, hp, hb⟩; have u2 := Lib.cell_of_heap ((hb.block w3.heap.size (by omega) (by omega)).trans Ht4.out) 2; have Hp5 := Lib.hid hp; have Hb5 := Lib.hid (Hb4.out.trans hb); clear hp hb hR)
          go_ret
          exact ⟨by rfl, Hp5.out, Hb5.out⟩
        | false =>
          rw [hd] at hM
          simp only [Bool.false_eq_true, if_false]
          clear hd
          go_enter Tryz.func90, Tryz.ntmps90
          go_upto_region 3 with (go_at_call 43; refine hT.mono ?_; rintro e w1 ⟨rfl, hp, hb⟩; have Hp1 := Lib.hid hp; have Hb1 := Lib.hid hb; clear hp hb hT)
          go_upto_region 4 with (go_at_call 43; refine (hM w1 Hp1.out).mono ?_; rintro e w2 ⟨rfl, hp, hb⟩; have Hp2 := Lib.hid hp; have Hb2 := Lib.hid (Hb1.out.trans hb); clear hp hb hM)
          go_upto_region 5 with (go_at_call 58; refine (hX w2 Hp2.out).mono ?_; rintro e w3 ⟨rfl, hp, hb⟩; have Hp3 := Lib.hid hp; have Hb3 := Lib.hid (Hb2.out.trans hb); clear hp hb hX)
          obtain ⟨w4, hw4, hbw4, hz4, ht4⟩ := one_al w3 #[.int .i64 tk, .int .i64 ta, .int .i64 tn, .string ⟨tb.toArray⟩] 56
          rw [← hw4]
          clear hw4
          obtain ⟨t0, t1, t2, t3, tf⟩ := cells4 ht4
          have Hp4 := Lib.hid (Hp3.out.keep hbw4)
          have Hb4 := Lib.hid (Hb3.out.trans (But.of_below hbw4))
          have Ht4 := Lib.hid ht4
          have hg3 := Hp3.out.lt
          clear hbw4 ht4
          go_wp2_with (go_at_call 57; refine (hR w4 Hp4.out).mono ?_; rintro e w5 ⟨rfl, hp, hb⟩; have u2 := Lib.cell_of_heap ((hb.block w3.heap.size (by omega) (by omega)).trans Ht4.out) 2; have Hp5 := Lib.hid hp; have Hb5 := Lib.hid (Hb4.out.trans hb); clear hp hb hR)
          go_ret
          exact ⟨by rfl, Hp5.out, Hb5.out⟩
      · have h4 : (if tk ≠ 2 ∨ tn = 0 then s3.refuse ⟨tk, ta, tn, tb⟩ else s3) = s3 := if_neg (by rintro (h1 | h1); exact h1 hk; exact hz h1)
        rw [h4]
        have hzb : (tn == 0) = false := by simpa using hz
        clear hR hz hk h4
        cases hd : s1.isB ([45] : List UInt8) with
        | true =>
          rw [hd] at hM
          simp only [if_true]
          clear hd
          go_enter Tryz.func90, Tryz.ntmps90
          go_upto_region 3 with (go_at_call 43; refine hT.mono ?_; rintro e w1 ⟨rfl, hp, hb⟩; have Hp1 := Lib.hid hp; have Hb1 := Lib.hid hb; clear hp hb hT)
          go_upto_region 4 with (go_at_call 43; refine (hM w1 Hp1.out).mono ?_; rintro e w2 ⟨rfl, hp, hb⟩; have Hp2 := Lib.hid hp; have Hb2 := Lib.hid (Hb1.out.trans hb); clear hp hb hM)
          go_upto_region 5 with (go_at_call 58; refine (hX w2 Hp2.out).mono ?_; rintro e w3 ⟨rfl, hp, hb⟩; have Hp3 := Lib.hid hp; have Hb3 := Lib.hid (Hb2.out.trans hb); clear hp hb hX)
          obtain ⟨w4, hw4, hbw4, hz4, ht4⟩ := one_al w3 #[.int .i64 tk, .int .i64 ta, .int .i64 tn, .string ⟨tb.toArray⟩] 56
          rw [← hw4]
          clear hw4
          obtain ⟨t0, t1, t2, t3, tf⟩ := cells4 ht4
          have Hp4 := Lib.hid (Hp3.out.keep hbw4)
          have Hb4 := Lib.hid (Hb3.out.trans (But.of_below hbw4))
          have Ht4 := Lib.hid ht4
          have hg3 := Hp3.out.lt
          clear hbw4 ht4
          go_wp2
          go_ret
          exact ⟨by rfl, Hp4.out, Hb4.out⟩
        | false =>
          rw [hd] at hM
          simp only [Bool.false_eq_true, if_false]
          clear hd
          go_enter Tryz.func90, Tryz.ntmps90
          go_upto_region 3 with (go_at_call 43; refine hT.mono ?_; rintro e w1 ⟨rfl, hp, hb⟩; have Hp1 := Lib.hid hp; have Hb1 := Lib.hid hb; clear hp hb hT)
          go_upto_region 4 with (go_at_call 43; refine (hM w1 Hp1.out).mono ?_; rintro e w2 ⟨rfl, hp, hb⟩; have Hp2 := Lib.hid hp; have Hb2 := Lib.hid (Hb1.out.trans hb); clear hp hb hM)
          go_upto_region 5 with (go_at_call 58; refine (hX w2 Hp2.out).mono ?_; rintro e w3 ⟨rfl, hp, hb⟩; have Hp3 := Lib.hid hp; have Hb3 := Lib.hid (Hb2.out.trans hb); clear hp hb hX)
          obtain ⟨w4, hw4, hbw4, hz4, ht4⟩ := one_al w3 #[.int .i64 tk, .int .i64 ta, .int .i64 tn, .string ⟨tb.toArray⟩] 56
          rw [← hw4]
          clear hw4
          obtain ⟨t0, t1, t2, t3, tf⟩ := cells4 ht4
          have Hp4 := Lib.hid (Hp3.out.keep hbw4)
          have Hb4 := Lib.hid (Hb3.out.trans (But.of_below hbw4))
          have Ht4 := Lib.hid ht4
          have hg3 := Hp3.out.lt
          clear hbw4 ht4
          go_wp2
          go_ret
          exact ⟨by rfl, Hp4.out, Hb4.out⟩
    · have h4 : (if tk ≠ 2 ∨ tn = 0 then s3.refuse ⟨tk, ta, tn, tb⟩ else s3) = s3.refuse ⟨tk, ta, tn, tb⟩ := if_pos (Or.inl hk)
      rw [h4]
      have hkb : (tk != 2) = true := by simpa using hk
      clear hk h4
      cases hd : s1.isB ([45] : List UInt8) with
      | true =>
        rw [hd] at hM
        simp only [if_true]
        clear hd
        go_enter Tryz.func90, Tryz.ntmps90
        go_upto_region 3 with (go_at_call 43; refine hT.mono ?_; rintro e w1 ⟨rfl, hp, hb⟩; have Hp1 := Lib.hid hp; have Hb1 := Lib.hid hb; clear hp hb hT)
        go_upto_region 4 with (go_at_call 43; refine (hM w1 Hp1.out).mono ?_; rintro e w2 ⟨rfl, hp, hb⟩; have Hp2 := Lib.hid hp; have Hb2 := Lib.hid (Hb1.out.trans hb); clear hp hb hM)
        go_upto_region 5 with (go_at_call 58; refine (hX w2 Hp2.out).mono ?_; rintro e w3 ⟨rfl, hp, hb⟩; have Hp3 := Lib.hid hp; have Hb3 := Lib.hid (Hb2.out.trans hb); clear hp hb hX)
        obtain ⟨w4, hw4, hbw4, hz4, ht4⟩ := one_al w3 #[.int .i64 tk, .int .i64 ta, .int .i64 tn, .string ⟨tb.toArray⟩] 56
        rw [← hw4]
        clear hw4
        obtain ⟨t0, t1, t2, t3, tf⟩ := cells4 ht4
        have Hp4 := Lib.hid (Hp3.out.keep hbw4)
        have Hb4 := Lib.hid (Hb3.out.trans (But.of_below hbw4))
        have Ht4 := Lib.hid ht4
        have hg3 := Hp3.out.lt
        clear hbw4 ht4
        go_wp2_with (go_at_call 57; refine (hR w4 Hp4.out).mono ?_; rintro e w5 ⟨rfl, hp, hb⟩; have u2 := Lib.cell_of_heap ((hb.block w3.heap.size (by omega) (by omega)).trans Ht4.out) 2; have Hp5 := Lib.hid hp; have Hb5 := Lib.hid (Hb4.out.trans hb); clear hp hb hR)
        go_ret
        exact ⟨by rfl, Hp5.out, Hb5.out⟩
      | false =>
        rw [hd] at hM
        simp only [Bool.false_eq_true, if_false]
        clear hd
        go_enter Tryz.func90, Tryz.ntmps90
        go_upto_region 3 with (go_at_call 43; refine hT.mono ?_; rintro e w1 ⟨rfl, hp, hb⟩; have Hp1 := Lib.hid hp; have Hb1 := Lib.hid hb; clear hp hb hT)
        go_upto_region 4 with (go_at_call 43; refine (hM w1 Hp1.out).mono ?_; rintro e w2 ⟨rfl, hp, hb⟩; have Hp2 := Lib.hid hp; have Hb2 := Lib.hid (Hb1.out.trans hb); clear hp hb hM)
        go_upto_region 5 with (go_at_call 58; refine (hX w2 Hp2.out).mono ?_; rintro e w3 ⟨rfl, hp, hb⟩; have Hp3 := Lib.hid hp; have Hb3 := Lib.hid (Hb2.out.trans hb); clear hp hb hX)
        obtain ⟨w4, hw4, hbw4, hz4, ht4⟩ := one_al w3 #[.int .i64 tk, .int .i64 ta, .int .i64 tn, .string ⟨tb.toArray⟩] 56
        rw [← hw4]
        clear hw4
        obtain ⟨t0, t1, t2, t3, tf⟩ := cells4 ht4
        have Hp4 := Lib.hid (Hp3.out.keep hbw4)
        have Hb4 := Lib.hid (Hb3.out.trans (But.of_below hbw4))
        have Ht4 := Lib.hid ht4
        have hg3 := Hp3.out.lt
        clear hbw4 ht4
        go_wp2_with (go_at_call 57; refine (hR w4 Hp4.out).mono ?_; rintro e w5 ⟨rfl, hp, hb⟩; have u2 := Lib.cell_of_heap ((hb.block w3.heap.size (by omega) (by omega)).trans Ht4.out) 2; have Hp5 := Lib.hid hp; have Hb5 := Lib.hid (Hb4.out.trans hb); clear hp hb hR)
        go_ret
        exact ⟨by rfl, Hp5.out, Hb5.out⟩
  · rw [if_neg hs]
    have hsf : s.isB ([115, 116, 101, 112] : List UInt8) = false := by simpa using hs
    rw [hsf] at hT
    have htk : s.takeP ([115, 116, 101, 112] : List UInt8) = s := by unfold PS.takeP; rw [if_neg hs]
    rw [htk] at hT
    clear h hs hsf htk
    go_enter Tryz.func90, Tryz.ntmps90
    go_wp2_with (go_at_call 43; refine hT.mono ?_; rintro e w1 ⟨rfl, hp, hb⟩; have Hp1 := Lib.hid hp; have Hb1 := Lib.hid hb; clear hp hb hT)
    go_ret
    exact ⟨rfl, Hp1.out, Hb1.out⟩
end Go.Proofs.YtiadbeglhnocoaaGreatDoor
namespace Go.Proofs.YtiadbeglhnocoaaGreatDoor
set_option linter.unusedVariables false
set_option linter.unusedSimpArgs false
open Go.RowKit

/-- What reading into a place comes to, from lo on. -/
def BgP (g q lo : Nat) (w : World) (r : St × PS) (e : Ending) (w' : World) : Prop := e = .returned (.tuple #[]) ∧ PAt w' g r.2 ∧ Bt g q w w' ∧ StAt w' (From lo w') q r.1
set_option maxRecDepth 100000 in
set_option maxHeartbeats 8000000 in
theorem begun_call (lo : Nat) (g q : Nat) (a : Int) (s : PS) (pka paa pta poa pna : Int) (pza : ByteArray) (pkidsa : List Ex) (PKa : Option Addr) (pca : Nat) (pda : Int) (w : World) (h : PAt w g s) (hgq : g < q) (hq : w.heap[q]? = some (.cells (st0 a) 77 (0, 0))) (hlo : lo ≤ w.heap.size) (hgl : g < lo) (hql : q < lo)
    (hk : RdEs w (From lo w) PKa 0 pkidsa) (hk8 : (pka == 8) = true) :
    Calls Tryz.prog 96 #[.pointer (some ⟨g, 0, none⟩), .pointer (some ⟨q, 0, none⟩), .agg #[.int .i64 pka, .int .i64 paa, .int .i64 pta, .int .i64 poa, .int .i64 pna, .string pza, .slice PKa pkidsa.length (pkidsa.length + pca), .int .i64 pda]] w (BgP g q lo w ((.mk 11 a 0 ⟨#[]⟩ 0 [.mk pka paa pta poa pna pza pkidsa] [] []), s)) := by
  have hgw : g < w.heap.size := h.lt
  have hqw : q < w.heap.size := heap_lt hq
  have H0 : Hid (St8 g q w w s #[.int .i64 0, .int .i64 a, .int .i64 0, .string ⟨#[]⟩, .int .i64 0, .slice none 0 0, .slice none 0 0, .slice none 0 0]) := Lib.hid ⟨h, Bt.refl _ _ _, hq⟩
  have PKa_0 := Lib.hid hk
  obtain ⟨w1, hw1, hbw1, hzw1, hbP1⟩ := one_al w #[.int .i64 pka, .int .i64 paa, .int .i64 pta, .int .i64 poa, .int .i64 pna, .string pza, .slice PKa pkidsa.length (pkidsa.length + pca), .int .i64 pda] 124
  have H1 := Lib.hid (H0.out.below hgq hbw1)
  have PKa_1 := Lib.hid (RdEs.bt PKa_0.out (Bt.of_below (g := g) (q := q) hbw1) hgl hql)
  have BX_1 := Lib.hid hbP1
  clear PKa_0 hbw1 hbP1 hk hq h
  go_enter Tryz.func96, Tryz.ntmps96
  go_upto_region 1 with fail
  rw [← hw1]
  clear hw1
  obtain ⟨b0, b1, b2, b3, b4, b5, b6, b7, bf⟩ := cells8 BX_1.out
  obtain ⟨q0, q1, q2, q3, q4, q5, q6, q7, qf⟩ := cells8 H1.out.cell
  go_upto_region 3 with fail
  clear b0 b1 b2 b3 b4 b5 b6 b7 bf
  obtain ⟨w2, hw⟩ : ∃ W, W = w1.setCell ⟨q, 0, none⟩ (.int .i64 11) := ⟨_, rfl⟩
  rw [← hw]
  have H2 : Hid (St8 g q w w2 (s) #[.int .i64 11, .int .i64 a, .int .i64 0, .string ⟨#[]⟩, .int .i64 0, .slice none 0 0, .slice none 0 0, .slice none 0 0]) := by
    rw [hw]
    have := H1.out.set hgq 0 (.int .i64 11)
    simp only [List.setIfInBounds_toArray, List.set_cons_zero, List.set_cons_succ] at this
    exact Lib.hid this
  have hbt : Bt g q w1 w2 := by rw [hw]; exact Bt.set g q w1 0 _
  have PKa_2 := Lib.hid (RdEs.bt PKa_1.out (hbt) hgl hql)
  clear PKa_1
  have BX_2 := Lib.hid (((hbt).block w.heap.size (heap_lt BX_1.out) (by omega) (by omega)).trans BX_1.out)
  clear BX_1
  clear hw hbt q0 q1 q2 q3 q4 q5 q6 q7 qf
  obtain ⟨b0, b1, b2, b3, b4, b5, b6, b7, bf⟩ := cells8 BX_2.out
  go_wp2_with (go_at_call 87; refine (exprs_one lo w2 (Nat.le_trans hlo (H2.out.bt.size)) PKa_2.out).mono ?_; rintro e w3 ⟨K, Kc, rfl, hk, hb⟩; have H3 := Lib.hid (H2.out.below hgq hb); have BX_3 := Lib.hid (((Bt.of_below (g := g) (q := q) hb).block w.heap.size (heap_lt BX_2.out) (by omega) (by omega)).trans BX_2.out); clear BX_2; have FK_3 := Lib.hid hk; clear hk hb; obtain ⟨q0, q1, q2, q3, q4, q5, q6, q7, qf⟩ := cells8 H3.out.cell)
  first | go_end0 | refine bodyPost_ret (results_none rfl _ _ _) rfl ?_
  have HZ := H3.out.set hgq 5 (.slice K 1 Kc)
  simp only [List.setIfInBounds_toArray, List.set_cons_zero, List.set_cons_succ] at HZ
  exact ⟨rfl, HZ.at_, HZ.bt, 11, a, 0, ⟨#[]⟩, 0, _, [], [], K, Kc, none, 0, none, 0, rfl, HZ.cell, RdEs.bt FK_3.out (Bt.set g q _ 5 _) hgl hql, by unfold RdSs; trivial, by unfold RdSs; trivial⟩
set_option maxRecDepth 100000 in
set_option maxHeartbeats 8000000 in
theorem begun_put (k : Nat) (lo : Nat) (g q : Nat) (a : Int) (s : PS) (pka paa pta poa pna : Int) (pza : ByteArray) (pkidsa : List Ex) (PKa : Option Addr) (pca : Nat) (pda : Int) (y : Part) (s2 : PS) (w : World) (hy : exprK k (s.need1 ([61] : List UInt8)) = some (y, s2)) (hok : Ok k s) (h : PAt w g s) (hgq : g < q) (hq : w.heap[q]? = some (.cells (st0 a) 77 (0, 0))) (hlo : lo ≤ w.heap.size) (hgl : g < lo) (hql : q < lo)
    (hk : RdEs w (From lo w) PKa 0 pkidsa) (hk8 : (pka == 8) = false) :
    Calls Tryz.prog 96 #[.pointer (some ⟨g, 0, none⟩), .pointer (some ⟨q, 0, none⟩), .agg #[.int .i64 pka, .int .i64 paa, .int .i64 pta, .int .i64 poa, .int .i64 pna, .string pza, .slice PKa pkidsa.length (pkidsa.length + pca), .int .i64 pda]] w (BgP g q lo w ((.mk 3 a 0 ⟨#[]⟩ 0 [.mk pka paa pta poa pna pza pkidsa, y.1] [] []), s2)) := by
  have hgw : g < w.heap.size := h.lt
  have hqw : q < w.heap.size := heap_lt hq
  have H0 : Hid (St8 g q w w s #[.int .i64 0, .int .i64 a, .int .i64 0, .string ⟨#[]⟩, .int .i64 0, .slice none 0 0, .slice none 0 0, .slice none 0 0]) := Lib.hid ⟨h, Bt.refl _ _ _, hq⟩
  have PKa_0 := Lib.hid hk
  obtain ⟨w1, hw1, hbw1, hzw1, hbP1⟩ := one_al w #[.int .i64 pka, .int .i64 paa, .int .i64 pta, .int .i64 poa, .int .i64 pna, .string pza, .slice PKa pkidsa.length (pkidsa.length + pca), .int .i64 pda] 124
  have H1 := Lib.hid (H0.out.below hgq hbw1)
  have PKa_1 := Lib.hid (RdEs.bt PKa_0.out (Bt.of_below (g := g) (q := q) hbw1) hgl hql)
  have BX_1 := Lib.hid hbP1
  clear PKa_0 hbw1 hbP1 hk hq h
  have Hy := Lib.hid hy
  have hok1 : Ok k (s.need1 ([61] : List UInt8)) := hok.need _
  clear hy
  go_enter Tryz.func96, Tryz.ntmps96
  go_upto_region 1 with fail
  rw [← hw1]
  clear hw1
  obtain ⟨b0, b1, b2, b3, b4, b5, b6, b7, bf⟩ := cells8 BX_1.out
  obtain ⟨q0, q1, q2, q3, q4, q5, q6, q7, qf⟩ := cells8 H1.out.cell
  go_upto_region 5 with fail
  clear b0 b1 b2 b3 b4 b5 b6 b7 bf
  obtain ⟨w2, hw⟩ : ∃ W, W = w1.setCell ⟨q, 0, none⟩ (.int .i64 3) := ⟨_, rfl⟩
  rw [← hw]
  have H2 : Hid (St8 g q w w2 (s) #[.int .i64 3, .int .i64 a, .int .i64 0, .string ⟨#[]⟩, .int .i64 0, .slice none 0 0, .slice none 0 0, .slice none 0 0]) := by
    rw [hw]
    have := H1.out.set hgq 0 (.int .i64 3)
    simp only [List.setIfInBounds_toArray, List.set_cons_zero, List.set_cons_succ] at this
    exact Lib.hid this
  have hbt : Bt g q w1 w2 := by rw [hw]; exact Bt.set g q w1 0 _
  have PKa_2 := Lib.hid (RdEs.bt PKa_1.out (hbt) hgl hql)
  clear PKa_1
  have BX_2 := Lib.hid (((hbt).block w.heap.size (heap_lt BX_1.out) (by omega) (by omega)).trans BX_1.out)
  clear BX_1
  clear hw hbt q0 q1 q2 q3 q4 q5 q6 q7 qf
  go_upto_region 6 with (go_at_call 38; refine (need1_at g (s) ([61] : List UInt8) w2 H2.out.at_).mono ?_; rintro e w3 ⟨rfl, hp, hb⟩; have H3 := Lib.hid (H2.out.but hgq hp hb); have PKa_3 := Lib.hid (RdEs.bt PKa_2.out (Bt.of_but (g := g) (q := q) hb) hgl hql); clear PKa_2; have BX_3 := Lib.hid (((Bt.of_but (g := g) (q := q) hb).block w.heap.size (heap_lt BX_2.out) (by omega) (by omega)).trans BX_2.out); clear BX_2; clear hp hb)
  obtain ⟨b0, b1, b2, b3, b4, b5, b6, b7, _⟩ := cells8 (w := w3.drew) (b := w.heap.size) BX_3.out
  have hs0 := And.intro b0 (And.intro b1 (And.intro b2 (And.intro b3 (And.intro b4 (And.intro b5 (And.intro b6 b7))))))
  clear b0 b1 b2 b3 b4 b5 b6 b7
  have hpd := H3.out.at_.up (Below.refl (g + 1) w3).drew
  have hbd : But g w3 w3.drew := (But.refl g w3).drew
  obtain ⟨w4, hw⟩ : ∃ W, W = w3.drew := ⟨_, rfl⟩
  rw [← hw] at hpd hbd
  have H4 := Lib.hid (H3.out.but hgq hpd hbd)
  have PKa_4 := Lib.hid (RdEs.bt PKa_3.out (Bt.of_but (g := g) (q := q) hbd) hgl hql)
  clear PKa_3
  have BX_4 := Lib.hid (((Bt.of_but (g := g) (q := q) hbd).block w.heap.size (heap_lt BX_3.out) (by omega) (by omega)).trans BX_3.out)
  clear BX_3
  have HW := Lib.hid hw
  clear hpd hbd hw
  refine wp_region_held_drew (S := (fun w' => w'.cell? ⟨w.heap.size, 0, none⟩ = some (.int .i64 pka) ∧ w'.cell? ⟨w.heap.size, 1, none⟩ = some (.int .i64 paa) ∧ w'.cell? ⟨w.heap.size, 2, none⟩ = some (.int .i64 pta) ∧ w'.cell? ⟨w.heap.size, 3, none⟩ = some (.int .i64 poa) ∧ w'.cell? ⟨w.heap.size, 4, none⟩ = some (.int .i64 pna) ∧ w'.cell? ⟨w.heap.size, 5, none⟩ = some (.string pza) ∧ w'.cell? ⟨w.heap.size, 6, none⟩ = some (.slice PKa pkidsa.length (pkidsa.length + pca)) ∧ w'.cell? ⟨w.heap.size, 7, none⟩ = some (.int .i64 pda))) (by kernel_rfl) hs0 (fun hHeld => ?_)
  refine wpAnyH_take (i := 0) (v := ?_) rfl (by kernel_rfl) (by kernel_rfl) (by kernel_rfl) (fun _ _ _ h => h) (Or.inl ⟨by rfl, ?_⟩) (by assumption) ?_
  rotate_left
  · (intro w hSw; (try dsimp only at hSw); first | (go_simp; done) | (go_simp; with_reducible rfl))
  try simp only [Act.put, List.setIfInBounds_toArray, List.set_cons_zero, List.set_cons_succ]
  refine wpAnyH_take (i := 1) (v := ?_) rfl (by kernel_rfl) (by kernel_rfl) (by kernel_rfl) (fun _ _ _ h => h) (Or.inl ⟨by rfl, ?_⟩) (by assumption) ?_
  rotate_left
  · (intro w hSw; (try dsimp only at hSw); first | (go_simp; done) | (go_simp; with_reducible rfl))
  try simp only [Act.put, List.setIfInBounds_toArray, List.set_cons_zero, List.set_cons_succ]
  refine wpAnyH_take (i := 2) (v := ?_) rfl (by kernel_rfl) (by kernel_rfl) (by kernel_rfl) (fun _ _ _ h => h) (Or.inl ⟨by rfl, ?_⟩) (by assumption) ?_
  rotate_left
  · (intro w hSw; (try dsimp only at hSw); first | (go_simp; done) | (go_simp; with_reducible rfl))
  try simp only [Act.put, List.setIfInBounds_toArray, List.set_cons_zero, List.set_cons_succ]
  refine wpAnyH_ready (rs := [3]) (by kernel_rfl) (by simp) ?_
  refine AllReadyH.cons rfl (fun K hK => ?_) (AllReadyH.nil)
  go_simp
  rw [← HW.out]
  with_reducible refine (expr_c k lo g ((s).need1 ([61] : List UInt8)) y s2 w4 Hy.out hok1 H4.out.at_ (Nat.le_trans hlo (H4.out.bt.size))).mono ?_
  rintro e w5 ⟨pkb, pab, ptb, pob, pnb, pzb, pkidsb, PKb, pcb, pdb, rfl, hxeb, hkb, hp, hb⟩
  have H5 := Lib.hid (H4.out.but hgq hp hb)
  have PKa_5 := Lib.hid (RdEs.bt PKa_4.out (Bt.of_but (g := g) (q := q) hb) hgl hql)
  clear PKa_4
  have BX_5 := Lib.hid (((Bt.of_but (g := g) (q := q) hb).block w.heap.size (heap_lt BX_4.out) (by omega) (by omega)).trans BX_4.out)
  clear BX_4
  have PKb_5 := Lib.hid hkb
  clear hkb
  have HXb := Lib.hid hxeb
  clear hxeb
  clear hp hb
  obtain ⟨b0, b1, b2, b3, b4, b5, b6, b7, _⟩ := cells8 BX_5.out
  have hs1 := And.intro b0 (And.intro b1 (And.intro b2 (And.intro b3 (And.intro b4 (And.intro b5 (And.intro b6 b7))))))
  clear b0 b1 b2 b3 b4 b5 b6 b7
  refine hK.out _ _ ?_ (fun hHeld => ?_)
  · ((try dsimp only); first | with_reducible exact hs0 | with_reducible exact hs1 | with_reducible exact hs2 | with_reducible exact hs3 | with_reducible exact hs4)
  clear hK K
  try simp only [Act.put, List.setIfInBounds_toArray, List.set_cons_zero, List.set_cons_succ]
  refine wpAnyH_ready (rs := [4]) (by kernel_rfl) (by simp) ?_
  refine AllReadyH.cons rfl (fun K hK => ?_) (AllReadyH.nil)
  go_simp
  obtain ⟨WR, hWR, hbWR, _, _⟩ := one_al w5 #[.int .i64 pka, .int .i64 paa, .int .i64 pta, .int .i64 poa, .int .i64 pna, .string pza, .slice PKa pkidsa.length (pkidsa.length + pca), .int .i64 pda, .int .i64 pkb, .int .i64 pab, .int .i64 ptb, .int .i64 pob, .int .i64 pnb, .string pzb, .slice PKb pkidsb.length (pkidsb.length + pcb), .int .i64 pdb] 124
  obtain ⟨b0, b1, b2, b3, b4, b5, b6, b7, _⟩ := cells8 ((hbWR.block w.heap.size (heap_lt BX_5.out)).trans BX_5.out)
  have hs2 := And.intro b0 (And.intro b1 (And.intro b2 (And.intro b3 (And.intro b4 (And.intro b5 (And.intro b6 b7))))))
  rw [hWR] at hs2
  clear b0 b1 b2 b3 b4 b5 b6 b7 hbWR hWR
  refine hK.out _ _ ?_ (fun hHeld => ?_)
  · ((try dsimp only); first | with_reducible exact hs0 | with_reducible exact hs1 | with_reducible exact hs2 | with_reducible exact hs3 | with_reducible exact hs4)
  clear hK K
  try simp only [Act.put, List.setIfInBounds_toArray, List.set_cons_zero, List.set_cons_succ]
  refine wpAnyH_ready (rs := [5]) (by kernel_rfl) (by simp) ?_
  refine AllReadyH.cons rfl (fun K hK => ?_) (AllReadyH.nil)
  go_simp
  with_reducible refine (exprs_two lo w5 (Nat.le_trans hlo (H5.out.bt.size)) PKa_5.out PKb_5.out).mono ?_
  rintro e w6 ⟨Kz, Kc, rfl, hk, hb⟩
  have H6 := Lib.hid (H5.out.below hgq hb)
  have BX_6 := Lib.hid (((Bt.of_below (g := g) (q := q) hb).block w.heap.size (heap_lt BX_5.out) (by omega) (by omega)).trans BX_5.out)
  clear BX_5
  have FK_6 := Lib.hid hk
  clear hk hb
  obtain ⟨b0, b1, b2, b3, b4, b5, b6, b7, _⟩ := cells8 BX_6.out
  have hs3 := And.intro b0 (And.intro b1 (And.intro b2 (And.intro b3 (And.intro b4 (And.intro b5 (And.intro b6 b7))))))
  clear b0 b1 b2 b3 b4 b5 b6 b7
  obtain ⟨q0, q1, q2, q3, q4, q5, q6, q7, qf⟩ := cells8 H6.out.cell
  refine hK.out _ _ ?_ (fun hHeld => ?_)
  · ((try dsimp only); first | with_reducible exact hs0 | with_reducible exact hs1 | with_reducible exact hs2 | with_reducible exact hs3 | with_reducible exact hs4)
  clear hK K
  try simp only [Act.put, List.setIfInBounds_toArray, List.set_cons_zero, List.set_cons_succ]
  refine wpAnyH_take (i := 6) (v := ?_) rfl (by kernel_rfl) (by kernel_rfl) (by kernel_rfl) (fun _ _ _ h => h) (Or.inl ⟨by rfl, ?_⟩) (by assumption) ?_
  rotate_left
  · (intro w hSw; (try dsimp only at hSw); first | (go_simp; done) | (go_simp; with_reducible rfl))
  try simp only [Act.put, List.setIfInBounds_toArray, List.set_cons_zero, List.set_cons_succ]
  refine wpAnyH_take (i := 7) (v := ?_) rfl (by kernel_rfl) (by kernel_rfl) (by kernel_rfl) (fun _ _ _ h => h) (Or.inl ⟨by rfl, ?_⟩) (by assumption) ?_
  rotate_left
  · (intro w hSw; (try dsimp only at hSw); first | (go_simp; done) | (go_simp; with_reducible rfl))
  try simp only [Act.put, List.setIfInBounds_toArray, List.set_cons_zero, List.set_cons_succ]
  obtain ⟨b0, b1, b2, b3, b4, b5, b6, b7, _⟩ := cells8 (w := w6.setCell ⟨q, 5, none⟩ (.slice Kz 2 Kc)) ((Below.heap_setCell _ _ _ _ (by simp; omega)).trans BX_6.out)
  have hs4 := And.intro b0 (And.intro b1 (And.intro b2 (And.intro b3 (And.intro b4 (And.intro b5 (And.intro b6 b7))))))
  clear b0 b1 b2 b3 b4 b5 b6 b7
  refine wpAnyH_ready (rs := [8]) (by kernel_rfl) (by simp) ?_
  refine AllReadyH.cons rfl (fun K hK => ?_) (AllReadyH.nil)
  go_simp
  refine hK.out _ _ ?_ (fun hHeld => ?_)
  · ((try dsimp only); first | with_reducible exact hs0 | with_reducible exact hs1 | with_reducible exact hs2 | with_reducible exact hs3 | with_reducible exact hs4)
  clear hK K
  try simp only [Act.put, List.setIfInBounds_toArray, List.set_cons_zero, List.set_cons_succ]
  refine wpAnyH_done (by kernel_rfl) ?_ _
  skip
  go_wp2
  go_end0
  have HZ := H6.out.set hgq 5 (.slice Kz 2 Kc)
  simp only [List.setIfInBounds_toArray, List.set_cons_zero, List.set_cons_succ] at HZ
  have hxe := HXb.out
  subst hxe
  exact ⟨rfl, HZ.at_, HZ.bt, 3, a, 0, ⟨#[]⟩, 0, _, [], [], Kz, Kc, none, 0, none, 0, rfl, HZ.cell, RdEs.bt FK_6.out (Bt.set g q _ 5 _) hgl hql, by unfold RdSs; trivial, by unfold RdSs; trivial⟩
end Go.Proofs.YtiadbeglhnocoaaGreatDoor
namespace Go.Proofs.YtiadbeglhnocoaaGreatDoor
set_option linter.unusedVariables false
set_option linter.unusedSimpArgs false
open Go.RowKit

set_option maxRecDepth 100000 in
set_option maxHeartbeats 8000000 in
theorem count_any (k : Nat) (HB : BlC k) : CoC (k + 1) := by
  intro g q a s r w hr hok h hgq hq
  have hgl := h.lt
  have hql := heap_lt hq
  have H0 : Hid (St8 g q w w s #[.int .i64 0, .int .i64 a, .int .i64 0, .string ⟨#[]⟩, .int .i64 0, .slice none 0 0, .slice none 0 0, .slice none 0 0]) := Lib.hid ⟨h, Bt.refl _ _ _, hq⟩
  simp only [countK] at hr
  cases hx : exprK k ((s.need1 ([102, 111, 114] : List UInt8)).nameP.need1 ([61] : List UInt8)) with
  | none => rw [hx] at hr; cases hr
  | some y =>
    rw [hx] at hr
    obtain ⟨x, s2⟩ := y
    simp only at hr
    cases hy : exprK k (s2.need1 ([116, 111] : List UInt8)) with
    | none => rw [hy] at hr; cases hr
    | some y =>
      rw [hy] at hr
      obtain ⟨y, s3⟩ := y
      simp only at hr
      cases hb4 : blockK k (stepP s3).2 with
      | none => rw [hb4] at hr; cases hr
      | some y =>
        rw [hb4] at hr
        obtain ⟨b, s4⟩ := y
        simp only at hr
        simp only [Option.some.injEq] at hr
        subst hr
        have hok0 : Ok k s := hok.less (Nat.le_succ k)
        have hok1 : Ok k ((s.need1 ([102, 111, 114] : List UInt8)).nameP.need1 ([61] : List UInt8)) := (((hok0.need _).even (even_name _))).need _
        have hok2 : Ok k (s2.need1 ([116, 111] : List UInt8)) := (hok1.even (es_expr hx)).need _
        have hok3 : Ok k (stepP s3).2 := (hok2.even (es_expr hy)).even (es_step s3).1
        have Hx := Lib.hid hx
        have Hy := Lib.hid hy
        have Hb4 := Lib.hid hb4
        clear hx hy hb4 hq h hok hok0
        obtain ⟨q0, q1, q2, q3, q4, q5, q6, q7, qf⟩ := cells8 H0.out.cell
        go_enter Tryz.func75, Tryz.ntmps75
        go_upto_region 1 with fail
        obtain ⟨w1, hw⟩ : ∃ W, W = w.setCell ⟨q, 0, none⟩ (.int .i64 6) := ⟨_, rfl⟩
        rw [← hw]
        have H1 : Hid (St8 g q w w1 (s) #[.int .i64 6, .int .i64 a, .int .i64 0, .string ⟨#[]⟩, .int .i64 0, .slice none 0 0, .slice none 0 0, .slice none 0 0]) := by
          rw [hw]
          have := H0.out.set hgq 0 (.int .i64 6)
          simp only [List.setIfInBounds_toArray, List.set_cons_zero, List.set_cons_succ] at this
          exact Lib.hid this
        have hbt : Bt g q w w1 := by rw [hw]; exact Bt.set g q w 0 _
        clear hw hbt q0 q1 q2 q3 q4 q5 q6 q7 qf
        go_upto_region 2 with (go_at_call 38; refine (need1_at g (s) ([102, 111, 114] : List UInt8) w1 H1.out.at_).mono ?_; rintro e w2 ⟨rfl, hp, hb⟩; have H2 := Lib.hid (H1.out.but hgq hp hb); clear hp hb)
        go_upto_region 3 with (go_at_call 39; refine (name_p g (s.need1 ([102, 111, 114] : List UInt8)) w2 H2.out.at_).mono ?_; rintro e w3 ⟨rfl, hp, hb⟩; have H3 := Lib.hid (H2.out.but hgq hp hb); clear hp hb; obtain ⟨q0, q1, q2, q3, q4, q5, q6, q7, qf⟩ := cells8 H3.out.cell)
        obtain ⟨w4, hw⟩ : ∃ W, W = w3.setCell ⟨q, 3, none⟩ (.string ⟨(s.need1 ([102, 111, 114] : List UInt8)).now.bytes.toArray⟩) := ⟨_, rfl⟩
        rw [← hw]
        have H4 : Hid (St8 g q w w4 ((s.need1 ([102, 111, 114] : List UInt8)).nameP) #[.int .i64 6, .int .i64 a, .int .i64 0, .string ⟨(s.need1 ([102, 111, 114] : List UInt8)).now.bytes.toArray⟩, .int .i64 0, .slice none 0 0, .slice none 0 0, .slice none 0 0]) := by
          rw [hw]
          have := H3.out.set hgq 3 (.string ⟨(s.need1 ([102, 111, 114] : List UInt8)).now.bytes.toArray⟩)
          simp only [List.setIfInBounds_toArray, List.set_cons_zero, List.set_cons_succ] at this
          exact Lib.hid this
        have hbt : Bt g q w3 w4 := by rw [hw]; exact Bt.set g q w3 3 _
        clear hw hbt q0 q1 q2 q3 q4 q5 q6 q7 qf
        go_upto_region 4 with (go_at_call 38; refine (need1_at g ((s.need1 ([102, 111, 114] : List UInt8)).nameP) ([61] : List UInt8) w4 H4.out.at_).mono ?_; rintro e w5 ⟨rfl, hp, hb⟩; have H5 := Lib.hid (H4.out.but hgq hp hb); clear hp hb)
        go_upto_region 5 with (go_at_call 88; refine (expr_c k w.heap.size g (((s.need1 ([102, 111, 114] : List UInt8)).nameP).need1 ([61] : List UInt8)) x s2 w5 Hx.out hok1 H5.out.at_ (H5.out.bt.size)).mono ?_; rintro e w6 ⟨pka, paa, pta, poa, pna, pza, pkidsa, PKa, pca, pda, rfl, hxea, hka, hp, hb⟩; have H6 := Lib.hid (H5.out.but hgq hp hb); have PKa_6 := Lib.hid hka; clear hka; have HXa := Lib.hid hxea; clear hxea; clear hp hb)
        obtain ⟨w7, hw, hbw, hzw, hbP⟩ := one_al w6 #[.int .i64 pka, .int .i64 paa, .int .i64 pta, .int .i64 poa, .int .i64 pna, .string pza, .slice PKa pkidsa.length (pkidsa.length + pca), .int .i64 pda] 124
        rw [← hw]
        clear hw
        have hgx : g < w6.heap.size := H6.out.at_.lt
        have hqx : q < w6.heap.size := heap_lt H6.out.cell
        have H7 := Lib.hid (H6.out.below hgq hbw)
        have PKa_7 := Lib.hid (RdEs.bt PKa_6.out (Bt.of_below (g := g) (q := q) hbw) hgl hql)
        clear PKa_6
        have BX_7 := Lib.hid hbP
        clear hbw hbP hzw
        go_upto_region 6 with (go_at_call 38; refine (need1_at g (s2) ([116, 111] : List UInt8) w7 H7.out.at_).mono ?_; rintro e w8 ⟨rfl, hp, hb⟩; have H8 := Lib.hid (H7.out.but hgq hp hb); have PKa_8 := Lib.hid (RdEs.bt PKa_7.out (Bt.of_but (g := g) (q := q) hb) hgl hql); clear PKa_7; have BX_8 := Lib.hid (((Bt.of_but (g := g) (q := q) hb).block w6.heap.size (heap_lt BX_7.out) (by omega) (by omega)).trans BX_7.out); clear BX_7; clear hp hb)
        obtain ⟨b0, b1, b2, b3, b4, b5, b6, b7, _⟩ := cells8 (w := w8.drew) (b := w6.heap.size) BX_8.out
        have hs0 := And.intro b0 (And.intro b1 (And.intro b2 (And.intro b3 (And.intro b4 (And.intro b5 (And.intro b6 b7))))))
        clear b0 b1 b2 b3 b4 b5 b6 b7
        have hpd := H8.out.at_.up (Below.refl (g + 1) w8).drew
        have hbd : But g w8 w8.drew := (But.refl g w8).drew
        obtain ⟨w9, hw⟩ : ∃ W, W = w8.drew := ⟨_, rfl⟩
        rw [← hw] at hpd hbd
        have H9 := Lib.hid (H8.out.but hgq hpd hbd)
        have PKa_9 := Lib.hid (RdEs.bt PKa_8.out (Bt.of_but (g := g) (q := q) hbd) hgl hql)
        clear PKa_8
        have BX_9 := Lib.hid (((Bt.of_but (g := g) (q := q) hbd).block w6.heap.size (heap_lt BX_8.out) (by omega) (by omega)).trans BX_8.out)
        clear BX_8
        have HW := Lib.hid hw
        clear hpd hbd hw
        refine wp_region_held_drew (S := (fun w' => w'.cell? ⟨w6.heap.size, 0, none⟩ = some (.int .i64 pka) ∧ w'.cell? ⟨w6.heap.size, 1, none⟩ = some (.int .i64 paa) ∧ w'.cell? ⟨w6.heap.size, 2, none⟩ = some (.int .i64 pta) ∧ w'.cell? ⟨w6.heap.size, 3, none⟩ = some (.int .i64 poa) ∧ w'.cell? ⟨w6.heap.size, 4, none⟩ = some (.int .i64 pna) ∧ w'.cell? ⟨w6.heap.size, 5, none⟩ = some (.string pza) ∧ w'.cell? ⟨w6.heap.size, 6, none⟩ = some (.slice PKa pkidsa.length (pkidsa.length + pca)) ∧ w'.cell? ⟨w6.heap.size, 7, none⟩ = some (.int .i64 pda))) (by kernel_rfl) hs0 (fun hHeld => ?_)
        refine wpAnyH_take (i := 0) (v := ?_) rfl (by kernel_rfl) (by kernel_rfl) (by kernel_rfl) (fun _ _ _ h => h) (Or.inl ⟨by rfl, ?_⟩) (by assumption) ?_
        rotate_left
        · (intro w hSw; (try dsimp only at hSw); first | (go_simp; done) | (go_simp; with_reducible rfl))
        try simp only [Act.put, List.setIfInBounds_toArray, List.set_cons_zero, List.set_cons_succ]
        refine wpAnyH_take (i := 1) (v := ?_) rfl (by kernel_rfl) (by kernel_rfl) (by kernel_rfl) (fun _ _ _ h => h) (Or.inl ⟨by rfl, ?_⟩) (by assumption) ?_
        rotate_left
        · (intro w hSw; (try dsimp only at hSw); first | (go_simp; done) | (go_simp; with_reducible rfl))
        try simp only [Act.put, List.setIfInBounds_toArray, List.set_cons_zero, List.set_cons_succ]
        refine wpAnyH_take (i := 2) (v := ?_) rfl (by kernel_rfl) (by kernel_rfl) (by kernel_rfl) (fun _ _ _ h => h) (Or.inl ⟨by rfl, ?_⟩) (by assumption) ?_
        rotate_left
        · (intro w hSw; (try dsimp only at hSw); first | (go_simp; done) | (go_simp; with_reducible rfl))
        try simp only [Act.put, List.setIfInBounds_toArray, List.set_cons_zero, List.set_cons_succ]
        refine wpAnyH_ready (rs := [3]) (by kernel_rfl) (by simp) ?_
        refine AllReadyH.cons rfl (fun K hK => ?_) (AllReadyH.nil)
        go_simp
        rw [← HW.out]
        with_reducible refine (expr_c k w.heap.size g ((s2).need1 ([116, 111] : List UInt8)) y s3 w9 Hy.out hok2 H9.out.at_ (H9.out.bt.size)).mono ?_
        rintro e w10 ⟨pkb, pab, ptb, pob, pnb, pzb, pkidsb, PKb, pcb, pdb, rfl, hxeb, hkb, hp, hb⟩
        have H10 := Lib.hid (H9.out.but hgq hp hb)
        have PKa_10 := Lib.hid (RdEs.bt PKa_9.out (Bt.of_but (g := g) (q := q) hb) hgl hql)
        clear PKa_9
        have BX_10 := Lib.hid (((Bt.of_but (g := g) (q := q) hb).block w6.heap.size (heap_lt BX_9.out) (by omega) (by omega)).trans BX_9.out)
        clear BX_9
        have PKb_10 := Lib.hid hkb
        clear hkb
        have HXb := Lib.hid hxeb
        clear hxeb
        clear hp hb
        obtain ⟨b0, b1, b2, b3, b4, b5, b6, b7, _⟩ := cells8 BX_10.out
        have hs1 := And.intro b0 (And.intro b1 (And.intro b2 (And.intro b3 (And.intro b4 (And.intro b5 (And.intro b6 b7))))))
        clear b0 b1 b2 b3 b4 b5 b6 b7
        refine hK.out _ _ ?_ (fun hHeld => ?_)
        · ((try dsimp only); first | with_reducible exact hs0 | with_reducible exact hs1 | with_reducible exact hs2 | with_reducible exact hs3 | with_reducible exact hs4)
        clear hK K
        try simp only [Act.put, List.setIfInBounds_toArray, List.set_cons_zero, List.set_cons_succ]
        refine wpAnyH_ready (rs := [4]) (by kernel_rfl) (by simp) ?_
        refine AllReadyH.cons rfl (fun K hK => ?_) (AllReadyH.nil)
        go_simp
        obtain ⟨WR, hWR, hbWR, _, _⟩ := one_al w10 #[.int .i64 pka, .int .i64 paa, .int .i64 pta, .int .i64 poa, .int .i64 pna, .string pza, .slice PKa pkidsa.length (pkidsa.length + pca), .int .i64 pda, .int .i64 pkb, .int .i64 pab, .int .i64 ptb, .int .i64 pob, .int .i64 pnb, .string pzb, .slice PKb pkidsb.length (pkidsb.length + pcb), .int .i64 pdb] 124
        obtain ⟨b0, b1, b2, b3, b4, b5, b6, b7, _⟩ := cells8 ((hbWR.block w6.heap.size (heap_lt BX_10.out)).trans BX_10.out)
        have hs2 := And.intro b0 (And.intro b1 (And.intro b2 (And.intro b3 (And.intro b4 (And.intro b5 (And.intro b6 b7))))))
        rw [hWR] at hs2
        clear b0 b1 b2 b3 b4 b5 b6 b7 hbWR hWR
        refine hK.out _ _ ?_ (fun hHeld => ?_)
        · ((try dsimp only); first | with_reducible exact hs0 | with_reducible exact hs1 | with_reducible exact hs2 | with_reducible exact hs3 | with_reducible exact hs4)
        clear hK K
        try simp only [Act.put, List.setIfInBounds_toArray, List.set_cons_zero, List.set_cons_succ]
        refine wpAnyH_ready (rs := [5]) (by kernel_rfl) (by simp) ?_
        refine AllReadyH.cons rfl (fun K hK => ?_) (AllReadyH.nil)
        go_simp
        with_reducible refine (exprs_two w.heap.size w10 (H10.out.bt.size) PKa_10.out PKb_10.out).mono ?_
        rintro e w11 ⟨Kz, Kc, rfl, hk, hb⟩
        have H11 := Lib.hid (H10.out.below hgq hb)
        have BX_11 := Lib.hid (((Bt.of_below (g := g) (q := q) hb).block w6.heap.size (heap_lt BX_10.out) (by omega) (by omega)).trans BX_10.out)
        clear BX_10
        have FK_11 := Lib.hid hk
        clear hk hb
        obtain ⟨b0, b1, b2, b3, b4, b5, b6, b7, _⟩ := cells8 BX_11.out
        have hs3 := And.intro b0 (And.intro b1 (And.intro b2 (And.intro b3 (And.intro b4 (And.intro b5 (And.intro b6 b7))))))
        clear b0 b1 b2 b3 b4 b5 b6 b7
        obtain ⟨q0, q1, q2, q3, q4, q5, q6, q7, qf⟩ := cells8 H11.out.cell
        refine hK.out _ _ ?_ (fun hHeld => ?_)
        · ((try dsimp only); first | with_reducible exact hs0 | with_reducible exact hs1 | with_reducible exact hs2 | with_reducible exact hs3 | with_reducible exact hs4)
        clear hK K
        try simp only [Act.put, List.setIfInBounds_toArray, List.set_cons_zero, List.set_cons_succ]
        refine wpAnyH_take (i := 6) (v := ?_) rfl (by kernel_rfl) (by kernel_rfl) (by kernel_rfl) (fun _ _ _ h => h) (Or.inl ⟨by rfl, ?_⟩) (by assumption) ?_
        rotate_left
        · (intro w hSw; (try dsimp only at hSw); first | (go_simp; done) | (go_simp; with_reducible rfl))
        try simp only [Act.put, List.setIfInBounds_toArray, List.set_cons_zero, List.set_cons_succ]
        refine wpAnyH_take (i := 7) (v := ?_) rfl (by kernel_rfl) (by kernel_rfl) (by kernel_rfl) (fun _ _ _ h => h) (Or.inl ⟨by rfl, ?_⟩) (by assumption) ?_
        rotate_left
        · (intro w hSw; (try dsimp only at hSw); first | (go_simp; done) | (go_simp; with_reducible rfl))
        try simp only [Act.put, List.setIfInBounds_toArray, List.set_cons_zero, List.set_cons_succ]
        obtain ⟨b0, b1, b2, b3, b4, b5, b6, b7, _⟩ := cells8 (w := w11.setCell ⟨q, 5, none⟩ (.slice Kz 2 Kc)) ((Below.heap_setCell _ _ _ _ (by simp; omega)).trans BX_11.out)
        have hs4 := And.intro b0 (And.intro b1 (And.intro b2 (And.intro b3 (And.intro b4 (And.intro b5 (And.intro b6 b7))))))
        clear b0 b1 b2 b3 b4 b5 b6 b7
        refine wpAnyH_ready (rs := [8]) (by kernel_rfl) (by simp) ?_
        refine AllReadyH.cons rfl (fun K hK => ?_) (AllReadyH.nil)
        go_simp
        refine hK.out _ _ ?_ (fun hHeld => ?_)
        · ((try dsimp only); first | with_reducible exact hs0 | with_reducible exact hs1 | with_reducible exact hs2 | with_reducible exact hs3 | with_reducible exact hs4)
        clear hK K
        try simp only [Act.put, List.setIfInBounds_toArray, List.set_cons_zero, List.set_cons_succ]
        refine wpAnyH_done (by kernel_rfl) ?_ _
        skip
        go_upto_region 7 with fail
        obtain ⟨w12, hw⟩ : ∃ W, W = w11.setCell ⟨q, 5, none⟩ (.slice Kz 2 Kc) := ⟨_, rfl⟩
        rw [← hw]
        have H12 : Hid (St8 g q w w12 (s3) #[.int .i64 6, .int .i64 a, .int .i64 0, .string ⟨(s.need1 ([102, 111, 114] : List UInt8)).now.bytes.toArray⟩, .int .i64 0, .slice Kz 2 Kc, .slice none 0 0, .slice none 0 0]) := by
          rw [hw]
          have := H11.out.set hgq 5 (.slice Kz 2 Kc)
          simp only [List.setIfInBounds_toArray, List.set_cons_zero, List.set_cons_succ] at this
          exact Lib.hid this
        have hbt : Bt g q w11 w12 := by rw [hw]; exact Bt.set g q w11 5 _
        have FK_12 := Lib.hid (RdEs.bt FK_11.out (hbt) hgl hql)
        clear FK_11
        have BX_12 := Lib.hid (((hbt).block w6.heap.size (heap_lt BX_11.out) (by omega) (by omega)).trans BX_11.out)
        clear BX_11
        clear hw hbt q0 q1 q2 q3 q4 q5 q6 q7 qf
        go_upto_region 8 with (go_at_call 90; refine (step_any g s3 w12 H12.out.at_).mono ?_; rintro e w13 ⟨rfl, hp, hb⟩; have H13 := Lib.hid (H12.out.but hgq hp hb); have FK_13 := Lib.hid (RdEs.bt FK_12.out (Bt.of_but (g := g) (q := q) hb) hgl hql); clear FK_12; have BX_13 := Lib.hid (((Bt.of_but (g := g) (q := q) hb).block w6.heap.size (heap_lt BX_12.out) (by omega) (by omega)).trans BX_12.out); clear BX_12; clear hp hb; obtain ⟨q0, q1, q2, q3, q4, q5, q6, q7, qf⟩ := cells8 H13.out.cell)
        obtain ⟨w14, hw⟩ : ∃ W, W = w13.setCell ⟨q, 4, none⟩ (.int .i64 (stepP s3).1) := ⟨_, rfl⟩
        rw [← hw]
        have H14 : Hid (St8 g q w w14 ((stepP s3).2) #[.int .i64 6, .int .i64 a, .int .i64 0, .string ⟨(s.need1 ([102, 111, 114] : List UInt8)).now.bytes.toArray⟩, .int .i64 (stepP s3).1, .slice Kz 2 Kc, .slice none 0 0, .slice none 0 0]) := by
          rw [hw]
          have := H13.out.set hgq 4 (.int .i64 (stepP s3).1)
          simp only [List.setIfInBounds_toArray, List.set_cons_zero, List.set_cons_succ] at this
          exact Lib.hid this
        have hbt : Bt g q w13 w14 := by rw [hw]; exact Bt.set g q w13 4 _
        have FK_14 := Lib.hid (RdEs.bt FK_13.out (hbt) hgl hql)
        clear FK_13
        have BX_14 := Lib.hid (((hbt).block w6.heap.size (heap_lt BX_13.out) (by omega) (by omega)).trans BX_13.out)
        clear BX_13
        clear hw hbt q0 q1 q2 q3 q4 q5 q6 q7 qf
        go_wp2_with (go_at_call 45; refine (HB g w.heap.size (stepP s3).2 (b, s4) w14 Hb4.out hok3 H14.out.at_ (H14.out.bt.size)).mono ?_; rintro e w15 ⟨B, bc, rfl, hB, hp, hb⟩; have H15 := Lib.hid (H14.out.but hgq hp hb); have FK_15 := Lib.hid (RdEs.bt FK_14.out (Bt.of_but (g := g) (q := q) hb) hgl hql); clear FK_14; have BX_15 := Lib.hid (((Bt.of_but (g := g) (q := q) hb).block w6.heap.size (heap_lt BX_14.out) (by omega) (by omega)).trans BX_14.out); clear BX_14; have FB_15 := Lib.hid hB; clear hB; clear hp hb; obtain ⟨q0, q1, q2, q3, q4, q5, q6, q7, qf⟩ := cells8 H15.out.cell)
        first | go_end0 | refine bodyPost_ret (results_none rfl _ _ _) rfl ?_
        have HZ := H15.out.set hgq 6 (.slice B b.length bc)
        simp only [List.setIfInBounds_toArray, List.set_cons_zero, List.set_cons_succ] at HZ
        have hxa := HXa.out
        have hxb := HXb.out
        subst hxa
        subst hxb
        exact ⟨rfl, HZ.at_, HZ.bt, 6, a, 0, _, _, _, _, [], Kz, Kc, B, bc, none, 0, rfl, HZ.cell, RdEs.bt FK_15.out (Bt.set g q _ 6 _) hgl hql, RdSs.bt FB_15.out (Bt.set g q _ 6 _) hgl hql, by unfold RdSs; trivial⟩
end Go.Proofs.YtiadbeglhnocoaaGreatDoor
namespace Go.Proofs.YtiadbeglhnocoaaGreatDoor
set_option linter.unusedVariables false
set_option linter.unusedSimpArgs false
open Go.RowKit

set_option maxRecDepth 100000 in
set_option maxHeartbeats 8000000 in
theorem named_any (k : Nat) (hk24 : k ≤ 33554431) (g q : Nat) (a : Int) (t : Tk) (s : PS) (r : St × PS) (w : World) (hr : namedK (k + 1) a t s = some r) (hok : Ok (k + 1) s) (h : PAt w g s) (hgq : g < q) (hq : w.heap[q]? = some (.cells (st0 a) 77 (0, 0))) :
    Calls Tryz.prog 91 #[.pointer (some ⟨g, 0, none⟩), .pointer (some ⟨q, 0, none⟩), tkV t] w (SmP g q w r) := by
  have hgl := h.lt
  have hql := heap_lt hq
  have H0 : Hid (St8 g q w w s #[.int .i64 0, .int .i64 a, .int .i64 0, .string ⟨#[]⟩, .int .i64 0, .slice none 0 0, .slice none 0 0, .slice none 0 0]) := Lib.hid ⟨h, Bt.refl _ _ _, hq⟩
  simp only [namedK] at hr
  obtain ⟨tk, ta, tn, tb⟩ := t
  unfold tkV
  simp only at hr
  obtain ⟨w1, hw1, hbw1, hzw1, hbP1⟩ := one_al w #[.int .i64 tk, .int .i64 ta, .int .i64 tn, .string ⟨tb.toArray⟩] 56
  have H1 := Lib.hid (H0.out.below hgq hbw1)
  have BT_1 := Lib.hid hbP1
  have hT := take_any g s ([61] : List UInt8) w1 H1.out.at_
  have hok0 : Ok k s := hok.less (Nat.le_succ k)
  clear hbw1 hbP1 hzw1 hq h
  by_cases he : s.isB ([61] : List UInt8) = true
  · rw [if_pos he] at hr
    rw [he] at hT
    have htk : s.takeP ([61] : List UInt8) = s.next := by unfold PS.takeP; rw [if_pos he]
    rw [htk] at hT
    cases hx : exprK k s.next with
    | none => rw [hx] at hr; cases hr
    | some y =>
      rw [hx] at hr
      obtain ⟨x, s2⟩ := y
      simp only [Option.some.injEq] at hr
      subst hr
      have hok1 : Ok k s.next := hok0.even (even_next s)
      have Hx := Lib.hid hx
      clear he htk hx hok hok0
      go_enter Tryz.func91, Tryz.ntmps91
      go_upto_region 2 with fail
      rw [← hw1]
      clear hw1
      go_upto_region 4 with (go_at_call 43; refine (hT).mono ?_; rintro e w2 ⟨rfl, hp, hb⟩; have H2 := Lib.hid (H1.out.but hgq hp hb); have BT_2 := Lib.hid (((Bt.of_but (g := g) (q := q) hb).block w.heap.size (heap_lt BT_1.out) (by omega) (by omega)).trans BT_1.out); clear BT_1; clear hp hb; obtain ⟨q0, q1, q2, q3, q4, q5, q6, q7, qf⟩ := cells8 H2.out.cell)
      obtain ⟨w3, hw⟩ : ∃ W, W = w2.setCell ⟨q, 0, none⟩ (.int .i64 2) := ⟨_, rfl⟩
      rw [← hw]
      have H3 : Hid (St8 g q w w3 (s.next) #[.int .i64 2, .int .i64 a, .int .i64 0, .string ⟨#[]⟩, .int .i64 0, .slice none 0 0, .slice none 0 0, .slice none 0 0]) := by
        rw [hw]
        have := H2.out.set hgq 0 (.int .i64 2)
        simp only [List.setIfInBounds_toArray, List.set_cons_zero, List.set_cons_succ] at this
        exact Lib.hid this
      have hbt : Bt g q w2 w3 := by rw [hw]; exact Bt.set g q w2 0 _
      have BT_3 := Lib.hid (((hbt).block w.heap.size (heap_lt BT_2.out) (by omega) (by omega)).trans BT_2.out)
      clear BT_2
      clear hw hbt q0 q1 q2 q3 q4 q5 q6 q7 qf
      obtain ⟨q0, q1, q2, q3, q4, q5, q6, q7, qf⟩ := cells8 H3.out.cell
      obtain ⟨t0, t1, t2, t3, tf⟩ := cells4 BT_3.out
      go_upto_region 5 with fail
      clear t0 t1 t2 t3 tf
      obtain ⟨w4, hw⟩ : ∃ W, W = w3.setCell ⟨q, 3, none⟩ (.string ⟨tb.toArray⟩) := ⟨_, rfl⟩
      rw [← hw]
      have H4 : Hid (St8 g q w w4 (s.next) #[.int .i64 2, .int .i64 a, .int .i64 0, .string ⟨tb.toArray⟩, .int .i64 0, .slice none 0 0, .slice none 0 0, .slice none 0 0]) := by
        rw [hw]
        have := H3.out.set hgq 3 (.string ⟨tb.toArray⟩)
        simp only [List.setIfInBounds_toArray, List.set_cons_zero, List.set_cons_succ] at this
        exact Lib.hid this
      have hbt : Bt g q w3 w4 := by rw [hw]; exact Bt.set g q w3 3 _
      have BT_4 := Lib.hid (((hbt).block w.heap.size (heap_lt BT_3.out) (by omega) (by omega)).trans BT_3.out)
      clear BT_3
      clear hw hbt q0 q1 q2 q3 q4 q5 q6 q7 qf
      go_wp2_with (first
        | (go_at_call 88; refine (expr_c k w.heap.size g (s.next) x s2 w4 Hx.out hok1 H4.out.at_ (H4.out.bt.size)).mono ?_; rintro e w5 ⟨pk, pa, pt, po, pn, pz, pkids, PK, pc, pd, rfl, hxe, hk, hp, hb⟩; have H5 := Lib.hid (H4.out.but hgq hp hb); have BT_5 := Lib.hid (((Bt.of_but (g := g) (q := q) hb).block w.heap.size (heap_lt BT_4.out) (by omega) (by omega)).trans BT_4.out); clear BT_4; have PK_5 := Lib.hid hk; clear hk; have HX := Lib.hid hxe; clear hxe; clear hp hb)
        | (go_at_call 87; refine (exprs_one w.heap.size w5 (H5.out.bt.size) PK_5.out).mono ?_; rintro e w6 ⟨K, Kc, rfl, hk, hb⟩; have H6 := Lib.hid (H5.out.below hgq hb); have BT_6 := Lib.hid (((Bt.of_below (g := g) (q := q) hb).block w.heap.size (heap_lt BT_5.out) (by omega) (by omega)).trans BT_5.out); clear BT_5; have FK_6 := Lib.hid hk; clear hk hb; obtain ⟨q0, q1, q2, q3, q4, q5, q6, q7, qf⟩ := cells8 H6.out.cell))
      first | go_end0 | refine bodyPost_ret (results_none rfl _ _ _) rfl ?_
      have HZ := H6.out.set hgq 5 (.slice K 1 Kc)
      simp only [List.setIfInBounds_toArray, List.set_cons_zero, List.set_cons_succ] at HZ
      have hxe := HX.out
      subst hxe
      exact ⟨rfl, HZ.at_, HZ.bt, 2, a, 0, _, 0, _, [], [], K, Kc, none, 0, none, 0, rfl, HZ.cell, RdEs.bt FK_6.out (Bt.set g q _ 5 _) hgl hql, by unfold RdSs; trivial, by unfold RdSs; trivial⟩
  · rw [if_neg he] at hr
    have hef : s.isB ([61] : List UInt8) = false := by simpa using he
    rw [hef] at hT
    have htk : s.takeP ([61] : List UInt8) = s := by unfold PS.takeP; rw [if_neg he]
    rw [htk] at hT
    have hI1 := fun w' (hp : PAt w' g s) => is_any g s ([40] : List UInt8) w' hp
    have hI2 := fun w' (hp : PAt w' g s) => is_any g s ([91] : List UInt8) w' hp
    clear he hef htk
    by_cases hob : s.isB ([40] : List UInt8) = true ∨ s.isB ([91] : List UInt8) = true
    · rw [if_pos hob] at hr
      cases hc : calledK k ⟨tk, ta, tn, tb⟩ s with
      | none => rw [hc] at hr; cases hr
      | some y =>
        rw [hc] at hr
        obtain ⟨p, s1⟩ := y
        simp only at hr
        cases hi : indexK k p s1 with
        | none => rw [hi] at hr; cases hr
        | some y =>
          rw [hi] at hr
          obtain ⟨f, s2⟩ := y
          simp only at hr
          have hpc := (pure_all k).called _ _ _ hc
          have hpi := (pure_all k).index _ _ _ hpc.2.1 hi
          simp only at hpc hpi
          have hok1 : Ok k s1 := hok0.even hpc.1
          have hok2 : Ok k s2 := hok1.even hpi.1
          have hC := fun w' (hp : PAt w' g s) => ca_c k g ⟨tk, ta, tn, tb⟩ s (p, s1) w' hc hok0 hp
          have hX := fun v S w' (hp : PAt w' g s1) (hv : PartV w' S v p) (hS : ∀ b, S b → g < b ∧ b < w'.heap.size) => in_c k hk24 g p v S s1 (f, s2) w' hi hok1 hp hv hS hpc.2.1 hpc.2.2
          obtain ⟨⟨fk, fa, ft, fo, fn, fz, fkids⟩, fd⟩ := f
          unfold tkV at hC
          simp only at hC
          clear hc hi hpc hpi hok hok0 hok1
          cases ho1 : s.isB ([40] : List UInt8) with
          | true =>
            rw [ho1] at hI1
            clear hI2 ho1 hob
            by_cases h8 : fk = 8
            · rw [if_pos (show exK ((Ex.mk fk fa ft fo fn fz fkids, fd) : Part).1 = 8 from h8)] at hr
              simp only [Option.some.injEq] at hr
              subst hr
              have hk8 : (fk == 8) = true := by simp [h8]
              clear h8
              go_enter Tryz.func91, Tryz.ntmps91
              go_upto_region 2 with fail
              rw [← hw1]
              clear hw1
              go_wp2_with (first
                | (go_at_call 43; refine (hT).mono ?_; rintro e w2 ⟨rfl, hp, hb⟩; have H2 := Lib.hid (H1.out.but hgq hp hb); have BT_2 := Lib.hid (((Bt.of_but (g := g) (q := q) hb).block w.heap.size (heap_lt BT_1.out) (by omega) (by omega)).trans BT_1.out); clear BT_1; clear hp hb)
                | (go_at_call 61; with_reducible refine (hI1 w2 H2.out.at_).mono ?_; rintro e w3 ⟨rfl, hb⟩; have H3 := Lib.hid (H2.out.below hgq hb); have BT_3 := Lib.hid (((Bt.of_below (g := g) (q := q) hb).block w.heap.size (heap_lt BT_2.out) (by omega) (by omega)).trans BT_2.out); clear BT_2; clear hb hI1; obtain ⟨t0, t1, t2, t3, tf⟩ := cells4 BT_3.out)
                | (go_at_call 98; refine (hC w3 H3.out.at_).mono ?_; rintro e w4 ⟨v, rfl, hv, hp, hb⟩; have H4 := Lib.hid (H3.out.but hgq hp hb); have hX1 := hX v (Or' NoB w3 w4) w4 hp hv (fun b hb2 => by rcases hb2 with h1 | ⟨h1, h2⟩; exact absurd h1 (by unfold NoB; simp); exact ⟨Nat.lt_of_lt_of_le H3.out.at_.lt h1, h2⟩); obtain ⟨pk, pa, pt, po, pn, pz, pkids, PK, pc, pd, _, rfl, _⟩ := hv; unfold partV at hX1; unfold partV; clear hp hb hC hX)
                | (go_at_call 97; refine hX1.mono ?_; rintro e w5 hpo; obtain ⟨pka, paa, pta, poa, pna, pza, pkidsa, PKa, pca, pda, rfl, hxe, hk, hp, hb⟩ := hpo.exp (lo := w.heap.size) H4.out.bt.size (fun b hb2 => by rcases hb2 with h1 | ⟨h1, h2⟩; exact absurd h1 (by unfold NoB; simp); exact ⟨Nat.le_trans H3.out.bt.size h1, h2⟩); simp only [Prod.mk.injEq, Ex.mk.injEq] at hxe; obtain ⟨⟨rfl, rfl, rfl, rfl, rfl, rfl, rfl⟩, rfl⟩ := hxe; have H5 := Lib.hid (H4.out.but hgq hp hb); have hG := begun_call w.heap.size g q a s2 fk fa ft fo fn fz fkids PKa pca fd w5 H5.out.at_ hgq H5.out.cell H5.out.bt.size hgl hql hk hk8; have H52 := H5; clear hpo hp hb hk hX1)
                | (go_at_call 96; refine hG.mono ?_; rintro e w9 ⟨rfl, hp, hbt, hst⟩; have Hp9 := Lib.hid hp; have Hb9 := Lib.hid (H52.out.bt.trans hbt); have Hst := Lib.hid hst; clear hp hbt hst hG))
              first | go_end0 | refine bodyPost_ret (results_none rfl _ _ _) rfl ?_
              exact ⟨rfl, Hp9.out, Hb9.out, Hst.out⟩
            · rw [if_neg (show ¬ exK ((Ex.mk fk fa ft fo fn fz fkids, fd) : Part).1 = 8 from h8)] at hr
              have hk8 : (fk == 8) = false := by simpa using h8
              clear h8
              cases hy : exprK k (s2.need1 ([61] : List UInt8)) with
              | none => rw [hy] at hr; cases hr
              | some z =>
                rw [hy] at hr
                obtain ⟨y, s3⟩ := z
                simp only [Option.some.injEq] at hr
                subst hr
                have Hy := Lib.hid hy
                clear hy
                go_enter Tryz.func91, Tryz.ntmps91
                go_upto_region 2 with fail
                rw [← hw1]
                clear hw1
                go_wp2_with (first
                  | (go_at_call 43; refine (hT).mono ?_; rintro e w2 ⟨rfl, hp, hb⟩; have H2 := Lib.hid (H1.out.but hgq hp hb); have BT_2 := Lib.hid (((Bt.of_but (g := g) (q := q) hb).block w.heap.size (heap_lt BT_1.out) (by omega) (by omega)).trans BT_1.out); clear BT_1; clear hp hb)
                  | (go_at_call 61; with_reducible refine (hI1 w2 H2.out.at_).mono ?_; rintro e w3 ⟨rfl, hb⟩; have H3 := Lib.hid (H2.out.below hgq hb); have BT_3 := Lib.hid (((Bt.of_below (g := g) (q := q) hb).block w.heap.size (heap_lt BT_2.out) (by omega) (by omega)).trans BT_2.out); clear BT_2; clear hb hI1; obtain ⟨t0, t1, t2, t3, tf⟩ := cells4 BT_3.out)
                  | (go_at_call 98; refine (hC w3 H3.out.at_).mono ?_; rintro e w4 ⟨v, rfl, hv, hp, hb⟩; have H4 := Lib.hid (H3.out.but hgq hp hb); have hX1 := hX v (Or' NoB w3 w4) w4 hp hv (fun b hb2 => by rcases hb2 with h1 | ⟨h1, h2⟩; exact absurd h1 (by unfold NoB; simp); exact ⟨Nat.lt_of_lt_of_le H3.out.at_.lt h1, h2⟩); obtain ⟨pk, pa, pt, po, pn, pz, pkids, PK, pc, pd, _, rfl, _⟩ := hv; unfold partV at hX1; unfold partV; clear hp hb hC hX)
                  | (go_at_call 97; refine hX1.mono ?_; rintro e w5 hpo; obtain ⟨pka, paa, pta, poa, pna, pza, pkidsa, PKa, pca, pda, rfl, hxe, hk, hp, hb⟩ := hpo.exp (lo := w.heap.size) H4.out.bt.size (fun b hb2 => by rcases hb2 with h1 | ⟨h1, h2⟩; exact absurd h1 (by unfold NoB; simp); exact ⟨Nat.le_trans H3.out.bt.size h1, h2⟩); simp only [Prod.mk.injEq, Ex.mk.injEq] at hxe; obtain ⟨⟨rfl, rfl, rfl, rfl, rfl, rfl, rfl⟩, rfl⟩ := hxe; have H5 := Lib.hid (H4.out.but hgq hp hb); have hG := begun_put k w.heap.size g q a s2 fk fa ft fo fn fz fkids PKa pca fd y s3 w5 Hy.out hok2 H5.out.at_ hgq H5.out.cell H5.out.bt.size hgl hql hk hk8; have H52 := H5; clear hpo hp hb hk hX1)
                  | (go_at_call 96; refine hG.mono ?_; rintro e w9 ⟨rfl, hp, hbt, hst⟩; have Hp9 := Lib.hid hp; have Hb9 := Lib.hid (H52.out.bt.trans hbt); have Hst := Lib.hid hst; clear hp hbt hst hG))
                first | go_end0 | refine bodyPost_ret (results_none rfl _ _ _) rfl ?_
                exact ⟨rfl, Hp9.out, Hb9.out, Hst.out⟩
          | false =>
            have ho2 : s.isB ([91] : List UInt8) = true := by rcases hob with h1 | h1; rw [ho1] at h1; cases h1; exact h1
            rw [ho1] at hI1
            rw [ho2] at hI2
            clear ho1 ho2 hob
            by_cases h8 : fk = 8
            · rw [if_pos (show exK ((Ex.mk fk fa ft fo fn fz fkids, fd) : Part).1 = 8 from h8)] at hr
              simp only [Option.some.injEq] at hr
              subst hr
              have hk8 : (fk == 8) = true := by simp [h8]
              clear h8
              go_enter Tryz.func91, Tryz.ntmps91
              go_upto_region 2 with fail
              rw [← hw1]
              clear hw1
              go_wp2_with (first
                | (go_at_call 43; refine (hT).mono ?_; rintro e w2 ⟨rfl, hp, hb⟩; have H2 := Lib.hid (H1.out.but hgq hp hb); have BT_2 := Lib.hid (((Bt.of_but (g := g) (q := q) hb).block w.heap.size (heap_lt BT_1.out) (by omega) (by omega)).trans BT_1.out); clear BT_1; clear hp hb)
                | (go_at_call 61; with_reducible refine (hI1 w2 H2.out.at_).mono ?_; rintro e w3 ⟨rfl, hb⟩; have H3 := Lib.hid (H2.out.below hgq hb); have BT_3 := Lib.hid (((Bt.of_below (g := g) (q := q) hb).block w.heap.size (heap_lt BT_2.out) (by omega) (by omega)).trans BT_2.out); clear BT_2; clear hb hI1)
                | (go_at_call 61; with_reducible refine (hI2 w3 H3.out.at_).mono ?_; rintro e w4 ⟨rfl, hb⟩; have H4 := Lib.hid (H3.out.below hgq hb); have BT_4 := Lib.hid (((Bt.of_below (g := g) (q := q) hb).block w.heap.size (heap_lt BT_3.out) (by omega) (by omega)).trans BT_3.out); clear BT_3; clear hb hI2; obtain ⟨t0, t1, t2, t3, tf⟩ := cells4 BT_4.out)
                | (go_at_call 98; refine (hC w4 H4.out.at_).mono ?_; rintro e w5 ⟨v, rfl, hv, hp, hb⟩; have H5 := Lib.hid (H4.out.but hgq hp hb); have hX1 := hX v (Or' NoB w4 w5) w5 hp hv (fun b hb2 => by rcases hb2 with h1 | ⟨h1, h2⟩; exact absurd h1 (by unfold NoB; simp); exact ⟨Nat.lt_of_lt_of_le H4.out.at_.lt h1, h2⟩); obtain ⟨pk, pa, pt, po, pn, pz, pkids, PK, pc, pd, _, rfl, _⟩ := hv; unfold partV at hX1; unfold partV; clear hp hb hC hX)
                | (go_at_call 97; refine hX1.mono ?_; rintro e w6 hpo; obtain ⟨pka, paa, pta, poa, pna, pza, pkidsa, PKa, pca, pda, rfl, hxe, hk, hp, hb⟩ := hpo.exp (lo := w.heap.size) H5.out.bt.size (fun b hb2 => by rcases hb2 with h1 | ⟨h1, h2⟩; exact absurd h1 (by unfold NoB; simp); exact ⟨Nat.le_trans H4.out.bt.size h1, h2⟩); simp only [Prod.mk.injEq, Ex.mk.injEq] at hxe; obtain ⟨⟨rfl, rfl, rfl, rfl, rfl, rfl, rfl⟩, rfl⟩ := hxe; have H6 := Lib.hid (H5.out.but hgq hp hb); have hG := begun_call w.heap.size g q a s2 fk fa ft fo fn fz fkids PKa pca fd w6 H6.out.at_ hgq H6.out.cell H6.out.bt.size hgl hql hk hk8; have H62 := H6; clear hpo hp hb hk hX1)
                | (go_at_call 96; refine hG.mono ?_; rintro e w9 ⟨rfl, hp, hbt, hst⟩; have Hp9 := Lib.hid hp; have Hb9 := Lib.hid (H62.out.bt.trans hbt); have Hst := Lib.hid hst; clear hp hbt hst hG))
              first | go_end0 | refine bodyPost_ret (results_none rfl _ _ _) rfl ?_
              exact ⟨rfl, Hp9.out, Hb9.out, Hst.out⟩
            · rw [if_neg (show ¬ exK ((Ex.mk fk fa ft fo fn fz fkids, fd) : Part).1 = 8 from h8)] at hr
              have hk8 : (fk == 8) = false := by simpa using h8
              clear h8
              cases hy : exprK k (s2.need1 ([61] : List UInt8)) with
              | none => rw [hy] at hr; cases hr
              | some z =>
                rw [hy] at hr
                obtain ⟨y, s3⟩ := z
                simp only [Option.some.injEq] at hr
                subst hr
                have Hy := Lib.hid hy
                clear hy
                go_enter Tryz.func91, Tryz.ntmps91
                go_upto_region 2 with fail
                rw [← hw1]
                clear hw1
                go_wp2_with (first
                  | (go_at_call 43; refine (hT).mono ?_; rintro e w2 ⟨rfl, hp, hb⟩; have H2 := Lib.hid (H1.out.but hgq hp hb); have BT_2 := Lib.hid (((Bt.of_but (g := g) (q := q) hb).block w.heap.size (heap_lt BT_1.out) (by omega) (by omega)).trans BT_1.out); clear BT_1; clear hp hb)
                  | (go_at_call 61; with_reducible refine (hI1 w2 H2.out.at_).mono ?_; rintro e w3 ⟨rfl, hb⟩; have H3 := Lib.hid (H2.out.below hgq hb); have BT_3 := Lib.hid (((Bt.of_below (g := g) (q := q) hb).block w.heap.size (heap_lt BT_2.out) (by omega) (by omega)).trans BT_2.out); clear BT_2; clear hb hI1)
                  | (go_at_call 61; with_reducible refine (hI2 w3 H3.out.at_).mono ?_; rintro e w4 ⟨rfl, hb⟩; have H4 := Lib.hid (H3.out.below hgq hb); have BT_4 := Lib.hid (((Bt.of_below (g := g) (q := q) hb).block w.heap.size (heap_lt BT_3.out) (by omega) (by omega)).trans BT_3.out); clear BT_3; clear hb hI2; obtain ⟨t0, t1, t2, t3, tf⟩ := cells4 BT_4.out)
                  | (go_at_call 98; refine (hC w4 H4.out.at_).mono ?_; rintro e w5 ⟨v, rfl, hv, hp, hb⟩; have H5 := Lib.hid (H4.out.but hgq hp hb); have hX1 := hX v (Or' NoB w4 w5) w5 hp hv (fun b hb2 => by rcases hb2 with h1 | ⟨h1, h2⟩; exact absurd h1 (by unfold NoB; simp); exact ⟨Nat.lt_of_lt_of_le H4.out.at_.lt h1, h2⟩); obtain ⟨pk, pa, pt, po, pn, pz, pkids, PK, pc, pd, _, rfl, _⟩ := hv; unfold partV at hX1; unfold partV; clear hp hb hC hX)
                  | (go_at_call 97; refine hX1.mono ?_; rintro e w6 hpo; obtain ⟨pka, paa, pta, poa, pna, pza, pkidsa, PKa, pca, pda, rfl, hxe, hk, hp, hb⟩ := hpo.exp (lo := w.heap.size) H5.out.bt.size (fun b hb2 => by rcases hb2 with h1 | ⟨h1, h2⟩; exact absurd h1 (by unfold NoB; simp); exact ⟨Nat.le_trans H4.out.bt.size h1, h2⟩); simp only [Prod.mk.injEq, Ex.mk.injEq] at hxe; obtain ⟨⟨rfl, rfl, rfl, rfl, rfl, rfl, rfl⟩, rfl⟩ := hxe; have H6 := Lib.hid (H5.out.but hgq hp hb); have hG := begun_put k w.heap.size g q a s2 fk fa ft fo fn fz fkids PKa pca fd y s3 w6 Hy.out hok2 H6.out.at_ hgq H6.out.cell H6.out.bt.size hgl hql hk hk8; have H62 := H6; clear hpo hp hb hk hX1)
                  | (go_at_call 96; refine hG.mono ?_; rintro e w9 ⟨rfl, hp, hbt, hst⟩; have Hp9 := Lib.hid hp; have Hb9 := Lib.hid (H62.out.bt.trans hbt); have Hst := Lib.hid hst; clear hp hbt hst hG))
                first | go_end0 | refine bodyPost_ret (results_none rfl _ _ _) rfl ?_
                exact ⟨rfl, Hp9.out, Hb9.out, Hst.out⟩
    · rw [if_neg hob] at hr
      simp only [Option.some.injEq] at hr
      subst hr
      have ho1 : s.isB ([40] : List UInt8) = false := by rcases hb : s.isB ([40] : List UInt8) with _ | _; rfl; exact absurd (Or.inl hb) hob
      have ho2 : s.isB ([91] : List UInt8) = false := by rcases hb : s.isB ([91] : List UInt8) with _ | _; rfl; exact absurd (Or.inr hb) hob
      rw [ho1] at hI1
      rw [ho2] at hI2
      clear hob ho1 ho2 hok hok0
      have hN := fun w' (hp : PAt w' g s) => now_any g s w' hp
      have hR := fun w' (hp : PAt w' g s) => refuse_any g s s.now w' hp
      go_enter Tryz.func91, Tryz.ntmps91
      go_upto_region 2 with fail
      rw [← hw1]
      clear hw1
      go_wp2_with (first
        | (go_at_call 43; refine (hT).mono ?_; rintro e w2 ⟨rfl, hp, hb⟩; have H2 := Lib.hid (H1.out.but hgq hp hb); clear hp hb)
        | (go_at_call 61; with_reducible refine (hI1 w2 H2.out.at_).mono ?_; rintro e w3 ⟨rfl, hb⟩; have H3 := Lib.hid (H2.out.below hgq hb); clear hb hI1)
        | (go_at_call 61; with_reducible refine (hI2 w3 H3.out.at_).mono ?_; rintro e w4 ⟨rfl, hb⟩; have H4 := Lib.hid (H3.out.below hgq hb); clear hb hI2)
        | (go_at_call 18; with_reducible refine (hN w4 H4.out.at_).mono ?_; rintro e w5 ⟨rfl, hb⟩; have H5 := Lib.hid (H4.out.below hgq hb); clear hb hN)
        | (go_at_call 57; refine (hR w5 H5.out.at_).mono ?_; rintro e w6 ⟨rfl, hp, hb⟩; have H6 := Lib.hid (H5.out.but hgq hp hb); clear hp hb))
      first | go_end0 | refine bodyPost_ret (results_none rfl _ _ _) rfl ?_
      exact ⟨rfl, H6.out.at_, H6.out.bt, 0, a, 0, ⟨#[]⟩, 0, [], [], [], none, 0, none, 0, none, 0, rfl, H6.out.cell, by unfold RdEs; trivial, by unfold RdSs; trivial, by unfold RdSs; trivial⟩
end Go.Proofs.YtiadbeglhnocoaaGreatDoor
