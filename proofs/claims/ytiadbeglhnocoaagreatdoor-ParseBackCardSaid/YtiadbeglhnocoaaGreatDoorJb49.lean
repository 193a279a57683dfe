/-
  A program that is printed is the same program again: the law.
-/
import Derived.Test.YtiadbeglhnocoaaGreatDoorJb48
import Derived.Lib.QuietBelow
import Derived.BigQuiet
namespace Go.Proofs.YtiadbeglhnocoaaGreatDoor
set_option linter.unusedVariables false
set_option linter.unusedSimpArgs false
open Go.RowKit Go.Shelf Go.Sort

set_option maxRecDepth 100000 in
theorem few_c (s : ByteArray) (w : World) : Calls Tryz.prog 5 #[.string s] w fun e w' => ∃ t : ByteArray, t.size ≤ 3000 ∧ e = .returned (.string t) ∧ w' = w := by
  by_cases h : s.size ≤ 3000
  · have h1 : ¬ (3000 : Int) < (s.size : Int) := by omega
    have h2 : decide ((3000 : Int) < (s.size : Int)) = false := by simp; omega
    go_enter Tryz.func5, Tryz.ntmps5
    go_wp2
    go_ret
    exact ⟨s, h, rfl, rfl⟩
  · have h1 : (3000 : Int) < (s.size : Int) := by omega
    have h2 : decide ((3000 : Int) < (s.size : Int)) = true := by simp; omega
    go_enter Tryz.func5, Tryz.ntmps5
    go_wp2
    go_ret
    exact ⟨_, by simp; omega, rfl, rfl⟩
/-- What is known of a program that was read. -/
def Rt (l : List Fu) : Prop := (∀ f ∈ l, WFF f) ∧ l.length ≤ 256 ∧ (prT l).length ≤ 960000 ∧
    ∃ R2, lexS (prT l) = (R2, none) ∧ ∃ l2 z, progK 25000000 [] (begin0 ⟨(prT l).toArray⟩ R2) = some (l2, z) ∧ z.fk = 0 ∧ allB sameF l l2 = true ∧ prT l2 = prT l ∧ (∀ f ∈ l2, WFF f) ∧ l2.length ≤ 256
theorem parse_c (t : ByteArray) (ht : t.size ≤ 3000) (w : World) (hr : Rng w) : Calls Tryz.prog 4 #[.string t] w fun e w' => ∃ l fk fa, ParP w l fk fa e w' ∧ ((l = [] ∧ (fk != 0) = true) ∨ (fk = 0 ∧ Rt l)) := by
  rcases hL : lexS t.data.toList with ⟨R, O⟩
  cases O with
  | some p => exact (parse_bad t w (by omega) hr R p hL).mono fun e w' h => ⟨[], 1, p, h, Or.inl ⟨rfl, by decide⟩⟩
  | none =>
    obtain ⟨l, s', hp, h⟩ := round_trip t ht R hL
    by_cases h0 : s'.fk = 0
    · exact (parse_good t w (by omega) hr R hL 100000 l s' (by decide) hp (by rw [h0]; decide)).mono fun e w' q => ⟨l, 0, 0, q, Or.inr ⟨rfl, h h0⟩⟩
    · exact (parse_fault t w (by omega) hr R hL 100000 l s' (by decide) hp (by simpa using h0)).mono fun e w' q => ⟨[], s'.fk, s'.fa, q, Or.inl ⟨rfl, by simpa using h0⟩⟩
theorem bk_call {P : Program} {f : FuncId} {args : Array Value} {v : Value} (W : World) (h : ∀ A, Below W.heap.size W A → Calls P f args A fun e w' => e = .returned v ∧ Below A.heap.size A w') :
    ∀ d os, Calls P f args (grow (redrawn W d) os) fun e w' => e = .returned v ∧ ∃ q : Regrown, w' = grow (redrawn W q.d) q.os := fun d os => Calls.regrown_of (h _ (below_regrown W d os))
set_option maxRecDepth 100000 in
set_option maxHeartbeats 8000000 in
theorem law04_back (s : ByteArray) (w : World) (hr : Rng w) : Calls Tryz.prog 3 #[.string s] w fun e w' => e = .returned (.bool true) ∧ Below w.heap.size w w' := by
  have hF := few_c s w
  have Hr := Lib.hid hr
  clear hr
  go_enter Tryz.func3, Tryz.ntmps3
  go_upto_region 2 with (first
    | (go_at_call 5; refine hF.mono ?_; rintro e w1 ⟨t, ht, rfl, rfl⟩; have hP := parse_c t ht w1 Hr.out; clear ht hF)
    | (go_at_call 4; refine hP.mono ?_; rintro e w2 ⟨l, fk, fa, ⟨A, c, rfl, hA, hb⟩, hcase⟩; have HA := Lib.hid hA; have HB := Lib.hid hb; have HC := Lib.hid hcase; clear hA hb hcase hP))
  obtain ⟨n, hn⟩ : ∃ n, n = l.length := ⟨_, rfl⟩
  rw [← hn]
  obtain ⟨w3, hw3, hb3, hz3, h3⟩ := t_one_al w2 #[.slice A n c] 24
  obtain ⟨w4, hw4, hb4, hz4, h4⟩ := t_one_al w3 #[.int .i64 fk, .int .i64 fa] 26
  rw [← hw3, ← hw4]
  obtain ⟨tb, htb⟩ : ∃ tb, tb = w2.heap.size := ⟨_, rfl⟩
  obtain ⟨fb, hfb⟩ : ∃ fb, fb = tb + 1 := ⟨_, rfl⟩
  rw [← htb] at h3
  rw [hz3, ← htb, ← hfb] at h4
  have h3' : w4.heap[tb]? = _ := (hb4.block tb (by omega)).trans h3
  have hK : ∀ X, Below w4.heap.size w4 X → X.cell? ⟨tb, 0, none⟩ = some (.slice A n c) ∧ X.cell? ⟨fb, 0, none⟩ = some (.int .i64 fk) := fun X hX =>
    ⟨Lib.cell_of_heap ((hX.block tb (by omega)).trans h3') 0, Lib.cell_of_heap ((hX.block fb (by omega)).trans h4) 0⟩
  have hb24 : Below w2.heap.size w2 w4 := hb3.trans (hb4.mono (by omega))
  have HB4 := Lib.hid (HB.out.trans (hb24.mono HB.out.size))
  have HA4 : Hid (∀ X, Below w4.heap.size w4 X → RdFs X (fun b => b < X.heap.size) A l) := Lib.hid fun X hX => RdFs.more (fun b hb => by have := hb.2; have := hb24.size; have := hX.size; omega) (RdFs.keep (w' := X) (fun q hq => (hX.cell (by have := hq.2; have := hb24.size; omega)).trans (hb24.cell hq.2)) HA.out)
  have HK := Lib.hid hK
  have Hn := Lib.hid hn
  rw [← htb, ← hfb]
  clear hw3 hb3 hz3 h3 hw4 hb4 hz4 h4 htb hfb h3' hK hb24 HA HB hn
  have hAw := awake_any w4 (Hr.out.up HB4.out)
  rcases HC.out with ⟨hl0, hfk⟩ | ⟨rfl, hrt⟩
  · -- a fault
    have hn0 : n = 0 := by rw [Hn.out, hl0]; rfl
    subst hn0
    have hfk2 : (fk == 0) = false := by simpa using hfk
    have hfk3 : decide (fk = 0) = false := by simpa using hfk
    clear hl0 HC
    go_upto_region 3 with (go_at_call 6; refine hAw.mono ?_; rintro e w5 ⟨rfl, hb5⟩; obtain ⟨x1, x2⟩ := HK.out w5 hb5; have H5 := Lib.hid hb5; clear hb5 hAw)
    have hAw2 := awake_any w5 (Hr.out.up (HB4.out.trans (H5.out.mono HB4.out.size)))
    clear x1 x2
    go_wp2_with (go_at_call 6; refine hAw2.mono ?_; rintro e w6 ⟨rfl, hb6⟩; obtain ⟨x1, x2⟩ := HK.out w6 (H5.out.trans (hb6.mono H5.out.size)); have H6 := Lib.hid (HB4.out.trans ((H5.out.trans (hb6.mono H5.out.size)).mono HB4.out.size)); clear hb6 hAw2)
    go_ret
    exact ⟨by first | rfl | simp, H6.out⟩
  · -- a program
    obtain ⟨r1, r2, r3, R2, r4, l2, z, r5, r6, r7, r8, r9, r10⟩ := hrt
    obtain ⟨P, hP⟩ : ∃ P : ByteArray, P = ⟨(prT l).toArray⟩ := ⟨_, rfl⟩
    have hPs : P.size ≤ 1048576 := by rw [hP]; show (prT l).toArray.size ≤ _; simp; omega
    have hPl : P.data.toList = prT l := by rw [hP]
    have hPr : ∀ X, Below w4.heap.size w4 X → Calls Tryz.prog 7 #[.agg #[.slice A n c]] X fun e w' => e = .returned (.string P) ∧ Below X.heap.size X w' := fun X hX => by
      rw [hP, Hn.out]
      exact Print_c l r1 r2 (by omega) A c X (HA4.out X hX)
    have hPa : ∀ X, Below w4.heap.size w4 X → Calls Tryz.prog 4 #[.string P] X (ParP X l2 0 0) := fun X hX => parse_good P X hPs (Hr.out.up (HB4.out.trans (hX.mono HB4.out.size))) R2 (by rw [hPl]; exact r4) 25000000 l2 z (by decide) (by rw [hP]; exact r5) (by rw [r6]; decide)
    have hPr2 : ∀ (X : World) (A2 : Option Addr) (c2 : Nat), RdFs X (fun b => b < X.heap.size) A2 l2 → Calls Tryz.prog 7 #[.agg #[.slice A2 l2.length c2]] X fun e w' => e = .returned (.string P) ∧ Below X.heap.size X w' := fun X A2 c2 hX => by
      rw [hP, ← r8]
      exact Print_c l2 r9 r10 (by rw [r8]; omega) A2 c2 X hX
    have hSm : ∀ (X : World) (A2 : Option Addr) (c2 : Nat), Below w4.heap.size w4 X → RdFs X (fun b => b < X.heap.size) A2 l2 → Calls Tryz.prog 8 #[.agg #[.slice A n c], .agg #[.slice A2 l2.length c2]] X fun e w' => e = .returned (.bool true) ∧ Below X.heap.size X w' := fun X A2 c2 hX hX2 => by
      rw [Hn.out]
      exact same_true l l2 r7 (good_T l r1 (by omega)) (by omega) A A2 c c2 X (HA4.out X hX) hX2
    have es : (P.toList == P.toList) = true := by simp
    have HPr := Lib.hid hPr
    have HPa := Lib.hid hPa
    have HPr2 := Lib.hid hPr2
    have HSm := Lib.hid hSm
    clear r1 r2 r3 r4 r5 r6 r7 r8 r9 r10 hP hPs hPl hPr hPa hPr2 hSm HC
    go_upto_region 4 with (go_at_call 6; refine hAw.mono ?_; rintro e w5 ⟨rfl, hb5⟩; obtain ⟨x1, x2⟩ := HK.out w5 hb5; have H5 := Lib.hid hb5; clear hb5 hAw)
    have hp1 := HPr.out w5 H5.out
    go_upto_region 5 with (first
      | (go_at_call 7; refine hp1.mono ?_; rintro e w6 ⟨rfl, hb6⟩; have H6 := Lib.hid (H5.out.trans (hb6.mono H5.out.size)); have hp2 := HPa.out w6 H6.out; clear hb6 hp1)
      | (go_at_call 4; refine hp2.mono ?_; rintro e w7 ⟨A2, c2, rfl, hA2, hb7⟩; have HA2 := Lib.hid hA2; have HB7 := Lib.hid hb7; clear hA2 hb7 hp2))
    obtain ⟨n2, hn2⟩ : ∃ n2, n2 = l2.length := ⟨_, rfl⟩
    rw [← hn2]
    obtain ⟨w8, hw8, hb8, hz8, h8⟩ := t_one_al w7 #[.slice A2 n2 c2] 24
    obtain ⟨w9, hw9, hb9, hz9, h9⟩ := t_one_al w8 #[.int .i64 0, .int .i64 0] 26
    rw [← hw8, ← hw9]
    obtain ⟨ub, hub⟩ : ∃ ub, ub = w7.heap.size := ⟨_, rfl⟩
    obtain ⟨gb, hgb⟩ : ∃ gb, gb = ub + 1 := ⟨_, rfl⟩
    rw [← hub] at h8
    rw [hz8, ← hub, ← hgb] at h9
    have hb79 : Below w7.heap.size w7 w9 := hb8.trans (hb9.mono (by omega))
    have h49 : Below w4.heap.size w4 w9 := H6.out.trans ((HB7.out.trans (hb79.mono HB7.out.size)).mono H6.out.size)
    have y1 : w9.cell? ⟨ub, 0, none⟩ = some (.slice A2 n2 c2) := Lib.cell_of_heap ((hb9.block ub (by omega)).trans h8) 0
    have y2 : w9.cell? ⟨gb, 0, none⟩ = some (.int .i64 0) := Lib.cell_of_heap h9 0
    obtain ⟨y3, -⟩ := HK.out w9 h49
    have hRd : ∀ X, Below w9.heap.size w9 X → RdFs X (fun b => b < X.heap.size) A2 l2 := fun X hX => RdFs.more (fun b hb => by have := hb.2; have := hb79.size; have := hX.size; omega) (RdFs.keep (w' := X) (fun q hq => (hX.cell (by have := hq.2; have := hb79.size; omega)).trans (hb79.cell hq.2)) HA2.out)
    have k1 := bk_call w9 fun X hX => HSm.out X A2 c2 (h49.trans (hX.mono h49.size)) (hRd X hX)
    have k2 := bk_call w9 fun X hX => HPr2.out X A2 c2 (hRd X hX)
    have k3 := bk_call w9 fun X hX => HPr.out X (h49.trans (hX.mono h49.size))
    rw [← hn2] at k1 k2
    have z1 := cell_regrown y1
    have z2 := cell_regrown y2
    have z3 := cell_regrown y3
    have H49 := Lib.hid h49
    rw [← hub, ← hgb]
    clear hw8 hb8 hz8 h8 hw9 hb9 hz9 h9 hub hgb hb79 h49 y1 y2 y3 hRd HA2 HB7 H6 H5 hn2 x1 x2
    refine wp_region_quiet_below (by kernel_rfl) (by kernel_rfl) ?_
    repeat (go_big_quiet_step (first | with_reducible exact k1 _ _ | with_reducible exact k2 _ _ | with_reducible exact k3 _ _))
    refine wpQuiet_nil ?_
    intro X hw'
    obtain ⟨⟨dq, osq⟩, hw''⟩ := hw'
    have HbX : Hid (Below w9.heap.size w9 X) := Lib.hid (by rw [hw'']; exact below_regrown w9 dq osq)
    clear hw'' k1 k2 k3 z1 z2 z3
    go_wp2
    go_ret
    exact ⟨by first | rfl | simp, HB4.out.trans ((H49.out.trans (HbX.out.mono H49.out.size)).mono HB4.out.size)⟩
end Go.Proofs.YtiadbeglhnocoaaGreatDoor
