/-
  LexJoins: the law's walk.
-/
import Derived.Test.YtmoeokfjfnegmaaDoorE1
import Derived.Test.YtmoeokfjfnegmaaDoorM5
import Derived.Lib.SmallJoins
namespace Go.Proofs.YtmoeokfjfnegmaaDoor
open Go.RowKit

theorem preL_take_le (ts : List Tk) (i : Nat) : (preL (ts.take i)).length ≤ (preL ts).length := by
  have e : preL ts = preL (ts.take i) ++ preL (ts.drop i) := by
    unfold preL
    rw [← List.flatMap_append, List.take_append_drop]
  rw [e, List.length_append]; omega
theorem preL_snoc (ts : List Tk) (i : Nat) (t : Tk) (h : ts[i]? = some t) : preL (ts.take (i + 1)) = preL (ts.take i) ++ (t.bytes ++ [32]) := by
  obtain ⟨hi, hg⟩ := List.getElem?_eq_some_iff.mp h
  unfold preL
  rw [List.take_succ_eq_append_getElem hi, List.flatMap_append, hg]
  simp
/-- Lex, of the words with spaces between them. -/
theorem lex_joined (ub : ByteArray) (L : List UInt8) (n : Nat) (w : World) (hn : L.length ≤ 2000) (hr : Rng w) (R : List Tk) (hL : Hid (lexS L = (R, none))) (hu : Hid (ub.data.toList = preL (R ++ [endT n]))) :
    Calls Tryd.prog 9 #[.string ub] w fun e w' => ∃ g cap, e = .returned (.tuple #[.slice (some ⟨g, 0, none⟩) (R.length + 1) cap, .agg #[.int .i64 0, .int .i64 0]]) ∧ Hid (TksAt w' g (placed 0 R ++ [endT ub.size])) ∧ g < w'.heap.size ∧ Below w.heap.size w w' := by
  obtain ⟨h1, h2⟩ := lexS_words hL.out
  have e : preL (R ++ [endT n]) = preL R ++ [32] := by simp [preL, endT]
  have hlen : ub.size = (preL R).length + 1 := by
    have h := congrArg List.length hu.out
    rw [e, List.length_append, List.length_singleton, Array.length_toList] at h
    exact h
  have hx : lexS ub.data.toList = (placed 0 R, none) := by
    rw [hu.out, e, lexS_U]
    exact join_lex R (fun t ht => (h1 t ht).1) 0
  exact (lex_tks ub w (by omega) hr _ hx).mono fun _ _ ⟨g, cap, he, ht, hg, hb⟩ => ⟨g, cap, by rw [he, placed_len], ht, hg, hb⟩

set_option maxRecDepth 100000 in
set_option maxHeartbeats 8000000 in
theorem joins_law (s : ByteArray) (w : World) (hs : s.size ≤ maxLen) (hr : Rng w) : Calls Tryd.prog 5 #[.string s] w fun e w' => e = .returned (.bool true) ∧ Below w.heap.size w w' := by
  have hr2 := hr.two
  go_enter Tryd.func5, Tryd.ntmps5
  go_wp2_with (go_at_call 8; refine (few_any s _ hs).mono ?_; rintro e w' ⟨t, ht, rfl, rfl⟩)
  obtain ⟨R, O, hL⟩ : ∃ R O, lexS t.data.toList = (R, O) := ⟨_, _, rfl⟩
  rcases O with _ | p
  · have htl : t.data.toList.length = t.size := by simp
    obtain ⟨hwd, hpl⟩ := lexS_words hL
    have hRl : R.length ≤ t.size := by
      have h := lexS_len t.data.toList
      rw [hL, htl] at h
      exact h
    rw [htl] at hwd hpl
    have hpre : (preL (R ++ [endT t.size])).length ≤ 4001 := by
      have e : preL (R ++ [endT t.size]) = preL R ++ [32] := by simp [preL, endT]
      rw [e, List.length_append, List.length_singleton]; omega
    replace hL := Lib.hid hL
    replace hwd := Lib.hid hwd
    clear htl hpl
    go_wp2_with (fail)
    refine (lex_tks t _ (by omega) hr R hL).mono ?_
    rintro e w1 ⟨g1, c1, rfl, T1, hg1, hb1⟩
    have hr1 : Rng (w1.alloc (.cells #[.int .i64 0, .int .i64 0] 25)) := (hr.up hb1).up ((Below.refl _ _).alloc (Nat.le_refl _) _)
    go_wp2_with (fail)
    refine (awake_any _ hr1).mono ?_
    rintro e w2 ⟨rfl, hb2⟩
    obtain ⟨k0, k1⟩ := flt_keep1 hb2
    have hb3 := below_alloc hb1 (Nat.le_refl _) hb2
    have hr3 := hr1.up hb2
    have T1' := Lib.hid (T1.out.below (below_alloc (Below.refl _ _) (Nat.le_refl _) hb2) hg1)
    have hg1' : g1 < w2.heap.size := by have := hb2.size; simp at this; omega
    clear T1 hb1 hb2 hr1
    go_wp2_with (fail)
    go_loop [6, 7] (fun v a => ∃ (i : Nat) (ub : ByteArray), i ≤ R.length + 1 ∧ a = .int .i64 i ∧ v = .string ub ∧ ub.size ≤ 4001 ∧ Hid (ub.data.toList = preL ((R ++ [endT t.size]).take i))) (fun _ a => R.length + 1 - (intOf a).toNat)
    case atStart => exact ⟨0, ⟨#[]⟩, by omega, rfl, rfl, by decide, rfl⟩
    case round =>
      obtain ⟨i, ub, hi, rfl, rfl, hub, HU⟩ := hrel
      by_cases hlt : i < R.length + 1
      · obtain ⟨⟨kd, a, nm, bs⟩, hT⟩ : ∃ T, (R ++ [endT t.size])[i]? = some T := ⟨_, List.getElem?_eq_getElem (show i < (R ++ [endT t.size]).length by simpa using hlt)⟩
        obtain ⟨_, _, _, a3⟩ := T1'.out i _ hT
        have H1 : Hid ((ub ++ (⟨bs.toArray⟩ ++ ⟨#[32]⟩) : ByteArray).data.toList = preL ((R ++ [endT t.size]).take (i + 1))) := by
          refine Lib.hid ?_
          rw [preL_snoc _ i _ hT, ← HU.out, Joins.data_append, Joins.data_append]
        have hsz : (ub ++ (⟨bs.toArray⟩ ++ ⟨#[32]⟩) : ByteArray).size ≤ 4001 := by
          have h := congrArg List.length H1.out
          have h2 := preL_take_le (R ++ [endT t.size]) (i + 1)
          rw [Array.length_toList] at h
          have h3 : (ub ++ (⟨bs.toArray⟩ ++ ⟨#[32]⟩) : ByteArray).data.size = (ub ++ (⟨bs.toArray⟩ ++ ⟨#[32]⟩) : ByteArray).size := rfl
          omega
        have hsz2 : ub.size + (bs.length + 1) ≤ 4001 := by
          have e : (ub ++ (⟨bs.toArray⟩ ++ ⟨#[32]⟩) : ByteArray).size = ub.size + (bs.length + 1) := by
            rw [ByteArray.size_append, ByteArray.size_append]; rfl
          omega
        replace hT := Lib.hid hT
        clear HU
        go_wp2_with (fail)
        go_round
        case rel => exact ⟨i + 1, ub ++ (⟨bs.toArray⟩ ++ ⟨#[32]⟩), by omega, by go_num, rfl, hsz, H1⟩
        case measure => simp [intOf]; omega
      · have e : i = R.length + 1 := by omega
        subst e
        have HU2 : Hid (ub.data.toList = preL (R ++ [endT t.size])) := by
          refine Lib.hid ?_
          rw [HU.out, List.take_of_length_le (by simp)]
        clear HU
        go_wp2_with (fail)
        refine (lex_joined ub t.data.toList t.size _ (by simpa using ht) hr3 R hL HU2).mono ?_
        rintro e w3 ⟨g2, c2, rfl, T2, hg2, hb4⟩
        have hb6 := hb3.trans (hb4.mono hb3.size)
        have T1b := Lib.hid (T1'.out.below hb4 hg1')
        have T1c : Hid (TksAt (w3.alloc (.cells #[.int .i64 0, .int .i64 0] 25)) g1 (R ++ [endT t.size])) := Lib.hid (T1b.out.below ((Below.refl _ _).alloc (Nat.le_refl _) _) (Nat.lt_of_lt_of_le hg1' hb4.size))
        have T2c : Hid (TksAt (w3.alloc (.cells #[.int .i64 0, .int .i64 0] 25)) g2 (placed 0 R ++ [endT ub.size])) := Lib.hid (T2.out.below ((Below.refl _ _).alloc (Nat.le_refl _) _) hg2)
        have hb7 : Below w.heap.size w (w3.alloc (.cells #[.int .i64 0, .int .i64 0] 25)) := hb6.alloc (Nat.le_trans (Nat.le_refl _) hb6.size) _
        replace hb7 := Lib.hid hb7
        clear T1' T1b T2 hb3 hb4 hb6 k0 k1 hr3
        go_wp2_with (fail)
        obtain ⟨W, hW⟩ : ∃ W, W = w3.alloc (.cells #[.int .i64 0, .int .i64 0] 25) := ⟨_, rfl⟩
        rw [← hW] at T1c T2c hb7 ⊢
        clear hW
        go_loopw [10] (fun a wr => ∃ m : Nat, m ≤ R.length + 1 ∧ a = .int .i64 m ∧ ∃ q, wr = W.drewN q) (fun a _ => R.length + 1 - (intOf a).toNat)
        case atStart => exact ⟨0, Nat.zero_le _, rfl, 0, rfl⟩
        case round =>
          obtain ⟨n, hn2, rfl, q, rfl⟩ := hrel
          by_cases hnR : n < R.length
          · obtain ⟨⟨kd, a, nm, bs⟩, hT⟩ : ∃ T, R[n]? = some T := ⟨_, List.getElem?_eq_getElem hnR⟩
            obtain ⟨a', hP⟩ := placed_at R 0 n _ hT
            obtain ⟨a0, a1, a2, a3⟩ := tks_init T1c.out n _ hT
            obtain ⟨b0, b1, b2, b3⟩ := tks_init T2c.out n _ hP
            obtain ⟨_, hw1, hw2⟩ := hwd.out _ (List.mem_of_getElem? hT)
            have hx : t.extract a (a + bs.length) = ⟨bs.toArray⟩ := by
              rw [extract_drop]
              exact congrArg (fun l : List UInt8 => (⟨l.toArray⟩ : ByteArray)) hw2.symm
            have hw3 : a + bs.length ≤ t.size := hw1
            have s1 : IntKind.i64.wrap ((a : Int) + (bs.length : Int)) = (a : Int) + (bs.length : Int) := IntWalk.i64_in _ (by omega)
            have s2 : ((a : Int) + (bs.length : Int)).toNat = a + bs.length := by omega
            have s3 : (0 : Int) ≤ (a : Int) + (bs.length : Int) := by omega
            have d1 : decide ((n : Int) < (R.length : Int)) = true := by simp; omega
            have d2 : decide (n < R.length) = true := by simp; omega
            replace hT := Lib.hid hT
            replace hP := Lib.hid hP
            clear hw1 hw2
            go_wp2_with (fail)
            go_quiet (fail)
            go_wp2_with (fail)
            go_roundw
            case rel => exact ⟨n + 1, by omega, by go_num, _, rfl⟩
            case measure => simp [intOf]; omega
          · by_cases hnE : n = R.length
            · have hA : (R ++ [endT t.size])[n]? = some (endT t.size) := by rw [hnE]; simp
              have hB : (placed 0 R ++ [endT ub.size])[n]? = some (endT ub.size) := by
                rw [hnE, List.getElem?_append_right (by rw [placed_len]; exact Nat.le_refl _), placed_len, Nat.sub_self]; rfl
              obtain ⟨a0, a1, a2, a3⟩ := T1c.out _ _ hA
              obtain ⟨b0, b1, b2, b3⟩ := T2c.out _ _ hB
              replace a0 : W.cell? ⟨g1, n * 4, none⟩ = some (.int .i64 0) := a0
              replace a2 : W.cell? ⟨g1, n * 4 + 2, none⟩ = some (.int .i64 0) := a2
              replace a3 : W.cell? ⟨g1, n * 4 + 3, none⟩ = some (.string ⟨#[]⟩) := a3
              replace b0 : W.cell? ⟨g2, n * 4, none⟩ = some (.int .i64 0) := b0
              replace b2 : W.cell? ⟨g2, n * 4 + 2, none⟩ = some (.int .i64 0) := b2
              replace b3 : W.cell? ⟨g2, n * 4 + 3, none⟩ = some (.string ⟨#[]⟩) := b3
              have d1 : decide ((n : Int) < (R.length : Int)) = false := by simp; omega
              have d2 : decide (n < R.length) = false := by simp; omega
              have hlt2 : n < R.length + 1 := by omega
              have hge : R.length ≤ n := by omega
              have hgI : (R.length : Int) ≤ (n : Int) := by omega
              have hR63 : (0 : Int) ≤ (R.length : Int) ∧ (R.length : Int) ≤ 2000 := by omega
              have d3 : decide ((n : Int) < IntKind.i64.wrap (R.length : Int)) = false := by
                rw [IntWalk.i64_in _ ⟨by omega, by omega⟩]
                exact d1
              clear hA hB a1 b1 hnE hnR hR63
              go_wp2_with (fail)
              refine wp_region_quiet_lit (by kernel_rfl) (by kernel_rfl) ?_
              simp only [List.append_eq, List.cons_append, List.nil_append]
              repeat (go_big_quiet_step (fail))
              refine wpQuiet_nil ?_
              intro _ hw'
              obtain ⟨nq, hw''⟩ := hw'
              subst hw''
              clear d3
              go_wp2_with (fail)
              go_roundw
              case rel => exact ⟨n + 1, by omega, by go_num, _, rfl⟩
              case measure => simp [intOf]; omega
            · have e : n = R.length + 1 := by omega
              subst e
              go_wp2_with (fail)
              go_ret
              exact ⟨rfl, hb7.out.trans ((drewN_below _ _).mono hb7.out.size)⟩
  · have hLp := Lib.hid hL
    clear hL
    go_wp2_with (fail)
    refine (lex_bad t _ (by omega) hr R p hLp).mono ?_
    rintro e w1 ⟨rfl, hb1⟩
    have hr1 : Rng (w1.alloc (.cells #[.int .i64 1, .int .i64 p] 25)) := (hr.up hb1).up ((Below.refl _ _).alloc (Nat.le_refl _) _)
    go_wp2_with (fail)
    refine (awake_any _ hr1).mono ?_
    rintro e w2 ⟨rfl, hb2⟩
    obtain ⟨k0, k1⟩ := flt_keep1 hb2
    have hb3 := below_alloc hb1 (Nat.le_refl _) hb2
    have hr3 := hr1.up hb2
    clear hr1 hb1 hb2
    go_wp2_with (fail)
    refine (awake_any _ hr3).mono ?_
    rintro e w4 ⟨rfl, hb4⟩
    go_wp2_with (fail)
    go_ret
    exact ⟨rfl, hb3.trans (hb4.mono hb3.size)⟩
end Go.Proofs.YtmoeokfjfnegmaaDoor
