/-
  A list without what goes.
-/
import Derived.Test.YtdjpjonikceadaaIrV
namespace Go.Proofs.Ytdjpjonikceadaa
open Go.RowKit
set_option linter.unusedVariables false
set_option linter.unusedSimpArgs false

theorem own_mono {w : World} {base b' : Nat} {T : TypeId} {z n : Nat} {v : Value} {xs : List Value} (h : w.ownsRow b' T z v n xs) (hb : base ≤ b') : w.ownsRow base T z v n xs := by
  refine ⟨h.1, ?_⟩
  rcases h.2 with h0 | ⟨g, cap, cur, hv, hg, rest⟩
  · exact .inl h0
  · exact .inr ⟨g, cap, cur, hv, by omega, rest⟩
/-- What is left of the first so many numbers of a list, when those at the places of one number in another list go. -/
def woA (old l : List Int) (pred : Int) (i : Nat) : List Int := (List.range i).filterMap (fun j => if old[j]? == some pred then none else l[j]?)
theorem woA_succ (old l : List Int) (pred : Int) (i : Nat) (hi : i < l.length) : woA old l pred (i + 1) = woA old l pred i ++ (if old[i]? == some pred then [] else [l[i]]) := by
  unfold woA
  rw [List.range_succ, List.filterMap_append]
  congr 1
  by_cases h : old[i]? = some pred
  · simp [List.filterMap, h]
  · simp [List.filterMap, h, hi]
theorem woA_le (old l : List Int) (pred : Int) (i : Nat) : (woA old l pred i).length ≤ i := by
  unfold woA
  exact Nat.le_trans (List.length_filterMap_le _ _) (by simp)

set_option maxRecDepth 100000 in
set_option maxHeartbeats 8000000 in
theorem without_lose (a7 a5 ob oc : Nat) (old l : List Int) (pred : Int) (v : Value) (w : World) (hv : RI w w.heap.size v l) (hl : l.length ≤ 1000) (h7 : w.cell? ⟨a7, 0, none⟩ = some (.slice (some ⟨ob, 0, none⟩) old.length oc)) (h7l : a7 < w.heap.size) (h5 : w.cell? ⟨a5, 0, none⟩ = some (.int .i64 pred)) (h5l : a5 < w.heap.size) (hol : ob < w.heap.size) (ho : ∀ j x, old[j]? = some x → w.cell? ⟨ob, j, none⟩ = some (.int .i64 x)) (hlen : l.length ≤ old.length) :
    Calls Try.prog 43 #[v, .func (.func 42) #[] #[.pointer (some ⟨a7, 0, none⟩), .pointer (some ⟨a5, 0, none⟩)]] w fun e w' => ∃ v', e = .returned v' ∧ Below w.heap.size w w' ∧ w'.ownsRow w.heap.size 3 1 v' (woA old l pred l.length).length ((woA old l pred l.length).map (fun x => Value.int .i64 x)) := by
  obtain ⟨A, c, rfl, hr⟩ := hv
  have Hr := Lib.hid hr
  have Ho := Lib.hid ho
  obtain ⟨m, hm⟩ : ∃ m, m = l.length := ⟨_, rfl⟩
  have Hm := Lib.hid hm
  rw [← hm] at hl hlen ⊢
  have H7 := Lib.hid h7
  have H5 := Lib.hid h5
  obtain ⟨i0, hi, hz0, hz1, hz2⟩ := info_parts infoInt
  have Hi := Lib.hid hi
  have Hz0 := Lib.hid hz0
  have Hz1 := Lib.hid hz1
  have Hz2 := Lib.hid hz2
  clear hr hm ho h7 h5 hi hz0 hz1 hz2
  go_enter Try.func43, Try.ntmps43
  go_wp2
  go_loopw [5, 10] (fun u5 u10 wr => ∃ (i : Nat) (x : Value), i ≤ m ∧ u10 = .int .i64 i ∧ u5 = x ∧ Hid (wr.ownsRow w.heap.size 3 1 x (woA old l pred i).length ((woA old l pred i).map (fun x => Value.int .i64 x))) ∧ Hid (Below w.heap.size w wr)) (fun _ u10 _ => m - (intOf u10).toNat)
  case atStart => exact ⟨0, _, Nat.zero_le _, rfl, rfl, Lib.hid (World.ownsRow_nil _ _ _ _), Lib.hid (Below.refl _ _)⟩
  case round =>
    obtain ⟨i, x, hi, rfl, rfl, HO, HB⟩ := hrel
    by_cases hlt : i < m
    · obtain ⟨b, rfl, hb, hc⟩ := Hr.out (by rw [← Hm.out]; omega)
      have hil : i < l.length := by rw [← Hm.out]; exact hlt
      have hcx := (HB.out.cell (p := ⟨b, i, none⟩) hb).trans (hc i l[i] (List.getElem?_eq_getElem hil))
      have hio : i < old.length := by omega
      have hS := woA_succ old l pred i hil
      rw [List.getElem?_eq_getElem hio] at hS
      obtain ⟨y, hy⟩ : ∃ y, y = l[i] := ⟨_, rfl⟩
      rw [← hy] at hcx hS
      obtain ⟨ov, hov⟩ : ∃ ov, ov = old[i] := ⟨_, rfl⟩
      have hG := lose1_at a7 a5 ob oc old.length i ov pred y wr ((HB.out.cell (p := ⟨a7, 0, none⟩) h7l).trans H7.out) ((HB.out.cell (p := ⟨a5, 0, none⟩) h5l).trans H5.out) hio ((HB.out.cell (p := ⟨ob, i, none⟩) hol).trans (by rw [hov]; exact Ho.out i _ (List.getElem?_eq_getElem hio)))
      rw [← hov] at hS
      have hle := woA_le old l pred i
      obtain ⟨k, hk⟩ : ∃ k, k = (woA old l pred i).length := ⟨_, rfl⟩
      have Hk := Lib.hid hk
      rw [← hk] at HO hle
      have HS := Lib.hid hS
      have hsz := HB.out.size
      clear hc hk hS hy hov
      cases hq : (ov == pred) with
      | true =>
        rw [hq] at hG
        have HQ : Hid (woA old l pred (i + 1) = woA old l pred i) := Lib.hid (by rw [HS.out, if_pos (by simpa using hq)]; simp)
        clear hq
        go_wp2_with (go_at_call 42; refine hG.mono ?_; rintro e w1 ⟨rfl, nq, rfl⟩; clear hG)
        go_roundw
        case rel => exact ⟨i + 1, _, by omega, by go_num, rfl, Lib.hid (by rw [HQ.out, ← Hk.out]; exact own_up HO.out ⟨rfl, rfl, rfl, Nat.le_refl _, fun _ _ => rfl⟩), Lib.hid (HB.out.trans ⟨rfl, rfl, rfl, Nat.le_refl _, fun _ _ => rfl⟩)⟩
        case measure => simp [intOf]; omega
      | false =>
        rw [hq] at hG
        have HQ : Hid (woA old l pred (i + 1) = woA old l pred i ++ [y]) := Lib.hid (by rw [HS.out, if_neg (by simpa using hq)])
        clear hq
        obtain ⟨V, C, hV⟩ := own_slice HO.out
        subst hV
        go_upto_region 6 with (go_at_call 42; refine hG.mono ?_; rintro e w1 ⟨rfl, nq, rfl⟩; clear hG)
        obtain ⟨D, hD⟩ : ∃ D, D = wr.drewN nq := ⟨_, rfl⟩
        rw [← hD]
        have hOD : D.ownsRow w.heap.size 3 1 (.slice V k C) k ((woA old l pred i).map (fun x => Value.int .i64 x)) := by rw [hD]; exact own_up HO.out ⟨rfl, rfl, rfl, Nat.le_refl _, fun _ _ => rfl⟩
        have hBD : Below w.heap.size w D := by rw [hD]; exact HB.out.trans ⟨rfl, rfl, rfl, Nat.le_refl _, fun _ _ => rfl⟩
        clear hD
        obtain ⟨A2, hA, hbA, hzA, h0A⟩ := r_one_al D #[.int .i64 y] 3
        have HOW := Lib.hid (own_up hOD hbA)
        have HNW := Lib.hid (World.news_of_block h0A)
        have HOn : Hid (∀ u ∈ ([.int .i64 y] : List Value), u.oneCell' = true) := Lib.hid (by intro u hu; simp at hu; subst hu; rfl)
        have hDs := hBD.size
        have hsz2 : w.heap.size ≤ A2.heap.size := by omega
        have HbA := Lib.hid hbA
        have HBD := Lib.hid hBD
        have HOD := Lib.hid hOD
        rw [hA] at HOW HNW hsz2
        have HA := Lib.hid hA
        clear hA hbA hzA h0A hOD hBD hsz
        go_wp2_with (at_builtin; refine wpList_append_lies _ rfl (.tmp 20) (.tmp 22) 26 rfl w.heap.size 3 i0 (.int .i64 0) 1 8 Try.underlying26 Hi.out Hz0.out Hz1.out Hz2.out rfl (by decide) (.slice V k C) k _ rfl HOW.out ⟨D.heap.size, 0, none⟩ 1 1 [.int .i64 y] rfl rfl HNW.out HOn.out (by decide) (by unfold maxLen; omega) (by omega) hsz2 _ rfl ?_)
        intro gp cp w2 hown2 hgrow hat hlt2
        rw [← HA.out] at hgrow
        clear HOW HNW hsz2
        have hB2 : Below w.heap.size w w2 := HBD.out.trans (((HbA.out.mono hDs) : Below w.heap.size D A2).grown hgrow (by have := HbA.out.size; omega) (fun g' e => (HOD.out.lt g' e).1))
        have hO2 : w2.ownsRow w.heap.size 3 1 (.slice (some ⟨gp, 0, none⟩) (k + 1) cp) (woA old l pred (i + 1)).length ((woA old l pred (i + 1)).map (fun x => Value.int .i64 x)) := by
          rw [HQ.out, List.length_append, List.length_singleton, ← Hk.out, List.map_append]
          exact hown2
        have HO2 := Lib.hid hO2
        have HB2 := Lib.hid hB2
        clear hown2 hgrow hat hlt2 hB2 hO2 hDs
        go_wp2
        go_roundw
        case rel => exact ⟨i + 1, _, by omega, by go_num, rfl, HO2, HB2⟩
        case measure => simp [intOf]; omega
    · obtain rfl : i = m := by omega
      go_wp2
      go_ret
      exact ⟨_, rfl, HB.out, HO.out⟩
end Go.Proofs.Ytdjpjonikceadaa
