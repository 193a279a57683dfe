/-
  graph.Places.
-/
import Derived.Test.YtidhelpibofbiaaGrG
import Derived.Lib.MinMax
namespace Go.Proofs.Ytidhelpibofbiaa
open Go.RowKit
set_option linter.unusedVariables false
set_option linter.unusedSimpArgs false

/-- From here on: of each block the last place. -/
def placeP : List Int → Nat → List Int → List Int
  | [], _, acc => acc
  | b :: l, i, acc => placeP l (i + 1) (if 0 ≤ b ∧ b < acc.length then acc.set b.toNat (i : Int) else acc)
def placesP (l : List Int) (n : Nat) : List Int := placeP l 0 (List.replicate n (-1))
theorem placeP_len : ∀ (l : List Int) (i : Nat) (acc : List Int), (placeP l i acc).length = acc.length
  | [], _, _ => rfl
  | b :: l, i, acc => by
    unfold placeP
    rw [placeP_len l]
    split <;> simp
def minusV (n i : Nat) : List Value := List.replicate i (Value.int .i64 (-1)) ++ List.replicate (n - i) (Value.int .i64 0)
theorem minusV_step (n i : Nat) (h : i < n) : (minusV n i).set i (.int .i64 (-1)) = minusV n (i + 1) := by
  unfold minusV
  rw [List.set_append_right _ _ (by simp), List.length_replicate, Nat.sub_self, show n - i = (n - (i + 1)) + 1 by omega, List.replicate_succ, List.set_cons_zero, List.replicate_succ' (n := i), List.append_assoc]
  rfl
theorem minusV_end (n : Nat) : minusV n n = intsV (List.replicate n (-1)) := by simp [minusV, intsV]

set_option maxRecDepth 100000 in
set_option maxHeartbeats 8000000 in
theorem places_g (n0 : Nat) (v : Value) (l : List Int) (many : Int) (w : World) (hv : GNs n0 w v l) (hn : n0 ≤ w.heap.size) (hl : l.length ≤ 1048576) (hm : -9223372036854775808 ≤ many ∧ many ≤ 1048576) :
    Calls Try.prog 15 #[v, .int .i64 many] w fun e w' => ∃ u, e = .returned u ∧ w'.ownsRow w.heap.size 3 1 u many.toNat (intsV (placesP l many.toNat)) ∧ Below w.heap.size w w' := by
  obtain ⟨A, c, rfl, hr⟩ := id hv
  obtain ⟨n, hnn⟩ : ∃ n : Nat, n = many.toNat := ⟨_, rfl⟩
  rw [← hnn]
  have hmax : max many 0 = (n : Int) := by omega
  obtain ⟨m, hml⟩ : ∃ m, m = l.length := ⟨_, rfl⟩
  have hv2 := hv
  rw [← hml] at hv2 hl ⊢
  have hn2 : n ≤ 1048576 := by omega
  have Hv := Lib.hid hv2
  have Hml := Lib.hid hml
  obtain ⟨j1, hj1, jz0, jz1, jz2⟩ := info_parts infoIntG
  have Ji := Lib.hid hj1
  have Jz0 := Lib.hid jz0
  have Jz1 := Lib.hid jz1
  have Jz2 := Lib.hid jz2
  obtain ⟨res, hres⟩ : ∃ res, res = placesP l n := ⟨_, rfl⟩
  have Hres := Lib.hid hres
  rw [← hres]
  clear hj1 jz0 jz1 jz2 hr hv hv2 hml hnn hres
  go_enter Try.func15, Try.ntmps15
  go_upto_region 1 with fail
  go_wp2_with (at_make; refine wpList_make_full _ rfl (.tmp 10) (.tmp 10) 23 rfl w.heap.size 3 j1 (.int .i64 0) 1 Try.underlying23 Ji.out Jz0.out Jz1.out _ _ _ _ n rfl rfl (by first | rfl | exact hmax) (by first | rfl | exact hmax) (by rw [Jz2.out]; omega) (by unfold maxLen; omega) (Nat.le_refl _) ?_)
  intro w2 ho2 hg2
  have hb2 : Below w.heap.size w w2 := (Below.refl _ _).grown hg2 (Nat.le_refl _) (fun k e => by cases e)
  rw [madeInt] at ho2
  have Ho2 := Lib.hid ho2
  have Hb2 := Lib.hid hb2
  clear ho2 hg2 hb2
  go_upto_region 3 with fail
  go_loopw [14] (fun u14 wr => ∃ i : Nat, i ≤ n ∧ u14 = .int .i64 i ∧ Hid (wr.ownsRow w.heap.size 3 1 (.slice (some ⟨w.heap.size, 0, none⟩) n n) n (minusV n i)) ∧ Hid (Below w.heap.size w wr)) (fun u14 _ => n - (intOf u14).toNat)
  case atStart => exact ⟨0, Nat.zero_le _, rfl, by simpa [minusV] using Ho2, Hb2⟩
  case round =>
    clear Ho2 Hb2
    obtain ⟨i, hi, rfl, HO, HB⟩ := hrel
    by_cases hlt : i < n
    · have f0 := HO.out.frozenAt i
      have c0 : ∃ x, wr.cell? ⟨w.heap.size, i, none⟩ = some x := ⟨_, by rw [HO.out.cellAt i (by omega)]; exact List.getElem?_eq_getElem (by simp [minusV]; omega)⟩
      obtain ⟨x, c0⟩ := c0
      obtain ⟨s1, g1⟩ := HO.out.stored i (.int .i64 (-1))
      rw [minusV_step n i hlt] at s1
      obtain ⟨Z, hZ⟩ : ∃ Z, Z = wr.setCell ⟨w.heap.size, i, none⟩ (.int .i64 (-1)) := ⟨_, rfl⟩
      rw [← hZ] at s1 g1
      have Hs1 := Lib.hid s1
      have Hg1 := Lib.hid (HB.out.grown g1 HB.out.size (fun k e => by cases e; exact Nat.le_refl _))
      have HZ := Lib.hid hZ
      clear s1 g1 hZ
      go_wp2
      rw [← HZ.out]
      go_wp2
      go_roundw
      case rel => exact ⟨i + 1, by omega, by go_num, Hs1, Hg1⟩
      case measure => simp [intOf]; omega
    · obtain rfl : i = n := by omega
      have hO := HO.out
      rw [minusV_end] at hO
      have HO := Lib.hid hO
      clear hO
      go_upto_region 8 with fail
      have HP0 : Hid (placeP (l.drop 0) 0 (List.replicate i (-1)) = res) := Lib.hid (by rw [Hres.out]; rfl)
      go_loopw [23] (fun u23 wr => ∃ (k : Nat) (acc : List Int), k ≤ m ∧ u23 = .int .i64 k ∧ acc.length = i ∧ Hid (wr.ownsRow w.heap.size 3 1 (.slice (some ⟨w.heap.size, 0, none⟩) i i) i (intsV acc)) ∧ Hid (placeP (l.drop k) k acc = res) ∧ Hid (Below w.heap.size w wr)) (fun u23 _ => m - (intOf u23).toNat)
      case atStart => exact ⟨0, _, Nat.zero_le _, rfl, by simp, HO, HP0, HB⟩
      case round =>
        clear HO HP0 HB
        obtain ⟨k, acc, hk, rfl, hacc, HO, HP, HB⟩ := hrel
        by_cases hltk : k < m
        · have hkl : k < l.length := by rw [← Hml.out]; exact hltk
          obtain ⟨b1, o1, rfl, hb1, hc1⟩ := (Hv.out.keep (HB.out.mono hn)).at hkl
          have hp := HP.out
          rw [List.drop_eq_getElem_cons hkl, placeP, hacc] at hp
          obtain ⟨b, hbb⟩ : ∃ b, b = l[k] := ⟨_, rfl⟩
          rw [← hbb] at hc1 hp
          have HP2 := Lib.hid hp
          clear hbb hp hb1 HP
          by_cases h1 : 0 ≤ b
          · by_cases h2 : b < (i : Int)
            · have HP3 : Hid (placeP (l.drop (k + 1)) (k + 1) (acc.set b.toNat (k : Int)) = res) := Lib.hid (by have := HP2.out; rw [if_pos ⟨h1, h2⟩] at this; exact this)
              obtain ⟨t, rfl⟩ : ∃ t : Nat, b = t := ⟨b.toNat, by omega⟩
              rw [Int.toNat_natCast] at HP3
              have hti : t < i := by omega
              have f0 := HO.out.frozenAt t
              have c0 : ∃ x, wr.cell? ⟨w.heap.size, t, none⟩ = some x := ⟨_, by rw [HO.out.cellAt t (by omega)]; exact List.getElem?_eq_getElem (by simp [intsV]; omega)⟩
              obtain ⟨x, c0⟩ := c0
              obtain ⟨s1, g1⟩ := HO.out.stored t (.int .i64 (k : Int))
              have hset : (intsV acc).set t (.int .i64 (k : Int)) = intsV (acc.set t (k : Int)) := by simp [intsV, List.map_set]
              rw [hset] at s1
              obtain ⟨Z, hZ⟩ : ∃ Z, Z = wr.setCell ⟨w.heap.size, t, none⟩ (.int .i64 (k : Int)) := ⟨_, rfl⟩
              rw [← hZ] at s1 g1
              have Hs1 := Lib.hid s1
              have Hg1 := Lib.hid (HB.out.grown g1 HB.out.size (fun k e => by cases e; exact Nat.le_refl _))
              have HZ := Lib.hid hZ
              clear s1 g1 hZ HO HP2 hset
              go_upto_region 11 with fail
              go_wp2
              rw [← HZ.out]
              go_wp2
              go_roundw
              case rel => exact ⟨k + 1, _, by omega, by go_num, by simpa using hacc, Hs1, HP3, Hg1⟩
              case measure => simp [intOf]; omega
            · have HP3 : Hid (placeP (l.drop (k + 1)) (k + 1) acc = res) := Lib.hid (by have := HP2.out; rw [if_neg (fun h => h2 h.2)] at this; exact this)
              clear HP2
              go_wp2
              go_roundw
              case rel => exact ⟨k + 1, acc, by omega, by go_num, hacc, HO, HP3, HB⟩
              case measure => simp [intOf]; omega
          · have HP3 : Hid (placeP (l.drop (k + 1)) (k + 1) acc = res) := Lib.hid (by have := HP2.out; rw [if_neg (fun h => h1 h.1)] at this; exact this)
            clear HP2
            go_wp2
            go_roundw
            case rel => exact ⟨k + 1, acc, by omega, by go_num, hacc, HO, HP3, HB⟩
            case measure => simp [intOf]; omega
        · obtain rfl : k = m := by omega
          have hfin : acc = res := by have := HP.out; rw [Hml.out, List.drop_length, placeP] at this; exact this
          subst hfin
          go_wp2
          go_ret
          exact ⟨_, rfl, HO.out, HB.out⟩
end Go.Proofs.Ytidhelpibofbiaa
