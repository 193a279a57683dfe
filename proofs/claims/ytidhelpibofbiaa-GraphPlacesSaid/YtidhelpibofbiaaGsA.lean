/-
  The law GraphPlaces.
-/
import Derived.Test.YtidhelpibofbiaaGrZ
namespace Go.Proofs.Ytidhelpibofbiaa
open Go.RowKit Go.Shelf
set_option linter.unusedVariables false
set_option linter.unusedSimpArgs false

theorem gr_and31 (n : Int) : ∃ a : Nat, a < 32 ∧ bits .and .i64 n 31 = (a : Int) := by
  have e : (BitVec.ofInt 64 n &&& BitVec.ofInt 64 31).toNat = (n % 32).toNat := by
    have h3 : (BitVec.ofInt 64 31).toNat = 2 ^ 5 - 1 := by decide
    rw [BitVec.toNat_and, h3, Nat.and_two_pow_sub_one_eq_mod, BitVec.toNat_ofInt]
    omega
  refine ⟨(n % 32).toNat, by omega, ?_⟩
  show IntKind.i64.wrap ((BitVec.ofInt 64 n &&& BitVec.ofInt 64 31).toNat : Int) = _
  rw [e, IntWalk.i64_in _ (by omega)]
/-- The last place of b from here on, else w. -/
def lastG (b : Int) : List Int → Nat → Int → Int
  | [], _, w => w
  | x :: l, i, w => lastG b l (i + 1) (if x = b then (i : Int) else w)
theorem placeP_at : ∀ (l : List Int) (i : Nat) (acc : List Int) (b : Nat), b < acc.length → (placeP l i acc).getD b 0 = lastG (b : Int) l i (acc.getD b 0)
  | [], _, _, _, _ => rfl
  | x :: l, i, acc, b, hb => by
    unfold placeP lastG
    by_cases h : 0 ≤ x ∧ x < acc.length
    · rw [if_pos h, placeP_at l (i + 1) _ b (by simpa using hb)]
      congr 1
      by_cases e : x = (b : Int)
      · subst e
        rw [if_pos rfl]
        simp [List.getD, hb]
      · rw [if_neg e]
        have : x.toNat ≠ b := by omega
        simp [List.getD, List.getElem?_set_ne this]
    · rw [if_neg h, placeP_at l (i + 1) acc b hb, if_neg (by omega)]
theorem placesP_at (l : List Int) (n b : Nat) (hb : b < n) : (placesP l n).getD b 0 = lastG (b : Int) l 0 (-1) := by
  unfold placesP
  rw [placeP_at l 0 _ b (by simpa using hb)]
  congr 1
  simp [List.getD, hb]
theorem placesP_len (l : List Int) (n : Nat) : (placesP l n).length = n := by unfold placesP; rw [placeP_len]; simp
theorem head_run {A : Option Addr} {n c : Nat} (m : Nat) (hm : m ≤ n) (hn : n ≤ c) :
    ∃ A1, (∀ W, (Instr.slice 23 (.slice A n c) none (some (.int .i64 (m : Int))) none).run Try.prog W = .ok (.slice A1 m c) W) ∧ (0 < m → A1 = A) := by
  refine ⟨if c = 0 then A else A.map (·.add 0), fun W => ?_, fun h => ?_⟩
  · rw [run_slice_h W 23 A n c (by simp [Program.elem, Try.underlying23]) .i64 (m : Int) (by omega) (by omega)]
    go_simp
  · rw [if_neg (by omega)]
    cases A with
    | none => rfl
    | some a => simp [Addr.add]
theorem GNs.head {n0 : Nat} {w : World} {A A1 : Option Addr} {n c m : Nat} {l : List Int} (h : GNs n0 w (.slice A n c) l) (hm : m ≤ n) (hA : 0 < m → A1 = A) : GNs n0 w (.slice A1 m c) (l.take m) := by
  have hl := h.len
  refine ⟨A1, c, by rw [List.length_take, Nat.min_eq_left (by omega)], fun hp => ?_⟩
  rw [List.length_take] at hp
  obtain ⟨A', c', hv, hr⟩ := h
  obtain ⟨b, o, hb, hbn, hc⟩ := hr (by omega)
  injection hv with e1
  rw [hA (by omega), e1]
  exact ⟨b, o, hb, hbn, fun j x hx => by
    rw [List.getElem?_take] at hx
    split at hx
    · exact hc j x hx
    · cases hx⟩

set_option maxRecDepth 100000 in
set_option maxHeartbeats 16000000 in
theorem graphPlaces_any (n0 : Nat) (A : Option Addr) (L c : Nat) (l : List Int) (many : Int) (w : World) (hv : GNs n0 w (.slice A L c) l) (hn : n0 ≤ w.heap.size) (hL : L ≤ c) (hc : c ≤ maxLen) (hi : InG many) :
    Calls Try.prog 4 #[.slice A L c, .int .i64 many] w fun e w' => e = .returned (.bool true) ∧ Below w.heap.size w w' := by
  obtain ⟨m, hm⟩ : ∃ m, m = min L 40 := ⟨_, rfl⟩
  have hmin : min (L : Int) 40 = (m : Int) := by omega
  obtain ⟨A1, hcut, hA1⟩ := head_run (A := A) (n := L) (c := c) m (by omega) hL
  have hv2 := hv.head (m := m) (by omega) hA1
  obtain ⟨l2, hl2⟩ : ∃ l2, l2 = l.take m := ⟨_, rfl⟩
  rw [← hl2] at hv2
  have hl2m : m = l2.length := hv2.len
  have Hv2 := Lib.hid hv2
  have hLb : L ≤ 9223372036854775807 := by unfold maxLen at hc; omega
  have hm40 : m ≤ 40 := by omega
  have Hi := Lib.hid hi
  have Hm := Lib.hid hl2m
  clear hv hm hv2 hl2 hA1 hi hl2m hc hL
  go_enter Try.func4, Try.ntmps4
  go_upto_region 3 with fail
  obtain ⟨n, hn31, hand⟩ := gr_and31 many
  rw [hand]
  have hP := places_g n0 (.slice A1 m c) l2 (n : Int) w Hv2.out hn (by rw [← Hm.out]; omega) (by omega)
  rw [Int.toNat_natCast] at hP
  have hpl := placesP_len l2 n
  obtain ⟨ps, hps⟩ : ∃ ps, ps = placesP l2 n := ⟨_, rfl⟩
  rw [← hps] at hP hpl
  have Hps := Lib.hid hps
  have Hpl := Lib.hid hpl
  clear hand hps hpl
  go_upto_region 4 with (go_at_call 15; refine hP.mono ?_; rintro e w1 ⟨u1, rfl, ho1, hb1⟩; obtain ⟨A2, c2, rfl⟩ := gr_slice ho1; have Ho1 := Lib.hid ho1; have Hb1 := Lib.hid hb1; clear ho1 hb1 hP)
  have hA := awake8_any w1
  have hn1 : ((n : Int) != (n : Int)) = false := by simp
  go_upto_region 6 with (first
    | (go_at_call 9; refine hA.mono ?_; rintro e w2 ⟨rfl, hb2⟩; have Hb2 := Lib.hid (Hb1.out.trans (hb2.mono Hb1.out.size)); have hP2 := places_g n0 (.slice A1 m c) l2 (-1 - (n : Int)) w2 (Hv2.out.keep (Hb2.out.mono hn)) (Nat.le_trans hn Hb2.out.size) (by rw [← Hm.out]; omega) (by omega); rw [show (-1 - (n : Int)).toNat = 0 by omega] at hP2; have Hb12 := Lib.hid hb2; clear hb2 hA)
    | (go_at_call 15; refine hP2.mono ?_; rintro e w3 ⟨u3, rfl, ho3, hb3⟩; obtain ⟨A3, c3, rfl⟩ := gr_slice ho3; have Hb3 := Lib.hid (Hb2.out.trans (hb3.mono Hb2.out.size)); have Ho3 := Lib.hid (gr_up (gr_up Ho1.out Hb12.out) hb3); clear ho3 hb3 hP2))
  have hv3 := Hv2.out.keep (Hb3.out.mono hn)
  have Hv3 := Lib.hid hv3
  clear hv3 hcut hmin hn1
  go_upto_region 7 with fail
  go_loop [8] (fun u8 => ∃ i : Nat, i ≤ n ∧ u8 = .int .i64 i) (fun u8 => n - (intOf u8).toNat)
  case atStart => exact ⟨0, Nat.zero_le _, rfl⟩
  case round =>
    obtain ⟨i, hi, rfl⟩ := hrel
    by_cases hlt : i < n
    · have hA2 := gr_some Ho3.out (by omega)
      obtain ⟨g2, rfl, -, -, -⟩ := hA2
      have hpi : w3.cell? ⟨g2, i, none⟩ = some (.int .i64 (ps.getD i 0)) := by
        rw [Ho3.out.cellAt i (by omega)]
        have : i < ps.length := by rw [Hpl.out]; exact hlt
        simp [intsV, List.getD, this]
      have hps2 : ps.getD i 0 = lastG (i : Int) l2 0 (-1) := by rw [Hps.out]; exact placesP_at l2 n i hlt
      obtain ⟨res, hres⟩ : ∃ res, res = ps.getD i 0 := ⟨_, rfl⟩
      rw [← hres] at hpi hps2
      have Hps2 := Lib.hid hps2
      clear hres hps2
      go_upto_region 11 with fail
      go_loop [10, 9] (fun u10 u9 => ∃ (j : Nat) (x : Int), j ≤ m ∧ u10 = .int .i64 j ∧ u9 = .int .i64 x ∧ Hid (lastG (i : Int) (l2.drop j) j x = res)) (fun u10 _ => m - (intOf u10).toNat)
      case atStart => exact ⟨0, -1, Nat.zero_le _, rfl, rfl, Lib.hid (by rw [Hps2.out]; rfl)⟩
      case round =>
        obtain ⟨j, x, hj, rfl, rfl, HX⟩ := hrel
        by_cases hltj : j < m
        · have hjl : j < l2.length := by rw [← Hm.out]; exact hltj
          obtain ⟨b, o, rfl, hb, hc⟩ := Hv3.out.at hjl
          have hx := HX.out
          rw [List.drop_eq_getElem_cons hjl, lastG] at hx
          obtain ⟨y, hy⟩ : ∃ y, y = l2[j] := ⟨_, rfl⟩
          rw [← hy] at hc hx
          have HX2 := Lib.hid hx
          clear hy hx HX hb
          cases hq : (y == (i : Int)) with
          | true =>
            have HX3 : Hid (lastG (i : Int) (l2.drop (j + 1)) (j + 1) (j : Int) = res) := Lib.hid (by have := HX2.out; rw [if_pos (by simpa using hq)] at this; exact this)
            clear HX2
            go_wp2
            go_round
            case rel => exact ⟨j + 1, _, by omega, by go_num, rfl, HX3⟩
            case measure => simp [intOf]; omega
          | false =>
            have HX3 : Hid (lastG (i : Int) (l2.drop (j + 1)) (j + 1) x = res) := Lib.hid (by have := HX2.out; rw [if_neg (int_ne hq)] at this; exact this)
            clear HX2
            go_wp2
            go_round
            case rel => exact ⟨j + 1, _, by omega, by go_num, rfl, HX3⟩
            case measure => simp [intOf]; omega
        · obtain rfl : j = m := by omega
          have hx : x = res := by have := HX.out; rw [Hm.out, List.drop_length, lastG] at this; exact this
          subst hx
          have hne : ((x : Int) != x) = false := by simp
          clear HX
          go_wp2
          go_round
          case rel => exact ⟨i + 1, by omega, by go_num⟩
          case measure => simp [intOf]; omega
    · obtain rfl : i = n := by omega
      go_wp2
      go_ret
      exact ⟨rfl, Hb3.out⟩
end Go.Proofs.Ytidhelpibofbiaa
