/-
  Programs as bytes: the reader's number.
-/
import Derived.Test.YthhjhdmdfneegaaJc2
import Derived.Lib.MinMax
import Derived.Laws.Bits64b
namespace Go.Proofs.Ythhjhdmdfneegaa
set_option linter.unusedVariables false
set_option linter.unusedSimpArgs false
open Go.RowKit

/-- A number that bytes begin with, and how many of them it has. -/
def numQ (l : List UInt8) : Nat × Nat := match cdRd 10 0 l with | none => (0, 0) | some (n, r) => (n, l.length - r.length)
theorem cdRd_step (i : Nat) (hi : i < 10) (c : UInt8) (r : List UInt8) : cdRd (10 - i) i (c :: r) = if i = 9 ∧ 1 < c.toNat then none else if c.toNat < 128 then (if c.toNat = 0 ∧ 0 < i then none else some (c.toNat, r)) else (cdRd (10 - (i + 1)) (i + 1) r).map fun p => (c.toNat % 128 + 128 * p.1, p.2) := by
  rw [show 10 - i = (9 - i) + 1 by omega, show 10 - (i + 1) = 9 - i by omega, cdRd]
  have e : (9 - i = 0 ∧ 1 < c.toNat) ↔ (i = 9 ∧ 1 < c.toNat) := by omega
  simp only [e]
theorem pow7 (i : Nat) : 2 ^ (7 * i) = 128 ^ i := by rw [Nat.pow_mul]
theorem pow7i (i : Nat) : ((2 : Int) ^ (7 * i)) = ((128 ^ i : Nat) : Int) := by rw [← pow7, Int.natCast_pow]; rfl
theorem numQ_none {l : List UInt8} (h : cdRd 10 0 l = none) : numQ l = (0, 0) := by unfold numQ; rw [h]
theorem numQ_some {l : List UInt8} {n i : Nat} (hi : i < l.length) (h : cdRd 10 0 l = some (n, l.drop (i + 1))) : numQ l = (n, i + 1) := by
  unfold numQ
  rw [h]
  simp only [List.length_drop]
  congr 1
  omega
theorem or_add (n d i : Nat) (h : n < 128 ^ i) : n ||| d * 128 ^ i = n + d * 128 ^ i := by
  rw [← pow7] at *
  rw [Nat.or_comm, Nat.mul_comm, ← Nat.two_pow_add_eq_or_of_lt h, Nat.add_comm]
set_option maxRecDepth 100000 in
set_option maxHeartbeats 8000000 in
theorem number_r (l : List UInt8) (hl : l.length ≤ 1099511627776) (w : World) : Calls Try.prog 61 #[.string ⟨l.toArray⟩] w fun e w' => e = .returned (.tuple #[.int .u64 ((numQ l).1 : Int), .int .i64 ((numQ l).2 : Int)]) ∧ w' = w := by
  obtain ⟨mn, hmn⟩ : ∃ mn : Nat, mn = min l.length 10 := ⟨_, rfl⟩
  have hsz : (⟨l.toArray⟩ : ByteArray).size = l.length := by simp [ByteArray.size]
  have hmin : min (l.length : Int) 10 = (mn : Int) := by rw [hmn]; omega
  have Hmn := Lib.hid hmn
  have Hsz := Lib.hid hsz
  clear hmn hsz
  go_enter Try.func61, Try.ntmps61
  go_wp2_with fail
  go_loopw [11, 4] (fun u11 u4 wr => ∃ (i n : Nat), i ≤ mn ∧ u11 = .int .i64 (i : Int) ∧ u4 = .int .u64 (n : Int) ∧ wr = w ∧ Hid (n < 128 ^ i ∧ cdRd 10 0 l = (cdRd (10 - i) i (l.drop i)).map fun p => (n + 128 ^ i * p.1, p.2))) (fun u11 _ _ => mn - (intOf u11).toNat)
  case atStart => exact ⟨0, 0, Nat.zero_le _, rfl, rfl, rfl, Lib.hid ⟨by simp, by simp⟩⟩
  case round =>
    obtain ⟨i, n, hi, rfl, rfl, rfl, HI⟩ := hrel
    by_cases hlt : i < mn
    · have hil : i < l.length := by have := Hmn.out; omega
      have hi10 : i < 10 := by have := Hmn.out; omega
      obtain ⟨c, hc⟩ : ∃ c, c = l[i] := ⟨_, rfl⟩
      have hgt : ∀ h : i < (⟨l.toArray⟩ : ByteArray).size, (⟨l.toArray⟩ : ByteArray)[i]'h = c := fun h => by rw [hc]; rfl
      obtain ⟨cn, hcn⟩ : ∃ cn, cn = c.toNat := ⟨_, rfl⟩
      have hc256 : cn < 256 := by rw [hcn]; exact c.toNat_lt
      have hcn' : c.toNat = cn := hcn.symm
      have hwc : IntKind.u64.wrap (cn : Int) = (cn : Int) := by rw [IntKind.wrap_u64]; omega
      obtain ⟨dg, hdg⟩ : ∃ dg, dg = cn % 128 := ⟨_, rfl⟩
      have htm : (cn : Int).tmod 128 = (dg : Int) := by rw [Int.tmod_eq_emod_of_nonneg (by omega), hdg]; omega
      have htm2 : (cn : Int) % 128 = (dg : Int) := by rw [hdg]; omega
      have hdr : l.drop i = c :: l.drop (i + 1) := by rw [List.drop_eq_getElem_cons hil, hc]
      have hst := HI.out.2
      rw [hdr, cdRd_step i hi10 c, hcn'] at hst
      have hnp := HI.out.1
      by_cases hbad : i = 9 ∧ 1 < dg
      · obtain ⟨h9, hd1⟩ := hbad
        have hnone : cdRd 10 0 l = none := by rw [hst, if_pos ⟨h9, by omega⟩]; rfl
        have hq := numQ_none hnone
        obtain ⟨s2, hs2⟩ : ∃ s2 : Nat, s2 = dg % 2 * 9223372036854775808 := ⟨_, rfl⟩
        obtain ⟨d2, hd2⟩ : ∃ d2 : Nat, d2 = dg % 2 := ⟨_, rfl⟩
        have hsw : IntKind.u64.wrap ((dg : Int) * 2 ^ (7 * i)) = (s2 : Int) := by rw [h9, IntKind.wrap_u64, hs2]; simp; omega
        have hsq : (s2 : Int) / 2 ^ (7 * i) = (d2 : Int) := by rw [h9, hs2, hd2]; simp
        have hsb : ((d2 : Int) != (dg : Int)) = true := by simp; omega
        have HQ := Lib.hid hq
        clear hc hdg hcn hdr hst hnp hnone hq HI h9 hd1 hs2 hd2
        go_wp2_with fail
        try simp only [Exit.inBlock, Exit.then]
        refine bodyPost_ret (results_tmp2 rfl _ _ _) rfl ?_
        exact ⟨by rw [HQ.out]; rfl, rfl⟩
      · obtain ⟨sh, hshd⟩ : ∃ sh, sh = dg * 128 ^ i := ⟨_, rfl⟩
        have hpow : ((2 : Int) ^ (7 * i)) = ((128 ^ i : Nat) : Int) := pow7i i
        have hpp : 0 < 128 ^ i := Nat.pow_pos (by decide)
        have hb64 : sh < 18446744073709551616 := by
          rw [hshd]
          rcases Nat.lt_or_ge i 9 with h8 | h9
          · have h1 : 128 ^ i ≤ 128 ^ 8 := Nat.pow_le_pow_right (by decide) (by omega)
            have h2 : dg * 128 ^ i ≤ 127 * 128 ^ 8 := Nat.mul_le_mul (by omega) h1
            exact Nat.lt_of_le_of_lt h2 (by decide)
          · have h9' : i = 9 := by omega
            have hd1 : dg ≤ 1 := by
              rcases Nat.lt_or_ge 1 dg with h | h
              · exact absurd ⟨h9', h⟩ hbad
              · exact h
            rw [h9']
            have h2 : dg * 128 ^ 9 ≤ 1 * 128 ^ 9 := Nat.mul_le_mul hd1 (Nat.le_refl _)
            exact Nat.lt_of_le_of_lt h2 (by decide)
        have hshi : (dg : Int) * 2 ^ (7 * i) = (sh : Int) := by rw [hpow, hshd, Int.natCast_mul]
        have hsw : IntKind.u64.wrap (sh : Int) = (sh : Int) := by rw [IntKind.wrap_u64]; omega
        have hsq : (sh : Int) / 2 ^ (7 * i) = (dg : Int) := by
          rw [hpow, hshd]
          have : dg * 128 ^ i / 128 ^ i = dg := Nat.mul_div_cancel _ hpp
          rw [← Int.natCast_ediv, this]
        have hsb : ((dg : Int) != (dg : Int)) = false := by simp
        have hns : n + sh < 128 ^ (i + 1) := by
          rw [hshd, Nat.pow_succ]
          have h1 : dg * 128 ^ i ≤ 127 * 128 ^ i := Nat.mul_le_mul (by omega) (Nat.le_refl _)
          omega
        have hn64 : n < 18446744073709551616 := by
          have h1 : 128 ^ i ≤ 128 ^ 9 := Nat.pow_le_pow_right (by decide) (by omega)
          exact Nat.lt_trans (Nat.lt_of_lt_of_le hnp h1) (by decide)
        have hor : bits .or .u64 (n : Int) (sh : Int) = ((n + sh : Nat) : Int) := by
          rw [bits_or_u64_nat n sh hn64 hb64, hshd, or_add n dg i hnp]
        obtain ⟨ns, hnsd⟩ : ∃ ns, ns = n + sh := ⟨_, rfl⟩
        rw [← hnsd] at hor hns
        have hmul : 128 ^ i * dg = sh := by rw [hshd, Nat.mul_comm]
        by_cases hbig : 128 ≤ cn
        · have hnext : cdRd 10 0 l = (cdRd (10 - (i + 1)) (i + 1) (l.drop (i + 1))).map fun p => (ns + 128 ^ (i + 1) * p.1, p.2) := by
            rw [hst]
            by_cases h9 : i = 9
            · rw [if_pos ⟨h9, by omega⟩, h9]
              rfl
            · rw [if_neg (fun h => h9 h.1), if_neg (by omega), Option.map_map]
              congr 1
              funext p
              simp only [Function.comp]
              congr 1
              rw [Nat.mul_add, ← hdg, hmul, hnsd, Nat.pow_succ, Nat.mul_assoc, Nat.add_assoc]
          have HN : Hid (ns < 128 ^ (i + 1) ∧ cdRd 10 0 l = (cdRd (10 - (i + 1)) (i + 1) (l.drop (i + 1))).map fun p => (ns + 128 ^ (i + 1) * p.1, p.2)) := Lib.hid ⟨hns, hnext⟩
          clear hpow hpp hdg hc hcn hdr hbad hst hnp hshd hns hnsd hmul hnext HI
          go_wp2_with fail
          go_roundw
          case rel => refine ⟨i + 1, ns, by omega, by go_num, ?_, ?_, HN⟩ <;> first | rfl | trivial
          case measure => simp [intOf]; omega
        · have hcd : cn = dg := by omega
          by_cases hz : cn = 0 ∧ 0 < i
          · have hnone : cdRd 10 0 l = none := by
              rw [hst, if_neg (fun h => hbad ⟨h.1, by omega⟩), if_pos (by omega), if_pos hz]; rfl
            have HQ := Lib.hid (numQ_none hnone)
            obtain ⟨hz1, hz2⟩ := hz
            have dz : ((cn : Int) == 0) = true := by rw [hz1]; rfl
            have di : decide ((i : Int) > 0) = true := decide_eq_true (by omega)
            clear hpow hpp hdg hc hcn hdr hbad hst hnp hshd hns hnsd hmul HI hnone hcd hz1
            go_wp2_with fail
            try simp only [Exit.inBlock, Exit.then]
            refine bodyPost_ret (results_tmp2 rfl _ _ _) rfl ?_
            exact ⟨by rw [HQ.out]; rfl, rfl⟩
          · have hsome : cdRd 10 0 l = some (ns, l.drop (i + 1)) := by
              rw [hst, if_neg (fun h => hbad ⟨h.1, by omega⟩), if_pos (by omega), if_neg hz, hcd, Option.map_some, hmul, hnsd]
            have HQ := Lib.hid (numQ_some hil hsome)
            by_cases hz1 : cn = 0
            · have hi0 : i = 0 := by omega
              have dz : ((cn : Int) == 0) = true := by rw [hz1]; rfl
              have di : decide ((i : Int) > 0) = false := decide_eq_false (by omega)
              have di2 : decide (0 < i) = false := decide_eq_false (by omega)
              have di3 : ¬ 0 < i := by omega
              clear hpow hpp hdg hc hcn hdr hbad hst hnp hshd hns hnsd hmul HI hsome hcd hz1 hz hi0
              go_wp2_with fail
              try simp only [Exit.inBlock, Exit.then]
              refine bodyPost_ret (results_tmp2 rfl _ _ _) rfl ?_
              exact ⟨by rw [HQ.out]; rfl, rfl⟩
            · have dz : ((cn : Int) == 0) = false := by simp; omega
              clear hpow hpp hdg hc hcn hdr hbad hst hnp hshd hns hnsd hmul HI hsome hcd hz1 hz
              go_wp2_with fail
              try simp only [Exit.inBlock, Exit.then]
              refine bodyPost_ret (results_tmp2 rfl _ _ _) rfl ?_
              exact ⟨by rw [HQ.out]; rfl, rfl⟩
    · have hie : i = mn := by omega
      have hnone : cdRd 10 0 l = none := by
        rw [HI.out.2]
        by_cases h10 : i = 10
        · rw [h10]; rfl
        · have : l.length ≤ i := by have := Hmn.out; omega
          rw [List.drop_eq_nil_of_le this, show 10 - i = (9 - i) + 1 by have := Hmn.out; omega]
          rfl
      have HQ := Lib.hid (numQ_none hnone)
      clear hnone HI
      go_wp2_with fail
      try simp only [Exit.inBlock, Exit.then]
      refine bodyPost_ret (results_tmp2 rfl _ _ _) rfl ?_
      exact ⟨by rw [HQ.out]; rfl, rfl⟩
end Go.Proofs.Ythhjhdmdfneegaa
