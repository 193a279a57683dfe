/-
  Programs as bytes: the base there and back; awake.
  Programs as bytes: the reference's numbers and signs.
-/
import Derived.Test.YthhjhdmdfneegaaJc15
import Derived.Test.YthhjhdmdfneegaaJc24
import Derived.Test.YthhjhdmdfneegaaJc28
import Derived.Deep.RegionWith
namespace Go.Proofs.Ythhjhdmdfneegaa
set_option linter.unusedVariables false
set_option linter.unusedSimpArgs false
open Go.RowKit Go.Shelf

def baseN : List (List UInt8 × SF) := [([109, 97, 105, 110], baseM), ([102], baseF)]
theorem CFs.mono {n0 n1 : Nat} {w : World} {v : Value} {l : List (List UInt8 × SF)} (h : CFs n0 w v l) (hn : n0 ≤ n1) : CFs n1 w v l := by
  obtain ⟨A, c, hv, hr⟩ := h
  refine ⟨A, c, hv, fun hp => ?_⟩
  obtain ⟨b, o, hA, hbn, hc⟩ := hr hp
  refine ⟨b, o, hA, by omega, fun j d hd => ?_⟩
  obtain ⟨pv, iv, bv, h0, h1, h2, h3, h4, h5, h6, h7⟩ := hc j d hd
  exact ⟨pv, iv, bv, h0, h1, h2, h3, h4, h5.mono hn, h6.mono hn, h7.mono hn⟩
theorem below_undrew {Y Z : World} (h : Below Y.drew.heap.size Y.drew Z) : Below Y.heap.size Y Z := ⟨h.os, h.tape, h.output, h.size, h.block⟩
theorem base_cfs {w w' : World} {fb bb : Nat} {v0 v1 : FV} (h : BaseAt w w' fb bb v0 v1) : CFs w'.heap.size w' (.slice (some ⟨fb, 0, none⟩) 2 2) baseN := by
  refine ⟨some ⟨fb, 0, none⟩, 2, rfl, fun _ => ⟨fb, 0, rfl, h.hi, fun j d hd => ?_⟩⟩
  have c : ∀ q, w'.cell? ⟨fb, 0 + q, none⟩ = (funRow [(baseM, v0), (baseF, v1)])[q]? := fun q => by rw [Nat.zero_add, Lib.cell_of_heap h.row q, List.getElem?_toArray]
  have hlt := Nat.le_of_lt h.hi
  match j, hd with
  | 0, hd =>
    injection hd with hd
    subst hd
    refine ⟨v0.p, v0.i, v0.b, ?_, (c 1).trans rfl, (c 2).trans rfl, (c 3).trans rfl, (c 4).trans rfl, h.has.1.1.mono hlt, h.has.1.2.1.mono hlt, h.has.1.2.2.mono hlt⟩
    rw [c 0]
    show some (Value.string v0.s) = _
    rw [h.s0]
  | 1, hd =>
    injection hd with hd
    subst hd
    refine ⟨v1.p, v1.i, v1.b, ?_, (c 6).trans rfl, (c 7).trans rfl, (c 8).trans rfl, (c 9).trans rfl, h.has.2.1.1.mono hlt, h.has.2.1.2.1.mono hlt, h.has.2.1.2.2.mono hlt⟩
    rw [show 0 + 1 * 5 = 0 + 5 from rfl, c 5]
    show some (Value.string v1.s) = _
    rw [h.s1]
  | j + 2, hd => cases hd
theorem base_back : decodeQ (cdProg 0 baseN) = some (0, baseN) := by kernel_rfl
theorem base_len : (cdProg 0 baseN).length ≤ 2000 := Nat.le_of_ble_eq_true (by kernel_rfl)
theorem base_funL : ∀ d ∈ baseN, FunL d.2 := by
  intro d hd
  unfold baseN at hd
  rcases List.mem_cons.mp hd with rfl | hd
  · exact ⟨by decide, by decide, by decide⟩
  · rcases List.mem_cons.mp hd with rfl | hd
    · exact ⟨by decide, by decide, by decide⟩
    · cases hd
theorem base_fits : ∀ d ∈ baseN, (d.2.params.length ≤ 1048576 ∧ d.2.ins.length ≤ 1048576 ∧ d.2.blocks.length ≤ 1048576) ∧ (∀ x ∈ d.2.ins, InG x.n ∧ x.args.length ≤ 1048576) ∧ (∀ k ∈ d.2.blocks, k.list.length ≤ 1048576 ∧ k.preds.length ≤ 1048576 ∧ k.to_.length ≤ 1048576) := by
  intro d hd
  unfold baseN at hd
  unfold InG
  rcases List.mem_cons.mp hd with rfl | hd
  · exact ⟨by decide, by decide, by decide⟩
  · rcases List.mem_cons.mp hd with rfl | hd
    · exact ⟨by decide, by decide, by decide⟩
    · cases hd
theorem num_300 (w : World) : Calls Try.prog 13 #[.int .u64 300] w fun e w' => e = .returned (.string ⟨#[172, 2]⟩) ∧ Below w.heap.size w w' := by
  have h := num_c 300 (by decide) w
  rw [show cdN 300 = [172, 2] from by kernel_rfl] at h
  exact h
set_option maxRecDepth 100000 in
set_option maxHeartbeats 8000000 in
theorem awake12_any (w : World) : Calls Try.prog 6 #[] w fun e w' => e = .returned (.bool true) ∧ Below w.heap.size w w' := by
  have hB0 := base_any w
  obtain ⟨bl, hbl⟩ : ∃ bl, bl = cdProg 0 baseN := ⟨_, rfl⟩
  have hbk : decodeQ bl = some (0, baseN) := by rw [hbl]; exact base_back
  have hlen : bl.length ≤ 1099511627776 := by rw [hbl]; exact Nat.le_trans base_len (by decide)
  have hE : ∀ (X : World) (fb : Nat), CFs X.heap.size X (.slice (some ⟨fb, 0, none⟩) 2 2) baseN → Calls Try.prog 7 #[.agg #[.slice (some ⟨fb, 0, none⟩) 2 2, .int .i64 0]] X fun e w' => e = .returned (.string ⟨bl.toArray⟩) ∧ Below X.heap.size X w' := fun X fb h => by
    rw [hbl]
    exact encode_c 0 baseN _ 2 2 X h (by decide) base_fits (Nat.le_trans base_len (by decide))
  have hD := fun X => decode_c bl hlen X
  rw [hbk] at hD
  clear hbk hlen hbl
  go_enter Try.func6, Try.ntmps6
  go_upto_region 2 with (first
    | (go_at_call 11; refine hB0.mono ?_; rintro e w1 ⟨fb, bb, v0, v1, rfl, hB⟩; have hE1 := hE w1 fb (base_cfs hB); have B1 := Lib.hid hB.below; clear hB hB0 hE)
    | (go_at_call 7; refine hE1.mono ?_; rintro e w2 ⟨rfl, hb⟩; have B2 := Lib.hid (B1.out.trans (hb.mono B1.out.size)); clear hb hE1)
    | (go_at_call 8; refine (hD _).mono ?_; rintro e w3 ⟨hd, hb⟩; obtain ⟨v, rfl, hf⟩ := hd; obtain ⟨A3, c3, hv⟩ := hf.slice; rw [show baseN.length = 2 from rfl] at hv; subst hv; have F3 := Lib.hid hf.cfs; have B3 := Lib.hid (B2.out.trans (hb.mono B2.out.size)); clear hb hf hD))
  generalize hY : World.alloc _ _ = Y
  have h0Y : Y.heap[w3.heap.size]? = some (.cells #[.slice A3 2 c3, .int .i64 0] 25 (0, 0)) := by rw [← hY]; exact heap_alloc_new w3 _
  have hbY : Below w3.heap.size w3 Y := by rw [← hY]; exact (Below.refl _ _).alloc (Nat.le_refl _) _
  have hzY : w3.heap.size < Y.heap.size := gr_in h0Y
  have HY : Hid (∀ X, Below Y.heap.size Y X → X.cell? ⟨w3.heap.size, 0, none⟩ = some (.slice A3 2 c3) ∧ X.cell? ⟨w3.heap.size, 1, none⟩ = some (.int .i64 0) ∧ CFs X.heap.size X (.slice A3 2 c3) baseN) := Lib.hid fun X hX => by
    have h0 := (hX.block _ hzY).trans h0Y
    exact ⟨Lib.cell_of_heap h0 0, Lib.cell_of_heap h0 1, ((F3.out.keep hbY).keep (hX.mono (Nat.le_of_lt hzY))).mono (Nat.le_trans (Nat.le_of_lt hzY) hX.size)⟩
  have HBY : Hid (Below w.heap.size w Y) := Lib.hid (B3.out.trans (hbY.mono B3.out.size))
  obtain ⟨y0, y1, -⟩ := HY.out Y (Below.refl _ _)
  have hB := fun X => base_any X
  have hN := fun X => num_300 X
  clear hY h0Y hbY hzY
  obtain ⟨pb, hpb⟩ : ∃ pb, pb = w3.heap.size := ⟨_, rfl⟩
  rw [← hpb] at HY y0 y1 ⊢
  clear hpb
  go_region_with (first
    | (go_at_call 11; refine (hB _).mono ?_; rintro e w5 ⟨fb, bb, v0, v1, rfl, hBA⟩; have b5 : Below Y.heap.size Y w5 := below_undrew hBA.below; obtain ⟨z0, z1, zf⟩ := HY.out w5 b5; have hS : Calls Try.prog 10 #[.agg #[.slice A3 2 c3, .int .i64 0], .agg #[.slice (some ⟨fb, 0, none⟩) 2 2, .int .i64 0]] w5 fun e w' => e = .returned (.bool true) ∧ Below w5.heap.size w5 w' := sameProg_t w5.heap.size 0 baseN A3 (some ⟨fb, 0, none⟩) c3 2 w5 zf (base_cfs hBA) ⟨by decide, base_funL⟩ (Nat.le_refl _); have B5 := Lib.hid b5; clear b5 hBA zf hB)
    | (go_at_call 10; refine hS.mono ?_; rintro e w6 ⟨rfl, hb⟩; have B6 := Lib.hid (B5.out.trans (hb.mono B5.out.size)); clear hb hS)
    | (go_at_call 13; refine (hN _).mono ?_; rintro e w7 ⟨rfl, hb⟩; have B7 := Lib.hid (B6.out.trans (hb.mono B6.out.size)); clear hb hN))
  all_goals
    go_wp2
    go_ret
    exact ⟨rfl, HBY.out.trans (B7.out.mono HBY.out.size)⟩
end Go.Proofs.Ythhjhdmdfneegaa
namespace Go.Proofs.Ythhjhdmdfneegaa
set_option linter.unusedVariables false
set_option linter.unusedSimpArgs false
open Go.RowKit Go.Shelf

set_option maxRecDepth 100000 in
set_option maxHeartbeats 4000000 in
theorem rsign_c (n : Int) (hn : InG n) (w : World) : Calls Try.prog 46 #[.int .i64 n] w fun e w' => e = .returned (.int .u64 (signQ n : Int)) ∧ w' = w := by
  unfold InG at hn
  by_cases h : n < 0
  · have e : (signQ n : Int) = 2 * -(n + 1) + 1 := by unfold signQ; rw [if_pos h]; omega
    have d : decide (n ≥ 0) = false := decide_eq_false (by omega)
    rw [e]
    clear e
    go_enter Try.func46, Try.ntmps46
    go_wp2
    go_ret
    exact ⟨rfl, rfl⟩
  · have e : (signQ n : Int) = 2 * n := by unfold signQ; rw [if_neg h]; omega
    have d : decide (n ≥ 0) = true := decide_eq_true (by omega)
    rw [e]
    clear e
    go_enter Try.func46, Try.ntmps46
    go_wp2
    go_ret
    exact ⟨rfl, rfl⟩
/-- One byte that is told as a text. -/
theorem str_one {w : World} {g : Nat} (b : UInt8) (n : Int) (hn : n = (b.toNat : Int)) (h : w.heap[g]? = some (.cells #[.int .u8 n] 5 (0, 0))) : (convert 56 9 (.slice (some ⟨g, 0, none⟩) 1 1)).run Try.prog w = .ok (.string ⟨#[b]⟩) w :=
  str_back (base := 0) (v := .slice (some ⟨g, 0, none⟩) 1 1) (l := [b]) ⟨rfl, .inr ⟨g, 1, _, rfl, Nat.zero_le _, h, Nat.le_refl _, by decide, rfl, by rw [hn]; rfl⟩⟩
theorem ba_two (l1 l2 : List UInt8) : (⟨l1.toArray⟩ : ByteArray) ++ (⟨l2.toArray⟩ : ByteArray) = ⟨(l1 ++ l2).toArray⟩ := by
  apply ByteArray.ext
  simp
set_option maxRecDepth 100000 in
set_option maxHeartbeats 4000000 in
theorem rnum_f : ∀ (f k : Nat) (hk : k < 18446744073709551616) (hf : k < 128 ^ (f + 1)) (hf9 : f ≤ 9) (w : World), Calls Try.prog 22 #[.int .u64 (k : Int)] w fun e w' => e = .returned (.string ⟨(cdF f k).toArray⟩) ∧ Below w.heap.size w w'
  | f, k, hk, hf, hf9, w => by
    by_cases hlt : k < 128
    · have hcs : cdF f k = [UInt8.ofNat k] := cdF_small hlt
      rw [hcs]
      have d : decide ((k : Int) < 128) = true := decide_eq_true (by omega)
      have hw8 : IntKind.u8.wrap (k : Int) = (k : Int) := by rw [IntKind.wrap_u8]; omega
      have hu : (k : Int) = ((UInt8.ofNat k).toNat : Int) := by
        have : (UInt8.ofNat k).toNat = k := by simp [UInt8.toNat_ofNat']; omega
        rw [this]
      obtain ⟨X, hX, hbX, hzX, h0X⟩ := gr_one w #[.int .u8 (k : Int)] 5
      have hc := str_one (UInt8.ofNat k) (k : Int) hu h0X
      have HbX := Lib.hid hbX
      rw [hX] at hc
      have HX := Lib.hid hX
      clear hX hbX hzX h0X hu hcs hf
      go_enter Try.func22, Try.ntmps22
      go_wp2_with fail
      go_ret
      exact ⟨rfl, by rw [← HX.out]; exact HbX.out⟩
    · obtain ⟨f', hf', hcd, hlt'⟩ := cdF_big (by omega) hf
      subst hf'
      rw [hcd]
      have hN := rnum_f f' (k / 128) (by omega) hlt' (by omega)
      obtain ⟨m, hm⟩ : ∃ m, m = cdF f' (k / 128) := ⟨_, rfl⟩
      have hml : m.length ≤ 10 := by rw [hm]; have := cdF_len f' (k / 128); omega
      rw [← hm] at hN ⊢
      have d : decide ((k : Int) < 128) = false := decide_eq_false (by omega)
      obtain ⟨b, hb⟩ : ∃ b, b = UInt8.ofNat (128 + k % 128) := ⟨_, rfl⟩
      obtain ⟨dg, hdg⟩ : ∃ dg, dg = k % 128 := ⟨_, rfl⟩
      obtain ⟨q, hq⟩ : ∃ q, q = k / 128 := ⟨_, rfl⟩
      obtain ⟨bn, hbn⟩ : ∃ bn : Int, bn = 128 + (dg : Int) := ⟨_, rfl⟩
      have hu : bn = (b.toNat : Int) := by
        have : (UInt8.ofNat (128 + k % 128)).toNat = 128 + k % 128 := by simp [UInt8.toNat_ofNat']; omega
        rw [hb, this]; omega
      rw [← hb]
      rw [← hq] at hN hm
      have htm : (k : Int).tmod 128 = (dg : Int) := by rw [Int.tmod_eq_emod_of_nonneg (by omega), hdg]; omega
      have htm2 : (k : Int) % 128 = (dg : Int) := by omega
      have hw1 : IntKind.u64.wrap (128 + (dg : Int)) = bn := by rw [IntKind.wrap_u64]; omega
      have hw8 : IntKind.u8.wrap bn = bn := by rw [IntKind.wrap_u8]; omega
      have hqd : (k : Int) / 128 = (q : Int) := by omega
      have hwq : IntKind.u64.wrap (q : Int) = (q : Int) := by rw [IntKind.wrap_u64]; omega
      have HU := Lib.hid hu
      have HQ := Lib.hid hN
      have hc1 : (convert 56 9 (.slice (some ⟨w.heap.size, 0, none⟩) 1 1)).run Try.prog (w.alloc (.cells #[.int .u8 bn] 5)).drew = .ok (.string ⟨#[b]⟩) (w.alloc (.cells #[.int .u8 bn] 5)).drew := str_one b bn hu (heap_alloc_new w _)
      obtain ⟨X, hX⟩ : ∃ X, X = (w.alloc (.cells #[.int .u8 bn] 5)).drew := ⟨_, rfl⟩
      have hXh : X.heap[w.heap.size]? = some (.cells #[.int .u8 bn] 5 (0, 0)) := by rw [hX]; exact heap_alloc_new w _
      have hXb : Below w.heap.size w X := by
        rw [hX]
        exact below_dr ((Below.refl w.heap.size w).alloc (Nat.le_refl _) (.cells #[.int .u8 bn] 5)) 1
      have hXs : w.heap.size < X.heap.size := gr_in hXh
      have HX1 : Hid (∀ w3, Below X.heap.size X w3 → Below w.heap.size w w3 ∧ (convert 56 9 (.slice (some ⟨w.heap.size, 0, none⟩) 1 1)).run Try.prog w3 = .ok (.string ⟨#[b]⟩) w3) := Lib.hid fun w3 h3 => ⟨hXb.trans (h3.mono (Nat.le_of_lt hXs)), str_one b bn hu ((h3.block _ hXs).trans hXh)⟩
      have HX2 : Hid (∀ w3, Below w.drew.heap.size w.drew w3 → Below w.heap.size w w3 ∧ (convert 56 9 (.slice (some ⟨w3.heap.size, 0, none⟩) 1 1)).run Try.prog (w3.alloc (.cells #[.int .u8 bn] 5)) = .ok (.string ⟨#[b]⟩) (w3.alloc (.cells #[.int .u8 bn] 5))) := Lib.hid fun w3 h3 => ⟨⟨h3.os, h3.tape, h3.output, h3.size, h3.block⟩, str_one b bn hu (heap_alloc_new w3 _)⟩
      have hN1 := hN X
      have hN2 := hN w.drew
      have HXe := Lib.hid hX
      rw [← hX] at hc1
      rw [hX] at hc1 hN1
      clear hm hb hcd hlt' hf hu hdg hq hbn hlt hX hXh hXb hXs hN
      go_enter Try.func22, Try.ntmps22
      go_upto_region 3 with fail
      go_region_with (go_at_call 22; first
        | (rw [← HXe.out] at hN1; rw [← HXe.out]; refine hN1.mono ?_; rintro e w3 ⟨rfl, h3⟩; obtain ⟨hb3, hc3⟩ := HX1.out w3 h3; have HB3 := Lib.hid hb3; clear h3 hb3 hc1 hN1 hN2)
        | (refine hN2.mono ?_; rintro e w3 ⟨rfl, h3⟩; obtain ⟨hb3, hc3⟩ := HX2.out w3 h3; have HB3 := Lib.hid hb3; clear h3 hb3 hc1 hN1 hN2))
      all_goals
        go_wp2
        go_ret
        refine ⟨by rw [show (⟨#[b]⟩ : ByteArray) = ⟨([b] : List UInt8).toArray⟩ from rfl, ba_two]; rfl, ?_⟩
        first
          | exact HB3.out
          | exact HB3.out.alloc HB3.out.size _
theorem rnum_c (k : Nat) (hk : k < 18446744073709551616) (w : World) : Calls Try.prog 22 #[.int .u64 (k : Int)] w fun e w' => e = .returned (.string ⟨(cdN k).toArray⟩) ∧ Below w.heap.size w w' :=
  rnum_f 9 k hk (by simp; omega) (Nat.le_refl _) w
end Go.Proofs.Ythhjhdmdfneegaa
