/-
  slices.Sort of nothing; Frontier where nothing is in it.
  Blocks on all ways: Frontier of a tree.
-/
import Derived.Test.YtoplllebaagnnaaJd41
import Derived.Test.YtoplllebaagnnaaJd44
namespace Go.Proofs.Ytoplllebaagnnaa
set_option linter.unusedVariables false
set_option linter.unusedSimpArgs false
open Go.RowKit Go.Shelf

theorem len64_zero (w : World) : Calls Try.prog 82 #[.int .u64 0] w fun e w' => e = .returned (.int .i64 0) ∧ w' = w := by
  have h8 : wrap64 (wrap64 (Lib.len8 0)) = 0 := by kernel_rfl
  go_enter Try.func82, Try.ntmps82
  go_wp2
  go_ret
  exact ⟨congrArg (fun x => Ending.returned (Value.int .i64 x)) h8, rfl⟩
theorem len_zero (w : World) : Calls Try.prog 57 #[.int .u64 0] w fun e w' => e = .returned (.int .i64 0) ∧ w' = w := by
  have hL := len64_zero w
  go_enter Try.func57, Try.ntmps57
  go_wp2_with (go_at_call 82; refine hL.mono ?_; rintro e w1 ⟨rfl, hw1⟩; rw [hw1]; clear hw1 w1 hL)
  go_ret
  exact ⟨rfl, rfl⟩
set_option maxRecDepth 100000 in
theorem insert_zero (w : World) : Calls Try.prog 72 #[.slice none 0 0, .int .i64 0, .int .i64 0] w fun e w' => (∃ r, e = .returned r) ∧ w' = w := by
  go_enter Try.func72, Try.ntmps72
  go_wp2_with fail
  go_loopw [6] (fun u6 wr => u6 = .int .i64 1 ∧ wr = w) (fun _ _ => 0)
  case atStart => exact ⟨rfl, rfl⟩
  case round =>
    obtain ⟨rfl, rfl⟩ := hrel
    go_wp2
    go_end0
    exact ⟨⟨_, rfl⟩, rfl⟩
set_option maxRecDepth 100000 in
theorem pdq_zero (w : World) : Calls Try.prog 56 #[.slice none 0 0, .int .i64 0, .int .i64 0, .int .i64 0] w fun e w' => (∃ r, e = .returned r) ∧ w' = w := by
  have hL := insert_zero w
  go_enter Try.func56, Try.ntmps56
  go_upto_block 0 with fail
  go_wp2_with fail
  go_loopw [1, 2] (fun u1 u2 wr => u1 = .int .i64 0 ∧ u2 = .int .i64 0 ∧ wr = w) (fun _ _ _ => 0)
  case atStart => exact ⟨rfl, rfl, rfl⟩
  case round =>
    obtain ⟨rfl, rfl, rfl⟩ := hrel
    go_wp2_with (go_at_call 72; refine hL.mono ?_; rintro e w1 ⟨⟨r1, rfl⟩, hw1⟩; rw [hw1]; clear hw1 w1 hL)
    (try simp only [Exit.inBlock, Exit.then])
    refine bodyPost_ret (results_none rfl _ _ _) rfl ?_
    exact ⟨⟨_, rfl⟩, rfl⟩
theorem sort_zero (w : World) : Calls Try.prog 33 #[.slice none 0 0] w fun e w' => (∃ r, e = .returned r) ∧ w' = w := by
  have hP := pdq_zero w
  have hL := len_zero w
  go_enter Try.func33, Try.ntmps33
  go_wp2_with (first
    | (go_at_call 57; refine hL.mono ?_; rintro e w1 ⟨rfl, hw1⟩; rw [hw1]; clear hw1 w1 hL)
    | (go_at_call 56; refine hP.mono ?_; rintro e w1 ⟨⟨r1, rfl⟩, hw1⟩; rw [hw1]; clear hw1 w1 hP))
  go_end0
  exact ⟨⟨_, rfl⟩, rfl⟩
def FrH (T : TrP) (b e0 : Int) (w0 : World) (xs : List Nat) (k : Nat) (u7 u5 : Value) (w : World) : Prop := ∃ (at_ : Int) (acc : List Nat), u7 = .int .i64 at_ ∧ frP T b e0 k at_ acc = some xs ∧ w.ownsRow w0.heap.size 3 1 u5 acc.length (natsV acc) ∧ Below w0.heap.size w0 w ∧ acc.length ≤ 1048576 ∧ (acc = [] → u5 = .slice none 0 0)

set_option maxRecDepth 100000 in
set_option maxHeartbeats 16000000 in
theorem frontier_h (tp n : Nat) (T : TrP) (b : Nat) (p0 p1 a0 e0 : Int) (k0 : Nat) (xs : List Nat) (w : World) (h : TreeAt w tp n T) (hr : reachedT T (b : Int) = true) (h1 : rdI T.past (b : Int) = some p1) (h2 : rdI T.start p1 = some e0) (h3 : rdI T.place (b : Int) = some p0) (h4 : rdI T.start p0 = some a0) (he : e0 ≤ 1048576) (h5 : frP T (b : Int) e0 k0 a0 [] = some xs) :
    Calls Try.prog 21 #[.pointer (some ⟨tp, 0, none⟩), .int .i64 (b : Int)] w fun e w' => ∃ v, e = .returned v ∧ GNs w'.heap.size w' v (Lib.compact ((sortN xs).map fun (x : Nat) => (x : Int))) ∧ Below w.heap.size w w' := by
  have hR := reached_g tp n T (b : Int) w h
  rw [hr] at hR
  have HTA := Lib.hid h
  obtain ⟨vo, vu, vd, vp, vq, vt, vs, vst, gk, vk, t1, t2, t3, t4, t5, t6, t7, t8, t9, l1, l2, l3, l4, l5, l6, t10, t11, t12⟩ := h
  obtain ⟨Ad, cd, rfl, -⟩ := id t4
  obtain ⟨Ap, cp, rfl, -⟩ := id t5
  obtain ⟨Aq, cq, rfl, -⟩ := id t6
  obtain ⟨At, ct, rfl, -⟩ := id t7
  obtain ⟨As, cs, rfl, -⟩ := id t8
  obtain ⟨Ax, cx, rfl, -⟩ := id t9
  rw [l2] at t1 t4
  rw [l3] at t1 t5
  rw [l4] at t1 t6
  obtain ⟨tn, htn⟩ : ∃ tn, tn = T.to_.length := ⟨_, rfl⟩
  obtain ⟨sn, hsn⟩ : ∃ sn, sn = T.skip.length := ⟨_, rfl⟩
  obtain ⟨xn, hxn⟩ : ∃ xn, xn = T.start.length := ⟨_, rfl⟩
  rw [← htn] at t1 t7
  rw [← hsn] at t1 t8
  rw [← hxn] at t1 t9
  have hrd : ∀ (A : Option Addr) (m c : Nat) (l : List Int), GNs w.heap.size w (.slice A m c) l → l.length = m → ∀ (x : Int) (y : Int), rdI l x = some y → ∃ (k : Nat) (g o : Nat), x = k ∧ k < m ∧ A = some ⟨g, o, none⟩ ∧ ∀ W, Below w.heap.size w W → W.cell? ⟨g, o + k, none⟩ = some (.int .i64 y) := fun A m c l hg hl x y hxy => by
    obtain ⟨k, hk, hkl, hye⟩ := rdI_some hxy
    obtain ⟨g, o, hA, hgb, hc⟩ := hg.at hkl
    exact ⟨k, g, o, hk, by omega, hA, fun W hW => (hW.cell (p := ⟨g, o + k, none⟩) hgb).trans (by rw [hc, hye]; simp [List.getD, hkl])⟩
  obtain ⟨b1, gq, oq, hb1, hbq, rfl, cqb⟩ := hrd _ _ _ _ t6 l4 _ _ h1
  obtain rfl : b = b1 := by omega
  obtain ⟨p1n, gx, ox, rfl, hp1, rfl, cx1⟩ := hrd _ _ _ _ t9 hxn.symm _ _ h2
  obtain ⟨b2, gp, op, hb2, hbp, rfl, cpb⟩ := hrd _ _ _ _ t5 l3 _ _ h3
  obtain rfl : b = b2 := by omega
  obtain ⟨p0n, gx2, ox2, rfl, hp0, hxe, cx0⟩ := hrd _ _ _ _ t9 hxn.symm _ _ h4
  obtain ⟨rfl, rfl⟩ : gx = gx2 ∧ ox = ox2 := by simpa using hxe
  have HD : Hid (∀ x y, rdI T.deep x = some y → ∃ (k : Nat) (g o : Nat), x = k ∧ k < n ∧ Ad = some ⟨g, o, none⟩ ∧ ∀ W, Below w.heap.size w W → W.cell? ⟨g, o + k, none⟩ = some (.int .i64 y)) := Lib.hid (hrd _ _ _ _ t4 l2)
  have HT : Hid (∀ x y, rdI T.to_ x = some y → ∃ (k : Nat) (g o : Nat), x = k ∧ k < tn ∧ At = some ⟨g, o, none⟩ ∧ ∀ W, Below w.heap.size w W → W.cell? ⟨g, o + k, none⟩ = some (.int .i64 y)) := Lib.hid (hrd _ _ _ _ t7 htn.symm)
  have HK : Hid (∀ x y, rdI T.skip x = some y → ∃ (k : Nat) (g o : Nat), x = k ∧ k < sn ∧ As = some ⟨g, o, none⟩ ∧ ∀ W, Below w.heap.size w W → W.cell? ⟨g, o + k, none⟩ = some (.int .i64 y)) := Lib.hid (hrd _ _ _ _ t8 hsn.symm)
  have Hc : Hid (∀ W, Below w.heap.size w W → W.cell? ⟨tp, 3, none⟩ = some (.slice Ad n cd) ∧ W.cell? ⟨tp, 6, none⟩ = some (.slice At tn ct) ∧ W.cell? ⟨tp, 7, none⟩ = some (.slice As sn cs)) := Lib.hid fun W hW => by
    have hb := (hW.block tp (gr_in t1)).trans t1
    exact ⟨Lib.cell_of_heap hb 3, Lib.cell_of_heap hb 6, Lib.cell_of_heap hb 7⟩
  have c4 := Lib.cell_of_heap t1 4
  have c5 := Lib.cell_of_heap t1 5
  have c8 := Lib.cell_of_heap t1 8
  have q1 := cqb w (Below.refl _ _)
  have q2 := cx1 w (Below.refl _ _)
  have q3 := cpb w (Below.refl _ _)
  have q4 := cx0 w (Below.refl _ _)
  have H5 := Lib.hid h5
  clear hrd t1 t2 t3 t4 t5 t6 t7 t8 t9 l1 l2 l3 l4 l5 l6 t10 t11 t12 h1 h2 h3 h4 h5 hr hb1 hb2 hxe cqb cx1 cpb cx0 htn hsn hxn
  obtain ⟨i0, hi0, hz0, hz1, hz2⟩ := info_parts infoIntG
  have Ji := Lib.hid hi0
  have Jz0 := Lib.hid hz0
  have Jz1 := Lib.hid hz1
  have Jz2 := Lib.hid hz2
  clear hi0 hz0 hz1 hz2
  go_enter Try.func21, Try.ntmps21
  go_upto_region 4 with (go_at_call 15; refine hR.mono ?_; rintro e w1 ⟨rfl, rfl⟩; clear hR)
  go_quiet (fail)
  obtain ⟨V1, hV1⟩ : ∃ V1, V1 = w1.drewN nq := ⟨_, rfl⟩
  have hb1 : Below w1.heap.size w1 V1 := by rw [hV1]; exact below_drewN _ _
  have c4' : V1.cell? ⟨tp, 4, none⟩ = some (.slice (some ⟨gp, op, none⟩) n cp) := by rw [hV1]; exact c4
  have c8' : V1.cell? ⟨tp, 8, none⟩ = some (.slice (some ⟨gx, ox, none⟩) xn cx) := by rw [hV1]; exact c8
  have q3' : V1.cell? ⟨gp, op + b, none⟩ = some (.int .i64 (p0n : Int)) := by rw [hV1]; exact q3
  have q4' : V1.cell? ⟨gx, ox + p0n, none⟩ = some (.int .i64 a0) := by rw [hV1]; exact q4
  rw [← hV1]
  clear c4 c5 c8 q1 q2 q3 q4 hV1
  go_upto_region 5 with fail
  go_quiet (fail)
  obtain ⟨V2, hV2⟩ : ∃ V2, V2 = V1.drewN nq := ⟨_, rfl⟩
  rw [← hV2]
  have hb2 : Below w1.heap.size w1 V2 := by rw [hV2]; exact hb1.trans ((below_drewN _ _).mono hb1.size)
  have HK0 : Hid (FrH T (b : Int) e0 w1 xs k0 (.int .i64 a0) (.slice none 0 0) V2) := Lib.hid ⟨a0, [], rfl, H5.out, World.ownsRow_nil _ _ _ _, hb2, by simp, fun _ => rfl⟩
  clear hb1 hV2 hb2 c4' c8' q3' q4' H5
  go_upto_block 0 with fail
  go_cut [5] (fun u5 wx => wx.ownsRow w1.heap.size 3 1 u5 xs.length (natsV xs) ∧ Below w1.heap.size w1 wx ∧ xs.length ≤ 1048576 ∧ (xs = [] → u5 = .slice none 0 0))
  case first =>
    go_wp2_with fail
    go_loopw [7, 5] (fun u7 u5 wr => ∃ k, FrH T (b : Int) e0 w1 xs k u7 u5 wr) (fun u7 u5 wr => leastN (fun k => FrH T (b : Int) e0 w1 xs k u7 u5 wr))
    case atStart => exact ⟨k0, HK0.out⟩
    case round =>
      clear HK0
      obtain ⟨K, hK⟩ : ∃ K, K = leastN (fun k => FrH T (b : Int) e0 w1 xs k u7 u5 wr) := ⟨_, rfl⟩
      have hk : FrH T (b : Int) e0 w1 xs K u7 u5 wr := by rw [hK]; exact leastN_spec hrel
      have HK2 := Lib.hid hK
      clear hK hrel
      obtain ⟨at_, acc, rfl, hf, ho, hb, hal, hnil⟩ := hk
      obtain ⟨PA, PC, rfl⟩ := gr_slice ho
      have Hnil := Lib.hid hnil
      clear hnil
      cases K with
      | zero => simp [frP] at hf
      | succ k =>
        rw [frP] at hf
        split at hf
        · next hlt =>
          have hd : decide (at_ < e0) = true := decide_eq_true hlt
          rw [Option.bind_eq_some_iff] at hf
          obtain ⟨tv, htv, hf⟩ := hf
          rw [Option.bind_eq_some_iff] at hf
          obtain ⟨dt, hdt, hf⟩ := hf
          rw [Option.bind_eq_some_iff] at hf
          obtain ⟨db, hdb, hf⟩ := hf
          obtain ⟨an, tg, to2, rfl, han, rfl, hct⟩ := HT.out _ _ htv
          obtain ⟨tvn, dg, do2, rfl, htvn, rfl, hcd⟩ := HD.out _ _ hdt
          obtain ⟨bn, dg2, do3, hbe, hbn, hde, hcb⟩ := HD.out _ _ hdb
          obtain rfl : b = bn := by omega
          obtain ⟨rfl, rfl⟩ : dg = dg2 ∧ do2 = do3 := by simpa using hde
          obtain ⟨k3, k6, k7⟩ := Hc.out wr hb
          have e1 := hct wr hb
          have e2 := hcd wr hb
          have e3 := hcb wr hb
          by_cases hgt : dt > db
          · have hg : decide (dt > db) = true := decide_eq_true hgt
            rw [if_pos hgt, Option.bind_eq_some_iff] at hf
            obtain ⟨a2, ha2, hf⟩ := hf
            obtain ⟨an2, sg, so, hae, hsn, rfl, hcs⟩ := HK.out _ _ ha2
            obtain rfl : an = an2 := by omega
            have HF := Lib.hid hf
            have Ho := Lib.hid ho
            have Hb := Lib.hid hb
            have Hcs := Lib.hid hcs
            clear hf htv hdt hdb ha2 hct hcd hcb hbe hde hae ho hb hcs hlt hgt
            go_upto_region 8 with fail
            go_quiet (fail)
            obtain ⟨V3, hV3⟩ : ∃ V3, V3 = wr.drewN nq := ⟨_, rfl⟩
            have hb3 : Below w1.heap.size w1 V3 := by rw [hV3]; exact below_dr Hb.out _
            have ho3 : V3.ownsRow w1.heap.size 3 1 (.slice PA acc.length PC) acc.length (natsV acc) := by rw [hV3]; exact gr_up Ho.out (below_drewN _ _)
            rw [← hV3]
            clear k3 k6 k7 e1 e2 e3 hV3
            obtain ⟨k3, k6, k7⟩ := Hc.out V3 hb3
            have e4 := Hcs.out V3 hb3
            have HN : Hid (FrH T (b : Int) e0 w1 xs k (.int .i64 a2) (.slice PA acc.length PC) V3) := Lib.hid ⟨a2, acc, rfl, HF.out, ho3, hb3, hal, Hnil.out⟩
            clear hb3 ho3 HF Ho Hb Hcs
            go_wp2
            go_roundw
            case rel => exact ⟨k, HN.out⟩
            case measure => rw [← HK2.out]; exact Nat.lt_succ_of_le (leastN_le HN.out)
          · have hg : decide (dt > db) = false := decide_eq_false hgt
            rw [if_neg hgt] at hf
            split at hf
            case isFalse => cases hf
            case isTrue hal2 =>
            rw [Int.toNat_natCast] at hf
            have HF := Lib.hid hf
            have Ho := Lib.hid ho
            have Hb := Lib.hid hb
            clear hf htv hdt hdb hct hcd hcb hbe hde ho hb hgt
            go_upto_region 8 with fail
            go_quiet (fail)
            obtain ⟨V3, hV3⟩ : ∃ V3, V3 = wr.drewN nq := ⟨_, rfl⟩
            have hb3 : Below w1.heap.size w1 V3 := by rw [hV3]; exact below_dr Hb.out _
            have ho3 : V3.ownsRow w1.heap.size 3 1 (.slice PA acc.length PC) acc.length (natsV acc) := by rw [hV3]; exact gr_up Ho.out (below_drewN _ _)
            rw [← hV3]
            clear k3 k6 k7 e1 e2 e3 hV3
            obtain ⟨Z, hZ, hbZ, hzZ, h0Z⟩ := gr_one V3 #[.int .i64 (tvn : Int)] 3
            have HOW := Lib.hid (gr_up ho3 hbZ)
            have HNW := Lib.hid (World.news_of_block h0Z)
            have HOn : Hid (∀ u ∈ ([.int .i64 (tvn : Int)] : List Value), u.oneCell' = true) := Lib.hid (by intro u hu; simp at hu; subst hu; rfl)
            have hsz2 : w1.heap.size ≤ Z.heap.size := Nat.le_trans hb3.size hbZ.size
            have hbZ2 := hb3.trans (hbZ.mono hb3.size)
            rw [hZ] at HOW HNW hsz2
            have HZ := Lib.hid hZ
            have HbZ := Lib.hid hbZ2
            have hw4 : IntKind.i64.wrap ((an : Int) + 1) = (an : Int) + 1 := by rw [IntKind.wrap_i64]; omega
            clear hb3 ho3 Ho Hb hZ hbZ hzZ h0Z hbZ2
            go_wp2_with (at_builtin; refine wpList_append_lies _ rfl (.tmp 75) (.tmp 77) 23 rfl w1.heap.size 3 i0 (.int .i64 0) 1 8 Try.underlying23 Ji.out Jz0.out Jz1.out Jz2.out rfl (by decide) (.slice PA acc.length PC) acc.length (natsV acc) rfl HOW.out ⟨V3.heap.size, 0, none⟩ 1 1 [.int .i64 (tvn : Int)] rfl rfl HNW.out HOn.out (by decide) (by unfold maxLen; omega) (by omega) hsz2 _ rfl ?_)
            intro gq' cq' w6 hown6 hgrow6 hat6 hlt6
            rw [← HZ.out] at hgrow6
            have hb6 : Below w1.heap.size w1 w6 := HbZ.out.trans ((Below.refl _ _).grown hgrow6 HbZ.out.size (fun g' e' => (HOW.out.lt g' e').1))
            have HN : Hid (FrH T (b : Int) e0 w1 xs k (.int .i64 ((an : Int) + 1)) (.slice (some ⟨gq', 0, none⟩) (acc.length + 1) cq') w6) := Lib.hid ⟨_, acc ++ [tvn], rfl, HF.out, by simpa [natsV] using hown6, hb6, by simp; omega, fun h => by simp at h⟩
            clear hown6 hgrow6 hat6 hlt6 hb6 HOW HNW HOn hsz2 HZ HbZ HF
            go_wp2
            go_roundw
            case rel => exact ⟨k, HN.out⟩
            case measure => rw [← HK2.out]; exact Nat.lt_succ_of_le (leastN_le HN.out)
        · next hlt =>
          injection hf with hf
          subst hf
          have hd : decide (at_ < e0) = false := decide_eq_false hlt
          have HE := Lib.hid (And.intro ho (And.intro hb (And.intro hal Hnil.out)))
          clear ho hb hlt
          go_wp2_with fail
          go_meet
          exact HE.out
  case rest =>
    obtain ⟨W, hW⟩ : ∃ W, W = wc := ⟨_, rfl⟩
    subst hW
    obtain ⟨ho, hb, hxl, hnil⟩ := hcut
    by_cases hne : 0 < xs.length
    · clear hnil
      obtain ⟨PA, PC, rfl⟩ := gr_slice ho
      obtain ⟨g, rfl, -, hg1, hg2⟩ := gr_some ho hne
      have hS := sort_g w1.heap.size g xs.length PC xs W ho hxl
      have Hb := Lib.hid hb
      have Ho := Lib.hid ho
      clear ho hb
      go_upto_region 13 with (go_at_call 33; refine hS.mono ?_; rintro e w5 ⟨⟨r5, rfl⟩, ho5, hg5⟩; clear hS)
      have hb5 : Below w1.heap.size w1 w5 := Hb.out.trans ((Below.refl _ _).grown hg5 Hb.out.size (fun g' e' => by injection e' with e'; subst e'; exact hg1))
      obtain ⟨zs, hzs⟩ : ∃ zs : List Int, zs = (sortN xs).map fun (x : Nat) => (x : Int) := ⟨_, rfl⟩
      have hzl : zs.length = xs.length := by rw [hzs, List.length_map, sortN_len]
      have hnv : natsV (sortN xs) = intsV zs := by rw [natsV_ints, hzs]
      rw [hnv] at ho5
      have hC := slices_Compact_int_cells g 0 xs.length PC zs w5 (by omega) (by omega) (gr_len ho5).1 (fun j hj => by
        rw [Nat.zero_add, ho5.cellAt j (by omega)]
        simp [intsV, List.getD, hj]) (fun j _ => by rw [Nat.zero_add]; exact ho5.frozenAt j)
      have Hzs := Lib.hid hzs
      have Hb5 := Lib.hid hb5
      have Ho5 := Lib.hid ho5
      have Hzl := Lib.hid hzl
      clear hzs hnv hb5 ho5 hg5 hzl Hb Ho
      go_wp2_with (go_at_call 34; refine hC.mono ?_; rintro e w6 ⟨rfl, q, hw6⟩; have Hw6 := Lib.hid hw6; clear hw6 hC)
      go_ret
      refine ⟨_, rfl, ?_, ?_⟩
      · rw [← Hzs.out]
        have htk : zs.take xs.length = zs := by rw [← Hzl.out, List.take_length]
        rcases Ho5.out.2 with ⟨h', _⟩ | ⟨g', cap, cur, h', hb', hg', hnc, hcm, hcs, ht⟩
        · simp at h'
        · simp only [Value.slice.injEq, Option.some.injEq, Addr.mk.injEq, and_true, true_and] at h'
          obtain ⟨rfl, rfl⟩ := h'
          have hw6 := Hw6.out
          rw [htk] at hw6 ⊢
          have hcl := compact_le zs
          have hzl := Hzl.out
          obtain ⟨cur', hh, hsz, -, hat⟩ := setCells_heap (T := 3) ((Lib.compact zs ++ List.replicate (xs.length - (Lib.compact zs).length) 0).map (Value.int .i64)) 0 (w5.drewN q) cur hg'
          rw [← hw6] at hh
          refine ⟨_, PC, rfl, fun hp => ⟨g, 0, rfl, gr_in hh, fun j x hx => ?_⟩⟩
          have hjl : j < (Lib.compact zs).length := (List.getElem?_eq_some_iff.1 hx).1
          rw [Nat.zero_add]
          have h0 := hat j (by simp; omega) (by rw [hcs]; omega)
          rw [Nat.zero_add] at h0
          rw [World.cell?, hh]
          simp only [Option.bind_some, h0]
          rw [List.getElem?_map, List.getElem?_append_left hjl, hx]
          rfl
      · rw [Hw6.out]
        exact setCells_below hg1 _ _ _ (below_dr Hb5.out q)
    · have hx0 : xs = [] := List.eq_nil_of_length_eq_zero (by omega)
      obtain rfl := hnil hx0
      have hS := sort_zero W
      have hC := fun X => slices_Compact_int_empty none 0 X
      have Hb := Lib.hid hb
      have Hx0 := Lib.hid hx0
      clear ho hb hxl hnil hne hx0
      go_wp2_with (first
        | (go_at_call 33; refine hS.mono ?_; rintro e w5 ⟨⟨r5, rfl⟩, hw5⟩; rw [hw5]; clear hw5 w5 hS)
        | (go_at_call 34; refine (hC _).mono ?_; rintro e w6 ⟨rfl, hw6⟩; rw [hw6]; clear hw6 w6 hC))
      go_ret
      refine ⟨_, rfl, ?_, Hb.out⟩
      have hz : Lib.compact ((sortN xs).map fun (x : Nat) => (x : Int)) = [] := by
        rw [Hx0.out, show sortN [] = [] from List.eq_nil_of_length_eq_zero (by rw [sortN_len]; rfl)]
        rfl
      rw [hz]
      exact ⟨none, 0, rfl, fun h => by simp at h⟩
end Go.Proofs.Ytoplllebaagnnaa
namespace Go.Proofs.Ytoplllebaagnnaa
set_option linter.unusedVariables false
set_option linter.unusedSimpArgs false
open Go.RowKit Go.Shelf

/-- Rows that rise and have the same members are one. -/
theorem rise_eq : ∀ {l m : List Int}, l.Pairwise (· < ·) → m.Pairwise (· < ·) → (∀ x, x ∈ l ↔ x ∈ m) → l = m
  | [], [], _, _, _ => rfl
  | [], y :: m, _, _, h => by have := (h y).2 (by simp); cases this
  | x :: l, [], _, _, h => by have := (h x).1 (by simp); cases this
  | x :: l, y :: m, hl, hm, h => by
    obtain ⟨h1, h2⟩ := List.pairwise_cons.1 hl
    obtain ⟨h3, h4⟩ := List.pairwise_cons.1 hm
    have hxy : x = y := by
      rcases List.mem_cons.1 ((h x).1 (by simp)) with e | e
      · exact e
      · rcases List.mem_cons.1 ((h y).2 (by simp)) with e2 | e2
        · exact e2.symm
        · have := h3 x e; have := h1 y e2; omega
    subst hxy
    congr 1
    refine rise_eq h2 h4 fun z => ?_
    constructor
    · intro hz
      rcases List.mem_cons.1 ((h z).1 (List.mem_cons_of_mem _ hz)) with e | e
      · have := h1 z hz; omega
      · exact e
    · intro hz
      rcases List.mem_cons.1 ((h z).2 (List.mem_cons_of_mem _ hz)) with e | e
      · have := h3 z hz; omega
      · exact e
theorem arr_at {zs : List Int} {i : Nat} (h : i < zs.length) : zs.toArray[i]! = zs[i] := by simp [h]
theorem compact_rise {zs : List Int} (h : zs.Pairwise (· ≤ ·)) : (Lib.compact zs).Pairwise (· < ·) ∧ ∀ x, x ∈ Lib.compact zs ↔ x ∈ zs := by
  have hle : ∀ (i j : Nat) (hij : i ≤ j) (hj : j < zs.length), zs[i]'(by omega) ≤ zs[j] := fun i j hij hj => by
    by_cases e : i = j
    · subst e; exact Int.le_refl _
    · exact List.pairwise_iff_getElem.1 h i j (by omega) hj (by omega)
  have hk : ∀ i, i < zs.length → (Lib.keeps zs.toArray i = true ↔ (i = 0 ∨ ∃ h : 0 < i ∧ i < zs.length, zs[i]'(h.2) ≠ zs[i - 1]'(by omega))) := fun i hi => by
    unfold Lib.keeps
    by_cases h0 : i = 0
    · subst h0; simp
    · have e1 := arr_at hi
      have e2 : zs.toArray[i - 1]! = zs[i - 1]'(by omega) := arr_at (by omega)
      simp only [e1, e2]
      constructor
      · intro hh
        right
        refine ⟨⟨by omega, hi⟩, ?_⟩
        simpa [h0] using hh
      · rintro (e | ⟨_, hne⟩)
        · exact absurd e h0
        · simpa [h0] using hne
  unfold Lib.compact Lib.compactUpTo
  constructor
  · refine List.pairwise_map.2 ?_
    refine List.Pairwise.imp_of_mem (R := fun i j => i < j) ?_ (List.pairwise_lt_range.filter _)
    intro i j hi hj hij
    obtain ⟨hi1, hi2⟩ := List.mem_filter.1 hi
    obtain ⟨hj1, hj2⟩ := List.mem_filter.1 hj
    have hjl := List.mem_range.1 hj1
    have hil := List.mem_range.1 hi1
    rw [arr_at hil, arr_at hjl]
    rcases (hk j hjl).1 hj2 with e | ⟨_, hne⟩
    · omega
    · have h1 := hle i (j - 1) (by omega) (by omega)
      have h2 := hle (j - 1) j (by omega) hjl
      omega
  · intro x
    rw [List.mem_map]
    constructor
    · rintro ⟨i, hi, rfl⟩
      have hil := List.mem_range.1 (List.mem_filter.1 hi).1
      rw [arr_at hil]
      exact List.getElem_mem hil
    · intro hx
      obtain ⟨i, hi, e⟩ := List.getElem_of_mem hx
      have key : ∀ n i, i < n → (hi : i < zs.length) → zs[i] = x → ∃ k, k ∈ (List.range zs.length).filter (Lib.keeps zs.toArray) ∧ zs.toArray[k]! = x := by
        intro n
        induction n with
        | zero => intro i h; omega
        | succ n ih =>
          intro i hin hi e
          by_cases hki : Lib.keeps zs.toArray i = true
          · exact ⟨i, List.mem_filter.2 ⟨List.mem_range.2 hi, hki⟩, by rw [arr_at hi]; exact e⟩
          · have h0 : i ≠ 0 := fun e => hki ((hk i hi).2 (.inl e))
            have he : zs[i] = zs[i - 1]'(by omega) := Classical.byContradiction fun hne => hki ((hk i hi).2 (.inr ⟨⟨by omega, hi⟩, hne⟩))
            exact ih (i - 1) (by omega) (by omega) (by rw [← he]; exact e)
      exact key (i + 1) i (by omega) hi e
/-- Whether a block is in the frontier of another one, as the law reckons it. -/
def frC (g : List GB) (b y p : Nat) : Bool := tabP g b p && (decide (y = b) || !tabP g b y)
def frQ (g : List GB) (b y p : Nat) (t : Int) : Bool := decide (t = (y : Int)) && frC g b y p
def isP (g : List GB) (b y : Nat) : Nat → Bool
  | 0 => false
  | p + 1 => isP g b y p || (tosG g p).any (frQ g b y p)
theorem isP_iff (g : List GB) (b y : Nat) : ∀ p, isP g b y p = true ↔ ∃ p', p' < p ∧ (y : Int) ∈ tosG g p' ∧ frC g b y p' = true
  | 0 => by simp [isP]
  | p + 1 => by
    rw [isP, Bool.or_eq_true, isP_iff g b y p, List.any_eq_true]
    constructor
    · rintro (⟨p', h1, h2⟩ | ⟨t, h1, h2⟩)
      · exact ⟨p', by omega, h2⟩
      · unfold frQ at h2
        rw [Bool.and_eq_true, decide_eq_true_eq] at h2
        exact ⟨p, by omega, by rw [← h2.1]; exact h1, h2.2⟩
    · rintro ⟨p', h1, h2, h3⟩
      by_cases e : p' = p
      · subst e
        exact .inr ⟨_, h2, by unfold frQ; rw [h3]; simp⟩
      · exact .inl ⟨p', by omega, h2, h3⟩
def frL (g : List GB) (b n : Nat) : List Nat := (List.range n).filter fun y => isP g b y g.length
theorem frL_step (g : List GB) (b n : Nat) : frL g b (n + 1) = if isP g b n g.length then frL g b n ++ [n] else frL g b n := by
  unfold frL
  rw [List.range_succ, List.filter_append]
  cases hq : isP g b n g.length <;> simp [hq]
theorem frL_mem {g : List GB} (hg : tosOk g) {b : Nat} (hb : b < g.length) (y : Nat) : y ∈ frL g b g.length ↔ ((∃ c, OvD g b c ∧ (y : Int) ∈ tosG g c) ∧ ¬ (b ≠ y ∧ OvD g b y)) := by
  unfold frL
  rw [List.mem_filter, List.mem_range, isP_iff]
  constructor
  · rintro ⟨hy, p, hp, ht, hc⟩
    unfold frC at hc
    rw [Bool.and_eq_true, Bool.or_eq_true, decide_eq_true_eq, Bool.not_eq_true'] at hc
    refine ⟨⟨p, (tabP_ovd hg hb).1 hc.1, ht⟩, fun h => ?_⟩
    rcases hc.2 with e | e
    · exact h.1 e.symm
    · rw [(tabP_ovd hg hb).2 h.2] at e; cases e
  · rintro ⟨⟨c, ho, ht⟩, hno⟩
    have hy := (hg c _ ht).2
    have hcl := FR.lt hg (by omega) ho.2.1
    refine ⟨by omega, c, hcl, ht, ?_⟩
    unfold frC
    rw [Bool.and_eq_true, Bool.or_eq_true, decide_eq_true_eq, Bool.not_eq_true']
    refine ⟨(tabP_ovd hg hb).2 ho, ?_⟩
    by_cases e : y = b
    · exact .inl e
    · right
      cases hq : tabP g b y with
      | false => rfl
      | true => exact absurd ⟨fun h => e h.symm, (tabP_ovd hg hb).1 hq⟩ hno
theorem natsI_rise {l : List Nat} (h : l.Pairwise (· < ·)) : (natsI l).Pairwise (· < ·) := by
  unfold natsI
  exact List.pairwise_map.2 (h.imp fun h => by omega)
theorem frL_rise (g : List GB) (b n : Nat) : (frL g b n).Pairwise (· < ·) := List.pairwise_lt_range.filter _
theorem frontier_t (tp : Nat) (g : List GB) (T : TrP) (b : Nat) (w : World) (h : TR w tp g T) (hg : tosOk g) (hb : b < g.length) : Calls Try.prog 21 #[.pointer (some ⟨tp, 0, none⟩), .int .i64 (b : Int)] w fun e w' => ∃ v, e = .returned v ∧ GNs w'.heap.size w' v (natsI (frL g b g.length)) ∧ Below w.heap.size w w' := by
  have hR := reached_t tp g T (b : Int) w h
  have hp : 0 < g.length := by omega
  rcases h with ⟨-, h1, h2⟩ | ⟨h0, -⟩
  · by_cases hr : RR g 0 b
    · obtain ⟨p0, p1, a0, e0, k0, xs, q1, q2, q3, q4, q5, q6, q7⟩ := h2.fro b hr
      have hrt : reachedT T (b : Int) = true := (h2.rch _).2 ⟨b, rfl, hr⟩
      refine (frontier_h tp g.length T b p0 p1 a0 e0 k0 xs w h1 hrt q1 q2 q3 q4 q5 q6).mono ?_
      rintro e w' ⟨v, h3, h4, h5⟩
      refine ⟨v, h3, ?_, h5⟩
      have hs : ((sortN xs).map fun (x : Nat) => (x : Int)).Pairwise (· ≤ ·) := by
        refine List.pairwise_map.2 ?_
        have h1 : (sortN xs).Pairwise (fun x y => decide (x ≤ y) = true) := by
          unfold sortN
          exact List.pairwise_mergeSort (fun a b c h1 h2 => by simp at *; omega) (fun a b => by simp; omega) xs
        exact h1.imp fun h => by have := of_decide_eq_true h; omega
      obtain ⟨c1, c2⟩ := compact_rise hs
      have : natsI (frL g b g.length) = Lib.compact ((sortN xs).map fun (x : Nat) => (x : Int)) := by
        refine rise_eq (natsI_rise (frL_rise g b g.length)) c1 fun x => ?_
        rw [c2 x, List.mem_map]
        unfold natsI
        rw [List.mem_map]
        constructor
        · rintro ⟨y, hy, e⟩
          exact ⟨y, (sortN_mem xs y).2 ((q7 y).2 ((frL_mem hg hb y).1 hy)), e⟩
        · rintro ⟨y, hy, e⟩
          exact ⟨y, (frL_mem hg hb y).2 ((q7 y).1 ((sortN_mem xs y).1 hy)), e⟩
      rw [this]
      exact h4
    · have hrc : rcB g b = false := by
        cases hq : rcB g b with
        | false => rfl
        | true =>
          obtain ⟨_, x, e1, e2⟩ := rcB_iff.1 hq
          obtain rfl : b = x := by omega
          exact absurd e2 hr
      have hnil : natsI (frL g b g.length) = [] := by
        have : frL g b g.length = [] := List.eq_nil_iff_forall_not_mem.2 fun y hy => by
          obtain ⟨⟨c, ho, _⟩, _⟩ := (frL_mem hg hb y).1 hy
          exact hr ho.1
        rw [this]; rfl
      rw [hnil]
      rw [hrc] at hR
      clear h1 h2 hr hrc hnil hg hb hp
      go_enter Try.func21, Try.ntmps21
      go_wp2_with (go_at_call 15; refine hR.mono ?_; rintro e w1 ⟨rfl, rfl⟩; clear hR)
      go_ret
      exact ⟨_, rfl, ⟨none, 0, rfl, fun h => by simp at h⟩, Below.refl _ _⟩
  · omega
end Go.Proofs.Ytoplllebaagnnaa
