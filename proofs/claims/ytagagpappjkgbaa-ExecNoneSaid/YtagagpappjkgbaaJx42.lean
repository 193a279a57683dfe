/-
  Blocks on all ways: the tree's grow.
-/
import Derived.Test.YtagagpappjkgbaaJx41
namespace Go.Proofs.Ytagagpappjkgbaa
set_option linter.unusedVariables false
set_option linter.unusedSimpArgs false
open Go.RowKit Go.Shelf

def grRun (up : List Int) : List Int → List (List Int) → List Int → Option (List (List Int) × List Int)
  | [], kids, deep => some (kids, deep)
  | b :: bs, kids, deep => (rdI up b).bind fun u =>
      if u = -1 then grRun up bs kids deep
      else if 0 ≤ u ∧ u < kids.length ∧ (kids.getD u.toNat []).length < 1048576 then
        (rdI deep u).bind fun d => if 0 ≤ d ∧ d < 1048576 then (wrI deep b (d + 1)).bind fun deep2 => grRun up bs (kids.set u.toNat (kids.getD u.toNat [] ++ [b])) deep2 else none
      else none
/-- A row of numbers of the tree, read. -/
theorem Sq.read {T : TypeId} {w : World} {base E k n c : Nat} {F : Nat → GRw} {cs : List Value} {A : Option Addr} {l : List Int} (h : Sq T w base E F cs) (hk : F k = intR (.slice A n c) l) {j : Nat} (hj : j < l.length) : ∃ g, A = some ⟨g, 0, none⟩ ∧ w.cell? ⟨g, j, none⟩ = some (.int .i64 l[j]) := by
  have h1 := h.at hk
  simp only [intR] at h1
  obtain ⟨g, rfl, hn, hg1, hg2⟩ := gr_some h1 (by omega)
  subst hn
  refine ⟨g, rfl, ?_⟩
  rw [h1.cellAt j (by show j < l.length * 1; omega)]
  simp [intsV, hj]
set_option maxRecDepth 100000 in
set_option maxHeartbeats 32000000 in
theorem grow_g (base tp n no ub : Nat) (A0 : Option Addr) (c0 : Nat) (order up : List Int) (vp vs l0 l1 l2 : Value) (F0 : Nat → GRw) (kids : List (List Int)) (deep : List Int) (w : World)
    (h : Sq 194 w base tp F0 [.slice A0 no c0, sl ub n, .slice none 0 0, .slice none 0 0, vp, vs, l0, l1, l2]) (f0 : F0 0 = intR (.slice A0 no c0) order) (f1 : F0 1 = wholeR ub up) (hoff : ∀ i, 1 < i → F0 i = noRow)
    (hno : order.length = no) (hnob : no ≤ 1048576) (hul : up.length = n) (hnb : n ≤ 1048576) (hrun : grRun up order (List.replicate n []) (List.replicate n 0) = some (kids, deep)) :
    Calls Try.prog 143 #[.pointer (some ⟨tp, 0, none⟩)] w fun e w' => e = .returned (.tuple #[]) ∧ ∃ gk vk db F, Sq 194 w' base tp F [.slice A0 no c0, sl ub n, sl gk n, sl db n, vp, vs, l0, l1, l2] ∧ F 0 = intR (.slice A0 no c0) order ∧ F 1 = wholeR ub up ∧ F 3 = wholeR db deep ∧ (∀ i, 3 < i → i < 10 → F i = noRow) ∧ RowsAt F 10 gk n vk kids ∧ deep.length = n ∧ Below base w w' := by
  obtain ⟨i0, hi0, hz0, hz1, hz2⟩ := info_parts infoRowsG
  have Hi := Lib.hid hi0
  have Hz0 := Lib.hid hz0
  have Hz1 := Lib.hid hz1
  have Hz2 := Lib.hid hz2
  obtain ⟨j1, hj1, jz0, jz1, jz2⟩ := info_parts infoIntG
  have Ji := Lib.hid hj1
  have Jz0 := Lib.hid jz0
  have Jz1 := Lib.hid jz1
  have Jz2 := Lib.hid jz2
  have c1 : w.cell? ⟨tp, 1, none⟩ = some (.slice (some ⟨ub, 0, none⟩) n n) := h.cell 1 _ rfl
  have H := Lib.hid h
  have HF0 := Lib.hid f0
  have HF1 := Lib.hid f1
  have Hoff := Lib.hid hoff
  have Hno := Lib.hid hno
  have Hul := Lib.hid hul
  have Hrun := Lib.hid hrun
  clear hi0 hz0 hz1 hz2 hj1 jz0 jz1 jz2 h f0 f1 hoff hno hul hrun
  go_enter Try.func143, Try.ntmps143
  go_wp2_with (at_make; refine wpList_make_full _ rfl (.tmp 10) (.tmp 10) 190 rfl w.heap.size 64 i0 (.slice none 0 0) 1 Try.underlying190 Hi.out Hz0.out Hz1.out _ _ _ _ n rfl rfl rfl rfl (by rw [Hz2.out]; omega) (by unfold maxLen; omega) (Nat.le_refl _) ?_)
  intro w3 ho3 hg3
  have hb3 : Below w.heap.size w w3 := (Below.refl _ _).grown hg3 (Nat.le_refl _) (fun k e => by cases e)
  rw [toList_madeCells_one] at ho3
  have hs3 := H.out.new 10 (by rw [Hoff.out 10 (by omega)]; rfl) hb3 ⟨64, 1, .slice (some ⟨w.heap.size, 0, none⟩) n n, n, List.replicate n (.slice none 0 0)⟩ ho3
  have hr3 := RowsAt.start (F := F0) (k := 10) (gb := w.heap.size) (m := n) (fun j _ => Hoff.out _ (by omega))
  obtain ⟨gk, hgk⟩ : ∃ gk, gk = w.heap.size := ⟨_, rfl⟩
  rw [← hgk] at hs3 hr3 ⊢
  have d2 : w3.cell? ⟨tp, 2, none⟩ = some (.slice none 0 0) := hs3.cell 2 _ rfl
  have df2 := hs3.fro 2
  have hs4 := hs3.field 2 (.slice (some ⟨gk, 0, none⟩) n n)
  simp only [List.set_cons_succ, List.set_cons_zero] at hs4
  obtain ⟨W4, hW4⟩ : ∃ W4, W4 = w3.setCell ⟨tp, 2, none⟩ (.slice (some ⟨gk, 0, none⟩) n n) := ⟨_, rfl⟩
  have hb4 : Below base w W4 := by rw [hW4]; exact (hb3.mono H.out.hb).trans (hs3.b_field 2 _)
  rw [← hW4] at hs4
  have d1 : W4.cell? ⟨tp, 1, none⟩ = some (.slice (some ⟨ub, 0, none⟩) n n) := hs4.cell 1 _ rfl
  have HW4 := Lib.hid hW4
  have HS4 := Lib.hid hs4
  have HR4 := Lib.hid hr3
  have HB4 := Lib.hid hb4
  clear ho3 hg3 hb3 hs3 hr3 hs4 hW4 hb4 hgk
  go_upto_region 1 with fail
  rw [← HW4.out]
  clear c1 d2 df2 HW4
  go_wp2_with (at_make; refine wpList_make_full _ rfl (.tmp 19) (.tmp 19) 64 rfl W4.heap.size 3 j1 (.int .i64 0) 1 Try.underlying64 Ji.out Jz0.out Jz1.out _ _ _ _ n rfl rfl rfl rfl (by rw [Jz2.out]; omega) (by unfold maxLen; omega) (Nat.le_refl _) ?_)
  intro w5 ho5 hg5
  have hb5 : Below W4.heap.size W4 w5 := (Below.refl _ _).grown hg5 (Nat.le_refl _) (fun k e => by cases e)
  rw [madeInt] at ho5
  have e3 : (upG F0 10 ⟨64, 1, .slice (some ⟨gk, 0, none⟩) n n, n, List.replicate n (.slice none 0 0)⟩) 3 = noRow := by rw [upG_off _ _ _ _ (by omega)]; exact Hoff.out 3 (by omega)
  have hs5 := HS4.out.new 3 (by rw [e3]; rfl) hb5 (wholeR W4.heap.size (List.replicate n 0)) (by simpa [wholeR, intsV] using ho5)
  obtain ⟨db, hdb⟩ : ∃ db, db = W4.heap.size := ⟨_, rfl⟩
  rw [← hdb] at hs5 ⊢
  have d3 : w5.cell? ⟨tp, 3, none⟩ = some (.slice none 0 0) := hs5.cell 3 _ rfl
  have df3 := hs5.fro 3
  have hs6 := hs5.field 3 (.slice (some ⟨db, 0, none⟩) n n)
  simp only [List.set_cons_succ, List.set_cons_zero] at hs6
  obtain ⟨W6, hW6⟩ : ∃ W6, W6 = w5.setCell ⟨tp, 3, none⟩ (.slice (some ⟨db, 0, none⟩) n n) := ⟨_, rfl⟩
  have hb6 : Below base w W6 := by rw [hW6]; exact HB4.out.trans ((hb5.mono HS4.out.hb).trans (hs5.b_field 3 _))
  rw [← hW6] at hs6
  have HW6 := Lib.hid hW6
  have HB6 := Lib.hid hb6
  have HI0 : Hid (∃ vk F, Sq 194 W6 base tp F [.slice A0 no c0, sl ub n, sl gk n, sl db n, vp, vs, l0, l1, l2] ∧ F 0 = intR (.slice A0 no c0) order ∧ F 1 = wholeR ub up ∧ F 3 = wholeR db (List.replicate n 0) ∧ (∀ i, 3 < i → i < 10 → F i = noRow) ∧ RowsAt F 10 gk n vk (List.replicate n [])) := Lib.hid
    ⟨_, _, hs6, by rw [upG_off _ _ _ _ (by omega), upG_off _ _ _ _ (by omega)]; exact HF0.out, by rw [upG_off _ _ _ _ (by omega), upG_off _ _ _ _ (by omega)]; exact HF1.out, upG_at _ _ _, fun i h1 h2 => by rw [upG_off _ _ _ _ (by omega), upG_off _ _ _ _ (by omega)]; exact Hoff.out i (by omega), HR4.out.off 3 _ (by omega)⟩
  have d0 : W6.cell? ⟨tp, 0, none⟩ = some (.slice A0 no c0) := hs6.cell 0 _ rfl
  clear ho5 hg5 hb5 hs5 hs6 hW6 hb6 hdb e3 HS4 HR4 HB4 H HF0 HF1 Hoff
  go_upto_region 2 with fail
  rw [← HW6.out]
  clear d1 d3 df3 HW6
  have HG0 : Hid (grRun up (order.drop 0) (List.replicate n []) (List.replicate n 0) = some (kids, deep)) := Lib.hid Hrun.out
  clear Hrun
  go_upto_block 0 with fail
  clear d0
  go_wp2_with fail
  go_loopw [28] (fun u28 wr => ∃ (j : Nat) (ks : List (List Int)) (dp : List Int), j ≤ no ∧ u28 = .int .i64 j ∧ Hid (∃ vk F, Sq 194 wr base tp F [.slice A0 no c0, sl ub n, sl gk n, sl db n, vp, vs, l0, l1, l2] ∧ F 0 = intR (.slice A0 no c0) order ∧ F 1 = wholeR ub up ∧ F 3 = wholeR db dp ∧ (∀ i, 3 < i → i < 10 → F i = noRow) ∧ RowsAt F 10 gk n vk ks) ∧ Hid (dp.length = n) ∧ Hid (Below base w wr) ∧ Hid (grRun up (order.drop j) ks dp = some (kids, deep))) (fun u28 _ => no - (intOf u28).toNat)
  case atStart => exact ⟨0, _, _, Nat.zero_le _, rfl, HI0, Lib.hid (by simp), HB6, HG0⟩
  case round =>
    clear HI0 HB6 HG0
    obtain ⟨j, ks, dp, hj, rfl, HI, HD, HB, HG⟩ := hrel
    by_cases hlt : j < no
    · obtain ⟨vk, F, hS, f0, f1, f3, hoff, hR⟩ := HI.out
      have hG := HG.out
      have hjl : j < order.length := by rw [Hno.out]; exact hlt
      rw [List.drop_eq_getElem_cons hjl, grRun, Option.bind_eq_some_iff] at hG
      obtain ⟨u, hu, hG⟩ := hG
      obtain ⟨go, rfl, co⟩ := hS.read f0 hjl
      obtain ⟨bv, hbv⟩ : ∃ bv, bv = order[j] := ⟨_, rfl⟩
      rw [← hbv] at hu hG co
      obtain ⟨bn, rfl, hbl, hue⟩ := rdI_some hu
      have hbm : bn < n := by rw [← Hul.out]; exact hbl
      have c1 : wr.cell? ⟨tp, 1, none⟩ = some (.slice (some ⟨ub, 0, none⟩) n n) := hS.cell 1 _ rfl
      have cu : wr.cell? ⟨ub, bn, none⟩ = some (.int .i64 u) := by rw [hue]; exact (hS.whole f1).cell hbl
      by_cases h1 : u = -1
      · have h1c : (u != -1) = false := by simp [h1]
        rw [if_pos h1] at hG
        have HG2 := Lib.hid hG
        clear hS f0 f1 f3 hoff hR hG hu hbv hue hbl h1 HG hjl
        go_wp2
        go_roundw
        case rel => exact ⟨j + 1, ks, dp, by omega, by go_num, HI, HD, HB, HG2⟩
        case measure => simp [intOf]; omega
      · have h1c : (u != -1) = true := by simpa using h1
        rw [if_neg h1] at hG
        split at hG
        case isFalse => cases hG
        case isTrue hq =>
        obtain ⟨q1, q2, q3⟩ := hq
        obtain ⟨un, rfl⟩ : ∃ un : Nat, u = un := ⟨u.toNat, by omega⟩
        rw [Int.toNat_natCast, Option.bind_eq_some_iff] at hG
        obtain ⟨d, hd, hG⟩ := hG
        split at hG
        case isFalse => cases hG
        case isTrue hq2 =>
        rw [Option.bind_eq_some_iff] at hG
        obtain ⟨dp2, hdp2, hG⟩ := hG
        rw [Int.toNat_natCast] at q3
        have hun : un < n := by have := hR.2.1; omega
        obtain ⟨dn, hdn, hdl, hde⟩ := rdI_some hd
        obtain rfl : un = dn := by omega
        obtain ⟨bn2, hbn2, hbl2, hdp2e⟩ := wrI_some hdp2
        obtain rfl : bn = bn2 := by omega
        obtain ⟨v7, l7, hv7, hl7, hld7, hF7⟩ := hR.at hun
        rw [hld7] at hG q3
        have hP := hS.at hF7
        obtain ⟨PA, PC, hPV⟩ := gr_slice hP
        simp only [intR] at hPV
        subst hPV
        obtain ⟨Z, hZ, hbZ, hzZ, h0Z⟩ := gr_one wr #[.int .i64 (bn : Int)] 3
        have hbD : Below wr.heap.size wr Z.drew := hbZ.drew
        have hSZ := hS.keep hbD
        have HOW := Lib.hid (hSZ.at hF7)
        simp only [intR] at HOW
        have HNW := Lib.hid (World.news_of_block (w := Z.drew) h0Z)
        have HOn : Hid (∀ u ∈ ([.int .i64 (bn : Int)] : List Value), u.oneCell' = true) := Lib.hid (by intro u hu; simp at hu; subst hu; rfl)
        have hsz2 : base ≤ Z.drew.heap.size := hSZ.hb
        have gd : wr.drew.cell? ⟨tp, 2, none⟩ = some (.slice (some ⟨gk, 0, none⟩) n n) := hS.cell 2 _ rfl
        have ga : Z.drew.cell? ⟨tp, 2, none⟩ = some (.slice (some ⟨gk, 0, none⟩) n n) := hSZ.cell 2 _ rfl
        have p1 : wr.drew.cell? ⟨gk, un, none⟩ = some (.slice PA l7.length PC) := hR.cell (hS.keep (Below.refl _ _).drew) hv7
        have pa : Z.drew.cell? ⟨gk, un, none⟩ = some (.slice PA l7.length PC) := hR.cell hSZ hv7
        rw [hZ] at HOW HNW hsz2 ga pa
        have HZ := Lib.hid (show Z.drew = (wr.alloc (.cells #[.int .i64 (bn : Int)] 3)).drew by rw [hZ])
        have HSZ := Lib.hid hSZ
        have HRr := Lib.hid hR
        have Hv7 := Lib.hid hv7
        have Hl7 := Lib.hid hl7
        have Hf := Lib.hid (And.intro f0 (And.intro f1 (And.intro f3 hoff)))
        have Hde := Lib.hid (And.intro hde hdl)
        have Hdp := Lib.hid (And.intro hdp2e hbl2)
        have HG2 := Lib.hid hG
        have Hq2 := Lib.hid hq2
        have HBZ := Lib.hid (HB.out.trans (hbD.mono hS.hb))
        have hdpb : bn < dp.length := hbl2
        clear hS f0 f1 f3 hoff hR hG hu hbv hue hbl HG hjl hq2 hd hdp2 hdn hdl hde hbn2 hbl2 hdp2e hv7 hl7 hld7 hF7 hP hZ hbZ hzZ h0Z hbD hSZ HI HB
        go_upto_region 7 with fail
        clear c1 cu co
        refine wp_region_noPanic ?_
        refine wp_region_held_drew (S := fun w' => w'.cell? ⟨tp, 2, none⟩ = some (.slice (some ⟨gk, 0, none⟩) n n)) (by kernel_rfl) gd (fun hHeld => ?_)
        refine wpAnyH_take (i := 0) (v := ?_) rfl (by kernel_rfl) (by kernel_rfl) (by kernel_rfl) (fun _ _ _ h => h) (Or.inl ⟨by rfl, ?_⟩) (by assumption) ?_
        rotate_left
        · (intro w hSw; (try dsimp only at hSw); first | (go_simp; done) | (go_simp; with_reducible rfl))
        try simp only [Act.put, List.setIfInBounds_toArray, List.set_cons_zero, List.set_cons_succ]
        refine wpAnyH_take (i := 1) (v := ?_) rfl (by kernel_rfl) (by kernel_rfl) (by kernel_rfl) (fun _ _ _ h => h) (Or.inl ⟨by rfl, ?_⟩) (by assumption) ?_
        rotate_left
        · (intro w hSw; (try dsimp only at hSw); first | (go_simp; done) | (go_simp; with_reducible rfl))
        try simp only [Act.put, List.setIfInBounds_toArray, List.set_cons_zero, List.set_cons_succ]
        refine wpAnyH_take (i := 2) (v := ?_) rfl (by kernel_rfl) (by kernel_rfl) (by kernel_rfl) (fun _ _ _ h => h) (Or.inl ⟨by rfl, ?_⟩) (by assumption) ?_
        rotate_left
        · (intro w hSw; (try dsimp only at hSw); first | (go_simp; done) | (go_simp; with_reducible rfl))
        try simp only [Act.put, List.setIfInBounds_toArray, List.set_cons_zero, List.set_cons_succ]
        refine wpAnyH_take (i := 3) (v := ?_) rfl (by kernel_rfl) (by kernel_rfl) (by kernel_rfl) (fun _ _ _ h => h) (Or.inl ⟨by rfl, ?_⟩) (by assumption) ?_
        rotate_left
        · (intro w hSw; (try dsimp only at hSw); first | (go_simp; done) | (go_simp; with_reducible rfl))
        try simp only [Act.put, List.setIfInBounds_toArray, List.set_cons_zero, List.set_cons_succ]
        refine wpAnyH_take (i := 4) (v := ?_) rfl (by kernel_rfl) (by kernel_rfl) (by kernel_rfl) (fun _ _ _ h => h) (Or.inl ⟨by rfl, ?_⟩) (by assumption) ?_
        rotate_left
        · (intro w hSw; (try dsimp only at hSw); first | (go_simp; done) | (go_simp; with_reducible rfl))
        try simp only [Act.put, List.setIfInBounds_toArray, List.set_cons_zero, List.set_cons_succ]
        refine wpAnyH_take (i := 5) (v := ?_) rfl (by kernel_rfl) (by kernel_rfl) (by kernel_rfl) (fun _ _ _ h => h) (Or.inl ⟨by rfl, ?_⟩) (by assumption) ?_
        rotate_left
        · (intro w hSw; (try dsimp only at hSw); first | (go_simp; done) | (go_simp; with_reducible rfl))
        try simp only [Act.put, List.setIfInBounds_toArray, List.set_cons_zero, List.set_cons_succ]
        refine wpAnyH_take (i := 6) (v := ?_) rfl (by kernel_rfl) (by kernel_rfl) (by kernel_rfl) (fun _ _ _ h => h) (Or.inl ⟨by rfl, ?_⟩) (by assumption) ?_
        rotate_left
        · (intro w hSw; (try dsimp only at hSw); first | (go_simp; done) | (go_simp; with_reducible rfl))
        try simp only [Act.put, List.setIfInBounds_toArray, List.set_cons_zero, List.set_cons_succ]
        refine wpAnyH_take (i := 7) (v := ?_) rfl (by kernel_rfl) (by kernel_rfl) (by kernel_rfl) (fun _ _ _ h => h) (Or.inl ⟨by rfl, ?_⟩) (by assumption) ?_
        rotate_left
        · (intro w hSw; (try dsimp only at hSw); first | (go_simp; done) | (go_simp; with_reducible rfl))
        try simp only [Act.put, List.setIfInBounds_toArray, List.set_cons_zero, List.set_cons_succ]
        refine wpAnyH_take (i := 8) (v := ?_) rfl (by kernel_rfl) (by kernel_rfl) (by kernel_rfl) (fun _ _ _ h => h) (Or.inl ⟨by rfl, ?_⟩) (by assumption) ?_
        rotate_left
        · (intro w hSw; (try dsimp only at hSw); first | (go_simp; done) | (go_simp; with_reducible rfl))
        try simp only [Act.put, List.setIfInBounds_toArray, List.set_cons_zero, List.set_cons_succ]
        refine wpAnyH_take (i := 9) (v := ?_) rfl (by kernel_rfl) (by kernel_rfl) (by kernel_rfl) (fun _ _ _ h => h) (Or.inl ⟨by rfl, ?_⟩) (by assumption) ?_
        rotate_left
        · (intro w hSw; (try dsimp only at hSw); first | (go_simp; done) | (go_simp; with_reducible rfl))
        try simp only [Act.put, List.setIfInBounds_toArray, List.set_cons_zero, List.set_cons_succ]
        refine wpAnyH_take (i := 10) (v := ?_) rfl (by kernel_rfl) (by kernel_rfl) (by kernel_rfl) (fun _ _ _ h => h) (Or.inl ⟨by rfl, ?_⟩) (by assumption) ?_
        rotate_left
        · (intro w hSw; (try dsimp only at hSw); first | (go_simp; done) | (go_simp; with_reducible rfl))
        try simp only [Act.put, List.setIfInBounds_toArray, List.set_cons_zero, List.set_cons_succ]
        refine wpAnyH_take (i := 12) (v := ?_) rfl (by kernel_rfl) (by kernel_rfl) (by kernel_rfl) (fun _ _ _ h => h) (Or.inl ⟨by rfl, ?_⟩) (by assumption) ?_
        rotate_left
        · (intro w hSw; (try dsimp only at hSw); first | (go_simp; done) | (go_simp; with_reducible rfl))
        try simp only [Act.put, List.setIfInBounds_toArray, List.set_cons_zero, List.set_cons_succ]
        refine wpAnyH_ready (rs := [11, 13]) (by kernel_rfl) (by simp) ?_
        refine AllReadyH.cons rfl (fun K hK => ?_) (AllReadyH.cons rfl (fun K hK => ?_) (AllReadyH.nil))
        · go_simp
          refine hK.out _ _ ?_ (fun hHeld => ?_)
          · ((try dsimp only); first | with_reducible exact gd | with_reducible exact ga | with_reducible exact g5 | with_reducible exact g6)
          clear hK K
          try simp only [Act.put, List.setIfInBounds_toArray, List.set_cons_zero, List.set_cons_succ]
          refine wpAnyH_ready (rs := [13]) (by kernel_rfl) (by simp) ?_
          refine AllReadyH.cons rfl (fun K hK => ?_) (AllReadyH.nil)
          go_simp
          refine hK.out _ _ ?_ (fun hHeld => ?_)
          · ((try dsimp only); first | with_reducible exact gd | with_reducible exact ga | with_reducible exact g5 | with_reducible exact g6)
          clear hK K
          try simp only [Act.put, List.setIfInBounds_toArray, List.set_cons_zero, List.set_cons_succ]
          refine wpAnyH_ready (rs := [14]) (by kernel_rfl) (by simp) ?_
          refine AllReadyH.cons rfl (fun K hK => ?_) (AllReadyH.nil)
          refine step_append_lies _ rfl (.tmp 52) (.tmp 54) 64 rfl base 3 j1 (.int .i64 0) 1 8 Try.underlying64 Ji.out Jz0.out Jz1.out Jz2.out rfl (by decide) (.slice PA l7.length PC) l7.length (intsV l7) (by simp [Act.eval, Act.put]) HOW.out ⟨wr.heap.size, 0, none⟩ 1 1 [.int .i64 (bn : Int)] (by simp [Act.eval, Act.put]) rfl HNW.out HOn.out (by decide) (by unfold maxLen; omega) (by omega) hsz2 _ rfl ?_
          intro gp cp w5 hown5 hgrow hat hlt5
          rw [← HZ.out] at hgrow
          have hat2 : (Value.slice PA l7.length PC).ownBlock = some gp ∨ Z.drew.heap.size ≤ gp := by
            rcases hat with h | h
            · exact .inl h
            · exact .inr (by rw [h, ← HZ.out]; exact Nat.le_refl _)
          obtain ⟨hS5, hB5⟩ := HRr.out.grown HSZ.out Hv7.out Hl7.out hgrow hown5 hat2
          have hk5 : (upG F (10 + 1 + un) (intR (.slice (some ⟨gp, 0, none⟩) (l7.length + 1) cp) (l7 ++ [(bn : Int)]))) 10 = ⟨64, 1, .slice (some ⟨gk, 0, none⟩) n n, n, vk⟩ := by rw [upG_off _ _ _ _ (by omega)]; exact HRr.out.2.2.1
          have p5 : w5.cell? ⟨gk, un, none⟩ = some (.slice PA l7.length PC) := by
            rw [(hS5.at hk5).cellAt un (by show un < n * 1; omega)]
            exact Hv7.out
          have pf5 : w5.frozen? ⟨gk, un, none⟩ = false := (hS5.at hk5).frozenAt un
          obtain ⟨hS6, hR6, hB6⟩ := HRr.out.enter hun hS5
          have g5 : w5.cell? ⟨tp, 2, none⟩ = some (.slice (some ⟨gk, 0, none⟩) n n) := hS5.cell 2 _ rfl
          have g6 : (w5.setCell ⟨gk, un, none⟩ (.slice (some ⟨gp, 0, none⟩) (l7.length + 1) cp)).cell? ⟨tp, 2, none⟩ = some (.slice (some ⟨gk, 0, none⟩) n n) := hS6.cell 2 _ rfl
          have HS6 := Lib.hid hS6
          have HR6 := Lib.hid hR6
          have HB6 := Lib.hid (HBZ.out.trans (hB5.trans hB6))
          clear hown5 hgrow hat hlt5 hat2 hS5 hB5 hk5 hS6 hR6 hB6 HOW HNW hsz2 HZ
          refine hK.out _ _ ?_ (fun hHeld => ?_)
          · ((try dsimp only); first | with_reducible exact gd | with_reducible exact ga | with_reducible exact g5 | with_reducible exact g6)
          clear hK K
          try simp only [Act.put, List.setIfInBounds_toArray, List.set_cons_zero, List.set_cons_succ]
          refine wpAnyH_take (i := 15) (v := ?_) rfl (by kernel_rfl) (by kernel_rfl) (by kernel_rfl) (fun _ _ _ h => h) (Or.inl ⟨by rfl, ?_⟩) (by assumption) ?_
          rotate_left
          · (intro w hSw; (try dsimp only at hSw); first | (go_simp; done) | (go_simp; with_reducible rfl))
          try simp only [Act.put, List.setIfInBounds_toArray, List.set_cons_zero, List.set_cons_succ]
          refine wpAnyH_ready (rs := [16]) (by kernel_rfl) (by simp) ?_
          refine AllReadyH.cons rfl (fun K hK => ?_) (AllReadyH.nil)
          go_simp
          refine hK.out _ _ ?_ (fun hHeld => ?_)
          · ((try dsimp only); first | with_reducible exact gd | with_reducible exact ga | with_reducible exact g5 | with_reducible exact g6)
          clear hK K
          try simp only [Act.put, List.setIfInBounds_toArray, List.set_cons_zero, List.set_cons_succ]
          refine wpAnyH_done (by kernel_rfl) ?_ _
          refine NoPanic.normal ?_
          clear gd ga p1 pa g5 g6 p5 pf5
          obtain ⟨G, hG⟩ : ∃ G, G = w5.setCell ⟨gk, un, none⟩ (.slice (some ⟨gp, 0, none⟩) (l7.length + 1) cp) := ⟨_, rfl⟩
          rw [← hG] at HS6 HB6 ⊢
          clear hG
          have hk : ∀ i r, i < 10 → F i = r → (upG (upG F (10 + 1 + un) (intR (.slice (some ⟨gp, 0, none⟩) (l7.length + 1) cp) (l7 ++ [(bn : Int)]))) 10 ⟨64, 1, .slice (some ⟨gk, 0, none⟩) n n, n, vk.set un (.slice (some ⟨gp, 0, none⟩) (l7.length + 1) cp)⟩) i = r := fun i r hi hr => by rw [upG_off _ _ _ _ (by omega), upG_off _ _ _ _ (by omega)]; exact hr
          have hf3 := hk 3 _ (by omega) Hf.out.2.2.1
          have e3 : G.cell? ⟨tp, 3, none⟩ = some (.slice (some ⟨db, 0, none⟩) n n) := HS6.out.cell 3 _ rfl
          have ed : G.cell? ⟨db, un, none⟩ = some (.int .i64 d) := by rw [Hde.out.1]; exact (HS6.out.whole hf3).cell Hde.out.2
          have eb : ∃ v, G.cell? ⟨db, bn, none⟩ = some v := ⟨_, (HS6.out.whole hf3).cell hdpb⟩
          obtain ⟨veb, eb⟩ := eb
          have ef := (HS6.out.whole hf3).fro bn
          have hS7 := HS6.out.set hf3 bn (d + 1)
          have hw1 : IntKind.i64.wrap (d + 1) = d + 1 := by rw [IntKind.wrap_i64]; have := Hq2.out; omega
          have HI7 : Hid (∃ vk F, Sq 194 (G.setCell ⟨db, bn, none⟩ (.int .i64 (d + 1))).drew base tp F [.slice (some ⟨go, 0, none⟩) no c0, sl ub n, sl gk n, sl db n, vp, vs, l0, l1, l2] ∧ F 0 = intR (.slice (some ⟨go, 0, none⟩) no c0) order ∧ F 1 = wholeR ub up ∧ F 3 = wholeR db dp2 ∧ (∀ i, 3 < i → i < 10 → F i = noRow) ∧ RowsAt F 10 gk n vk (ks.set un (l7 ++ [(bn : Int)]))) := Lib.hid
            ⟨_, _, hS7.keep (Below.refl _ _).drew, by rw [upG_off _ _ _ _ (by omega)]; exact hk 0 _ (by omega) Hf.out.1, by rw [upG_off _ _ _ _ (by omega)]; exact hk 1 _ (by omega) Hf.out.2.1, by rw [upG_at, Hdp.out.1], fun i h1 h2 => by rw [upG_off _ _ _ _ (by omega)]; exact hk i _ (by omega) (Hf.out.2.2.2 i h1 h2), HR6.out.off 3 _ (by omega)⟩
          have HD7 : Hid (dp2.length = n) := Lib.hid (by rw [Hdp.out.1]; simpa using HD.out)
          have HB7 := Lib.hid ((HB6.out.trans (HS6.out.b_put hf3 bn (.int .i64 (d + 1)))).drew)
          clear hk hf3 hS7 HS6 HR6 HB6 Hf Hde Hdp HD
          go_upto_region 8 with fail
          go_still_tail 13, (by kernel_rfl)
          change wpList _ _ _ _ _ G.drew
          go_wp2
          go_roundw
          case rel => exact ⟨j + 1, _, _, by omega, by go_num, HI7, HD7, HB7, HG2⟩
          case measure => simp [intOf]; omega
        · go_simp
          refine hK.out _ _ ?_ (fun hHeld => ?_)
          · ((try dsimp only); first | with_reducible exact gd | with_reducible exact ga | with_reducible exact g5 | with_reducible exact g6)
          clear hK K
          try simp only [Act.put, List.setIfInBounds_toArray, List.set_cons_zero, List.set_cons_succ]
          refine wpAnyH_ready (rs := [11]) (by kernel_rfl) (by simp) ?_
          refine AllReadyH.cons rfl (fun K hK => ?_) (AllReadyH.nil)
          go_simp
          refine hK.out _ _ ?_ (fun hHeld => ?_)
          · ((try dsimp only); first | with_reducible exact gd | with_reducible exact ga | with_reducible exact g5 | with_reducible exact g6)
          clear hK K
          try simp only [Act.put, List.setIfInBounds_toArray, List.set_cons_zero, List.set_cons_succ]
          refine wpAnyH_ready (rs := [14]) (by kernel_rfl) (by simp) ?_
          refine AllReadyH.cons rfl (fun K hK => ?_) (AllReadyH.nil)
          refine step_append_lies _ rfl (.tmp 52) (.tmp 54) 64 rfl base 3 j1 (.int .i64 0) 1 8 Try.underlying64 Ji.out Jz0.out Jz1.out Jz2.out rfl (by decide) (.slice PA l7.length PC) l7.length (intsV l7) (by simp [Act.eval, Act.put]) HOW.out ⟨wr.heap.size, 0, none⟩ 1 1 [.int .i64 (bn : Int)] (by simp [Act.eval, Act.put]) rfl HNW.out HOn.out (by decide) (by unfold maxLen; omega) (by omega) hsz2 _ rfl ?_
          intro gp cp w5 hown5 hgrow hat hlt5
          rw [← HZ.out] at hgrow
          have hat2 : (Value.slice PA l7.length PC).ownBlock = some gp ∨ Z.drew.heap.size ≤ gp := by
            rcases hat with h | h
            · exact .inl h
            · exact .inr (by rw [h, ← HZ.out]; exact Nat.le_refl _)
          obtain ⟨hS5, hB5⟩ := HRr.out.grown HSZ.out Hv7.out Hl7.out hgrow hown5 hat2
          have hk5 : (upG F (10 + 1 + un) (intR (.slice (some ⟨gp, 0, none⟩) (l7.length + 1) cp) (l7 ++ [(bn : Int)]))) 10 = ⟨64, 1, .slice (some ⟨gk, 0, none⟩) n n, n, vk⟩ := by rw [upG_off _ _ _ _ (by omega)]; exact HRr.out.2.2.1
          have p5 : w5.cell? ⟨gk, un, none⟩ = some (.slice PA l7.length PC) := by
            rw [(hS5.at hk5).cellAt un (by show un < n * 1; omega)]
            exact Hv7.out
          have pf5 : w5.frozen? ⟨gk, un, none⟩ = false := (hS5.at hk5).frozenAt un
          obtain ⟨hS6, hR6, hB6⟩ := HRr.out.enter hun hS5
          have g5 : w5.cell? ⟨tp, 2, none⟩ = some (.slice (some ⟨gk, 0, none⟩) n n) := hS5.cell 2 _ rfl
          have g6 : (w5.setCell ⟨gk, un, none⟩ (.slice (some ⟨gp, 0, none⟩) (l7.length + 1) cp)).cell? ⟨tp, 2, none⟩ = some (.slice (some ⟨gk, 0, none⟩) n n) := hS6.cell 2 _ rfl
          have HS6 := Lib.hid hS6
          have HR6 := Lib.hid hR6
          have HB6 := Lib.hid (HBZ.out.trans (hB5.trans hB6))
          clear hown5 hgrow hat hlt5 hat2 hS5 hB5 hk5 hS6 hR6 hB6 HOW HNW hsz2 HZ
          refine hK.out _ _ ?_ (fun hHeld => ?_)
          · ((try dsimp only); first | with_reducible exact gd | with_reducible exact ga | with_reducible exact g5 | with_reducible exact g6)
          clear hK K
          try simp only [Act.put, List.setIfInBounds_toArray, List.set_cons_zero, List.set_cons_succ]
          refine wpAnyH_take (i := 15) (v := ?_) rfl (by kernel_rfl) (by kernel_rfl) (by kernel_rfl) (fun _ _ _ h => h) (Or.inl ⟨by rfl, ?_⟩) (by assumption) ?_
          rotate_left
          · (intro w hSw; (try dsimp only at hSw); first | (go_simp; done) | (go_simp; with_reducible rfl))
          try simp only [Act.put, List.setIfInBounds_toArray, List.set_cons_zero, List.set_cons_succ]
          refine wpAnyH_ready (rs := [16]) (by kernel_rfl) (by simp) ?_
          refine AllReadyH.cons rfl (fun K hK => ?_) (AllReadyH.nil)
          go_simp
          refine hK.out _ _ ?_ (fun hHeld => ?_)
          · ((try dsimp only); first | with_reducible exact gd | with_reducible exact ga | with_reducible exact g5 | with_reducible exact g6)
          clear hK K
          try simp only [Act.put, List.setIfInBounds_toArray, List.set_cons_zero, List.set_cons_succ]
          refine wpAnyH_done (by kernel_rfl) ?_ _
          refine NoPanic.normal ?_
          clear gd ga p1 pa g5 g6 p5 pf5
          obtain ⟨G, hG⟩ : ∃ G, G = w5.setCell ⟨gk, un, none⟩ (.slice (some ⟨gp, 0, none⟩) (l7.length + 1) cp) := ⟨_, rfl⟩
          rw [← hG] at HS6 HB6 ⊢
          clear hG
          have hk : ∀ i r, i < 10 → F i = r → (upG (upG F (10 + 1 + un) (intR (.slice (some ⟨gp, 0, none⟩) (l7.length + 1) cp) (l7 ++ [(bn : Int)]))) 10 ⟨64, 1, .slice (some ⟨gk, 0, none⟩) n n, n, vk.set un (.slice (some ⟨gp, 0, none⟩) (l7.length + 1) cp)⟩) i = r := fun i r hi hr => by rw [upG_off _ _ _ _ (by omega), upG_off _ _ _ _ (by omega)]; exact hr
          have hf3 := hk 3 _ (by omega) Hf.out.2.2.1
          have e3 : G.cell? ⟨tp, 3, none⟩ = some (.slice (some ⟨db, 0, none⟩) n n) := HS6.out.cell 3 _ rfl
          have ed : G.cell? ⟨db, un, none⟩ = some (.int .i64 d) := by rw [Hde.out.1]; exact (HS6.out.whole hf3).cell Hde.out.2
          have eb : ∃ v, G.cell? ⟨db, bn, none⟩ = some v := ⟨_, (HS6.out.whole hf3).cell hdpb⟩
          obtain ⟨veb, eb⟩ := eb
          have ef := (HS6.out.whole hf3).fro bn
          have hS7 := HS6.out.set hf3 bn (d + 1)
          have hw1 : IntKind.i64.wrap (d + 1) = d + 1 := by rw [IntKind.wrap_i64]; have := Hq2.out; omega
          have HI7 : Hid (∃ vk F, Sq 194 (G.setCell ⟨db, bn, none⟩ (.int .i64 (d + 1))).drew base tp F [.slice (some ⟨go, 0, none⟩) no c0, sl ub n, sl gk n, sl db n, vp, vs, l0, l1, l2] ∧ F 0 = intR (.slice (some ⟨go, 0, none⟩) no c0) order ∧ F 1 = wholeR ub up ∧ F 3 = wholeR db dp2 ∧ (∀ i, 3 < i → i < 10 → F i = noRow) ∧ RowsAt F 10 gk n vk (ks.set un (l7 ++ [(bn : Int)]))) := Lib.hid
            ⟨_, _, hS7.keep (Below.refl _ _).drew, by rw [upG_off _ _ _ _ (by omega)]; exact hk 0 _ (by omega) Hf.out.1, by rw [upG_off _ _ _ _ (by omega)]; exact hk 1 _ (by omega) Hf.out.2.1, by rw [upG_at, Hdp.out.1], fun i h1 h2 => by rw [upG_off _ _ _ _ (by omega)]; exact hk i _ (by omega) (Hf.out.2.2.2 i h1 h2), HR6.out.off 3 _ (by omega)⟩
          have HD7 : Hid (dp2.length = n) := Lib.hid (by rw [Hdp.out.1]; simpa using HD.out)
          have HB7 := Lib.hid ((HB6.out.trans (HS6.out.b_put hf3 bn (.int .i64 (d + 1)))).drew)
          clear hk hf3 hS7 HS6 HR6 HB6 Hf Hde Hdp HD
          go_upto_region 8 with fail
          go_still_tail 13, (by kernel_rfl)
          change wpList _ _ _ _ _ G.drew
          go_wp2
          go_roundw
          case rel => exact ⟨j + 1, _, _, by omega, by go_num, HI7, HD7, HB7, HG2⟩
          case measure => simp [intOf]; omega
    · obtain rfl : j = no := by omega
      have hG := HG.out
      rw [← Hno.out, List.drop_length, grRun] at hG
      injection hG with hG
      obtain ⟨rfl, rfl⟩ : ks = kids ∧ dp = deep := by simpa using hG
      obtain ⟨vk, F, hS, f0, f1, f3, hoff, hR⟩ := HI.out
      have HE := Lib.hid (And.intro hS (And.intro f0 (And.intro f1 (And.intro f3 (And.intro hoff hR)))))
      clear hS f0 f1 f3 hoff hR hG HI HG
      go_wp2
      go_end0
      exact ⟨rfl, gk, vk, db, F, HE.out.1, HE.out.2.1, HE.out.2.2.1, HE.out.2.2.2.1, HE.out.2.2.2.2.1, HE.out.2.2.2.2.2, HD.out, HB.out⟩
end Go.Proofs.Ytagagpappjkgbaa
