/-
  The runner's call.
-/
import Derived.Test.YtagagpappjkgbaaJx14
import Derived.Deep.RegionHeld
namespace Go.Proofs.Ytagagpappjkgbaa
set_option linter.unusedVariables false
set_option linter.unusedSimpArgs false
open Go.RowKit Go.Shelf Go.Sort

section
variable {n0 base E : Nat} {fs : List SF} {cm : List (List (Int × Int))} {r : XR} {M : XM} {F : Nat → GRw} {w : World}
set_option maxRecDepth 100000 in
set_option maxHeartbeats 8000000 in
theorem call_c (h : XOk n0 base E fs cm r M F w) (b q : Nat) (x : SIn) (aA : Option Addr) (ac : Nat) (hi : InAt n0 w b q x aA ac) (hxl : x.args.length ≤ 1048576) (r' : XR) (hx : callX r x = some r') :
    Calls Try.prog 110 #[.pointer (some ⟨E, 0, none⟩), .pointer (some ⟨b, q, none⟩)] w fun e w' => e = .returned (.tuple #[]) ∧ XNow n0 base E fs cm r' w w' := by
  unfold callX at hx
  split at hx
  case isFalse => cases hx
  case isTrue ht =>
  rw [Option.map_eq_some_iff] at hx
  obtain ⟨l, hl, rfl⟩ := hx
  have x17 := h.sq.cell 17 _ rfl
  have c2 := hi.c2
  obtain ⟨beg, hbeg⟩ : ∃ n, n = r.args.length := ⟨_, rfl⟩
  obtain ⟨al, hal⟩ : ∃ n, n = x.args.length := ⟨_, rfl⟩
  rw [← hbeg] at x17
  rw [← hal] at c2 hxl
  have Hal := Lib.hid hal
  have Hbeg := Lib.hid hbeg
  have HI : Hid (∀ A, Below base w A → InAt n0 A b q x aA ac) := Lib.hid fun A hA => hi.keep (hA.mono h.n0b)
  have H0 : Hid (∃ (M1 : XM) (F1 : Nat → GRw) (acc : List XV), XOk n0 base E fs cm { r with args := acc } M1 F1 w ∧ Below base w w ∧ putsX r (x.args.drop 0) acc = some l ∧ M1.tb = M.tb) := Lib.hid ⟨M, F, r.args, h, Below.refl _ _, hl, rfl⟩
  have Ht := Lib.hid ht
  clear h hi hl ht hal hbeg
  go_enter Try.func110, Try.ntmps110
  go_upto_region 1 with fail
  clear x17
  go_upto_block 0 with fail
  clear c2
  go_wp2_with fail
  go_loopw [17] (fun u17 wr => ∃ i : Nat, i ≤ al ∧ u17 = .int .i64 i ∧ Hid (∃ (M1 : XM) (F1 : Nat → GRw) (acc : List XV), XOk n0 base E fs cm { r with args := acc } M1 F1 wr ∧ Below base w wr ∧ putsX r (x.args.drop i) acc = some l ∧ M1.tb = M.tb)) (fun u17 _ => al - (intOf u17).toNat)
  case atStart => exact ⟨0, Nat.zero_le _, rfl, H0⟩
  case round =>
    clear H0
    obtain ⟨i, hi, rfl, HN⟩ := hrel
    obtain ⟨C, hC⟩ : ∃ C, C = wr := ⟨_, rfl⟩
    rw [← hC] at HN ⊢
    clear hC
    obtain ⟨M1, F1, acc, hC1, hBC, hpu, htb⟩ := HN.out
    have HC := Lib.hid hC1
    have HBC := Lib.hid hBC
    by_cases hli : i < al
    · have hil : i < x.args.length := by rw [← Hal.out]; exact hli
      rw [List.drop_eq_getElem_cons hil] at hpu
      unfold putsX at hpu
      split at hpu
      case isFalse => cases hpu
      case isTrue hacc =>
      rw [Option.bind_eq_some_iff] at hpu
      obtain ⟨v, hgv, hnx⟩ := hpu
      obtain ⟨ab, ao, rfl, k1, -⟩ := (HI.out C hBC).arg (List.getElem?_eq_getElem hil)
      obtain ⟨a, hae⟩ : ∃ a, a = x.args[i] := ⟨_, rfl⟩
      rw [← hae] at hgv k1
      have hG := get_c (hC1.keep ((Below.refl C.heap.size C).drew)) a v hgv
      obtain ⟨pv, hpv⟩ : ∃ pv : Option Addr, pv = v.of_.map fun t => ⟨M1.tb t, 0, none⟩ := ⟨_, rfl⟩
      rw [← hpv] at hG
      have x17 := hC1.sq.cell 17 _ rfl
      have hx17 : C.cell? ⟨E, 17, none⟩ = some (.slice (M1.sa 2) acc.length (M1.sc 2)) := x17
      have Hrow : Hid (F1 2 = ⟨156, 2, .slice (M1.sa 2) acc.length (M1.sc 2), acc.length, acc.flatMap (vCell M1.tb)⟩) := Lib.hid (hC1.fr 2 (by omega))
      have Hg : Hid (acc.length < 1048576 ∧ True) := Lib.hid ⟨hacc, trivial⟩
      have Hnx := Lib.hid hnx
      have Hpv := Lib.hid hpv
      have Htb := Lib.hid htb
      clear HN hC1 hBC hgv hnx hae hil hpv htb hacc x17
      go_upto_region 4 with fail
      clear k1
      refine wp_region_held_drew (S := fun _ : World => True) (by kernel_rfl) trivial (fun hHeld => ?_)
      refine wpAnyH_take (i := 0) (v := ?_) rfl (by kernel_rfl) (by kernel_rfl) (by kernel_rfl) (fun _ _ _ h => h) (Or.inl ⟨by kernel_rfl, ?_⟩) (by assumption) ?_
      rotate_left
      · (intro w hSw; (try dsimp only at hSw); first | (go_simp; done) | (go_simp; with_reducible rfl))
      try simp only [Act.put, List.setIfInBounds_toArray, List.set_cons_zero, List.set_cons_succ]
      refine wpAnyH_take (i := 1) (v := ?_) rfl (by kernel_rfl) (by kernel_rfl) (by kernel_rfl) (fun _ _ _ h => h) (Or.inl ⟨by kernel_rfl, ?_⟩) (by assumption) ?_
      rotate_left
      · (intro w hSw; (try dsimp only at hSw); first | (go_simp; done) | (go_simp; with_reducible rfl))
      try simp only [Act.put, List.setIfInBounds_toArray, List.set_cons_zero, List.set_cons_succ]
      refine wpAnyH_take (i := 2) (v := ?_) rfl (by kernel_rfl) (by kernel_rfl) (by kernel_rfl) (fun _ _ _ h => h) (Or.inl ⟨by kernel_rfl, ?_⟩) (by assumption) ?_
      rotate_left
      · (intro w hSw; (try dsimp only at hSw); first | (go_simp; done) | (go_simp; with_reducible rfl))
      try simp only [Act.put, List.setIfInBounds_toArray, List.set_cons_zero, List.set_cons_succ]
      refine wpAnyH_take (i := 3) (v := ?_) rfl (by kernel_rfl) (by kernel_rfl) (by kernel_rfl) (fun _ _ _ h => h) (Or.inl ⟨by kernel_rfl, ?_⟩) (by assumption) ?_
      rotate_left
      · (intro w hSw; (try dsimp only at hSw); first | (go_simp; done) | (go_simp; with_reducible rfl))
      try simp only [Act.put, List.setIfInBounds_toArray, List.set_cons_zero, List.set_cons_succ]
      refine wpAnyH_take (i := 5) (v := ?_) rfl (by kernel_rfl) (by kernel_rfl) (by kernel_rfl) (fun _ _ _ h => h) (Or.inl ⟨by kernel_rfl, ?_⟩) (by assumption) ?_
      rotate_left
      · (intro w hSw; (try dsimp only at hSw); first | (go_simp; done) | (go_simp; with_reducible rfl))
      try simp only [Act.put, List.setIfInBounds_toArray, List.set_cons_zero, List.set_cons_succ]
      refine wpAnyH_take (i := 6) (v := ?_) rfl (by kernel_rfl) (by kernel_rfl) (by kernel_rfl) (fun _ _ _ h => h) (Or.inl ⟨by kernel_rfl, ?_⟩) (by assumption) ?_
      rotate_left
      · (intro w hSw; (try dsimp only at hSw); first | (go_simp; done) | (go_simp; with_reducible rfl))
      try simp only [Act.put, List.setIfInBounds_toArray, List.set_cons_zero, List.set_cons_succ]
      refine wpAnyH_ready (rs := [4, 7]) (by kernel_rfl) (by simp) ?_
      refine AllReadyH.cons rfl (fun K hK => ?_) (AllReadyH.cons rfl (fun K hK => ?_) (AllReadyH.nil))
      · go_simp
        refine hK.out _ _ ?_ (fun hHeld => ?_)
        · ((try dsimp only); skip)
        clear hK K
        try simp only [Act.put, List.setIfInBounds_toArray, List.set_cons_zero, List.set_cons_succ]
        refine wpAnyH_ready (rs := [7]) (by kernel_rfl) (by simp) ?_
        refine AllReadyH.cons rfl (fun K hK => ?_) (AllReadyH.nil)
        go_simp
        refine hG.mono ?_
        rintro e w1 ⟨rfl, hb1⟩
        have H1k := Lib.hid (HC.out.keep ((Below.refl C.heap.size C).drew.trans hb1))
        have HBw1 := Lib.hid (HBC.out.trans (((Below.refl C.heap.size C).drew.trans hb1).mono HC.out.sq.hb))
        have x17' := H1k.out.sq.cell 17 _ rfl
        have xf17 := H1k.out.sq.fro 17
        have hown := H1k.out.sq.at Hrow.out
        have hA := addV base (M1.sa 2) acc.length (M1.sc 2) _ v.n pv w1 hown H1k.out.sq.hb (by have := Hg.out.1; omega)
        have HC17 : Hid (∀ w5, w1.grownBy w5 (Value.slice (M1.sa 2) acc.length (M1.sc 2)).ownBlock → w5.cell? ⟨E, 17, none⟩ = some (.slice (M1.sa 2) acc.length (M1.sc 2)) ∧ w5.frozen? ⟨E, 17, none⟩ = false) := Lib.hid fun w5 hg => by
          have hav := H1k.out.sq.fam.av 2
          rw [Hrow.out] at hav
          have e := (hg.block E H1k.out.sq.fam.el (fun e => hav e.symm)).trans H1k.out.sq.box
          exact ⟨Lib.cell_of_heap e 17, Lib.frozen_of_heap e 17⟩
        clear hG hown hb1
        try dsimp only
        refine hK.out _ _ ?_ (fun hHeld => ?_)
        · ((try dsimp only); skip)
        clear hK K
        try simp only [Act.put, List.setIfInBounds_toArray, List.set_cons_zero, List.set_cons_succ]
        refine wpAnyH_ready (rs := [8]) (by kernel_rfl) (by simp) ?_
        refine AllReadyH.cons rfl (fun K hK => ?_) (AllReadyH.nil)
        go_simp
        refine hA.mono ?_
        rintro e w5 ⟨g, c5, rfl, ho5, hg5, hat5⟩
        obtain ⟨y17', yf5⟩ := HC17.out w5 hg5
        have Ho5 := Lib.hid ho5
        have Hg5 := Lib.hid hg5
        have Hat5 := Lib.hid hat5
        clear ho5 hg5 hat5 hA
        try dsimp only
        refine hK.out _ _ ?_ (fun hHeld => ?_)
        · ((try dsimp only); skip)
        clear hK K
        try simp only [Act.put, List.setIfInBounds_toArray, List.set_cons_zero, List.set_cons_succ]
        refine wpAnyH_take (i := 9) (v := ?_) rfl (by kernel_rfl) (by kernel_rfl) (by kernel_rfl) (fun _ _ _ h => h) (Or.inl ⟨by kernel_rfl, ?_⟩) (by assumption) ?_
        rotate_left
        · (intro w hSw; (try dsimp only at hSw); first | (go_simp; done) | (go_simp; with_reducible rfl))
        try simp only [Act.put, List.setIfInBounds_toArray, List.set_cons_zero, List.set_cons_succ]
        refine wpAnyH_take (i := 10) (v := ?_) rfl (by kernel_rfl) (by kernel_rfl) (by kernel_rfl) (fun _ _ _ h => h) (Or.inl ⟨by kernel_rfl, ?_⟩) (by assumption) ?_
        rotate_left
        · (intro w hSw; (try dsimp only at hSw); first | (go_simp; done) | (go_simp; with_reducible rfl))
        try simp only [Act.put, List.setIfInBounds_toArray, List.set_cons_zero, List.set_cons_succ]
        refine wpAnyH_ready (rs := [11]) (by kernel_rfl) (by simp) ?_
        refine AllReadyH.cons rfl (fun K hK => ?_) (AllReadyH.nil)
        go_simp
        refine hK.out _ _ ?_ (fun hHeld => ?_)
        · ((try dsimp only); skip)
        clear hK K
        try simp only [Act.put, List.setIfInBounds_toArray, List.set_cons_zero, List.set_cons_succ]
        refine wpAnyH_done (by kernel_rfl) ?_ _
        go_wp2_with fail
        clear y17' yf5
        have hR := (H1k.out).row (r' := { r with args := acc ++ [v] }) 2 (by omega) g (acc.length + 1) c5 (by rw [Hrow.out]; exact Hg5.out) (by show Value.slice _ (acc ++ [_]).length _ = _; rw [List.length_append]; rfl)
          (by
            show w5.ownsRow base 156 2 (.slice (some ⟨g, 0, none⟩) (acc ++ [v]).length c5) (acc ++ [v]).length ((acc ++ [v]).flatMap (vCell M1.tb))
            have ho5 := Ho5.out
            rw [Hpv.out] at ho5
            rw [List.length_append, List.flatMap_append]
            exact ho5)
          (by rw [Hrow.out]; exact Hat5.out)
          (fun l hl hne => by rcases l with _ | _ | _ | _ | _ | l <;> first | rfl | omega)
          17 (.slice (some ⟨g, 0, none⟩) (acc.length + 1) c5) (by show _ = xCells { r with args := acc ++ [v] } fs.length (upM M1 2 (some ⟨g, 0, none⟩) c5); unfold xCells; rw [show ({ r with args := acc ++ [v] } : XR).args.length = acc.length + 1 by show (acc ++ [_]).length = _; rw [List.length_append]; rfl]; rfl)
          H1k.out.ol rfl rfl rfl rfl
        have HR := Lib.hid hR
        clear hR Ho5 Hg5 Hat5
        obtain ⟨Y, hY⟩ : ∃ Y, Y = w5.setCell ⟨E, 17, none⟩ (.slice (some ⟨g, 0, none⟩) (acc.length + 1) c5) := ⟨_, rfl⟩
        rw [← hY] at HR ⊢
        clear hY
        go_roundw
        case rel => exact ⟨i + 1, by omega, by go_num, Lib.hid ⟨_, _, acc ++ [v], HR.out.1.choose_spec, HBw1.out.trans HR.out.2.1, Hnx.out, Htb.out⟩⟩
        case measure => simp [intOf]; omega
      · go_simp
        refine hG.mono ?_
        rintro e w1 ⟨rfl, hb1⟩
        have H1k := Lib.hid (HC.out.keep ((Below.refl C.heap.size C).drew.trans hb1))
        have HBw1 := Lib.hid (HBC.out.trans (((Below.refl C.heap.size C).drew.trans hb1).mono HC.out.sq.hb))
        have x17' := H1k.out.sq.cell 17 _ rfl
        have xf17 := H1k.out.sq.fro 17
        have hown := H1k.out.sq.at Hrow.out
        have hA := addV base (M1.sa 2) acc.length (M1.sc 2) _ v.n pv w1 hown H1k.out.sq.hb (by have := Hg.out.1; omega)
        have HC17 : Hid (∀ w5, w1.grownBy w5 (Value.slice (M1.sa 2) acc.length (M1.sc 2)).ownBlock → w5.cell? ⟨E, 17, none⟩ = some (.slice (M1.sa 2) acc.length (M1.sc 2)) ∧ w5.frozen? ⟨E, 17, none⟩ = false) := Lib.hid fun w5 hg => by
          have hav := H1k.out.sq.fam.av 2
          rw [Hrow.out] at hav
          have e := (hg.block E H1k.out.sq.fam.el (fun e => hav e.symm)).trans H1k.out.sq.box
          exact ⟨Lib.cell_of_heap e 17, Lib.frozen_of_heap e 17⟩
        clear hG hown hb1
        try dsimp only
        refine hK.out _ _ ?_ (fun hHeld => ?_)
        · ((try dsimp only); skip)
        clear hK K
        try simp only [Act.put, List.setIfInBounds_toArray, List.set_cons_zero, List.set_cons_succ]
        refine wpAnyH_ready (rs := [4]) (by kernel_rfl) (by simp) ?_
        refine AllReadyH.cons rfl (fun K hK => ?_) (AllReadyH.nil)
        go_simp
        refine hK.out _ _ ?_ (fun hHeld => ?_)
        · ((try dsimp only); skip)
        clear hK K
        try simp only [Act.put, List.setIfInBounds_toArray, List.set_cons_zero, List.set_cons_succ]
        refine wpAnyH_ready (rs := [8]) (by kernel_rfl) (by simp) ?_
        refine AllReadyH.cons rfl (fun K hK => ?_) (AllReadyH.nil)
        go_simp
        refine hA.mono ?_
        rintro e w5 ⟨g, c5, rfl, ho5, hg5, hat5⟩
        obtain ⟨y17', yf5⟩ := HC17.out w5 hg5
        have Ho5 := Lib.hid ho5
        have Hg5 := Lib.hid hg5
        have Hat5 := Lib.hid hat5
        clear ho5 hg5 hat5 hA
        try dsimp only
        refine hK.out _ _ ?_ (fun hHeld => ?_)
        · ((try dsimp only); skip)
        clear hK K
        try simp only [Act.put, List.setIfInBounds_toArray, List.set_cons_zero, List.set_cons_succ]
        refine wpAnyH_take (i := 9) (v := ?_) rfl (by kernel_rfl) (by kernel_rfl) (by kernel_rfl) (fun _ _ _ h => h) (Or.inl ⟨by kernel_rfl, ?_⟩) (by assumption) ?_
        rotate_left
        · (intro w hSw; (try dsimp only at hSw); first | (go_simp; done) | (go_simp; with_reducible rfl))
        try simp only [Act.put, List.setIfInBounds_toArray, List.set_cons_zero, List.set_cons_succ]
        refine wpAnyH_take (i := 10) (v := ?_) rfl (by kernel_rfl) (by kernel_rfl) (by kernel_rfl) (fun _ _ _ h => h) (Or.inl ⟨by kernel_rfl, ?_⟩) (by assumption) ?_
        rotate_left
        · (intro w hSw; (try dsimp only at hSw); first | (go_simp; done) | (go_simp; with_reducible rfl))
        try simp only [Act.put, List.setIfInBounds_toArray, List.set_cons_zero, List.set_cons_succ]
        refine wpAnyH_ready (rs := [11]) (by kernel_rfl) (by simp) ?_
        refine AllReadyH.cons rfl (fun K hK => ?_) (AllReadyH.nil)
        go_simp
        refine hK.out _ _ ?_ (fun hHeld => ?_)
        · ((try dsimp only); skip)
        clear hK K
        try simp only [Act.put, List.setIfInBounds_toArray, List.set_cons_zero, List.set_cons_succ]
        refine wpAnyH_done (by kernel_rfl) ?_ _
        go_wp2_with fail
        clear y17' yf5
        have hR := (H1k.out).row (r' := { r with args := acc ++ [v] }) 2 (by omega) g (acc.length + 1) c5 (by rw [Hrow.out]; exact Hg5.out) (by show Value.slice _ (acc ++ [_]).length _ = _; rw [List.length_append]; rfl)
          (by
            show w5.ownsRow base 156 2 (.slice (some ⟨g, 0, none⟩) (acc ++ [v]).length c5) (acc ++ [v]).length ((acc ++ [v]).flatMap (vCell M1.tb))
            have ho5 := Ho5.out
            rw [Hpv.out] at ho5
            rw [List.length_append, List.flatMap_append]
            exact ho5)
          (by rw [Hrow.out]; exact Hat5.out)
          (fun l hl hne => by rcases l with _ | _ | _ | _ | _ | l <;> first | rfl | omega)
          17 (.slice (some ⟨g, 0, none⟩) (acc.length + 1) c5) (by show _ = xCells { r with args := acc ++ [v] } fs.length (upM M1 2 (some ⟨g, 0, none⟩) c5); unfold xCells; rw [show ({ r with args := acc ++ [v] } : XR).args.length = acc.length + 1 by show (acc ++ [_]).length = _; rw [List.length_append]; rfl]; rfl)
          H1k.out.ol rfl rfl rfl rfl
        have HR := Lib.hid hR
        clear hR Ho5 Hg5 Hat5
        obtain ⟨Y, hY⟩ : ∃ Y, Y = w5.setCell ⟨E, 17, none⟩ (.slice (some ⟨g, 0, none⟩) (acc.length + 1) c5) := ⟨_, rfl⟩
        rw [← hY] at HR ⊢
        clear hY
        go_roundw
        case rel => exact ⟨i + 1, by omega, by go_num, Lib.hid ⟨_, _, acc ++ [v], HR.out.1.choose_spec, HBw1.out.trans HR.out.2.1, Hnx.out, Htb.out⟩⟩
        case measure => simp [intOf]; omega
    · obtain rfl : i = al := by omega
      rw [List.drop_of_length_le (by rw [Hal.out]; exact Nat.le_refl _)] at hpu
      unfold putsX at hpu
      injection hpu with hpu
      subst hpu
      obtain ⟨tn, htn⟩ : ∃ tn : Nat, x.to_ = (tn : Int) := ⟨x.to_.toNat, by have := Ht.out.1; omega⟩
      have Htn := Lib.hid htn
      have hCd := HC.out.keep ((Below.refl C.heap.size C).drew)
      have HCd := Lib.hid hCd
      have x16 := HC.out.sq.cell 16 _ rfl
      have k11 := HC.out.sq.cell 11 _ rfl
      have k12 := HC.out.sq.cell 12 _ rfl
      have k13 := HC.out.sq.cell 13 _ rfl
      have k14 := HC.out.sq.cell 14 _ rfl
      have k15 := HC.out.sq.cell 15 _ rfl
      have hrow : F1 1 = ⟨97, 5, .slice (M1.sa 1) r.outer.length (M1.sc 1), r.outer.length, r.outer.flatMap cCell⟩ := hCd.fr 1 (by omega)
      have hown := hCd.sq.at hrow
      have hA := addC base (M1.sa 1) r.outer.length (M1.sc 1) _ (r.now.which : Int) (r.now.block : Int) (r.now.at_ : Int) (r.now.args : Int) (r.now.kept : Int) C.drew hown hCd.sq.hb (by have := Ht.out.2; omega)
      have Hrow := Lib.hid hrow
      obtain ⟨on, hon⟩ : ∃ on, on = r.outer.length := ⟨_, rfl⟩
      have hx16 : C.cell? ⟨E, 16, none⟩ = some (.slice (M1.sa 1) on (M1.sc 1)) := by rw [hon]; exact x16
      rw [← hon] at hA
      have HC16 : Hid (∀ w5, C.drew.grownBy w5 (Value.slice (M1.sa 1) on (M1.sc 1)).ownBlock → w5.cell? ⟨E, 16, none⟩ = some (.slice (M1.sa 1) on (M1.sc 1)) ∧ (w5.cell? ⟨E, 11, none⟩ = some (.int .i64 (r.now.which : Int)) ∧ w5.cell? ⟨E, 12, none⟩ = some (.int .i64 (r.now.block : Int)) ∧ w5.cell? ⟨E, 13, none⟩ = some (.int .i64 (r.now.at_ : Int)) ∧ w5.cell? ⟨E, 14, none⟩ = some (.int .i64 (r.now.args : Int)) ∧ w5.cell? ⟨E, 15, none⟩ = some (.int .i64 (r.now.kept : Int))) ∧ w5.frozen? ⟨E, 16, none⟩ = false) := Lib.hid fun w5 hg => by
        have hav := hCd.sq.fam.av 1
        rw [hrow] at hav
        have e := (hg.block E hCd.sq.fam.el (fun e => hav (by rw [← hon]; exact e.symm))).trans hCd.sq.box
        refine ⟨?_, ⟨Lib.cell_of_heap e 11, Lib.cell_of_heap e 12, Lib.cell_of_heap e 13, Lib.cell_of_heap e 14, Lib.cell_of_heap e 15⟩, Lib.frozen_of_heap e 16⟩
        rw [Lib.cell_of_heap e 16, hon]
        rfl
      have Hon := Lib.hid hon
      clear htn hCd x16 hrow hown hon HN hC1 hBC htb
      go_upto_region 6 with fail
      refine wp_region_held_drew (S := fun u : World => u.cell? ⟨E, 11, none⟩ = some (.int .i64 (r.now.which : Int)) ∧ u.cell? ⟨E, 12, none⟩ = some (.int .i64 (r.now.block : Int)) ∧ u.cell? ⟨E, 13, none⟩ = some (.int .i64 (r.now.at_ : Int)) ∧ u.cell? ⟨E, 14, none⟩ = some (.int .i64 (r.now.args : Int)) ∧ u.cell? ⟨E, 15, none⟩ = some (.int .i64 (r.now.kept : Int))) (by kernel_rfl) ⟨k11, k12, k13, k14, k15⟩ (fun hHeld => ?_)
      refine wpAnyH_take (i := 0) (v := ?_) rfl (by kernel_rfl) (by kernel_rfl) (by kernel_rfl) (fun _ _ _ h => h) (Or.inl ⟨by kernel_rfl, ?_⟩) (by assumption) ?_
      rotate_left
      · (intro w hSw; (try dsimp only at hSw); first | (go_simp; done) | (go_simp; with_reducible rfl))
      try simp only [Act.put, List.setIfInBounds_toArray, List.set_cons_zero, List.set_cons_succ]
      refine wpAnyH_take (i := 1) (v := ?_) rfl (by kernel_rfl) (by kernel_rfl) (by kernel_rfl) (fun _ _ _ h => h) (Or.inl ⟨by kernel_rfl, ?_⟩) (by assumption) ?_
      rotate_left
      · (intro w hSw; (try dsimp only at hSw); first | (go_simp; done) | (go_simp; with_reducible rfl))
      try simp only [Act.put, List.setIfInBounds_toArray, List.set_cons_zero, List.set_cons_succ]
      refine wpAnyH_take (i := 2) (v := ?_) rfl (by kernel_rfl) (by kernel_rfl) (by kernel_rfl) (fun _ _ _ h => h) (Or.inl ⟨by kernel_rfl, ?_⟩) (by assumption) ?_
      rotate_left
      · (intro w hSw; (try dsimp only at hSw); first | (go_simp; done) | (go_simp; with_reducible rfl))
      try simp only [Act.put, List.setIfInBounds_toArray, List.set_cons_zero, List.set_cons_succ]
      refine wpAnyH_take (i := 3) (v := ?_) rfl (by kernel_rfl) (by kernel_rfl) (by kernel_rfl) (fun _ _ _ h => h) (Or.inl ⟨by kernel_rfl, ?_⟩) (by assumption) ?_
      rotate_left
      · (intro w hSw; (try dsimp only at hSw); first | (go_simp; done) | (go_simp; with_reducible rfl))
      try simp only [Act.put, List.setIfInBounds_toArray, List.set_cons_zero, List.set_cons_succ]
      refine wpAnyH_take (i := 5) (v := ?_) rfl (by kernel_rfl) (by kernel_rfl) (by kernel_rfl) (fun _ _ _ h => h) (Or.inl ⟨by kernel_rfl, ?_⟩) (by assumption) ?_
      rotate_left
      · (intro w hSw; (try dsimp only at hSw); first | (go_simp; done) | (go_simp; with_reducible rfl))
      try simp only [Act.put, List.setIfInBounds_toArray, List.set_cons_zero, List.set_cons_succ]
      refine wpAnyH_take (i := 6) (v := ?_) rfl (by kernel_rfl) (by kernel_rfl) (by kernel_rfl) (fun _ _ _ h => h) (Or.inl ⟨by kernel_rfl, ?_⟩) (by assumption) ?_
      rotate_left
      · (intro w hSw; (try dsimp only at hSw); first | (go_simp; done) | (go_simp; with_reducible rfl))
      try simp only [Act.put, List.setIfInBounds_toArray, List.set_cons_zero, List.set_cons_succ]
      refine wpAnyH_take (i := 7) (v := ?_) rfl (by kernel_rfl) (by kernel_rfl) (by kernel_rfl) (fun _ _ _ h => h) (Or.inl ⟨by kernel_rfl, ?_⟩) (by assumption) ?_
      rotate_left
      · (intro w hSw; (try dsimp only at hSw); first | (go_simp; done) | (go_simp; with_reducible rfl))
      try simp only [Act.put, List.setIfInBounds_toArray, List.set_cons_zero, List.set_cons_succ]
      refine wpAnyH_take (i := 8) (v := ?_) rfl (by kernel_rfl) (by kernel_rfl) (by kernel_rfl) (fun _ _ _ h => h) (Or.inl ⟨by kernel_rfl, ?_⟩) (by assumption) ?_
      rotate_left
      · (intro w hSw; (try dsimp only at hSw); first | (go_simp; done) | (go_simp; with_reducible rfl))
      try simp only [Act.put, List.setIfInBounds_toArray, List.set_cons_zero, List.set_cons_succ]
      refine wpAnyH_ready (rs := [4]) (by kernel_rfl) (by simp) ?_
      refine AllReadyH.cons rfl (fun K hK => ?_) (AllReadyH.nil)
      have hs1 : C.drew.cell? ⟨E, 11, none⟩ = some (.int .i64 (r.now.which : Int)) ∧ C.drew.cell? ⟨E, 12, none⟩ = some (.int .i64 (r.now.block : Int)) ∧ C.drew.cell? ⟨E, 13, none⟩ = some (.int .i64 (r.now.at_ : Int)) ∧ C.drew.cell? ⟨E, 14, none⟩ = some (.int .i64 (r.now.args : Int)) ∧ C.drew.cell? ⟨E, 15, none⟩ = some (.int .i64 (r.now.kept : Int)) := ⟨k11, k12, k13, k14, k15⟩
      go_simp
      refine hK.out _ _ ?_ (fun hHeld => ?_)
      · ((try dsimp only); first | with_reducible assumption | exact hs1 | exact hs2 | exact hs3)
      clear hK K
      try simp only [Act.put, List.setIfInBounds_toArray, List.set_cons_zero, List.set_cons_succ]
      refine wpAnyH_ready (rs := [9]) (by kernel_rfl) (by simp) ?_
      refine AllReadyH.cons rfl (fun K hK => ?_) (AllReadyH.nil)
      go_simp
      refine hA.mono ?_
      rintro e w5 ⟨g, c5, rfl, ho5, hg5, hat5⟩
      obtain ⟨y16', hs2, yf5⟩ := HC16.out w5 hg5
      have Ho5 := Lib.hid ho5
      have Hg5 := Lib.hid hg5
      have Hat5 := Lib.hid hat5
      clear ho5 hg5 hat5 hA
      try dsimp only
      refine hK.out _ _ ?_ (fun hHeld => ?_)
      · ((try dsimp only); first | with_reducible assumption | exact hs1 | exact hs2 | exact hs3)
      clear hK K
      try simp only [Act.put, List.setIfInBounds_toArray, List.set_cons_zero, List.set_cons_succ]
      refine wpAnyH_take (i := 10) (v := ?_) rfl (by kernel_rfl) (by kernel_rfl) (by kernel_rfl) (fun _ _ _ h => h) (Or.inl ⟨by kernel_rfl, ?_⟩) (by assumption) ?_
      rotate_left
      · (intro w hSw; (try dsimp only at hSw); first | (go_simp; done) | (go_simp; with_reducible rfl))
      try simp only [Act.put, List.setIfInBounds_toArray, List.set_cons_zero, List.set_cons_succ]
      refine wpAnyH_take (i := 11) (v := ?_) rfl (by kernel_rfl) (by kernel_rfl) (by kernel_rfl) (fun _ _ _ h => h) (Or.inl ⟨by kernel_rfl, ?_⟩) (by assumption) ?_
      rotate_left
      · (intro w hSw; (try dsimp only at hSw); first | (go_simp; done) | (go_simp; with_reducible rfl))
      try simp only [Act.put, List.setIfInBounds_toArray, List.set_cons_zero, List.set_cons_succ]
      refine wpAnyH_ready (rs := [12]) (by kernel_rfl) (by simp) ?_
      refine AllReadyH.cons rfl (fun K hK => ?_) (AllReadyH.nil)
      have hs3 : (w5.setCell ⟨E, 16, none⟩ (.slice (some ⟨g, 0, none⟩) (on + 1) c5)).cell? ⟨E, 11, none⟩ = some (.int .i64 (r.now.which : Int)) ∧ (w5.setCell ⟨E, 16, none⟩ (.slice (some ⟨g, 0, none⟩) (on + 1) c5)).cell? ⟨E, 12, none⟩ = some (.int .i64 (r.now.block : Int)) ∧ (w5.setCell ⟨E, 16, none⟩ (.slice (some ⟨g, 0, none⟩) (on + 1) c5)).cell? ⟨E, 13, none⟩ = some (.int .i64 (r.now.at_ : Int)) ∧ (w5.setCell ⟨E, 16, none⟩ (.slice (some ⟨g, 0, none⟩) (on + 1) c5)).cell? ⟨E, 14, none⟩ = some (.int .i64 (r.now.args : Int)) ∧ (w5.setCell ⟨E, 16, none⟩ (.slice (some ⟨g, 0, none⟩) (on + 1) c5)).cell? ⟨E, 15, none⟩ = some (.int .i64 (r.now.kept : Int)) := ⟨(World.cell?_setCell_other _ _ _ _ (fun e => by have e2 := congrArg Addr.off e; simp at e2)).trans hs2.1, (World.cell?_setCell_other _ _ _ _ (fun e => by have e2 := congrArg Addr.off e; simp at e2)).trans hs2.2.1, (World.cell?_setCell_other _ _ _ _ (fun e => by have e2 := congrArg Addr.off e; simp at e2)).trans hs2.2.2.1, (World.cell?_setCell_other _ _ _ _ (fun e => by have e2 := congrArg Addr.off e; simp at e2)).trans hs2.2.2.2.1, (World.cell?_setCell_other _ _ _ _ (fun e => by have e2 := congrArg Addr.off e; simp at e2)).trans hs2.2.2.2.2⟩
      go_simp
      refine hK.out _ _ ?_ (fun hHeld => ?_)
      · ((try dsimp only); first | with_reducible assumption | exact hs1 | exact hs2 | exact hs3)
      clear hK K
      try simp only [Act.put, List.setIfInBounds_toArray, List.set_cons_zero, List.set_cons_succ]
      refine wpAnyH_done (by kernel_rfl) ?_ _
      go_upto_region 7 with fail
      clear y16' yf5 hs1 hs2 hs3 k11 k12 k13 k14 k15
      have hR := (HCd.out).row (r' := { r with args := acc, outer := r.outer ++ [r.now] }) 1 (by omega) g (r.outer.length + 1) c5 (by rw [Hrow.out]; rw [Hon.out] at Hg5; exact Hg5.out) (by show Value.slice _ (r.outer ++ [_]).length _ = _; rw [List.length_append]; rfl)
        (by
          show w5.ownsRow base 97 5 (.slice (some ⟨g, 0, none⟩) (r.outer ++ [r.now]).length c5) (r.outer ++ [r.now]).length ((r.outer ++ [r.now]).flatMap cCell)
          have ho5 := Ho5.out
          rw [Hon.out] at ho5
          rw [List.length_append, List.flatMap_append]
          exact ho5)
        (by rw [Hrow.out]; rw [Hon.out] at Hat5; exact Hat5.out)
        (fun l hl hne => by rcases l with _ | _ | _ | _ | _ | l <;> first | rfl | omega)
        16 (.slice (some ⟨g, 0, none⟩) (on + 1) c5) (by rw [Hon.out]; show _ = xCells { r with args := acc, outer := r.outer ++ [r.now] } fs.length (upM M1 1 (some ⟨g, 0, none⟩) c5); unfold xCells; rw [show ({ r with args := acc, outer := r.outer ++ [r.now] } : XR).outer.length = r.outer.length + 1 by show (r.outer ++ [_]).length = _; rw [List.length_append]; rfl]; rfl)
        (by show (r.outer ++ [_]).length ≤ _; rw [List.length_append]; have := Ht.out.2; simp only [List.length_cons, List.length_nil]; omega) rfl rfl rfl rfl
      obtain ⟨Y, hY⟩ : ∃ Y, Y = w5.setCell ⟨E, 16, none⟩ (.slice (some ⟨g, 0, none⟩) (on + 1) c5) := ⟨_, rfl⟩
      rw [← hY] at hR ⊢
      obtain ⟨⟨F2, hF2⟩, hb2, -, -⟩ := hR
      have hbY : Below base w Y := HBC.out.trans (((Below.refl base C).drew).trans hb2)
      have hE := enter_c hF2 tn beg
      have c4 := (HI.out Y hbY).c4
      rw [Htn.out] at c4
      have HbY := Lib.hid hbY
      clear hY hF2 hb2 hbY Ho5 Hg5 Hat5
      go_wp2_with (go_at_call 48; refine hE.mono ?_; rintro e w6 ⟨rfl, h6, hb6⟩; have H6 := Lib.hid h6; have Hb6 := Lib.hid hb6; clear h6 hb6 hE)
      try simp only [Exit.inBlock, Exit.then]
      first
        | refine bodyPost_ret (results_none rfl _ _ _) rfl ?_
        | refine bodyPost_end (results_none rfl _ _ _) rfl ?_
      have h6 := H6.out
      rw [Hbeg.out] at h6
      rw [show x.to_.toNat = tn by rw [Htn.out]; rfl]
      exact ⟨rfl, ⟨_, _, h6⟩, HbY.out.trans Hb6.out⟩
end
end Go.Proofs.Ytagagpappjkgbaa
