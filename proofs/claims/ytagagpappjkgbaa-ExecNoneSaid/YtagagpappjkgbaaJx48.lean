/-
  Programs that may be: Prog, where all functions are declared.
-/
import Derived.Test.YtagagpappjkgbaaJx28
namespace Go.Proofs.Ytagagpappjkgbaa
set_option linter.unusedVariables false
set_option linter.unusedSimpArgs false
open Go.RowKit

theorem SFs.mono {n0 n1 : Nat} {w : World} {v : Value} {l : List SF} (h : SFs n0 w v l) (hn : n0 ≤ n1) : SFs n1 w v l := by
  obtain ⟨A, c, hv, hr⟩ := h
  refine ⟨A, c, hv, fun hp => ?_⟩
  obtain ⟨b, o, hA, hbn, hc⟩ := hr hp
  refine ⟨b, o, hA, by omega, fun j d hd => ?_⟩
  obtain ⟨s, pv, iv, bv, h0, h1, h2, h3, h4, h5, h6, h7⟩ := hc j d hd
  exact ⟨s, pv, iv, bv, h0, h1, h2, h3, h4, h5.mono hn, h6.mono hn, h7.mono hn⟩
/-- The first flaw, and where, of what Func answers. -/
def flawAt : Nat → List Int → Int × Int
  | _, [] => (0, 0)
  | i, a :: l => if a = 0 then flawAt (i + 1) l else (a, (i : Int))
set_option maxRecDepth 100000 in
set_option maxHeartbeats 8000000 in
theorem prog_t (fA : Option Addr) (fn fc : Nat) (mn : Int) (fs : List SF) (ans : List Int) (w : World) (hf : SFs w.heap.size w (.slice fA fn fc) fs) (hl : fn = fs.length) (hfb : fn ≤ 1048576) (hpl : ∀ f ∈ fs, f.params.length ≤ 1048576) (hb : beginsP fs mn = true) (hd : ∀ f ∈ fs, declaredP f.params f.ret = true) (hal : ans.length = fn)
    (hF : ∀ (k : Nat) (a : Int), ans[k]? = some a → (∀ j, j < k → ans.getD j 0 = 0) → ∀ A, Below w.heap.size w A → Calls Try.prog 76 #[.agg #[.slice fA fn fc, .int .i64 mn], .int .i64 (k : Int)] A fun e w' => e = .returned (.int .i64 a) ∧ Below A.heap.size A w') :
    Calls Try.prog 46 #[.agg #[.slice fA fn fc, .int .i64 mn]] w fun e w' => e = .returned (.tuple #[.int .i64 (flawAt 0 ans).1, .int .i64 (flawAt 0 ans).2]) ∧ Below w.heap.size w w' := by
  obtain ⟨W, hW, hbW, hzW, h0W⟩ := gr_one w #[.slice fA fn fc, .int .i64 mn] 36
  have hB := begins_g fA fn fc mn fs W ((hf.keep hbW).mono (by omega)) hl hfb
  rw [hb] at hB
  have HK : Hid (∀ A, Below W.heap.size W A → Below w.heap.size w A ∧ A.cell? ⟨w.heap.size, 0, none⟩ = some (.slice fA fn fc) ∧ A.cell? ⟨w.heap.size, 1, none⟩ = some (.int .i64 mn)) := Lib.hid fun A hA => by
    have e := (hA.block w.heap.size (by omega)).trans h0W
    exact ⟨hbW.trans (hA.mono hbW.size), Lib.cell_of_heap e 0, Lib.cell_of_heap e 1⟩
  have HR : Hid (∀ A, Below w.heap.size w A → SFs w.heap.size A (.slice fA fn fc) fs) := Lib.hid fun A hA => hf.keep hA
  have Hl := Lib.hid hl
  have Hpl := Lib.hid hpl
  have Hd := Lib.hid hd
  have Hal := Lib.hid hal
  have HF := Lib.hid hF
  obtain ⟨r1, hr1⟩ : ∃ r, r = (flawAt 0 ans).1 := ⟨_, rfl⟩
  obtain ⟨r2, hr2⟩ : ∃ r, r = (flawAt 0 ans).2 := ⟨_, rfl⟩
  rw [← hr1, ← hr2]
  have Hres0 : Hid (flawAt 0 (ans.drop 0) = (r1, r2)) := Lib.hid (by rw [hr1, hr2]; rfl)
  obtain ⟨-, u0, u1⟩ := HK.out W (Below.refl _ _)
  have HW := Lib.hid hW
  clear hf hl hpl hb hd hal hF hr1 hr2 hW hbW hzW h0W
  go_enter Try.func46, Try.ntmps46
  go_upto_region 1 with fail
  rw [← HW.out]
  go_upto_region 3 with (go_at_call 74; refine hB.mono ?_; rintro e X ⟨rfl, hbX⟩; have HbX := Lib.hid hbX; clear hbX hB)
  clear u0 u1
  obtain ⟨hXw, u0, u1⟩ := HK.out X HbX.out
  have HX := Lib.hid hXw
  clear hXw
  go_upto_block 0 with fail
  clear u0 u1
  go_wp2_with fail
  go_loopw [14] (fun u14 wr => ∃ i : Nat, i ≤ fn ∧ u14 = .int .i64 i ∧ Hid (Below W.heap.size W wr)) (fun u14 _ => fn - (intOf u14).toNat)
  case atStart => exact ⟨0, Nat.zero_le _, rfl, HbX⟩
  case round =>
    obtain ⟨i, hi, rfl, HN⟩ := hrel
    obtain ⟨C, hC⟩ : ∃ C, C = wr := ⟨_, rfl⟩
    rw [← hC] at HN ⊢
    clear hC
    by_cases hli : i < fn
    · have hil : i < fs.length := by rw [← Hl.out]; exact hli
      obtain ⟨hCw, -, -⟩ := HK.out C HN.out
      obtain ⟨b, o, s, pA, pc, iA, ic, bA, bc, rfl, hbn, c0, c1, c2, c3, c4, hgp, -, -⟩ := (HR.out C hCw).at hil
      obtain ⟨d, hd⟩ : ∃ d, d = fs[i] := ⟨_, rfl⟩
      have hdm : d ∈ fs := by rw [hd]; exact List.getElem_mem hil
      rw [← hd] at c1 c2 c3 c4 hgp
      have hdec := Hd.out d hdm
      obtain ⟨Z, hZ, hbZ, hzZ, h0Z⟩ := gr_one C #[.string s, .slice pA d.params.length pc, .int .i64 d.ret, .slice iA d.ins.length ic, .slice bA d.blocks.length bc] 68
      obtain ⟨z0, z1, z2, z3, z4, -⟩ := gr_five h0Z
      have hD := declared_g s pA d.params.length pc d.ret iA d.ins.length ic bA d.blocks.length bc d.params Z ((hgp.keep (hbZ.mono hCw.size)).mono (by have := hCw.size; omega)) (Hpl.out d hdm)
      rw [hdec] at hD
      have HN2 : Hid (∀ V, Below Z.heap.size Z V → Below W.heap.size W V) := Lib.hid fun V hV => HN.out.trans ((hbZ.trans (hV.mono hbZ.size)).mono HN.out.size)
      have HZ := Lib.hid hZ
      clear hd hdm hdec hZ hbZ hzZ h0Z hgp hbn hil hCw HN
      go_upto_region 6 with fail
      rw [← HZ.out]
      clear c0 c1 c2 c3 c4
      go_wp2_with (go_at_call 75; refine hD.mono ?_; rintro e w5 ⟨rfl, hb5⟩; have HN5 := Lib.hid (HN2.out w5 hb5); clear hb5 hD)
      go_roundw
      case rel => exact ⟨i + 1, by omega, by go_num, HN5⟩
      case measure => simp [intOf]; omega
    · obtain rfl : i = fn := by omega
      obtain ⟨hCw, u0, u1⟩ := HK.out C HN.out
      have hs0 : Hid (flawAt 0 (ans.drop 0) = (r1, r2) ∧ (∀ j, j < 0 → ans.getD j 0 = 0) ∧ Below w.heap.size w C) := Lib.hid ⟨Hres0.out, fun j hj => absurd hj (Nat.not_lt_zero _), hCw⟩
      clear hCw
      go_upto_block 2 with fail
      clear u0 u1
      go_wp2_with fail
      go_loopw [27] (fun u27 wr => ∃ k : Nat, k ≤ i ∧ u27 = .int .i64 k ∧ Hid (flawAt k (ans.drop k) = (r1, r2) ∧ (∀ j, j < k → ans.getD j 0 = 0) ∧ Below w.heap.size w wr ∧ Below W.heap.size W wr)) (fun u27 _ => i - (intOf u27).toNat)
      case atStart => exact ⟨0, Nat.zero_le _, rfl, Lib.hid ⟨hs0.out.1, hs0.out.2.1, hs0.out.2.2, HN.out⟩⟩
      case round =>
        clear hs0
        obtain ⟨k, hk, rfl, HM⟩ := hrel
        obtain ⟨D, hD⟩ : ∃ D, D = wr := ⟨_, rfl⟩
        rw [← hD] at HM ⊢
        clear hD
        by_cases hlk : k < i
        · obtain ⟨hfl, hz, hDw, hDW⟩ := HM.out
          obtain ⟨-, u0, u1⟩ := HK.out D hDW
          have hka : k < ans.length := by rw [Hal.out]; exact hlk
          obtain ⟨a, ha⟩ : ∃ a, a = ans[k] := ⟨_, rfl⟩
          have hE := HF.out k a (by rw [ha]; exact List.getElem?_eq_getElem hka) hz D hDw
          rw [List.drop_eq_getElem_cons hka, ← ha] at hfl
          unfold flawAt at hfl
          have hgd : ans.getD k 0 = a := by rw [ha]; simp [List.getD, hka]
          have Hgd := Lib.hid hgd
          have Hz := Lib.hid hz
          have HDw := Lib.hid hDw
          have HDW := Lib.hid hDW
          clear ha hgd hz hDw hDW hka HM
          by_cases ha0 : a = 0
          · rw [if_pos ha0] at hfl
            have d1 : (a != 0) = false := by rw [ha0]; rfl
            have Hfl := Lib.hid hfl
            have Ha := Lib.hid ha0
            clear hfl ha0
            go_wp2_with (go_at_call 76; refine hE.mono ?_; rintro e w7 ⟨rfl, hb7⟩; have HM7 : Hid (flawAt (k + 1) (ans.drop (k + 1)) = (r1, r2) ∧ (∀ j, j < k + 1 → ans.getD j 0 = 0) ∧ Below w.heap.size w w7 ∧ Below W.heap.size W w7) := (Lib.hid ⟨Hfl.out, fun j hj => by
                rcases Nat.lt_or_ge j k with h | h
                · exact Hz.out j h
                · obtain rfl : j = k := by omega
                  exact Hgd.out.trans Ha.out, HDw.out.trans (hb7.mono HDw.out.size), HDW.out.trans (hb7.mono HDW.out.size)⟩); clear hb7 hE)
            go_roundw
            case rel => exact ⟨k + 1, by omega, by go_num, HM7⟩
            case measure => simp [intOf]; omega
          · rw [if_neg ha0] at hfl
            have d1 : (a != 0) = true := by simpa using ha0
            have e1 : r1 = a := (congrArg Prod.fst hfl).symm
            have e2 : r2 = (k : Int) := (congrArg Prod.snd hfl).symm
            subst e1 e2
            clear hfl ha0
            go_wp2_with (go_at_call 76; refine hE.mono ?_; rintro e w7 ⟨rfl, hb7⟩; have Hb7 := Lib.hid (HDw.out.trans (hb7.mono HDw.out.size)); clear hb7 hE)
            go_ret2
            exact ⟨rfl, Hb7.out⟩
        · obtain rfl : k = i := by omega
          have hfl := HM.out.1
          rw [List.drop_of_length_le (by rw [Hal.out]; exact Nat.le_refl _)] at hfl
          unfold flawAt at hfl
          have e1 : r1 = 0 := (congrArg Prod.fst hfl).symm
          have e2 : r2 = 0 := (congrArg Prod.snd hfl).symm
          subst e1 e2
          clear hfl
          go_wp2_with fail
          go_ret2
          exact ⟨rfl, HM.out.2.2.1⟩
end Go.Proofs.Ytagagpappjkgbaa
