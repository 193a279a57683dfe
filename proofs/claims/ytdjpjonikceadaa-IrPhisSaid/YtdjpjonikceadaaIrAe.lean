/-
  IrPhis: the law's blocks are made and go to the last one.
-/
import Derived.Test.YtdjpjonikceadaaIrAd
namespace Go.Proofs.Ytdjpjonikceadaa
open Go.RowKit
set_option linter.unusedVariables false
set_option linter.unusedSimpArgs false

set_option maxRecDepth 100000 in
set_option maxHeartbeats 32000000 in
theorem irPhis_any (many at_ : Int) (w : World) :
    Calls Try.prog 4 #[.int .i64 many, .int .i64 at_] w fun e w' => e = .returned (.bool true) ∧ Below w.heap.size w w' := by
  have hNw := new_zero w
  obtain ⟨a, ha, hand⟩ := and3 many
  obtain ⟨n, hn⟩ : ∃ n, n = 2 + a := ⟨_, rfl⟩
  have hn2 : wrap64 (2 + (a : Int)) = (n : Int) := by
    subst hn
    unfold wrap64
    omega
  have hnl : 2 ≤ n ∧ n ≤ 5 := by omega
  have Hnl := Lib.hid hnl
  have hn5 : n ≤ 5 := hnl.2
  have Hn2 := Lib.hid hn2
  have Hand := Lib.hid hand
  clear hn hn2 hnl hand ha
  go_enter Try.func4, Try.ntmps4
  go_upto_region 3 with (go_at_call 8; refine hNw.mono ?_; rintro e w1 ⟨E, IV, BV, rfl, hb1, hlo, hE1, hF1⟩; have Hb1 := Lib.hid hb1; have Hlo := Lib.hid hlo; have HE1 := Lib.hid hE1; have HF1 := Lib.hid hF1; clear hb1 hlo hE1 hF1 hNw)
  rw [Hand.out, Hn2.out]
  obtain ⟨base, hbase⟩ : ∃ base, base = w.heap.size := ⟨_, rfl⟩
  rw [← hbase] at HF1
  have Hbase := Lib.hid hbase
  clear hbase
  go_wp2
  go_loopw [7] (fun u7 wr => ∃ (i : Nat) (BV' : Value) (F : Nat → Rw), i ≤ n + 1 ∧ u7 = .int .i64 i ∧ Hid (EdC wr E IV BV') ∧ Hid (Fam wr base E F) ∧ Hid (F 0 = ⟨46, 5, BV', i, zeros i⟩) ∧ Hid (∀ k, k ≠ 0 → F k = F00 IV BV k) ∧ Hid (Below w.heap.size w wr) ∧ Hid (0 < i → ∃ g c, BV' = .slice (some ⟨g, 0, none⟩) i c)) (fun u7 _ => n + 1 - (intOf u7).toNat)
  case atStart => exact ⟨0, BV, _, Nat.zero_le _, rfl, HE1, HF1, Lib.hid rfl, Lib.hid (fun _ _ => rfl), Hb1, Lib.hid (fun h => by omega)⟩
  case round =>
    obtain ⟨i, BV', F, hi, rfl, HE, HF, H0, HFk, HB, HBV⟩ := hrel
    by_cases hlt : i ≤ n
    · have hbl := block_new E base i IV BV' (zeros i) F wr HE.out HF.out H0.out (by rw [Hbase.out]; exact HB.out.size) (by have := Hnl.out; omega)
      have l1 : (i : Int) ≤ n := by omega
      go_wp2_with (go_at_call 9; refine hbl.mono ?_; rintro e w2 ⟨rfl, hd2, g, c, hE2, hF2⟩; have Hd2 := Lib.hid hd2; have HE2 := Lib.hid hE2; have HF2 := Lib.hid hF2; clear hd2 hE2 hF2 hbl)
      go_roundw
      case rel => exact ⟨i + 1, _, _, by omega, by go_num, HE2, HF2, Lib.hid (by rw [upR_at, zeros_succ]), Lib.hid (fun k hk => by rw [upR_off _ _ _ _ hk]; exact HFk.out k hk), Lib.hid (Hd2.out.below HB.out Hlo.out (by rw [Hbase.out]; exact Nat.le_refl _)), Lib.hid (fun _ => ⟨g, c, rfl⟩)⟩
      case measure => simp [intOf]; omega
    · obtain rfl : i = n + 1 := by omega
      obtain ⟨g, cB, hBV⟩ := HBV.out (by omega)
      subst hBV
      have hL0 : LS wr E base n g cB F IV (zeros (n + 1)) (fun j => decide (j < 0)) (rng 0) [] := LS.zero HE.out HF.out H0.out HFk.out
      have l1 : ¬ (((n + 1 : Nat) : Int) ≤ n) := by omega
      obtain ⟨A, hA, hbA, hzA, h0A⟩ := r_one_al wr #[] 3
      have hbw : base ≤ wr.heap.size := by rw [Hbase.out]; exact HB.out.size
      have hown3 : A.ownsRow base 3 1 (.slice (some ⟨wr.heap.size, 0, none⟩) 0 0) 0 [] := by rw [hA]; exact World.ownsRow_made wr #[] 0 hbw (by decide) rfl
      have hF3 := HF.out.grown 3 (w' := A) ⟨hbA.os, hbA.tape, hbA.output, hbA.size, fun k hk _ => hbA.block k hk⟩ (rowI (.slice (some ⟨wr.heap.size, 0, none⟩) 0 0) []) hown3 (fun g' e => by
        have e2 : some wr.heap.size = some g' := e
        injection e2 with e2
        exact .inr (by omega))
      have hL1 := hL0.row (w' := A) ((hbA.block E HF.out.el).trans HE.out) hF3 (fun k h1 h2 h3 => upR_off _ _ _ _ h3)
      have HL1 := Lib.hid hL1
      have H3 : Hid (upR F 3 (rowI (.slice (some ⟨wr.heap.size, 0, none⟩) 0 0) []) 3 = rowI (.slice (some ⟨wr.heap.size, 0, none⟩) 0 0) (hun 0)) := Lib.hid (upR_at _ _ _)
      have H1 : Hid (upR F 3 (rowI (.slice (some ⟨wr.heap.size, 0, none⟩) 0 0) []) 1 = ⟨38, 5, IV, 0, []⟩) := Lib.hid (by rw [upR_off _ _ _ _ (by decide), HFk.out 1 (by decide)]; rfl)
      have H2 : Hid (upR F 3 (rowI (.slice (some ⟨wr.heap.size, 0, none⟩) 0 0) []) 2 = ⟨3, 1, .slice none 0 0, 0, []⟩) := Lib.hid (by rw [upR_off _ _ _ _ (by decide), HFk.out 2 (by decide)]; rfl)
      have HBA := Lib.hid (HB.out.trans (hbA.mono HB.out.size))
      have HA := Lib.hid hA
      clear hL0 hA hbA hzA h0A hbw hown3 hF3 hL1 HBV HE HF H0 HFk HB
      go_upto_region 8 with fail
      rw [← HA.out]
      go_wp2
      go_loopw [8, 9] (fun u8 u9 wr => ∃ (i : Nat) (AV : Value) (F : Nat → Rw) (bs : List Value), i ≤ n ∧ u9 = .int .i64 i ∧ u8 = AV ∧ Hid (LS wr E base n g cB F IV bs (fun j => decide (j < i)) (rng i) []) ∧ Hid (F 3 = rowI AV (hun i)) ∧ Hid (F 1 = ⟨38, 5, IV, 0, []⟩) ∧ Hid (F 2 = ⟨3, 1, .slice none 0 0, 0, []⟩) ∧ Hid (Below w.heap.size w wr)) (fun _ u9 _ => n - (intOf u9).toNat)
      case atStart => exact ⟨0, _, _, _, Nat.zero_le _, rfl, rfl, HL1, H3, H1, H2, HBA⟩
      case round =>
        clear HL1 H3 H1 H2 HBA l1
        obtain ⟨i, AV, F2, bs, hi2, rfl, rfl, HL, H3, H1, H2, HB⟩ := hrel
        by_cases hlt2 : i < n
        · have hJ := jump_any (n : Int) wr
          have hao : wr.ownsRow base 3 1 u8 i (ints (hun i)) := by
            have h := HL.out.f.at H3.out
            unfold rowI at h
            simp only [hun_len] at h
            exact h
          obtain ⟨AA, AC, hAV⟩ := own_slice hao
          subst hAV
          have l1 : (i : Int) < n := by omega
          have hw : wrap64 (100 + (i : Int)) = 100 + i := by have := Hnl.out; unfold wrap64; omega
          have hlen := hun_len i
          have hbw : base ≤ wr.heap.size := by rw [Hbase.out]; exact HB.out.size
          have hsrc := HL.out.src i hlt2
          have hgl := ((HL.out.f.at HL.out.f0).lt g rfl).2
          have HendQ : Hid (∀ w2 t, Below wr.heap.size wr w2 → w2.heap[t]? = some (.cells #[.int .i64 n] 3 (0, 0)) → wr.heap.size ≤ t → Calls Try.prog 10 #[.pointer (some ⟨E, 0, none⟩), .int .i64 i, .agg #[.int .i64 1, .int .i64 (-1), .slice (some ⟨t, 0, none⟩) 1 1]] w2 fun e w' => e = .returned (.tuple #[]) ∧ Bd E base w2 w' ∧ ∃ F' bs', LS w' E base n g cB F' IV bs' (fun j => decide (j < i + 1)) (rng (i + 1)) [] ∧ (∀ k, k = 1 ∨ k = 2 ∨ k = 3 → F' k = F2 k)) := Lib.hid (fun w2 t hb2 ht htl => by
            have hLk := HL.out.keep hb2
            refine (end_jump 4 (10 + i) (by decide) (by omega) (by omega) E base (n + 1) i n g cB (rng i).length t IV (F2 4).v bs (ints (rng i)) F2 w2 hLk.c hLk.f hLk.f0 hLk.f4 (by omega) (by omega) (by have h := hsrc.2.2.1; simpa using h) hLk.d1 (Nat.le_trans hbw hb2.size) (by rw [rng_len]; have := Hnl.out; omega) ht (by omega)).mono ?_
            rintro e w3 ⟨rfl, hd3, hE3, q, d, q2, d2, hF3⟩
            obtain ⟨F', bs', hL3, hFx⟩ := hLk.goes hlt2 hE3 hF3
            exact ⟨rfl, hd3, F', bs', hL3.up_eq (fun j => by by_cases h : j = i <;> simp [h] <;> omega) (by rw [rng_succ]), hFx⟩)
          clear hsrc hgl hao
          go_upto_region 12 with first
            | (go_at_call 11; refine hJ.mono ?_; rintro e w2 ⟨t, rfl, hb2, ht2, hlt3⟩; have hEnd := HendQ.out w2 t hb2 ht2 hlt3; have Hb2 := Lib.hid hb2; clear hb2 ht2 hlt3 hJ)
            | (go_at_call 10; refine hEnd.mono ?_; rintro e w3 ⟨rfl, hd3, F', bs', hL3, hFx⟩; have HL3 := Lib.hid hL3; have HFx := Lib.hid hFx; have HB3 := Lib.hid (hd3.below (HB.out.trans (Hb2.out.mono HB.out.size)) Hlo.out (by rw [Hbase.out]; exact Nat.le_refl _)); clear hd3 hL3 hFx hEnd)
          have h33 : F' 3 = rowI (.slice AA i AC) (hun i) := (HFx.out 3 (.inr (.inr rfl))).trans H3.out
          have hao3 : w3.ownsRow base 3 1 (.slice AA i AC) i (ints (hun i)) := by
            have h := HL3.out.f.at h33
            unfold rowI at h
            simp only [hun_len] at h
            exact h
          have hbw3 : base ≤ w3.heap.size := by rw [Hbase.out]; exact HB3.out.size
          obtain ⟨A2, hA, hbA, hzA, h0A⟩ := r_one_al w3 #[.int .i64 (100 + (i : Int))] 3
          have HOW := Lib.hid (own_up hao3 hbA)
          have HNW := Lib.hid (World.news_of_block h0A)
          have HOn : Hid (∀ u ∈ ([.int .i64 (100 + (i : Int))] : List Value), u.oneCell' = true) := Lib.hid (by intro u hu; simp at hu; subst hu; rfl)
          have hsz2 : base ≤ A2.heap.size := by omega
          obtain ⟨i0, hi0, hz0, hz1, hz2⟩ := info_parts infoInt
          have Hi := Lib.hid hi0
          have Hz0 := Lib.hid hz0
          have Hz1 := Lib.hid hz1
          have Hz2 := Lib.hid hz2
          have HbA := Lib.hid hbA
          have HzA := Lib.hid hzA
          have H33 := Lib.hid h33
          have Hbw3 := Lib.hid hbw3
          have Hhl : Hid (i + 1 ≤ maxLen ∧ (i + 1) * 8 ≤ 140737488355328) := Lib.hid (by unfold maxLen; omega)
          rw [hA] at HOW HNW hsz2
          have HA2 := Lib.hid hA
          clear hA hbA hzA h0A hi0 hz0 hz1 hz2 h33 hao3 hbw3 hlen hbw
          go_wp2_with (at_builtin; refine wpList_append_lies _ rfl (.tmp 37) (.tmp 40) 26 rfl base 3 i0 (.int .i64 0) 1 8 Try.underlying26 Hi.out Hz0.out Hz1.out Hz2.out rfl (by decide) (.slice AA i AC) i (ints (hun i)) rfl HOW.out ⟨w3.heap.size, 0, none⟩ 1 1 [.int .i64 (100 + (i : Int))] rfl rfl HNW.out HOn.out (by decide) Hhl.out.1 Hhl.out.2 hsz2 _ rfl ?_)
          intro gp cp w4 hown4 hgrow hat hlt4
          rw [← HA2.out] at hgrow
          clear HOW HNW hsz2
          have hg4 : w3.grownBy w4 (F' 3).v.ownBlock := by rw [H33.out]; exact grown_below HbA.out hgrow
          have hF4 := HL3.out.f.grown 3 hg4 (rowI (.slice (some ⟨gp, 0, none⟩) (i + 1) cp) (hun (i + 1))) (by
            have e : ints (hun (i + 1)) = ints (hun i) ++ [.int .i64 (100 + (i : Int))] := by rw [hun_succ]; simp [ints]
            unfold rowI
            simp only
            rw [e, hun_len]
            exact hown4) (fun g' e => by
            have e2 : some gp = some g' := e
            injection e2 with e2
            subst e2
            rw [H33.out]
            rcases hat with h | h
            · exact .inl h
            · exact .inr (by omega))
          have hd4 : Bd E base w3 w4 := Bd.of_grown hg4 (fun g' e => by rw [H33.out] at e; exact ((HL3.out.f.at H33.out).lt g' e).1) Hbw3.out
          have hE4 : EdC w4 E IV (.slice (some ⟨g, 0, none⟩) (n + 1) cB) := (hg4.block E HL3.out.f.el (fun e => HL3.out.f.av 3 e.symm)).trans HL3.out.c
          have hL4 := HL3.out.row (w' := w4) hE4 hF4 (fun k h1 h2 h3 => upR_off _ _ _ _ h3)
          have HL4 := Lib.hid hL4
          have HB4 := Lib.hid (hd4.below HB3.out Hlo.out (by rw [Hbase.out]; exact Nat.le_refl _))
          have H14 : Hid (upR F' 3 (rowI (.slice (some ⟨gp, 0, none⟩) (i + 1) cp) (hun (i + 1))) 1 = ⟨38, 5, IV, 0, []⟩) := Lib.hid (by rw [upR_off _ _ _ _ (by decide), HFx.out 1 (.inl rfl)]; exact H1.out)
          have H24 : Hid (upR F' 3 (rowI (.slice (some ⟨gp, 0, none⟩) (i + 1) cp) (hun (i + 1))) 2 = ⟨3, 1, .slice none 0 0, 0, []⟩) := Lib.hid (by rw [upR_off _ _ _ _ (by decide), HFx.out 2 (.inr (.inl rfl))]; exact H2.out)
          have H34 : Hid (upR F' 3 (rowI (.slice (some ⟨gp, 0, none⟩) (i + 1) cp) (hun (i + 1))) 3 = rowI (.slice (some ⟨gp, 0, none⟩) (i + 1) cp) (hun (i + 1))) := Lib.hid (upR_at _ _ _)
          clear hown4 hgrow hat hlt4 hg4 hF4 hd4 hE4 hL4
          go_wp2
          go_roundw
          case rel => exact ⟨i + 1, _, _, _, by omega, by go_num, rfl, HL4, H34, H14, H24, HB4⟩
          case measure => simp [intOf]; omega
        · have hin : n = i := by omega
          subst hin
          have hao : wr.ownsRow base 3 1 u8 n (ints (hun n)) := by
            have h := HL.out.f.at H3.out
            unfold rowI at h
            simp only [hun_len] at h
            exact h
          obtain ⟨AA, AC, hAV⟩ := own_slice hao
          subst hAV
          have hIo := HL.out.f.at H1.out
          obtain ⟨VI, CI, hIV⟩ := own_slice (show wr.ownsRow base 38 5 IV 0 [] from hIo)
          subst hIV
          have hLo : wr.ownsRow base 3 1 (F2 5).v 0 [] := by
            have h := HL.out.f.at HL.out.f5
            exact h
          obtain ⟨V5, C5, hLv⟩ := own_slice hLo
          obtain ⟨a3, c3, hA3, -, -⟩ := hao.form (by have := Hnl.out; omega)
          injection hA3 with e1 e2 e3
          subst e1
          have hbw : base ≤ wr.heap.size := by rw [Hbase.out]; exact HB.out.size
          have hAdd := add_first 5 (by decide) E base (n + 1) n g cB a3 AC (hun n) V5 C5 VI CI bs F2 wr HL.out.c HL.out.f HL.out.f0 H1.out H2.out (by rw [H3.out]; unfold rowI ints; rw [hun_len]) (by have e := HL.out.f5; rw [hLv] at e; exact e) (by omega) (by rw [← hLv]; exact HL.out.d0) hbw (by rw [hun_len]; have := Hnl.out; omega) (by rw [hun_len]; omega)
          simp only [hun_len] at hAdd
          clear hIo hLo hLv hao hbw e2 e3
          go_upto_region 14 with (go_at_call 12; refine hAdd.mono ?_; rintro e w5 ⟨rfl, hd5, qa, da, gi, ci, gl, cl, hE5, hF5⟩; obtain ⟨F5, bs5, hL5, f52, f51, f5v⟩ := HL.out.adds hE5 hF5; have HL5 := Lib.hid hL5; have H52 : Hid (F5 2 = rowI (.slice (some ⟨qa, 0, none⟩) n da) (hun n)) := Lib.hid (by rw [f52]; unfold rowI ints; rw [hun_len]); have H51 := Lib.hid f51; have H5v := Lib.hid f5v; have HB5 := Lib.hid (hd5.below HB.out Hlo.out (by rw [Hbase.out]; exact Nat.le_refl _)); clear hd5 hE5 hF5 hL5 f52 f51 f5v hAdd)
          have hAw := awake7_any w5
          have HphQ : Hid (∀ w6, Below w5.heap.size w5 w6 → LS w6 E base n g cB F5 (.slice (some ⟨gi, 0, none⟩) 1 ci) bs5 (fun j => decide (j < n)) (rng n) [0]) := Lib.hid (fun w6 hb => HL5.out.keep hb)
          have HPhis : Hid (∀ w6, LS w6 E base n g cB F5 (.slice (some ⟨gi, 0, none⟩) 1 ci) bs5 (fun j => decide (j < n)) (rng n) [0] → Calls Try.prog 13 #[.pointer (some ⟨E, 0, none⟩), .int .i64 n] w6 fun e w' => e = .returned (.int .i64 1) ∧ w' = w6) := Lib.hid (fun w6 h6 => by
            have hBo : w6.ownsRow base 46 5 (.slice (some ⟨g, 0, none⟩) (n + 1) cB) (n + 1) bs5 := h6.f.at h6.f0
            have h5 := h6.f5
            rw [H5v.out] at h5
            have hLo : w6.ownsRow base 3 1 (.slice (some ⟨gl, 0, none⟩) 1 cl) 1 [.int .i64 0] := h6.f.at h5
            have hIo : w6.ownsRow base 38 5 (.slice (some ⟨gi, 0, none⟩) 1 ci) 1 [.int .i64 3, .int .i64 0, .slice (some ⟨qa, 0, none⟩) n da, .int .i64 0, .int .i64 0] := h6.f.at H51.out
            exact phis_count E n (n + 1) g cB gi ci gl cl w6 h6.c (by omega) ((hBo.cellAt (n * 5) (by omega)).trans (by rw [h6.d0, H5v.out])) (hLo.cellAt 0 (by decide)) (hIo.cellAt 0 (by decide)))
          have HFits : Hid (∀ w6, LS w6 E base n g cB F5 (.slice (some ⟨gi, 0, none⟩) 1 ci) bs5 (fun j => decide (j < n)) (rng n) [0] → Calls Try.prog 14 #[.agg #[.string ⟨#[]⟩, .slice none 0 0, .int .i64 0, .slice (some ⟨gi, 0, none⟩) 1 ci, .slice (some ⟨g, 0, none⟩) (n + 1) cB], .bool true] w6 fun e w' => e = .returned (.bool true) ∧ Below w6.heap.size w6 w') := Lib.hid (fun w6 h6 => h6.fits H51.out H52.out (by omega) (by rw [rng_len]; omega) (by simp) (by intro x hx; simpa using hx) (by rw [hun_len, rng_len]) (fun p hp => by rw [rng_count]; by_cases h : p < n <;> simp [h]))
          go_upto_region 16 with first
            | (go_at_call 5; refine hAw.mono ?_; rintro e w6 ⟨rfl, hb6⟩; have h6 := HphQ.out w6 hb6; have HB6 := Lib.hid (HB5.out.trans (hb6.mono HB5.out.size)); have HL6 := Lib.hid h6; have hP6 := HPhis.out w6 h6; have hX6 := HFits.out w6 h6; obtain ⟨c0, c1, c2, c3', c4, cf⟩ := cells5 h6.c; clear hb6 h6 hAw)
            | (go_at_call 13; refine hP6.mono ?_; rintro e w9 ⟨rfl, rfl⟩)
            | (go_at_call 15; refine (f_any E _).mono ?_; rintro e w9 ⟨rfl, rfl⟩)
            | (go_at_call 14; refine hX6.mono ?_; rintro e w7 ⟨rfl, hb7⟩; have HL7 := Lib.hid (HL6.out.keep hb7); have HB7 := Lib.hid (HB6.out.trans (hb7.mono HB6.out.size)); clear hb7 hX6)
          have hnz : (n : Int) ≠ 0 := by have := Hnl.out; omega
          have hnz2 : ((n : Int) == 0) = false := by simpa using hnz
          clear c0 c1 c2 c3' c4 cf
          go_upto_region 17 with fail
          obtain ⟨k, hk, hkq⟩ := kq at_ n Hnl.out.1 Hnl.out.2
          rw [hkq]
          have hwo := wo_all n k Hnl.out.1 Hnl.out.2 hk
          have hbw7 : base ≤ w7.heap.size := by rw [Hbase.out]; exact HB7.out.size
          have hsk := HL7.out.src k hk
          obtain ⟨tb, ct, hbT, hTk⟩ : ∃ t c, bs5[k * 5 + 4]? = some (.slice (some ⟨t, 0, none⟩) 1 c) ∧ F5 (10 + k) = rowI (.slice (some ⟨t, 0, none⟩) 1 c) [(n : Int)] := by
            rcases hsk.2.2.2.2 with ⟨_, h⟩ | ⟨h, _⟩
            · exact h
            · simp [hk] at h
          have hCut := cut_any k (10 + k) tb ct 4 5 (by decide) (by decide) E base (n + 1) n g cB gi ci gl cl k 0 0 (rng n) (hun n) (F5 4).v (.slice (some ⟨qa, 0, none⟩) n da) (.slice none 0 0) bs5 F5 w7 HL7.out.c HL7.out.f HL7.out.f0 H51.out H52.out HL7.out.f4 (by have e := HL7.out.f5; rw [H5v.out] at e; exact e) (by omega) (by rw [HL7.out.d0, H5v.out]) HL7.out.d1 HL7.out.d2 HL7.out.d3 HL7.out.d4 hbw7 (by rw [rng_len]; omega) (by rw [hun_len, rng_len]) (rng_mem n k hk) (by omega) (by omega) (by omega) rfl hTk hbT
          have Hk := Lib.hid hk
          have Hwo := Lib.hid hwo
          have lk : (k : Int) < n := by omega
          clear hkq hwo hbw7 hsk hbT hTk
          go_upto_region 18 with (go_at_call 16; refine hCut.mono ?_; rintro e w8 ⟨rfl, hd8, hE8, PZ, QZ, hF8⟩; obtain ⟨F8, bs8, hL8, h82, h81, h84⟩ := HL7.out.cuts Hk.out hE8 hF8; have HL8 := Lib.hid hL8; have H82 := Lib.hid h82; have H81 := Lib.hid h81; have HB8 := Lib.hid (hd8.below HB7.out Hlo.out (by rw [Hbase.out]; exact Nat.le_refl _)); clear hd8 hE8 hF8 hL8 h82 h81 h84 hCut)
          have hQo : w8.ownsRow base 3 1 QZ (agC n k).length (ints (agC n k)) := HL8.out.f.at H82.out
          obtain ⟨QA, QC, hQZ⟩ := own_slice hQo
          rw [Hwo.out.1] at hQZ
          subst hQZ
          have hIo : w8.ownsRow base 38 5 (.slice (some ⟨gi, 0, none⟩) 1 ci) 1 [.int .i64 3, .int .i64 0, .slice QA (n - 1) QC, .int .i64 0, .int .i64 0] := HL8.out.f.at H81.out
          have i0 : w8.cell? ⟨gi, 0, none⟩ = some (.int .i64 3) := hIo.cellAt 0 (by decide)
          have i1 : w8.cell? ⟨gi, 1, none⟩ = some (.int .i64 0) := hIo.cellAt 1 (by decide)
          have i2 : w8.cell? ⟨gi, 2, none⟩ = some (.slice QA (n - 1) QC) := hIo.cellAt 2 (by decide)
          have i3 : w8.cell? ⟨gi, 3, none⟩ = some (.int .i64 0) := hIo.cellAt 3 (by decide)
          have i4 : w8.cell? ⟨gi, 4, none⟩ = some (.int .i64 0) := hIo.cellAt 4 (by decide)
          obtain ⟨c0, c1, c2, c3', c4, cf⟩ := cells5 HL8.out.c
          obtain ⟨X, hX, hbX, hzX, hXX⟩ := r_one_al w8 #[.int .i64 3, .int .i64 0, .slice QA (n - 1) QC, .int .i64 0, .int .i64 0] 38
          have HX := Lib.hid hX
          have HLX := Lib.hid (HL8.out.keep hbX)
          have HBX := Lib.hid (HB8.out.trans (hbX.mono HB8.out.size))
          have HXX := Lib.hid hXX
          clear hQo hIo hX hbX hzX hXX
          go_upto_region 19 with (go_at_call 15; refine (f_any E _).mono ?_; rintro e w9 ⟨rfl, rfl⟩)
          rw [← HX.out]
          clear c0 c1 c2 c3' c4 cf i0 i1 i2 i3 i4
          obtain ⟨c0, c1, c2, c3', c4, cf⟩ := cells5 HLX.out.c
          have hFit := HLX.out.fits (args := agC n k) H81.out H82.out (by omega) (by show (psC n k).length ≤ 1000; rw [Hwo.out.2.1]; omega) (by simp) (by intro x hx; simpa using hx) (by show (agC n k).length = (psC n k).length; rw [Hwo.out.1, Hwo.out.2.1]) (fun p hp => by
            show _ = (psC n k).count (p : Int)
            rw [← Hwo.out.2.2.2.2 p hp]
            by_cases h1 : p = k <;> by_cases h2 : p < n <;> simp [h1, h2])
          have hcast : ((n - 1 : Nat) : Int) = (n : Int) - 1 := by have := Hnl.out; omega
          have hwk : wrap64 (100 + (k : Int)) = 100 + k := by unfold wrap64; omega
          have HCQ : Hid (∀ w', LS w' E base n g cB F8 (.slice (some ⟨gi, 0, none⟩) 1 ci) bs8 (fun j => if j = k then false else decide (j < n)) (woA (rng n) (rng n) ↑k (rng n).length) [0] → Calls Try.prog 17 #[.slice QA (n - 1) QC, .int .i64 (100 + (k : Int))] w' fun e w2 => e = .returned (.int .i64 0) ∧ w2 = w') := Lib.hid (fun w' h => by
            have hQo : w'.ownsRow base 3 1 (.slice QA (n - 1) QC) (agC n k).length (ints (agC n k)) := h.f.at H82.out
            have hc := counts_any w'.heap.size (.slice QA (n - 1) QC) (agC n k) (100 + (k : Int)) w' (RI.of_own hQo) (by rw [Hwo.out.1]; omega)
            rw [Hwo.out.2.2.1] at hc
            exact hc)
          go_upto_region 21 with first
            | (go_at_call 15; refine (f_any E _).mono ?_; rintro e w10 ⟨rfl, rfl⟩)
            | (go_at_call 14; refine hFit.mono ?_; rintro e w11 ⟨rfl, hb11⟩; have h11 := HLX.out.keep hb11; have HL11 := Lib.hid h11; have hC11 := HCQ.out w11 h11; have HB11 := Lib.hid (HBX.out.trans (hb11.mono HBX.out.size)); have x2 := Lib.cell_of_heap ((hb11.block _ (heap_in HXX.out)).trans HXX.out) 2; clear hb11 h11 hFit)
            | (go_at_call 17; refine hC11.mono ?_; rintro e w12 ⟨rfl, rfl⟩)
          clear c0 c1 c2 c3' c4 cf x2 HCQ
          have hJ2 := jump_any (n : Int) w12
          have hbw12 : base ≤ w12.heap.size := by rw [Hbase.out]; exact HB11.out.size
          have hsrc2 := HL11.out.src k Hk.out
          have hgl2 := ((HL11.out.f.at HL11.out.f0).lt g rfl).2
          have HendR : Hid (∀ w2 t, Below w12.heap.size w12 w2 → w2.heap[t]? = some (.cells #[.int .i64 n] 3 (0, 0)) → w12.heap.size ≤ t → Calls Try.prog 10 #[.pointer (some ⟨E, 0, none⟩), .int .i64 k, .agg #[.int .i64 1, .int .i64 (-1), .slice (some ⟨t, 0, none⟩) 1 1]] w2 fun e w' => e = .returned (.tuple #[]) ∧ Bd E base w2 w' ∧ ∃ F' bs', LS w' E base n g cB F' (.slice (some ⟨gi, 0, none⟩) 1 ci) bs' (fun j => decide (j < n)) (psC n k ++ [(k : Int)]) [0] ∧ (∀ j, j = 1 ∨ j = 2 ∨ j = 3 → F' j = F8 j)) := Lib.hid (fun w2 t hb2 ht htl => by
            have hLk := HL11.out.keep hb2
            refine (end_jump 4 (10 + k) (by decide) (by omega) (by omega) E base (n + 1) k n g cB (psC n k).length t (.slice (some ⟨gi, 0, none⟩) 1 ci) (F8 4).v bs8 (ints (psC n k)) F8 w2 hLk.c hLk.f hLk.f0 hLk.f4 (by omega) (by omega) (by have h := hsrc2.2.2.1; simpa using h) hLk.d1 (Nat.le_trans hbw12 hb2.size) (by rw [Hwo.out.2.1]; omega) ht (by omega)).mono ?_
            rintro e w3 ⟨rfl, hd3, hE3, q, d, q2, d2, hF3⟩
            obtain ⟨F', bs', hL3, hFx⟩ := hLk.goes Hk.out hE3 hF3
            exact ⟨rfl, hd3, F', bs', hL3.up_eq (fun j => by
              by_cases h : j = k
              · subst h; simp [Hk.out]
              · simp [h]) rfl, hFx⟩)
          clear hsrc2 hgl2
          go_upto_region 22 with first
            | (go_at_call 11; refine hJ2.mono ?_; rintro e w13 ⟨t, rfl, hb2, ht2, hlt3⟩; have hEnd := HendR.out w13 t hb2 ht2 hlt3; have Hb13 := Lib.hid hb2; clear hb2 ht2 hlt3 hJ2)
            | (go_at_call 10; refine hEnd.mono ?_; rintro e w14 ⟨rfl, hd3, FZ, bsZ, hL3, hFx⟩; have HLZ := Lib.hid hL3; have HFx := Lib.hid hFx; have HBZ := Lib.hid (hd3.below (HB11.out.trans (Hb13.out.mono HB11.out.size)) Hlo.out (by rw [Hbase.out]; exact Nat.le_refl _)); clear hd3 hL3 hFx hEnd)
          have hPo : w14.ownsRow base 3 1 (FZ 4).v (psC n k ++ [(k : Int)]).length (ints (psC n k ++ [(k : Int)])) := HLZ.out.f.at HLZ.out.f4
          have hPl : (psC n k ++ [(k : Int)]).length = n := by rw [List.length_append, Hwo.out.2.1]; simp; have := Hnl.out; omega
          rw [hPl] at hPo
          obtain ⟨pb, pc, hP4, -, -⟩ := hPo.form (by have := Hnl.out; omega)
          have hBo : w14.ownsRow base 46 5 (.slice (some ⟨g, 0, none⟩) (n + 1) cB) (n + 1) bsZ := HLZ.out.f.at HLZ.out.f0
          have c4 := Lib.cell_of_heap HLZ.out.c 4
          have p1 : w14.cell? ⟨g, n * 5 + 1, none⟩ = some (.slice (some ⟨pb, 0, none⟩) n pc) := (hBo.cellAt (n * 5 + 1) (by omega)).trans (by rw [HLZ.out.d1, hP4])
          have HP4 := Lib.hid hP4
          have HPl := Lib.hid hPl
          clear hPo hP4 hBo hPl
          go_upto_region 23 with (go_at_call 15; refine (f_any E _).mono ?_; rintro e w15 ⟨rfl, rfl⟩)
          clear c4 p1
          obtain ⟨r, hr⟩ : ∃ r : Nat, r = (k + 1) % n := ⟨_, rfl⟩
          have hrl : r < n := by rw [hr]; exact Nat.mod_lt _ (by omega)
          have hr0 : (100 : Int) + r ≤ 105 := by clear hr; omega
          have hQo : w15.ownsRow base 3 1 (.slice QA (n - 1) QC) (agC n k).length (ints (agC n k)) := HLZ.out.f.at ((HFx.out 2 (.inr (.inl rfl))).trans H82.out)
          rw [Hwo.out.1] at hQo
          obtain ⟨qb, qc', hQA, -, -⟩ := hQo.form (by have := Hnl.out; omega)
          injection hQA with e1 e2 e3
          subst e1
          have hRep := replace_any E base (n + 1) g cB gi ci qb QC (100 + (r : Int)) 7 (agC n k) bsZ FZ w15 HLZ.out.c HLZ.out.f HLZ.out.f0 (by rw [HFx.out 1 (.inl rfl), H81.out, Hwo.out.1]) (by rw [HFx.out 2 (.inr (.inl rfl)), H82.out, Hwo.out.1]; rfl) (fun b hb => by
            by_cases h : b < n
            · obtain ⟨-, -, s2, ⟨ar, s3⟩, s4⟩ := HLZ.out.src b h
              rcases s4 with ⟨_, t, c, s4, _⟩ | ⟨hu, _⟩
              · exact ⟨1, ar, some ⟨t, 0, none⟩, 1, c, by simpa [h] using s2, s3, s4, by decide, by decide⟩
              · simp [h] at hu
            · have e : b = n := by omega
              subst e
              exact ⟨0, 0, none, 0, 0, HLZ.out.d2, HLZ.out.d3, HLZ.out.d4, by decide, by decide⟩) (by omega) (by rw [Hbase.out]; exact HBZ.out.size) (by rw [Hwo.out.1]; omega)
          have hq := kq2 k n Hnl.out.1 Hnl.out.2 Hk.out
          rw [← hr] at hq
          have HqA := Lib.hid hq
          have hk1 : wrap64 ((k : Int) + 1) = k + 1 := by clear hq hr; unfold wrap64; omega
          rw [hk1] at hq
          rw [Int.tmod_eq_emod_of_nonneg (show (0 : Int) ≤ (k : Int) + 1 by clear hq hr; omega)] at hq
          have HqB := Lib.hid hq
          clear hq
          have Hr := Lib.hid hr
          clear hQo e2 e3 hr
          go_upto_region 24 with (go_at_call 18; (first | rw [HqB.out] | rw [HqA.out]); refine hRep.mono ?_; rintro e w16 ⟨rfl, hd16, hE16, hF16⟩; have HE16 := Lib.hid hE16; have HF16 := Lib.hid hF16; have HB16 := Lib.hid (hd16.below HBZ.out Hlo.out (by rw [Hbase.out]; exact Nat.le_refl _)); clear hd16 hE16 hF16 hRep)
          have hA2 : w16.ownsRow base 3 1 (.slice (some ⟨qb, 0, none⟩) (agC n k).length QC) (swapL (agC n k) (100 + (r : Int)) 7 (agC n k).length).length (ints (swapL (agC n k) (100 + (r : Int)) 7 (agC n k).length)) := HF16.out.at (upR_at _ _ _)
          have hcA := counts_any w16.heap.size (.slice (some ⟨qb, 0, none⟩) (agC n k).length QC) (swapL (agC n k) (100 + (r : Int)) 7 (agC n k).length) 7 w16 (RI.of_own hA2) (by rw [swapL_len _ _ _ _ (Nat.le_refl _), Hwo.out.1]; omega)
          have hc1 : (swapL (agC n k) (100 + (r : Int)) 7 (agC n k).length).count 7 = 1 := by rw [Hr.out]; exact Hwo.out.2.2.2.1
          rw [hc1, Hwo.out.1] at hcA
          have h116 : upR FZ 2 (rowI (.slice (some ⟨qb, 0, none⟩) (agC n k).length QC) (swapL (agC n k) (100 + (r : Int)) 7 (agC n k).length)) 1 = ⟨38, 5, .slice (some ⟨gi, 0, none⟩) 1 ci, 1, [.int .i64 3, .int .i64 0, .slice (some ⟨qb, 0, none⟩) (n - 1) QC, .int .i64 0, .int .i64 0]⟩ := by rw [upR_off _ _ _ _ (by decide), HFx.out 1 (.inl rfl)]; exact H81.out
          have hIo : w16.ownsRow base 38 5 (.slice (some ⟨gi, 0, none⟩) 1 ci) 1 [.int .i64 3, .int .i64 0, .slice (some ⟨qb, 0, none⟩) (n - 1) QC, .int .i64 0, .int .i64 0] := HF16.out.at h116
          have i2 : w16.cell? ⟨gi, 2, none⟩ = some (.slice (some ⟨qb, 0, none⟩) (n - 1) QC) := hIo.cellAt 2 (by decide)
          have h416 : upR FZ 2 (rowI (.slice (some ⟨qb, 0, none⟩) (agC n k).length QC) (swapL (agC n k) (100 + (r : Int)) 7 (agC n k).length)) 4 = rowI (.slice (some ⟨pb, 0, none⟩) n pc) (psC n k ++ [(k : Int)]) := by
            rw [upR_off _ _ _ _ (by decide)]
            have e := HLZ.out.f4
            rw [HP4.out] at e
            exact e
          have hPo : w16.ownsRow base 3 1 (.slice (some ⟨pb, 0, none⟩) n pc) (psC n k ++ [(k : Int)]).length (ints (psC n k ++ [(k : Int)])) := HF16.out.at h416
          rw [HPl.out] at hPo
          have pl : w16.cell? ⟨pb, n - 1, none⟩ = some (.int .i64 k) := by
            rw [hPo.cellAt (n - 1) (by have := Hnl.out; omega)]
            have e : (psC n k).length = n - 1 := Hwo.out.2.1
            simp [ints, ← e]
          have e3 := Lib.cell_of_heap HE16.out 3
          have ht : ((n : Int) - 1).toNat = n - 1 := by have := Hnl.out; omega
          have hl0 : (0 : Int) ≤ (n : Int) - 1 := by have := Hnl.out; omega
          have hl1 : (n : Int) - 1 < n := by omega
          clear hA2 hc1 h116 hIo h416 hPo
          go_wp2_with first
            | (go_at_call 15; refine (f_any E _).mono ?_; rintro e w17 ⟨rfl, rfl⟩)
            | (go_at_call 17; refine hcA.mono ?_; rintro e w18 ⟨rfl, rfl⟩)
          go_ret
          exact ⟨rfl, HB16.out⟩
end Go.Proofs.Ytdjpjonikceadaa
