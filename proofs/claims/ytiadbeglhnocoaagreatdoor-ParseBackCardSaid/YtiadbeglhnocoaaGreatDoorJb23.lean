/-
  What begins with a kept name.
-/
import Derived.Test.YtiadbeglhnocoaaGreatDoorJb21
import Derived.Test.YtiadbeglhnocoaaGreatDoorJb22
namespace Go.Proofs.YtiadbeglhnocoaaGreatDoor
set_option linter.unusedVariables false
set_option linter.unusedSimpArgs false
open Go.RowKit

set_option maxRecDepth 100000 in
set_option maxHeartbeats 16000000 in
theorem keptP_any (k : Nat) (HP : PrsC k) (g : Nat) (t : Tk) (s : PS) (r : Part × PS) (w : World) (hr : keptK (k + 1) t s = some r) (hok : Ok (k + 1) s) (h : PAt w g s) :
    Calls Tryz.prog 124 #[.pointer (some ⟨g, 0, none⟩), tkV t] w (WholePost g NoB w r) := by
  have hgl := h.lt
  simp only [keptK] at hr
  obtain ⟨tk, ta, tn, tb⟩ := t
  unfold tkV
  simp only at hr
  by_cases h0 : (tb == ([116, 114, 117, 101] : List UInt8)) = true
  · rw [if_pos h0] at hr
    simp only [Option.some.injEq] at hr
    obtain ⟨W, hW, hbW, hzW, hbT, hbR, hbE⟩ := three_al w #[.int .i64 tk, .int .i64 ta, .int .i64 tn, .string ⟨tb.toArray⟩] #[.int .i64 0, .int .i64 0, .int .i64 0, .int .i64 0, .int .i64 0, .string ⟨#[]⟩, .slice none 0 0, .int .i64 0] #[.int .i64 2, .int .i64 ta, .int .i64 0, .int .i64 0, .int .i64 1, .string ⟨#[]⟩, .slice none 0 0] 56 124 96
    have hPW := h.keep hbW
    have HbW := Lib.hid hbW
    have HR2 := Lib.hid hbR
    have hz2 : w.heap.size + 2 < W.heap.size := by omega
    have Hbut2 : Hid (But g w W) := Lib.hid (But.of_below hbW)
    have hX2 := whole_any g s NoB 2 ta 0 1 ⟨#[]⟩ [] none 0 W hPW (fun b hb => absurd hb (by unfold NoB; simp)) (by simp) (fun hl => by simp at hl) (fun p hp => by simp at hp) (by unfold Ok at hok; omega) (by unfold Ok at hok; omega)
    rw [hr] at hX2
    have HSo : Hid (∀ b, NoB b → w.heap.size + 3 ≤ b ∧ b < W.heap.size) := Lib.hid (fun b hb => absurd hb (by unfold NoB; simp))
    rw [hW] at hX2
    skip
    clear hr hok HP h hPW hbW hbT hbR hbE
    go_enter Tryz.func124, Tryz.ntmps124
    go_wp2_with (go_at_call 110; refine hX2.mono ?_; rintro e w3 ⟨v, rfl, hv, hp3, hb3⟩; rw [← hW] at hv hb3; obtain ⟨vk, va, vt, vo, vn, vs, kids, PK, c, d, hre, rfl, hk⟩ := hv; have HR3 := (hb3.block (w.heap.size + 1) (by omega) (by omega)).trans HR2.out; obtain ⟨r0, r1, r2, r3, r4, r5, r6, r7, rf⟩ := cells8 HR3; have hz3 := Nat.lt_of_lt_of_le hz2 hb3.size; have Hv := Lib.hid (PartV.intro vk va vt vo vn vs kids PK c d hre hk); have Hp3 := Lib.hid hp3; have Hb3 := Lib.hid hb3; clear hk hb3 HR3 hX2 hp3 hre; unfold partV)
    refine bodyPost_ret (v := partV vk va vt vo vn vs PK kids.length (kids.length + c) d) (by simp [results, Tryz.results124, go_sem, partV, r0, r1, r2, r3, r4, r5, r6, r7]) rfl ?_
    refine own_end (N := 3) hgl ?_ Hv.out Hp3.out (Hbut2.out.trans Hb3.out) ?_ ?_
    · intro b hb'
      have := Hb3.out.size
      rcases hb' with h1 | ⟨h1, h2⟩
      · exact ⟨(HSo.out b h1).1, by have := (HSo.out b h1).2; omega⟩
      · exact ⟨by omega, by omega⟩
    · intro b hb1
      repeat (with_reducible refine (Below.heap_setCell _ _ _ _ (by simp; omega)).trans ?_)
      rfl
    · repeat (first | with_reducible exact Below.refl _ _ | with_reducible refine Below.setCell ?_ (by first | (simp; done) | (simp; omega)) _)
  · rw [if_neg h0] at hr
    have f0 : (tb == ([116, 114, 117, 101] : List UInt8)) = false := by simpa using h0
    clear h0
    by_cases h1 : (tb == ([102, 97, 108, 115, 101] : List UInt8)) = true
    · rw [if_pos h1] at hr
      simp only [Option.some.injEq] at hr
      obtain ⟨W, hW, hbW, hzW, hbT, hbR, hbE⟩ := three_al w #[.int .i64 tk, .int .i64 ta, .int .i64 tn, .string ⟨tb.toArray⟩] #[.int .i64 0, .int .i64 0, .int .i64 0, .int .i64 0, .int .i64 0, .string ⟨#[]⟩, .slice none 0 0, .int .i64 0] #[.int .i64 2, .int .i64 ta, .int .i64 0, .int .i64 0, .int .i64 0, .string ⟨#[]⟩, .slice none 0 0] 56 124 96
      have hPW := h.keep hbW
      have HbW := Lib.hid hbW
      have HR2 := Lib.hid hbR
      have hz2 : w.heap.size + 2 < W.heap.size := by omega
      have Hbut2 : Hid (But g w W) := Lib.hid (But.of_below hbW)
      have hX2 := whole_any g s NoB 2 ta 0 0 ⟨#[]⟩ [] none 0 W hPW (fun b hb => absurd hb (by unfold NoB; simp)) (by simp) (fun hl => by simp at hl) (fun p hp => by simp at hp) (by unfold Ok at hok; omega) (by unfold Ok at hok; omega)
      rw [hr] at hX2
      have HSo : Hid (∀ b, NoB b → w.heap.size + 3 ≤ b ∧ b < W.heap.size) := Lib.hid (fun b hb => absurd hb (by unfold NoB; simp))
      rw [hW] at hX2
      skip
      clear hr hok HP h hPW hbW hbT hbR hbE
      go_enter Tryz.func124, Tryz.ntmps124
      go_wp2_with (go_at_call 110; refine hX2.mono ?_; rintro e w3 ⟨v, rfl, hv, hp3, hb3⟩; rw [← hW] at hv hb3; obtain ⟨vk, va, vt, vo, vn, vs, kids, PK, c, d, hre, rfl, hk⟩ := hv; have HR3 := (hb3.block (w.heap.size + 1) (by omega) (by omega)).trans HR2.out; obtain ⟨r0, r1, r2, r3, r4, r5, r6, r7, rf⟩ := cells8 HR3; have hz3 := Nat.lt_of_lt_of_le hz2 hb3.size; have Hv := Lib.hid (PartV.intro vk va vt vo vn vs kids PK c d hre hk); have Hp3 := Lib.hid hp3; have Hb3 := Lib.hid hb3; clear hk hb3 HR3 hX2 hp3 hre; unfold partV)
      refine bodyPost_ret (v := partV vk va vt vo vn vs PK kids.length (kids.length + c) d) (by simp [results, Tryz.results124, go_sem, partV, r0, r1, r2, r3, r4, r5, r6, r7]) rfl ?_
      refine own_end (N := 3) hgl ?_ Hv.out Hp3.out (Hbut2.out.trans Hb3.out) ?_ ?_
      · intro b hb'
        have := Hb3.out.size
        rcases hb' with h1 | ⟨h1, h2⟩
        · exact ⟨(HSo.out b h1).1, by have := (HSo.out b h1).2; omega⟩
        · exact ⟨by omega, by omega⟩
      · intro b hb1
        repeat (with_reducible refine (Below.heap_setCell _ _ _ _ (by simp; omega)).trans ?_)
        rfl
      · repeat (first | with_reducible exact Below.refl _ _ | with_reducible refine Below.setCell ?_ (by first | (simp; done) | (simp; omega)) _)
    · rw [if_neg h1] at hr
      have f1 : (tb == ([102, 97, 108, 115, 101] : List UInt8)) = false := by simpa using h1
      clear h1
      by_cases h2 : (tb == ([105, 110, 112, 117, 116] : List UInt8)) = true
      · rw [if_pos h2] at hr
        simp only [Option.some.injEq] at hr
        obtain ⟨W, hW, hbW, hzW, hbT, hbR, hbE⟩ := three_al w #[.int .i64 tk, .int .i64 ta, .int .i64 tn, .string ⟨tb.toArray⟩] #[.int .i64 0, .int .i64 0, .int .i64 0, .int .i64 0, .int .i64 0, .string ⟨#[]⟩, .slice none 0 0, .int .i64 0] #[.int .i64 14, .int .i64 ta, .int .i64 0, .int .i64 0, .int .i64 0, .string ⟨#[]⟩, .slice none 0 0] 56 124 96
        have hPW := h.keep hbW
        have HbW := Lib.hid hbW
        have HR2 := Lib.hid hbR
        have hz2 : w.heap.size + 2 < W.heap.size := by omega
        have Hbut2 : Hid (But g w W) := Lib.hid (But.of_below hbW)
        have hX2 := whole_any g s NoB 14 ta 0 0 ⟨#[]⟩ [] none 0 W hPW (fun b hb => absurd hb (by unfold NoB; simp)) (by simp) (fun hl => by simp at hl) (fun p hp => by simp at hp) (by unfold Ok at hok; omega) (by unfold Ok at hok; omega)
        rw [hr] at hX2
        have HSo : Hid (∀ b, NoB b → w.heap.size + 3 ≤ b ∧ b < W.heap.size) := Lib.hid (fun b hb => absurd hb (by unfold NoB; simp))
        rw [hW] at hX2
        skip
        clear hr hok HP h hPW hbW hbT hbR hbE
        go_enter Tryz.func124, Tryz.ntmps124
        go_wp2_with (go_at_call 110; refine hX2.mono ?_; rintro e w3 ⟨v, rfl, hv, hp3, hb3⟩; rw [← hW] at hv hb3; obtain ⟨vk, va, vt, vo, vn, vs, kids, PK, c, d, hre, rfl, hk⟩ := hv; have HR3 := (hb3.block (w.heap.size + 1) (by omega) (by omega)).trans HR2.out; obtain ⟨r0, r1, r2, r3, r4, r5, r6, r7, rf⟩ := cells8 HR3; have hz3 := Nat.lt_of_lt_of_le hz2 hb3.size; have Hv := Lib.hid (PartV.intro vk va vt vo vn vs kids PK c d hre hk); have Hp3 := Lib.hid hp3; have Hb3 := Lib.hid hb3; clear hk hb3 HR3 hX2 hp3 hre; unfold partV)
        refine bodyPost_ret (v := partV vk va vt vo vn vs PK kids.length (kids.length + c) d) (by simp [results, Tryz.results124, go_sem, partV, r0, r1, r2, r3, r4, r5, r6, r7]) rfl ?_
        refine own_end (N := 3) hgl ?_ Hv.out Hp3.out (Hbut2.out.trans Hb3.out) ?_ ?_
        · intro b hb'
          have := Hb3.out.size
          rcases hb' with h1 | ⟨h1, h2⟩
          · exact ⟨(HSo.out b h1).1, by have := (HSo.out b h1).2; omega⟩
          · exact ⟨by omega, by omega⟩
        · intro b hb1
          repeat (with_reducible refine (Below.heap_setCell _ _ _ _ (by simp; omega)).trans ?_)
          rfl
        · repeat (first | with_reducible exact Below.refl _ _ | with_reducible refine Below.setCell ?_ (by first | (simp; done) | (simp; omega)) _)
      · rw [if_neg h2] at hr
        have f2 : (tb == ([105, 110, 112, 117, 116] : List UInt8)) = false := by simpa using h2
        clear h2
        by_cases h3 : (tb == ([110, 101, 119] : List UInt8)) = true
        · rw [if_pos h3] at hr
          cases hp : partsK k ([91] : List UInt8) ([93] : List UInt8) s with
          | none => rw [hp] at hr; cases hr
          | some q =>
            rw [hp] at hr
            obtain ⟨l, s1⟩ := q
            simp only [Option.some.injEq] at hr
            obtain ⟨hev, hlk, hdp⟩ := (pure_all k).parts _ _ _ _ hp
            have hk25 : k ≤ 33554432 := by unfold Ok at hok; omega
            have hdk := mostD_le hk25
            have hok1 : Ok k s1 := (hok.even hev).less (Nat.le_succ k)
            have hX := fun (S : Nat → Prop) (A : Option Addr) (cap : Nat) w2 (hp2 : PAt w2 g s1) (hS : ∀ b, S b → g < b ∧ b < w2.heap.size) (hR : RdPs w2 S A l) => counted_any g s1 S 1 2 10 ta 0 0 ⟨#[]⟩ l A cap w2 hp2 hS (by simp only at hlk; omega) hR (fun p hp => ⟨(hdp p hp).1, by have := (hdp p hp).2; omega⟩) (by unfold Ok at hok1; omega) (by unfold Ok at hok1; omega)
            rw [hr] at hX
            have hQ := fun w2 (hp2 : PAt w2 g s) => HP g ([91] : List UInt8) ([93] : List UInt8) s (l, s1) w2 hp (hok.less (Nat.le_succ k)) hp2
            obtain ⟨W, hW, hbW, hzW, hbT, hbR, hbE⟩ := three_al w #[.int .i64 tk, .int .i64 ta, .int .i64 tn, .string ⟨tb.toArray⟩] #[.int .i64 0, .int .i64 0, .int .i64 0, .int .i64 0, .int .i64 0, .string ⟨#[]⟩, .slice none 0 0, .int .i64 0] #[.int .i64 10, .int .i64 ta, .int .i64 0, .int .i64 0, .int .i64 0, .string ⟨#[]⟩, .slice none 0 0] 56 124 96
            have hPW := h.keep hbW
            have HbW := Lib.hid hbW
            have HR2 := Lib.hid hbR
            have hz2 : w.heap.size + 2 < W.heap.size := by omega
            have Hbut2 : Hid (But g w W) := Lib.hid (But.of_below hbW)
            have HR4 := HR2
            have hz4 := hz2
            have HE4 := Lib.hid hbE
            skip
            clear hr hok HP h hbW hbT hbR hp hev hlk hdp hok1 hk25 hdk HR2 hz2 Hbut2
            go_enter Tryz.func124, Tryz.ntmps124
            go_upto_region 13 with fail
            rw [← hW]
            clear hW
            obtain ⟨e0, e1, e2, e3, e4, e5, e6, ef⟩ := cells7 hbE
            have hQ4 := hQ W.drew (hPW.up (Below.refl _ _).drew)
            have s0 := cells7' (w := W.drew) HE4.out
            clear hQ hbE hPW
            go_region_held3 (fun w' => w'.cell? ⟨w.heap.size + 2, 0, none⟩ = some (.int .i64 10) ∧ w'.cell? ⟨w.heap.size + 2, 1, none⟩ = some (.int .i64 ta) ∧ w'.cell? ⟨w.heap.size + 2, 2, none⟩ = some (.int .i64 0) ∧ w'.cell? ⟨w.heap.size + 2, 3, none⟩ = some (.int .i64 0) ∧ w'.cell? ⟨w.heap.size + 2, 4, none⟩ = some (.int .i64 0) ∧ w'.cell? ⟨w.heap.size + 2, 5, none⟩ = some (.string ⟨#[]⟩) ∧ w'.cell? ⟨w.heap.size + 2, 6, none⟩ = some (.slice none 0 0)) (first | with_reducible exact s0 | with_reducible exact sA | with_reducible exact sB | (simp only [eight_far (show w.heap.size + 1 ≠ w.heap.size + 2 by omega)]; with_reducible exact sB)) (first
              | (go_at_call 111; refine hQ4.mono ?_; rintro e w2 ⟨A, cap, rfl, hc1, hc2, hrd, hp5, hb5⟩; have hb5' : But g W w2 := ((But.refl g W).drew).trans hb5; have HE2 := (hb5'.block (w.heap.size + 2) (by omega) (by omega)).trans HE4.out; have sA := cells7' HE2; have HR2 := Lib.hid ((hb5'.block (w.heap.size + 1) (by omega) (by omega)).trans HR4.out); have hz2 : w.heap.size + 2 < w2.heap.size := (by have := hb5'.size; omega); have hSo : ∀ b, From W.heap.size w2 b → w.heap.size + 3 ≤ b ∧ b < w2.heap.size := (fun b hb => ⟨(by have := hb.1; omega), hb.2⟩); have hX2 := hX (From W.heap.size w2) A cap w2 hp5 (fun b hb => ⟨(by have := (hSo b hb).1; omega), hb.2⟩) hrd; have HSo := Lib.hid hSo; have Hbut2 : Hid (But g w w2) := Lib.hid ((But.of_below HbW.out).trans hb5'); replace HE2 := Lib.hid HE2; clear hb5 hb5' hp5 hrd hc1 hc2 hSo hX hQ4)
              | (go_at_call 112; refine hX2.mono ?_; rintro e w3 ⟨v, rfl, hv, hp3, hb3⟩; obtain ⟨vk, va, vt, vo, vn, vs, kids, PK, c, d, hre, rfl, hk⟩ := hv; have HR3 := (hb3.block (w.heap.size + 1) (by omega) (by omega)).trans HR2.out; obtain ⟨r0, r1, r2, r3, r4, r5, r6, r7, rf⟩ := cells8 HR3; have hz3 := Nat.lt_of_lt_of_le hz2 hb3.size; have Hv := Lib.hid (PartV.intro vk va vt vo vn vs kids PK c d hre hk); have Hp3 := Lib.hid hp3; have Hb3 := Lib.hid hb3; clear hk hb3 HR3 hX2 hp3 hre; unfold partV; have HE3 := Lib.hid ((Hb3.out.block (w.heap.size + 2) (by omega) (by omega)).trans HE2.out); have sB := cells7' HE3.out))
            all_goals
              go_wp2
              refine bodyPost_ret (v := partV vk va vt vo vn vs PK kids.length (kids.length + c) d) (by simp [results, Tryz.results124, go_sem, partV, r0, r1, r2, r3, r4, r5, r6, r7]) rfl ?_
              refine own_end (N := 3) hgl ?_ Hv.out Hp3.out (Hbut2.out.trans Hb3.out) ?_ ?_
              · intro b hb'
                have := Hb3.out.size
                rcases hb' with h1 | ⟨h1, h2⟩
                · exact ⟨(HSo.out b h1).1, by have := (HSo.out b h1).2; omega⟩
                · exact ⟨by omega, by omega⟩
              · intro b hb1
                repeat (with_reducible refine (Below.heap_setCell _ _ _ _ (by simp; omega)).trans ?_)
                rfl
              · repeat (first | with_reducible exact Below.refl _ _ | with_reducible refine Below.setCell ?_ (by first | (simp; done) | (simp; omega)) _)
        · rw [if_neg h3] at hr
          have f3 : (tb == ([110, 101, 119] : List UInt8)) = false := by simpa using h3
          clear h3
          by_cases h4 : (tb == ([108, 101, 110] : List UInt8)) = true
          · rw [if_pos (Or.inl h4), if_pos h4] at hr
            cases hp : partsK k ([40] : List UInt8) ([41] : List UInt8) s with
            | none => rw [hp] at hr; cases hr
            | some q =>
              rw [hp] at hr
              obtain ⟨l, s1⟩ := q
              simp only [Option.some.injEq] at hr
              obtain ⟨hev, hlk, hdp⟩ := (pure_all k).parts _ _ _ _ hp
              have hk25 : k ≤ 33554432 := by unfold Ok at hok; omega
              have hdk := mostD_le hk25
              have hok1 : Ok k s1 := (hok.even hev).less (Nat.le_succ k)
              have hX := fun (S : Nat → Prop) (A : Option Addr) (cap : Nat) w2 (hp2 : PAt w2 g s1) (hS : ∀ b, S b → g < b ∧ b < w2.heap.size) (hR : RdPs w2 S A l) => counted_any g s1 S 1 1 11 ta 0 0 ⟨#[]⟩ l A cap w2 hp2 hS (by simp only at hlk; omega) hR (fun p hp => ⟨(hdp p hp).1, by have := (hdp p hp).2; omega⟩) (by unfold Ok at hok1; omega) (by unfold Ok at hok1; omega)
              rw [hr] at hX
              have hQ := fun w2 (hp2 : PAt w2 g s) => HP g ([40] : List UInt8) ([41] : List UInt8) s (l, s1) w2 hp (hok.less (Nat.le_succ k)) hp2
              obtain ⟨W, hW, hbW, hzW, hbT, hbR, hbE⟩ := three_al w #[.int .i64 tk, .int .i64 ta, .int .i64 tn, .string ⟨tb.toArray⟩] #[.int .i64 0, .int .i64 0, .int .i64 0, .int .i64 0, .int .i64 0, .string ⟨#[]⟩, .slice none 0 0, .int .i64 0] #[.int .i64 11, .int .i64 ta, .int .i64 0, .int .i64 0, .int .i64 0, .string ⟨#[]⟩, .slice none 0 0] 56 124 96
              have hPW := h.keep hbW
              have HbW := Lib.hid hbW
              have HR2 := Lib.hid hbR
              have hz2 : w.heap.size + 2 < W.heap.size := by omega
              have Hbut2 : Hid (But g w W) := Lib.hid (But.of_below hbW)
              have HR4 := HR2
              have hz4 := hz2
              have HE4 := Lib.hid hbE
              have hM := measure_any tb
              simp only [h4, if_true] at hM
              clear hr hok HP h hbW hbT hbR hp hev hlk hdp hok1 hk25 hdk HR2 hz2 Hbut2
              go_enter Tryz.func124, Tryz.ntmps124
              go_upto_region 18 with (go_at_call 130; refine (hM _).mono ?_; rintro e w' ⟨rfl, rfl⟩)
              rw [← hW]
              clear hW
              obtain ⟨e0, e1, e2, e3, e4, e5, e6, ef⟩ := cells7 hbE
              have hQ4 := hQ W.drew (hPW.up (Below.refl _ _).drew)
              have s0 := cells7' (w := W.drew) HE4.out
              clear hQ hbE hPW
              go_region_held3 (fun w' => w'.cell? ⟨w.heap.size + 2, 0, none⟩ = some (.int .i64 11) ∧ w'.cell? ⟨w.heap.size + 2, 1, none⟩ = some (.int .i64 ta) ∧ w'.cell? ⟨w.heap.size + 2, 2, none⟩ = some (.int .i64 0) ∧ w'.cell? ⟨w.heap.size + 2, 3, none⟩ = some (.int .i64 0) ∧ w'.cell? ⟨w.heap.size + 2, 4, none⟩ = some (.int .i64 0) ∧ w'.cell? ⟨w.heap.size + 2, 5, none⟩ = some (.string ⟨#[]⟩) ∧ w'.cell? ⟨w.heap.size + 2, 6, none⟩ = some (.slice none 0 0)) (first | with_reducible exact s0 | with_reducible exact sA | with_reducible exact sB | (simp only [eight_far (show w.heap.size + 1 ≠ w.heap.size + 2 by omega)]; with_reducible exact sB)) (first
                | (go_at_call 111; refine hQ4.mono ?_; rintro e w2 ⟨A, cap, rfl, hc1, hc2, hrd, hp5, hb5⟩; have hb5' : But g W w2 := ((But.refl g W).drew).trans hb5; have HE2 := (hb5'.block (w.heap.size + 2) (by omega) (by omega)).trans HE4.out; have sA := cells7' HE2; have HR2 := Lib.hid ((hb5'.block (w.heap.size + 1) (by omega) (by omega)).trans HR4.out); have hz2 : w.heap.size + 2 < w2.heap.size := (by have := hb5'.size; omega); have hSo : ∀ b, From W.heap.size w2 b → w.heap.size + 3 ≤ b ∧ b < w2.heap.size := (fun b hb => ⟨(by have := hb.1; omega), hb.2⟩); have hX2 := hX (From W.heap.size w2) A cap w2 hp5 (fun b hb => ⟨(by have := (hSo b hb).1; omega), hb.2⟩) hrd; have HSo := Lib.hid hSo; have Hbut2 : Hid (But g w w2) := Lib.hid ((But.of_below HbW.out).trans hb5'); replace HE2 := Lib.hid HE2; clear hb5 hb5' hp5 hrd hc1 hc2 hSo hX hQ4)
                | (go_at_call 112; refine hX2.mono ?_; rintro e w3 ⟨v, rfl, hv, hp3, hb3⟩; obtain ⟨vk, va, vt, vo, vn, vs, kids, PK, c, d, hre, rfl, hk⟩ := hv; have HR3 := (hb3.block (w.heap.size + 1) (by omega) (by omega)).trans HR2.out; obtain ⟨r0, r1, r2, r3, r4, r5, r6, r7, rf⟩ := cells8 HR3; have hz3 := Nat.lt_of_lt_of_le hz2 hb3.size; have Hv := Lib.hid (PartV.intro vk va vt vo vn vs kids PK c d hre hk); have Hp3 := Lib.hid hp3; have Hb3 := Lib.hid hb3; clear hk hb3 HR3 hX2 hp3 hre; unfold partV; have HE3 := Lib.hid ((Hb3.out.block (w.heap.size + 2) (by omega) (by omega)).trans HE2.out); have sB := cells7' HE3.out))
              all_goals
                go_wp2
                refine bodyPost_ret (v := partV vk va vt vo vn vs PK kids.length (kids.length + c) d) (by simp [results, Tryz.results124, go_sem, partV, r0, r1, r2, r3, r4, r5, r6, r7]) rfl ?_
                refine own_end (N := 3) hgl ?_ Hv.out Hp3.out (Hbut2.out.trans Hb3.out) ?_ ?_
                · intro b hb'
                  have := Hb3.out.size
                  rcases hb' with h1 | ⟨h1, h2⟩
                  · exact ⟨(HSo.out b h1).1, by have := (HSo.out b h1).2; omega⟩
                  · exact ⟨by omega, by omega⟩
                · intro b hb1
                  repeat (with_reducible refine (Below.heap_setCell _ _ _ _ (by simp; omega)).trans ?_)
                  rfl
                · repeat (first | with_reducible exact Below.refl _ _ | with_reducible refine Below.setCell ?_ (by first | (simp; done) | (simp; omega)) _)
          · have f4 : (tb == ([108, 101, 110] : List UInt8)) = false := by simpa using h4
            by_cases h5 : (tb == ([114, 111, 119, 115] : List UInt8)) = true
            · rw [if_pos (Or.inr (Or.inl h5)), if_neg h4, if_pos h5] at hr
              clear h4
              cases hp : partsK k ([40] : List UInt8) ([41] : List UInt8) s with
              | none => rw [hp] at hr; cases hr
              | some q =>
                rw [hp] at hr
                obtain ⟨l, s1⟩ := q
                simp only [Option.some.injEq] at hr
                obtain ⟨hev, hlk, hdp⟩ := (pure_all k).parts _ _ _ _ hp
                have hk25 : k ≤ 33554432 := by unfold Ok at hok; omega
                have hdk := mostD_le hk25
                have hok1 : Ok k s1 := (hok.even hev).less (Nat.le_succ k)
                have hX := fun (S : Nat → Prop) (A : Option Addr) (cap : Nat) w2 (hp2 : PAt w2 g s1) (hS : ∀ b, S b → g < b ∧ b < w2.heap.size) (hR : RdPs w2 S A l) => counted_any g s1 S 1 1 12 ta 0 0 ⟨#[]⟩ l A cap w2 hp2 hS (by simp only at hlk; omega) hR (fun p hp => ⟨(hdp p hp).1, by have := (hdp p hp).2; omega⟩) (by unfold Ok at hok1; omega) (by unfold Ok at hok1; omega)
                rw [hr] at hX
                have hQ := fun w2 (hp2 : PAt w2 g s) => HP g ([40] : List UInt8) ([41] : List UInt8) s (l, s1) w2 hp (hok.less (Nat.le_succ k)) hp2
                obtain ⟨W, hW, hbW, hzW, hbT, hbR, hbE⟩ := three_al w #[.int .i64 tk, .int .i64 ta, .int .i64 tn, .string ⟨tb.toArray⟩] #[.int .i64 0, .int .i64 0, .int .i64 0, .int .i64 0, .int .i64 0, .string ⟨#[]⟩, .slice none 0 0, .int .i64 0] #[.int .i64 12, .int .i64 ta, .int .i64 0, .int .i64 0, .int .i64 0, .string ⟨#[]⟩, .slice none 0 0] 56 124 96
                have hPW := h.keep hbW
                have HbW := Lib.hid hbW
                have HR2 := Lib.hid hbR
                have hz2 : w.heap.size + 2 < W.heap.size := by omega
                have Hbut2 : Hid (But g w W) := Lib.hid (But.of_below hbW)
                have HR4 := HR2
                have hz4 := hz2
                have HE4 := Lib.hid hbE
                have hM := measure_any tb
                simp only [f4, h5, if_true, Bool.false_eq_true, if_false] at hM
                clear hr hok HP h hbW hbT hbR hp hev hlk hdp hok1 hk25 hdk HR2 hz2 Hbut2
                go_enter Tryz.func124, Tryz.ntmps124
                go_upto_region 18 with (go_at_call 130; refine (hM _).mono ?_; rintro e w' ⟨rfl, rfl⟩)
                rw [← hW]
                clear hW
                obtain ⟨e0, e1, e2, e3, e4, e5, e6, ef⟩ := cells7 hbE
                have hQ4 := hQ W.drew (hPW.up (Below.refl _ _).drew)
                have s0 := cells7' (w := W.drew) HE4.out
                clear hQ hbE hPW
                go_region_held3 (fun w' => w'.cell? ⟨w.heap.size + 2, 0, none⟩ = some (.int .i64 12) ∧ w'.cell? ⟨w.heap.size + 2, 1, none⟩ = some (.int .i64 ta) ∧ w'.cell? ⟨w.heap.size + 2, 2, none⟩ = some (.int .i64 0) ∧ w'.cell? ⟨w.heap.size + 2, 3, none⟩ = some (.int .i64 0) ∧ w'.cell? ⟨w.heap.size + 2, 4, none⟩ = some (.int .i64 0) ∧ w'.cell? ⟨w.heap.size + 2, 5, none⟩ = some (.string ⟨#[]⟩) ∧ w'.cell? ⟨w.heap.size + 2, 6, none⟩ = some (.slice none 0 0)) (first | with_reducible exact s0 | with_reducible exact sA | with_reducible exact sB | (simp only [eight_far (show w.heap.size + 1 ≠ w.heap.size + 2 by omega)]; with_reducible exact sB)) (first
                  | (go_at_call 111; refine hQ4.mono ?_; rintro e w2 ⟨A, cap, rfl, hc1, hc2, hrd, hp5, hb5⟩; have hb5' : But g W w2 := ((But.refl g W).drew).trans hb5; have HE2 := (hb5'.block (w.heap.size + 2) (by omega) (by omega)).trans HE4.out; have sA := cells7' HE2; have HR2 := Lib.hid ((hb5'.block (w.heap.size + 1) (by omega) (by omega)).trans HR4.out); have hz2 : w.heap.size + 2 < w2.heap.size := (by have := hb5'.size; omega); have hSo : ∀ b, From W.heap.size w2 b → w.heap.size + 3 ≤ b ∧ b < w2.heap.size := (fun b hb => ⟨(by have := hb.1; omega), hb.2⟩); have hX2 := hX (From W.heap.size w2) A cap w2 hp5 (fun b hb => ⟨(by have := (hSo b hb).1; omega), hb.2⟩) hrd; have HSo := Lib.hid hSo; have Hbut2 : Hid (But g w w2) := Lib.hid ((But.of_below HbW.out).trans hb5'); replace HE2 := Lib.hid HE2; clear hb5 hb5' hp5 hrd hc1 hc2 hSo hX hQ4)
                  | (go_at_call 112; refine hX2.mono ?_; rintro e w3 ⟨v, rfl, hv, hp3, hb3⟩; obtain ⟨vk, va, vt, vo, vn, vs, kids, PK, c, d, hre, rfl, hk⟩ := hv; have HR3 := (hb3.block (w.heap.size + 1) (by omega) (by omega)).trans HR2.out; obtain ⟨r0, r1, r2, r3, r4, r5, r6, r7, rf⟩ := cells8 HR3; have hz3 := Nat.lt_of_lt_of_le hz2 hb3.size; have Hv := Lib.hid (PartV.intro vk va vt vo vn vs kids PK c d hre hk); have Hp3 := Lib.hid hp3; have Hb3 := Lib.hid hb3; clear hk hb3 HR3 hX2 hp3 hre; unfold partV; have HE3 := Lib.hid ((Hb3.out.block (w.heap.size + 2) (by omega) (by omega)).trans HE2.out); have sB := cells7' HE3.out))
                all_goals
                  go_wp2
                  refine bodyPost_ret (v := partV vk va vt vo vn vs PK kids.length (kids.length + c) d) (by simp [results, Tryz.results124, go_sem, partV, r0, r1, r2, r3, r4, r5, r6, r7]) rfl ?_
                  refine own_end (N := 3) hgl ?_ Hv.out Hp3.out (Hbut2.out.trans Hb3.out) ?_ ?_
                  · intro b hb'
                    have := Hb3.out.size
                    rcases hb' with h1 | ⟨h1, h2⟩
                    · exact ⟨(HSo.out b h1).1, by have := (HSo.out b h1).2; omega⟩
                    · exact ⟨by omega, by omega⟩
                  · intro b hb1
                    repeat (with_reducible refine (Below.heap_setCell _ _ _ _ (by simp; omega)).trans ?_)
                    rfl
                  · repeat (first | with_reducible exact Below.refl _ _ | with_reducible refine Below.setCell ?_ (by first | (simp; done) | (simp; omega)) _)
            · have f5 : (tb == ([114, 111, 119, 115] : List UInt8)) = false := by simpa using h5
              by_cases h6 : (tb == ([99, 111, 108, 115] : List UInt8)) = true
              · rw [if_pos (Or.inr (Or.inr h6)), if_neg h4, if_neg h5] at hr
                clear h4 h5
                cases hp : partsK k ([40] : List UInt8) ([41] : List UInt8) s with
                | none => rw [hp] at hr; cases hr
                | some q =>
                  rw [hp] at hr
                  obtain ⟨l, s1⟩ := q
                  simp only [Option.some.injEq] at hr
                  obtain ⟨hev, hlk, hdp⟩ := (pure_all k).parts _ _ _ _ hp
                  have hk25 : k ≤ 33554432 := by unfold Ok at hok; omega
                  have hdk := mostD_le hk25
                  have hok1 : Ok k s1 := (hok.even hev).less (Nat.le_succ k)
                  have hX := fun (S : Nat → Prop) (A : Option Addr) (cap : Nat) w2 (hp2 : PAt w2 g s1) (hS : ∀ b, S b → g < b ∧ b < w2.heap.size) (hR : RdPs w2 S A l) => counted_any g s1 S 1 1 13 ta 0 0 ⟨#[]⟩ l A cap w2 hp2 hS (by simp only at hlk; omega) hR (fun p hp => ⟨(hdp p hp).1, by have := (hdp p hp).2; omega⟩) (by unfold Ok at hok1; omega) (by unfold Ok at hok1; omega)
                  rw [hr] at hX
                  have hQ := fun w2 (hp2 : PAt w2 g s) => HP g ([40] : List UInt8) ([41] : List UInt8) s (l, s1) w2 hp (hok.less (Nat.le_succ k)) hp2
                  obtain ⟨W, hW, hbW, hzW, hbT, hbR, hbE⟩ := three_al w #[.int .i64 tk, .int .i64 ta, .int .i64 tn, .string ⟨tb.toArray⟩] #[.int .i64 0, .int .i64 0, .int .i64 0, .int .i64 0, .int .i64 0, .string ⟨#[]⟩, .slice none 0 0, .int .i64 0] #[.int .i64 13, .int .i64 ta, .int .i64 0, .int .i64 0, .int .i64 0, .string ⟨#[]⟩, .slice none 0 0] 56 124 96
                  have hPW := h.keep hbW
                  have HbW := Lib.hid hbW
                  have HR2 := Lib.hid hbR
                  have hz2 : w.heap.size + 2 < W.heap.size := by omega
                  have Hbut2 : Hid (But g w W) := Lib.hid (But.of_below hbW)
                  have HR4 := HR2
                  have hz4 := hz2
                  have HE4 := Lib.hid hbE
                  have hM := measure_any tb
                  simp only [f4, f5, Bool.false_eq_true, if_false] at hM
                  clear hr hok HP h hbW hbT hbR hp hev hlk hdp hok1 hk25 hdk HR2 hz2 Hbut2
                  go_enter Tryz.func124, Tryz.ntmps124
                  go_upto_region 18 with (go_at_call 130; refine (hM _).mono ?_; rintro e w' ⟨rfl, rfl⟩)
                  rw [← hW]
                  clear hW
                  obtain ⟨e0, e1, e2, e3, e4, e5, e6, ef⟩ := cells7 hbE
                  have hQ4 := hQ W.drew (hPW.up (Below.refl _ _).drew)
                  have s0 := cells7' (w := W.drew) HE4.out
                  clear hQ hbE hPW
                  go_region_held3 (fun w' => w'.cell? ⟨w.heap.size + 2, 0, none⟩ = some (.int .i64 13) ∧ w'.cell? ⟨w.heap.size + 2, 1, none⟩ = some (.int .i64 ta) ∧ w'.cell? ⟨w.heap.size + 2, 2, none⟩ = some (.int .i64 0) ∧ w'.cell? ⟨w.heap.size + 2, 3, none⟩ = some (.int .i64 0) ∧ w'.cell? ⟨w.heap.size + 2, 4, none⟩ = some (.int .i64 0) ∧ w'.cell? ⟨w.heap.size + 2, 5, none⟩ = some (.string ⟨#[]⟩) ∧ w'.cell? ⟨w.heap.size + 2, 6, none⟩ = some (.slice none 0 0)) (first | with_reducible exact s0 | with_reducible exact sA | with_reducible exact sB | (simp only [eight_far (show w.heap.size + 1 ≠ w.heap.size + 2 by omega)]; with_reducible exact sB)) (first
                    | (go_at_call 111; refine hQ4.mono ?_; rintro e w2 ⟨A, cap, rfl, hc1, hc2, hrd, hp5, hb5⟩; have hb5' : But g W w2 := ((But.refl g W).drew).trans hb5; have HE2 := (hb5'.block (w.heap.size + 2) (by omega) (by omega)).trans HE4.out; have sA := cells7' HE2; have HR2 := Lib.hid ((hb5'.block (w.heap.size + 1) (by omega) (by omega)).trans HR4.out); have hz2 : w.heap.size + 2 < w2.heap.size := (by have := hb5'.size; omega); have hSo : ∀ b, From W.heap.size w2 b → w.heap.size + 3 ≤ b ∧ b < w2.heap.size := (fun b hb => ⟨(by have := hb.1; omega), hb.2⟩); have hX2 := hX (From W.heap.size w2) A cap w2 hp5 (fun b hb => ⟨(by have := (hSo b hb).1; omega), hb.2⟩) hrd; have HSo := Lib.hid hSo; have Hbut2 : Hid (But g w w2) := Lib.hid ((But.of_below HbW.out).trans hb5'); replace HE2 := Lib.hid HE2; clear hb5 hb5' hp5 hrd hc1 hc2 hSo hX hQ4)
                    | (go_at_call 112; refine hX2.mono ?_; rintro e w3 ⟨v, rfl, hv, hp3, hb3⟩; obtain ⟨vk, va, vt, vo, vn, vs, kids, PK, c, d, hre, rfl, hk⟩ := hv; have HR3 := (hb3.block (w.heap.size + 1) (by omega) (by omega)).trans HR2.out; obtain ⟨r0, r1, r2, r3, r4, r5, r6, r7, rf⟩ := cells8 HR3; have hz3 := Nat.lt_of_lt_of_le hz2 hb3.size; have Hv := Lib.hid (PartV.intro vk va vt vo vn vs kids PK c d hre hk); have Hp3 := Lib.hid hp3; have Hb3 := Lib.hid hb3; clear hk hb3 HR3 hX2 hp3 hre; unfold partV; have HE3 := Lib.hid ((Hb3.out.block (w.heap.size + 2) (by omega) (by omega)).trans HE2.out); have sB := cells7' HE3.out))
                  all_goals
                    go_wp2
                    refine bodyPost_ret (v := partV vk va vt vo vn vs PK kids.length (kids.length + c) d) (by simp [results, Tryz.results124, go_sem, partV, r0, r1, r2, r3, r4, r5, r6, r7]) rfl ?_
                    refine own_end (N := 3) hgl ?_ Hv.out Hp3.out (Hbut2.out.trans Hb3.out) ?_ ?_
                    · intro b hb'
                      have := Hb3.out.size
                      rcases hb' with h1 | ⟨h1, h2⟩
                      · exact ⟨(HSo.out b h1).1, by have := (HSo.out b h1).2; omega⟩
                      · exact ⟨by omega, by omega⟩
                    · intro b hb1
                      repeat (with_reducible refine (Below.heap_setCell _ _ _ _ (by simp; omega)).trans ?_)
                      rfl
                    · repeat (first | with_reducible exact Below.refl _ _ | with_reducible refine Below.setCell ?_ (by first | (simp; done) | (simp; omega)) _)
              · rw [if_neg (by simp [f4, f5, h6])] at hr
                have f6 : (tb == ([99, 111, 108, 115] : List UInt8)) = false := by simpa using h6
                clear h4 h5 h6
                simp only [Option.some.injEq] at hr
                obtain ⟨W, hW, hbW, hzW, hbT, hbR, hbE⟩ := three_al w #[.int .i64 tk, .int .i64 ta, .int .i64 tn, .string ⟨tb.toArray⟩] #[.int .i64 0, .int .i64 0, .int .i64 0, .int .i64 0, .int .i64 0, .string ⟨#[]⟩, .slice none 0 0, .int .i64 0] #[.int .i64 0, .int .i64 ta, .int .i64 0, .int .i64 0, .int .i64 0, .string ⟨#[]⟩, .slice none 0 0] 56 124 96
                have hPW := h.keep hbW
                have HbW := Lib.hid hbW
                have HR2 := Lib.hid hbR
                have hz2 : w.heap.size + 2 < W.heap.size := by omega
                have Hbut2 : Hid (But g w W) := Lib.hid (But.of_below hbW)
                have hF := refuse_any g s ⟨tk, ta, tn, tb⟩ W hPW
                have hX := fun w2 (hp2 : PAt w2 g (s.refuse ⟨tk, ta, tn, tb⟩)) => whole_any g (s.refuse ⟨tk, ta, tn, tb⟩) NoB 0 ta 0 0 ⟨#[]⟩ [] none 0 w2 hp2 (fun b hb => absurd hb (by unfold NoB; simp)) (by simp) (fun hl => by simp at hl) (fun p hp => by simp at hp) (by have : (s.refuse ⟨tk, ta, tn, tb⟩).deep = s.deep := rfl; unfold Ok at hok; omega) (by have : (s.refuse ⟨tk, ta, tn, tb⟩).deep = s.deep := rfl; unfold Ok at hok; omega)
                rw [hr] at hX
                obtain ⟨s1, hs1⟩ : ∃ s1, s1 = s.refuse ⟨tk, ta, tn, tb⟩ := ⟨_, rfl⟩
                rw [← hs1] at hF hX
                unfold tkV at hF
                rw [hW] at hF
                have HRW := HR2
                have HEW := Lib.hid hbE
                clear hr hok HP h hPW hbW hbT hbR hbE hs1 HR2 hz2 Hbut2
                go_enter Tryz.func124, Tryz.ntmps124
                go_wp2_with (first
                  | (go_at_call 57; refine hF.mono ?_; rintro e w2 ⟨rfl, hp2, hb2⟩; rw [← hW] at hb2; have hbut2 : But g w w2 := (But.of_below HbW.out).trans hb2; have HR2 := Lib.hid ((hb2.block (w.heap.size + 1) (by omega) (by omega)).trans HRW.out); have HE2 := (hb2.block (w.heap.size + 2) (by omega) (by omega)).trans HEW.out; obtain ⟨e0, e1, e2, e3, e4, e5, e6, ef⟩ := cells7 HE2; have hz2 : w.heap.size + 2 < w2.heap.size := (by have := hb2.size; omega); have hX2 := hX w2 hp2; have HSo : Hid (∀ b, NoB b → w.heap.size + 3 ≤ b ∧ b < w2.heap.size) := Lib.hid (fun b hb => absurd hb (by unfold NoB; simp)); have Hbut2 := Lib.hid hbut2; clear hb2 hbut2 hF hX HE2 hp2)
                  | (go_at_call 110; refine hX2.mono ?_; rintro e w3 ⟨v, rfl, hv, hp3, hb3⟩; obtain ⟨vk, va, vt, vo, vn, vs, kids, PK, c, d, hre, rfl, hk⟩ := hv; have HR3 := (hb3.block (w.heap.size + 1) (by omega) (by omega)).trans HR2.out; obtain ⟨r0, r1, r2, r3, r4, r5, r6, r7, rf⟩ := cells8 HR3; have hz3 := Nat.lt_of_lt_of_le hz2 hb3.size; have Hv := Lib.hid (PartV.intro vk va vt vo vn vs kids PK c d hre hk); have Hp3 := Lib.hid hp3; have Hb3 := Lib.hid hb3; clear hk hb3 HR3 hX2 hp3 hre; unfold partV))
                refine bodyPost_ret (v := partV vk va vt vo vn vs PK kids.length (kids.length + c) d) (by simp [results, Tryz.results124, go_sem, partV, r0, r1, r2, r3, r4, r5, r6, r7]) rfl ?_
                refine own_end (N := 3) hgl ?_ Hv.out Hp3.out (Hbut2.out.trans Hb3.out) ?_ ?_
                · intro b hb'
                  have := Hb3.out.size
                  rcases hb' with h1 | ⟨h1, h2⟩
                  · exact ⟨(HSo.out b h1).1, by have := (HSo.out b h1).2; omega⟩
                  · exact ⟨by omega, by omega⟩
                · intro b hb1
                  repeat (with_reducible refine (Below.heap_setCell _ _ _ _ (by simp; omega)).trans ?_)
                  rfl
                · repeat (first | with_reducible exact Below.refl _ _ | with_reducible refine Below.setCell ?_ (by first | (simp; done) | (simp; omega)) _)
end Go.Proofs.YtiadbeglhnocoaaGreatDoor
