/-
  Signs ahead of one, and that one.
-/
import Derived.Test.YtiadbeglhnocoaaGreatDoorJb23
namespace Go.Proofs.YtiadbeglhnocoaaGreatDoor
set_option linter.unusedVariables false
set_option linter.unusedSimpArgs false
open Go.RowKit

def FiC (k : Nat) : Prop := ∀ g s r w, firstK k s = some r → Ok k s → PAt w g s → Calls Tryz.prog 116 #[.pointer (some ⟨g, 0, none⟩)] w (WholePost g NoB w r)
def AhC (k : Nat) : Prop := ∀ g s r w, aheadK k s = some r → Ok k s → PAt w g s → Calls Tryz.prog 106 #[.pointer (some ⟨g, 0, none⟩)] w (WholePost g NoB w r)
def InC (k : Nat) : Prop := k ≤ 33554431 → ∀ g (f : Part) v (S : Nat → Prop) s r w, indexK k f s = some r → Ok k s → PAt w g s → PartV w S v f → (∀ b, S b → g < b ∧ b < w.heap.size) → 0 ≤ f.2 → f.2 ≤ mostD k → Calls Tryz.prog 97 #[.pointer (some ⟨g, 0, none⟩), v] w (WholePost g S w r)
/-- A row of one part that was made for it. -/
theorem RdPs.one {w W : World} {S : Nat → Prop} {k a t o n : Int} {s : ByteArray} {kids : List Ex} {K : Option Addr} {c : Nat} {d : Int} (hS : ∀ b, S b → b < w.heap.size) (hk : RdEs w S K 0 kids) (hW : Below w.heap.size w W) (hb : W.heap[w.heap.size]? = some (.cells #[.int .i64 k, .int .i64 a, .int .i64 t, .int .i64 o, .int .i64 n, .string s, .slice K kids.length (kids.length + c), .int .i64 d] 124 (0, 0))) :
    RdPs W (fun b => S b ∨ b = w.heap.size) (some ⟨w.heap.size, 0, none⟩) [(.mk k a t o n s kids, d)] := fun _ => by
  refine ⟨w.heap.size, 0, rfl, Or.inr rfl, fun i p hp => ?_⟩
  cases i with
  | zero =>
    simp at hp
    subst hp
    obtain ⟨x0, x1, x2, x3, x4, x5, x6, x7, _⟩ := cells8 hb
    have hk2 := RdEs.more (S' := fun b => S b ∨ b = w.heap.size) (fun b hb => Or.inl hb) _ _ _ (RdEs.keep (w' := W) (fun q hq => hW.cell (hS _ hq)) _ _ _ hk)
    refine ⟨?_, ?_⟩
    · unfold RdE
      simp only [Nat.zero_mul, Nat.zero_add]
      exact ⟨x0, x1, x2, x3, x4, x5, K, c, x6, hk2⟩
    · simp only [Nat.zero_mul, Nat.zero_add]
      exact x7
  | succ i => simp at hp
set_option maxRecDepth 100000 in
set_option maxHeartbeats 16000000 in
theorem ahead_any (k : Nat) (HFi : FiC k) (HIn : InC k) (HAh : AhC k) (g : Nat) (s : PS) (r : Part × PS) (w : World) (hr : aheadK (k + 1) s = some r) (hok : Ok (k + 1) s) (h : PAt w g s) :
    Calls Tryz.prog 106 #[.pointer (some ⟨g, 0, none⟩)] w (WholePost g NoB w r) := by
  have hgl := h.lt
  simp only [aheadK] at hr
  obtain ⟨W, hW, hbW, hzW, hbR⟩ := one_al w #[.int .i64 0, .int .i64 0, .int .i64 0, .int .i64 0, .int .i64 0, .string ⟨#[]⟩, .slice none 0 0, .int .i64 0] 124
  have hPW := h.keep hbW
  have hI := now_any g s W hPW
  obtain ⟨t, hnow⟩ : ∃ t, t = s.now := ⟨_, rfl⟩
  rw [← hnow] at hr hI
  have hNx := fun w2 (hp2 : PAt w2 g s) => next_any g s w2 hp2
  rw [← hnow] at hNx
  obtain ⟨tk, ta, tn, tb⟩ := t
  unfold tkV at hI hNx
  have f3 := tok_f3 tk ta tn ⟨tb.toArray⟩
  have f1 := tok_f1 tk ta tn ⟨tb.toArray⟩
  have hT := turning_any tb
  have HbW := Lib.hid hbW
  have HbR := Lib.hid hbR
  have HPW := Lib.hid hPW
  simp only at hr
  obtain ⟨op, hop⟩ : ∃ op, op = turnOf tb := ⟨_, rfl⟩
  rw [← hop] at hr hT
  clear hop hnow
  by_cases h0 : op = 0
  · rw [if_pos h0] at hr
    subst h0
    cases hf : firstK k s with
    | none => rw [hf] at hr; cases hr
    | some q =>
      rw [hf] at hr
      obtain ⟨f, s1⟩ := q
      simp only at hr
      obtain ⟨hev, hd0, hd1⟩ := (pure_all k).first _ _ hf
      simp only at hev hd0 hd1
      have hX := fun w2 (hp2 : PAt w2 g s) => HFi g s (f, s1) w2 hf (hok.less (Nat.le_succ k)) hp2
      have hY := fun v S w2 (hp2 : PAt w2 g s1) (hv : PartV w2 S v f) (hS : ∀ b, S b → g < b ∧ b < w2.heap.size) => HIn (by unfold Ok at hok; omega) g f v S s1 r w2 hr ((hok.even hev).less (Nat.le_succ k)) hp2 hv hS hd0 hd1
      rw [hW] at hI
      clear hr hok h hPW hbW hbR HFi HIn HAh hf hev hd0 hd1 hNx f1
      go_enter Tryz.func106, Tryz.ntmps106
      go_wp2_with (first
        | (go_at_call 18; refine hI.mono ?_; rintro e w1 ⟨rfl, hb1⟩; rw [← hW] at hb1; have hz1 : w.heap.size < w1.heap.size := (by have := hb1.size; omega); have hX1 := hX w1 (HPW.out.keep hb1); have HR1 := Lib.hid ((hb1.block w.heap.size (by omega)).trans HbR.out); have Hbut1 : Hid (But g w w1) := Lib.hid (But.of_below (HbW.out.trans (hb1.mono (by omega)))); clear hb1 hI hX)
        | (go_at_call 115; refine (hT _).mono ?_; rintro e w' ⟨rfl, rfl⟩)
        | (go_at_call 116; refine hX1.mono ?_; rintro e w2 ⟨v, rfl, hv, hp2, hb2⟩; have HR2 := Lib.hid ((hb2.block w.heap.size hz1 (by omega)).trans HR1.out); have hz2 : w.heap.size < w2.heap.size := Nat.lt_of_lt_of_le hz1 hb2.size; have hSo : ∀ b, Or' NoB w1 w2 b → w.heap.size + 1 ≤ b ∧ b < w2.heap.size := (fun b hb => by rcases hb with hb | ⟨hb, hb'⟩; exact absurd hb (by unfold NoB; simp); exact ⟨by omega, hb'⟩); have hX2 := hY v (Or' NoB w1 w2) w2 hp2 hv (fun b hb => ⟨by have := (hSo b hb).1; omega, (hSo b hb).2⟩); have HSo := Lib.hid hSo; have Hbut2 := Lib.hid (Hbut1.out.trans hb2); obtain ⟨wk, wa, wt, wo, wn, wz, wkids, WK, wc, wd, _, rfl, _⟩ := hv; unfold partV at hX2; unfold partV; clear hp2 hb2 hSo hY hX1)
        | (go_at_call 97; refine hX2.mono ?_; rintro e w3 ⟨v, rfl, hv, hp3, hb3⟩; obtain ⟨vk, va, vt, vo, vn, vs, kids, PK, c, d, hre, rfl, hk⟩ := hv; have HR3 := (hb3.block (w.heap.size) (by omega) (by omega)).trans HR2.out; obtain ⟨r0, r1, r2, r3, r4, r5, r6, r7, rf⟩ := cells8 HR3; have hz3 := Nat.lt_of_lt_of_le hz2 hb3.size; have Hv := Lib.hid (PartV.intro vk va vt vo vn vs kids PK c d hre hk); have Hp3 := Lib.hid hp3; have Hb3 := Lib.hid hb3; clear hk hb3 HR3 hX2 hp3 hre; unfold partV))
      refine bodyPost_ret (v := partV vk va vt vo vn vs PK kids.length (kids.length + c) d) (by simp [results, Tryz.results106, go_sem, partV, r0, r1, r2, r3, r4, r5, r6, r7]) rfl ?_
      refine own_end (N := 1) hgl ?_ Hv.out Hp3.out (Hbut2.out.trans Hb3.out) ?_ ?_
      · intro b hb'
        have := Hb3.out.size
        rcases hb' with h1 | ⟨h1, h2⟩
        · exact ⟨(HSo.out b h1).1, by have := (HSo.out b h1).2; omega⟩
        · exact ⟨by omega, by omega⟩
      · intro b hb1
        repeat (with_reducible refine (Below.heap_setCell _ _ _ _ (by simp; omega)).trans ?_)
        rfl
      · repeat (first | with_reducible exact Below.refl _ _ | with_reducible refine Below.setCell ?_ (by first | (simp; done) | (simp; omega)) _)
  · rw [if_neg h0] at hr
    cases hf : aheadK k s.next.enter with
    | none => rw [hf] at hr; cases hr
    | some q =>
      rw [hf] at hr
      obtain ⟨x, s2⟩ := q
      simp only [Option.some.injEq] at hr
      have hopb : (op == 0) = false := by simpa using h0
      obtain ⟨hev, hd0, hd1⟩ := (pure_all k).ahead _ _ hf
      simp only at hev hd0 hd1
      have hk25 : k ≤ 33554432 := by unfold Ok at hok; omega
      have hdk := mostD_le hk25
      have hoke : Ok k s.next.enter := (hok.even (even_next s)).enter
      have hok2 : Ok k s2 := hoke.even hev
      have hns : s.next.nest = s.nest := (even_next s).1
      have hns2 : s2.nest = s.nest + 1 := by rw [hev.1, (enter_nest _).1, hns]
      obtain ⟨s', hs'⟩ : ∃ s', s' = s.next := ⟨_, rfl⟩
      rw [← hs'] at hNx hf hoke hns
      have hE := fun w' (hp : PAt w' g s') => enter_any g s' w' hp (by unfold Ok at hok; omega) (by unfold Ok at hok; omega)
      obtain ⟨s1, hs1⟩ : ∃ s1, s1 = s'.enter := ⟨_, rfl⟩
      rw [← hs1] at hE hf hoke
      have hA := fun w2 (hp2 : PAt w2 g s1) => HAh g s1 (x, s2) w2 hf hoke hp2
      have hX := fun (S : Nat → Prop) (A : Option Addr) w2 (hp2 : PAt w2 g s2) (hS : ∀ b, S b → g < b ∧ b < w2.heap.size) (hR : RdPs w2 S A [x]) => whole_any g s2 S 4 ta op 0 ⟨#[]⟩ [x] A 1 w2 hp2 hS (by simp) hR (fun p hp => by simp only [List.mem_singleton] at hp; rw [hp]; exact ⟨hd0, by omega⟩) (by unfold Ok at hok2; omega) (by unfold Ok at hok2; omega)
      obtain ⟨rr, hr2⟩ : ∃ rr, rr = wholeP s2 4 ta op 0 ⟨#[]⟩ [x] := ⟨_, rfl⟩
      have hev2 : rr.2.nest = s.nest + 1 := by rw [hr2, (even_whole _ _ _ _ _ _ _).1, hns2]
      rw [← hr2] at hX hr
      subst hr
      have Hev2 := Lib.hid hev2
      have Hok := Lib.hid hok
      rw [hW] at hI
      clear hok h hPW hbW hbR HFi HIn HAh hf hev hd0 hd1 hk25 hdk hoke hok2 hns hns2 hs' hs1 hr2 hev2 h0
      go_enter_defers Tryz.func106, Tryz.ntmps106
      go_upto_region 7 with (first
        | (go_at_call 18; refine hI.mono ?_; rintro e w1 ⟨rfl, hb1⟩; rw [← hW] at hb1; have hz1 : w.heap.size < w1.heap.size := (by have := hb1.size; omega); have hN1 := hNx w1 (HPW.out.keep hb1); have HR1 := Lib.hid ((hb1.block w.heap.size (by omega)).trans HbR.out); have Hbut1 : Hid (But g w w1) := Lib.hid (But.of_below (HbW.out.trans (hb1.mono (by omega)))); clear hb1 hI hNx)
        | (go_at_call 115; refine (hT _).mono ?_; rintro e w' ⟨rfl, rfl⟩)
        | (go_at_call 58; refine hN1.mono ?_; rintro e w4 ⟨rfl, hp4, hb4⟩; obtain ⟨W4, hW4, hbW4, hzW4, hbE4⟩ := one_al w4 #[.int .i64 4, .int .i64 ta, .int .i64 0, .int .i64 op, .int .i64 0, .string ⟨#[]⟩, .slice none 0 0] 96; have hE4 := hE W4 (hp4.keep hbW4); rw [hW4] at hE4; have HR4 := Lib.hid ((hbW4.block w.heap.size (Nat.lt_of_lt_of_le hz1 hb4.size)).trans ((hb4.block w.heap.size hz1 (by omega)).trans HR1.out)); have HbE4 := Lib.hid hbE4; have hz4 : w.heap.size < w4.heap.size := Nat.lt_of_lt_of_le hz1 hb4.size; have Hbut4 := Lib.hid ((Hbut1.out.trans hb4).trans (But.of_below hbW4)); clear hp4 hb4 hbW4 hbE4 hN1 hE)
        | (go_at_call 59; refine hE4.mono ?_; rintro e w5 ⟨rfl, hp5, hb5⟩; rw [← hW4] at hb5; have HR5 := Lib.hid ((hb5.block w.heap.size (by omega) (by omega)).trans HR4.out); have HE5 := Lib.hid ((hb5.block w4.heap.size (by omega) (by omega)).trans HbE4.out); have Hbut5 := Lib.hid (Hbut4.out.trans hb5); have hz5 : w4.heap.size < w5.heap.size := (by have := hb5.size; omega); have hA5 := hA w5.drew (hp5.up (Below.refl _ _).drew); clear hp5 hb5 hE4 hA))
      have s0 := cells7' (w := w5.drew) HE5.out
      clear hW hW4
      go_region_held3 (fun w' => w'.cell? ⟨w4.heap.size, 0, none⟩ = some (.int .i64 4) ∧ w'.cell? ⟨w4.heap.size, 1, none⟩ = some (.int .i64 ta) ∧ w'.cell? ⟨w4.heap.size, 2, none⟩ = some (.int .i64 0) ∧ w'.cell? ⟨w4.heap.size, 3, none⟩ = some (.int .i64 op) ∧ w'.cell? ⟨w4.heap.size, 4, none⟩ = some (.int .i64 0) ∧ w'.cell? ⟨w4.heap.size, 5, none⟩ = some (.string ⟨#[]⟩) ∧ w'.cell? ⟨w4.heap.size, 6, none⟩ = some (.slice none 0 0)) (first | with_reducible exact s0 | with_reducible exact sA | with_reducible exact sC | with_reducible exact sB | (simp only [eight_far (show w.heap.size ≠ w4.heap.size by omega)]; with_reducible exact sB)) (first
        | (go_at_call 106; refine hA5.mono ?_; rintro e w6 ⟨v6, rfl, hv6, hp6, hb6⟩; obtain ⟨qk, qa, qt, qo, qn, qs, qkids, QK, qc, qd, hqe, rfl, hqk⟩ := hv6; have hb6' : But g w5 w6 := ((But.refl g w5).drew).trans hb6; have HE6 := (hb6'.block w4.heap.size (by omega) (by omega)).trans HE5.out; have sA := cells7' HE6; have hz6 : w4.heap.size < w6.heap.size := heap_lt HE6; obtain ⟨W7, hW7, hbW7, hzW7, hbP7⟩ := one_al w6 #[.int .i64 qk, .int .i64 qa, .int .i64 qt, .int .i64 qo, .int .i64 qn, .string qs, .slice QK qkids.length (qkids.length + qc), .int .i64 qd] 124; have HE7 := Lib.hid ((hbW7.block _ hz6).trans HE6); have sC := cells7' HE7.out; rw [hW7] at sC; have hSo0 : ∀ b, Or' NoB w5 w6 b → b < w6.heap.size := (fun b hb => by rcases hb with hb | hb; exact absurd hb (by unfold NoB; simp); exact hb.2); have hrow := RdPs.one hSo0 hqk hbW7 hbP7; have hqe2 := hqe; simp only at hqe2; rw [← hqe2] at hrow; have hSo : ∀ b, (Or' NoB w5 w6 b ∨ b = w6.heap.size) → w.heap.size + 1 ≤ b ∧ b < W7.heap.size := (fun b hb => by have := hb6'.size; rcases hb with (hb | hb) | hb; exact absurd hb (by unfold NoB; simp); exact ⟨by have := hb.1; omega, by have := hb.2; omega⟩; exact ⟨by omega, by omega⟩); have hX2 := hX _ _ W7 (hp6.keep hbW7) (fun b hb => ⟨by have := (hSo b hb).1; omega, (hSo b hb).2⟩) hrow; rw [hW7] at hX2; have HR2 := Lib.hid ((hbW7.block w.heap.size (by omega)).trans ((hb6'.block w.heap.size (by omega) (by omega)).trans HR5.out)); have hz2 : w.heap.size < W7.heap.size := (by omega); have HSo := Lib.hid hSo; have Hbut2 : Hid (But g w W7) := Lib.hid ((Hbut5.out.trans hb6').trans (But.of_below hbW7)); have HW7 := Lib.hid hW7; clear hb6 hb6' hp6 hqk hqe hqe2 hSo hSo0 hrow hX hA5 HE6 hbW7 hbP7 hW7; unfold partV)
        | (go_at_call 110; refine hX2.mono ?_; rintro e w3 ⟨v, rfl, hv, hp3, hb3⟩; rw [← HW7.out] at hv hb3; obtain ⟨vk, va, vt, vo, vn, vs, kids, PK, c, d, hre, rfl, hk⟩ := hv; have HR3 := (hb3.block (w.heap.size) (by omega) (by omega)).trans HR2.out; obtain ⟨r0, r1, r2, r3, r4, r5, r6, r7, rf⟩ := cells8 HR3; have hz3 := Nat.lt_of_lt_of_le hz2 hb3.size; have Hv := Lib.hid (PartV.intro vk va vt vo vn vs kids PK c d hre hk); have Hp3 := Lib.hid hp3; have Hb3 := Lib.hid hb3; clear hk hb3 HR3 hX2 hp3 hre; unfold partV; have HE3 := Lib.hid ((Hb3.out.block w4.heap.size (by omega) (by omega)).trans HE7.out); have sB := cells7' HE3.out))
      all_goals
        go_wp2
        refine leaves_cons (f := 60) (args := #[.pointer (some ⟨g, 0, none⟩)]) (by simp) (by simp [go_sem]) ?_
        refine (leave_d g rr.2 .returning _ (Hp3.out.up ?_) (by have := Hev2.out; have := Hok.out; unfold Ok at this; omega) (by have := Hev2.out; have := Hok.out; unfold Ok at this; omega)).mono ?_
        · exact eight_below (by omega)
        rintro r u' w'' ⟨rfl, rfl, hp, hb⟩
        have hR3 := (Hb3.out.block w.heap.size (by omega) (by omega)).trans HR2.out
        have hRR := (hb.block w.heap.size (by simp; omega) (by omega)).trans (eight_at hR3 _ _ _ _ _ _ _ _)
        obtain ⟨q0, q1, q2, q3, q4, q5, q6, q7, _⟩ := cells8 hRR
        have hz' := hb.size
        simp at hz'
        refine ⟨partV vk va vt vo vn vs PK kids.length (kids.length + c) d, by simp [results, Tryz.results106, go_sem, partV, q0, q1, q2, q3, q4, q5, q6, q7], ?_⟩
        refine own_end2 (N := 1) (w3 := w3) (fun b hb' => ?_) Hv.out (fun b hb1 hb2 => ?_) hp ?_ (by omega)
        · have := Hb3.out.size
          rcases hb' with h1 | ⟨h1, h2⟩
          · exact ⟨(HSo.out b h1).1, by have := (HSo.out b h1).2; omega⟩
          · exact ⟨by omega, h2⟩
        · exact (hb.block b (by simp; omega) (by omega)).trans (eight_heap (by omega))
        · exact (But.up (Hbut2.out.trans Hb3.out) (eight_below (by omega))).trans hb
end Go.Proofs.YtiadbeglhnocoaaGreatDoor
