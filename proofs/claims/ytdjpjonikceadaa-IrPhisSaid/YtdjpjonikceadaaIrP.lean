/-
  A block is come to from another one.
-/
import Derived.Test.YtdjpjonikceadaaIrO
namespace Go.Proofs.Ytdjpjonikceadaa
open Go.RowKit
set_option linter.unusedVariables false
set_option linter.unusedSimpArgs false

set_option maxRecDepth 100000 in
theorem contains_nil (A : Option Addr) (c : Nat) (x : Int) (w : World) :
    Calls Try.prog 24 #[.slice A 0 c, .int .i64 x] w fun e w' => e = .returned (.bool false) ∧ w' = w := by
  have hI : ∀ w, Calls Try.prog 39 #[.slice A 0 c, .int .i64 x] w fun e w' => e = .returned (.int .i64 (-1)) ∧ w' = w := fun w => by
    go_enter Try.func39, Try.ntmps39
    go_wp2
    refine wp_loop_rounds 1 ?_
    rw [rounds_succ]
    go_wp2
    go_ret
    exact ⟨rfl, rfl⟩
  go_enter Try.func24, Try.ntmps24
  go_wp2_with (go_at_call 39; refine (hI _).mono ?_; rintro e w1 ⟨rfl, rfl⟩)
  go_ret
  exact ⟨rfl, rfl⟩

set_option maxRecDepth 100000 in
set_option maxHeartbeats 8000000 in
/-- A block is come to from another one, last. -/
theorem gain_any (kp : Nat) (hkp : kp ≠ 0) (E base N n g c m : Nat) (pred : Int) (IV PV : Value) (bs ps : List Value) (F : Nat → Rw) (w : World) (hE : EdC w E IV (.slice (some ⟨g, 0, none⟩) N c)) (hF : Fam w base E F) (h0 : F 0 = ⟨46, 5, .slice (some ⟨g, 0, none⟩) N c, N, bs⟩) (h4 : F kp = ⟨3, 1, PV, m, ps⟩)
    (hn : n < N) (hP : bs[n * 5 + 1]? = some PV) (hb : base ≤ w.heap.size) (hm : m ≤ 1000) :
    Calls Try.prog 25 #[.pointer (some ⟨E, 0, none⟩), .int .i64 n, .int .i64 pred] w fun e w' => e = .returned (.tuple #[]) ∧ Bd E base w w' ∧ EdC w' E IV (.slice (some ⟨g, 0, none⟩) N c) ∧ ∃ q d, Fam w' base E (upR (upR F kp ⟨3, 1, .slice (some ⟨q, 0, none⟩) (m + 1) d, m + 1, ps ++ [.int .i64 pred]⟩) 0 ⟨46, 5, .slice (some ⟨g, 0, none⟩) N c, N, bs.set (n * 5 + 1) (.slice (some ⟨q, 0, none⟩) (m + 1) d)⟩) := by
  have hown : w.ownsRow base 3 1 PV m ps := by have := hF.own kp; rw [h4] at this; exact this
  have hBo : w.ownsRow base 46 5 (.slice (some ⟨g, 0, none⟩) N c) N bs := by have := hF.own 0; rw [h0] at this; exact this
  obtain ⟨V, C, hV⟩ := own_slice hown
  subst hV
  have hB := block_ptr E n N g c IV w hE hn
  have hlen : bs.length = N * 5 := hBo.1
  have hgb := hBo.lt g rfl
  have p1 : w.cell? ⟨g, n * 5 + 1, none⟩ = some (.slice V m C) := (hBo.cellAt (n * 5 + 1) (by omega)).trans hP
  obtain ⟨A, hA, hbA, hzA, h0A⟩ := r_one_al w #[.int .i64 pred] 3
  have HOW := Lib.hid (own_up hown hbA)
  have HNW := Lib.hid (World.news_of_block h0A)
  have HO : Hid (∀ u ∈ ([.int .i64 pred] : List Value), u.oneCell' = true) := Lib.hid (by intro u hu; simp at hu; subst hu; rfl)
  have hsz : base ≤ A.heap.size := by omega
  have hne : some g ≠ (Value.slice V m C).ownBlock := fun e => by
    rcases hF.ne kp 0 hkp with h | h
    · rw [h4] at h; rw [h] at e; cases e
    · rw [h4, h0] at h; exact h e.symm
  obtain ⟨i0, hi, hz0, hz1, hz2⟩ := info_parts infoInt
  have Hi := Lib.hid hi
  have Hz0 := Lib.hid hz0
  have Hz1 := Lib.hid hz1
  have Hz2 := Lib.hid hz2
  have HE := Lib.hid hE
  have HF := Lib.hid hF
  have H0 := Lib.hid h0
  have H4 := Lib.hid h4
  have Hown := Lib.hid hown
  have HBo := Lib.hid hBo
  have HbA := Lib.hid hbA
  have HzA := Lib.hid hzA
  have Hne := Lib.hid hne
  have Hgb := Lib.hid hgb
  have Hlen := Lib.hid hlen
  rw [hA] at HOW HNW hsz
  have HA := Lib.hid hA
  clear hE hF h0 h4 hown hBo hA hbA hzA h0A hi hz0 hz1 hz2 hne hgb hP hlen
  go_enter Try.func25, Try.ntmps25
  go_wp2_with first
    | (go_at_call 22; refine hB.mono ?_; rintro e w1 ⟨rfl, rfl⟩)
    | (at_builtin; refine wpList_append_lies _ rfl (.tmp 16) (.tmp 18) 26 rfl base 3 i0 (.int .i64 0) 1 8 Try.underlying26 Hi.out Hz0.out Hz1.out Hz2.out rfl (by decide) (.slice V m C) m ps rfl HOW.out ⟨w1.heap.size, 0, none⟩ 1 1 [.int .i64 pred] rfl rfl HNW.out HO.out (by decide) (by unfold maxLen; omega) (by omega) hsz _ rfl ?_)
  intro gp cp w2 hown2 hgrow hat hlt2
  rw [← HA.out] at hgrow
  clear HOW HNW hsz
  have hw0 := fun b hb => Hown.out.lt b hb
  have hg0 : w1.grownBy w2 (F kp).v.ownBlock := by rw [H4.out]; exact grown_below HbA.out hgrow
  have hF2 := HF.out.grown kp hg0 ⟨3, 1, .slice (some ⟨gp, 0, none⟩) (m + 1) cp, m + 1, ps ++ [.int .i64 pred]⟩ hown2 (fun g' e => by
    simp only [Value.ownBlock, Option.some.injEq] at e
    subst e
    rw [H4.out]
    rcases hat with h | h
    · exact .inl h
    · exact .inr (by omega))
  have hk0 : upR F kp ⟨3, 1, .slice (some ⟨gp, 0, none⟩) (m + 1) cp, m + 1, ps ++ [.int .i64 pred]⟩ 0 = ⟨46, 5, .slice (some ⟨g, 0, none⟩) N c, N, bs⟩ := by rw [upR_off _ _ _ _ (fun e => hkp e.symm)]; exact H0.out
  obtain ⟨hF3, hg3⟩ := hF2.put hk0 (n * 5 + 1) (.slice (some ⟨gp, 0, none⟩) (m + 1) cp)
  have hB2 : w2.ownsRow base 46 5 (.slice (some ⟨g, 0, none⟩) N c) N bs := hF2.at hk0
  have hl := Hlen.out
  have p2 : w2.cell? ⟨g, n * 5 + 1, none⟩ = bs[n * 5 + 1]? := hB2.cellAt (n * 5 + 1) (by omega)
  have p2' : w2.cell? ⟨g, n * 5 + 1, none⟩ = some (bs[n * 5 + 1]'(by omega)) := p2.trans (List.getElem?_eq_getElem (by omega))
  have f2 := hB2.frozenAt (n * 5 + 1)
  have hbs2 : base ≤ w2.heap.size := Nat.le_trans hb hg0.size
  have d1 : Bd E base w1 w2 := Bd.of_grown hg0 (fun g' e => by rw [H4.out] at e; exact (hw0 g' e).1) hb
  have d2 : Bd E base w2 (w2.setCell ⟨g, n * 5 + 1, none⟩ (.slice (some ⟨gp, 0, none⟩) (m + 1) cp)) := Bd.of_grown hg3 (fun g' e => by cases e; exact Hgb.out.1) hbs2
  have hE2 : EdC w2 E IV (.slice (some ⟨g, 0, none⟩) N c) := (hg0.block E HF.out.el (fun e => HF.out.av kp e.symm)).trans HE.out
  have hE3 : EdC (w2.setCell ⟨g, n * 5 + 1, none⟩ (.slice (some ⟨gp, 0, none⟩) (m + 1) cp)) E IV (.slice (some ⟨g, 0, none⟩) N c) := (Below.heap_setCell _ _ _ _ (by show E ≠ g; intro e; have := HF.out.av 0; rw [H0.out] at this; exact this (by rw [e]; rfl))).trans hE2
  have hend := Lib.hid (And.intro (d1.trans d2) (And.intro hE3 hF3))
  obtain ⟨u, hu⟩ : ∃ u, u = bs[n * 5 + 1]'(by omega) := ⟨_, rfl⟩
  rw [← hu] at p2'
  clear hF2 hk0 hF3 hg3 hB2 hbs2 d1 d2 hE2 hE3 hg0 hown2 hgrow hat hlt2 hw0 p2 hu hl p1
  go_wp2
  go_end0
  exact ⟨rfl, hend.out.1, hend.out.2.1, gp, cp, hend.out.2.2⟩
end Go.Proofs.Ytdjpjonikceadaa
