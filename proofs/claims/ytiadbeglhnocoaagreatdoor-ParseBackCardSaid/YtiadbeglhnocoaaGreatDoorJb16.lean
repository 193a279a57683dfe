/-
  A sign that must be there; a name; what is within one another.
-/
import Derived.Test.YtiadbeglhnocoaaGreatDoorJb15
import Derived.Defers
namespace Go.Proofs.YtiadbeglhnocoaaGreatDoor
set_option linter.unusedVariables false
set_option linter.unusedSimpArgs false
open Go.RowKit

/-- One sign, in a row of one that was made for it. -/
theorem need1_at (g : Nat) (s : PS) (b : List UInt8) (w : World) (h : PAt w g s) :
    Calls Tryz.prog 38 #[.pointer (some ⟨g, 0, none⟩), .slice (some ⟨w.heap.size, 0, none⟩) 1 1] (w.alloc (.cells #[.string ⟨b.toArray⟩] 9)) (Mv g w (s.need1 b)) := by
  have hgl := h.lt
  refine (need_any g s [b] w.heap.size (w.alloc (.cells #[.string ⟨b.toArray⟩] 9)) (h.keep ((Below.refl _ _).alloc (Nat.le_refl _) _)) (by simp) (by omega) (heap_alloc_new w _)).mono ?_
  rintro e w' ⟨he, hp, hb⟩
  exact ⟨he, hp, ((But.refl g w).alloc _).trans hb⟩
set_option maxRecDepth 100000 in
set_option maxHeartbeats 2000000 in
theorem name_p (g : Nat) (s : PS) (w : World) (h : PAt w g s) :
    Calls Tryz.prog 39 #[.pointer (some ⟨g, 0, none⟩)] w fun e w' => e = .returned (.string ⟨s.now.bytes.toArray⟩) ∧ PAt w' g s.nameP ∧ But g w w' := by
  have hgl := h.lt
  have hN := next_any g s w h
  obtain ⟨t, ht⟩ : ∃ t, t = s.now := ⟨_, rfl⟩
  obtain ⟨s1, hs1⟩ : ∃ s1, s1 = s.next := ⟨_, rfl⟩
  have hnm : s.nameP = if t.kind = 1 then s1 else s1.refuse t := by unfold PS.nameP; rw [ht, hs1]
  rw [hnm]
  rw [← ht, ← hs1] at hN
  rw [← ht]
  have hR := fun w' (hp : PAt w' g s1) => refuse_any g s1 t w' hp
  clear hs1 ht h hnm
  obtain ⟨k, a, n, bs⟩ := t
  unfold tkV at hN hR
  simp only at hN hR ⊢
  by_cases hk : k = 1
  · subst hk
    simp only [if_true]
    clear hR
    go_enter Tryz.func39, Tryz.ntmps39
    go_wp2_with (go_at_call 58; refine hN.mono ?_; rintro e w1 ⟨rfl, hp, hb⟩; have Hp := Lib.hid hp; have Hb := Lib.hid hb; have hg1 := hp.lt; clear hp hb)
    go_ret
    exact ⟨rfl, Hp.out.keep ((Below.refl _ _).alloc (Nat.le_refl _) _), Hb.out.alloc _⟩
  · rw [if_neg hk]
    have hkb : (k != 1) = true := by simpa using hk
    clear hk
    go_enter Tryz.func39, Tryz.ntmps39
    go_wp2_with (first
      | (go_at_call 58; refine hN.mono ?_; rintro e w1 ⟨rfl, hp, hb⟩; have hR1 := hR _ (hp.keep ((Below.refl _ _).alloc (Nat.le_refl _) (.cells #[.int .i64 k, .int .i64 a, .int .i64 n, .string ⟨bs.toArray⟩] 56))); have Hb := Lib.hid hb; have hg1 := hp.lt; clear hp hb hR)
      | (go_at_call 57; refine hR1.mono ?_; rintro e w2 ⟨rfl, hp2, hb2⟩; have hc3 := (hb2.cell (p := ⟨w1.heap.size, 3, none⟩) (by simp) (by simp; omega)); have Hp := Lib.hid hp2; have Hb2 := Lib.hid hb2; clear hp2 hb2))
    go_ret
    exact ⟨rfl, Hp.out, (Hb.out.alloc _).trans Hb2.out⟩
set_option maxRecDepth 100000 in
set_option maxHeartbeats 2000000 in
theorem enter_any (g : Nat) (s : PS) (w : World) (h : PAt w g s) (h1 : -4611686018427387904 ≤ s.nest) (h2 : s.nest ≤ 4611686018427387904) :
    Calls Tryz.prog 59 #[.pointer (some ⟨g, 0, none⟩)] w (Mv g w s.enter) := by
  have hgl := h.lt
  obtain ⟨A, cap, x0, x1, x2, x3, x4, xf, hcap, hmax, hr⟩ := h.five
  have hP := h.set4 (s.nest + 1)
  have hnow : ({ s with nest := s.nest + 1 } : PS).now = s.now := rfl
  obtain ⟨s1, hs1⟩ : ∃ s1 : PS, s1 = { s with nest := s.nest + 1 } := ⟨_, rfl⟩
  have hen : s.enter = if s.nest + 1 > 1024 then s1.fail 4 s1.now.at_ else s1 := by unfold PS.enter; rw [hs1]; rfl
  rw [hen]
  rw [← hs1] at hP
  have hN := now_any g s1 _ hP
  have hF := fun w' (hb : Below (w.setCell ⟨g, 4, none⟩ (.int .i64 (s.nest + 1))).heap.size (w.setCell ⟨g, 4, none⟩ (.int .i64 (s.nest + 1))) w') => fail_any g s1 4 s1.now.at_ w' (hP.keep hb)
  have H := Lib.hid hP
  clear hs1 hen hnow hr h hP
  obtain ⟨t, ht⟩ : ∃ t, t = s1.now := ⟨_, rfl⟩
  rw [← ht] at hN hF ⊢
  clear ht
  obtain ⟨k, a, m, bs⟩ := t
  unfold tkV at hN
  simp only at hN hF ⊢
  have f1 := tok_f1 k a m ⟨bs.toArray⟩
  by_cases hc : s.nest + 1 > 1024
  · rw [if_pos hc]
    obtain ⟨s2, hs2⟩ : ∃ s2, s2 = s1.fail 4 a := ⟨_, rfl⟩
    rw [← hs2] at hF ⊢
    clear hs2
    go_enter Tryz.func59, Tryz.ntmps59
    go_wp2_with (first
      | (go_at_call 18; refine hN.mono ?_; rintro e w1 ⟨rfl, hb⟩; have hF1 := hF w1 hb; have Hb := Lib.hid hb; clear hb hF)
      | (go_at_call 19; refine hF1.mono ?_; rintro e w2 ⟨rfl, hp2, hb2⟩; have Hp := Lib.hid hp2; have Hb2 := Lib.hid hb2; clear hp2 hb2))
    go_end0
    exact ⟨rfl, Hp.out, (((But.refl g w).setCell (Or.inl rfl) _).trans (But.of_below Hb.out)).trans Hb2.out⟩
  · rw [if_neg hc]
    clear hN hF
    go_enter Tryz.func59, Tryz.ntmps59
    go_wp2
    go_end0
    exact ⟨rfl, H.out, (But.refl g w).setCell (Or.inl rfl) _⟩
set_option maxRecDepth 100000 in
set_option maxHeartbeats 2000000 in
/-- As it is put off. -/
theorem leave_d (g : Nat) (s : PS) (u : FrameMode) (w : World) (h : PAt w g s) (h1 : -4611686018427387904 ≤ s.nest) (h2 : s.nest ≤ 4611686018427387904) :
    CallsD Tryz.prog 60 #[.pointer (some ⟨g, 0, none⟩)] u w fun e u' w' => u' = u ∧ Mv g w s.leave e w' := by
  have hgl := h.lt
  obtain ⟨A, cap, x0, x1, x2, x3, x4, xf, hcap, hmax, hr⟩ := h.five
  have H := Lib.hid (h.set4 (s.nest - 1))
  have hl : s.leave = { s with nest := s.nest - 1 } := rfl
  rw [hl]
  clear hr h hl
  go_enter_d Tryz.func60, Tryz.ntmps60
  go_wp2
  go_end0
  exact ⟨rfl, H.out, (But.refl g w).setCell (Or.inl rfl) _⟩
end Go.Proofs.YtiadbeglhnocoaaGreatDoor
