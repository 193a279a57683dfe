/-
  What stands in brackets: a closure is called as often as there are commas, and once more.
-/
import Derived.Test.YtiadbeglhnocoaaGreatDoorJb9
import Derived.Test.YtiadbeglhnocoaaGreatDoorJb16
import Derived.Deep.LoopGhost
namespace Go.Proofs.YtiadbeglhnocoaaGreatDoor
set_option linter.unusedVariables false
set_option linter.unusedSimpArgs false
open Go.RowKit

/-- So many rounds at most, from a state to a state. -/
def Rounds {σ : Type} (step : σ → PS → σ → PS → Prop) : Nat → σ → PS → σ → PS → Prop
  | 0, _, _, _, _ => False
  | n + 1, a, s, c, s2 => ∃ b s1, step a s b s1 ∧ ((s1.isB ([44] : List UInt8) = false ∧ b = c ∧ s1 = s2) ∨ (s1.isB ([44] : List UInt8) = true ∧ Rounds step n b s1.next c s2))
/-- Behind the test of a round: go on, or not. -/
def More {σ : Type} (step : σ → PS → σ → PS → Prop) (g : Nat) (J : σ → World → Prop) (c : σ) (s2 : PS) (n : Nat) (u : Value) (w : World) : Prop :=
  (u = .bool true ∧ ∃ a s, Rounds step n a s c s2 ∧ PAt w g s ∧ J a w) ∨ (n = 0 ∧ u = .bool false ∧ PAt w g s2 ∧ J c w)
section
variable {σ : Type} (step : σ → PS → σ → PS → Prop) (g : Nat) (J : σ → World → Prop) (F : Nat) (caps : Array Value)
set_option maxRecDepth 100000 in
set_option maxHeartbeats 4000000 in
theorem list_some (s : PS) (o e : List UInt8) (n : Nat) (a c : σ) (s2 : PS) (w : World) (h : PAt w g s) (h1 : 0 ≤ s.nest) (h2 : s.nest ≤ 1099511627776) (he2 : Even (s.need1 o).enter s2)
    (hF : ∀ w, (callFunc F caps).run Tryz.prog w = .ok (.enter F caps) w) (hJ : ∀ a w w', J a w → But g w w' → J a w') (hone : ∀ a s b s1 w, step a s b s1 → PAt w g s → J a w → Calls Tryz.prog F caps w fun e w' => e = .returned (.tuple #[]) ∧ PAt w' g s1 ∧ J b w')
    (hB : (s.need1 o).enter.isB e = false) (hR : Rounds step n a (s.need1 o).enter c s2) (ha : J a w) :
    Calls Tryz.prog 40 #[.pointer (some ⟨g, 0, none⟩), .string ⟨o.toArray⟩, .string ⟨e.toArray⟩, .func (.func F) #[] caps] w fun r w' => r = .returned (.tuple #[]) ∧ PAt w' g (s2.need1 e).leave ∧ J c w' := by
  have hN := need1_at g s o w h
  obtain ⟨s0, hs0⟩ : ∃ s0, s0 = s.need1 o := ⟨_, rfl⟩
  have hn0 : s0.nest = s.nest := by rw [hs0]; exact (even_need1 s o).1
  rw [← hs0] at hN he2 hB hR
  have hE := fun w' (hp : PAt w' g s0) => enter_any g s0 w' hp (by omega) (by omega)
  obtain ⟨s1, hs1⟩ : ∃ s1, s1 = s0.enter := ⟨_, rfl⟩
  have hn1 : s1.nest = s.nest + 1 := by rw [hs1, (enter_nest s0).1, hn0]
  rw [← hs1] at hE he2 hB hR
  have hn2 : s2.nest = s.nest + 1 := by rw [he2.1, hn1]
  have hI := fun w' (hp : PAt w' g s1) => is_any g s1 e w' hp
  rw [hB] at hI
  have hC := fun w' (hp : PAt w' g s2) => need1_at g s2 e w' hp
  obtain ⟨s3, hs3⟩ : ∃ s3, s3 = s2.need1 e := ⟨_, rfl⟩
  have hn3 : s3.nest = s.nest + 1 := by rw [hs3, (even_need1 s2 e).1, hn2]
  rw [← hs3] at hC ⊢
  have HR := Lib.hid hR
  have HJ := Lib.hid hJ
  have HO := Lib.hid hone
  have Ha := Lib.hid ha
  have Hn3 := Lib.hid hn3
  clear hs0 hs1 hs3 he2 hB hR hJ hone ha hn0 hn1 hn2 hn3 h
  go_enter_defers Tryz.func40, Tryz.ntmps40
  go_wp2_with (first
    | (go_at_call 38; refine hN.mono ?_; rintro r w1 ⟨rfl, hp, hb⟩; have hE1 := hE w1 hp; have Hb1 := Lib.hid hb; clear hp hb hN)
    | (go_at_call 59; refine hE1.mono ?_; rintro r w2 ⟨rfl, hp, hb⟩; have hI2 := hI w2 hp; have Hp2 := Lib.hid hp; have Hb2 := Lib.hid hb; clear hp hb hE1)
    | (go_at_call 61; refine hI2.mono ?_; rintro r w3 ⟨rfl, hb⟩; have Hp3 := Lib.hid (Hp2.out.keep hb); have Ha3 := Lib.hid (HJ.out _ _ _ (HJ.out _ _ _ (HJ.out _ _ _ Ha.out Hb1.out) Hb2.out) (But.of_below hb)); clear hb hI2))
  go_loopg [8] n (fun gk u wr => Hid (More step g J c s2 gk u wr))
  case atStart => exact Lib.hid (Or.inl ⟨rfl, a, s1, HR.out, Hp3.out, Ha3.out⟩)
  case round =>
    rcases hrel.out with ⟨rfl, a', s', hr, hp, hj⟩ | ⟨rfl, rfl, hp, hj⟩
    · clear hrel
      cases gk with
      | zero => exact absurd hr (by simp [Rounds])
      | succ m =>
        obtain ⟨b', t', hst, hor⟩ := hr
        have hone := HO.out _ _ _ _ wr hst hp hj
        have hT := fun w' (hp : PAt w' g t') => take_any g t' ([44] : List UInt8) w' hp
        rcases hor with ⟨hb, rfl, rfl⟩ | ⟨hb, hr⟩
        · rw [hb] at hT
          have htk : t'.takeP ([44] : List UInt8) = t' := by unfold PS.takeP; rw [if_neg (by simp [hb])]
          rw [htk] at hT
          clear hb htk hst hp hj
          go_wp2_with (first
            | ((with_reducible refine hone.mono ?_); rintro r w4 ⟨rfl, hp, hj⟩; have hT4 := hT w4 hp; have Hj4 := Lib.hid hj; clear hp hj hone)
            | (go_at_call 43; refine hT4.mono ?_; rintro r w5 ⟨rfl, hp, hb⟩; have Hp5 := Lib.hid hp; have Hj5 := Lib.hid (HJ.out _ _ _ Hj4.out hb); clear hp hb hT4))
          go_roundg 0
          case rel => exact Lib.hid (Or.inr ⟨rfl, rfl, Hp5.out, Hj5.out⟩)
          all_goals (first | omega | (simp; done))
        · rw [hb] at hT
          have htk : t'.takeP ([44] : List UInt8) = t'.next := by unfold PS.takeP; rw [if_pos hb]
          rw [htk] at hT
          have Hr := Lib.hid hr
          clear hb htk hst hp hj hr
          go_wp2_with (first
            | ((with_reducible refine hone.mono ?_); rintro r w4 ⟨rfl, hp, hj⟩; have hT4 := hT w4 hp; have Hj4 := Lib.hid hj; clear hp hj hone)
            | (go_at_call 43; refine hT4.mono ?_; rintro r w5 ⟨rfl, hp, hb⟩; have Hp5 := Lib.hid hp; have Hj5 := Lib.hid (HJ.out _ _ _ Hj4.out hb); clear hp hb hT4))
          go_roundg m
          case rel => exact Lib.hid (Or.inl ⟨rfl, _, _, Hr.out, Hp5.out, Hj5.out⟩)
          all_goals (first | omega | (simp; done))
    · clear hrel
      have hC1 := hC wr hp
      have Hj := Lib.hid hj
      clear hp hj
      go_wp2_with (go_at_call 38; refine hC1.mono ?_; rintro r w4 ⟨rfl, hp, hb⟩; have Hp4 := Lib.hid hp; have Hj4 := Lib.hid (HJ.out _ _ _ Hj.out hb); clear hp hb hC1)
      refine leaves_cons (f := 60) (args := #[.pointer (some ⟨g, 0, none⟩)]) (by simp) (by simp [go_sem]) ?_
      refine (leave_d g s3 .returning _ Hp4.out (by have := Hn3.out; omega) (by have := Hn3.out; omega)).mono ?_
      rintro r u' w'' ⟨rfl, rfl, hp, hb⟩
      exact ⟨_, results_none rfl _ _ _, rfl, hp, HJ.out _ _ _ Hj4.out hb⟩
set_option maxRecDepth 100000 in
set_option maxHeartbeats 4000000 in
theorem list_none (s : PS) (o e : List UInt8) (c : σ) (w : World) (h : PAt w g s) (h1 : 0 ≤ s.nest) (h2 : s.nest ≤ 1099511627776)
    (hJ : ∀ a w w', J a w → But g w w' → J a w')
    (hB : (s.need1 o).enter.isB e = true) (ha : J c w) :
    Calls Tryz.prog 40 #[.pointer (some ⟨g, 0, none⟩), .string ⟨o.toArray⟩, .string ⟨e.toArray⟩, .func (.func F) #[] caps] w fun r w' => r = .returned (.tuple #[]) ∧ PAt w' g ((s.need1 o).enter.need1 e).leave ∧ J c w' := by
  have hN := need1_at g s o w h
  obtain ⟨s0, hs0⟩ : ∃ s0, s0 = s.need1 o := ⟨_, rfl⟩
  have hn0 : s0.nest = s.nest := by rw [hs0]; exact (even_need1 s o).1
  rw [← hs0] at hN hB
  rw [← hs0]
  have hE := fun w' (hp : PAt w' g s0) => enter_any g s0 w' hp (by omega) (by omega)
  obtain ⟨s1, hs1⟩ : ∃ s1, s1 = s0.enter := ⟨_, rfl⟩
  have hn1 : s1.nest = s.nest + 1 := by rw [hs1, (enter_nest s0).1, hn0]
  rw [← hs1] at hE hB
  rw [← hs1]
  have hI := fun w' (hp : PAt w' g s1) => is_any g s1 e w' hp
  rw [hB] at hI
  have hC := fun w' (hp : PAt w' g s1) => need1_at g s1 e w' hp
  obtain ⟨s3, hs3⟩ : ∃ s3, s3 = s1.need1 e := ⟨_, rfl⟩
  have hn3 : s3.nest = s.nest + 1 := by rw [hs3, (even_need1 s1 e).1, hn1]
  rw [← hs3] at hC ⊢
  have HJ := Lib.hid hJ
  have Ha := Lib.hid ha
  have Hn3 := Lib.hid hn3
  clear hs0 hs1 hs3 hB hJ ha hn0 hn1 hn3 h
  go_enter_defers Tryz.func40, Tryz.ntmps40
  go_wp2_with (first
    | (go_at_call 38; refine hN.mono ?_; rintro r w1 ⟨rfl, hp, hb⟩; have hE1 := hE w1 hp; have Hb1 := Lib.hid hb; clear hp hb hN)
    | (go_at_call 59; refine hE1.mono ?_; rintro r w2 ⟨rfl, hp, hb⟩; have hI2 := hI w2 hp; have Hp2 := Lib.hid hp; have Hb2 := Lib.hid hb; clear hp hb hE1)
    | (go_at_call 61; refine hI2.mono ?_; rintro r w3 ⟨rfl, hb⟩; have Hp3 := Lib.hid (Hp2.out.keep hb); have Ha3 := Lib.hid (HJ.out _ _ _ (HJ.out _ _ _ (HJ.out _ _ _ Ha.out Hb1.out) Hb2.out) (But.of_below hb)); clear hb hI2))
  go_loopg [8] 0 (fun gk u wr => Hid (gk = 0 ∧ u = .bool false ∧ PAt wr g s1 ∧ J c wr))
  case atStart => exact Lib.hid ⟨rfl, rfl, Hp3.out, Ha3.out⟩
  case round =>
    obtain ⟨rfl, rfl, hp, hj⟩ := hrel.out
    clear hrel
    have hC1 := hC wr hp
    have Hj := Lib.hid hj
    clear hp hj
    go_wp2_with (go_at_call 38; refine hC1.mono ?_; rintro r w4 ⟨rfl, hp, hb⟩; have Hp4 := Lib.hid hp; have Hj4 := Lib.hid (HJ.out _ _ _ Hj.out hb); clear hp hb hC1)
    refine leaves_cons (f := 60) (args := #[.pointer (some ⟨g, 0, none⟩)]) (by simp) (by simp [go_sem]) ?_
    refine (leave_d g s3 .returning _ Hp4.out (by have := Hn3.out; omega) (by have := Hn3.out; omega)).mono ?_
    rintro r u' w'' ⟨rfl, rfl, hp, hb⟩
    exact ⟨_, results_none rfl _ _ _, rfl, hp, HJ.out _ _ _ Hj4.out hb⟩
end
end Go.Proofs.YtiadbeglhnocoaaGreatDoor
