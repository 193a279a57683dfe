/-
  The instructions of OpPhi of a block that has one instruction.
-/
import Derived.Test.YtdjpjonikceadaaIrW
namespace Go.Proofs.Ytdjpjonikceadaa
open Go.RowKit
set_option linter.unusedVariables false
set_option linter.unusedSimpArgs false

set_option maxRecDepth 100000 in
theorem len_one (w : World) : Calls Try.prog 58 #[.int .u64 1] w fun e w' => ∃ k, e = .returned (.int .i64 k) ∧ w' = w := by
  have h64 : ∀ w, Calls Try.prog 69 #[.int .u64 1] w fun e w' => ∃ k, e = .returned (.int .i64 k) ∧ w' = w := fun w => by
    go_enter Try.func69, Try.ntmps69
    go_wp2
    go_ret
    exact ⟨_, rfl, rfl⟩
  go_enter Try.func58, Try.ntmps58
  go_wp2_with (go_at_call 69; refine (h64 _).mono ?_; rintro e w1 ⟨k, rfl, rfl⟩)
  go_ret
  exact ⟨k, rfl, rfl⟩

set_option maxRecDepth 100000 in
set_option maxHeartbeats 4000000 in
theorem sort_one (A : Option Addr) (c : Nat) (w : World) : Calls Try.prog 52 #[.slice A 1 c] w fun e w' => e = .returned (.tuple #[]) ∧ w' = w := by
  have hI : ∀ w, Calls Try.prog 59 #[.slice A 1 c, .int .i64 0, .int .i64 1] w fun e w' => e = .returned (.tuple #[]) ∧ w' = w := fun w => by
    go_enter Try.func59, Try.ntmps59
    go_wp2
    refine wp_loop_rounds 1 ?_
    rw [rounds_succ]
    go_wp2
    go_end0
    exact ⟨rfl, rfl⟩
  have hP : ∀ k w, Calls Try.prog 57 #[.slice A 1 c, .int .i64 0, .int .i64 1, .int .i64 k] w fun e w' => e = .returned (.tuple #[]) ∧ w' = w := fun k w => by
    go_enter Try.func57, Try.ntmps57
    go_wp2
    refine wp_loop_rounds 1 ?_
    rw [rounds_succ]
    go_wp2_with (go_at_call 59; refine (hI _).mono ?_; rintro e w1 ⟨rfl, rfl⟩)
    exact ⟨rfl, _, results_none rfl _ _ _, rfl, rfl⟩
  have hL := fun w => len_one w
  go_enter Try.func52, Try.ntmps52
  go_wp2_with first
    | (go_at_call 58; refine (hL _).mono ?_; rintro e w1 ⟨k, rfl, rfl⟩)
    | (go_at_call 57; refine (hP _ _).mono ?_; rintro e w1 ⟨rfl, rfl⟩)
  go_end0
  exact ⟨rfl, rfl⟩

set_option maxRecDepth 100000 in
theorem compactI_one (A : Option Addr) (c : Nat) (w : World) : Calls Try.prog 53 #[.slice A 1 c] w fun e w' => e = .returned (.slice A 1 c) ∧ w' = w := by
  go_enter Try.func53, Try.ntmps53
  go_wp2
  go_ret
  exact ⟨rfl, rfl⟩

set_option maxRecDepth 100000 in
theorem phis1_first (p E gi ci : Nat) (at_ : Int) (w : World) (hp : w.cell? ⟨p, 0, none⟩ = some (.pointer (some ⟨E, 0, none⟩))) (h3 : w.cell? ⟨E, 3, none⟩ = some (.slice (some ⟨gi, 0, none⟩) 1 ci)) (ho : w.cell? ⟨gi, 0, none⟩ = some (.int .i64 3)) :
    Calls Try.prog 51 #[.int .i64 at_, .int .i64 0, .pointer (some ⟨p, 0, none⟩)] w fun e w' => e = .returned (.bool false) ∧ w' = w := by
  have hI := isPhi_first E gi ci w h3 ho
  go_enter Try.func51, Try.ntmps51
  go_wp2_with (go_at_call 27; refine hI.mono ?_; rintro e w1 ⟨rfl, rfl⟩)
  go_ret
  exact ⟨rfl, rfl⟩

set_option maxRecDepth 100000 in
set_option maxHeartbeats 4000000 in
/-- A list of one number that stays. -/
theorem without_phis (p E gi ci gl cl : Nat) (w : World) (hp : w.cell? ⟨p, 0, none⟩ = some (.pointer (some ⟨E, 0, none⟩))) (h3 : w.cell? ⟨E, 3, none⟩ = some (.slice (some ⟨gi, 0, none⟩) 1 ci)) (ho : w.cell? ⟨gi, 0, none⟩ = some (.int .i64 3)) (hl : w.cell? ⟨gl, 0, none⟩ = some (.int .i64 0)) :
    Calls Try.prog 43 #[.slice (some ⟨gl, 0, none⟩) 1 cl, .func (.func 51) #[] #[.pointer (some ⟨p, 0, none⟩)]] w fun e w' => ∃ g c, e = .returned (.slice (some ⟨g, 0, none⟩) 1 c) ∧ Below w.heap.size w w' ∧ w'.cell? ⟨g, 0, none⟩ = some (.int .i64 0) ∧ w.heap.size ≤ g ∧ g < w'.heap.size := by
  have hG := phis1_first p E gi ci 0 w hp h3 ho
  obtain ⟨i0, hi, hz0, hz1, hz2⟩ := info_parts infoInt
  obtain ⟨A2, hA, hbA, hzA, h0A⟩ := r_one_al w #[.int .i64 0] 3
  have HOW := Lib.hid (World.ownsRow_nil A2 w.heap.size 3 1)
  have HNW := Lib.hid (World.news_of_block h0A)
  have HOn : Hid (∀ u ∈ ([.int .i64 0] : List Value), u.oneCell' = true) := Lib.hid (by intro u hu; simp at hu; subst hu; rfl)
  have hsz2 : w.heap.size ≤ A2.heap.size := by omega
  have Hi := Lib.hid hi
  have Hz0 := Lib.hid hz0
  have Hz1 := Lib.hid hz1
  have Hz2 := Lib.hid hz2
  have HbA := Lib.hid hbA
  have HzA := Lib.hid hzA
  rw [hA] at HOW HNW hsz2
  have HA := Lib.hid hA
  clear hA hbA hzA h0A hi hz0 hz1 hz2 hp h3 ho
  go_enter Try.func43, Try.ntmps43
  go_wp2
  refine wp_loop_rounds 2 ?_
  rw [rounds_succ]
  go_wp2_with first
    | (go_at_call 51; refine hG.mono ?_; rintro e w1 ⟨rfl, rfl⟩)
    | (at_builtin; refine wpList_append_lies _ rfl (.tmp 20) (.tmp 22) 26 rfl w1.heap.size 3 i0 (.int .i64 0) 1 8 Try.underlying26 Hi.out Hz0.out Hz1.out Hz2.out rfl (by decide) (.slice none 0 0) 0 [] rfl HOW.out ⟨w1.heap.size, 0, none⟩ 1 1 [.int .i64 0] rfl rfl HNW.out HOn.out (by decide) (by decide) (by decide) hsz2 _ rfl ?_)
  intro gp cp w2 hown2 hgrow hat hlt2
  rw [← HA.out] at hgrow
  have hlo := (hown2.lt gp rfl).1
  have hc := hown2.cellAt 0 (by decide)
  have hB : Below w1.heap.size w1 w2 := HbA.out.grown hgrow (by have := HzA.out; omega) (fun g' e => by simp [Value.ownBlock] at e)
  have HB := Lib.hid hB
  clear HOW HNW hsz2 hown2 hgrow hat hB
  go_wp2
  rw [rounds_succ]
  go_wp2
  go_ret
  exact ⟨gp, cp, rfl, HB.out, hc, hlo, hlt2⟩

set_option maxRecDepth 100000 in
set_option maxHeartbeats 4000000 in
theorem phis_first (E gi ci gl cl : Nat) (P T : Value) (kd ar : Int) (w : World) (h3 : w.cell? ⟨E, 3, none⟩ = some (.slice (some ⟨gi, 0, none⟩) 1 ci)) (ho : w.cell? ⟨gi, 0, none⟩ = some (.int .i64 3)) (hl : w.cell? ⟨gl, 0, none⟩ = some (.int .i64 0)) (hEl : E < w.heap.size) (hgi : gi < w.heap.size) (hgl : gl < w.heap.size) :
    Calls Try.prog 44 #[.pointer (some ⟨E, 0, none⟩), .agg #[.slice (some ⟨gl, 0, none⟩) 1 cl, P, .int .i64 kd, .int .i64 ar, T]] w fun e w' => ∃ g c, e = .returned (.slice (some ⟨g, 0, none⟩) 1 c) ∧ Below w.heap.size w w' ∧ w'.cell? ⟨g, 0, none⟩ = some (.int .i64 0) ∧ w.heap.size ≤ g := by
  obtain ⟨W, hW, hbW, hzW, h0, h1⟩ := r_two_al w #[.pointer (some ⟨E, 0, none⟩)] #[.slice (some ⟨gl, 0, none⟩) 1 cl, P, .int .i64 kd, .int .i64 ar, T] 24 46
  have hmf : ∀ (fn : Fn) (first cap : Array Value) (w : World), (Instr.makeFunc fn first cap).run Try.prog w = .ok (.func fn first cap) w := fun _ _ _ _ => rfl
  have hX := without_phis w.heap.size E gi ci gl cl W (Lib.cell_of_heap h0 0) ((hbW.cell (p := ⟨E, 3, none⟩) hEl).trans h3) ((hbW.cell (p := ⟨gi, 0, none⟩) hgi).trans ho) ((hbW.cell (p := ⟨gl, 0, none⟩) hgl).trans hl)
  have c0 := Lib.cell_of_heap h1 0
  have hS := fun A c w => sort_one A c w
  have hC := fun A c w => compactI_one A c w
  have HW := Lib.hid hW
  have HbW := Lib.hid hbW
  clear hW h0 h1 h3 ho hl hbW
  go_enter Try.func44, Try.ntmps44
  go_upto_region 1 with fail
  rw [← HW.out]
  go_wp2_with first
    | (go_at_call 43; refine hX.mono ?_; rintro e w1 ⟨g, c, rfl, hb1, hc1, hlo, hlt⟩; have Hb1 := Lib.hid hb1; have Hc1 := Lib.hid hc1; have Hlo := Lib.hid hlo; clear hb1 hc1 hlo hlt hX)
    | (go_at_call 52; refine (hS _ _ _).mono ?_; rintro e w2 ⟨rfl, rfl⟩)
    | (go_at_call 53; refine (hC _ _ _).mono ?_; rintro e w3 ⟨rfl, rfl⟩)
  go_ret
  exact ⟨g, c, rfl, HbW.out.trans (Hb1.out.mono HbW.out.size), Hc1.out, by have := Hlo.out; have := HbW.out.size; omega⟩
end Go.Proofs.Ytdjpjonikceadaa
