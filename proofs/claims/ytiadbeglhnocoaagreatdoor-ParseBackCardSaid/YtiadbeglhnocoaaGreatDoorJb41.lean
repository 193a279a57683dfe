/-
  A statement, printed.
  A statement, printed: those with blocks.
  A statement, printed: those with blocks.
  A statement, printed: those with blocks.
  Every statement, printed.
-/
import Derived.Test.YtiadbeglhnocoaaGreatDoorJb40
import Derived.Deep.RegionWith
import Derived.Deep.RegionHeld3
import Derived.Deep.DeepCutAuto
import Derived.Outline
namespace Go.Proofs.YtiadbeglhnocoaaGreatDoor
set_option linter.unusedVariables false
set_option linter.unusedSimpArgs false
open Go.RowKit

theorem heap_ltp {w : World} {k : Nat} {o : Obj} (h : w.heap[k]? = some o) : k < w.heap.size := by
  rcases Nat.lt_or_ge k w.heap.size with h' | h'
  · exact h'
  · rw [Array.getElem?_eq_none h'] at h; cases h
theorem lnP_len (d : Nat) (ws : List (List UInt8)) : d + 1 ≤ (lnP d ws).length := by
  unfold lnP
  simp only [List.length_append, List.length_replicate, List.length_cons, List.length_nil]
  omega
set_option maxRecDepth 100000 in
set_option maxHeartbeats 8000000 in
theorem stmt_1 (B b : Nat) (l : List UInt8) (d : Nat) (K : Option Addr) (c : Nat) (a n : Int) (z : ByteArray) (p : Int) (kids : List Ex) (Bd : Option Addr) (bc : Nat) (body : List St) (E : Option Addr) (ec : Nat) (els : List St) (w : World) (h : IsPr B b (Lib.byteCells l) w) (hK : RdEs w (· < B) K 0 kids) (hBd : RdSs w (· < B) Bd 0 body) (hE : RdSs w (· < B) E 0 els)
    (hg : goodK kids) (HB : ∀ s ∈ body, StPr s) (HEl : ∀ s ∈ els, StPr s) (hbl : body.length ≤ 1099511627776) (hel : els.length ≤ 1099511627776)
    (hlen : l.length + (prS d (.mk 1 a n z p kids body els)).length ≤ 1099511627776) (hBw : B ≤ w.heap.size) :
    Calls Tryz.prog 49 #[.pointer (some ⟨b, 0, none⟩), .agg #[.int .i64 1, .int .i64 a, .int .i64 n, .string z, .int .i64 p, .slice K kids.length c, .slice Bd body.length bc, .slice E els.length ec], .int .i64 d] w (PrS B b (l ++ prS d (.mk 1 a n z p kids body els)) w) := by
  obtain ⟨k0, hk0⟩ : ∃ k0, k0 = kidP kids 0 := ⟨_, rfl⟩
  obtain ⟨k1, hk1⟩ : ∃ k1, k1 = kidP kids 1 := ⟨_, rfl⟩
  have hp : prS d (.mk 1 a n z p kids body els) = lnP d [[118, 97, 114, 32], z.data.toList, [32, 61, 32], k0, [59]] := by simp [prS, hk0, hk1]
  rw [hp] at hlen ⊢
  obtain ⟨w1, hw1, hb1, hz1, hc1⟩ := t_one_al w #[.int .i64 1, .int .i64 a, .int .i64 n, .string z, .int .i64 p, .slice K kids.length c, .slice Bd body.length bc, .slice E els.length ec] 77
  have hB1 : Below B w w1 := hb1.mono hBw
  have hKd := fun i w' (hi : i ≤ 1) (hb : Below w1.heap.size w1 w') => kid_any kids i K c w' hg.1 (RdEs.more (fun q hq => by have := hb.size; have : q < B := hq; omega) _ _ _ (RdEs.keep (w' := w') (fun q hq => (hB1.trans (hb.mono (by omega))).cell hq) _ _ _ hK)) hg.2.1 (by omega) (by rcases Nat.le_one_iff_eq_zero_or_eq_one.mp hi with rfl | rfl; exact hg.2.2.2.1; exact hg.2.2.2.2) hg.2.2.1
  have hK0 : ∀ w', Below w1.heap.size w1 w' → Calls Tryz.prog 65 #[.slice K kids.length c, .int .i64 0] w' (fun e w2 => e = .returned (.string ⟨k0.toArray⟩) ∧ Below w'.heap.size w' w2) := fun w' hb => by
    have := hKd 0 w' (by omega) hb
    unfold KidP at this
    rw [← hk0] at this
    exact this
  have hK1 : ∀ w', Below w1.heap.size w1 w' → Calls Tryz.prog 65 #[.slice K kids.length c, .int .i64 1] w' (fun e w2 => e = .returned (.string ⟨k1.toArray⟩) ∧ Below w'.heap.size w' w2) := fun w' hb => by
    have := hKd 1 w' (by omega) hb
    unfold KidP at this
    rw [← hk1] at this
    exact this
  have hC0 := fun w2 (hp : IsPr B b (Lib.byteCells (l)) w2) (hz : B ≤ w2.heap.size) => line1 B b (l) d [[118, 97, 114, 32], z.data.toList, [32, 61, 32], k0, [59]] #[.string ⟨#[118, 97, 114, 32]⟩, .string z, .string ⟨#[32, 61, 32]⟩, .string ⟨k0.toArray⟩, .string ⟨#[59]⟩] w2 rfl hp (by simp) (by omega) hz
  obtain ⟨t0, ht0⟩ : ∃ t0, t0 = lnP d [[118, 97, 114, 32], z.data.toList, [32, 61, 32], k0, [59]] := ⟨_, rfl⟩
  rw [← ht0] at hC0 ⊢
  simp only [List.length_cons, List.length_nil, Nat.zero_add, Nat.reduceAdd] at hC0
  have HP1 := Lib.hid (h.below hb1)
  have HB1 := Lib.hid (And.intro hB1 (KeepT.of_below hb1))
  have Hc1 := Lib.hid hc1
  have hz : B ≤ w1.heap.size := by omega
  have d5 : w1.drew.cell? ⟨w.heap.size, 5, none⟩ = some (.slice K kids.length c) := Lib.cell_of_heap hc1 5
  have HBd := Lib.hid (show Below w1.heap.size w1 w1.drew from (Below.refl _ _).drew)
  have hwz : w.heap.size < w1.heap.size := by omega
  clear hKd hp ht0 hk0 hk1 h hK hBd hE hg HB HEl hbl hel hlen hb1 hz1 hc1 hB1
  go_enter Tryz.func49, Tryz.ntmps49
  go_upto_region 1 with fail
  rw [← hw1]
  clear hw1
  go_region_held3 (fun w' => w'.cell? ⟨w.heap.size, 5, none⟩ = some (.slice K kids.length c)) (first | with_reducible exact d5 | with_reducible exact d5w2 | with_reducible exact d5w3) (first
    | (go_at_call 65; (with_reducible refine (hK0 _ HBd.out).mono ?_); rintro e w2 ⟨rfl, hb⟩; have HA := Lib.hid (HBd.out.trans (hb.mono HBd.out.size)); have d5w2 : w2.cell? ⟨w.heap.size, 5, none⟩ = some (.slice K kids.length c) := (HA.out.cell (p := ⟨w.heap.size, 5, none⟩) hwz).trans (Lib.cell_of_heap Hc1.out 5); clear hb HBd hK0)
    | (go_at_call 65; (with_reducible refine (hK1 _ HBd.out).mono ?_); rintro e w2 ⟨rfl, hb⟩; have HA := Lib.hid (HBd.out.trans (hb.mono HBd.out.size)); have d5w2 : w2.cell? ⟨w.heap.size, 5, none⟩ = some (.slice K kids.length c) := (HA.out.cell (p := ⟨w.heap.size, 5, none⟩) hwz).trans (Lib.cell_of_heap Hc1.out 5); clear hb HBd hK1)
    | (go_at_call 65; (with_reducible refine (hK1 _ HA.out).mono ?_); rintro e w3 ⟨rfl, hb⟩; have HC := Lib.hid (HA.out.trans (hb.mono HA.out.size)); have d5w3 : w3.cell? ⟨w.heap.size, 5, none⟩ = some (.slice K kids.length c) := (HC.out.cell (p := ⟨w.heap.size, 5, none⟩) hwz).trans (Lib.cell_of_heap Hc1.out 5); clear hb HA hK1)
    | (go_at_call 65; (with_reducible refine (hK0 _ HA.out).mono ?_); rintro e w3 ⟨rfl, hb⟩; have HC := Lib.hid (HA.out.trans (hb.mono HA.out.size)); have d5w3 : w3.cell? ⟨w.heap.size, 5, none⟩ = some (.slice K kids.length c) := (HC.out.cell (p := ⟨w.heap.size, 5, none⟩) hwz).trans (Lib.cell_of_heap Hc1.out 5); clear hb HA hK0))
  all_goals
    clear d5 d5w2 d5w3
    have hz3 : B ≤ w3.heap.size := Nat.le_trans hz HC.out.size
    have HP3 := Lib.hid (HP1.out.below HC.out)
    have HB3 := Lib.hid (And.intro (HB1.out.1.trans (HC.out.mono hz)) (HB1.out.2.trans (KeepT.of_below HC.out)))
    have Hc3 := Lib.hid ((HC.out.block w.heap.size hwz).trans Hc1.out)
    clear HP1 HB1 Hc1 HC hz hwz
    obtain ⟨y0, y1, y2, y3, y4, y5, y6, y7, yf⟩ := p_cells8 Hc3.out
    go_wp2_with (go_at_call 22; refine (hC0 w3 HP3.out hz3).mono ?_; rintro e x0 ⟨rfl, hp, hb, hkp⟩; have Hn0 := Lib.hid (hkp _ _ _ _ Hc3.out (by decide) (by decide)); have Hq0 := Lib.hid hp; have Hr0 := Lib.hid (And.intro (HB3.out.1.trans hb) (HB3.out.2.trans hkp)); clear hp hb hkp hC0 y0 y1 y2 y3 y4 y5 y6 y7 yf)
    first | go_end0 | refine bodyPost_ret (results_none rfl _ _ _) rfl ?_
    refine ⟨rfl, ?_, Hr0.out.1, Hr0.out.2⟩
    exact Hq0.out
set_option maxRecDepth 100000 in
set_option maxHeartbeats 8000000 in
theorem stmt_2 (B b : Nat) (l : List UInt8) (d : Nat) (K : Option Addr) (c : Nat) (a n : Int) (z : ByteArray) (p : Int) (kids : List Ex) (Bd : Option Addr) (bc : Nat) (body : List St) (E : Option Addr) (ec : Nat) (els : List St) (w : World) (h : IsPr B b (Lib.byteCells l) w) (hK : RdEs w (· < B) K 0 kids) (hBd : RdSs w (· < B) Bd 0 body) (hE : RdSs w (· < B) E 0 els)
    (hg : goodK kids) (HB : ∀ s ∈ body, StPr s) (HEl : ∀ s ∈ els, StPr s) (hbl : body.length ≤ 1099511627776) (hel : els.length ≤ 1099511627776)
    (hlen : l.length + (prS d (.mk 2 a n z p kids body els)).length ≤ 1099511627776) (hBw : B ≤ w.heap.size) :
    Calls Tryz.prog 49 #[.pointer (some ⟨b, 0, none⟩), .agg #[.int .i64 2, .int .i64 a, .int .i64 n, .string z, .int .i64 p, .slice K kids.length c, .slice Bd body.length bc, .slice E els.length ec], .int .i64 d] w (PrS B b (l ++ prS d (.mk 2 a n z p kids body els)) w) := by
  obtain ⟨k0, hk0⟩ : ∃ k0, k0 = kidP kids 0 := ⟨_, rfl⟩
  obtain ⟨k1, hk1⟩ : ∃ k1, k1 = kidP kids 1 := ⟨_, rfl⟩
  have hp : prS d (.mk 2 a n z p kids body els) = lnP d [z.data.toList, [32, 61, 32], k0, [59]] := by simp [prS, hk0, hk1]
  rw [hp] at hlen ⊢
  obtain ⟨w1, hw1, hb1, hz1, hc1⟩ := t_one_al w #[.int .i64 2, .int .i64 a, .int .i64 n, .string z, .int .i64 p, .slice K kids.length c, .slice Bd body.length bc, .slice E els.length ec] 77
  have hB1 : Below B w w1 := hb1.mono hBw
  have hKd := fun i w' (hi : i ≤ 1) (hb : Below w1.heap.size w1 w') => kid_any kids i K c w' hg.1 (RdEs.more (fun q hq => by have := hb.size; have : q < B := hq; omega) _ _ _ (RdEs.keep (w' := w') (fun q hq => (hB1.trans (hb.mono (by omega))).cell hq) _ _ _ hK)) hg.2.1 (by omega) (by rcases Nat.le_one_iff_eq_zero_or_eq_one.mp hi with rfl | rfl; exact hg.2.2.2.1; exact hg.2.2.2.2) hg.2.2.1
  have hK0 : ∀ w', Below w1.heap.size w1 w' → Calls Tryz.prog 65 #[.slice K kids.length c, .int .i64 0] w' (fun e w2 => e = .returned (.string ⟨k0.toArray⟩) ∧ Below w'.heap.size w' w2) := fun w' hb => by
    have := hKd 0 w' (by omega) hb
    unfold KidP at this
    rw [← hk0] at this
    exact this
  have hK1 : ∀ w', Below w1.heap.size w1 w' → Calls Tryz.prog 65 #[.slice K kids.length c, .int .i64 1] w' (fun e w2 => e = .returned (.string ⟨k1.toArray⟩) ∧ Below w'.heap.size w' w2) := fun w' hb => by
    have := hKd 1 w' (by omega) hb
    unfold KidP at this
    rw [← hk1] at this
    exact this
  have hC0 := fun w2 (hp : IsPr B b (Lib.byteCells (l)) w2) (hz : B ≤ w2.heap.size) => line1 B b (l) d [z.data.toList, [32, 61, 32], k0, [59]] #[.string z, .string ⟨#[32, 61, 32]⟩, .string ⟨k0.toArray⟩, .string ⟨#[59]⟩] w2 rfl hp (by simp) (by omega) hz
  obtain ⟨t0, ht0⟩ : ∃ t0, t0 = lnP d [z.data.toList, [32, 61, 32], k0, [59]] := ⟨_, rfl⟩
  rw [← ht0] at hC0 ⊢
  simp only [List.length_cons, List.length_nil, Nat.zero_add, Nat.reduceAdd] at hC0
  have HP1 := Lib.hid (h.below hb1)
  have HB1 := Lib.hid (And.intro hB1 (KeepT.of_below hb1))
  have Hc1 := Lib.hid hc1
  have hz : B ≤ w1.heap.size := by omega
  have d5 : w1.drew.cell? ⟨w.heap.size, 5, none⟩ = some (.slice K kids.length c) := Lib.cell_of_heap hc1 5
  have HBd := Lib.hid (show Below w1.heap.size w1 w1.drew from (Below.refl _ _).drew)
  have hwz : w.heap.size < w1.heap.size := by omega
  clear hKd hp ht0 hk0 hk1 h hK hBd hE hg HB HEl hbl hel hlen hb1 hz1 hc1 hB1
  go_enter Tryz.func49, Tryz.ntmps49
  go_upto_region 1 with fail
  rw [← hw1]
  clear hw1
  go_region_held3 (fun w' => w'.cell? ⟨w.heap.size, 5, none⟩ = some (.slice K kids.length c)) (first | with_reducible exact d5 | with_reducible exact d5w2 | with_reducible exact d5w3) (first
    | (go_at_call 65; (with_reducible refine (hK0 _ HBd.out).mono ?_); rintro e w2 ⟨rfl, hb⟩; have HA := Lib.hid (HBd.out.trans (hb.mono HBd.out.size)); have d5w2 : w2.cell? ⟨w.heap.size, 5, none⟩ = some (.slice K kids.length c) := (HA.out.cell (p := ⟨w.heap.size, 5, none⟩) hwz).trans (Lib.cell_of_heap Hc1.out 5); clear hb HBd hK0)
    | (go_at_call 65; (with_reducible refine (hK1 _ HBd.out).mono ?_); rintro e w2 ⟨rfl, hb⟩; have HA := Lib.hid (HBd.out.trans (hb.mono HBd.out.size)); have d5w2 : w2.cell? ⟨w.heap.size, 5, none⟩ = some (.slice K kids.length c) := (HA.out.cell (p := ⟨w.heap.size, 5, none⟩) hwz).trans (Lib.cell_of_heap Hc1.out 5); clear hb HBd hK1)
    | (go_at_call 65; (with_reducible refine (hK1 _ HA.out).mono ?_); rintro e w3 ⟨rfl, hb⟩; have HC := Lib.hid (HA.out.trans (hb.mono HA.out.size)); have d5w3 : w3.cell? ⟨w.heap.size, 5, none⟩ = some (.slice K kids.length c) := (HC.out.cell (p := ⟨w.heap.size, 5, none⟩) hwz).trans (Lib.cell_of_heap Hc1.out 5); clear hb HA hK1)
    | (go_at_call 65; (with_reducible refine (hK0 _ HA.out).mono ?_); rintro e w3 ⟨rfl, hb⟩; have HC := Lib.hid (HA.out.trans (hb.mono HA.out.size)); have d5w3 : w3.cell? ⟨w.heap.size, 5, none⟩ = some (.slice K kids.length c) := (HC.out.cell (p := ⟨w.heap.size, 5, none⟩) hwz).trans (Lib.cell_of_heap Hc1.out 5); clear hb HA hK0))
  all_goals
    clear d5 d5w2 d5w3
    have hz3 : B ≤ w3.heap.size := Nat.le_trans hz HC.out.size
    have HP3 := Lib.hid (HP1.out.below HC.out)
    have HB3 := Lib.hid (And.intro (HB1.out.1.trans (HC.out.mono hz)) (HB1.out.2.trans (KeepT.of_below HC.out)))
    have Hc3 := Lib.hid ((HC.out.block w.heap.size hwz).trans Hc1.out)
    clear HP1 HB1 Hc1 HC hz hwz
    obtain ⟨y0, y1, y2, y3, y4, y5, y6, y7, yf⟩ := p_cells8 Hc3.out
    go_wp2_with (go_at_call 22; refine (hC0 w3 HP3.out hz3).mono ?_; rintro e x0 ⟨rfl, hp, hb, hkp⟩; have Hn0 := Lib.hid (hkp _ _ _ _ Hc3.out (by decide) (by decide)); have Hq0 := Lib.hid hp; have Hr0 := Lib.hid (And.intro (HB3.out.1.trans hb) (HB3.out.2.trans hkp)); clear hp hb hkp hC0 y0 y1 y2 y3 y4 y5 y6 y7 yf)
    first | go_end0 | refine bodyPost_ret (results_none rfl _ _ _) rfl ?_
    refine ⟨rfl, ?_, Hr0.out.1, Hr0.out.2⟩
    exact Hq0.out
set_option maxRecDepth 100000 in
set_option maxHeartbeats 8000000 in
theorem stmt_3 (B b : Nat) (l : List UInt8) (d : Nat) (K : Option Addr) (c : Nat) (a n : Int) (z : ByteArray) (p : Int) (kids : List Ex) (Bd : Option Addr) (bc : Nat) (body : List St) (E : Option Addr) (ec : Nat) (els : List St) (w : World) (h : IsPr B b (Lib.byteCells l) w) (hK : RdEs w (· < B) K 0 kids) (hBd : RdSs w (· < B) Bd 0 body) (hE : RdSs w (· < B) E 0 els)
    (hg : goodK kids) (HB : ∀ s ∈ body, StPr s) (HEl : ∀ s ∈ els, StPr s) (hbl : body.length ≤ 1099511627776) (hel : els.length ≤ 1099511627776)
    (hlen : l.length + (prS d (.mk 3 a n z p kids body els)).length ≤ 1099511627776) (hBw : B ≤ w.heap.size) :
    Calls Tryz.prog 49 #[.pointer (some ⟨b, 0, none⟩), .agg #[.int .i64 3, .int .i64 a, .int .i64 n, .string z, .int .i64 p, .slice K kids.length c, .slice Bd body.length bc, .slice E els.length ec], .int .i64 d] w (PrS B b (l ++ prS d (.mk 3 a n z p kids body els)) w) := by
  obtain ⟨k0, hk0⟩ : ∃ k0, k0 = kidP kids 0 := ⟨_, rfl⟩
  obtain ⟨k1, hk1⟩ : ∃ k1, k1 = kidP kids 1 := ⟨_, rfl⟩
  have hp : prS d (.mk 3 a n z p kids body els) = lnP d [k0, [32, 61, 32], k1, [59]] := by simp [prS, hk0, hk1]
  rw [hp] at hlen ⊢
  obtain ⟨w1, hw1, hb1, hz1, hc1⟩ := t_one_al w #[.int .i64 3, .int .i64 a, .int .i64 n, .string z, .int .i64 p, .slice K kids.length c, .slice Bd body.length bc, .slice E els.length ec] 77
  have hB1 : Below B w w1 := hb1.mono hBw
  have hKd := fun i w' (hi : i ≤ 1) (hb : Below w1.heap.size w1 w') => kid_any kids i K c w' hg.1 (RdEs.more (fun q hq => by have := hb.size; have : q < B := hq; omega) _ _ _ (RdEs.keep (w' := w') (fun q hq => (hB1.trans (hb.mono (by omega))).cell hq) _ _ _ hK)) hg.2.1 (by omega) (by rcases Nat.le_one_iff_eq_zero_or_eq_one.mp hi with rfl | rfl; exact hg.2.2.2.1; exact hg.2.2.2.2) hg.2.2.1
  have hK0 : ∀ w', Below w1.heap.size w1 w' → Calls Tryz.prog 65 #[.slice K kids.length c, .int .i64 0] w' (fun e w2 => e = .returned (.string ⟨k0.toArray⟩) ∧ Below w'.heap.size w' w2) := fun w' hb => by
    have := hKd 0 w' (by omega) hb
    unfold KidP at this
    rw [← hk0] at this
    exact this
  have hK1 : ∀ w', Below w1.heap.size w1 w' → Calls Tryz.prog 65 #[.slice K kids.length c, .int .i64 1] w' (fun e w2 => e = .returned (.string ⟨k1.toArray⟩) ∧ Below w'.heap.size w' w2) := fun w' hb => by
    have := hKd 1 w' (by omega) hb
    unfold KidP at this
    rw [← hk1] at this
    exact this
  have hC0 := fun w2 (hp : IsPr B b (Lib.byteCells (l)) w2) (hz : B ≤ w2.heap.size) => line1 B b (l) d [k0, [32, 61, 32], k1, [59]] #[.string ⟨k0.toArray⟩, .string ⟨#[32, 61, 32]⟩, .string ⟨k1.toArray⟩, .string ⟨#[59]⟩] w2 rfl hp (by simp) (by omega) hz
  obtain ⟨t0, ht0⟩ : ∃ t0, t0 = lnP d [k0, [32, 61, 32], k1, [59]] := ⟨_, rfl⟩
  rw [← ht0] at hC0 ⊢
  simp only [List.length_cons, List.length_nil, Nat.zero_add, Nat.reduceAdd] at hC0
  have HP1 := Lib.hid (h.below hb1)
  have HB1 := Lib.hid (And.intro hB1 (KeepT.of_below hb1))
  have Hc1 := Lib.hid hc1
  have hz : B ≤ w1.heap.size := by omega
  have d5 : w1.drew.cell? ⟨w.heap.size, 5, none⟩ = some (.slice K kids.length c) := Lib.cell_of_heap hc1 5
  have HBd := Lib.hid (show Below w1.heap.size w1 w1.drew from (Below.refl _ _).drew)
  have hwz : w.heap.size < w1.heap.size := by omega
  clear hKd hp ht0 hk0 hk1 h hK hBd hE hg HB HEl hbl hel hlen hb1 hz1 hc1 hB1
  go_enter Tryz.func49, Tryz.ntmps49
  go_upto_region 1 with fail
  rw [← hw1]
  clear hw1
  go_region_held3 (fun w' => w'.cell? ⟨w.heap.size, 5, none⟩ = some (.slice K kids.length c)) (first | with_reducible exact d5 | with_reducible exact d5w2 | with_reducible exact d5w3) (first
    | (go_at_call 65; (with_reducible refine (hK0 _ HBd.out).mono ?_); rintro e w2 ⟨rfl, hb⟩; have HA := Lib.hid (HBd.out.trans (hb.mono HBd.out.size)); have d5w2 : w2.cell? ⟨w.heap.size, 5, none⟩ = some (.slice K kids.length c) := (HA.out.cell (p := ⟨w.heap.size, 5, none⟩) hwz).trans (Lib.cell_of_heap Hc1.out 5); clear hb HBd hK0)
    | (go_at_call 65; (with_reducible refine (hK1 _ HBd.out).mono ?_); rintro e w2 ⟨rfl, hb⟩; have HA := Lib.hid (HBd.out.trans (hb.mono HBd.out.size)); have d5w2 : w2.cell? ⟨w.heap.size, 5, none⟩ = some (.slice K kids.length c) := (HA.out.cell (p := ⟨w.heap.size, 5, none⟩) hwz).trans (Lib.cell_of_heap Hc1.out 5); clear hb HBd hK1)
    | (go_at_call 65; (with_reducible refine (hK1 _ HA.out).mono ?_); rintro e w3 ⟨rfl, hb⟩; have HC := Lib.hid (HA.out.trans (hb.mono HA.out.size)); have d5w3 : w3.cell? ⟨w.heap.size, 5, none⟩ = some (.slice K kids.length c) := (HC.out.cell (p := ⟨w.heap.size, 5, none⟩) hwz).trans (Lib.cell_of_heap Hc1.out 5); clear hb HA hK1)
    | (go_at_call 65; (with_reducible refine (hK0 _ HA.out).mono ?_); rintro e w3 ⟨rfl, hb⟩; have HC := Lib.hid (HA.out.trans (hb.mono HA.out.size)); have d5w3 : w3.cell? ⟨w.heap.size, 5, none⟩ = some (.slice K kids.length c) := (HC.out.cell (p := ⟨w.heap.size, 5, none⟩) hwz).trans (Lib.cell_of_heap Hc1.out 5); clear hb HA hK0))
  all_goals
    clear d5 d5w2 d5w3
    have hz3 : B ≤ w3.heap.size := Nat.le_trans hz HC.out.size
    have HP3 := Lib.hid (HP1.out.below HC.out)
    have HB3 := Lib.hid (And.intro (HB1.out.1.trans (HC.out.mono hz)) (HB1.out.2.trans (KeepT.of_below HC.out)))
    have Hc3 := Lib.hid ((HC.out.block w.heap.size hwz).trans Hc1.out)
    clear HP1 HB1 Hc1 HC hz hwz
    obtain ⟨y0, y1, y2, y3, y4, y5, y6, y7, yf⟩ := p_cells8 Hc3.out
    go_wp2_with (go_at_call 22; refine (hC0 w3 HP3.out hz3).mono ?_; rintro e x0 ⟨rfl, hp, hb, hkp⟩; have Hn0 := Lib.hid (hkp _ _ _ _ Hc3.out (by decide) (by decide)); have Hq0 := Lib.hid hp; have Hr0 := Lib.hid (And.intro (HB3.out.1.trans hb) (HB3.out.2.trans hkp)); clear hp hb hkp hC0 y0 y1 y2 y3 y4 y5 y6 y7 yf)
    first | go_end0 | refine bodyPost_ret (results_none rfl _ _ _) rfl ?_
    refine ⟨rfl, ?_, Hr0.out.1, Hr0.out.2⟩
    exact Hq0.out
set_option maxRecDepth 100000 in
set_option maxHeartbeats 8000000 in
theorem stmt_7 (B b : Nat) (l : List UInt8) (d : Nat) (K : Option Addr) (c : Nat) (a n : Int) (z : ByteArray) (p : Int) (kids : List Ex) (Bd : Option Addr) (bc : Nat) (body : List St) (E : Option Addr) (ec : Nat) (els : List St) (w : World) (h : IsPr B b (Lib.byteCells l) w) (hK : RdEs w (· < B) K 0 kids) (hBd : RdSs w (· < B) Bd 0 body) (hE : RdSs w (· < B) E 0 els)
    (hg : goodK kids) (HB : ∀ s ∈ body, StPr s) (HEl : ∀ s ∈ els, StPr s) (hbl : body.length ≤ 1099511627776) (hel : els.length ≤ 1099511627776)
    (hlen : l.length + (prS d (.mk 7 a n z p kids body els)).length ≤ 1099511627776) (hBw : B ≤ w.heap.size) :
    Calls Tryz.prog 49 #[.pointer (some ⟨b, 0, none⟩), .agg #[.int .i64 7, .int .i64 a, .int .i64 n, .string z, .int .i64 p, .slice K kids.length c, .slice Bd body.length bc, .slice E els.length ec], .int .i64 d] w (PrS B b (l ++ prS d (.mk 7 a n z p kids body els)) w) := by
  obtain ⟨k0, hk0⟩ : ∃ k0, k0 = kidP kids 0 := ⟨_, rfl⟩
  obtain ⟨k1, hk1⟩ : ∃ k1, k1 = kidP kids 1 := ⟨_, rfl⟩
  have hp : prS d (.mk 7 a n z p kids body els) = lnP d [[98, 114, 101, 97, 107, 59]] := by simp [prS, hk0, hk1]
  rw [hp] at hlen ⊢
  obtain ⟨w1, hw1, hb1, hz1, hc1⟩ := t_one_al w #[.int .i64 7, .int .i64 a, .int .i64 n, .string z, .int .i64 p, .slice K kids.length c, .slice Bd body.length bc, .slice E els.length ec] 77
  have hB1 : Below B w w1 := hb1.mono hBw
  have hKd := fun i w' (hi : i ≤ 1) (hb : Below w1.heap.size w1 w') => kid_any kids i K c w' hg.1 (RdEs.more (fun q hq => by have := hb.size; have : q < B := hq; omega) _ _ _ (RdEs.keep (w' := w') (fun q hq => (hB1.trans (hb.mono (by omega))).cell hq) _ _ _ hK)) hg.2.1 (by omega) (by rcases Nat.le_one_iff_eq_zero_or_eq_one.mp hi with rfl | rfl; exact hg.2.2.2.1; exact hg.2.2.2.2) hg.2.2.1
  have hK0 : ∀ w', Below w1.heap.size w1 w' → Calls Tryz.prog 65 #[.slice K kids.length c, .int .i64 0] w' (fun e w2 => e = .returned (.string ⟨k0.toArray⟩) ∧ Below w'.heap.size w' w2) := fun w' hb => by
    have := hKd 0 w' (by omega) hb
    unfold KidP at this
    rw [← hk0] at this
    exact this
  have hK1 : ∀ w', Below w1.heap.size w1 w' → Calls Tryz.prog 65 #[.slice K kids.length c, .int .i64 1] w' (fun e w2 => e = .returned (.string ⟨k1.toArray⟩) ∧ Below w'.heap.size w' w2) := fun w' hb => by
    have := hKd 1 w' (by omega) hb
    unfold KidP at this
    rw [← hk1] at this
    exact this
  have hC0 := fun w2 (hp : IsPr B b (Lib.byteCells (l)) w2) (hz : B ≤ w2.heap.size) => line1 B b (l) d [[98, 114, 101, 97, 107, 59]] #[.string ⟨#[98, 114, 101, 97, 107, 59]⟩] w2 rfl hp (by simp) (by omega) hz
  obtain ⟨t0, ht0⟩ : ∃ t0, t0 = lnP d [[98, 114, 101, 97, 107, 59]] := ⟨_, rfl⟩
  rw [← ht0] at hC0 ⊢
  simp only [List.length_cons, List.length_nil, Nat.zero_add, Nat.reduceAdd] at hC0
  have HP1 := Lib.hid (h.below hb1)
  have HB1 := Lib.hid (And.intro hB1 (KeepT.of_below hb1))
  have Hc1 := Lib.hid hc1
  have hz : B ≤ w1.heap.size := by omega
  have d5 : w1.drew.cell? ⟨w.heap.size, 5, none⟩ = some (.slice K kids.length c) := Lib.cell_of_heap hc1 5
  have HBd := Lib.hid (show Below w1.heap.size w1 w1.drew from (Below.refl _ _).drew)
  have hwz : w.heap.size < w1.heap.size := by omega
  clear hKd hp ht0 hk0 hk1 h hK hBd hE hg HB HEl hbl hel hlen hb1 hz1 hc1 hB1
  go_enter Tryz.func49, Tryz.ntmps49
  go_upto_region 1 with fail
  rw [← hw1]
  clear hw1
  go_region_held3 (fun w' => w'.cell? ⟨w.heap.size, 5, none⟩ = some (.slice K kids.length c)) (first | with_reducible exact d5 | with_reducible exact d5w2 | with_reducible exact d5w3) (first
    | (go_at_call 65; (with_reducible refine (hK0 _ HBd.out).mono ?_); rintro e w2 ⟨rfl, hb⟩; have HA := Lib.hid (HBd.out.trans (hb.mono HBd.out.size)); have d5w2 : w2.cell? ⟨w.heap.size, 5, none⟩ = some (.slice K kids.length c) := (HA.out.cell (p := ⟨w.heap.size, 5, none⟩) hwz).trans (Lib.cell_of_heap Hc1.out 5); clear hb HBd hK0)
    | (go_at_call 65; (with_reducible refine (hK1 _ HBd.out).mono ?_); rintro e w2 ⟨rfl, hb⟩; have HA := Lib.hid (HBd.out.trans (hb.mono HBd.out.size)); have d5w2 : w2.cell? ⟨w.heap.size, 5, none⟩ = some (.slice K kids.length c) := (HA.out.cell (p := ⟨w.heap.size, 5, none⟩) hwz).trans (Lib.cell_of_heap Hc1.out 5); clear hb HBd hK1)
    | (go_at_call 65; (with_reducible refine (hK1 _ HA.out).mono ?_); rintro e w3 ⟨rfl, hb⟩; have HC := Lib.hid (HA.out.trans (hb.mono HA.out.size)); have d5w3 : w3.cell? ⟨w.heap.size, 5, none⟩ = some (.slice K kids.length c) := (HC.out.cell (p := ⟨w.heap.size, 5, none⟩) hwz).trans (Lib.cell_of_heap Hc1.out 5); clear hb HA hK1)
    | (go_at_call 65; (with_reducible refine (hK0 _ HA.out).mono ?_); rintro e w3 ⟨rfl, hb⟩; have HC := Lib.hid (HA.out.trans (hb.mono HA.out.size)); have d5w3 : w3.cell? ⟨w.heap.size, 5, none⟩ = some (.slice K kids.length c) := (HC.out.cell (p := ⟨w.heap.size, 5, none⟩) hwz).trans (Lib.cell_of_heap Hc1.out 5); clear hb HA hK0))
  all_goals
    clear d5 d5w2 d5w3
    have hz3 : B ≤ w3.heap.size := Nat.le_trans hz HC.out.size
    have HP3 := Lib.hid (HP1.out.below HC.out)
    have HB3 := Lib.hid (And.intro (HB1.out.1.trans (HC.out.mono hz)) (HB1.out.2.trans (KeepT.of_below HC.out)))
    have Hc3 := Lib.hid ((HC.out.block w.heap.size hwz).trans Hc1.out)
    clear HP1 HB1 Hc1 HC hz hwz
    obtain ⟨y0, y1, y2, y3, y4, y5, y6, y7, yf⟩ := p_cells8 Hc3.out
    go_wp2_with (go_at_call 22; refine (hC0 w3 HP3.out hz3).mono ?_; rintro e x0 ⟨rfl, hp, hb, hkp⟩; have Hn0 := Lib.hid (hkp _ _ _ _ Hc3.out (by decide) (by decide)); have Hq0 := Lib.hid hp; have Hr0 := Lib.hid (And.intro (HB3.out.1.trans hb) (HB3.out.2.trans hkp)); clear hp hb hkp hC0 y0 y1 y2 y3 y4 y5 y6 y7 yf)
    first | go_end0 | refine bodyPost_ret (results_none rfl _ _ _) rfl ?_
    refine ⟨rfl, ?_, Hr0.out.1, Hr0.out.2⟩
    exact Hq0.out
set_option maxRecDepth 100000 in
set_option maxHeartbeats 8000000 in
theorem stmt_8 (B b : Nat) (l : List UInt8) (d : Nat) (K : Option Addr) (c : Nat) (a n : Int) (z : ByteArray) (p : Int) (kids : List Ex) (Bd : Option Addr) (bc : Nat) (body : List St) (E : Option Addr) (ec : Nat) (els : List St) (w : World) (h : IsPr B b (Lib.byteCells l) w) (hK : RdEs w (· < B) K 0 kids) (hBd : RdSs w (· < B) Bd 0 body) (hE : RdSs w (· < B) E 0 els)
    (hg : goodK kids) (HB : ∀ s ∈ body, StPr s) (HEl : ∀ s ∈ els, StPr s) (hbl : body.length ≤ 1099511627776) (hel : els.length ≤ 1099511627776)
    (hlen : l.length + (prS d (.mk 8 a n z p kids body els)).length ≤ 1099511627776) (hBw : B ≤ w.heap.size) :
    Calls Tryz.prog 49 #[.pointer (some ⟨b, 0, none⟩), .agg #[.int .i64 8, .int .i64 a, .int .i64 n, .string z, .int .i64 p, .slice K kids.length c, .slice Bd body.length bc, .slice E els.length ec], .int .i64 d] w (PrS B b (l ++ prS d (.mk 8 a n z p kids body els)) w) := by
  obtain ⟨k0, hk0⟩ : ∃ k0, k0 = kidP kids 0 := ⟨_, rfl⟩
  obtain ⟨k1, hk1⟩ : ∃ k1, k1 = kidP kids 1 := ⟨_, rfl⟩
  have hp : prS d (.mk 8 a n z p kids body els) = lnP d [[99, 111, 110, 116, 105, 110, 117, 101, 59]] := by simp [prS, hk0, hk1]
  rw [hp] at hlen ⊢
  obtain ⟨w1, hw1, hb1, hz1, hc1⟩ := t_one_al w #[.int .i64 8, .int .i64 a, .int .i64 n, .string z, .int .i64 p, .slice K kids.length c, .slice Bd body.length bc, .slice E els.length ec] 77
  have hB1 : Below B w w1 := hb1.mono hBw
  have hKd := fun i w' (hi : i ≤ 1) (hb : Below w1.heap.size w1 w') => kid_any kids i K c w' hg.1 (RdEs.more (fun q hq => by have := hb.size; have : q < B := hq; omega) _ _ _ (RdEs.keep (w' := w') (fun q hq => (hB1.trans (hb.mono (by omega))).cell hq) _ _ _ hK)) hg.2.1 (by omega) (by rcases Nat.le_one_iff_eq_zero_or_eq_one.mp hi with rfl | rfl; exact hg.2.2.2.1; exact hg.2.2.2.2) hg.2.2.1
  have hK0 : ∀ w', Below w1.heap.size w1 w' → Calls Tryz.prog 65 #[.slice K kids.length c, .int .i64 0] w' (fun e w2 => e = .returned (.string ⟨k0.toArray⟩) ∧ Below w'.heap.size w' w2) := fun w' hb => by
    have := hKd 0 w' (by omega) hb
    unfold KidP at this
    rw [← hk0] at this
    exact this
  have hK1 : ∀ w', Below w1.heap.size w1 w' → Calls Tryz.prog 65 #[.slice K kids.length c, .int .i64 1] w' (fun e w2 => e = .returned (.string ⟨k1.toArray⟩) ∧ Below w'.heap.size w' w2) := fun w' hb => by
    have := hKd 1 w' (by omega) hb
    unfold KidP at this
    rw [← hk1] at this
    exact this
  have hC0 := fun w2 (hp : IsPr B b (Lib.byteCells (l)) w2) (hz : B ≤ w2.heap.size) => line1 B b (l) d [[99, 111, 110, 116, 105, 110, 117, 101, 59]] #[.string ⟨#[99, 111, 110, 116, 105, 110, 117, 101, 59]⟩] w2 rfl hp (by simp) (by omega) hz
  obtain ⟨t0, ht0⟩ : ∃ t0, t0 = lnP d [[99, 111, 110, 116, 105, 110, 117, 101, 59]] := ⟨_, rfl⟩
  rw [← ht0] at hC0 ⊢
  simp only [List.length_cons, List.length_nil, Nat.zero_add, Nat.reduceAdd] at hC0
  have HP1 := Lib.hid (h.below hb1)
  have HB1 := Lib.hid (And.intro hB1 (KeepT.of_below hb1))
  have Hc1 := Lib.hid hc1
  have hz : B ≤ w1.heap.size := by omega
  have d5 : w1.drew.cell? ⟨w.heap.size, 5, none⟩ = some (.slice K kids.length c) := Lib.cell_of_heap hc1 5
  have HBd := Lib.hid (show Below w1.heap.size w1 w1.drew from (Below.refl _ _).drew)
  have hwz : w.heap.size < w1.heap.size := by omega
  clear hKd hp ht0 hk0 hk1 h hK hBd hE hg HB HEl hbl hel hlen hb1 hz1 hc1 hB1
  go_enter Tryz.func49, Tryz.ntmps49
  go_upto_region 1 with fail
  rw [← hw1]
  clear hw1
  go_region_held3 (fun w' => w'.cell? ⟨w.heap.size, 5, none⟩ = some (.slice K kids.length c)) (first | with_reducible exact d5 | with_reducible exact d5w2 | with_reducible exact d5w3) (first
    | (go_at_call 65; (with_reducible refine (hK0 _ HBd.out).mono ?_); rintro e w2 ⟨rfl, hb⟩; have HA := Lib.hid (HBd.out.trans (hb.mono HBd.out.size)); have d5w2 : w2.cell? ⟨w.heap.size, 5, none⟩ = some (.slice K kids.length c) := (HA.out.cell (p := ⟨w.heap.size, 5, none⟩) hwz).trans (Lib.cell_of_heap Hc1.out 5); clear hb HBd hK0)
    | (go_at_call 65; (with_reducible refine (hK1 _ HBd.out).mono ?_); rintro e w2 ⟨rfl, hb⟩; have HA := Lib.hid (HBd.out.trans (hb.mono HBd.out.size)); have d5w2 : w2.cell? ⟨w.heap.size, 5, none⟩ = some (.slice K kids.length c) := (HA.out.cell (p := ⟨w.heap.size, 5, none⟩) hwz).trans (Lib.cell_of_heap Hc1.out 5); clear hb HBd hK1)
    | (go_at_call 65; (with_reducible refine (hK1 _ HA.out).mono ?_); rintro e w3 ⟨rfl, hb⟩; have HC := Lib.hid (HA.out.trans (hb.mono HA.out.size)); have d5w3 : w3.cell? ⟨w.heap.size, 5, none⟩ = some (.slice K kids.length c) := (HC.out.cell (p := ⟨w.heap.size, 5, none⟩) hwz).trans (Lib.cell_of_heap Hc1.out 5); clear hb HA hK1)
    | (go_at_call 65; (with_reducible refine (hK0 _ HA.out).mono ?_); rintro e w3 ⟨rfl, hb⟩; have HC := Lib.hid (HA.out.trans (hb.mono HA.out.size)); have d5w3 : w3.cell? ⟨w.heap.size, 5, none⟩ = some (.slice K kids.length c) := (HC.out.cell (p := ⟨w.heap.size, 5, none⟩) hwz).trans (Lib.cell_of_heap Hc1.out 5); clear hb HA hK0))
  all_goals
    clear d5 d5w2 d5w3
    have hz3 : B ≤ w3.heap.size := Nat.le_trans hz HC.out.size
    have HP3 := Lib.hid (HP1.out.below HC.out)
    have HB3 := Lib.hid (And.intro (HB1.out.1.trans (HC.out.mono hz)) (HB1.out.2.trans (KeepT.of_below HC.out)))
    have Hc3 := Lib.hid ((HC.out.block w.heap.size hwz).trans Hc1.out)
    clear HP1 HB1 Hc1 HC hz hwz
    obtain ⟨y0, y1, y2, y3, y4, y5, y6, y7, yf⟩ := p_cells8 Hc3.out
    go_wp2_with (go_at_call 22; refine (hC0 w3 HP3.out hz3).mono ?_; rintro e x0 ⟨rfl, hp, hb, hkp⟩; have Hn0 := Lib.hid (hkp _ _ _ _ Hc3.out (by decide) (by decide)); have Hq0 := Lib.hid hp; have Hr0 := Lib.hid (And.intro (HB3.out.1.trans hb) (HB3.out.2.trans hkp)); clear hp hb hkp hC0 y0 y1 y2 y3 y4 y5 y6 y7 yf)
    first | go_end0 | refine bodyPost_ret (results_none rfl _ _ _) rfl ?_
    refine ⟨rfl, ?_, Hr0.out.1, Hr0.out.2⟩
    exact Hq0.out
set_option maxRecDepth 100000 in
set_option maxHeartbeats 8000000 in
theorem stmt_9 (B b : Nat) (l : List UInt8) (d : Nat) (K : Option Addr) (c : Nat) (a n : Int) (z : ByteArray) (p : Int) (kids : List Ex) (Bd : Option Addr) (bc : Nat) (body : List St) (E : Option Addr) (ec : Nat) (els : List St) (w : World) (h : IsPr B b (Lib.byteCells l) w) (hK : RdEs w (· < B) K 0 kids) (hBd : RdSs w (· < B) Bd 0 body) (hE : RdSs w (· < B) E 0 els)
    (hg : goodK kids) (HB : ∀ s ∈ body, StPr s) (HEl : ∀ s ∈ els, StPr s) (hbl : body.length ≤ 1099511627776) (hel : els.length ≤ 1099511627776)
    (hlen : l.length + (prS d (.mk 9 a n z p kids body els)).length ≤ 1099511627776) (hBw : B ≤ w.heap.size) :
    Calls Tryz.prog 49 #[.pointer (some ⟨b, 0, none⟩), .agg #[.int .i64 9, .int .i64 a, .int .i64 n, .string z, .int .i64 p, .slice K kids.length c, .slice Bd body.length bc, .slice E els.length ec], .int .i64 d] w (PrS B b (l ++ prS d (.mk 9 a n z p kids body els)) w) := by
  obtain ⟨k0, hk0⟩ : ∃ k0, k0 = kidP kids 0 := ⟨_, rfl⟩
  obtain ⟨k1, hk1⟩ : ∃ k1, k1 = kidP kids 1 := ⟨_, rfl⟩
  have hp : prS d (.mk 9 a n z p kids body els) = (if kids.isEmpty = true then lnP d [[114, 101, 116, 117, 114, 110, 59]] else lnP d [[114, 101, 116, 117, 114, 110, 32], k0, [59]]) := by simp [prS, hk0, hk1]
  rw [hp] at hlen ⊢
  obtain ⟨w1, hw1, hb1, hz1, hc1⟩ := t_one_al w #[.int .i64 9, .int .i64 a, .int .i64 n, .string z, .int .i64 p, .slice K kids.length c, .slice Bd body.length bc, .slice E els.length ec] 77
  have hB1 : Below B w w1 := hb1.mono hBw
  have hKd := fun i w' (hi : i ≤ 1) (hb : Below w1.heap.size w1 w') => kid_any kids i K c w' hg.1 (RdEs.more (fun q hq => by have := hb.size; have : q < B := hq; omega) _ _ _ (RdEs.keep (w' := w') (fun q hq => (hB1.trans (hb.mono (by omega))).cell hq) _ _ _ hK)) hg.2.1 (by omega) (by rcases Nat.le_one_iff_eq_zero_or_eq_one.mp hi with rfl | rfl; exact hg.2.2.2.1; exact hg.2.2.2.2) hg.2.2.1
  have hK0 : ∀ w', Below w1.heap.size w1 w' → Calls Tryz.prog 65 #[.slice K kids.length c, .int .i64 0] w' (fun e w2 => e = .returned (.string ⟨k0.toArray⟩) ∧ Below w'.heap.size w' w2) := fun w' hb => by
    have := hKd 0 w' (by omega) hb
    unfold KidP at this
    rw [← hk0] at this
    exact this
  have hK1 : ∀ w', Below w1.heap.size w1 w' → Calls Tryz.prog 65 #[.slice K kids.length c, .int .i64 1] w' (fun e w2 => e = .returned (.string ⟨k1.toArray⟩) ∧ Below w'.heap.size w' w2) := fun w' hb => by
    have := hKd 1 w' (by omega) hb
    unfold KidP at this
    rw [← hk1] at this
    exact this
  have hC0 := fun w2 (hp : IsPr B b (Lib.byteCells (l)) w2) (hb : Below B w w2) => back_any B b (l) d K c kids w2 hp (RdEs.keep (w' := w2) (fun q hq => hb.cell hq) _ _ _ hK) hg (by rw [← hk0]; omega) (Nat.le_trans hBw hb.size)
  rw [← hk0] at hC0
  obtain ⟨t0, ht0⟩ : ∃ t0, t0 = (if kids.isEmpty = true then lnP d [[114, 101, 116, 117, 114, 110, 59]] else lnP d [[114, 101, 116, 117, 114, 110, 32], k0, [59]]) := ⟨_, rfl⟩
  rw [← ht0] at hC0 ⊢
  have HP1 := Lib.hid (h.below hb1)
  have HB1 := Lib.hid (And.intro hB1 (KeepT.of_below hb1))
  have Hc1 := Lib.hid hc1
  have hz : B ≤ w1.heap.size := by omega
  have d5 : w1.drew.cell? ⟨w.heap.size, 5, none⟩ = some (.slice K kids.length c) := Lib.cell_of_heap hc1 5
  have HBd := Lib.hid (show Below w1.heap.size w1 w1.drew from (Below.refl _ _).drew)
  have hwz : w.heap.size < w1.heap.size := by omega
  clear hKd hp ht0 hk0 hk1 h hK hBd hE hg HB HEl hbl hel hlen hb1 hz1 hc1 hB1
  go_enter Tryz.func49, Tryz.ntmps49
  go_upto_region 1 with fail
  rw [← hw1]
  clear hw1
  go_region_held3 (fun w' => w'.cell? ⟨w.heap.size, 5, none⟩ = some (.slice K kids.length c)) (first | with_reducible exact d5 | with_reducible exact d5w2 | with_reducible exact d5w3) (first
    | (go_at_call 65; (with_reducible refine (hK0 _ HBd.out).mono ?_); rintro e w2 ⟨rfl, hb⟩; have HA := Lib.hid (HBd.out.trans (hb.mono HBd.out.size)); have d5w2 : w2.cell? ⟨w.heap.size, 5, none⟩ = some (.slice K kids.length c) := (HA.out.cell (p := ⟨w.heap.size, 5, none⟩) hwz).trans (Lib.cell_of_heap Hc1.out 5); clear hb HBd hK0)
    | (go_at_call 65; (with_reducible refine (hK1 _ HBd.out).mono ?_); rintro e w2 ⟨rfl, hb⟩; have HA := Lib.hid (HBd.out.trans (hb.mono HBd.out.size)); have d5w2 : w2.cell? ⟨w.heap.size, 5, none⟩ = some (.slice K kids.length c) := (HA.out.cell (p := ⟨w.heap.size, 5, none⟩) hwz).trans (Lib.cell_of_heap Hc1.out 5); clear hb HBd hK1)
    | (go_at_call 65; (with_reducible refine (hK1 _ HA.out).mono ?_); rintro e w3 ⟨rfl, hb⟩; have HC := Lib.hid (HA.out.trans (hb.mono HA.out.size)); have d5w3 : w3.cell? ⟨w.heap.size, 5, none⟩ = some (.slice K kids.length c) := (HC.out.cell (p := ⟨w.heap.size, 5, none⟩) hwz).trans (Lib.cell_of_heap Hc1.out 5); clear hb HA hK1)
    | (go_at_call 65; (with_reducible refine (hK0 _ HA.out).mono ?_); rintro e w3 ⟨rfl, hb⟩; have HC := Lib.hid (HA.out.trans (hb.mono HA.out.size)); have d5w3 : w3.cell? ⟨w.heap.size, 5, none⟩ = some (.slice K kids.length c) := (HC.out.cell (p := ⟨w.heap.size, 5, none⟩) hwz).trans (Lib.cell_of_heap Hc1.out 5); clear hb HA hK0))
  all_goals
    clear d5 d5w2 d5w3
    have hz3 : B ≤ w3.heap.size := Nat.le_trans hz HC.out.size
    have HP3 := Lib.hid (HP1.out.below HC.out)
    have HB3 := Lib.hid (And.intro (HB1.out.1.trans (HC.out.mono hz)) (HB1.out.2.trans (KeepT.of_below HC.out)))
    have Hc3 := Lib.hid ((HC.out.block w.heap.size hwz).trans Hc1.out)
    clear HP1 HB1 Hc1 HC hz hwz
    obtain ⟨y0, y1, y2, y3, y4, y5, y6, y7, yf⟩ := p_cells8 Hc3.out
    go_wp2_with (go_at_call 68; refine (hC0 w3 HP3.out HB3.out.1).mono ?_; rintro e x0 ⟨rfl, hp, hb, hkp⟩; have Hn0 := Lib.hid (hkp _ _ _ _ Hc3.out (by decide) (by decide)); have Hq0 := Lib.hid hp; have Hr0 := Lib.hid (And.intro (HB3.out.1.trans hb) (HB3.out.2.trans hkp)); clear hp hb hkp hC0 y0 y1 y2 y3 y4 y5 y6 y7 yf)
    first | go_end0 | refine bodyPost_ret (results_none rfl _ _ _) rfl ?_
    refine ⟨rfl, ?_, Hr0.out.1, Hr0.out.2⟩
    exact Hq0.out
set_option maxRecDepth 100000 in
set_option maxHeartbeats 8000000 in
theorem stmt_10 (B b : Nat) (l : List UInt8) (d : Nat) (K : Option Addr) (c : Nat) (a n : Int) (z : ByteArray) (p : Int) (kids : List Ex) (Bd : Option Addr) (bc : Nat) (body : List St) (E : Option Addr) (ec : Nat) (els : List St) (w : World) (h : IsPr B b (Lib.byteCells l) w) (hK : RdEs w (· < B) K 0 kids) (hBd : RdSs w (· < B) Bd 0 body) (hE : RdSs w (· < B) E 0 els)
    (hg : goodK kids) (HB : ∀ s ∈ body, StPr s) (HEl : ∀ s ∈ els, StPr s) (hbl : body.length ≤ 1099511627776) (hel : els.length ≤ 1099511627776)
    (hlen : l.length + (prS d (.mk 10 a n z p kids body els)).length ≤ 1099511627776) (hBw : B ≤ w.heap.size) :
    Calls Tryz.prog 49 #[.pointer (some ⟨b, 0, none⟩), .agg #[.int .i64 10, .int .i64 a, .int .i64 n, .string z, .int .i64 p, .slice K kids.length c, .slice Bd body.length bc, .slice E els.length ec], .int .i64 d] w (PrS B b (l ++ prS d (.mk 10 a n z p kids body els)) w) := by
  obtain ⟨k0, hk0⟩ : ∃ k0, k0 = kidP kids 0 := ⟨_, rfl⟩
  obtain ⟨k1, hk1⟩ : ∃ k1, k1 = kidP kids 1 := ⟨_, rfl⟩
  have hp : prS d (.mk 10 a n z p kids body els) = lnP d [[112, 114, 105, 110, 116, 32], k0, [59]] := by simp [prS, hk0, hk1]
  rw [hp] at hlen ⊢
  obtain ⟨w1, hw1, hb1, hz1, hc1⟩ := t_one_al w #[.int .i64 10, .int .i64 a, .int .i64 n, .string z, .int .i64 p, .slice K kids.length c, .slice Bd body.length bc, .slice E els.length ec] 77
  have hB1 : Below B w w1 := hb1.mono hBw
  have hKd := fun i w' (hi : i ≤ 1) (hb : Below w1.heap.size w1 w') => kid_any kids i K c w' hg.1 (RdEs.more (fun q hq => by have := hb.size; have : q < B := hq; omega) _ _ _ (RdEs.keep (w' := w') (fun q hq => (hB1.trans (hb.mono (by omega))).cell hq) _ _ _ hK)) hg.2.1 (by omega) (by rcases Nat.le_one_iff_eq_zero_or_eq_one.mp hi with rfl | rfl; exact hg.2.2.2.1; exact hg.2.2.2.2) hg.2.2.1
  have hK0 : ∀ w', Below w1.heap.size w1 w' → Calls Tryz.prog 65 #[.slice K kids.length c, .int .i64 0] w' (fun e w2 => e = .returned (.string ⟨k0.toArray⟩) ∧ Below w'.heap.size w' w2) := fun w' hb => by
    have := hKd 0 w' (by omega) hb
    unfold KidP at this
    rw [← hk0] at this
    exact this
  have hK1 : ∀ w', Below w1.heap.size w1 w' → Calls Tryz.prog 65 #[.slice K kids.length c, .int .i64 1] w' (fun e w2 => e = .returned (.string ⟨k1.toArray⟩) ∧ Below w'.heap.size w' w2) := fun w' hb => by
    have := hKd 1 w' (by omega) hb
    unfold KidP at this
    rw [← hk1] at this
    exact this
  have hC0 := fun w2 (hp : IsPr B b (Lib.byteCells (l)) w2) (hz : B ≤ w2.heap.size) => line1 B b (l) d [[112, 114, 105, 110, 116, 32], k0, [59]] #[.string ⟨#[112, 114, 105, 110, 116, 32]⟩, .string ⟨k0.toArray⟩, .string ⟨#[59]⟩] w2 rfl hp (by simp) (by omega) hz
  obtain ⟨t0, ht0⟩ : ∃ t0, t0 = lnP d [[112, 114, 105, 110, 116, 32], k0, [59]] := ⟨_, rfl⟩
  rw [← ht0] at hC0 ⊢
  simp only [List.length_cons, List.length_nil, Nat.zero_add, Nat.reduceAdd] at hC0
  have HP1 := Lib.hid (h.below hb1)
  have HB1 := Lib.hid (And.intro hB1 (KeepT.of_below hb1))
  have Hc1 := Lib.hid hc1
  have hz : B ≤ w1.heap.size := by omega
  have d5 : w1.drew.cell? ⟨w.heap.size, 5, none⟩ = some (.slice K kids.length c) := Lib.cell_of_heap hc1 5
  have HBd := Lib.hid (show Below w1.heap.size w1 w1.drew from (Below.refl _ _).drew)
  have hwz : w.heap.size < w1.heap.size := by omega
  clear hKd hp ht0 hk0 hk1 h hK hBd hE hg HB HEl hbl hel hlen hb1 hz1 hc1 hB1
  go_enter Tryz.func49, Tryz.ntmps49
  go_upto_region 1 with fail
  rw [← hw1]
  clear hw1
  go_region_held3 (fun w' => w'.cell? ⟨w.heap.size, 5, none⟩ = some (.slice K kids.length c)) (first | with_reducible exact d5 | with_reducible exact d5w2 | with_reducible exact d5w3) (first
    | (go_at_call 65; (with_reducible refine (hK0 _ HBd.out).mono ?_); rintro e w2 ⟨rfl, hb⟩; have HA := Lib.hid (HBd.out.trans (hb.mono HBd.out.size)); have d5w2 : w2.cell? ⟨w.heap.size, 5, none⟩ = some (.slice K kids.length c) := (HA.out.cell (p := ⟨w.heap.size, 5, none⟩) hwz).trans (Lib.cell_of_heap Hc1.out 5); clear hb HBd hK0)
    | (go_at_call 65; (with_reducible refine (hK1 _ HBd.out).mono ?_); rintro e w2 ⟨rfl, hb⟩; have HA := Lib.hid (HBd.out.trans (hb.mono HBd.out.size)); have d5w2 : w2.cell? ⟨w.heap.size, 5, none⟩ = some (.slice K kids.length c) := (HA.out.cell (p := ⟨w.heap.size, 5, none⟩) hwz).trans (Lib.cell_of_heap Hc1.out 5); clear hb HBd hK1)
    | (go_at_call 65; (with_reducible refine (hK1 _ HA.out).mono ?_); rintro e w3 ⟨rfl, hb⟩; have HC := Lib.hid (HA.out.trans (hb.mono HA.out.size)); have d5w3 : w3.cell? ⟨w.heap.size, 5, none⟩ = some (.slice K kids.length c) := (HC.out.cell (p := ⟨w.heap.size, 5, none⟩) hwz).trans (Lib.cell_of_heap Hc1.out 5); clear hb HA hK1)
    | (go_at_call 65; (with_reducible refine (hK0 _ HA.out).mono ?_); rintro e w3 ⟨rfl, hb⟩; have HC := Lib.hid (HA.out.trans (hb.mono HA.out.size)); have d5w3 : w3.cell? ⟨w.heap.size, 5, none⟩ = some (.slice K kids.length c) := (HC.out.cell (p := ⟨w.heap.size, 5, none⟩) hwz).trans (Lib.cell_of_heap Hc1.out 5); clear hb HA hK0))
  all_goals
    clear d5 d5w2 d5w3
    have hz3 : B ≤ w3.heap.size := Nat.le_trans hz HC.out.size
    have HP3 := Lib.hid (HP1.out.below HC.out)
    have HB3 := Lib.hid (And.intro (HB1.out.1.trans (HC.out.mono hz)) (HB1.out.2.trans (KeepT.of_below HC.out)))
    have Hc3 := Lib.hid ((HC.out.block w.heap.size hwz).trans Hc1.out)
    clear HP1 HB1 Hc1 HC hz hwz
    obtain ⟨y0, y1, y2, y3, y4, y5, y6, y7, yf⟩ := p_cells8 Hc3.out
    go_wp2_with (go_at_call 22; refine (hC0 w3 HP3.out hz3).mono ?_; rintro e x0 ⟨rfl, hp, hb, hkp⟩; have Hn0 := Lib.hid (hkp _ _ _ _ Hc3.out (by decide) (by decide)); have Hq0 := Lib.hid hp; have Hr0 := Lib.hid (And.intro (HB3.out.1.trans hb) (HB3.out.2.trans hkp)); clear hp hb hkp hC0 y0 y1 y2 y3 y4 y5 y6 y7 yf)
    first | go_end0 | refine bodyPost_ret (results_none rfl _ _ _) rfl ?_
    refine ⟨rfl, ?_, Hr0.out.1, Hr0.out.2⟩
    exact Hq0.out
set_option maxRecDepth 100000 in
set_option maxHeartbeats 8000000 in
theorem stmt_11 (B b : Nat) (l : List UInt8) (d : Nat) (K : Option Addr) (c : Nat) (a n : Int) (z : ByteArray) (p : Int) (kids : List Ex) (Bd : Option Addr) (bc : Nat) (body : List St) (E : Option Addr) (ec : Nat) (els : List St) (w : World) (h : IsPr B b (Lib.byteCells l) w) (hK : RdEs w (· < B) K 0 kids) (hBd : RdSs w (· < B) Bd 0 body) (hE : RdSs w (· < B) E 0 els)
    (hg : goodK kids) (HB : ∀ s ∈ body, StPr s) (HEl : ∀ s ∈ els, StPr s) (hbl : body.length ≤ 1099511627776) (hel : els.length ≤ 1099511627776)
    (hlen : l.length + (prS d (.mk 11 a n z p kids body els)).length ≤ 1099511627776) (hBw : B ≤ w.heap.size) :
    Calls Tryz.prog 49 #[.pointer (some ⟨b, 0, none⟩), .agg #[.int .i64 11, .int .i64 a, .int .i64 n, .string z, .int .i64 p, .slice K kids.length c, .slice Bd body.length bc, .slice E els.length ec], .int .i64 d] w (PrS B b (l ++ prS d (.mk 11 a n z p kids body els)) w) := by
  obtain ⟨k0, hk0⟩ : ∃ k0, k0 = kidP kids 0 := ⟨_, rfl⟩
  obtain ⟨k1, hk1⟩ : ∃ k1, k1 = kidP kids 1 := ⟨_, rfl⟩
  have hp : prS d (.mk 11 a n z p kids body els) = lnP d [k0, [59]] := by simp [prS, hk0, hk1]
  rw [hp] at hlen ⊢
  obtain ⟨w1, hw1, hb1, hz1, hc1⟩ := t_one_al w #[.int .i64 11, .int .i64 a, .int .i64 n, .string z, .int .i64 p, .slice K kids.length c, .slice Bd body.length bc, .slice E els.length ec] 77
  have hB1 : Below B w w1 := hb1.mono hBw
  have hKd := fun i w' (hi : i ≤ 1) (hb : Below w1.heap.size w1 w') => kid_any kids i K c w' hg.1 (RdEs.more (fun q hq => by have := hb.size; have : q < B := hq; omega) _ _ _ (RdEs.keep (w' := w') (fun q hq => (hB1.trans (hb.mono (by omega))).cell hq) _ _ _ hK)) hg.2.1 (by omega) (by rcases Nat.le_one_iff_eq_zero_or_eq_one.mp hi with rfl | rfl; exact hg.2.2.2.1; exact hg.2.2.2.2) hg.2.2.1
  have hK0 : ∀ w', Below w1.heap.size w1 w' → Calls Tryz.prog 65 #[.slice K kids.length c, .int .i64 0] w' (fun e w2 => e = .returned (.string ⟨k0.toArray⟩) ∧ Below w'.heap.size w' w2) := fun w' hb => by
    have := hKd 0 w' (by omega) hb
    unfold KidP at this
    rw [← hk0] at this
    exact this
  have hK1 : ∀ w', Below w1.heap.size w1 w' → Calls Tryz.prog 65 #[.slice K kids.length c, .int .i64 1] w' (fun e w2 => e = .returned (.string ⟨k1.toArray⟩) ∧ Below w'.heap.size w' w2) := fun w' hb => by
    have := hKd 1 w' (by omega) hb
    unfold KidP at this
    rw [← hk1] at this
    exact this
  have hC0 := fun w2 (hp : IsPr B b (Lib.byteCells (l)) w2) (hz : B ≤ w2.heap.size) => line1 B b (l) d [k0, [59]] #[.string ⟨k0.toArray⟩, .string ⟨#[59]⟩] w2 rfl hp (by simp) (by omega) hz
  obtain ⟨t0, ht0⟩ : ∃ t0, t0 = lnP d [k0, [59]] := ⟨_, rfl⟩
  rw [← ht0] at hC0 ⊢
  simp only [List.length_cons, List.length_nil, Nat.zero_add, Nat.reduceAdd] at hC0
  have HP1 := Lib.hid (h.below hb1)
  have HB1 := Lib.hid (And.intro hB1 (KeepT.of_below hb1))
  have Hc1 := Lib.hid hc1
  have hz : B ≤ w1.heap.size := by omega
  have d5 : w1.drew.cell? ⟨w.heap.size, 5, none⟩ = some (.slice K kids.length c) := Lib.cell_of_heap hc1 5
  have HBd := Lib.hid (show Below w1.heap.size w1 w1.drew from (Below.refl _ _).drew)
  have hwz : w.heap.size < w1.heap.size := by omega
  clear hKd hp ht0 hk0 hk1 h hK hBd hE hg HB HEl hbl hel hlen hb1 hz1 hc1 hB1
  go_enter Tryz.func49, Tryz.ntmps49
  go_upto_region 1 with fail
  rw [← hw1]
  clear hw1
  go_region_held3 (fun w' => w'.cell? ⟨w.heap.size, 5, none⟩ = some (.slice K kids.length c)) (first | with_reducible exact d5 | with_reducible exact d5w2 | with_reducible exact d5w3) (first
    | (go_at_call 65; (with_reducible refine (hK0 _ HBd.out).mono ?_); rintro e w2 ⟨rfl, hb⟩; have HA := Lib.hid (HBd.out.trans (hb.mono HBd.out.size)); have d5w2 : w2.cell? ⟨w.heap.size, 5, none⟩ = some (.slice K kids.length c) := (HA.out.cell (p := ⟨w.heap.size, 5, none⟩) hwz).trans (Lib.cell_of_heap Hc1.out 5); clear hb HBd hK0)
    | (go_at_call 65; (with_reducible refine (hK1 _ HBd.out).mono ?_); rintro e w2 ⟨rfl, hb⟩; have HA := Lib.hid (HBd.out.trans (hb.mono HBd.out.size)); have d5w2 : w2.cell? ⟨w.heap.size, 5, none⟩ = some (.slice K kids.length c) := (HA.out.cell (p := ⟨w.heap.size, 5, none⟩) hwz).trans (Lib.cell_of_heap Hc1.out 5); clear hb HBd hK1)
    | (go_at_call 65; (with_reducible refine (hK1 _ HA.out).mono ?_); rintro e w3 ⟨rfl, hb⟩; have HC := Lib.hid (HA.out.trans (hb.mono HA.out.size)); have d5w3 : w3.cell? ⟨w.heap.size, 5, none⟩ = some (.slice K kids.length c) := (HC.out.cell (p := ⟨w.heap.size, 5, none⟩) hwz).trans (Lib.cell_of_heap Hc1.out 5); clear hb HA hK1)
    | (go_at_call 65; (with_reducible refine (hK0 _ HA.out).mono ?_); rintro e w3 ⟨rfl, hb⟩; have HC := Lib.hid (HA.out.trans (hb.mono HA.out.size)); have d5w3 : w3.cell? ⟨w.heap.size, 5, none⟩ = some (.slice K kids.length c) := (HC.out.cell (p := ⟨w.heap.size, 5, none⟩) hwz).trans (Lib.cell_of_heap Hc1.out 5); clear hb HA hK0))
  all_goals
    clear d5 d5w2 d5w3
    have hz3 : B ≤ w3.heap.size := Nat.le_trans hz HC.out.size
    have HP3 := Lib.hid (HP1.out.below HC.out)
    have HB3 := Lib.hid (And.intro (HB1.out.1.trans (HC.out.mono hz)) (HB1.out.2.trans (KeepT.of_below HC.out)))
    have Hc3 := Lib.hid ((HC.out.block w.heap.size hwz).trans Hc1.out)
    clear HP1 HB1 Hc1 HC hz hwz
    obtain ⟨y0, y1, y2, y3, y4, y5, y6, y7, yf⟩ := p_cells8 Hc3.out
    go_wp2_with (go_at_call 22; refine (hC0 w3 HP3.out hz3).mono ?_; rintro e x0 ⟨rfl, hp, hb, hkp⟩; have Hn0 := Lib.hid (hkp _ _ _ _ Hc3.out (by decide) (by decide)); have Hq0 := Lib.hid hp; have Hr0 := Lib.hid (And.intro (HB3.out.1.trans hb) (HB3.out.2.trans hkp)); clear hp hb hkp hC0 y0 y1 y2 y3 y4 y5 y6 y7 yf)
    first | go_end0 | refine bodyPost_ret (results_none rfl _ _ _) rfl ?_
    refine ⟨rfl, ?_, Hr0.out.1, Hr0.out.2⟩
    exact Hq0.out
end Go.Proofs.YtiadbeglhnocoaaGreatDoor
namespace Go.Proofs.YtiadbeglhnocoaaGreatDoor
set_option linter.unusedVariables false
set_option linter.unusedSimpArgs false
open Go.RowKit

set_option maxRecDepth 100000 in
set_option maxHeartbeats 8000000 in
theorem stmt_4 (B b : Nat) (l : List UInt8) (d : Nat) (K : Option Addr) (c : Nat) (a n : Int) (z : ByteArray) (p : Int) (kids : List Ex) (Bd : Option Addr) (bc : Nat) (body : List St) (E : Option Addr) (ec : Nat) (els : List St) (w : World) (h : IsPr B b (Lib.byteCells l) w) (hK : RdEs w (· < B) K 0 kids) (hBd : RdSs w (· < B) Bd 0 body) (hE : RdSs w (· < B) E 0 els)
    (hg : goodK kids) (HB : ∀ s ∈ body, StPr s) (HEl : ∀ s ∈ els, StPr s) (hbl : body.length ≤ 1099511627776) (hel : els.length ≤ 1099511627776)
    (hlen : l.length + (prS d (.mk 4 a n z p kids body els)).length ≤ 1099511627776) (hBw : B ≤ w.heap.size) :
    Calls Tryz.prog 49 #[.pointer (some ⟨b, 0, none⟩), .agg #[.int .i64 4, .int .i64 a, .int .i64 n, .string z, .int .i64 p, .slice K kids.length c, .slice Bd body.length bc, .slice E els.length ec], .int .i64 d] w (PrS B b (l ++ prS d (.mk 4 a n z p kids body els)) w) := by
  obtain ⟨k0, hk0⟩ : ∃ k0, k0 = kidP kids 0 := ⟨_, rfl⟩
  obtain ⟨k1, hk1⟩ : ∃ k1, k1 = kidP kids 1 := ⟨_, rfl⟩
  have hp : prS d (.mk 4 a n z p kids body els) = lnP d [[105, 102, 32], k0, [32, 123]] ++ prSs (d + 1) body ++ (if els.isEmpty = true then ([] : List UInt8) else lnP d [[125, 32, 101, 108, 115, 101, 32, 123]] ++ prSs (d + 1) els) ++ lnP d [[125]] := by simp [prS, hk0, hk1]
  rw [hp] at hlen ⊢
  simp only [List.length_append] at hlen
  obtain ⟨w1, hw1, hb1, hz1, hc1⟩ := t_one_al w #[.int .i64 4, .int .i64 a, .int .i64 n, .string z, .int .i64 p, .slice K kids.length c, .slice Bd body.length bc, .slice E els.length ec] 77
  have hB1 : Below B w w1 := hb1.mono hBw
  have hKd := fun i w' (hi : i ≤ 1) (hb : Below w1.heap.size w1 w') => kid_any kids i K c w' hg.1 (RdEs.more (fun q hq => by have := hb.size; have : q < B := hq; omega) _ _ _ (RdEs.keep (w' := w') (fun q hq => (hB1.trans (hb.mono (by omega))).cell hq) _ _ _ hK)) hg.2.1 (by omega) (by rcases Nat.le_one_iff_eq_zero_or_eq_one.mp hi with rfl | rfl; exact hg.2.2.2.1; exact hg.2.2.2.2) hg.2.2.1
  have hK0 : ∀ w', Below w1.heap.size w1 w' → Calls Tryz.prog 65 #[.slice K kids.length c, .int .i64 0] w' (fun e w2 => e = .returned (.string ⟨k0.toArray⟩) ∧ Below w'.heap.size w' w2) := fun w' hb => by
    have := hKd 0 w' (by omega) hb
    unfold KidP at this
    rw [← hk0] at this
    exact this
  have hK1 : ∀ w', Below w1.heap.size w1 w' → Calls Tryz.prog 65 #[.slice K kids.length c, .int .i64 1] w' (fun e w2 => e = .returned (.string ⟨k1.toArray⟩) ∧ Below w'.heap.size w' w2) := fun w' hb => by
    have := hKd 1 w' (by omega) hb
    unfold KidP at this
    rw [← hk1] at this
    exact this
  have hC0 := fun w2 (hp : IsPr B b (Lib.byteCells (l)) w2) (hz : B ≤ w2.heap.size) => line1 B b (l) d [[105, 102, 32], k0, [32, 123]] #[.string ⟨#[105, 102, 32]⟩, .string ⟨k0.toArray⟩, .string ⟨#[32, 123]⟩] w2 rfl hp (by simp) (by omega) hz
  have hd1 : d + 1 ≤ 1099511627776 := by have := lnP_len d [[105, 102, 32], k0, [32, 123]]; omega
  have hC1 := fun w2 (hp : IsPr B b (Lib.byteCells (l ++ lnP d [[105, 102, 32], k0, [32, 123]])) w2) (hb : Below B w w2) => block_any2 B b (l ++ lnP d [[105, 102, 32], k0, [32, 123]]) (d + 1) Bd body bc w2 hp (RdSs.keep (w' := w2) (fun q hq => hb.cell hq) _ _ _ hBd) HB hbl (by simp only [List.length_append]; omega) (Nat.le_trans hBw hb.size) hd1
  have hC2 := fun w2 (hp : IsPr B b (Lib.byteCells (l ++ lnP d [[105, 102, 32], k0, [32, 123]] ++ prSs (d + 1) body)) w2) (hb : Below B w w2) => otherwise_any2 B b (l ++ lnP d [[105, 102, 32], k0, [32, 123]] ++ prSs (d + 1) body) d E els ec w2 hp (RdSs.keep (w' := w2) (fun q hq => hb.cell hq) _ _ _ hE) HEl hel (by simp only [List.length_append]; omega) (Nat.le_trans hBw hb.size) hd1
  have hC3 := fun w2 (hp : IsPr B b (Lib.byteCells (l ++ lnP d [[105, 102, 32], k0, [32, 123]] ++ prSs (d + 1) body ++ (if els.isEmpty = true then ([] : List UInt8) else lnP d [[125, 32, 101, 108, 115, 101, 32, 123]] ++ prSs (d + 1) els))) w2) (hz : B ≤ w2.heap.size) => line1 B b (l ++ lnP d [[105, 102, 32], k0, [32, 123]] ++ prSs (d + 1) body ++ (if els.isEmpty = true then ([] : List UInt8) else lnP d [[125, 32, 101, 108, 115, 101, 32, 123]] ++ prSs (d + 1) els)) d [[125]] #[.string ⟨#[125]⟩] w2 rfl hp (by simp) (by simp only [List.length_append]; omega) hz
  obtain ⟨t0, ht0⟩ : ∃ t0, t0 = lnP d [[105, 102, 32], k0, [32, 123]] := ⟨_, rfl⟩
  rw [← ht0] at hC0 hC1 hC2 hC3 ⊢
  obtain ⟨t1, ht1⟩ : ∃ t1, t1 = prSs (d + 1) body := ⟨_, rfl⟩
  rw [← ht1] at hC1 hC2 hC3 ⊢
  obtain ⟨t2, ht2⟩ : ∃ t2, t2 = (if els.isEmpty = true then ([] : List UInt8) else lnP d [[125, 32, 101, 108, 115, 101, 32, 123]] ++ prSs (d + 1) els) := ⟨_, rfl⟩
  rw [← ht2] at hC2 hC3 ⊢
  obtain ⟨t3, ht3⟩ : ∃ t3, t3 = lnP d [[125]] := ⟨_, rfl⟩
  rw [← ht3] at hC3 ⊢
  rw [show ((d + 1 : Nat) : Int) = (d : Int) + 1 by omega] at hC1
  simp only [List.length_cons, List.length_nil, Nat.zero_add, Nat.reduceAdd] at hC0 hC3
  have HP1 := Lib.hid (h.below hb1)
  have HB1 := Lib.hid (And.intro hB1 (KeepT.of_below hb1))
  have Hc1 := Lib.hid hc1
  have hz : B ≤ w1.heap.size := by omega
  have d5 : w1.drew.cell? ⟨w.heap.size, 5, none⟩ = some (.slice K kids.length c) := Lib.cell_of_heap hc1 5
  have HBd := Lib.hid (show Below w1.heap.size w1 w1.drew from (Below.refl _ _).drew)
  have hwz : w.heap.size < w1.heap.size := by omega
  have hdi : (d : Int) ≤ 1099511627776 := by omega
  clear hKd hp ht0 ht1 ht2 ht3 hk0 hk1 h hK hBd hE hg HB HEl hbl hel hlen hb1 hz1 hc1 hB1 hd1
  go_enter Tryz.func49, Tryz.ntmps49
  go_upto_region 1 with fail
  rw [← hw1]
  clear hw1
  go_region_held3 (fun w' => w'.cell? ⟨w.heap.size, 5, none⟩ = some (.slice K kids.length c)) (first | with_reducible exact d5 | with_reducible exact d5w2 | with_reducible exact d5w3) (first
    | (go_at_call 65; (with_reducible refine (hK0 _ HBd.out).mono ?_); rintro e w2 ⟨rfl, hb⟩; have HA := Lib.hid (HBd.out.trans (hb.mono HBd.out.size)); have d5w2 : w2.cell? ⟨w.heap.size, 5, none⟩ = some (.slice K kids.length c) := (HA.out.cell (p := ⟨w.heap.size, 5, none⟩) hwz).trans (Lib.cell_of_heap Hc1.out 5); clear hb HBd hK0)
    | (go_at_call 65; (with_reducible refine (hK1 _ HBd.out).mono ?_); rintro e w2 ⟨rfl, hb⟩; have HA := Lib.hid (HBd.out.trans (hb.mono HBd.out.size)); have d5w2 : w2.cell? ⟨w.heap.size, 5, none⟩ = some (.slice K kids.length c) := (HA.out.cell (p := ⟨w.heap.size, 5, none⟩) hwz).trans (Lib.cell_of_heap Hc1.out 5); clear hb HBd hK1)
    | (go_at_call 65; (with_reducible refine (hK1 _ HA.out).mono ?_); rintro e w3 ⟨rfl, hb⟩; have HC := Lib.hid (HA.out.trans (hb.mono HA.out.size)); have d5w3 : w3.cell? ⟨w.heap.size, 5, none⟩ = some (.slice K kids.length c) := (HC.out.cell (p := ⟨w.heap.size, 5, none⟩) hwz).trans (Lib.cell_of_heap Hc1.out 5); clear hb HA hK1)
    | (go_at_call 65; (with_reducible refine (hK0 _ HA.out).mono ?_); rintro e w3 ⟨rfl, hb⟩; have HC := Lib.hid (HA.out.trans (hb.mono HA.out.size)); have d5w3 : w3.cell? ⟨w.heap.size, 5, none⟩ = some (.slice K kids.length c) := (HC.out.cell (p := ⟨w.heap.size, 5, none⟩) hwz).trans (Lib.cell_of_heap Hc1.out 5); clear hb HA hK0))
  all_goals
    clear d5 d5w2 d5w3
    have hz3 : B ≤ w3.heap.size := Nat.le_trans hz HC.out.size
    have HP3 := Lib.hid (HP1.out.below HC.out)
    have HB3 := Lib.hid (And.intro (HB1.out.1.trans (HC.out.mono hz)) (HB1.out.2.trans (KeepT.of_below HC.out)))
    have Hc3 := Lib.hid ((HC.out.block w.heap.size hwz).trans Hc1.out)
    clear HP1 HB1 Hc1 HC hz hwz
    obtain ⟨y0, y1, y2, y3, y4, y5, y6, y7, yf⟩ := p_cells8 Hc3.out
    go_upto_region 11 with (go_at_call 22; refine (hC0 w3 HP3.out hz3).mono ?_; rintro e x0 ⟨rfl, hp, hb, hkp⟩; have Hn0 := Lib.hid (hkp _ _ _ _ Hc3.out (by decide) (by decide)); have Hq0 := Lib.hid hp; have Hr0 := Lib.hid (And.intro (HB3.out.1.trans hb) (HB3.out.2.trans hkp)); clear hp hb hkp hC0 y0 y1 y2 y3 y4 y5 y6 y7 yf)
    obtain ⟨y0, y1, y2, y3, y4, y5, y6, y7, yf⟩ := p_cells8 Hn0.out
    have hzx0 : B ≤ x0.heap.size := by have := Hr0.out.1.size; omega
    go_upto_region 12 with (go_at_call 25; refine (hC1 x0 Hq0.out Hr0.out.1).mono ?_; rintro e x1 ⟨rfl, hp, hb, hkp⟩; have Hn1 := Lib.hid (hkp _ _ _ _ Hn0.out (by decide) (by decide)); have Hq1 := Lib.hid hp; have Hr1 := Lib.hid (And.intro (Hr0.out.1.trans hb) (Hr0.out.2.trans hkp)); clear hp hb hkp hC1 y0 y1 y2 y3 y4 y5 y6 y7 yf)
    obtain ⟨y0, y1, y2, y3, y4, y5, y6, y7, yf⟩ := p_cells8 Hn1.out
    have hzx1 : B ≤ x1.heap.size := by have := Hr1.out.1.size; omega
    go_upto_region 13 with (go_at_call 66; refine (hC2 x1 Hq1.out Hr1.out.1).mono ?_; rintro e x2 ⟨rfl, hp, hb, hkp⟩; have Hn2 := Lib.hid (hkp _ _ _ _ Hn1.out (by decide) (by decide)); have Hq2 := Lib.hid hp; have Hr2 := Lib.hid (And.intro (Hr1.out.1.trans hb) (Hr1.out.2.trans hkp)); clear hp hb hkp hC2 y0 y1 y2 y3 y4 y5 y6 y7 yf)
    obtain ⟨y0, y1, y2, y3, y4, y5, y6, y7, yf⟩ := p_cells8 Hn2.out
    have hzx2 : B ≤ x2.heap.size := by have := Hr2.out.1.size; omega
    go_wp2_with (go_at_call 22; refine (hC3 x2 Hq2.out hzx2).mono ?_; rintro e x3 ⟨rfl, hp, hb, hkp⟩; have Hn3 := Lib.hid (hkp _ _ _ _ Hn2.out (by decide) (by decide)); have Hq3 := Lib.hid hp; have Hr3 := Lib.hid (And.intro (Hr2.out.1.trans hb) (Hr2.out.2.trans hkp)); clear hp hb hkp hC3 y0 y1 y2 y3 y4 y5 y6 y7 yf)
    first | go_end0 | refine bodyPost_ret (results_none rfl _ _ _) rfl ?_
    refine ⟨rfl, ?_, Hr3.out.1, Hr3.out.2⟩
    simp only [← List.append_assoc]
    exact Hq3.out
end Go.Proofs.YtiadbeglhnocoaaGreatDoor
namespace Go.Proofs.YtiadbeglhnocoaaGreatDoor
set_option linter.unusedVariables false
set_option linter.unusedSimpArgs false
open Go.RowKit

set_option maxRecDepth 100000 in
set_option maxHeartbeats 8000000 in
theorem stmt_5 (B b : Nat) (l : List UInt8) (d : Nat) (K : Option Addr) (c : Nat) (a n : Int) (z : ByteArray) (p : Int) (kids : List Ex) (Bd : Option Addr) (bc : Nat) (body : List St) (E : Option Addr) (ec : Nat) (els : List St) (w : World) (h : IsPr B b (Lib.byteCells l) w) (hK : RdEs w (· < B) K 0 kids) (hBd : RdSs w (· < B) Bd 0 body) (hE : RdSs w (· < B) E 0 els)
    (hg : goodK kids) (HB : ∀ s ∈ body, StPr s) (HEl : ∀ s ∈ els, StPr s) (hbl : body.length ≤ 1099511627776) (hel : els.length ≤ 1099511627776)
    (hlen : l.length + (prS d (.mk 5 a n z p kids body els)).length ≤ 1099511627776) (hBw : B ≤ w.heap.size) :
    Calls Tryz.prog 49 #[.pointer (some ⟨b, 0, none⟩), .agg #[.int .i64 5, .int .i64 a, .int .i64 n, .string z, .int .i64 p, .slice K kids.length c, .slice Bd body.length bc, .slice E els.length ec], .int .i64 d] w (PrS B b (l ++ prS d (.mk 5 a n z p kids body els)) w) := by
  obtain ⟨k0, hk0⟩ : ∃ k0, k0 = kidP kids 0 := ⟨_, rfl⟩
  obtain ⟨k1, hk1⟩ : ∃ k1, k1 = kidP kids 1 := ⟨_, rfl⟩
  have hp : prS d (.mk 5 a n z p kids body els) = lnP d [[119, 104, 105, 108, 101, 32], k0, [32, 123]] ++ prSs (d + 1) body ++ lnP d [[125]] := by simp [prS, hk0, hk1]
  rw [hp] at hlen ⊢
  simp only [List.length_append] at hlen
  obtain ⟨w1, hw1, hb1, hz1, hc1⟩ := t_one_al w #[.int .i64 5, .int .i64 a, .int .i64 n, .string z, .int .i64 p, .slice K kids.length c, .slice Bd body.length bc, .slice E els.length ec] 77
  have hB1 : Below B w w1 := hb1.mono hBw
  have hKd := fun i w' (hi : i ≤ 1) (hb : Below w1.heap.size w1 w') => kid_any kids i K c w' hg.1 (RdEs.more (fun q hq => by have := hb.size; have : q < B := hq; omega) _ _ _ (RdEs.keep (w' := w') (fun q hq => (hB1.trans (hb.mono (by omega))).cell hq) _ _ _ hK)) hg.2.1 (by omega) (by rcases Nat.le_one_iff_eq_zero_or_eq_one.mp hi with rfl | rfl; exact hg.2.2.2.1; exact hg.2.2.2.2) hg.2.2.1
  have hK0 : ∀ w', Below w1.heap.size w1 w' → Calls Tryz.prog 65 #[.slice K kids.length c, .int .i64 0] w' (fun e w2 => e = .returned (.string ⟨k0.toArray⟩) ∧ Below w'.heap.size w' w2) := fun w' hb => by
    have := hKd 0 w' (by omega) hb
    unfold KidP at this
    rw [← hk0] at this
    exact this
  have hK1 : ∀ w', Below w1.heap.size w1 w' → Calls Tryz.prog 65 #[.slice K kids.length c, .int .i64 1] w' (fun e w2 => e = .returned (.string ⟨k1.toArray⟩) ∧ Below w'.heap.size w' w2) := fun w' hb => by
    have := hKd 1 w' (by omega) hb
    unfold KidP at this
    rw [← hk1] at this
    exact this
  have hC0 := fun w2 (hp : IsPr B b (Lib.byteCells (l)) w2) (hz : B ≤ w2.heap.size) => line1 B b (l) d [[119, 104, 105, 108, 101, 32], k0, [32, 123]] #[.string ⟨#[119, 104, 105, 108, 101, 32]⟩, .string ⟨k0.toArray⟩, .string ⟨#[32, 123]⟩] w2 rfl hp (by simp) (by omega) hz
  have hd1 : d + 1 ≤ 1099511627776 := by have := lnP_len d [[119, 104, 105, 108, 101, 32], k0, [32, 123]]; omega
  have hC1 := fun w2 (hp : IsPr B b (Lib.byteCells (l ++ lnP d [[119, 104, 105, 108, 101, 32], k0, [32, 123]])) w2) (hb : Below B w w2) => block_any2 B b (l ++ lnP d [[119, 104, 105, 108, 101, 32], k0, [32, 123]]) (d + 1) Bd body bc w2 hp (RdSs.keep (w' := w2) (fun q hq => hb.cell hq) _ _ _ hBd) HB hbl (by simp only [List.length_append]; omega) (Nat.le_trans hBw hb.size) hd1
  have hC2 := fun w2 (hp : IsPr B b (Lib.byteCells (l ++ lnP d [[119, 104, 105, 108, 101, 32], k0, [32, 123]] ++ prSs (d + 1) body)) w2) (hz : B ≤ w2.heap.size) => line1 B b (l ++ lnP d [[119, 104, 105, 108, 101, 32], k0, [32, 123]] ++ prSs (d + 1) body) d [[125]] #[.string ⟨#[125]⟩] w2 rfl hp (by simp) (by simp only [List.length_append]; omega) hz
  obtain ⟨t0, ht0⟩ : ∃ t0, t0 = lnP d [[119, 104, 105, 108, 101, 32], k0, [32, 123]] := ⟨_, rfl⟩
  rw [← ht0] at hC0 hC1 hC2 ⊢
  obtain ⟨t1, ht1⟩ : ∃ t1, t1 = prSs (d + 1) body := ⟨_, rfl⟩
  rw [← ht1] at hC1 hC2 ⊢
  obtain ⟨t2, ht2⟩ : ∃ t2, t2 = lnP d [[125]] := ⟨_, rfl⟩
  rw [← ht2] at hC2 ⊢
  rw [show ((d + 1 : Nat) : Int) = (d : Int) + 1 by omega] at hC1
  simp only [List.length_cons, List.length_nil, Nat.zero_add, Nat.reduceAdd] at hC0 hC2
  have HP1 := Lib.hid (h.below hb1)
  have HB1 := Lib.hid (And.intro hB1 (KeepT.of_below hb1))
  have Hc1 := Lib.hid hc1
  have hz : B ≤ w1.heap.size := by omega
  have d5 : w1.drew.cell? ⟨w.heap.size, 5, none⟩ = some (.slice K kids.length c) := Lib.cell_of_heap hc1 5
  have HBd := Lib.hid (show Below w1.heap.size w1 w1.drew from (Below.refl _ _).drew)
  have hwz : w.heap.size < w1.heap.size := by omega
  have hdi : (d : Int) ≤ 1099511627776 := by omega
  clear hKd hp ht0 ht1 ht2 hk0 hk1 h hK hBd hE hg HB HEl hbl hel hlen hb1 hz1 hc1 hB1 hd1
  go_enter Tryz.func49, Tryz.ntmps49
  go_upto_region 1 with fail
  rw [← hw1]
  clear hw1
  go_region_held3 (fun w' => w'.cell? ⟨w.heap.size, 5, none⟩ = some (.slice K kids.length c)) (first | with_reducible exact d5 | with_reducible exact d5w2 | with_reducible exact d5w3) (first
    | (go_at_call 65; (with_reducible refine (hK0 _ HBd.out).mono ?_); rintro e w2 ⟨rfl, hb⟩; have HA := Lib.hid (HBd.out.trans (hb.mono HBd.out.size)); have d5w2 : w2.cell? ⟨w.heap.size, 5, none⟩ = some (.slice K kids.length c) := (HA.out.cell (p := ⟨w.heap.size, 5, none⟩) hwz).trans (Lib.cell_of_heap Hc1.out 5); clear hb HBd hK0)
    | (go_at_call 65; (with_reducible refine (hK1 _ HBd.out).mono ?_); rintro e w2 ⟨rfl, hb⟩; have HA := Lib.hid (HBd.out.trans (hb.mono HBd.out.size)); have d5w2 : w2.cell? ⟨w.heap.size, 5, none⟩ = some (.slice K kids.length c) := (HA.out.cell (p := ⟨w.heap.size, 5, none⟩) hwz).trans (Lib.cell_of_heap Hc1.out 5); clear hb HBd hK1)
    | (go_at_call 65; (with_reducible refine (hK1 _ HA.out).mono ?_); rintro e w3 ⟨rfl, hb⟩; have HC := Lib.hid (HA.out.trans (hb.mono HA.out.size)); have d5w3 : w3.cell? ⟨w.heap.size, 5, none⟩ = some (.slice K kids.length c) := (HC.out.cell (p := ⟨w.heap.size, 5, none⟩) hwz).trans (Lib.cell_of_heap Hc1.out 5); clear hb HA hK1)
    | (go_at_call 65; (with_reducible refine (hK0 _ HA.out).mono ?_); rintro e w3 ⟨rfl, hb⟩; have HC := Lib.hid (HA.out.trans (hb.mono HA.out.size)); have d5w3 : w3.cell? ⟨w.heap.size, 5, none⟩ = some (.slice K kids.length c) := (HC.out.cell (p := ⟨w.heap.size, 5, none⟩) hwz).trans (Lib.cell_of_heap Hc1.out 5); clear hb HA hK0))
  all_goals
    clear d5 d5w2 d5w3
    have hz3 : B ≤ w3.heap.size := Nat.le_trans hz HC.out.size
    have HP3 := Lib.hid (HP1.out.below HC.out)
    have HB3 := Lib.hid (And.intro (HB1.out.1.trans (HC.out.mono hz)) (HB1.out.2.trans (KeepT.of_below HC.out)))
    have Hc3 := Lib.hid ((HC.out.block w.heap.size hwz).trans Hc1.out)
    clear HP1 HB1 Hc1 HC hz hwz
    obtain ⟨y0, y1, y2, y3, y4, y5, y6, y7, yf⟩ := p_cells8 Hc3.out
    go_upto_region 16 with (go_at_call 22; refine (hC0 w3 HP3.out hz3).mono ?_; rintro e x0 ⟨rfl, hp, hb, hkp⟩; have Hn0 := Lib.hid (hkp _ _ _ _ Hc3.out (by decide) (by decide)); have Hq0 := Lib.hid hp; have Hr0 := Lib.hid (And.intro (HB3.out.1.trans hb) (HB3.out.2.trans hkp)); clear hp hb hkp hC0 y0 y1 y2 y3 y4 y5 y6 y7 yf)
    obtain ⟨y0, y1, y2, y3, y4, y5, y6, y7, yf⟩ := p_cells8 Hn0.out
    have hzx0 : B ≤ x0.heap.size := by have := Hr0.out.1.size; omega
    go_upto_region 17 with (go_at_call 25; refine (hC1 x0 Hq0.out Hr0.out.1).mono ?_; rintro e x1 ⟨rfl, hp, hb, hkp⟩; have Hn1 := Lib.hid (hkp _ _ _ _ Hn0.out (by decide) (by decide)); have Hq1 := Lib.hid hp; have Hr1 := Lib.hid (And.intro (Hr0.out.1.trans hb) (Hr0.out.2.trans hkp)); clear hp hb hkp hC1 y0 y1 y2 y3 y4 y5 y6 y7 yf)
    obtain ⟨y0, y1, y2, y3, y4, y5, y6, y7, yf⟩ := p_cells8 Hn1.out
    have hzx1 : B ≤ x1.heap.size := by have := Hr1.out.1.size; omega
    go_wp2_with (go_at_call 22; refine (hC2 x1 Hq1.out hzx1).mono ?_; rintro e x2 ⟨rfl, hp, hb, hkp⟩; have Hn2 := Lib.hid (hkp _ _ _ _ Hn1.out (by decide) (by decide)); have Hq2 := Lib.hid hp; have Hr2 := Lib.hid (And.intro (Hr1.out.1.trans hb) (Hr1.out.2.trans hkp)); clear hp hb hkp hC2 y0 y1 y2 y3 y4 y5 y6 y7 yf)
    first | go_end0 | refine bodyPost_ret (results_none rfl _ _ _) rfl ?_
    refine ⟨rfl, ?_, Hr2.out.1, Hr2.out.2⟩
    simp only [← List.append_assoc]
    exact Hq2.out
end Go.Proofs.YtiadbeglhnocoaaGreatDoor
namespace Go.Proofs.YtiadbeglhnocoaaGreatDoor
set_option linter.unusedVariables false
set_option linter.unusedSimpArgs false
open Go.RowKit

set_option maxRecDepth 100000 in
set_option maxHeartbeats 8000000 in
theorem stmt_6 (B b : Nat) (l : List UInt8) (d : Nat) (K : Option Addr) (c : Nat) (a n : Int) (z : ByteArray) (p : Int) (kids : List Ex) (Bd : Option Addr) (bc : Nat) (body : List St) (E : Option Addr) (ec : Nat) (els : List St) (w : World) (h : IsPr B b (Lib.byteCells l) w) (hK : RdEs w (· < B) K 0 kids) (hBd : RdSs w (· < B) Bd 0 body) (hE : RdSs w (· < B) E 0 els)
    (hg : goodK kids) (HB : ∀ s ∈ body, StPr s) (HEl : ∀ s ∈ els, StPr s) (hbl : body.length ≤ 1099511627776) (hel : els.length ≤ 1099511627776)
    (hlen : l.length + (prS d (.mk 6 a n z p kids body els)).length ≤ 1099511627776) (hBw : B ≤ w.heap.size) :
    Calls Tryz.prog 49 #[.pointer (some ⟨b, 0, none⟩), .agg #[.int .i64 6, .int .i64 a, .int .i64 n, .string z, .int .i64 p, .slice K kids.length c, .slice Bd body.length bc, .slice E els.length ec], .int .i64 d] w (PrS B b (l ++ prS d (.mk 6 a n z p kids body els)) w) := by
  obtain ⟨k0, hk0⟩ : ∃ k0, k0 = kidP kids 0 := ⟨_, rfl⟩
  obtain ⟨k1, hk1⟩ : ∃ k1, k1 = kidP kids 1 := ⟨_, rfl⟩
  have hp : prS d (.mk 6 a n z p kids body els) = lnP d [[102, 111, 114, 32], z.data.toList, [32, 61, 32], k0, [32, 116, 111, 32], k1, stepB p, [32, 123]] ++ prSs (d + 1) body ++ lnP d [[125]] := by simp [prS, hk0, hk1]
  rw [hp] at hlen ⊢
  simp only [List.length_append] at hlen
  obtain ⟨w1, hw1, hb1, hz1, hc1⟩ := t_one_al w #[.int .i64 6, .int .i64 a, .int .i64 n, .string z, .int .i64 p, .slice K kids.length c, .slice Bd body.length bc, .slice E els.length ec] 77
  have hB1 : Below B w w1 := hb1.mono hBw
  have hKd := fun i w' (hi : i ≤ 1) (hb : Below w1.heap.size w1 w') => kid_any kids i K c w' hg.1 (RdEs.more (fun q hq => by have := hb.size; have : q < B := hq; omega) _ _ _ (RdEs.keep (w' := w') (fun q hq => (hB1.trans (hb.mono (by omega))).cell hq) _ _ _ hK)) hg.2.1 (by omega) (by rcases Nat.le_one_iff_eq_zero_or_eq_one.mp hi with rfl | rfl; exact hg.2.2.2.1; exact hg.2.2.2.2) hg.2.2.1
  have hK0 : ∀ w', Below w1.heap.size w1 w' → Calls Tryz.prog 65 #[.slice K kids.length c, .int .i64 0] w' (fun e w2 => e = .returned (.string ⟨k0.toArray⟩) ∧ Below w'.heap.size w' w2) := fun w' hb => by
    have := hKd 0 w' (by omega) hb
    unfold KidP at this
    rw [← hk0] at this
    exact this
  have hK1 : ∀ w', Below w1.heap.size w1 w' → Calls Tryz.prog 65 #[.slice K kids.length c, .int .i64 1] w' (fun e w2 => e = .returned (.string ⟨k1.toArray⟩) ∧ Below w'.heap.size w' w2) := fun w' hb => by
    have := hKd 1 w' (by omega) hb
    unfold KidP at this
    rw [← hk1] at this
    exact this
  have hC0 := fun w2 (hp : IsPr B b (Lib.byteCells (l)) w2) (hz : B ≤ w2.heap.size) => line1 B b (l) d [[102, 111, 114, 32], z.data.toList, [32, 61, 32], k0, [32, 116, 111, 32], k1, stepB p, [32, 123]] #[.string ⟨#[102, 111, 114, 32]⟩, .string z, .string ⟨#[32, 61, 32]⟩, .string ⟨k0.toArray⟩, .string ⟨#[32, 116, 111, 32]⟩, .string ⟨k1.toArray⟩, .string ⟨(stepB p).toArray⟩, .string ⟨#[32, 123]⟩] w2 rfl hp (by simp) (by omega) hz
  have hd1 : d + 1 ≤ 1099511627776 := by have := lnP_len d [[102, 111, 114, 32], z.data.toList, [32, 61, 32], k0, [32, 116, 111, 32], k1, stepB p, [32, 123]]; omega
  have hC1 := fun w2 (hp : IsPr B b (Lib.byteCells (l ++ lnP d [[102, 111, 114, 32], z.data.toList, [32, 61, 32], k0, [32, 116, 111, 32], k1, stepB p, [32, 123]])) w2) (hb : Below B w w2) => block_any2 B b (l ++ lnP d [[102, 111, 114, 32], z.data.toList, [32, 61, 32], k0, [32, 116, 111, 32], k1, stepB p, [32, 123]]) (d + 1) Bd body bc w2 hp (RdSs.keep (w' := w2) (fun q hq => hb.cell hq) _ _ _ hBd) HB hbl (by simp only [List.length_append]; omega) (Nat.le_trans hBw hb.size) hd1
  have hC2 := fun w2 (hp : IsPr B b (Lib.byteCells (l ++ lnP d [[102, 111, 114, 32], z.data.toList, [32, 61, 32], k0, [32, 116, 111, 32], k1, stepB p, [32, 123]] ++ prSs (d + 1) body)) w2) (hz : B ≤ w2.heap.size) => line1 B b (l ++ lnP d [[102, 111, 114, 32], z.data.toList, [32, 61, 32], k0, [32, 116, 111, 32], k1, stepB p, [32, 123]] ++ prSs (d + 1) body) d [[125]] #[.string ⟨#[125]⟩] w2 rfl hp (by simp) (by simp only [List.length_append]; omega) hz
  obtain ⟨t0, ht0⟩ : ∃ t0, t0 = lnP d [[102, 111, 114, 32], z.data.toList, [32, 61, 32], k0, [32, 116, 111, 32], k1, stepB p, [32, 123]] := ⟨_, rfl⟩
  rw [← ht0] at hC0 hC1 hC2 ⊢
  obtain ⟨t1, ht1⟩ : ∃ t1, t1 = prSs (d + 1) body := ⟨_, rfl⟩
  rw [← ht1] at hC1 hC2 ⊢
  obtain ⟨t2, ht2⟩ : ∃ t2, t2 = lnP d [[125]] := ⟨_, rfl⟩
  rw [← ht2] at hC2 ⊢
  rw [show ((d + 1 : Nat) : Int) = (d : Int) + 1 by omega] at hC1
  simp only [List.length_cons, List.length_nil, Nat.zero_add, Nat.reduceAdd] at hC0 hC2
  have HP1 := Lib.hid (h.below hb1)
  have HB1 := Lib.hid (And.intro hB1 (KeepT.of_below hb1))
  have Hc1 := Lib.hid hc1
  have hz : B ≤ w1.heap.size := by omega
  have d5 : w1.drew.cell? ⟨w.heap.size, 5, none⟩ = some (.slice K kids.length c) := Lib.cell_of_heap hc1 5
  have HBd := Lib.hid (show Below w1.heap.size w1 w1.drew from (Below.refl _ _).drew)
  have hwz : w.heap.size < w1.heap.size := by omega
  have hdi : (d : Int) ≤ 1099511627776 := by omega
  have hSt := fun w' => pstep_any p w'
  clear hKd hp ht0 ht1 ht2 hk0 hk1 h hK hBd hE hg HB HEl hbl hel hlen hb1 hz1 hc1 hB1 hd1
  go_enter Tryz.func49, Tryz.ntmps49
  go_upto_region 1 with fail
  rw [← hw1]
  clear hw1
  go_region_held3 (fun w' => w'.cell? ⟨w.heap.size, 5, none⟩ = some (.slice K kids.length c)) (first | with_reducible exact d5 | with_reducible exact d5w2 | with_reducible exact d5w3) (first
    | (go_at_call 65; (with_reducible refine (hK0 _ HBd.out).mono ?_); rintro e w2 ⟨rfl, hb⟩; have HA := Lib.hid (HBd.out.trans (hb.mono HBd.out.size)); have d5w2 : w2.cell? ⟨w.heap.size, 5, none⟩ = some (.slice K kids.length c) := (HA.out.cell (p := ⟨w.heap.size, 5, none⟩) hwz).trans (Lib.cell_of_heap Hc1.out 5); clear hb HBd hK0)
    | (go_at_call 65; (with_reducible refine (hK1 _ HBd.out).mono ?_); rintro e w2 ⟨rfl, hb⟩; have HA := Lib.hid (HBd.out.trans (hb.mono HBd.out.size)); have d5w2 : w2.cell? ⟨w.heap.size, 5, none⟩ = some (.slice K kids.length c) := (HA.out.cell (p := ⟨w.heap.size, 5, none⟩) hwz).trans (Lib.cell_of_heap Hc1.out 5); clear hb HBd hK1)
    | (go_at_call 65; (with_reducible refine (hK1 _ HA.out).mono ?_); rintro e w3 ⟨rfl, hb⟩; have HC := Lib.hid (HA.out.trans (hb.mono HA.out.size)); have d5w3 : w3.cell? ⟨w.heap.size, 5, none⟩ = some (.slice K kids.length c) := (HC.out.cell (p := ⟨w.heap.size, 5, none⟩) hwz).trans (Lib.cell_of_heap Hc1.out 5); clear hb HA hK1)
    | (go_at_call 65; (with_reducible refine (hK0 _ HA.out).mono ?_); rintro e w3 ⟨rfl, hb⟩; have HC := Lib.hid (HA.out.trans (hb.mono HA.out.size)); have d5w3 : w3.cell? ⟨w.heap.size, 5, none⟩ = some (.slice K kids.length c) := (HC.out.cell (p := ⟨w.heap.size, 5, none⟩) hwz).trans (Lib.cell_of_heap Hc1.out 5); clear hb HA hK0))
  all_goals
    clear d5 d5w2 d5w3
    have hz3 : B ≤ w3.heap.size := Nat.le_trans hz HC.out.size
    have HP3 := Lib.hid (HP1.out.below HC.out)
    have HB3 := Lib.hid (And.intro (HB1.out.1.trans (HC.out.mono hz)) (HB1.out.2.trans (KeepT.of_below HC.out)))
    have Hc3 := Lib.hid ((HC.out.block w.heap.size hwz).trans Hc1.out)
    clear HP1 HB1 Hc1 HC hz hwz
    obtain ⟨y0, y1, y2, y3, y4, y5, y6, y7, yf⟩ := p_cells8 Hc3.out
    have hCs := fun w2 (hb : Below w3.heap.size w3 w2) => hC0 w2 (HP3.out.below hb) (Nat.le_trans hz3 hb.size)
    go_upto_region 19 with fail
    have dd : w3.drew.cell? ⟨w.heap.size, 3, none⟩ = some (.string z) ∧ w3.drew.cell? ⟨w.heap.size, 4, none⟩ = some (.int .i64 p) := ⟨y3, y4⟩
    go_region_held3 (fun w' => w'.cell? ⟨w.heap.size, 3, none⟩ = some (.string z) ∧ w'.cell? ⟨w.heap.size, 4, none⟩ = some (.int .i64 p)) (first | with_reducible exact dd | with_reducible exact dd2 | with_reducible exact dd3 | with_reducible exact dd4) (first
      | (go_at_call 67; (refine (hSt _).mono ?_); rintro e v2 ⟨rfl, hb⟩; have hb2 : Below w3.heap.size w3 v2 := ((Below.refl _ _).drew).trans hb; have hv2 := (hb2.block w.heap.size (by have := heap_ltp Hc3.out; omega)).trans Hc3.out; have dd2 : v2.cell? ⟨w.heap.size, 3, none⟩ = some (.string z) ∧ v2.cell? ⟨w.heap.size, 4, none⟩ = some (.int .i64 p) := And.intro (Lib.cell_of_heap hv2 3) (Lib.cell_of_heap hv2 4); have hCt := hCs v2 hb2; obtain ⟨v3, hv3, hbv3, _, _⟩ := t_one_al v2 #[.string ⟨#[102, 111, 114, 32]⟩, .string z, .string ⟨#[32, 61, 32]⟩, .string ⟨k0.toArray⟩, .string ⟨#[32, 116, 111, 32]⟩, .string ⟨k1.toArray⟩, .string ⟨(stepB p).toArray⟩, .string ⟨#[32, 123]⟩] 9; have hv3c := (hbv3.block w.heap.size (heap_ltp hv2)).trans hv2; have dd3 : v3.cell? ⟨w.heap.size, 3, none⟩ = some (.string z) ∧ v3.cell? ⟨w.heap.size, 4, none⟩ = some (.int .i64 p) := And.intro (Lib.cell_of_heap hv3c 3) (Lib.cell_of_heap hv3c 4); rw [hv3] at dd3; have Hv2 := Lib.hid hv2; have HBv := Lib.hid (And.intro (HB3.out.1.trans (hb2.mono hz3)) (HB3.out.2.trans (KeepT.of_below hb2))); clear hb hb2 hv2 hSt hCs hv3 hbv3 hv3c)
      | (go_at_call 22; refine hCt.mono ?_; rintro e x0 ⟨rfl, hp, hb, hkp⟩; have Hn0 := Lib.hid (hkp _ _ _ _ Hv2.out (by decide) (by decide)); have dd4 : x0.cell? ⟨w.heap.size, 3, none⟩ = some (.string z) ∧ x0.cell? ⟨w.heap.size, 4, none⟩ = some (.int .i64 p) := And.intro (Lib.cell_of_heap Hn0.out 3) (Lib.cell_of_heap Hn0.out 4); have Hq0 := Lib.hid hp; have Hr0 := Lib.hid (And.intro (HBv.out.1.trans hb) (HBv.out.2.trans hkp)); clear hp hb hkp hCt))
    clear dd dd2 dd3 dd4 y0 y1 y2 y3 y4 y5 y6 y7 yf
    obtain ⟨y0, y1, y2, y3, y4, y5, y6, y7, yf⟩ := p_cells8 Hn0.out
    have hzx0 : B ≤ x0.heap.size := by have := Hr0.out.1.size; omega
    go_upto_region 21 with (go_at_call 25; refine (hC1 x0 Hq0.out Hr0.out.1).mono ?_; rintro e x1 ⟨rfl, hp, hb, hkp⟩; have Hn1 := Lib.hid (hkp _ _ _ _ Hn0.out (by decide) (by decide)); have Hq1 := Lib.hid hp; have Hr1 := Lib.hid (And.intro (Hr0.out.1.trans hb) (Hr0.out.2.trans hkp)); clear hp hb hkp hC1 y0 y1 y2 y3 y4 y5 y6 y7 yf)
    obtain ⟨y0, y1, y2, y3, y4, y5, y6, y7, yf⟩ := p_cells8 Hn1.out
    have hzx1 : B ≤ x1.heap.size := by have := Hr1.out.1.size; omega
    go_wp2_with (go_at_call 22; refine (hC2 x1 Hq1.out hzx1).mono ?_; rintro e x2 ⟨rfl, hp, hb, hkp⟩; have Hn2 := Lib.hid (hkp _ _ _ _ Hn1.out (by decide) (by decide)); have Hq2 := Lib.hid hp; have Hr2 := Lib.hid (And.intro (Hr1.out.1.trans hb) (Hr1.out.2.trans hkp)); clear hp hb hkp hC2 y0 y1 y2 y3 y4 y5 y6 y7 yf)
    first | go_end0 | refine bodyPost_ret (results_none rfl _ _ _) rfl ?_
    refine ⟨rfl, ?_, Hr2.out.1, Hr2.out.2⟩
    simp only [← List.append_assoc]
    exact Hq2.out
end Go.Proofs.YtiadbeglhnocoaaGreatDoor
namespace Go.Proofs.YtiadbeglhnocoaaGreatDoor
set_option linter.unusedVariables false
set_option linter.unusedSimpArgs false
open Go.RowKit

mutual
/-- A statement that can be printed. -/
def goodS : St → Prop
  | .mk k _ _ _ _ kids body els => (1 ≤ k ∧ k ≤ 11) ∧ goodK kids ∧ body.length ≤ 1099511627776 ∧ els.length ≤ 1099511627776 ∧ goodSs body ∧ goodSs els
def goodSs : List St → Prop
  | [] => True
  | s :: r => goodS s ∧ goodSs r
end
theorem stPr_of (k a n : Int) (z : ByteArray) (p : Int) (kids : List Ex) (body els : List St) (hk : 1 ≤ k ∧ k ≤ 11) (hg : goodK kids) (hbl : body.length ≤ 1099511627776) (hel : els.length ≤ 1099511627776) (HB : ∀ s ∈ body, StPr s) (HE : ∀ s ∈ els, StPr s) : StPr (.mk k a n z p kids body els) := by
  intro B b l d K c k' a' n' z' p' kids' Bd bc body' E ec els' he w h hK hBd hE hlen hBw hd
  obtain ⟨rfl, rfl, rfl, rfl, rfl, rfl, rfl, rfl⟩ := St.mk.inj he
  have hc : k = 1 ∨ k = 2 ∨ k = 3 ∨ k = 4 ∨ k = 5 ∨ k = 6 ∨ k = 7 ∨ k = 8 ∨ k = 9 ∨ k = 10 ∨ k = 11 := by omega
  rcases hc with rfl | rfl | rfl | rfl | rfl | rfl | rfl | rfl | rfl | rfl | rfl
  · exact stmt_1 B b l d K c a n z p kids Bd bc body E ec els w h hK hBd hE hg HB HE hbl hel hlen hBw
  · exact stmt_2 B b l d K c a n z p kids Bd bc body E ec els w h hK hBd hE hg HB HE hbl hel hlen hBw
  · exact stmt_3 B b l d K c a n z p kids Bd bc body E ec els w h hK hBd hE hg HB HE hbl hel hlen hBw
  · exact stmt_4 B b l d K c a n z p kids Bd bc body E ec els w h hK hBd hE hg HB HE hbl hel hlen hBw
  · exact stmt_5 B b l d K c a n z p kids Bd bc body E ec els w h hK hBd hE hg HB HE hbl hel hlen hBw
  · exact stmt_6 B b l d K c a n z p kids Bd bc body E ec els w h hK hBd hE hg HB HE hbl hel hlen hBw
  · exact stmt_7 B b l d K c a n z p kids Bd bc body E ec els w h hK hBd hE hg HB HE hbl hel hlen hBw
  · exact stmt_8 B b l d K c a n z p kids Bd bc body E ec els w h hK hBd hE hg HB HE hbl hel hlen hBw
  · exact stmt_9 B b l d K c a n z p kids Bd bc body E ec els w h hK hBd hE hg HB HE hbl hel hlen hBw
  · exact stmt_10 B b l d K c a n z p kids Bd bc body E ec els w h hK hBd hE hg HB HE hbl hel hlen hBw
  · exact stmt_11 B b l d K c a n z p kids Bd bc body E ec els w h hK hBd hE hg HB HE hbl hel hlen hBw
mutual
theorem stPr_all : ∀ s : St, goodS s → StPr s
  | .mk k a n z p kids body els, h => by
    unfold goodS at h
    exact stPr_of k a n z p kids body els h.1 h.2.1 h.2.2.1 h.2.2.2.1 (stPrs_all body h.2.2.2.2.1) (stPrs_all els h.2.2.2.2.2)
theorem stPrs_all : ∀ l : List St, goodSs l → ∀ s ∈ l, StPr s
  | [], _ => fun s hs => by simp at hs
  | x :: r, h => fun s hs => by
    unfold goodSs at h
    rcases List.mem_cons.mp hs with hs | hs
    · rw [hs]
      exact stPr_all x h.1
    · exact stPrs_all r h.2 s hs
end
/-- Statements that can be printed, said. -/
theorem block_all (B b : Nat) (l : List UInt8) (d : Nat) (A : Option Addr) (ss : List St) (x : Nat) (w : World) (h : IsPr B b (Lib.byteCells l) w) (hR : RdSs w (· < B) A 0 ss) (hg : goodSs ss) (hn : ss.length ≤ 1099511627776) (hlen : l.length + (prSs d ss).length ≤ 1099511627776) (hBw : B ≤ w.heap.size) (hd : d ≤ 1099511627776) :
    Calls Tryz.prog 25 #[.pointer (some ⟨b, 0, none⟩), .slice A ss.length x, .int .i64 d] w (PrS B b (l ++ prSs d ss) w) :=
  block_any2 B b l d A ss x w h hR (stPrs_all ss hg) hn hlen hBw hd
end Go.Proofs.YtiadbeglhnocoaaGreatDoor
