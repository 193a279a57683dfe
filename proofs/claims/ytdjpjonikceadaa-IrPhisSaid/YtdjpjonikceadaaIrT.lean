/-
  An instruction is put behind all of a block; how many of OpPhi there are; how often a number stands in a list.
-/
import Derived.Test.YtdjpjonikceadaaIrS
namespace Go.Proofs.Ytdjpjonikceadaa
open Go.RowKit
set_option linter.unusedVariables false
set_option linter.unusedSimpArgs false

set_option maxRecDepth 100000 in
set_option maxHeartbeats 8000000 in
theorem add_first (kl : Nat) (hkl : 3 < kl) (E base N n g c a ca : Nat) (l : List Int) (V : Option Addr) (C : Nat) (VI : Option Addr) (CI : Nat) (bs : List Value) (F : Nat → Rw) (w : World) (hE : EdC w E (.slice VI 0 CI) (.slice (some ⟨g, 0, none⟩) N c)) (hF : Fam w base E F) (h0 : F 0 = ⟨46, 5, .slice (some ⟨g, 0, none⟩) N c, N, bs⟩) (h1 : F 1 = ⟨38, 5, .slice VI 0 CI, 0, []⟩) (h2 : F 2 = ⟨3, 1, .slice none 0 0, 0, []⟩) (h3 : F 3 = ⟨3, 1, .slice (some ⟨a, 0, none⟩) l.length ca, l.length, l.map (fun x => Value.int .i64 x)⟩) (hL : F kl = ⟨3, 1, .slice V 0 C, 0, []⟩)
    (hn : n < N) (hP : bs[n * 5]? = some (.slice V 0 C)) (hb : base ≤ w.heap.size) (hl : 0 < l.length) (hm : l.length ≤ 1000) :
    Calls Try.prog 12 #[.pointer (some ⟨E, 0, none⟩), .int .i64 n, .agg #[.int .i64 3, .int .i64 0, .slice (some ⟨a, 0, none⟩) l.length ca, .int .i64 0, .int .i64 0]] w fun e w' => e = .returned (.int .i64 0) ∧ Bd E base w w' ∧ ∃ qa da gi ci gl cl, EdC w' E (.slice (some ⟨gi, 0, none⟩) 1 ci) (.slice (some ⟨g, 0, none⟩) N c) ∧ Fam w' base E (upR (upR (upR (upR F 2 ⟨3, 1, .slice (some ⟨qa, 0, none⟩) l.length da, l.length, l.map (fun x => Value.int .i64 x)⟩) 1 ⟨38, 5, .slice (some ⟨gi, 0, none⟩) 1 ci, 1, [.int .i64 3, .int .i64 0, .slice (some ⟨qa, 0, none⟩) l.length da, .int .i64 0, .int .i64 0]⟩) kl ⟨3, 1, .slice (some ⟨gl, 0, none⟩) 1 cl, 1, [.int .i64 0]⟩) 0 ⟨46, 5, .slice (some ⟨g, 0, none⟩) N c, N, bs.set (n * 5) (.slice (some ⟨gl, 0, none⟩) 1 cl)⟩) := by
  obtain ⟨W, hW, hbW, hzW, hX⟩ := r_one_al w #[.int .i64 3, .int .i64 0, .slice (some ⟨a, 0, none⟩) l.length ca, .int .i64 0, .int .i64 0] 38
  have hEW : EdC W E (.slice VI 0 CI) (.slice (some ⟨g, 0, none⟩) N c) := (hbW.block E hF.el).trans hE
  have hFW := hF.keep hbW
  have hBo : W.ownsRow base 46 5 (.slice (some ⟨g, 0, none⟩) N c) N bs := hFW.at h0
  have hB := block_ptr E n N g c _ W hEW hn
  have hlen : bs.length = N * 5 := hBo.1
  have p0 : W.drew.cell? ⟨g, n * 5, none⟩ = some (.slice V 0 C) := (hBo.cellAt (n * 5) (by omega)).trans hP
  have hI := insert_first kl hkl E base N n g c a ca l V C VI CI bs F W.drew hEW (hFW.keep (w' := W.drew) ((Below.refl _ _).drew)) h0 h1 h2 h3 hL hn hP (by show base ≤ W.heap.size; omega) hl hm
  have gd : W.drew.cell? ⟨g, n * 5, none⟩ = some (.slice V 0 C) ∧ W.drew.cell? ⟨w.heap.size, 0, none⟩ = some (.int .i64 3) ∧ W.drew.cell? ⟨w.heap.size, 1, none⟩ = some (.int .i64 0) ∧ W.drew.cell? ⟨w.heap.size, 2, none⟩ = some (.slice (some ⟨a, 0, none⟩) l.length ca) ∧ W.drew.cell? ⟨w.heap.size, 3, none⟩ = some (.int .i64 0) ∧ W.drew.cell? ⟨w.heap.size, 4, none⟩ = some (.int .i64 0) := ⟨p0, Lib.cell_of_heap hX 0, Lib.cell_of_heap hX 1, Lib.cell_of_heap hX 2, Lib.cell_of_heap hX 3, Lib.cell_of_heap hX 4⟩
  have HW := Lib.hid hW
  have HbW := Lib.hid hbW
  have HzW := Lib.hid hzW
  have Hd : Hid (Bd E base w W.drew) := Lib.hid ((Bd.of_below hbW hb).trans (Bd.of_below (w' := W.drew) ((Below.refl _ _).drew) (by omega)))
  clear hE hF h0 h1 h2 h3 hL hW hbW hzW hX hEW hFW hBo hlen hP p0 hl hm
  go_enter Try.func12, Try.ntmps12
  go_upto_region 1 with fail
  rw [← HW.out]
  go_upto_region 4 with (go_at_call 22; refine hB.mono ?_; rintro e w1 ⟨rfl, rfl⟩)
  obtain ⟨gg, gx0, gx1, gx2, gx3, gx4⟩ := gd
  refine wp_region_noPanic ?_
  refine wp_region_held_drew (S := fun _ => True) (by kernel_rfl) trivial (fun hHeld => ?_)
  refine wpAnyH_take (i := 0) (v := ?_) rfl (by kernel_rfl) (by kernel_rfl) (by kernel_rfl) (fun _ _ _ h => h) (Or.inl ⟨by rfl, ?_⟩) (by assumption) ?_
  rotate_left
  · (intro w hSw; (try dsimp only at hSw); first | (go_simp; done) | (go_simp; with_reducible rfl))
  try simp only [Act.put, List.setIfInBounds_toArray, List.set_cons_zero, List.set_cons_succ]
  refine wpAnyH_take (i := 1) (v := ?_) rfl (by kernel_rfl) (by kernel_rfl) (by kernel_rfl) (fun _ _ _ h => h) (Or.inl ⟨by rfl, ?_⟩) (by assumption) ?_
  rotate_left
  · (intro w hSw; (try dsimp only at hSw); first | (go_simp; done) | (go_simp; with_reducible rfl))
  try simp only [Act.put, List.setIfInBounds_toArray, List.set_cons_zero, List.set_cons_succ]
  refine wpAnyH_take (i := 2) (v := ?_) rfl (by kernel_rfl) (by kernel_rfl) (by kernel_rfl) (fun _ _ _ h => h) (Or.inl ⟨by rfl, ?_⟩) (by assumption) ?_
  rotate_left
  · (intro w hSw; (try dsimp only at hSw); first | (go_simp; done) | (go_simp; with_reducible rfl))
  try simp only [Act.put, List.setIfInBounds_toArray, List.set_cons_zero, List.set_cons_succ]
  refine wpAnyH_take (i := 3) (v := ?_) rfl (by kernel_rfl) (by kernel_rfl) (by kernel_rfl) (fun _ _ _ h => h) (Or.inl ⟨by rfl, ?_⟩) (by assumption) ?_
  rotate_left
  · (intro w hSw; (try dsimp only at hSw); first | (go_simp; done) | (go_simp; with_reducible rfl))
  try simp only [Act.put, List.setIfInBounds_toArray, List.set_cons_zero, List.set_cons_succ]
  refine wpAnyH_take (i := 4) (v := ?_) rfl (by kernel_rfl) (by kernel_rfl) (by kernel_rfl) (fun _ _ _ h => h) (Or.inl ⟨by rfl, ?_⟩) (by assumption) ?_
  rotate_left
  · (intro w hSw; (try dsimp only at hSw); first | (go_simp; done) | (go_simp; with_reducible rfl))
  try simp only [Act.put, List.setIfInBounds_toArray, List.set_cons_zero, List.set_cons_succ]
  refine wpAnyH_ready (rs := [5, 7]) (by kernel_rfl) (by simp) ?_
  refine AllReadyH.cons rfl (fun K hK => ?_) (AllReadyH.cons rfl (fun K hK => ?_) (AllReadyH.nil))
  · go_simp
    refine hK.out _ _ ?_ (fun hHeld => ?_)
    · ((try dsimp only); all_goals trivial)
    clear hK K
    try simp only [Act.put, List.setIfInBounds_toArray, List.set_cons_zero, List.set_cons_succ]
    refine wpAnyH_take (i := 6) (v := ?_) rfl (by kernel_rfl) (by kernel_rfl) (by kernel_rfl) (fun _ _ _ h => h) (Or.inl ⟨by rfl, ?_⟩) (by assumption) ?_
    rotate_left
    · (intro w hSw; (try dsimp only at hSw); first | (go_simp; done) | (go_simp; with_reducible rfl))
    try simp only [Act.put, List.setIfInBounds_toArray, List.set_cons_zero, List.set_cons_succ]
    refine wpAnyH_ready (rs := [7]) (by kernel_rfl) (by simp) ?_
    refine AllReadyH.cons rfl (fun K hK => ?_) (AllReadyH.nil)
    go_simp
    refine hK.out _ _ ?_ (fun hHeld => ?_)
    · ((try dsimp only); all_goals trivial)
    clear hK K
    try simp only [Act.put, List.setIfInBounds_toArray, List.set_cons_zero, List.set_cons_succ]
    refine wpAnyH_ready (rs := [8]) (by kernel_rfl) (by simp) ?_
    refine AllReadyH.cons rfl (fun K hK => ?_) (AllReadyH.nil)
    go_simp
    refine hI.mono ?_
    rintro e w2 ⟨rfl, hd2, qa, da, gi, ci, gl, cl, hE2, hF2⟩
    have HD2 := Lib.hid (Hd.out.trans hd2)
    have HE2 := Lib.hid hE2
    have HF2 := Lib.hid hF2
    clear hd2 hE2 hF2 hI
    refine hK.out _ _ ?_ (fun hHeld => ?_)
    · ((try dsimp only); all_goals trivial)
    clear hK K
    try simp only [Act.put, List.setIfInBounds_toArray, List.set_cons_zero, List.set_cons_succ]
    refine wpAnyH_take (i := 9) (v := ?_) rfl (by kernel_rfl) (by kernel_rfl) (by kernel_rfl) (fun _ _ _ h => h) (Or.inl ⟨by rfl, ?_⟩) (by assumption) ?_
    rotate_left
    · (intro w hSw; (try dsimp only at hSw); first | (go_simp; done) | (go_simp; with_reducible rfl))
    try simp only [Act.put, List.setIfInBounds_toArray, List.set_cons_zero, List.set_cons_succ]
    refine wpAnyH_done (by kernel_rfl) ?_ _
    refine NoPanic.normal ?_
    go_simp
    go_wp2
    go_ret
    exact ⟨by first | rfl | simp [Act.put], HD2.out, qa, da, gi, ci, gl, cl, HE2.out, HF2.out⟩
  · go_simp
    refine hK.out _ _ ?_ (fun hHeld => ?_)
    · ((try dsimp only); all_goals trivial)
    clear hK K
    try simp only [Act.put, List.setIfInBounds_toArray, List.set_cons_zero, List.set_cons_succ]
    refine wpAnyH_ready (rs := [5]) (by kernel_rfl) (by simp) ?_
    refine AllReadyH.cons rfl (fun K hK => ?_) (AllReadyH.nil)
    go_simp
    refine hK.out _ _ ?_ (fun hHeld => ?_)
    · ((try dsimp only); all_goals trivial)
    clear hK K
    try simp only [Act.put, List.setIfInBounds_toArray, List.set_cons_zero, List.set_cons_succ]
    refine wpAnyH_take (i := 6) (v := ?_) rfl (by kernel_rfl) (by kernel_rfl) (by kernel_rfl) (fun _ _ _ h => h) (Or.inl ⟨by rfl, ?_⟩) (by assumption) ?_
    rotate_left
    · (intro w hSw; (try dsimp only at hSw); first | (go_simp; done) | (go_simp; with_reducible rfl))
    try simp only [Act.put, List.setIfInBounds_toArray, List.set_cons_zero, List.set_cons_succ]
    refine wpAnyH_ready (rs := [8]) (by kernel_rfl) (by simp) ?_
    refine AllReadyH.cons rfl (fun K hK => ?_) (AllReadyH.nil)
    go_simp
    refine hI.mono ?_
    rintro e w2 ⟨rfl, hd2, qa, da, gi, ci, gl, cl, hE2, hF2⟩
    have HD2 := Lib.hid (Hd.out.trans hd2)
    have HE2 := Lib.hid hE2
    have HF2 := Lib.hid hF2
    clear hd2 hE2 hF2 hI
    refine hK.out _ _ ?_ (fun hHeld => ?_)
    · ((try dsimp only); all_goals trivial)
    clear hK K
    try simp only [Act.put, List.setIfInBounds_toArray, List.set_cons_zero, List.set_cons_succ]
    refine wpAnyH_take (i := 9) (v := ?_) rfl (by kernel_rfl) (by kernel_rfl) (by kernel_rfl) (fun _ _ _ h => h) (Or.inl ⟨by rfl, ?_⟩) (by assumption) ?_
    rotate_left
    · (intro w hSw; (try dsimp only at hSw); first | (go_simp; done) | (go_simp; with_reducible rfl))
    try simp only [Act.put, List.setIfInBounds_toArray, List.set_cons_zero, List.set_cons_succ]
    refine wpAnyH_done (by kernel_rfl) ?_ _
    refine NoPanic.normal ?_
    go_simp
    go_wp2
    go_ret
    exact ⟨by first | rfl | simp [Act.put], HD2.out, qa, da, gi, ci, gl, cl, HE2.out, HF2.out⟩

/-- Numbers of a list as they lie. -/
def RI (w : World) (B : Nat) (v : Value) (l : List Int) : Prop := ∃ A c, v = .slice A l.length c ∧ (0 < l.length → ∃ b, A = some ⟨b, 0, none⟩ ∧ b < B ∧ ∀ j x, l[j]? = some x → w.cell? ⟨b, j, none⟩ = some (.int .i64 x))
theorem RI.of_own {w : World} {base : Nat} {v : Value} {l : List Int} (h : w.ownsRow base 3 1 v l.length (l.map (fun x => Value.int .i64 x))) : RI w w.heap.size v l := by
  rcases h.2 with ⟨rfl, h0⟩ | ⟨g, cap, cur, rfl, hb, hg, _⟩
  · exact ⟨none, 0, by rw [h0], fun hp => by omega⟩
  · refine ⟨some ⟨g, 0, none⟩, cap, rfl, fun _ => ⟨g, rfl, heap_in hg, fun j x hx => ?_⟩⟩
    rw [h.cellAt j (by have := (List.getElem?_eq_some_iff.mp hx).1; omega)]
    simp [hx]
theorem RI.keep {w w' : World} {B : Nat} {v : Value} {l : List Int} (h : RI w B v l) (hb : Below B w w') : RI w' B v l := by
  obtain ⟨A, c, hv, hr⟩ := h
  refine ⟨A, c, hv, fun hp => ?_⟩
  obtain ⟨b, hA, hB, hc⟩ := hr hp
  exact ⟨b, hA, hB, fun j x hx => (hb.cell (p := ⟨b, j, none⟩) hB).trans (hc j x hx)⟩

set_option maxRecDepth 100000 in
set_option maxHeartbeats 8000000 in
theorem counts_any (B : Nat) (v : Value) (l : List Int) (x : Int) (w : World) (h : RI w B v l) (hl : l.length ≤ 1000) :
    Calls Try.prog 17 #[v, .int .i64 x] w fun e w' => e = .returned (.int .i64 (l.count x)) ∧ w' = w := by
  obtain ⟨A, c, rfl, hr⟩ := h
  have Hr := Lib.hid hr
  obtain ⟨m, hm⟩ : ∃ m, m = l.length := ⟨_, rfl⟩
  have Hm := Lib.hid hm
  rw [← hm] at hl ⊢
  clear hr hm
  go_enter Try.func17, Try.ntmps17
  go_wp2
  go_loop [5, 6] (fun u5 u6 => ∃ i : Nat, i ≤ m ∧ u6 = .int .i64 i ∧ u5 = .int .i64 ((l.take i).count x)) (fun _ u6 => m - (intOf u6).toNat)
  case atStart => exact ⟨0, Nat.zero_le _, rfl, rfl⟩
  case round =>
    obtain ⟨i, hi, rfl, rfl⟩ := hrel
    by_cases hlt : i < m
    · obtain ⟨b, rfl, hb, hc⟩ := Hr.out (by rw [← Hm.out]; omega)
      have hil : i < l.length := by rw [← Hm.out]; exact hlt
      have hcx := hc i l[i] (List.getElem?_eq_getElem hil)
      have hle : (l.take i).count x ≤ 1000 := Nat.le_trans List.count_le_length (by rw [List.length_take]; omega)
      have hs : (l.take (i + 1)).count x = (l.take i).count x + if l[i] == x then 1 else 0 := by
        rw [List.take_succ_eq_append_getElem hil, List.count_append, List.count_singleton]
      obtain ⟨k, hk⟩ : ∃ k, k = (l.take i).count x := ⟨_, rfl⟩
      rw [← hk] at hle hs ⊢
      obtain ⟨y, hy⟩ : ∃ y, y = l[i] := ⟨_, rfl⟩
      rw [← hy] at hcx hs
      have Hs := Lib.hid hs
      clear hs hk hy hc
      cases hq : (y == x) with
      | true =>
        go_wp2
        go_round
        case rel => exact ⟨i + 1, by omega, by go_num, by rw [Hs.out, hq]; simp; try go_num⟩
        case measure => simp [intOf]; omega
      | false =>
        go_wp2
        go_round
        case rel => exact ⟨i + 1, by omega, by go_num, by rw [Hs.out, hq]; simp⟩
        case measure => simp [intOf]; omega
    · obtain rfl : i = m := by omega
      go_wp2
      go_ret
      have ht : l.take i = l := by rw [Hm.out, List.take_length]
      rw [ht]
      exact ⟨rfl, rfl⟩

end Go.Proofs.Ytdjpjonikceadaa
