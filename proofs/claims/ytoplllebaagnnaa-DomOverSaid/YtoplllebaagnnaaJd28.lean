/-
  Blocks on all ways: what a tree tells: Reached, Up, Over.
  Blocks on all ways: Frontier, where something is in it.
-/
import Derived.Test.YtoplllebaagnnaaJd13
import Derived.Test.YtoplllebaagnnaaJd27
import Derived.BigQuiet
import Derived.StillTailTactics
import Derived.Deep.DeepCutAuto
import Derived.Deep.CutBlock
namespace Go.Proofs.Ytoplllebaagnnaa
set_option linter.unusedVariables false
set_option linter.unusedSimpArgs false
open Go.RowKit Go.Shelf

def reachedT (T : TrP) (b : Int) : Bool := decide (0 ≤ b) && decide (b < (T.place.length : Int)) && (T.place.getD b.toNat 0 != -1)
def upT (T : TrP) (b : Int) : Int := if reachedT T b then T.up.getD b.toNat 0 else -1
def overT (T : TrP) (a b : Int) : Bool := reachedT T a && reachedT T b && decide (T.place.getD a.toNat 0 ≤ T.place.getD b.toNat 0) && decide (T.place.getD b.toNat 0 < T.past.getD a.toNat 0)
theorem reachedT_in {T : TrP} {b : Int} (h : reachedT T b = true) : ∃ k : Nat, b = k ∧ k < T.place.length := by
  unfold reachedT at h
  simp only [Bool.and_eq_true, decide_eq_true_eq] at h
  exact ⟨b.toNat, by omega, by omega⟩
/-- One number of a row of the tree. -/
theorem GNs.get {n0 n c : Nat} {w : World} {A : Option Addr} {l : List Int} (h : GNs n0 w (.slice A n c) l) {j : Nat} (hj : j < l.length) : ∃ b o, A = some ⟨b, o, none⟩ ∧ w.cell? ⟨b, o + j, none⟩ = some (.int .i64 (l.getD j 0)) := by
  obtain ⟨b, o, hA, -, hc⟩ := h.at hj
  exact ⟨b, o, hA, by rw [hc]; simp [List.getD, hj]⟩

theorem reached_nil (b : Int) (w : World) : Calls Try.prog 15 #[.pointer none, .int .i64 b] w fun e w' => e = .returned (.bool false) ∧ w' = w := by
  go_enter Try.func15, Try.ntmps15
  go_wp2
  go_ret
  exact ⟨rfl, rfl⟩
set_option maxRecDepth 100000 in
set_option maxHeartbeats 4000000 in
theorem reached_g (tp n : Nat) (T : TrP) (b : Int) (w : World) (h : TreeAt w tp n T) : Calls Try.prog 15 #[.pointer (some ⟨tp, 0, none⟩), .int .i64 b] w fun e w' => e = .returned (.bool (reachedT T b)) ∧ w' = w := by
  obtain ⟨vo, vu, vd, vp, vq, vt, vs, vst, gk, vk, h1, h2, h3, h4, h5, h6, h7, h8, h9, l1, l2, l3, l4, l5, l6, h10, h11, h12⟩ := h
  obtain ⟨Ap, cp, rfl, -⟩ := id h5
  rw [l3] at h1 h5
  have c4 := Lib.cell_of_heap h1 4
  obtain ⟨v, hv⟩ : ∃ v, v = reachedT T b := ⟨_, rfl⟩
  rw [← hv]
  by_cases hb0 : 0 ≤ b
  · have d0 : decide (b ≥ 0) = true := decide_eq_true hb0
    by_cases hbn : b < n
    · have d1 : decide (b < (n : Int)) = true := decide_eq_true hbn
      obtain ⟨k, rfl⟩ : ∃ k : Nat, b = k := ⟨b.toNat, by omega⟩
      obtain ⟨pb, po, rfl, cc⟩ := h5.get (j := k) (by omega)
      have hve : v = (T.place.getD k 0 != -1) := by rw [hv]; unfold reachedT; simp [hb0, l3]; omega
      obtain ⟨x, hx⟩ : ∃ x, x = T.place.getD k 0 := ⟨_, rfl⟩
      rw [← hx] at cc hve
      have Hve := Lib.hid hve
      clear hve hv hx h1 h2 h3 h4 h5 h6 h7 h8 h9 l1 l2 l3 l4 l5 l6 h10 h11 h12 hb0
      go_enter Try.func15, Try.ntmps15
      go_wp2
      go_ret
      exact ⟨by rw [Hve.out]; rfl, rfl⟩
    · have d1 : decide (b < (n : Int)) = false := decide_eq_false hbn
      have hve : v = false := by rw [hv]; unfold reachedT; rw [l3, d1]; simp
      subst hve
      clear hv h1 h2 h3 h4 h5 h6 h7 h8 h9 l1 l2 l3 l4 l5 l6 h10 h11 h12
      go_enter Try.func15, Try.ntmps15
      go_wp2
      go_ret
      exact ⟨rfl, rfl⟩
  · have d0 : decide (b ≥ 0) = false := decide_eq_false hb0
    have hve : v = false := by
      rw [hv]
      unfold reachedT
      have : decide (0 ≤ b) = false := decide_eq_false hb0
      rw [this]
      simp
    subst hve
    clear hv h1 h2 h3 h4 h5 h6 h7 h8 h9 l1 l2 l3 l4 l5 l6 h10 h11 h12
    go_enter Try.func15, Try.ntmps15
    go_wp2
    go_ret
    exact ⟨rfl, rfl⟩

theorem up_nil (b : Int) (w : World) : Calls Try.prog 14 #[.pointer none, .int .i64 b] w fun e w' => e = .returned (.int .i64 (-1)) ∧ w' = w := by
  have hR := reached_nil b w
  go_enter Try.func14, Try.ntmps14
  go_wp2_with (go_at_call 15; refine hR.mono ?_; rintro e w1 ⟨rfl, rfl⟩; clear hR)
  go_ret
  exact ⟨rfl, rfl⟩
theorem upt_g (tp n : Nat) (T : TrP) (b : Int) (w : World) (h : TreeAt w tp n T) : Calls Try.prog 14 #[.pointer (some ⟨tp, 0, none⟩), .int .i64 b] w fun e w' => e = .returned (.int .i64 (upT T b)) ∧ w' = w := by
  have hR := reached_g tp n T b w h
  obtain ⟨vo, vu, vd, vp, vq, vt, vs, vst, gk, vk, h1, h2, h3, h4, h5, h6, h7, h8, h9, l1, l2, l3, l4, l5, l6, h10, h11, h12⟩ := h
  obtain ⟨Au, cu, rfl, -⟩ := id h3
  rw [l1] at h1 h3
  have c1 := Lib.cell_of_heap h1 1
  obtain ⟨x, hx⟩ : ∃ x, x = upT T b := ⟨_, rfl⟩
  rw [← hx]
  by_cases hr : reachedT T b = true
  · obtain ⟨k, rfl, hk⟩ := reachedT_in hr
    obtain ⟨ub, uo, rfl, cc⟩ := h3.get (j := k) (by omega)
    have hxe : x = T.up.getD k 0 := by rw [hx]; unfold upT; rw [if_pos hr]; rfl
    rw [← hxe] at cc
    rw [hr] at hR
    have hkn : k < n := by omega
    clear hx hxe hr h1 h2 h3 h4 h5 h6 h7 h8 h9 l1 l2 l3 l4 l5 l6 h10 h11 h12 hk
    go_enter Try.func14, Try.ntmps14
    go_wp2_with (go_at_call 15; refine hR.mono ?_; rintro e w1 ⟨rfl, rfl⟩; clear hR)
    go_ret
    exact ⟨rfl, rfl⟩
  · have hr : reachedT T b = false := by simpa using hr
    have hxe : x = -1 := by rw [hx]; unfold upT; rw [hr]; rfl
    rw [hr] at hR
    subst hxe
    clear hx hr h1 h2 h3 h4 h5 h6 h7 h8 h9 l1 l2 l3 l4 l5 l6 h10 h11 h12
    go_enter Try.func14, Try.ntmps14
    go_wp2_with (go_at_call 15; refine hR.mono ?_; rintro e w1 ⟨rfl, rfl⟩; clear hR)
    go_ret
    exact ⟨rfl, rfl⟩
theorem over_nil (a b : Int) (w : World) : Calls Try.prog 12 #[.pointer none, .int .i64 a, .int .i64 b] w fun e w' => e = .returned (.bool false) ∧ ∃ q, w' = w.drewN q := by
  have hR : ∀ w', Calls Try.prog 15 #[.pointer none, .int .i64 a] w' fun e w2 => e = .returned (.bool false) ∧ ∃ q, w2 = w'.drewN q := fun w' => (reached_nil a w').mono fun e w2 ⟨h1, h2⟩ => ⟨h1, 0, by rw [h2]; rfl⟩
  go_enter Try.func12, Try.ntmps12
  go_upto_region 1 with fail
  go_quiet (first | (go_at_call 15; exact Calls.quiet_of (hR _)))
  go_wp2
  go_ret
  exact ⟨rfl, _, rfl⟩
set_option maxRecDepth 100000 in
set_option maxHeartbeats 8000000 in
theorem over_g (tp n : Nat) (T : TrP) (a b : Int) (w : World) (h : TreeAt w tp n T) : Calls Try.prog 12 #[.pointer (some ⟨tp, 0, none⟩), .int .i64 a, .int .i64 b] w fun e w' => e = .returned (.bool (overT T a b)) ∧ ∃ q, w' = w.drewN q := by
  have hRa : ∀ w', TreeAt w' tp n T → Calls Try.prog 15 #[.pointer (some ⟨tp, 0, none⟩), .int .i64 a] w' fun e w2 => e = .returned (.bool (reachedT T a)) ∧ ∃ q, w2 = w'.drewN q := fun w' h' => (reached_g tp n T a w' h').mono fun e w2 ⟨h1, h2⟩ => ⟨h1, 0, by rw [h2]; rfl⟩
  have hRb : ∀ w', TreeAt w' tp n T → Calls Try.prog 15 #[.pointer (some ⟨tp, 0, none⟩), .int .i64 b] w' fun e w2 => e = .returned (.bool (reachedT T b)) ∧ ∃ q, w2 = w'.drewN q := fun w' h' => (reached_g tp n T b w' h').mono fun e w2 ⟨h1, h2⟩ => ⟨h1, 0, by rw [h2]; rfl⟩
  have HTA := Lib.hid h
  obtain ⟨vo, vu, vd, vp, vq, vt, vs, vst, gk, vk, h1, h2, h3, h4, h5, h6, h7, h8, h9, l1, l2, l3, l4, l5, l6, h10, h11, h12⟩ := h
  obtain ⟨Ap, cp, rfl, -⟩ := id h5
  obtain ⟨Aq, cq, rfl, -⟩ := id h6
  rw [l3] at h1 h5
  rw [l4] at h1 h6
  have c4 := Lib.cell_of_heap h1 4
  have c5 := Lib.cell_of_heap h1 5
  obtain ⟨x, hx⟩ : ∃ x, x = overT T a b := ⟨_, rfl⟩
  rw [← hx]
  by_cases hra : reachedT T a = true
  · rw [hra] at hRa
    by_cases hrb : reachedT T b = true
    · rw [hrb] at hRb
      obtain ⟨ka, rfl, hka⟩ := reachedT_in hra
      obtain ⟨kb, rfl, hkb⟩ := reachedT_in hrb
      obtain ⟨pb, po, rfl, ca⟩ := h5.get (j := ka) (by omega)
      obtain ⟨pb2, po2, hpe, cb⟩ := h5.get (j := kb) (by omega)
      obtain ⟨rfl, rfl⟩ : pb = pb2 ∧ po = po2 := by simpa using hpe
      obtain ⟨qb, qo, rfl, cqa⟩ := h6.get (j := ka) (by omega)
      have hka2 : ka < n := by omega
      have hkb2 : kb < n := by omega
      have hxe : x = (decide (T.place.getD ka 0 ≤ T.place.getD kb 0) && decide (T.place.getD kb 0 < T.past.getD ka 0)) := by rw [hx]; unfold overT; rw [hra, hrb]; rfl
      obtain ⟨pa, hpa⟩ : ∃ pa, pa = T.place.getD ka 0 := ⟨_, rfl⟩
      obtain ⟨pc, hpc⟩ : ∃ pc, pc = T.place.getD kb 0 := ⟨_, rfl⟩
      obtain ⟨qa, hqa⟩ : ∃ qa, qa = T.past.getD ka 0 := ⟨_, rfl⟩
      rw [← hpa, ← hpc, ← hqa] at hxe
      rw [← hpa] at ca
      rw [← hpc] at cb
      rw [← hqa] at cqa
      clear hpa hpc hqa hx hpe hra hrb h1 h2 h3 h4 h5 h6 h7 h8 h9 l1 l2 l3 l4 l5 l6 h10 h11 h12 hka hkb
      by_cases hle : pa ≤ pc
      · have d1 : decide (pa ≤ pc) = true := decide_eq_true hle
        have hxe2 : x = decide (pc < qa) := by rw [hxe, d1]; rfl
        clear hxe
        subst hxe2
        have HRa := Lib.hid hRa
        have HRb := Lib.hid hRb
        clear hRa hRb
        go_enter Try.func12, Try.ntmps12
        go_upto_region 1 with fail
        go_quiet (first | (go_at_call 15; with_reducible refine Calls.quiet_of (HRa.out _ ?_); exact HTA.out.keep ⟨rfl, rfl, rfl, Nat.le_refl _, fun _ _ => rfl⟩) | (go_at_call 15; with_reducible refine Calls.quiet_of (HRb.out _ ?_); exact HTA.out.keep ⟨rfl, rfl, rfl, Nat.le_refl _, fun _ _ => rfl⟩))
        go_wp2
        go_ret
        exact ⟨rfl, _, rfl⟩
      · have d1 : decide (pa ≤ pc) = false := decide_eq_false hle
        have hxe2 : x = false := by rw [hxe, d1]; rfl
        clear hxe
        subst hxe2
        have HRa := Lib.hid hRa
        have HRb := Lib.hid hRb
        clear hRa hRb
        go_enter Try.func12, Try.ntmps12
        go_upto_region 1 with fail
        go_quiet (first | (go_at_call 15; with_reducible refine Calls.quiet_of (HRa.out _ ?_); exact HTA.out.keep ⟨rfl, rfl, rfl, Nat.le_refl _, fun _ _ => rfl⟩) | (go_at_call 15; with_reducible refine Calls.quiet_of (HRb.out _ ?_); exact HTA.out.keep ⟨rfl, rfl, rfl, Nat.le_refl _, fun _ _ => rfl⟩))
        go_wp2
        go_ret
        exact ⟨rfl, _, rfl⟩
    · have hrb : reachedT T b = false := by simpa using hrb
      have hxe : x = false := by rw [hx]; unfold overT; rw [hra, hrb]; rfl
      subst hxe
      rw [hrb] at hRb
      clear hx hra hrb h1 h2 h3 h4 h5 h6 h7 h8 h9 l1 l2 l3 l4 l5 l6 h10 h11 h12
      have HRa := Lib.hid hRa
      have HRb := Lib.hid hRb
      clear hRa hRb
      go_enter Try.func12, Try.ntmps12
      go_upto_region 1 with fail
      go_quiet (first | (go_at_call 15; with_reducible refine Calls.quiet_of (HRa.out _ ?_); exact HTA.out.keep ⟨rfl, rfl, rfl, Nat.le_refl _, fun _ _ => rfl⟩) | (go_at_call 15; with_reducible refine Calls.quiet_of (HRb.out _ ?_); exact HTA.out.keep ⟨rfl, rfl, rfl, Nat.le_refl _, fun _ _ => rfl⟩))
      go_wp2
      go_ret
      exact ⟨rfl, _, rfl⟩
  · have hra : reachedT T a = false := by simpa using hra
    have hxe : x = false := by rw [hx]; unfold overT; rw [hra]; rfl
    subst hxe
    rw [hra] at hRa
    clear hx hra h1 h2 h3 h4 h5 h6 h7 h8 h9 l1 l2 l3 l4 l5 l6 h10 h11 h12
    have HRa := Lib.hid hRa
    have HRb := Lib.hid hRb
    clear hRa hRb
    go_enter Try.func12, Try.ntmps12
    go_upto_region 1 with fail
    go_quiet (first | (go_at_call 15; with_reducible refine Calls.quiet_of (HRa.out _ ?_); exact HTA.out.keep ⟨rfl, rfl, rfl, Nat.le_refl _, fun _ _ => rfl⟩) | (go_at_call 15; with_reducible refine Calls.quiet_of (HRb.out _ ?_); exact HTA.out.keep ⟨rfl, rfl, rfl, Nat.le_refl _, fun _ _ => rfl⟩))
    go_wp2
    go_ret
    exact ⟨rfl, _, rfl⟩
theorem kids_nil (b : Int) (w : World) : Calls Try.prog 19 #[.pointer none, .int .i64 b] w fun e w' => e = .returned (.slice none 0 0) ∧ w' = w := by
  have hR := reached_nil b w
  go_enter Try.func19, Try.ntmps19
  go_wp2_with (go_at_call 15; refine hR.mono ?_; rintro e w1 ⟨rfl, rfl⟩; clear hR)
  go_ret
  exact ⟨rfl, rfl⟩
theorem frontier_nil (b : Int) (w : World) : Calls Try.prog 21 #[.pointer none, .int .i64 b] w fun e w' => e = .returned (.slice none 0 0) ∧ w' = w := by
  have hR := reached_nil b w
  go_enter Try.func21, Try.ntmps21
  go_wp2_with (go_at_call 15; refine hR.mono ?_; rintro e w1 ⟨rfl, rfl⟩; clear hR)
  go_ret
  exact ⟨rfl, rfl⟩
theorem order_nil (w : World) : Calls Try.prog 18 #[.pointer none] w fun e w' => e = .returned (.slice none 0 0) ∧ w' = w := by
  go_enter Try.func18, Try.ntmps18
  go_wp2
  go_ret
  exact ⟨rfl, rfl⟩
theorem common_nil (a b : Int) (w : World) : Calls Try.prog 20 #[.pointer none, .int .i64 a, .int .i64 b] w fun e w' => e = .returned (.int .i64 (-1)) ∧ w' = w := by
  have hR := reached_nil a w
  go_enter Try.func20, Try.ntmps20
  go_wp2_with (go_at_call 15; refine hR.mono ?_; rintro e w1 ⟨rfl, rfl⟩; clear hR)
  go_ret
  exact ⟨rfl, rfl⟩
end Go.Proofs.Ytoplllebaagnnaa
namespace Go.Proofs.Ytoplllebaagnnaa
set_option linter.unusedVariables false
set_option linter.unusedSimpArgs false
open Go.RowKit Go.Shelf

theorem setCells_heap {g : Nat} {T : TypeId} : ∀ (vs : List Value) (o : Nat) (w : World) (cur : Array Value), w.heap[g]? = some (.cells cur T (0, 0)) →
    ∃ cur' : Array Value, (w.setCells g o vs).heap[g]? = some (.cells cur' T (0, 0)) ∧ cur'.size = cur.size ∧ (∀ k, k < o → cur'[k]? = cur[k]?) ∧ ∀ j, j < vs.length → o + j < cur.size → cur'[o + j]? = vs[j]?
  | [], o, w, cur, h => ⟨cur, h, rfl, fun _ _ => rfl, fun j hj => by simp at hj⟩
  | v :: vs, o, w, cur, h => by
    have h1 : (w.setCell ⟨g, o, none⟩ v).heap[g]? = some (.cells (cur.setIfInBounds o v) T (0, 0)) := by
      have e : cur = cur.toList.toArray := by simp
      rw [e] at h ⊢
      exact gr_put h o v
    obtain ⟨cur', h2, h3, h4, h5⟩ := setCells_heap vs (o + 1) _ _ h1
    refine ⟨cur', h2, by rw [h3]; simp, fun k hk => ?_, fun j hj hl => ?_⟩
    · rw [h4 k (by omega)]
      simp [Array.getElem?_setIfInBounds]
      omega
    · cases j with
      | zero =>
        rw [Nat.add_zero, h4 o (by omega)]
        simp [Array.getElem?_setIfInBounds]
        simpa using hl
      | succ j =>
        have := h5 j (by simpa using hj) (by simp; omega)
        rw [show o + (j + 1) = o + 1 + j by omega, this]
        rfl
theorem setCells_below {B g : Nat} {a : World} (hg : B ≤ g) : ∀ (vs : List Value) (o : Nat) (w : World), Below B a w → Below B a (w.setCells g o vs)
  | [], _, _, h => h
  | v :: vs, o, w, h => setCells_below hg vs (o + 1) _ (h.setCell (p := ⟨g, o, none⟩) hg v)
theorem setCells_size {g : Nat} : ∀ (vs : List Value) (o : Nat) (w : World), (w.setCells g o vs).heap.size = w.heap.size
  | [], _, _ => rfl
  | v :: vs, o, w => by
    have := setCells_size (g := g) vs (o + 1) (w.setCell ⟨g, o, none⟩ v)
    simp only [World.setCells]
    rw [this]
    simp [World.setCell]
theorem compact_le : ∀ zs : List Int, (Lib.compact zs).length ≤ zs.length := fun zs => by
  exact Lib.compact_length_le zs
def frP (T : TrP) (b e : Int) : Nat → Int → List Nat → Option (List Nat)
  | 0, _, _ => none
  | k + 1, at_, acc => if at_ < e then (rdI T.to_ at_).bind fun t => (rdI T.deep t).bind fun dt => (rdI T.deep b).bind fun db =>
      if dt > db then (rdI T.skip at_).bind fun a2 => frP T b e k a2 acc else if acc.length < 1048576 then frP T b e k (at_ + 1) (acc ++ [t.toNat]) else none
    else some acc

def FrK (T : TrP) (b e0 : Int) (w0 : World) (xs : List Nat) (k : Nat) (u7 u5 : Value) (w : World) : Prop := ∃ (at_ : Int) (acc : List Nat), u7 = .int .i64 at_ ∧ frP T b e0 k at_ acc = some xs ∧ w.ownsRow w0.heap.size 3 1 u5 acc.length (natsV acc) ∧ Below w0.heap.size w0 w ∧ acc.length ≤ 1048576

set_option maxRecDepth 100000 in
set_option maxHeartbeats 16000000 in
theorem frontier_g (tp n : Nat) (T : TrP) (b : Nat) (p0 p1 a0 e0 : Int) (k0 : Nat) (xs : List Nat) (w : World) (h : TreeAt w tp n T) (hr : reachedT T (b : Int) = true) (h1 : rdI T.past (b : Int) = some p1) (h2 : rdI T.start p1 = some e0) (h3 : rdI T.place (b : Int) = some p0) (h4 : rdI T.start p0 = some a0) (he : e0 ≤ 1048576) (h5 : frP T (b : Int) e0 k0 a0 [] = some xs) (hne : 0 < xs.length) :
    Calls Try.prog 21 #[.pointer (some ⟨tp, 0, none⟩), .int .i64 (b : Int)] w fun e w' => ∃ v, e = .returned v ∧ GNs w'.heap.size w' v (Lib.compact ((sortN xs).map fun (x : Nat) => (x : Int))) ∧ Below w.heap.size w w' := by
  have hR := reached_g tp n T (b : Int) w h
  rw [hr] at hR
  have HTA := Lib.hid h
  obtain ⟨vo, vu, vd, vp, vq, vt, vs, vst, gk, vk, t1, t2, t3, t4, t5, t6, t7, t8, t9, l1, l2, l3, l4, l5, l6, t10, t11, t12⟩ := h
  obtain ⟨Ad, cd, rfl, -⟩ := id t4
  obtain ⟨Ap, cp, rfl, -⟩ := id t5
  obtain ⟨Aq, cq, rfl, -⟩ := id t6
  obtain ⟨At, ct, rfl, -⟩ := id t7
  obtain ⟨As, cs, rfl, -⟩ := id t8
  obtain ⟨Ax, cx, rfl, -⟩ := id t9
  rw [l2] at t1 t4
  rw [l3] at t1 t5
  rw [l4] at t1 t6
  obtain ⟨tn, htn⟩ : ∃ tn, tn = T.to_.length := ⟨_, rfl⟩
  obtain ⟨sn, hsn⟩ : ∃ sn, sn = T.skip.length := ⟨_, rfl⟩
  obtain ⟨xn, hxn⟩ : ∃ xn, xn = T.start.length := ⟨_, rfl⟩
  rw [← htn] at t1 t7
  rw [← hsn] at t1 t8
  rw [← hxn] at t1 t9
  have hrd : ∀ (A : Option Addr) (m c : Nat) (l : List Int), GNs w.heap.size w (.slice A m c) l → l.length = m → ∀ (x : Int) (y : Int), rdI l x = some y → ∃ (k : Nat) (g o : Nat), x = k ∧ k < m ∧ A = some ⟨g, o, none⟩ ∧ ∀ W, Below w.heap.size w W → W.cell? ⟨g, o + k, none⟩ = some (.int .i64 y) := fun A m c l hg hl x y hxy => by
    obtain ⟨k, hk, hkl, hye⟩ := rdI_some hxy
    obtain ⟨g, o, hA, hgb, hc⟩ := hg.at hkl
    exact ⟨k, g, o, hk, by omega, hA, fun W hW => (hW.cell (p := ⟨g, o + k, none⟩) hgb).trans (by rw [hc, hye]; simp [List.getD, hkl])⟩
  obtain ⟨b1, gq, oq, hb1, hbq, rfl, cqb⟩ := hrd _ _ _ _ t6 l4 _ _ h1
  obtain rfl : b = b1 := by omega
  obtain ⟨p1n, gx, ox, rfl, hp1, rfl, cx1⟩ := hrd _ _ _ _ t9 hxn.symm _ _ h2
  obtain ⟨b2, gp, op, hb2, hbp, rfl, cpb⟩ := hrd _ _ _ _ t5 l3 _ _ h3
  obtain rfl : b = b2 := by omega
  obtain ⟨p0n, gx2, ox2, rfl, hp0, hxe, cx0⟩ := hrd _ _ _ _ t9 hxn.symm _ _ h4
  obtain ⟨rfl, rfl⟩ : gx = gx2 ∧ ox = ox2 := by simpa using hxe
  have HD : Hid (∀ x y, rdI T.deep x = some y → ∃ (k : Nat) (g o : Nat), x = k ∧ k < n ∧ Ad = some ⟨g, o, none⟩ ∧ ∀ W, Below w.heap.size w W → W.cell? ⟨g, o + k, none⟩ = some (.int .i64 y)) := Lib.hid (hrd _ _ _ _ t4 l2)
  have HT : Hid (∀ x y, rdI T.to_ x = some y → ∃ (k : Nat) (g o : Nat), x = k ∧ k < tn ∧ At = some ⟨g, o, none⟩ ∧ ∀ W, Below w.heap.size w W → W.cell? ⟨g, o + k, none⟩ = some (.int .i64 y)) := Lib.hid (hrd _ _ _ _ t7 htn.symm)
  have HK : Hid (∀ x y, rdI T.skip x = some y → ∃ (k : Nat) (g o : Nat), x = k ∧ k < sn ∧ As = some ⟨g, o, none⟩ ∧ ∀ W, Below w.heap.size w W → W.cell? ⟨g, o + k, none⟩ = some (.int .i64 y)) := Lib.hid (hrd _ _ _ _ t8 hsn.symm)
  have Hc : Hid (∀ W, Below w.heap.size w W → W.cell? ⟨tp, 3, none⟩ = some (.slice Ad n cd) ∧ W.cell? ⟨tp, 6, none⟩ = some (.slice At tn ct) ∧ W.cell? ⟨tp, 7, none⟩ = some (.slice As sn cs)) := Lib.hid fun W hW => by
    have hb := (hW.block tp (gr_in t1)).trans t1
    exact ⟨Lib.cell_of_heap hb 3, Lib.cell_of_heap hb 6, Lib.cell_of_heap hb 7⟩
  have c4 := Lib.cell_of_heap t1 4
  have c5 := Lib.cell_of_heap t1 5
  have c8 := Lib.cell_of_heap t1 8
  have q1 := cqb w (Below.refl _ _)
  have q2 := cx1 w (Below.refl _ _)
  have q3 := cpb w (Below.refl _ _)
  have q4 := cx0 w (Below.refl _ _)
  have H5 := Lib.hid h5
  clear hrd t1 t2 t3 t4 t5 t6 t7 t8 t9 l1 l2 l3 l4 l5 l6 t10 t11 t12 h1 h2 h3 h4 h5 hr hb1 hb2 hxe cqb cx1 cpb cx0 htn hsn hxn
  obtain ⟨i0, hi0, hz0, hz1, hz2⟩ := info_parts infoIntG
  have Ji := Lib.hid hi0
  have Jz0 := Lib.hid hz0
  have Jz1 := Lib.hid hz1
  have Jz2 := Lib.hid hz2
  clear hi0 hz0 hz1 hz2
  go_enter Try.func21, Try.ntmps21
  go_upto_region 4 with (go_at_call 15; refine hR.mono ?_; rintro e w1 ⟨rfl, rfl⟩; clear hR)
  go_quiet (fail)
  obtain ⟨V1, hV1⟩ : ∃ V1, V1 = w1.drewN nq := ⟨_, rfl⟩
  have hb1 : Below w1.heap.size w1 V1 := by rw [hV1]; exact below_drewN _ _
  have c4' : V1.cell? ⟨tp, 4, none⟩ = some (.slice (some ⟨gp, op, none⟩) n cp) := by rw [hV1]; exact c4
  have c8' : V1.cell? ⟨tp, 8, none⟩ = some (.slice (some ⟨gx, ox, none⟩) xn cx) := by rw [hV1]; exact c8
  have q3' : V1.cell? ⟨gp, op + b, none⟩ = some (.int .i64 (p0n : Int)) := by rw [hV1]; exact q3
  have q4' : V1.cell? ⟨gx, ox + p0n, none⟩ = some (.int .i64 a0) := by rw [hV1]; exact q4
  rw [← hV1]
  clear c4 c5 c8 q1 q2 q3 q4 hV1
  go_upto_region 5 with fail
  go_quiet (fail)
  obtain ⟨V2, hV2⟩ : ∃ V2, V2 = V1.drewN nq := ⟨_, rfl⟩
  rw [← hV2]
  have hb2 : Below w1.heap.size w1 V2 := by rw [hV2]; exact hb1.trans ((below_drewN _ _).mono hb1.size)
  have HK0 : Hid (FrK T (b : Int) e0 w1 xs k0 (.int .i64 a0) (.slice none 0 0) V2) := Lib.hid ⟨a0, [], rfl, H5.out, World.ownsRow_nil _ _ _ _, hb2, by simp⟩
  clear hb1 hV2 hb2 c4' c8' q3' q4' H5
  go_upto_block 0 with fail
  go_cut [5] (fun u5 wx => wx.ownsRow w1.heap.size 3 1 u5 xs.length (natsV xs) ∧ Below w1.heap.size w1 wx ∧ xs.length ≤ 1048576)
  case first =>
    go_wp2_with fail
    go_loopw [7, 5] (fun u7 u5 wr => ∃ k, FrK T (b : Int) e0 w1 xs k u7 u5 wr) (fun u7 u5 wr => leastN (fun k => FrK T (b : Int) e0 w1 xs k u7 u5 wr))
    case atStart => exact ⟨k0, HK0.out⟩
    case round =>
      clear HK0
      obtain ⟨K, hK⟩ : ∃ K, K = leastN (fun k => FrK T (b : Int) e0 w1 xs k u7 u5 wr) := ⟨_, rfl⟩
      have hk : FrK T (b : Int) e0 w1 xs K u7 u5 wr := by rw [hK]; exact leastN_spec hrel
      have HK2 := Lib.hid hK
      clear hK hrel
      obtain ⟨at_, acc, rfl, hf, ho, hb, hal⟩ := hk
      obtain ⟨PA, PC, rfl⟩ := gr_slice ho
      cases K with
      | zero => simp [frP] at hf
      | succ k =>
        rw [frP] at hf
        split at hf
        · next hlt =>
          have hd : decide (at_ < e0) = true := decide_eq_true hlt
          rw [Option.bind_eq_some_iff] at hf
          obtain ⟨tv, htv, hf⟩ := hf
          rw [Option.bind_eq_some_iff] at hf
          obtain ⟨dt, hdt, hf⟩ := hf
          rw [Option.bind_eq_some_iff] at hf
          obtain ⟨db, hdb, hf⟩ := hf
          obtain ⟨an, tg, to2, rfl, han, rfl, hct⟩ := HT.out _ _ htv
          obtain ⟨tvn, dg, do2, rfl, htvn, rfl, hcd⟩ := HD.out _ _ hdt
          obtain ⟨bn, dg2, do3, hbe, hbn, hde, hcb⟩ := HD.out _ _ hdb
          obtain rfl : b = bn := by omega
          obtain ⟨rfl, rfl⟩ : dg = dg2 ∧ do2 = do3 := by simpa using hde
          obtain ⟨k3, k6, k7⟩ := Hc.out wr hb
          have e1 := hct wr hb
          have e2 := hcd wr hb
          have e3 := hcb wr hb
          by_cases hgt : dt > db
          · have hg : decide (dt > db) = true := decide_eq_true hgt
            rw [if_pos hgt, Option.bind_eq_some_iff] at hf
            obtain ⟨a2, ha2, hf⟩ := hf
            obtain ⟨an2, sg, so, hae, hsn, rfl, hcs⟩ := HK.out _ _ ha2
            obtain rfl : an = an2 := by omega
            have HF := Lib.hid hf
            have Ho := Lib.hid ho
            have Hb := Lib.hid hb
            have Hcs := Lib.hid hcs
            clear hf htv hdt hdb ha2 hct hcd hcb hbe hde hae ho hb hcs hlt hgt
            go_upto_region 8 with fail
            go_quiet (fail)
            obtain ⟨V3, hV3⟩ : ∃ V3, V3 = wr.drewN nq := ⟨_, rfl⟩
            have hb3 : Below w1.heap.size w1 V3 := by rw [hV3]; exact below_dr Hb.out _
            have ho3 : V3.ownsRow w1.heap.size 3 1 (.slice PA acc.length PC) acc.length (natsV acc) := by rw [hV3]; exact gr_up Ho.out (below_drewN _ _)
            rw [← hV3]
            clear k3 k6 k7 e1 e2 e3 hV3
            obtain ⟨k3, k6, k7⟩ := Hc.out V3 hb3
            have e4 := Hcs.out V3 hb3
            have HN : Hid (FrK T (b : Int) e0 w1 xs k (.int .i64 a2) (.slice PA acc.length PC) V3) := Lib.hid ⟨a2, acc, rfl, HF.out, ho3, hb3, hal⟩
            clear hb3 ho3 HF Ho Hb Hcs
            go_wp2
            go_roundw
            case rel => exact ⟨k, HN.out⟩
            case measure => rw [← HK2.out]; exact Nat.lt_succ_of_le (leastN_le HN.out)
          · have hg : decide (dt > db) = false := decide_eq_false hgt
            rw [if_neg hgt] at hf
            split at hf
            case isFalse => cases hf
            case isTrue hal2 =>
            rw [Int.toNat_natCast] at hf
            have HF := Lib.hid hf
            have Ho := Lib.hid ho
            have Hb := Lib.hid hb
            clear hf htv hdt hdb hct hcd hcb hbe hde ho hb hgt
            go_upto_region 8 with fail
            go_quiet (fail)
            obtain ⟨V3, hV3⟩ : ∃ V3, V3 = wr.drewN nq := ⟨_, rfl⟩
            have hb3 : Below w1.heap.size w1 V3 := by rw [hV3]; exact below_dr Hb.out _
            have ho3 : V3.ownsRow w1.heap.size 3 1 (.slice PA acc.length PC) acc.length (natsV acc) := by rw [hV3]; exact gr_up Ho.out (below_drewN _ _)
            rw [← hV3]
            clear k3 k6 k7 e1 e2 e3 hV3
            obtain ⟨Z, hZ, hbZ, hzZ, h0Z⟩ := gr_one V3 #[.int .i64 (tvn : Int)] 3
            have HOW := Lib.hid (gr_up ho3 hbZ)
            have HNW := Lib.hid (World.news_of_block h0Z)
            have HOn : Hid (∀ u ∈ ([.int .i64 (tvn : Int)] : List Value), u.oneCell' = true) := Lib.hid (by intro u hu; simp at hu; subst hu; rfl)
            have hsz2 : w1.heap.size ≤ Z.heap.size := Nat.le_trans hb3.size hbZ.size
            have hbZ2 := hb3.trans (hbZ.mono hb3.size)
            rw [hZ] at HOW HNW hsz2
            have HZ := Lib.hid hZ
            have HbZ := Lib.hid hbZ2
            have hw4 : IntKind.i64.wrap ((an : Int) + 1) = (an : Int) + 1 := by rw [IntKind.wrap_i64]; omega
            clear hb3 ho3 Ho Hb hZ hbZ hzZ h0Z hbZ2
            go_wp2_with (at_builtin; refine wpList_append_lies _ rfl (.tmp 75) (.tmp 77) 23 rfl w1.heap.size 3 i0 (.int .i64 0) 1 8 Try.underlying23 Ji.out Jz0.out Jz1.out Jz2.out rfl (by decide) (.slice PA acc.length PC) acc.length (natsV acc) rfl HOW.out ⟨V3.heap.size, 0, none⟩ 1 1 [.int .i64 (tvn : Int)] rfl rfl HNW.out HOn.out (by decide) (by unfold maxLen; omega) (by omega) hsz2 _ rfl ?_)
            intro gq' cq' w6 hown6 hgrow6 hat6 hlt6
            rw [← HZ.out] at hgrow6
            have hb6 : Below w1.heap.size w1 w6 := HbZ.out.trans ((Below.refl _ _).grown hgrow6 HbZ.out.size (fun g' e' => (HOW.out.lt g' e').1))
            have HN : Hid (FrK T (b : Int) e0 w1 xs k (.int .i64 ((an : Int) + 1)) (.slice (some ⟨gq', 0, none⟩) (acc.length + 1) cq') w6) := Lib.hid ⟨_, acc ++ [tvn], rfl, HF.out, by simpa [natsV] using hown6, hb6, by simp; omega⟩
            clear hown6 hgrow6 hat6 hlt6 hb6 HOW HNW HOn hsz2 HZ HbZ HF
            go_wp2
            go_roundw
            case rel => exact ⟨k, HN.out⟩
            case measure => rw [← HK2.out]; exact Nat.lt_succ_of_le (leastN_le HN.out)
        · next hlt =>
          injection hf with hf
          subst hf
          have hd : decide (at_ < e0) = false := decide_eq_false hlt
          have HE := Lib.hid (And.intro ho (And.intro hb hal))
          clear ho hb hlt
          go_wp2_with fail
          go_meet
          exact HE.out
  case rest =>
    obtain ⟨W, hW⟩ : ∃ W, W = wc := ⟨_, rfl⟩
    subst hW
    obtain ⟨ho, hb, hxl⟩ := hcut
    obtain ⟨PA, PC, rfl⟩ := gr_slice ho
    obtain ⟨g, rfl, -, hg1, hg2⟩ := gr_some ho hne
    have hS := sort_g w1.heap.size g xs.length PC xs W ho hxl
    have Hb := Lib.hid hb
    have Ho := Lib.hid ho
    clear ho hb
    go_upto_region 13 with (go_at_call 33; refine hS.mono ?_; rintro e w5 ⟨⟨r5, rfl⟩, ho5, hg5⟩; clear hS)
    have hb5 : Below w1.heap.size w1 w5 := Hb.out.trans ((Below.refl _ _).grown hg5 Hb.out.size (fun g' e' => by injection e' with e'; subst e'; exact hg1))
    obtain ⟨zs, hzs⟩ : ∃ zs : List Int, zs = (sortN xs).map fun (x : Nat) => (x : Int) := ⟨_, rfl⟩
    have hzl : zs.length = xs.length := by rw [hzs, List.length_map, sortN_len]
    have hnv : natsV (sortN xs) = intsV zs := by rw [natsV_ints, hzs]
    rw [hnv] at ho5
    have hC := slices_Compact_int_cells g 0 xs.length PC zs w5 (by omega) (by omega) (gr_len ho5).1 (fun j hj => by
      rw [Nat.zero_add, ho5.cellAt j (by omega)]
      simp [intsV, List.getD, hj]) (fun j _ => by rw [Nat.zero_add]; exact ho5.frozenAt j)
    have Hzs := Lib.hid hzs
    have Hb5 := Lib.hid hb5
    have Ho5 := Lib.hid ho5
    have Hzl := Lib.hid hzl
    clear hzs hnv hb5 ho5 hg5 hzl Hb Ho
    go_wp2_with (go_at_call 34; refine hC.mono ?_; rintro e w6 ⟨rfl, q, hw6⟩; have Hw6 := Lib.hid hw6; clear hw6 hC)
    go_ret
    refine ⟨_, rfl, ?_, ?_⟩
    · rw [← Hzs.out]
      have htk : zs.take xs.length = zs := by rw [← Hzl.out, List.take_length]
      rcases Ho5.out.2 with ⟨h', _⟩ | ⟨g', cap, cur, h', hb', hg', hnc, hcm, hcs, ht⟩
      · simp at h'
      · simp only [Value.slice.injEq, Option.some.injEq, Addr.mk.injEq, and_true, true_and] at h'
        obtain ⟨rfl, rfl⟩ := h'
        have hw6 := Hw6.out
        rw [htk] at hw6 ⊢
        have hcl := compact_le zs
        have hzl := Hzl.out
        obtain ⟨cur', hh, hsz, -, hat⟩ := setCells_heap (T := 3) ((Lib.compact zs ++ List.replicate (xs.length - (Lib.compact zs).length) 0).map (Value.int .i64)) 0 (w5.drewN q) cur hg'
        rw [← hw6] at hh
        refine ⟨_, PC, rfl, fun hp => ⟨g, 0, rfl, gr_in hh, fun j x hx => ?_⟩⟩
        have hjl : j < (Lib.compact zs).length := (List.getElem?_eq_some_iff.1 hx).1
        rw [Nat.zero_add]
        have h0 := hat j (by simp; omega) (by rw [hcs]; omega)
        rw [Nat.zero_add] at h0
        rw [World.cell?, hh]
        simp only [Option.bind_some, h0]
        rw [List.getElem?_map, List.getElem?_append_left hjl, hx]
        rfl
    · rw [Hw6.out]
      exact setCells_below hg1 _ _ _ (below_dr Hb5.out q)
end Go.Proofs.Ytoplllebaagnnaa
