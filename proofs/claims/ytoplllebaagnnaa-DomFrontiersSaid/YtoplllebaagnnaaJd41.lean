/-
  Blocks on all ways: the tree of any blocks, none too; Over, Up, Reached.
-/
import Derived.Test.YtoplllebaagnnaaJd37
import Derived.Test.YtoplllebaagnnaaJd39
import Derived.Test.YtoplllebaagnnaaJd40
namespace Go.Proofs.Ytoplllebaagnnaa
set_option linter.unusedVariables false
set_option linter.unusedSimpArgs false
open Go.RowKit Go.Shelf

/-- The tree of no blocks. -/
def Tre0 (w : World) (tp : Nat) : Prop := w.heap[tp]? = some (.cells #[.slice none 0 0, .slice none 0 0, .slice none 0 0, .slice none 0 0, .slice none 0 0, .slice none 0 0, .slice none 0 0, .slice none 0 0, .slice none 0 0] 59 (0, 0))
theorem Tre0.keep {w w' : World} {tp : Nat} (h : Tre0 w tp) (hb : Below w.heap.size w w') : Tre0 w' tp := (hb.block tp (gr_in h)).trans h
theorem orderP_nil {g : List GB} (h : g.length = 0) : (orderP g).length = 0 := by
  obtain rfl : g = [] := List.eq_nil_of_length_eq_zero h
  kernel_rfl
set_option maxRecDepth 100000 in
set_option maxHeartbeats 4000000 in
theorem new_no (n0 : Nat) (f : Value) (g : List GB) (w : World) (hf : GF n0 w f g) (hn : n0 ≤ w.heap.size) (h0 : g.length = 0) : Calls Try.prog 10 #[f] w fun e w' => ∃ tp, e = .returned (.pointer (some ⟨tp, 0, none⟩)) ∧ Tre0 w' tp ∧ Below w.heap.size w w' := by
  obtain ⟨s, pA, pn, pc, r, iA, in_, ic, bA, bn, bc, rfl, hG, hbn⟩ := hf
  obtain ⟨W1, hW1, hbW1, hzW1, h0W1⟩ := gr_one w #[.string s, .slice pA pn pc, .int .i64 r, .slice iA in_ ic, .slice bA bn bc] 27
  obtain ⟨x0, x1, x2, x3, x4, -⟩ := gr_five h0W1
  have hO := order_g n0 (.agg #[.string s, .slice pA pn pc, .int .i64 r, .slice iA in_ ic, .slice bA bn bc]) g W1 ⟨s, pA, pn, pc, r, iA, in_, ic, bA, bn, bc, rfl, hG.keep (hbW1.mono hn), hbn⟩ (by omega)
  rw [orderP_nil h0] at hO
  have HW1 := Lib.hid hW1
  have HbW1 := Lib.hid hbW1
  clear hW1 hbW1 hzW1 h0W1 hG hbn h0
  go_enter Try.func10, Try.ntmps10
  go_upto_region 1 with fail
  rw [← HW1.out]
  go_upto_region 2 with (go_at_call 25; refine hO.mono ?_; rintro e w2 ⟨vo, rfl, ho, hb2⟩; obtain ⟨A0, c0, rfl⟩ := gr_slice ho; have Hb2 := Lib.hid hb2; clear ho hb2 hO)
  clear x0 x1 x2 x3 x4
  obtain ⟨W3, hW3, hbW3, hzW3, h0W3⟩ := gr_one w2 #[.slice none 0 0, .slice none 0 0, .slice none 0 0, .slice none 0 0, .slice none 0 0, .slice none 0 0, .slice none 0 0, .slice none 0 0, .slice none 0 0] 59
  have HW3 := Lib.hid hW3
  have HT := Lib.hid (show Tre0 W3 w2.heap.size from h0W3)
  have HB3 := Lib.hid hbW3
  clear hW3 hbW3 hzW3 h0W3
  go_wp2
  rw [← HW3.out]
  go_ret
  exact ⟨_, rfl, HT.out, HbW1.out.trans ((Hb2.out.trans (HB3.out.mono Hb2.out.size)).mono HbW1.out.size)⟩
set_option maxRecDepth 100000 in
theorem reached_no (tp : Nat) (b : Int) (w : World) (h : Tre0 w tp) : Calls Try.prog 15 #[.pointer (some ⟨tp, 0, none⟩), .int .i64 b] w fun e w' => e = .returned (.bool false) ∧ w' = w := by
  have c4 := Lib.cell_of_heap h 4
  clear h
  by_cases hb0 : 0 ≤ b
  · have d0 : decide (b ≥ 0) = true := decide_eq_true hb0
    have d1 : decide (b < 0) = false := decide_eq_false (by omega)
    go_enter Try.func15, Try.ntmps15
    go_wp2
    go_ret
    exact ⟨rfl, rfl⟩
  · have d0 : decide (b ≥ 0) = false := decide_eq_false hb0
    go_enter Try.func15, Try.ntmps15
    go_wp2
    go_ret
    exact ⟨rfl, rfl⟩
theorem up_no (tp : Nat) (b : Int) (w : World) (h : Tre0 w tp) : Calls Try.prog 14 #[.pointer (some ⟨tp, 0, none⟩), .int .i64 b] w fun e w' => e = .returned (.int .i64 (-1)) ∧ w' = w := by
  have hR := reached_no tp b w h
  clear h
  go_enter Try.func14, Try.ntmps14
  go_wp2_with (go_at_call 15; refine hR.mono ?_; rintro e w1 ⟨rfl, rfl⟩; clear hR)
  go_ret
  exact ⟨rfl, rfl⟩
theorem over_no (tp : Nat) (a b : Int) (w : World) (h : Tre0 w tp) : Calls Try.prog 12 #[.pointer (some ⟨tp, 0, none⟩), .int .i64 a, .int .i64 b] w fun e w' => e = .returned (.bool false) ∧ ∃ q, w' = w.drewN q := by
  have hR : ∀ w', Tre0 w' tp → Calls Try.prog 15 #[.pointer (some ⟨tp, 0, none⟩), .int .i64 a] w' fun e w2 => e = .returned (.bool false) ∧ ∃ q, w2 = w'.drewN q := fun w' h' => (reached_no tp a w' h').mono fun e w2 ⟨h1, h2⟩ => ⟨h1, 0, by rw [h2]; rfl⟩
  have HT := Lib.hid h
  have HR := Lib.hid hR
  clear h hR
  go_enter Try.func12, Try.ntmps12
  go_upto_region 1 with fail
  go_quiet (first | (go_at_call 15; with_reducible refine Calls.quiet_of (HR.out _ ?_); exact HT.out.keep ⟨rfl, rfl, rfl, Nat.le_refl _, fun _ _ => rfl⟩))
  go_wp2
  go_ret
  exact ⟨rfl, _, rfl⟩

/-- What the document's answers are. -/
noncomputable def ovB (g : List GB) (a b : Int) : Bool := @decide (0 < g.length ∧ ∃ x y : Nat, a = x ∧ b = y ∧ OvD g x y) (Classical.propDecidable _)
noncomputable def rcB (g : List GB) (b : Int) : Bool := @decide (0 < g.length ∧ ∃ x : Nat, b = x ∧ RR g 0 x) (Classical.propDecidable _)
noncomputable def upV (g : List GB) (T : TrP) (b : Int) : Int := if rcB g b then T.up.getD b.toNat 0 else -1
theorem ovB_iff {g : List GB} {a b : Int} : ovB g a b = true ↔ 0 < g.length ∧ ∃ x y : Nat, a = x ∧ b = y ∧ OvD g x y := by unfold ovB; exact @decide_eq_true_iff _ (Classical.propDecidable _)
theorem rcB_iff {g : List GB} {b : Int} : rcB g b = true ↔ 0 < g.length ∧ ∃ x : Nat, b = x ∧ RR g 0 x := by unfold rcB; exact @decide_eq_true_iff _ (Classical.propDecidable _)
theorem ovB_tab {g : List GB} (hg : tosOk g) {a b : Nat} (ha : a < g.length) : ovB g a b = tabP g a b := by
  rw [Bool.eq_iff_iff, ovB_iff, tabP_ovd hg ha]
  constructor
  · rintro ⟨_, x, y, h1, h2, h3⟩
    obtain rfl : a = x := by omega
    obtain rfl : b = y := by omega
    exact h3
  · intro h
    exact ⟨by omega, a, b, rfl, rfl, h⟩
theorem ovB_out {g : List GB} (hg : tosOk g) {a b : Int} (h : a < 0 ∨ b < 0 ∨ (g.length : Int) ≤ a ∨ (g.length : Int) ≤ b) : ovB g a b = false := by
  cases hq : ovB g a b with
  | false => rfl
  | true =>
    exfalso
    obtain ⟨h0, x, y, rfl, rfl, ho⟩ := ovB_iff.1 hq
    have := FR.lt hg h0 ho.1
    have := FR.lt hg h0 ho.2.1
    omega
theorem rcB_ov (g : List GB) (b : Int) : rcB g b = ovB g b b := by
  rw [Bool.eq_iff_iff, ovB_iff, rcB_iff]
  constructor
  · rintro ⟨h0, x, h1, h2⟩
    exact ⟨h0, x, x, h1, h1, OvD.refl h2⟩
  · rintro ⟨h0, x, y, h1, h2, h3⟩
    exact ⟨h0, x, h1, h3.1⟩
/-- A tree in memory, of these blocks. -/
def TR (w : World) (tp : Nat) (g : List GB) (T : TrP) : Prop := (0 < g.length ∧ TreeAt w tp g.length T ∧ TrOk g T) ∨ (g.length = 0 ∧ Tre0 w tp)
theorem TR.keep {w w' : World} {tp : Nat} {g : List GB} {T : TrP} (h : TR w tp g T) (hb : Below w.heap.size w w') : TR w' tp g T := by
  rcases h with ⟨h0, h1, h2⟩ | ⟨h0, h1⟩
  · exact .inl ⟨h0, h1.keep hb, h2⟩
  · exact .inr ⟨h0, h1.keep hb⟩
theorem order_ok {g : List GB} (hg : tosOk g) (hp : 0 < g.length) : OrdOk g (orderP g) := by
  have hw : wholeG g = true := by
    unfold wholeG
    rw [Bool.and_eq_true, List.all_eq_true]
    refine ⟨fun d hd => List.all_eq_true.2 fun t ht => ?_, by simpa using hp⟩
    obtain ⟨j, hj, e⟩ := List.getElem_of_mem hd
    have := hg j t (by unfold tosG; rw [List.getElem?_eq_getElem hj, e]; exact ht)
    unfold hasG
    exact decide_eq_true ⟨this.1, this.2⟩
  obtain ⟨hm, -⟩ := order_q hw
  have hno : ∀ c, (List.replicate g.length false).getD c false = false := rep_getD g.length
  obtain ⟨s', h1, -⟩ := postP_run hw
  obtain ⟨h2, h3⟩ := walk_di hg _ _ _ _ _ _ h1 ⟨by simp, fun c hc => by simp at hc, fun c hc => by simp at hc, fun l1 u l2 e => by simp at e, by simp⟩ (fun c hc => by rw [hno] at hc; cases hc) hp (hno 0)
  have hpo := walk_po hg g.length (fun _ => False) 0 _ [] s' _ h1 (fun l1 c l2 e => by simp at e)
  refine ⟨?_, hm, fun c hc => FR.lt hg hp ((hm c).1 hc), fun pre b post e => ?_⟩
  · unfold orderP
    exact List.pairwise_reverse.2 (h2.di.nd.imp fun h e => h e.symm)
  · have e2 : postP g = post.reverse ++ b :: pre.reverse := by
      have : (orderP g).reverse = postP g := by unfold orderP; rw [List.reverse_reverse]
      rw [← this, e]; simp
    rcases hpo _ _ _ e2 with ⟨p, p1, p2⟩ | q | q
    · exact .inl ⟨p, List.mem_reverse.1 p1, p2⟩
    · exact q.elim
    · exact .inr q
theorem tree_any {g : List GB} (hg : tosOk g) (h2 : ∀ b, (tosG g b).length ≤ 2) (hn : g.length ≤ 1000) : ∃ T, 0 < g.length → TrOk g T := by
  by_cases hp : 0 < g.length
  · obtain ⟨T, hT⟩ := tree_ok hg h2 hn hp (order_ok hg hp)
    exact ⟨T, fun _ => hT⟩
  · exact ⟨meetT, fun h => absurd h hp⟩
theorem new_t (n0 : Nat) (f : Value) (g : List GB) (T : TrP) (w : World) (hf : GF n0 w f g) (hn : n0 ≤ w.heap.size) (hT : 0 < g.length → TrOk g T) :
    Calls Try.prog 10 #[f] w fun e w' => ∃ tp, e = .returned (.pointer (some ⟨tp, 0, none⟩)) ∧ TR w' tp g T ∧ Below w.heap.size w w' := by
  by_cases hp : 0 < g.length
  · refine (new_g n0 f g T w hf hn (hT hp).eq).mono ?_
    rintro e w' ⟨tp, h1, h2, h3⟩
    exact ⟨tp, h1, .inl ⟨hp, h2, hT hp⟩, h3⟩
  · refine (new_no n0 f g w hf hn (by omega)).mono ?_
    rintro e w' ⟨tp, h1, h2, h3⟩
    exact ⟨tp, h1, .inr ⟨by omega, h2⟩, h3⟩
theorem TrOk.rc {g : List GB} {T : TrP} (h : TrOk g T) (hp : 0 < g.length) (b : Int) : reachedT T b = rcB g b := by
  rw [Bool.eq_iff_iff, h.rch, rcB_iff]
  exact ⟨fun q => ⟨hp, q⟩, fun q => q.2⟩
theorem reached_t (tp : Nat) (g : List GB) (T : TrP) (b : Int) (w : World) (h : TR w tp g T) : Calls Try.prog 15 #[.pointer (some ⟨tp, 0, none⟩), .int .i64 b] w fun e w' => e = .returned (.bool (rcB g b)) ∧ w' = w := by
  rcases h with ⟨h0, h1, h2⟩ | ⟨h0, h1⟩
  · have := reached_g tp g.length T b w h1
    rw [h2.rc h0] at this
    exact this
  · have := reached_no tp b w h1
    have e : rcB g b = false := by
      cases hq : rcB g b with
      | false => rfl
      | true => have := (rcB_iff.1 hq).1; omega
    rw [e]
    exact this
theorem up_t (tp : Nat) (g : List GB) (T : TrP) (b : Int) (w : World) (h : TR w tp g T) : Calls Try.prog 14 #[.pointer (some ⟨tp, 0, none⟩), .int .i64 b] w fun e w' => e = .returned (.int .i64 (upV g T b)) ∧ w' = w := by
  rcases h with ⟨h0, h1, h2⟩ | ⟨h0, h1⟩
  · have := upt_g tp g.length T b w h1
    unfold upT at this
    rw [h2.rc h0] at this
    exact this
  · have := up_no tp b w h1
    have e : upV g T b = -1 := by
      unfold upV
      cases hq : rcB g b with
      | false => rfl
      | true => have := (rcB_iff.1 hq).1; omega
    rw [e]
    exact this
theorem over_t (tp : Nat) (g : List GB) (T : TrP) (a b : Int) (w : World) (h : TR w tp g T) : Calls Try.prog 12 #[.pointer (some ⟨tp, 0, none⟩), .int .i64 a, .int .i64 b] w fun e w' => e = .returned (.bool (ovB g a b)) ∧ ∃ q, w' = w.drewN q := by
  rcases h with ⟨h0, h1, h2⟩ | ⟨h0, h1⟩
  · have := over_g tp g.length T a b w h1
    have e : overT T a b = ovB g a b := by
      rw [Bool.eq_iff_iff, h2.ovr, ovB_iff]
      exact ⟨fun q => ⟨h0, q⟩, fun q => q.2⟩
    rw [e] at this
    exact this
  · have := over_no tp a b w h1
    have e : ovB g a b = false := by
      cases hq : ovB g a b with
      | false => rfl
      | true => have := (ovB_iff.1 hq).1; omega
    rw [e]
    exact this
end Go.Proofs.Ytoplllebaagnnaa
