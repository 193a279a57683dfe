/-
  How blocks are left: the walk.
  How blocks are left: the walk itself.
  graph.Post: how blocks are left.
-/
import Derived.Test.YtoplllebaagnnaaJd1
namespace Go.Proofs.Ytoplllebaagnnaa
set_option linter.unusedVariables false
set_option linter.unusedSimpArgs false
open Go.RowKit

theorem gr_apart {w : World} {b1 b2 : Nat} {T1 T2 : TypeId} {z1 z2 n1 n2 : Nat} {v1 v2 : Value} {xs ys : List Value} (h : w.ownsRow b1 T1 z1 v1 n1 xs) (k : w.ownsRow b2 T2 z2 v2 n2 ys) (hne : T1 ≠ T2) : v1.ownBlock = none ∨ v1.ownBlock ≠ v2.ownBlock := by
  rcases h.2 with ⟨rfl, _⟩ | ⟨g, cap, cur, rfl, _, hg, _⟩
  · exact .inl rfl
  · refine .inr (fun e => ?_)
    rcases k.2 with ⟨rfl, _⟩ | ⟨g', cap', cur', rfl, _, hg', _⟩
    · simp [Value.ownBlock] at e
    · simp [Value.ownBlock] at e
      subst e
      rw [hg] at hg'
      simp at hg'
      exact hne hg'.2
theorem gr_slice {w : World} {base : Nat} {T : TypeId} {z : Nat} {v : Value} {n : Nat} {xs : List Value} (h : w.ownsRow base T z v n xs) : ∃ A c, v = .slice A n c := by
  rcases h.2 with ⟨rfl, h0⟩ | ⟨g, cap, cur, hv, _⟩
  · subst h0; exact ⟨none, 0, rfl⟩
  · exact ⟨_, _, hv⟩
theorem gr_some {w : World} {base : Nat} {T : TypeId} {z : Nat} {A : Option Addr} {m c n : Nat} {xs : List Value} (h : w.ownsRow base T z (.slice A m c) n xs) (hn : 0 < n) : ∃ g, A = some ⟨g, 0, none⟩ ∧ m = n ∧ base ≤ g ∧ g < w.heap.size := by
  obtain ⟨g, cap, hv, hb, hl⟩ := h.form hn
  injection hv with e1 e2 e3
  exact ⟨g, e1, e2, hb, hl⟩
/-- The row without what stands last. -/
theorem gr_cut {w : World} {base : Nat} {T : TypeId} {z g n c : Nat} {xs : List Value} (h : w.ownsRow base T z (.slice (some ⟨g, 0, none⟩) n c) n xs) (m : Nat) (hm : m ≤ n) : w.ownsRow base T z (.slice (some ⟨g, 0, none⟩) m c) m (xs.take (m * z)) := by
  rcases h.2 with ⟨h', _⟩ | ⟨g', cap, cur, h', hb, hg, hnc, hcm, hcs, ht⟩
  · simp at h'
  · simp only [Value.slice.injEq, Option.some.injEq, Addr.mk.injEq, and_true, true_and] at h'
    obtain ⟨rfl, rfl⟩ := h'
    have hle : m * z ≤ n * z := Nat.mul_le_mul_right z hm
    refine ⟨by rw [List.length_take, h.1]; omega, .inr ⟨g, c, cur, rfl, hb, hg, by omega, hcm, hcs, ?_⟩⟩
    rw [← ht, List.take_take, Nat.min_eq_left hle]
theorem gr_mono {w : World} {base base' : Nat} {T : TypeId} {z n : Nat} {v : Value} {xs : List Value} (h : w.ownsRow base T z v n xs) (hb : base' ≤ base) : w.ownsRow base' T z v n xs := by
  refine ⟨h.1, ?_⟩
  rcases h.2 with h1 | ⟨g, cap, cur, hv, hg, rest⟩
  · exact .inl h1
  · exact .inr ⟨g, cap, cur, hv, by omega, rest⟩
theorem infoIntG : (Try.prog.info? 3).map (fun i => (i.zero, i.size, i.bytes)) = some (some (.int .i64 0), 1, 8) := by kernel_rfl
theorem infoBoolG : (Try.prog.info? 4).map (fun i => (i.zero, i.size, i.bytes)) = some (some (.bool false), 1, 1) := by kernel_rfl
theorem infoStayG : (Try.prog.info? 94).map (fun i => (i.zero, i.size, i.bytes)) = some (some (.agg #[.int .i64 0, .int .i64 0]), 2, 16) := by kernel_rfl

def natsV (l : List Nat) : List Value := l.map fun (b : Nat) => Value.int .i64 (b : Int)
def boolsV (l : List Bool) : List Value := l.map Value.bool
def wayV : List (Nat × Nat) → List Value
  | [] => []
  | p :: l => wayV l ++ [.int .i64 (p.1 : Int), .int .i64 (p.2 : Int)]
theorem wayV_len : ∀ l : List (Nat × Nat), (wayV l).length = l.length * 2
  | [] => rfl
  | p :: l => by simp [wayV, wayV_len l]; omega
theorem boolsV_set (l : List Bool) (b : Nat) (x : Bool) : (boolsV l).set b (.bool x) = boolsV (l.set b x) := by simp [boolsV, List.map_set]
theorem boolsV_at (l : List Bool) (b : Nat) (h : b < l.length) : (boolsV l)[b]? = some (.bool (l.getD b false)) := by simp [boolsV, List.getD, h]
theorem madeBool (n : Nat) : (madeCells #[Value.bool false] n).toList = boolsV (List.replicate n false) := by
  rw [toList_madeCells_one]
  simp [boolsV]
theorem madeInt (n : Nat) : (madeCells #[Value.int .i64 0] n).toList = List.replicate n (Value.int .i64 0) := by
  rw [toList_madeCells_one]
end Go.Proofs.Ytoplllebaagnnaa
namespace Go.Proofs.Ytoplllebaagnnaa
set_option linter.unusedVariables false
set_option linter.unusedSimpArgs false
open Go.RowKit

theorem addr0 (a : Addr) : a.add 0 = a := by simp [Addr.add]
theorem cut_stay {g n c : Nat} (m : Nat) (hm : m ≤ n) (hn : n ≤ c) : ∀ W : World, (Instr.slice 95 (.slice (some ⟨g, 0, none⟩) n c) none (some (.int .i64 (m : Int))) none).run Try.prog W = .ok (.slice (some ⟨g, 0, none⟩) m c) W := fun W => by
  rw [run_slice_h W 95 (some ⟨g, 0, none⟩) n c (by simp [Program.elem, Try.underlying95]) .i64 (m : Int) (by omega) (by omega)]
  go_simp
theorem tosG_at {g : List GB} {b : Nat} (hb : b < g.length) : tosG g b = g[b].to_ := by simp [tosG, hb]
theorem eqb_false {a b : Nat} (h : a ≠ b) : ((a : Int) == (b : Int)) = false := by
  have h' : (a : Int) ≠ (b : Int) := by omega
  exact beq_eq_false_iff_ne.2 h'
theorem gr_len {w : World} {base : Nat} {T : TypeId} {z : Nat} {A : Option Addr} {m c n : Nat} {xs : List Value} (h : w.ownsRow base T z (.slice A m c) n xs) : m ≤ c ∧ m = n := by
  rcases h.2 with ⟨hv, rfl⟩ | ⟨g, cap, cur, hv, _, _, hnc, _⟩
  · injection hv with e1 e2 e3
    omega
  · injection hv with e1 e2 e3
    omega

/-- What is known of the rows between two rounds. -/
structure PSt (base n : Nat) (W wr : World) (ge : Nat) (u4 u5 : Value) (st : List (Nat × Nat)) (left : List Nat) (ent : List Bool) : Prop where
  way : wr.ownsRow base 94 2 u4 st.length (wayV st)
  left : wr.ownsRow base 3 1 u5 left.length (natsV left)
  ent : wr.ownsRow base 4 1 (.slice (some ⟨ge, 0, none⟩) n n) n (boolsV ent)
  below : Below base W wr
  hb : base ≤ wr.heap.size
/-- What is known of the blocks that are entered. -/
structure PIn (g : List GB) (st : List (Nat × Nat)) (left : List Nat) (ent : List Bool) : Prop where
  len : ent.length = g.length
  cnt : st.length + left.length + unseen ent = g.length
  lt : ∀ p ∈ st, p.1 < g.length ∧ p.2 ≤ (tosG g p.1).length
theorem PIn.leave {g : List GB} {b q : Nat} {st : List (Nat × Nat)} {left : List Nat} {ent : List Bool} (h : PIn g ((b, q) :: st) left ent) : PIn g st (left ++ [b]) ent :=
  ⟨h.len, by have := h.cnt; simp at this ⊢; omega, fun p hp => h.lt p (List.mem_cons_of_mem _ hp)⟩
theorem PIn.look {g : List GB} {b q : Nat} {st : List (Nat × Nat)} {left : List Nat} {ent : List Bool} (h : PIn g ((b, q) :: st) left ent) (hq : q < (tosG g b).length) : PIn g ((b, q + 1) :: st) left ent :=
  ⟨h.len, by have := h.cnt; simp at this ⊢; omega, fun p hp => by
    rcases List.mem_cons.1 hp with rfl | hp
    · exact ⟨(h.lt (b, q) (by simp)).1, hq⟩
    · exact h.lt p (List.mem_cons_of_mem _ hp)⟩
theorem PIn.enter {g : List GB} {t : Nat} {st : List (Nat × Nat)} {left : List Nat} {ent : List Bool} (h : PIn g st left ent) (ht : t < g.length) (hu : ent.getD t false = false) : PIn g ((t, 0) :: st) left (ent.set t true) :=
  ⟨by simpa using h.len, by have := h.cnt; have := unseen_set ent t (by rw [h.len]; exact ht) hu; simp; omega, fun p hp => by
    rcases List.mem_cons.1 hp with rfl | hp
    · exact ⟨ht, Nat.zero_le _⟩
    · exact h.lt p hp⟩
theorem PIn.few {g : List GB} {st : List (Nat × Nat)} {left : List Nat} {ent : List Bool} (h : PIn g st left ent) : st.length + left.length ≤ g.length := by have := h.cnt; omega

theorem PSt.look {base n : Nat} {W wr : World} {ge gw p cw b q : Nat} {u5 : Value} {st : List (Nat × Nat)} {left : List Nat} {ent : List Bool} (h : PSt base n W wr ge (.slice (some ⟨gw, 0, none⟩) p cw) u5 ((b, q) :: st) left ent) (x : Nat) :
    PSt base n W (wr.setCell ⟨gw, st.length * 2 + 1, none⟩ (.int .i64 (x : Int))) ge (.slice (some ⟨gw, 0, none⟩) p cw) u5 ((b, x) :: st) left ent := by
  have hp := (gr_len h.way).2
  subst hp
  obtain ⟨s1, s2⟩ := h.way.stored (st.length * 2 + 1) (.int .i64 (x : Int))
  have a1 := gr_apart h.left h.way (by decide)
  have a2 := gr_apart h.ent h.way (by decide)
  have hgw := (h.way.lt gw rfl).1
  refine ⟨?_, h.left.kept s2 a1, h.ent.kept s2 a2, h.below.setCell (p := ⟨gw, _, none⟩) hgw _, Nat.le_trans h.hb s2.size⟩
  have e : (wayV ((b, q) :: st)).set (st.length * 2 + 1) (.int .i64 (x : Int)) = wayV ((b, x) :: st) := by
    simp only [wayV]
    rw [List.set_append_right _ _ (by rw [wayV_len]; omega), wayV_len]
    simp
  rw [e] at s1
  exact s1
theorem PSt.set {base n : Nat} {W wr : World} {ge t : Nat} {u4 u5 : Value} {st : List (Nat × Nat)} {left : List Nat} {ent : List Bool} (h : PSt base n W wr ge u4 u5 st left ent) :
    PSt base n W (wr.setCell ⟨ge, t, none⟩ (.bool true)) ge u4 u5 st left (ent.set t true) := by
  obtain ⟨s1, s2⟩ := h.ent.stored t (.bool true)
  have a1 := gr_apart h.left h.ent (by decide)
  have a2 := gr_apart h.way h.ent (by decide)
  have hge := (h.ent.lt ge rfl).1
  rw [boolsV_set] at s1
  exact ⟨h.way.kept s2 a2, h.left.kept s2 a1, s1, h.below.setCell (p := ⟨ge, _, none⟩) hge _, Nat.le_trans h.hb s2.size⟩
theorem PSt.next {base n : Nat} {W wr w' : World} {ge : Nat} {u4 u5 : Value} {st : List (Nat × Nat)} {left : List Nat} {ent : List Bool} (h : PSt base n W wr ge u4 u5 st left ent) (hb : Below wr.heap.size wr w') : PSt base n W w' ge u4 u5 st left ent :=
  ⟨gr_up h.way hb, gr_up h.left hb, gr_up h.ent hb, h.below.trans (hb.mono h.hb), Nat.le_trans h.hb hb.size⟩
theorem PSt.left_ {base n : Nat} {W wr w' : World} {ge : Nat} {u4 u5 v5 : Value} {st : List (Nat × Nat)} {left : List Nat} {ent : List Bool} {b : Nat} (h : PSt base n W wr ge u4 u5 st left ent) (hg : wr.grownBy w' u5.ownBlock) (ho : w'.ownsRow base 3 1 v5 (left.length + 1) (natsV left ++ [.int .i64 (b : Int)])) : PSt base n W w' ge u4 v5 st (left ++ [b]) ent := by
  have a1 := gr_apart h.way h.left (by decide)
  have a2 := gr_apart h.ent h.left (by decide)
  exact ⟨h.way.kept hg a1, by simpa [natsV] using ho, h.ent.kept hg a2, h.below.grown hg h.hb (fun k e => (h.left.lt k e).1), Nat.le_trans h.hb hg.size⟩
theorem PSt.push {base n : Nat} {W wr w' : World} {ge : Nat} {u4 u5 v4 : Value} {st : List (Nat × Nat)} {left : List Nat} {ent : List Bool} {b : Nat} (h : PSt base n W wr ge u4 u5 st left ent) (hg : wr.grownBy w' u4.ownBlock) (ho : w'.ownsRow base 94 2 v4 (st.length + 1) (wayV st ++ [.int .i64 (b : Int), .int .i64 0])) : PSt base n W w' ge v4 u5 ((b, 0) :: st) left ent := by
  have a1 := gr_apart h.left h.way (by decide)
  have a2 := gr_apart h.ent h.way (by decide)
  exact ⟨by simpa [wayV] using ho, h.left.kept hg a1, h.ent.kept hg a2, h.below.grown hg h.hb (fun k e => (h.way.lt k e).1), Nat.le_trans h.hb hg.size⟩
theorem PSt.pop {base n : Nat} {W wr : World} {ge gw p cw : Nat} {u5 : Value} {b q : Nat} {st : List (Nat × Nat)} {left : List Nat} {ent : List Bool} (h : PSt base n W wr ge (.slice (some ⟨gw, 0, none⟩) (p + 1) cw) u5 ((b, q) :: st) left ent) (hp : p = st.length) : PSt base n W wr ge (.slice (some ⟨gw, 0, none⟩) p cw) u5 st left ent := by
  subst hp
  have := gr_cut h.way st.length (by simp)
  have e : (wayV ((b, q) :: st)).take (st.length * 2) = wayV st := by
    simp only [wayV]
    rw [← wayV_len st, List.take_left]
  rw [e] at this
  exact ⟨this, h.left, h.ent, h.below, h.hb⟩
end Go.Proofs.Ytoplllebaagnnaa
namespace Go.Proofs.Ytoplllebaagnnaa
set_option linter.unusedVariables false
set_option linter.unusedSimpArgs false
open Go.RowKit

/-- Between two rounds, with so much fuel left. -/
def PK (base n : Nat) (W : World) (ge : Nat) (g : List GB) (res : List Nat) (k : Nat) (u4 u5 : Value) (wr : World) : Prop :=
  ∃ st left ent, PSt base n W wr ge u4 u5 st left ent ∧ PIn g st left ent ∧ postRun g k ent st left = some res

set_option maxRecDepth 100000 in
set_option maxHeartbeats 16000000 in
theorem post_g (n0 : Nat) (f : Value) (g : List GB) (w : World) (hf : GF n0 w f g) (hn : n0 ≤ w.heap.size) :
    Calls Try.prog 46 #[f] w fun e w' => ∃ v, e = .returned v ∧ w'.ownsRow w.heap.size 3 1 v (postP g).length (natsV (postP g)) ∧ Below w.heap.size w w' := by
  have hf0 := hf
  obtain ⟨s, pA, pn, pc, r, iA, in_, ic, bA, bn, bc, rfl, hG, hbn⟩ := hf
  obtain ⟨W, hW, hbW, hzW, h0W⟩ := gr_one w #[.string s, .slice pA pn pc, .int .i64 r, .slice iA in_ ic, .slice bA bn bc] 27
  obtain ⟨x0, x1, x2, x3, x4, -⟩ := gr_five h0W
  have hlen : bn ≤ 1048576 := by rw [hbn]; obtain ⟨_, _, _, h, _⟩ := hG; exact h
  have hfW : GF n0 W (.agg #[.string s, .slice pA pn pc, .int .i64 r, .slice iA in_ ic, .slice bA bn bc]) g := ⟨s, pA, pn, pc, r, iA, in_, ic, bA, bn, bc, rfl, hG.keep (hbW.mono hn), hbn⟩
  have hH := whole_g n0 _ g W hfW (by omega)
  have HG := Lib.hid hG
  have Hbn := Lib.hid hbn
  have HbW := Lib.hid hbW
  have HW := Lib.hid hW
  have HzW := Lib.hid hzW
  have H0W := Lib.hid h0W
  clear hbW hW hG hbn hzW h0W hf0 hfW
  cases hq : wholeG g with
  | false =>
    rw [hq] at hH
    have hnil : postP g = [] := by unfold postP; rw [hq]; rfl
    go_enter Try.func46, Try.ntmps46
    go_upto_region 1 with fail
    rw [← HW.out]
    go_wp2_with (go_at_call 68; refine hH.mono ?_; rintro e w1 ⟨rfl, h1⟩; have H1 := Lib.hid h1; clear h1 hH)
    go_ret
    refine ⟨_, rfl, ?_, HbW.out.trans (H1.out.mono (by rw [HzW.out]; omega))⟩
    rw [hnil]
    exact World.ownsRow_nil _ _ _ _
  | true =>
    rw [hq] at hH
    obtain ⟨-, -, j0, hrun⟩ := postP_run hq
    obtain ⟨res, hres⟩ : ∃ res, res = postP g := ⟨_, rfl⟩
    rw [← hres] at hrun ⊢
    obtain ⟨hpos, hall⟩ := wholeG_all hq
    have Hall := Lib.hid hall
    have Hrun := Lib.hid hrun
    have hposb : 0 < bn := by rw [Hbn.out]; exact hpos
    clear hres hrun hall hq hpos
    obtain ⟨i0, hi0, hz0, hz1, hz2⟩ := info_parts infoBoolG
    have Hi := Lib.hid hi0
    have Hz0 := Lib.hid hz0
    have Hz1 := Lib.hid hz1
    have Hz2 := Lib.hid hz2
    obtain ⟨j1, hj1, jz0, jz1, jz2⟩ := info_parts infoIntG
    have Ji := Lib.hid hj1
    have Jz0 := Lib.hid jz0
    have Jz1 := Lib.hid jz1
    have Jz2 := Lib.hid jz2
    obtain ⟨k1, hk1, kz0, kz1, kz2⟩ := info_parts infoStayG
    have Ki := Lib.hid hk1
    have Kz0 := Lib.hid kz0
    have Kz1 := Lib.hid kz1
    have Kz2 := Lib.hid kz2
    clear hi0 hz0 hz1 hz2 hj1 jz0 jz1 jz2 hk1 kz0 kz1 kz2
    go_enter Try.func46, Try.ntmps46
    go_upto_region 1 with fail
    rw [← HW.out]
    go_upto_region 3 with (go_at_call 68; refine hH.mono ?_; rintro e w1 ⟨rfl, h1⟩; have H1 := Lib.hid h1; clear h1 hH)
    clear x0 x1 x2 x3 x4
    have h01 := (H1.out.block _ (by rw [HzW.out]; omega)).trans H0W.out
    obtain ⟨x0, x1, x2, x3, x4, -⟩ := gr_five h01
    go_wp2_with (at_make; refine wpList_make_full _ rfl (.tmp 14) (.tmp 14) 33 rfl w1.heap.size 4 i0 (.bool false) 1 Try.underlying33 Hi.out Hz0.out Hz1.out _ _ _ _ bn rfl rfl rfl rfl (by rw [Hz2.out]; omega) (by unfold maxLen; omega) (Nat.le_refl _) ?_)
    intro w2 ho2 hg2
    have hb2 : Below w1.heap.size w1 w2 := (Below.refl _ _).grown hg2 (Nat.le_refl _) (fun k e => by cases e)
    rw [madeBool] at ho2
    have hP2 : PSt w1.heap.size bn w1 w2 w1.heap.size (.slice none 0 0) (.slice none 0 0) [] [] (List.replicate bn false) := ⟨World.ownsRow_nil _ _ _ _, World.ownsRow_nil _ _ _ _, ho2, hb2, hb2.size⟩
    have f2 := ho2.frozenAt 0
    have e2 := ho2.cellAt 0 (by omega)
    rw [boolsV_at _ _ (by simpa using hposb)] at e2
    have hP3 := hP2.set (t := 0)
    obtain ⟨Y, hY⟩ : ∃ Y, Y = w2.setCell ⟨w1.heap.size, 0, none⟩ (.bool true) := ⟨_, rfl⟩
    rw [← hY] at hP3
    have HP3 := Lib.hid hP3
    have HY := Lib.hid hY
    clear ho2 hg2 hb2 hP2 hY hP3 x0 x1 x2 x3 x4
    go_upto_region 5 with fail
    rw [← HY.out]
    clear e2 f2
    obtain ⟨Z, hZ, hbZ, hzZ, h0Z⟩ := gr_one Y #[.int .i64 0, .int .i64 0] 94
    have hP4 := HP3.out.next hbZ
    have hw4 : Z.ownsRow w1.heap.size 94 2 (.slice (some ⟨Y.heap.size, 0, none⟩) 1 1) 1 (wayV [(0, 0)]) := by
      rw [hZ]
      exact World.ownsRow_lit Y #[.int .i64 0, .int .i64 0] 1 HP3.out.hb (by decide) rfl
    have hP5 : PSt w1.heap.size bn w1 Z w1.heap.size (.slice (some ⟨Y.heap.size, 0, none⟩) 1 1) (.slice none 0 0) [(0, 0)] [] ((List.replicate bn false).set 0 true) := ⟨hw4, hP4.left, hP4.ent, hP4.below, hP4.hb⟩
    have hIn : PIn g [(0, 0)] [] ((List.replicate bn false).set 0 true) := by
      refine PIn.enter ⟨by simp [Hbn.out], by simp [unseen, Hbn.out], fun p hp => by cases hp⟩ (by rw [← Hbn.out]; exact hposb) (by simp [List.getD, hposb])
    rw [Hbn.out] at hIn hP5
    have HP5 := Lib.hid hP5
    have HIn := Lib.hid hIn
    have HZ := Lib.hid hZ
    clear hZ hbZ hzZ h0Z hP4 hw4 hP5 hIn HP3 HY
    go_upto_region 6 with fail
    rw [← HZ.out]
    go_upto_region 7 with fail
    have hPK : ∃ k, PK w1.heap.size bn w1 w1.heap.size g res k (.slice (some ⟨Y.heap.size, 0, none⟩) 1 1) (.slice none 0 0) Z := ⟨j0, _, _, _, by rw [Hbn.out]; exact HP5.out, HIn.out, Hrun.out⟩
    clear HP5 HIn Hrun HZ
    go_loopw [4, 5] (fun u4 u5 wr => ∃ k, PK w1.heap.size bn w1 w1.heap.size g res k u4 u5 wr) (fun u4 u5 wr => leastN (fun k => PK w1.heap.size bn w1 w1.heap.size g res k u4 u5 wr))
    case atStart => exact hPK
    case round =>
      clear hPK
      obtain ⟨K, hK⟩ : ∃ K, K = leastN (fun k => PK w1.heap.size bn w1 w1.heap.size g res k u4 u5 wr) := ⟨_, rfl⟩
      have hk : PK w1.heap.size bn w1 w1.heap.size g res K u4 u5 wr := by rw [hK]; exact leastN_spec hrel
      have HK := Lib.hid hK
      clear hK hrel
      obtain ⟨st, left, ent, hS, hI, hr⟩ := hk
      have hB1 : Below w.heap.size w wr := (HbW.out.trans (H1.out.mono (by rw [HzW.out]; omega))).trans (hS.below.mono (by have := H1.out.size; have := HzW.out; omega))
      have h0r := (hS.below.block _ (gr_in h01)).trans h01
      obtain ⟨x0, x1, x2, x3, x4, -⟩ := gr_five h0r
      have HB1 := Lib.hid hB1
      cases st with
      | nil =>
        have hres : left = res := by cases K <;> simpa [postRun] using hr
        subst hres
        obtain ⟨A4, c4, hA4⟩ := gr_slice hS.way
        obtain ⟨A5, c5, hA5⟩ := gr_slice hS.left
        simp only [List.length_nil] at hA4
        subst hA4 hA5
        have HS := Lib.hid hS
        clear hS hI hr hB1 h0r
        go_wp2
        go_ret
        exact ⟨_, rfl, gr_mono HS.out.left (by have := H1.out.size; have := HzW.out; omega), HB1.out⟩
      | cons p st =>
        obtain ⟨b, q⟩ := p
        cases K with
        | zero => simp [postRun] at hr
        | succ k =>
          obtain ⟨hbl, hql⟩ := hI.lt (b, q) (by simp)
          obtain ⟨A4, c4, hA4⟩ := gr_slice hS.way
          obtain ⟨A5, c5, hA5⟩ := gr_slice hS.left
          subst hA4 hA5
          obtain ⟨gw, hgw, -, hgwb, hgwl⟩ := gr_some hS.way (by simp)
          subst hgw
          obtain ⟨p, hp⟩ : ∃ p, p = st.length := ⟨_, rfl⟩
          have hl4 : ((b, q) :: st).length = p + 1 := by rw [hp]; rfl
          rw [hl4] at hS HK ⊢
          have hp2 : p < 1048576 := by have := hI.few; rw [hl4] at this; rw [← Hbn.out] at this; omega
          have hlf : left.length < 1048576 := by have := hI.few; rw [hl4] at this; rw [← Hbn.out] at this; omega
          have hway : wr.ownsRow w1.heap.size 94 2 (.slice (some ⟨gw, 0, none⟩) (p + 1) c4) (p + 1) (wayV ((b, q) :: st)) := by have := hS.way; rw [hl4] at this; exact this
          have c0 : wr.cell? ⟨gw, p * 2, none⟩ = some (.int .i64 b) := by
            rw [hway.cellAt (p * 2) (by omega), wayV, List.getElem?_append_right (by rw [wayV_len]; omega), wayV_len, hp]
            simp
          have c1 : wr.cell? ⟨gw, p * 2 + 1, none⟩ = some (.int .i64 q) := by
            rw [hway.cellAt (p * 2 + 1) (by omega), wayV, List.getElem?_append_right (by rw [wayV_len]; omega), wayV_len, hp]
            simp
          have f1 := hway.frozenAt (p * 2 + 1)
          obtain ⟨bb, o, qA, qc, tA, tc, lA, ln, lc, rfl, hb0, d0, d1, d2, d3, d4, rp, rt, hok⟩ := (HG.out.keep (hB1.mono hn)).at hbl
          have hto : tosG g b = g[b].to_ := tosG_at hbl
          rw [hto] at hql
          obtain ⟨to_, hto_⟩ : ∃ l, l = g[b].to_ := ⟨_, rfl⟩
          obtain ⟨m, hm⟩ : ∃ m, m = to_.length := ⟨_, rfl⟩
          have hml : m ≤ 1048576 := by rw [hm, hto_]; exact hok.2.2.1
          rw [← hto_] at hto hql d4 rt
          rw [← hm] at hql d4 rt
          have hbb : b < bn := by rw [Hbn.out]; exact hbl
          have hga : g[b]? = some g[b] := List.getElem?_eq_getElem hbl
          have hmem : ∀ t ∈ to_, 0 ≤ t ∧ t < (bn : Int) := fun t ht => by rw [Hbn.out]; exact Hall.out b _ hga t (by rw [← hto_]; exact ht)
          have Hto := Lib.hid hto
          have Hm := Lib.hid hm
          have Hp := Lib.hid hp
          have Hrt := Lib.hid rt
          have HS := Lib.hid hS
          have HI := Lib.hid hI
          have Hr := Lib.hid hr
          have Hmem := Lib.hid hmem
          clear hto hm hp rt hS hI hr hto_ hmem hga hok rp d0 d1 d2 d3 hb0 hB1 h0r hl4 hbl hway
          by_cases hqm : q = m
          · subst hqm
            go_upto_region 9 with fail
            go_quiet (fail)
            generalize hX : World.drewN wr _ = X
            have bX : Below wr.heap.size wr X := by rw [← hX]; exact below_dr (Below.refl _ _) _
            have e0 : X.cell? ⟨gw, p * 2, none⟩ = some (.int .i64 b) := by rw [← hX]; exact c0
            have e1 : X.cell? ⟨gw, p * 2 + 1, none⟩ = some (.int .i64 q) := by rw [← hX]; exact c1
            have hSX := HS.out.next bX
            obtain ⟨A2, hA2, hbA, hzA, h0A⟩ := gr_one X #[.int .i64 b] 3
            have hSA := hSX.next hbA
            have HSA := Lib.hid hSA
            have HOW := Lib.hid hSA.left
            have HNW := Lib.hid (World.news_of_block h0A)
            have HOn : Hid (∀ u ∈ ([.int .i64 b] : List Value), u.oneCell' = true) := Lib.hid (by intro u hu; simp at hu; subst hu; rfl)
            have hsz2 := hSA.hb
            have hcut := cut_stay (g := gw) (c := c4) (n := p + 1) p (by omega) (by have := (gr_len HS.out.way).1; omega)
            have Hr2 : Hid (postRun g k ent st (left ++ [b]) = some res) := Lib.hid (by
              have := Hr.out
              rw [postRun, Hto.out, List.getElem?_eq_none (by rw [← Hm.out]; exact Nat.le_refl _)] at this
              exact this)
            rw [hA2] at HOW HNW hsz2
            have HA2 := Lib.hid hA2
            clear hX bX c0 c1 f1 d4 x0 x1 x2 x3 x4 hSX hSA hA2 hbA hzA h0A Hr
            go_wp2_with (at_builtin; refine wpList_append_lies _ rfl (.tmp 45) (.tmp 50) 23 rfl w1.heap.size 3 j1 (.int .i64 0) 1 8 Try.underlying23 Ji.out Jz0.out Jz1.out Jz2.out rfl (by decide) (.slice A5 left.length c5) left.length (natsV left) rfl HOW.out ⟨X.heap.size, 0, none⟩ 1 1 [.int .i64 b] rfl rfl HNW.out HOn.out (by decide) (by unfold maxLen; omega) (by omega) hsz2 _ rfl ?_)
            intro gp cp w5 hown5 hgrow hat hlt5
            rw [← HA2.out] at hgrow
            have HS5 := Lib.hid ((HSA.out.left_ hgrow hown5).pop Hp.out)
            have Hnew := Lib.hid (show PK w1.heap.size bn w1 w1.heap.size g res k (.slice (some ⟨gw, 0, none⟩) p c4) (.slice (some ⟨gp, 0, none⟩) (left.length + 1) cp) w5 from ⟨st, _, ent, HS5.out, HI.out.leave, Hr2.out⟩)
            clear hown5 hgrow hat hlt5 HOW HNW hsz2 HSA HA2 HS5
            go_wp2
            go_roundw
            case rel => exact ⟨k, Hnew.out⟩
            case measure => rw [← HK.out]; exact Nat.lt_succ_of_le (leastN_le Hnew.out)
          · have hlt : q < m := by omega
            have hqf := eqb_false hqm
            have hqt : q < to_.length := by rw [← Hm.out]; exact hlt
            obtain ⟨b2, o2, rfl, hb2, hc⟩ := (Hrt.out).at hqt
            have hget : (tosG g b)[q]? = some to_[q] := by rw [Hto.out]; exact List.getElem?_eq_getElem hqt
            obtain ⟨t0, t1⟩ := Hmem.out to_[q] (List.getElem_mem hqt)
            obtain ⟨t, ht⟩ : ∃ t : Nat, (t : Int) = to_[q] := ⟨to_[q].toNat, by omega⟩
            rw [← ht] at hc hget t0 t1
            have htl : t < bn := by omega
            have hr := Hr.out
            rw [postRun, hget] at hr
            simp only [Int.toNat_natCast] at hr
            have Hr2 := Lib.hid hr
            have HI2 := Lib.hid (HI.out.look (show q < (tosG g b).length by rw [Hto.out]; exact hqt))
            have hS2 := HS.out.look (q + 1)
            rw [← Hp.out] at hS2
            clear ht hget hr Hr t0 t1 hb2 hqt
            go_upto_region 9 with fail
            go_quiet (fail)
            generalize hX : World.drewN wr _ = X
            have bX : Below wr.heap.size wr X := by rw [← hX]; exact below_dr (Below.refl _ _) _
            have e0 : X.cell? ⟨gw, p * 2, none⟩ = some (.int .i64 b) := by rw [← hX]; exact c0
            have e1 : X.cell? ⟨gw, p * 2 + 1, none⟩ = some (.int .i64 q) := by rw [← hX]; exact c1
            have ef : X.frozen? ⟨gw, p * 2 + 1, none⟩ = false := by rw [← hX]; exact f1
            have e2 : X.cell? ⟨b2, o2 + q, none⟩ = some (.int .i64 t) := by rw [← hX]; exact hc
            have hSX : PSt w1.heap.size bn w1 (X.setCell ⟨gw, p * 2 + 1, none⟩ (.int .i64 ((q + 1 : Nat) : Int))) w1.heap.size (.slice (some ⟨gw, 0, none⟩) (p + 1) c4) (.slice A5 left.length c5) ((b, q + 1) :: st) left ent := by
              have := (HS.out.next bX).look (q + 1)
              rw [← Hp.out] at this
              exact this
            rw [show ((q + 1 : Nat) : Int) = (q : Int) + 1 from rfl] at hSX
            obtain ⟨Y, hY⟩ : ∃ Y, Y = X.setCell ⟨gw, p * 2 + 1, none⟩ (.int .i64 ((q : Int) + 1)) := ⟨_, rfl⟩
            rw [← hY] at hSX
            have g2 := hSX.ent.cellAt t (by omega)
            rw [boolsV_at _ _ (by rw [HI.out.len, ← Hbn.out]; exact htl)] at g2
            have gf := hSX.ent.frozenAt t
            have HY := Lib.hid hY
            have HSX := Lib.hid hSX
            clear hX bX c0 c1 f1 d4 x0 x1 x2 x3 x4 hSX hY hS2 hc
            go_upto_region 15 with fail
            rw [← HY.out]
            clear e0 e1 ef e2
            cases hq : ent.getD t false with
            | true =>
              rw [hq] at g2 Hr2
              rw [if_pos rfl] at Hr2
              have Hnew := Lib.hid (show PK w1.heap.size bn w1 w1.heap.size g res k (.slice (some ⟨gw, 0, none⟩) (p + 1) c4) (.slice A5 left.length c5) Y from ⟨_, left, ent, HSX.out, HI2.out, Hr2.out⟩)
              clear hq
              go_wp2
              go_roundw
              case rel => exact ⟨k, Hnew.out⟩
              case measure => rw [← HK.out]; exact Nat.lt_succ_of_le (leastN_le Hnew.out)
            | false =>
              rw [hq] at g2 Hr2
              rw [if_neg (by simp)] at Hr2
              have hSE := HSX.out.set (t := t)
              have HI3 := Lib.hid (HI2.out.enter (t := t) (by rw [← Hbn.out]; exact htl) hq)
              obtain ⟨X2, hX2⟩ : ∃ X2, X2 = Y.setCell ⟨w1.heap.size, t, none⟩ (.bool true) := ⟨_, rfl⟩
              rw [← hX2] at hSE
              have HX2 := Lib.hid hX2
              obtain ⟨A2, hA2, hbA, hzA, h0A⟩ := gr_one X2 #[.int .i64 t, .int .i64 0] 94
              have hSA := hSE.next hbA
              have HSA := Lib.hid hSA
              have HOW := Lib.hid hSA.way
              have HNW := Lib.hid (World.news_of_block h0A)
              have HOn : Hid (∀ u ∈ ([.int .i64 t, .int .i64 0] : List Value), u.oneCell' = true) := Lib.hid (by intro u hu; simp at hu; rcases hu with rfl | rfl <;> rfl)
              have hsz2 := hSA.hb
              rw [hA2] at HOW HNW hsz2
              have HA2 := Lib.hid hA2
              clear hX2 hSE hSA hA2 hbA hzA h0A hq
              go_upto_region 17 with fail
              rw [← HX2.out]
              clear g2 gf
              rw [show ((b, q + 1) :: st).length = p + 1 by rw [Hp.out]; rfl] at HOW
              go_wp2_with (at_builtin; refine wpList_append_lies _ rfl (.tmp 79) (.tmp 82) 95 rfl w1.heap.size 94 k1 (.agg #[.int .i64 0, .int .i64 0]) 2 16 Try.underlying95 Ki.out Kz0.out Kz1.out Kz2.out rfl (by decide) (.slice (some ⟨gw, 0, none⟩) (p + 1) c4) (p + 1) (wayV ((b, q + 1) :: st)) rfl HOW.out ⟨X2.heap.size, 0, none⟩ 1 1 [.int .i64 t, .int .i64 0] rfl rfl HNW.out HOn.out (by decide) (by unfold maxLen; omega) (by omega) hsz2 _ rfl ?_)
              intro gp cp w5 hown5 hgrow hat hlt5
              rw [← HA2.out] at hgrow
              have HS5 := HSA.out.push (b := t) hgrow (by rw [show ((b, q + 1) :: st).length = p + 1 by rw [Hp.out]; rfl]; exact hown5)
              have Hnew := Lib.hid (show PK w1.heap.size bn w1 w1.heap.size g res k (.slice (some ⟨gp, 0, none⟩) (p + 1 + 1) cp) (.slice A5 left.length c5) w5 from ⟨_, left, _, HS5, HI3.out, Hr2.out⟩)
              clear hown5 hgrow hat hlt5 HOW HNW hsz2 HSA HA2 HS5 HX2
              go_wp2
              go_roundw
              case rel => exact ⟨k, Hnew.out⟩
              case measure => rw [← HK.out]; exact Nat.lt_succ_of_le (leastN_le Hnew.out)
end Go.Proofs.Ytoplllebaagnnaa
