/-
  How blocks are left: the walk itself.
-/
import Derived.Test.YtlejpoofgnenhaaGrC
namespace Go.Proofs.Ytlejpoofgnenhaa
open Go.RowKit
set_option linter.unusedVariables false
set_option linter.unusedSimpArgs false

theorem addr0 (a : Addr) : a.add 0 = a := by simp [Addr.add]
theorem cut_stay {g n c : Nat} (m : Nat) (hm : m ≤ n) (hn : n ≤ c) : ∀ W : World, (Instr.slice 87 (.slice (some ⟨g, 0, none⟩) n c) none (some (.int .i64 (m : Int))) none).run Try.prog W = .ok (.slice (some ⟨g, 0, none⟩) m c) W := fun W => by
  rw [run_slice_h W 87 (some ⟨g, 0, none⟩) n c (by simp [Program.elem, Try.underlying87]) .i64 (m : Int) (by omega) (by omega)]
  go_simp
theorem tosG_at {g : List GB} {b : Nat} (hb : b < g.length) : tosG g b = g[b].to_ := by simp [tosG, hb]
theorem eqb_false {a b : Nat} (h : a ≠ b) : ((a : Int) == (b : Int)) = false := by
  have h' : (a : Int) ≠ (b : Int) := by omega
  exact beq_eq_false_iff_ne.2 h'
theorem gr_len {w : World} {base : Nat} {T : TypeId} {z : Nat} {A : Option Addr} {m c n : Nat} {xs : List Value} (h : w.ownsRow base T z (.slice A m c) n xs) : m ≤ c ∧ m = n := by
  rcases h.2 with ⟨hv, rfl⟩ | ⟨g, cap, cur, hv, _, _, hnc, _⟩
  · injection hv with e1 e2 e3
    omega
  · injection hv with e1 e2 e3
    omega

/-- What is known of the rows between two rounds. -/
structure PSt (base n : Nat) (W wr : World) (ge : Nat) (u4 u5 : Value) (st : List (Nat × Nat)) (left : List Nat) (ent : List Bool) : Prop where
  way : wr.ownsRow base 86 2 u4 st.length (wayV st)
  left : wr.ownsRow base 3 1 u5 left.length (natsV left)
  ent : wr.ownsRow base 4 1 (.slice (some ⟨ge, 0, none⟩) n n) n (boolsV ent)
  below : Below base W wr
  hb : base ≤ wr.heap.size
/-- What is known of the blocks that are entered. -/
structure PIn (g : List GB) (st : List (Nat × Nat)) (left : List Nat) (ent : List Bool) : Prop where
  len : ent.length = g.length
  cnt : st.length + left.length + unseen ent = g.length
  lt : ∀ p ∈ st, p.1 < g.length ∧ p.2 ≤ (tosG g p.1).length
theorem PIn.leave {g : List GB} {b q : Nat} {st : List (Nat × Nat)} {left : List Nat} {ent : List Bool} (h : PIn g ((b, q) :: st) left ent) : PIn g st (left ++ [b]) ent :=
  ⟨h.len, by have := h.cnt; simp at this ⊢; omega, fun p hp => h.lt p (List.mem_cons_of_mem _ hp)⟩
theorem PIn.look {g : List GB} {b q : Nat} {st : List (Nat × Nat)} {left : List Nat} {ent : List Bool} (h : PIn g ((b, q) :: st) left ent) (hq : q < (tosG g b).length) : PIn g ((b, q + 1) :: st) left ent :=
  ⟨h.len, by have := h.cnt; simp at this ⊢; omega, fun p hp => by
    rcases List.mem_cons.1 hp with rfl | hp
    · exact ⟨(h.lt (b, q) (by simp)).1, hq⟩
    · exact h.lt p (List.mem_cons_of_mem _ hp)⟩
theorem PIn.enter {g : List GB} {t : Nat} {st : List (Nat × Nat)} {left : List Nat} {ent : List Bool} (h : PIn g st left ent) (ht : t < g.length) (hu : ent.getD t false = false) : PIn g ((t, 0) :: st) left (ent.set t true) :=
  ⟨by simpa using h.len, by have := h.cnt; have := unseen_set ent t (by rw [h.len]; exact ht) hu; simp; omega, fun p hp => by
    rcases List.mem_cons.1 hp with rfl | hp
    · exact ⟨ht, Nat.zero_le _⟩
    · exact h.lt p hp⟩
theorem PIn.few {g : List GB} {st : List (Nat × Nat)} {left : List Nat} {ent : List Bool} (h : PIn g st left ent) : st.length + left.length ≤ g.length := by have := h.cnt; omega

theorem PSt.look {base n : Nat} {W wr : World} {ge gw p cw b q : Nat} {u5 : Value} {st : List (Nat × Nat)} {left : List Nat} {ent : List Bool} (h : PSt base n W wr ge (.slice (some ⟨gw, 0, none⟩) p cw) u5 ((b, q) :: st) left ent) (x : Nat) :
    PSt base n W (wr.setCell ⟨gw, st.length * 2 + 1, none⟩ (.int .i64 (x : Int))) ge (.slice (some ⟨gw, 0, none⟩) p cw) u5 ((b, x) :: st) left ent := by
  have hp := (gr_len h.way).2
  subst hp
  obtain ⟨s1, s2⟩ := h.way.stored (st.length * 2 + 1) (.int .i64 (x : Int))
  have a1 := gr_apart h.left h.way (by decide)
  have a2 := gr_apart h.ent h.way (by decide)
  have hgw := (h.way.lt gw rfl).1
  refine ⟨?_, h.left.kept s2 a1, h.ent.kept s2 a2, h.below.setCell (p := ⟨gw, _, none⟩) hgw _, Nat.le_trans h.hb s2.size⟩
  have e : (wayV ((b, q) :: st)).set (st.length * 2 + 1) (.int .i64 (x : Int)) = wayV ((b, x) :: st) := by
    simp only [wayV]
    rw [List.set_append_right _ _ (by rw [wayV_len]; omega), wayV_len]
    simp
  rw [e] at s1
  exact s1
theorem PSt.set {base n : Nat} {W wr : World} {ge t : Nat} {u4 u5 : Value} {st : List (Nat × Nat)} {left : List Nat} {ent : List Bool} (h : PSt base n W wr ge u4 u5 st left ent) :
    PSt base n W (wr.setCell ⟨ge, t, none⟩ (.bool true)) ge u4 u5 st left (ent.set t true) := by
  obtain ⟨s1, s2⟩ := h.ent.stored t (.bool true)
  have a1 := gr_apart h.left h.ent (by decide)
  have a2 := gr_apart h.way h.ent (by decide)
  have hge := (h.ent.lt ge rfl).1
  rw [boolsV_set] at s1
  exact ⟨h.way.kept s2 a2, h.left.kept s2 a1, s1, h.below.setCell (p := ⟨ge, _, none⟩) hge _, Nat.le_trans h.hb s2.size⟩
theorem PSt.next {base n : Nat} {W wr w' : World} {ge : Nat} {u4 u5 : Value} {st : List (Nat × Nat)} {left : List Nat} {ent : List Bool} (h : PSt base n W wr ge u4 u5 st left ent) (hb : Below wr.heap.size wr w') : PSt base n W w' ge u4 u5 st left ent :=
  ⟨gr_up h.way hb, gr_up h.left hb, gr_up h.ent hb, h.below.trans (hb.mono h.hb), Nat.le_trans h.hb hb.size⟩
theorem PSt.left_ {base n : Nat} {W wr w' : World} {ge : Nat} {u4 u5 v5 : Value} {st : List (Nat × Nat)} {left : List Nat} {ent : List Bool} {b : Nat} (h : PSt base n W wr ge u4 u5 st left ent) (hg : wr.grownBy w' u5.ownBlock) (ho : w'.ownsRow base 3 1 v5 (left.length + 1) (natsV left ++ [.int .i64 (b : Int)])) : PSt base n W w' ge u4 v5 st (left ++ [b]) ent := by
  have a1 := gr_apart h.way h.left (by decide)
  have a2 := gr_apart h.ent h.left (by decide)
  exact ⟨h.way.kept hg a1, by simpa [natsV] using ho, h.ent.kept hg a2, h.below.grown hg h.hb (fun k e => (h.left.lt k e).1), Nat.le_trans h.hb hg.size⟩
theorem PSt.push {base n : Nat} {W wr w' : World} {ge : Nat} {u4 u5 v4 : Value} {st : List (Nat × Nat)} {left : List Nat} {ent : List Bool} {b : Nat} (h : PSt base n W wr ge u4 u5 st left ent) (hg : wr.grownBy w' u4.ownBlock) (ho : w'.ownsRow base 86 2 v4 (st.length + 1) (wayV st ++ [.int .i64 (b : Int), .int .i64 0])) : PSt base n W w' ge v4 u5 ((b, 0) :: st) left ent := by
  have a1 := gr_apart h.left h.way (by decide)
  have a2 := gr_apart h.ent h.way (by decide)
  exact ⟨by simpa [wayV] using ho, h.left.kept hg a1, h.ent.kept hg a2, h.below.grown hg h.hb (fun k e => (h.way.lt k e).1), Nat.le_trans h.hb hg.size⟩
theorem PSt.pop {base n : Nat} {W wr : World} {ge gw p cw : Nat} {u5 : Value} {b q : Nat} {st : List (Nat × Nat)} {left : List Nat} {ent : List Bool} (h : PSt base n W wr ge (.slice (some ⟨gw, 0, none⟩) (p + 1) cw) u5 ((b, q) :: st) left ent) (hp : p = st.length) : PSt base n W wr ge (.slice (some ⟨gw, 0, none⟩) p cw) u5 st left ent := by
  subst hp
  have := gr_cut h.way st.length (by simp)
  have e : (wayV ((b, q) :: st)).take (st.length * 2) = wayV st := by
    simp only [wayV]
    rw [← wayV_len st, List.take_left]
  rw [e] at this
  exact ⟨this, h.left, h.ent, h.below, h.hb⟩
end Go.Proofs.Ytlejpoofgnenhaa
