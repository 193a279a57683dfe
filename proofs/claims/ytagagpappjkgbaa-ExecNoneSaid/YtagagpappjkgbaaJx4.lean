/-
  Ways through blocks over plain data: how blocks are left, by calls within one another and by a row of blocks that were entered; both come to the same.
  How blocks are left: the walk.
  How blocks are left: the walk itself.
  graph.Post: how blocks are left.
  A row is reversed.
  graph.Order; graph.Places.
  graph.Places.
  Worlds: all but one block; rows of a call's own, many at once, each in its own block.
  The law's Graph over plain data; what is known of a function while it is made.
-/
import Derived.Test.YtagagpappjkgbaaJx1
import Derived.Lib.MinMax
namespace Go.Proofs.Ytagagpappjkgbaa
set_option linter.unusedVariables false
set_option linter.unusedSimpArgs false
open Go.RowKit

/-- Where a block goes. -/
def tosG (g : List GB) (b : Nat) : List Int := ((g[b]?).map GB.to_).getD []
def goP (f : Nat → List Bool → List Nat → Option (List Bool × List Nat)) : List Int → List Bool → List Nat → Option (List Bool × List Nat)
  | [], s, o => some (s, o)
  | t :: ts, s, o => if s.getD t.toNat false then goP f ts s o else match f t.toNat s o with
    | none => none
    | some (s', o') => goP f ts s' o'
/-- By calls within one another. -/
def walkP (g : List GB) : Nat → Nat → List Bool → List Nat → Option (List Bool × List Nat)
  | 0, _, _, _ => none
  | k + 1, b, s, o => match goP (walkP g k) (tosG g b) (s.set b true) o with
    | none => none
    | some (s', o') => some (s', o' ++ [b])
/-- By a row of blocks that were entered. -/
def postRun (g : List GB) : Nat → List Bool → List (Nat × Nat) → List Nat → Option (List Nat)
  | _, _, [], o => some o
  | 0, _, _ :: _, _ => none
  | k + 1, s, (b, q) :: st, o => match (tosG g b)[q]? with
    | none => postRun g k s st (o ++ [b])
    | some t => if s.getD t.toNat false then postRun g k s ((b, q + 1) :: st) o else postRun g k (s.set t.toNat true) ((t.toNat, 0) :: (b, q + 1) :: st) o

/-- How many are not entered. -/
def unseen (s : List Bool) : Nat := s.count false
theorem set_getD (s : List Bool) (b : Nat) (hb : b < s.length) : (s.set b true).getD b false = true := by simp [List.getD, hb]
theorem set_getD_ne (s : List Bool) (b c : Nat) (h : b ≠ c) : (s.set b true).getD c false = s.getD c false := by simp [List.getD, List.getElem?_set_ne h]
theorem unseen_set : ∀ (s : List Bool) (b : Nat), b < s.length → s.getD b false = false → unseen (s.set b true) + 1 = unseen s
  | [], b, hb, _ => by simp at hb
  | x :: s, 0, _, h => by
    simp [List.getD] at h
    subst h
    simp [unseen]
  | x :: s, b + 1, hb, h => by
    have := unseen_set s b (by simpa using hb) (by simpa [List.getD] using h)
    cases x <;> simp [unseen] at this ⊢ <;> omega
/-- What was entered stays entered. -/
def Sub (s s' : List Bool) : Prop := s'.length = s.length ∧ unseen s' ≤ unseen s ∧ ∀ c, s.getD c false = true → s'.getD c false = true
theorem Sub.refl (s : List Bool) : Sub s s := ⟨rfl, Nat.le_refl _, fun _ h => h⟩
theorem Sub.trans {a b c : List Bool} (h : Sub a b) (k : Sub b c) : Sub a c := ⟨k.1.trans h.1, Nat.le_trans k.2.1 h.2.1, fun x hx => k.2.2 x (h.2.2 x hx)⟩
theorem Sub.set {s : List Bool} {b : Nat} (hb : b < s.length) (h : s.getD b false = false) : Sub s (s.set b true) :=
  ⟨by simp, by have := unseen_set s b hb h; omega, fun c hc => by
    by_cases e : b = c
    · subst e; rw [h] at hc; cases hc
    · rw [set_getD_ne _ _ _ e]; exact hc⟩
def tosOk (g : List GB) : Prop := ∀ b t, t ∈ tosG g b → 0 ≤ t ∧ t < g.length
theorem tosOk_of {g : List GB} (h : wholeG g = true) : tosOk g := by
  intro b t ht
  unfold tosG at ht
  cases hb : g[b]? with
  | none => rw [hb] at ht; simp at ht
  | some d => rw [hb] at ht; exact (wholeG_all h).2 b d hb t (by simpa using ht)

theorem goP_total (g : List GB) (f : Nat → List Bool → List Nat → Option (List Bool × List Nat)) (n k : Nat) (hf : ∀ b s o, s.length = n → unseen s ≤ k → b < n → s.getD b false = false → ∃ s' o', f b s o = some (s', o') ∧ Sub s s') :
    ∀ (ts : List Int) (s : List Bool) (o : List Nat), s.length = n → unseen s ≤ k → (∀ t ∈ ts, 0 ≤ t ∧ t < n) → ∃ s' o', goP f ts s o = some (s', o') ∧ Sub s s'
  | [], s, o, _, _, _ => ⟨s, o, rfl, Sub.refl s⟩
  | t :: ts, s, o, hs, hu, ht => by
    unfold goP
    have h0 := ht t (by simp)
    cases hq : s.getD t.toNat false with
    | true => rw [if_pos rfl]; exact goP_total g f n k hf ts s o hs hu (fun x hx => ht x (List.mem_cons_of_mem _ hx))
    | false =>
      rw [if_neg (by simp)]
      obtain ⟨s', o', h1, h2⟩ := hf t.toNat s o hs hu (by omega) hq
      rw [h1]
      obtain ⟨s2, o2, h3, h4⟩ := goP_total g f n k hf ts s' o' (h2.1.trans hs) (Nat.le_trans h2.2.1 hu) (fun x hx => ht x (List.mem_cons_of_mem _ hx))
      exact ⟨s2, o2, h3, h2.trans h4⟩
theorem walkP_total (g : List GB) (hg : tosOk g) : ∀ (k b : Nat) (s : List Bool) (o : List Nat), s.length = g.length → unseen s ≤ k → b < g.length → s.getD b false = false → ∃ s' o', walkP g k b s o = some (s', o') ∧ Sub s s' ∧ s'.getD b false = true
  | 0, b, s, o, hs, hu, hb, hq => by
    have := unseen_set s b (by omega) hq
    omega
  | k + 1, b, s, o, hs, hu, hb, hq => by
    have h1 := unseen_set s b (by omega) hq
    have h2 := Sub.set (by omega : b < s.length) hq
    obtain ⟨s', o', h3, h4⟩ := goP_total g (walkP g k) g.length k (fun b s o hs hu hb hq => by
      obtain ⟨s', o', h1, h2, _⟩ := walkP_total g hg k b s o hs hu hb hq
      exact ⟨s', o', h1, h2⟩) (tosG g b) (s.set b true) o (by simpa using hs) (by omega) (fun t ht => hg b t ht)
    unfold walkP
    rw [h3]
    exact ⟨s', o' ++ [b], rfl, h2.trans h4, h4.2.2 b (set_getD s b (by omega))⟩

theorem goP_post (g : List GB) (k : Nat) (hf : ∀ b s o s' o', walkP g k b s o = some (s', o') → ∀ st, ∃ j, ∀ m, postRun g (j + m) (s.set b true) ((b, 0) :: st) o = postRun g m s' st o') (b : Nat) :
    ∀ (ts : List Int) (q : Nat) (s : List Bool) (o : List Nat) (s' : List Bool) (o' : List Nat), (tosG g b).drop q = ts → goP (walkP g k) ts s o = some (s', o') → ∀ st, ∃ j, ∀ m, postRun g (j + m) s ((b, q) :: st) o = postRun g m s' ((b, (tosG g b).length) :: st) o'
  | [], q, s, o, s', o', hq, h, st => by
    simp [goP] at h
    obtain ⟨rfl, rfl⟩ := h
    have hl : (tosG g b).length ≤ q := List.drop_eq_nil_iff.1 hq
    refine ⟨0, fun m => ?_⟩
    rw [Nat.zero_add]
    cases m with
    | zero => simp [postRun]
    | succ m => simp [postRun, List.getElem?_eq_none hl]
  | t :: ts, q, s, o, s', o', hq, h, st => by
    have hlt : q < (tosG g b).length := by
      rcases Nat.lt_or_ge q (tosG g b).length with h | h
      · exact h
      · rw [List.drop_eq_nil_iff.2 h] at hq; cases hq
    have hd := List.drop_eq_getElem_cons hlt
    rw [hq] at hd
    injection hd with h1 h2
    have hget : (tosG g b)[q]? = some t := by rw [h1]; exact List.getElem?_eq_getElem hlt
    unfold goP at h
    cases hs : s.getD t.toNat false with
    | true =>
      rw [hs, if_pos rfl] at h
      obtain ⟨j, hj⟩ := goP_post g k hf b ts (q + 1) s o s' o' h2.symm h st
      refine ⟨j + 1, fun m => ?_⟩
      rw [show j + 1 + m = (j + m) + 1 by omega, ← hj m, postRun, hget]
      simp only [hs]
      rfl
    | false =>
      rw [hs, if_neg (by simp)] at h
      cases hw : walkP g k t.toNat s o with
      | none => rw [hw] at h; cases h
      | some r =>
        obtain ⟨s1, o1⟩ := r
        rw [hw] at h
        obtain ⟨j1, hj1⟩ := hf t.toNat s o s1 o1 hw ((b, q + 1) :: st)
        obtain ⟨j, hj⟩ := goP_post g k hf b ts (q + 1) s1 o1 s' o' h2.symm h st
        refine ⟨j1 + j + 1, fun m => ?_⟩
        rw [show j1 + j + 1 + m = (j1 + (j + m)) + 1 by omega, ← hj m, ← hj1 (j + m), postRun, hget]
        simp only [hs]
        rfl
theorem walkP_post (g : List GB) : ∀ (k b : Nat) (s : List Bool) (o : List Nat) (s' : List Bool) (o' : List Nat), walkP g k b s o = some (s', o') → ∀ st, ∃ j, ∀ m, postRun g (j + m) (s.set b true) ((b, 0) :: st) o = postRun g m s' st o'
  | 0, b, s, o, s', o', h, st => by simp [walkP] at h
  | k + 1, b, s, o, s', o', h, st => by
    unfold walkP at h
    cases hg : goP (walkP g k) (tosG g b) (s.set b true) o with
    | none => rw [hg] at h; cases h
    | some r =>
      obtain ⟨s1, o1⟩ := r
      rw [hg] at h
      simp only [Option.some.injEq, Prod.mk.injEq] at h
      obtain ⟨rfl, rfl⟩ := h
      obtain ⟨j, hj⟩ := goP_post g k (walkP_post g k) b (tosG g b) 0 (s.set b true) o s1 o1 (by simp) hg st
      refine ⟨j + 1, fun m => ?_⟩
      rw [show j + 1 + m = j + (1 + m) by omega, hj (1 + m), show 1 + m = m + 1 by omega, postRun, List.getElem?_eq_none (Nat.le_refl _)]

/-- The blocks as they are left. -/
def postP (g : List GB) : List Nat := if wholeG g then (match walkP g g.length 0 (List.replicate g.length false) [] with | some (_, o) => o | none => []) else []
theorem postP_run {g : List GB} (h : wholeG g = true) : ∃ s', walkP g g.length 0 (List.replicate g.length false) [] = some (s', postP g) ∧ ∃ j, postRun g j ((List.replicate g.length false).set 0 true) [(0, 0)] [] = some (postP g) := by
  obtain ⟨hp, _⟩ := wholeG_all h
  obtain ⟨s', o', h1, h2, h3⟩ := walkP_total g (tosOk_of h) g.length 0 (List.replicate g.length false) [] (by simp) (by simp [unseen]) hp (by simp [List.getD, hp])
  have hpost : postP g = o' := by unfold postP; rw [h, h1]; simp
  rw [hpost]
  refine ⟨s', h1, ?_⟩
  obtain ⟨j, hj⟩ := walkP_post g _ _ _ _ _ _ h1 []
  exact ⟨j + 0, by rw [hj 0]; rfl⟩
end Go.Proofs.Ytagagpappjkgbaa
namespace Go.Proofs.Ytagagpappjkgbaa
set_option linter.unusedVariables false
set_option linter.unusedSimpArgs false
open Go.RowKit

theorem gr_apart {w : World} {b1 b2 : Nat} {T1 T2 : TypeId} {z1 z2 n1 n2 : Nat} {v1 v2 : Value} {xs ys : List Value} (h : w.ownsRow b1 T1 z1 v1 n1 xs) (k : w.ownsRow b2 T2 z2 v2 n2 ys) (hne : T1 ≠ T2) : v1.ownBlock = none ∨ v1.ownBlock ≠ v2.ownBlock := by
  rcases h.2 with ⟨rfl, _⟩ | ⟨g, cap, cur, rfl, _, hg, _⟩
  · exact .inl rfl
  · refine .inr (fun e => ?_)
    rcases k.2 with ⟨rfl, _⟩ | ⟨g', cap', cur', rfl, _, hg', _⟩
    · simp [Value.ownBlock] at e
    · simp [Value.ownBlock] at e
      subst e
      rw [hg] at hg'
      simp at hg'
      exact hne hg'.2
theorem gr_slice {w : World} {base : Nat} {T : TypeId} {z : Nat} {v : Value} {n : Nat} {xs : List Value} (h : w.ownsRow base T z v n xs) : ∃ A c, v = .slice A n c := by
  rcases h.2 with ⟨rfl, h0⟩ | ⟨g, cap, cur, hv, _⟩
  · subst h0; exact ⟨none, 0, rfl⟩
  · exact ⟨_, _, hv⟩
theorem gr_some {w : World} {base : Nat} {T : TypeId} {z : Nat} {A : Option Addr} {m c n : Nat} {xs : List Value} (h : w.ownsRow base T z (.slice A m c) n xs) (hn : 0 < n) : ∃ g, A = some ⟨g, 0, none⟩ ∧ m = n ∧ base ≤ g ∧ g < w.heap.size := by
  obtain ⟨g, cap, hv, hb, hl⟩ := h.form hn
  injection hv with e1 e2 e3
  exact ⟨g, e1, e2, hb, hl⟩
/-- The row without what stands last. -/
theorem gr_cut {w : World} {base : Nat} {T : TypeId} {z g n c : Nat} {xs : List Value} (h : w.ownsRow base T z (.slice (some ⟨g, 0, none⟩) n c) n xs) (m : Nat) (hm : m ≤ n) : w.ownsRow base T z (.slice (some ⟨g, 0, none⟩) m c) m (xs.take (m * z)) := by
  rcases h.2 with ⟨h', _⟩ | ⟨g', cap, cur, h', hb, hg, hnc, hcm, hcs, ht⟩
  · simp at h'
  · simp only [Value.slice.injEq, Option.some.injEq, Addr.mk.injEq, and_true, true_and] at h'
    obtain ⟨rfl, rfl⟩ := h'
    have hle : m * z ≤ n * z := Nat.mul_le_mul_right z hm
    refine ⟨by rw [List.length_take, h.1]; omega, .inr ⟨g, c, cur, rfl, hb, hg, by omega, hcm, hcs, ?_⟩⟩
    rw [← ht, List.take_take, Nat.min_eq_left hle]
theorem gr_mono {w : World} {base base' : Nat} {T : TypeId} {z n : Nat} {v : Value} {xs : List Value} (h : w.ownsRow base T z v n xs) (hb : base' ≤ base) : w.ownsRow base' T z v n xs := by
  refine ⟨h.1, ?_⟩
  rcases h.2 with h1 | ⟨g, cap, cur, hv, hg, rest⟩
  · exact .inl h1
  · exact .inr ⟨g, cap, cur, hv, by omega, rest⟩
theorem infoIntG : (Try.prog.info? 3).map (fun i => (i.zero, i.size, i.bytes)) = some (some (.int .i64 0), 1, 8) := by kernel_rfl
theorem infoBoolG : (Try.prog.info? 4).map (fun i => (i.zero, i.size, i.bytes)) = some (some (.bool false), 1, 1) := by kernel_rfl
theorem infoStayG : (Try.prog.info? 207).map (fun i => (i.zero, i.size, i.bytes)) = some (some (.agg #[.int .i64 0, .int .i64 0]), 2, 16) := by kernel_rfl

def natsV (l : List Nat) : List Value := l.map fun (b : Nat) => Value.int .i64 (b : Int)
def boolsV (l : List Bool) : List Value := l.map Value.bool
def wayV : List (Nat × Nat) → List Value
  | [] => []
  | p :: l => wayV l ++ [.int .i64 (p.1 : Int), .int .i64 (p.2 : Int)]
theorem wayV_len : ∀ l : List (Nat × Nat), (wayV l).length = l.length * 2
  | [] => rfl
  | p :: l => by simp [wayV, wayV_len l]; omega
theorem boolsV_set (l : List Bool) (b : Nat) (x : Bool) : (boolsV l).set b (.bool x) = boolsV (l.set b x) := by simp [boolsV, List.map_set]
theorem boolsV_at (l : List Bool) (b : Nat) (h : b < l.length) : (boolsV l)[b]? = some (.bool (l.getD b false)) := by simp [boolsV, List.getD, h]
theorem madeBool (n : Nat) : (madeCells #[Value.bool false] n).toList = boolsV (List.replicate n false) := by
  rw [toList_madeCells_one]
  simp [boolsV]
theorem madeInt (n : Nat) : (madeCells #[Value.int .i64 0] n).toList = List.replicate n (Value.int .i64 0) := by
  rw [toList_madeCells_one]
end Go.Proofs.Ytagagpappjkgbaa
namespace Go.Proofs.Ytagagpappjkgbaa
set_option linter.unusedVariables false
set_option linter.unusedSimpArgs false
open Go.RowKit

theorem cut_stay {g n c : Nat} (m : Nat) (hm : m ≤ n) (hn : n ≤ c) : ∀ W : World, (Instr.slice 208 (.slice (some ⟨g, 0, none⟩) n c) none (some (.int .i64 (m : Int))) none).run Try.prog W = .ok (.slice (some ⟨g, 0, none⟩) m c) W := fun W => by
  rw [run_slice_h W 208 (some ⟨g, 0, none⟩) n c (by simp [Program.elem, Try.underlying208]) .i64 (m : Int) (by omega) (by omega)]
  go_simp
theorem tosG_at {g : List GB} {b : Nat} (hb : b < g.length) : tosG g b = g[b].to_ := by simp [tosG, hb]
theorem eqb_false {a b : Nat} (h : a ≠ b) : ((a : Int) == (b : Int)) = false := by
  have h' : (a : Int) ≠ (b : Int) := by omega
  exact beq_eq_false_iff_ne.2 h'
theorem gr_len {w : World} {base : Nat} {T : TypeId} {z : Nat} {A : Option Addr} {m c n : Nat} {xs : List Value} (h : w.ownsRow base T z (.slice A m c) n xs) : m ≤ c ∧ m = n := by
  rcases h.2 with ⟨hv, rfl⟩ | ⟨g, cap, cur, hv, _, _, hnc, _⟩
  · injection hv with e1 e2 e3
    omega
  · injection hv with e1 e2 e3
    omega

/-- What is known of the rows between two rounds. -/
structure PSt (base n : Nat) (W wr : World) (ge : Nat) (u4 u5 : Value) (st : List (Nat × Nat)) (left : List Nat) (ent : List Bool) : Prop where
  way : wr.ownsRow base 207 2 u4 st.length (wayV st)
  left : wr.ownsRow base 3 1 u5 left.length (natsV left)
  ent : wr.ownsRow base 4 1 (.slice (some ⟨ge, 0, none⟩) n n) n (boolsV ent)
  below : Below base W wr
  hb : base ≤ wr.heap.size
/-- What is known of the blocks that are entered. -/
structure PIn (g : List GB) (st : List (Nat × Nat)) (left : List Nat) (ent : List Bool) : Prop where
  len : ent.length = g.length
  cnt : st.length + left.length + unseen ent = g.length
  lt : ∀ p ∈ st, p.1 < g.length ∧ p.2 ≤ (tosG g p.1).length
theorem PIn.leave {g : List GB} {b q : Nat} {st : List (Nat × Nat)} {left : List Nat} {ent : List Bool} (h : PIn g ((b, q) :: st) left ent) : PIn g st (left ++ [b]) ent :=
  ⟨h.len, by have := h.cnt; simp at this ⊢; omega, fun p hp => h.lt p (List.mem_cons_of_mem _ hp)⟩
theorem PIn.look {g : List GB} {b q : Nat} {st : List (Nat × Nat)} {left : List Nat} {ent : List Bool} (h : PIn g ((b, q) :: st) left ent) (hq : q < (tosG g b).length) : PIn g ((b, q + 1) :: st) left ent :=
  ⟨h.len, by have := h.cnt; simp at this ⊢; omega, fun p hp => by
    rcases List.mem_cons.1 hp with rfl | hp
    · exact ⟨(h.lt (b, q) (by simp)).1, hq⟩
    · exact h.lt p (List.mem_cons_of_mem _ hp)⟩
theorem PIn.enter {g : List GB} {t : Nat} {st : List (Nat × Nat)} {left : List Nat} {ent : List Bool} (h : PIn g st left ent) (ht : t < g.length) (hu : ent.getD t false = false) : PIn g ((t, 0) :: st) left (ent.set t true) :=
  ⟨by simpa using h.len, by have := h.cnt; have := unseen_set ent t (by rw [h.len]; exact ht) hu; simp; omega, fun p hp => by
    rcases List.mem_cons.1 hp with rfl | hp
    · exact ⟨ht, Nat.zero_le _⟩
    · exact h.lt p hp⟩
theorem PIn.few {g : List GB} {st : List (Nat × Nat)} {left : List Nat} {ent : List Bool} (h : PIn g st left ent) : st.length + left.length ≤ g.length := by have := h.cnt; omega

theorem PSt.look {base n : Nat} {W wr : World} {ge gw p cw b q : Nat} {u5 : Value} {st : List (Nat × Nat)} {left : List Nat} {ent : List Bool} (h : PSt base n W wr ge (.slice (some ⟨gw, 0, none⟩) p cw) u5 ((b, q) :: st) left ent) (x : Nat) :
    PSt base n W (wr.setCell ⟨gw, st.length * 2 + 1, none⟩ (.int .i64 (x : Int))) ge (.slice (some ⟨gw, 0, none⟩) p cw) u5 ((b, x) :: st) left ent := by
  have hp := (gr_len h.way).2
  subst hp
  obtain ⟨s1, s2⟩ := h.way.stored (st.length * 2 + 1) (.int .i64 (x : Int))
  have a1 := gr_apart h.left h.way (by decide)
  have a2 := gr_apart h.ent h.way (by decide)
  have hgw := (h.way.lt gw rfl).1
  refine ⟨?_, h.left.kept s2 a1, h.ent.kept s2 a2, h.below.setCell (p := ⟨gw, _, none⟩) hgw _, Nat.le_trans h.hb s2.size⟩
  have e : (wayV ((b, q) :: st)).set (st.length * 2 + 1) (.int .i64 (x : Int)) = wayV ((b, x) :: st) := by
    simp only [wayV]
    rw [List.set_append_right _ _ (by rw [wayV_len]; omega), wayV_len]
    simp
  rw [e] at s1
  exact s1
theorem PSt.set {base n : Nat} {W wr : World} {ge t : Nat} {u4 u5 : Value} {st : List (Nat × Nat)} {left : List Nat} {ent : List Bool} (h : PSt base n W wr ge u4 u5 st left ent) :
    PSt base n W (wr.setCell ⟨ge, t, none⟩ (.bool true)) ge u4 u5 st left (ent.set t true) := by
  obtain ⟨s1, s2⟩ := h.ent.stored t (.bool true)
  have a1 := gr_apart h.left h.ent (by decide)
  have a2 := gr_apart h.way h.ent (by decide)
  have hge := (h.ent.lt ge rfl).1
  rw [boolsV_set] at s1
  exact ⟨h.way.kept s2 a2, h.left.kept s2 a1, s1, h.below.setCell (p := ⟨ge, _, none⟩) hge _, Nat.le_trans h.hb s2.size⟩
theorem PSt.next {base n : Nat} {W wr w' : World} {ge : Nat} {u4 u5 : Value} {st : List (Nat × Nat)} {left : List Nat} {ent : List Bool} (h : PSt base n W wr ge u4 u5 st left ent) (hb : Below wr.heap.size wr w') : PSt base n W w' ge u4 u5 st left ent :=
  ⟨gr_up h.way hb, gr_up h.left hb, gr_up h.ent hb, h.below.trans (hb.mono h.hb), Nat.le_trans h.hb hb.size⟩
theorem PSt.left_ {base n : Nat} {W wr w' : World} {ge : Nat} {u4 u5 v5 : Value} {st : List (Nat × Nat)} {left : List Nat} {ent : List Bool} {b : Nat} (h : PSt base n W wr ge u4 u5 st left ent) (hg : wr.grownBy w' u5.ownBlock) (ho : w'.ownsRow base 3 1 v5 (left.length + 1) (natsV left ++ [.int .i64 (b : Int)])) : PSt base n W w' ge u4 v5 st (left ++ [b]) ent := by
  have a1 := gr_apart h.way h.left (by decide)
  have a2 := gr_apart h.ent h.left (by decide)
  exact ⟨h.way.kept hg a1, by simpa [natsV] using ho, h.ent.kept hg a2, h.below.grown hg h.hb (fun k e => (h.left.lt k e).1), Nat.le_trans h.hb hg.size⟩
theorem PSt.push {base n : Nat} {W wr w' : World} {ge : Nat} {u4 u5 v4 : Value} {st : List (Nat × Nat)} {left : List Nat} {ent : List Bool} {b : Nat} (h : PSt base n W wr ge u4 u5 st left ent) (hg : wr.grownBy w' u4.ownBlock) (ho : w'.ownsRow base 207 2 v4 (st.length + 1) (wayV st ++ [.int .i64 (b : Int), .int .i64 0])) : PSt base n W w' ge v4 u5 ((b, 0) :: st) left ent := by
  have a1 := gr_apart h.left h.way (by decide)
  have a2 := gr_apart h.ent h.way (by decide)
  exact ⟨by simpa [wayV] using ho, h.left.kept hg a1, h.ent.kept hg a2, h.below.grown hg h.hb (fun k e => (h.way.lt k e).1), Nat.le_trans h.hb hg.size⟩
theorem PSt.pop {base n : Nat} {W wr : World} {ge gw p cw : Nat} {u5 : Value} {b q : Nat} {st : List (Nat × Nat)} {left : List Nat} {ent : List Bool} (h : PSt base n W wr ge (.slice (some ⟨gw, 0, none⟩) (p + 1) cw) u5 ((b, q) :: st) left ent) (hp : p = st.length) : PSt base n W wr ge (.slice (some ⟨gw, 0, none⟩) p cw) u5 st left ent := by
  subst hp
  have := gr_cut h.way st.length (by simp)
  have e : (wayV ((b, q) :: st)).take (st.length * 2) = wayV st := by
    simp only [wayV]
    rw [← wayV_len st, List.take_left]
  rw [e] at this
  exact ⟨this, h.left, h.ent, h.below, h.hb⟩
end Go.Proofs.Ytagagpappjkgbaa
namespace Go.Proofs.Ytagagpappjkgbaa
set_option linter.unusedVariables false
set_option linter.unusedSimpArgs false
open Go.RowKit

/-- Between two rounds, with so much fuel left. -/
def PK (base n : Nat) (W : World) (ge : Nat) (g : List GB) (res : List Nat) (k : Nat) (u4 u5 : Value) (wr : World) : Prop :=
  ∃ st left ent, PSt base n W wr ge u4 u5 st left ent ∧ PIn g st left ent ∧ postRun g k ent st left = some res

set_option maxRecDepth 100000 in
set_option maxHeartbeats 16000000 in
theorem post_g (n0 : Nat) (f : Value) (g : List GB) (w : World) (hf : GF n0 w f g) (hn : n0 ≤ w.heap.size) :
    Calls Try.prog 136 #[f] w fun e w' => ∃ v, e = .returned v ∧ w'.ownsRow w.heap.size 3 1 v (postP g).length (natsV (postP g)) ∧ Below w.heap.size w w' := by
  have hf0 := hf
  obtain ⟨s, pA, pn, pc, r, iA, in_, ic, bA, bn, bc, rfl, hG, hbn⟩ := hf
  obtain ⟨W, hW, hbW, hzW, h0W⟩ := gr_one w #[.string s, .slice pA pn pc, .int .i64 r, .slice iA in_ ic, .slice bA bn bc] 68
  obtain ⟨x0, x1, x2, x3, x4, -⟩ := gr_five h0W
  have hlen : bn ≤ 1048576 := by rw [hbn]; obtain ⟨_, _, _, h, _⟩ := hG; exact h
  have hfW : GF n0 W (.agg #[.string s, .slice pA pn pc, .int .i64 r, .slice iA in_ ic, .slice bA bn bc]) g := ⟨s, pA, pn, pc, r, iA, in_, ic, bA, bn, bc, rfl, hG.keep (hbW.mono hn), hbn⟩
  have hH := whole_g n0 _ g W hfW (by omega)
  have HG := Lib.hid hG
  have Hbn := Lib.hid hbn
  have HbW := Lib.hid hbW
  have HW := Lib.hid hW
  have HzW := Lib.hid hzW
  have H0W := Lib.hid h0W
  clear hbW hW hG hbn hzW h0W hf0 hfW
  cases hq : wholeG g with
  | false =>
    rw [hq] at hH
    have hnil : postP g = [] := by unfold postP; rw [hq]; rfl
    go_enter Try.func136, Try.ntmps136
    go_upto_region 1 with fail
    rw [← HW.out]
    go_wp2_with (go_at_call 156; refine hH.mono ?_; rintro e w1 ⟨rfl, h1⟩; have H1 := Lib.hid h1; clear h1 hH)
    go_ret
    refine ⟨_, rfl, ?_, HbW.out.trans (H1.out.mono (by rw [HzW.out]; omega))⟩
    rw [hnil]
    exact World.ownsRow_nil _ _ _ _
  | true =>
    rw [hq] at hH
    obtain ⟨-, -, j0, hrun⟩ := postP_run hq
    obtain ⟨res, hres⟩ : ∃ res, res = postP g := ⟨_, rfl⟩
    rw [← hres] at hrun ⊢
    obtain ⟨hpos, hall⟩ := wholeG_all hq
    have Hall := Lib.hid hall
    have Hrun := Lib.hid hrun
    have hposb : 0 < bn := by rw [Hbn.out]; exact hpos
    clear hres hrun hall hq hpos
    obtain ⟨i0, hi0, hz0, hz1, hz2⟩ := info_parts infoBoolG
    have Hi := Lib.hid hi0
    have Hz0 := Lib.hid hz0
    have Hz1 := Lib.hid hz1
    have Hz2 := Lib.hid hz2
    obtain ⟨j1, hj1, jz0, jz1, jz2⟩ := info_parts infoIntG
    have Ji := Lib.hid hj1
    have Jz0 := Lib.hid jz0
    have Jz1 := Lib.hid jz1
    have Jz2 := Lib.hid jz2
    obtain ⟨k1, hk1, kz0, kz1, kz2⟩ := info_parts infoStayG
    have Ki := Lib.hid hk1
    have Kz0 := Lib.hid kz0
    have Kz1 := Lib.hid kz1
    have Kz2 := Lib.hid kz2
    clear hi0 hz0 hz1 hz2 hj1 jz0 jz1 jz2 hk1 kz0 kz1 kz2
    go_enter Try.func136, Try.ntmps136
    go_upto_region 1 with fail
    rw [← HW.out]
    go_upto_region 3 with (go_at_call 156; refine hH.mono ?_; rintro e w1 ⟨rfl, h1⟩; have H1 := Lib.hid h1; clear h1 hH)
    clear x0 x1 x2 x3 x4
    have h01 := (H1.out.block _ (by rw [HzW.out]; omega)).trans H0W.out
    obtain ⟨x0, x1, x2, x3, x4, -⟩ := gr_five h01
    go_wp2_with (at_make; refine wpList_make_full _ rfl (.tmp 14) (.tmp 14) 137 rfl w1.heap.size 4 i0 (.bool false) 1 Try.underlying137 Hi.out Hz0.out Hz1.out _ _ _ _ bn rfl rfl rfl rfl (by rw [Hz2.out]; omega) (by unfold maxLen; omega) (Nat.le_refl _) ?_)
    intro w2 ho2 hg2
    have hb2 : Below w1.heap.size w1 w2 := (Below.refl _ _).grown hg2 (Nat.le_refl _) (fun k e => by cases e)
    rw [madeBool] at ho2
    have hP2 : PSt w1.heap.size bn w1 w2 w1.heap.size (.slice none 0 0) (.slice none 0 0) [] [] (List.replicate bn false) := ⟨World.ownsRow_nil _ _ _ _, World.ownsRow_nil _ _ _ _, ho2, hb2, hb2.size⟩
    have f2 := ho2.frozenAt 0
    have e2 := ho2.cellAt 0 (by omega)
    rw [boolsV_at _ _ (by simpa using hposb)] at e2
    have hP3 := hP2.set (t := 0)
    obtain ⟨Y, hY⟩ : ∃ Y, Y = w2.setCell ⟨w1.heap.size, 0, none⟩ (.bool true) := ⟨_, rfl⟩
    rw [← hY] at hP3
    have HP3 := Lib.hid hP3
    have HY := Lib.hid hY
    clear ho2 hg2 hb2 hP2 hY hP3 x0 x1 x2 x3 x4
    go_upto_region 5 with fail
    rw [← HY.out]
    clear e2 f2
    obtain ⟨Z, hZ, hbZ, hzZ, h0Z⟩ := gr_one Y #[.int .i64 0, .int .i64 0] 207
    have hP4 := HP3.out.next hbZ
    have hw4 : Z.ownsRow w1.heap.size 207 2 (.slice (some ⟨Y.heap.size, 0, none⟩) 1 1) 1 (wayV [(0, 0)]) := by
      rw [hZ]
      exact World.ownsRow_lit Y #[.int .i64 0, .int .i64 0] 1 HP3.out.hb (by decide) rfl
    have hP5 : PSt w1.heap.size bn w1 Z w1.heap.size (.slice (some ⟨Y.heap.size, 0, none⟩) 1 1) (.slice none 0 0) [(0, 0)] [] ((List.replicate bn false).set 0 true) := ⟨hw4, hP4.left, hP4.ent, hP4.below, hP4.hb⟩
    have hIn : PIn g [(0, 0)] [] ((List.replicate bn false).set 0 true) := by
      refine PIn.enter ⟨by simp [Hbn.out], by simp [unseen, Hbn.out], fun p hp => by cases hp⟩ (by rw [← Hbn.out]; exact hposb) (by simp [List.getD, hposb])
    rw [Hbn.out] at hIn hP5
    have HP5 := Lib.hid hP5
    have HIn := Lib.hid hIn
    have HZ := Lib.hid hZ
    clear hZ hbZ hzZ h0Z hP4 hw4 hP5 hIn HP3 HY
    go_upto_region 6 with fail
    rw [← HZ.out]
    go_upto_region 7 with fail
    have hPK : ∃ k, PK w1.heap.size bn w1 w1.heap.size g res k (.slice (some ⟨Y.heap.size, 0, none⟩) 1 1) (.slice none 0 0) Z := ⟨j0, _, _, _, by rw [Hbn.out]; exact HP5.out, HIn.out, Hrun.out⟩
    clear HP5 HIn Hrun HZ
    go_loopw [4, 5] (fun u4 u5 wr => ∃ k, PK w1.heap.size bn w1 w1.heap.size g res k u4 u5 wr) (fun u4 u5 wr => leastN (fun k => PK w1.heap.size bn w1 w1.heap.size g res k u4 u5 wr))
    case atStart => exact hPK
    case round =>
      clear hPK
      obtain ⟨K, hK⟩ : ∃ K, K = leastN (fun k => PK w1.heap.size bn w1 w1.heap.size g res k u4 u5 wr) := ⟨_, rfl⟩
      have hk : PK w1.heap.size bn w1 w1.heap.size g res K u4 u5 wr := by rw [hK]; exact leastN_spec hrel
      have HK := Lib.hid hK
      clear hK hrel
      obtain ⟨st, left, ent, hS, hI, hr⟩ := hk
      have hB1 : Below w.heap.size w wr := (HbW.out.trans (H1.out.mono (by rw [HzW.out]; omega))).trans (hS.below.mono (by have := H1.out.size; have := HzW.out; omega))
      have h0r := (hS.below.block _ (gr_in h01)).trans h01
      obtain ⟨x0, x1, x2, x3, x4, -⟩ := gr_five h0r
      have HB1 := Lib.hid hB1
      cases st with
      | nil =>
        have hres : left = res := by cases K <;> simpa [postRun] using hr
        subst hres
        obtain ⟨A4, c4, hA4⟩ := gr_slice hS.way
        obtain ⟨A5, c5, hA5⟩ := gr_slice hS.left
        simp only [List.length_nil] at hA4
        subst hA4 hA5
        have HS := Lib.hid hS
        clear hS hI hr hB1 h0r
        go_wp2
        go_ret
        exact ⟨_, rfl, gr_mono HS.out.left (by have := H1.out.size; have := HzW.out; omega), HB1.out⟩
      | cons p st =>
        obtain ⟨b, q⟩ := p
        cases K with
        | zero => simp [postRun] at hr
        | succ k =>
          obtain ⟨hbl, hql⟩ := hI.lt (b, q) (by simp)
          obtain ⟨A4, c4, hA4⟩ := gr_slice hS.way
          obtain ⟨A5, c5, hA5⟩ := gr_slice hS.left
          subst hA4 hA5
          obtain ⟨gw, hgw, -, hgwb, hgwl⟩ := gr_some hS.way (by simp)
          subst hgw
          obtain ⟨p, hp⟩ : ∃ p, p = st.length := ⟨_, rfl⟩
          have hl4 : ((b, q) :: st).length = p + 1 := by rw [hp]; rfl
          rw [hl4] at hS HK ⊢
          have hp2 : p < 1048576 := by have := hI.few; rw [hl4] at this; rw [← Hbn.out] at this; omega
          have hlf : left.length < 1048576 := by have := hI.few; rw [hl4] at this; rw [← Hbn.out] at this; omega
          have hway : wr.ownsRow w1.heap.size 207 2 (.slice (some ⟨gw, 0, none⟩) (p + 1) c4) (p + 1) (wayV ((b, q) :: st)) := by have := hS.way; rw [hl4] at this; exact this
          have c0 : wr.cell? ⟨gw, p * 2, none⟩ = some (.int .i64 b) := by
            rw [hway.cellAt (p * 2) (by omega), wayV, List.getElem?_append_right (by rw [wayV_len]; omega), wayV_len, hp]
            simp
          have c1 : wr.cell? ⟨gw, p * 2 + 1, none⟩ = some (.int .i64 q) := by
            rw [hway.cellAt (p * 2 + 1) (by omega), wayV, List.getElem?_append_right (by rw [wayV_len]; omega), wayV_len, hp]
            simp
          have f1 := hway.frozenAt (p * 2 + 1)
          obtain ⟨bb, o, qA, qc, tA, tc, lA, ln, lc, rfl, hb0, d0, d1, d2, d3, d4, rp, rt, hok⟩ := (HG.out.keep (hB1.mono hn)).at hbl
          have hto : tosG g b = g[b].to_ := tosG_at hbl
          rw [hto] at hql
          obtain ⟨to_, hto_⟩ : ∃ l, l = g[b].to_ := ⟨_, rfl⟩
          obtain ⟨m, hm⟩ : ∃ m, m = to_.length := ⟨_, rfl⟩
          have hml : m ≤ 1048576 := by rw [hm, hto_]; exact hok.2.2.1
          rw [← hto_] at hto hql d4 rt
          rw [← hm] at hql d4 rt
          have hbb : b < bn := by rw [Hbn.out]; exact hbl
          have hga : g[b]? = some g[b] := List.getElem?_eq_getElem hbl
          have hmem : ∀ t ∈ to_, 0 ≤ t ∧ t < (bn : Int) := fun t ht => by rw [Hbn.out]; exact Hall.out b _ hga t (by rw [← hto_]; exact ht)
          have Hto := Lib.hid hto
          have Hm := Lib.hid hm
          have Hp := Lib.hid hp
          have Hrt := Lib.hid rt
          have HS := Lib.hid hS
          have HI := Lib.hid hI
          have Hr := Lib.hid hr
          have Hmem := Lib.hid hmem
          clear hto hm hp rt hS hI hr hto_ hmem hga hok rp d0 d1 d2 d3 hb0 hB1 h0r hl4 hbl hway
          by_cases hqm : q = m
          · subst hqm
            go_upto_region 9 with fail
            go_quiet (fail)
            generalize hX : World.drewN wr _ = X
            have bX : Below wr.heap.size wr X := by rw [← hX]; exact below_dr (Below.refl _ _) _
            have e0 : X.cell? ⟨gw, p * 2, none⟩ = some (.int .i64 b) := by rw [← hX]; exact c0
            have e1 : X.cell? ⟨gw, p * 2 + 1, none⟩ = some (.int .i64 q) := by rw [← hX]; exact c1
            have hSX := HS.out.next bX
            obtain ⟨A2, hA2, hbA, hzA, h0A⟩ := gr_one X #[.int .i64 b] 3
            have hSA := hSX.next hbA
            have HSA := Lib.hid hSA
            have HOW := Lib.hid hSA.left
            have HNW := Lib.hid (World.news_of_block h0A)
            have HOn : Hid (∀ u ∈ ([.int .i64 b] : List Value), u.oneCell' = true) := Lib.hid (by intro u hu; simp at hu; subst hu; rfl)
            have hsz2 := hSA.hb
            have hcut := cut_stay (g := gw) (c := c4) (n := p + 1) p (by omega) (by have := (gr_len HS.out.way).1; omega)
            have Hr2 : Hid (postRun g k ent st (left ++ [b]) = some res) := Lib.hid (by
              have := Hr.out
              rw [postRun, Hto.out, List.getElem?_eq_none (by rw [← Hm.out]; exact Nat.le_refl _)] at this
              exact this)
            rw [hA2] at HOW HNW hsz2
            have HA2 := Lib.hid hA2
            clear hX bX c0 c1 f1 d4 x0 x1 x2 x3 x4 hSX hSA hA2 hbA hzA h0A Hr
            go_wp2_with (at_builtin; refine wpList_append_lies _ rfl (.tmp 45) (.tmp 50) 64 rfl w1.heap.size 3 j1 (.int .i64 0) 1 8 Try.underlying64 Ji.out Jz0.out Jz1.out Jz2.out rfl (by decide) (.slice A5 left.length c5) left.length (natsV left) rfl HOW.out ⟨X.heap.size, 0, none⟩ 1 1 [.int .i64 b] rfl rfl HNW.out HOn.out (by decide) (by unfold maxLen; omega) (by omega) hsz2 _ rfl ?_)
            intro gp cp w5 hown5 hgrow hat hlt5
            rw [← HA2.out] at hgrow
            have HS5 := Lib.hid ((HSA.out.left_ hgrow hown5).pop Hp.out)
            have Hnew := Lib.hid (show PK w1.heap.size bn w1 w1.heap.size g res k (.slice (some ⟨gw, 0, none⟩) p c4) (.slice (some ⟨gp, 0, none⟩) (left.length + 1) cp) w5 from ⟨st, _, ent, HS5.out, HI.out.leave, Hr2.out⟩)
            clear hown5 hgrow hat hlt5 HOW HNW hsz2 HSA HA2 HS5
            go_wp2
            go_roundw
            case rel => exact ⟨k, Hnew.out⟩
            case measure => rw [← HK.out]; exact Nat.lt_succ_of_le (leastN_le Hnew.out)
          · have hlt : q < m := by omega
            have hqf := eqb_false hqm
            have hqt : q < to_.length := by rw [← Hm.out]; exact hlt
            obtain ⟨b2, o2, rfl, hb2, hc⟩ := (Hrt.out).at hqt
            have hget : (tosG g b)[q]? = some to_[q] := by rw [Hto.out]; exact List.getElem?_eq_getElem hqt
            obtain ⟨t0, t1⟩ := Hmem.out to_[q] (List.getElem_mem hqt)
            obtain ⟨t, ht⟩ : ∃ t : Nat, (t : Int) = to_[q] := ⟨to_[q].toNat, by omega⟩
            rw [← ht] at hc hget t0 t1
            have htl : t < bn := by omega
            have hr := Hr.out
            rw [postRun, hget] at hr
            simp only [Int.toNat_natCast] at hr
            have Hr2 := Lib.hid hr
            have HI2 := Lib.hid (HI.out.look (show q < (tosG g b).length by rw [Hto.out]; exact hqt))
            have hS2 := HS.out.look (q + 1)
            rw [← Hp.out] at hS2
            clear ht hget hr Hr t0 t1 hb2 hqt
            go_upto_region 9 with fail
            go_quiet (fail)
            generalize hX : World.drewN wr _ = X
            have bX : Below wr.heap.size wr X := by rw [← hX]; exact below_dr (Below.refl _ _) _
            have e0 : X.cell? ⟨gw, p * 2, none⟩ = some (.int .i64 b) := by rw [← hX]; exact c0
            have e1 : X.cell? ⟨gw, p * 2 + 1, none⟩ = some (.int .i64 q) := by rw [← hX]; exact c1
            have ef : X.frozen? ⟨gw, p * 2 + 1, none⟩ = false := by rw [← hX]; exact f1
            have e2 : X.cell? ⟨b2, o2 + q, none⟩ = some (.int .i64 t) := by rw [← hX]; exact hc
            have hSX : PSt w1.heap.size bn w1 (X.setCell ⟨gw, p * 2 + 1, none⟩ (.int .i64 ((q + 1 : Nat) : Int))) w1.heap.size (.slice (some ⟨gw, 0, none⟩) (p + 1) c4) (.slice A5 left.length c5) ((b, q + 1) :: st) left ent := by
              have := (HS.out.next bX).look (q + 1)
              rw [← Hp.out] at this
              exact this
            rw [show ((q + 1 : Nat) : Int) = (q : Int) + 1 from rfl] at hSX
            obtain ⟨Y, hY⟩ : ∃ Y, Y = X.setCell ⟨gw, p * 2 + 1, none⟩ (.int .i64 ((q : Int) + 1)) := ⟨_, rfl⟩
            rw [← hY] at hSX
            have g2 := hSX.ent.cellAt t (by omega)
            rw [boolsV_at _ _ (by rw [HI.out.len, ← Hbn.out]; exact htl)] at g2
            have gf := hSX.ent.frozenAt t
            have HY := Lib.hid hY
            have HSX := Lib.hid hSX
            clear hX bX c0 c1 f1 d4 x0 x1 x2 x3 x4 hSX hY hS2 hc
            go_upto_region 15 with fail
            rw [← HY.out]
            clear e0 e1 ef e2
            cases hq : ent.getD t false with
            | true =>
              rw [hq] at g2 Hr2
              rw [if_pos rfl] at Hr2
              have Hnew := Lib.hid (show PK w1.heap.size bn w1 w1.heap.size g res k (.slice (some ⟨gw, 0, none⟩) (p + 1) c4) (.slice A5 left.length c5) Y from ⟨_, left, ent, HSX.out, HI2.out, Hr2.out⟩)
              clear hq
              go_wp2
              go_roundw
              case rel => exact ⟨k, Hnew.out⟩
              case measure => rw [← HK.out]; exact Nat.lt_succ_of_le (leastN_le Hnew.out)
            | false =>
              rw [hq] at g2 Hr2
              rw [if_neg (by simp)] at Hr2
              have hSE := HSX.out.set (t := t)
              have HI3 := Lib.hid (HI2.out.enter (t := t) (by rw [← Hbn.out]; exact htl) hq)
              obtain ⟨X2, hX2⟩ : ∃ X2, X2 = Y.setCell ⟨w1.heap.size, t, none⟩ (.bool true) := ⟨_, rfl⟩
              rw [← hX2] at hSE
              have HX2 := Lib.hid hX2
              obtain ⟨A2, hA2, hbA, hzA, h0A⟩ := gr_one X2 #[.int .i64 t, .int .i64 0] 207
              have hSA := hSE.next hbA
              have HSA := Lib.hid hSA
              have HOW := Lib.hid hSA.way
              have HNW := Lib.hid (World.news_of_block h0A)
              have HOn : Hid (∀ u ∈ ([.int .i64 t, .int .i64 0] : List Value), u.oneCell' = true) := Lib.hid (by intro u hu; simp at hu; rcases hu with rfl | rfl <;> rfl)
              have hsz2 := hSA.hb
              rw [hA2] at HOW HNW hsz2
              have HA2 := Lib.hid hA2
              clear hX2 hSE hSA hA2 hbA hzA h0A hq
              go_upto_region 17 with fail
              rw [← HX2.out]
              clear g2 gf
              rw [show ((b, q + 1) :: st).length = p + 1 by rw [Hp.out]; rfl] at HOW
              go_wp2_with (at_builtin; refine wpList_append_lies _ rfl (.tmp 79) (.tmp 82) 208 rfl w1.heap.size 207 k1 (.agg #[.int .i64 0, .int .i64 0]) 2 16 Try.underlying208 Ki.out Kz0.out Kz1.out Kz2.out rfl (by decide) (.slice (some ⟨gw, 0, none⟩) (p + 1) c4) (p + 1) (wayV ((b, q + 1) :: st)) rfl HOW.out ⟨X2.heap.size, 0, none⟩ 1 1 [.int .i64 t, .int .i64 0] rfl rfl HNW.out HOn.out (by decide) (by unfold maxLen; omega) (by omega) hsz2 _ rfl ?_)
              intro gp cp w5 hown5 hgrow hat hlt5
              rw [← HA2.out] at hgrow
              have HS5 := HSA.out.push (b := t) hgrow (by rw [show ((b, q + 1) :: st).length = p + 1 by rw [Hp.out]; rfl]; exact hown5)
              have Hnew := Lib.hid (show PK w1.heap.size bn w1 w1.heap.size g res k (.slice (some ⟨gp, 0, none⟩) (p + 1 + 1) cp) (.slice A5 left.length c5) w5 from ⟨_, left, _, HS5, HI3.out, Hr2.out⟩)
              clear hown5 hgrow hat hlt5 HOW HNW hsz2 HSA HA2 HS5 HX2
              go_wp2
              go_roundw
              case rel => exact ⟨k, Hnew.out⟩
              case measure => rw [← HK.out]; exact Nat.lt_succ_of_le (leastN_le Hnew.out)
end Go.Proofs.Ytagagpappjkgbaa
namespace Go.Proofs.Ytagagpappjkgbaa
set_option linter.unusedVariables false
set_option linter.unusedSimpArgs false
open Go.RowKit

/-- The first i and the last i exchanged. -/
def revTo (xs : List Value) (i : Nat) : List Value := xs.mapIdx fun j x => if j < i ∨ xs.length - 1 - i < j then xs.getD (xs.length - 1 - j) x else x
theorem revTo_len (xs : List Value) (i : Nat) : (revTo xs i).length = xs.length := by simp [revTo]
theorem revTo_zero (xs : List Value) : revTo xs 0 = xs := by
  apply List.ext_getElem (by simp [revTo])
  intro j h1 h2
  simp [revTo]
  intro h
  omega
theorem revTo_at (xs : List Value) (i j : Nat) (h : ¬ (j < i ∨ xs.length - 1 - i < j)) : (revTo xs i)[j]? = xs[j]? := by
  unfold revTo
  rw [List.getElem?_mapIdx]
  cases hx : xs[j]? with
  | none => rfl
  | some x => simp [h]
theorem revTo_step (xs : List Value) (i : Nat) (x y : Value) (hi : 2 * i + 1 < xs.length) (hx : xs[i]? = some x) (hy : xs[xs.length - 1 - i]? = some y) : ((revTo xs i).set i y).set (xs.length - 1 - i) x = revTo xs (i + 1) := by
  apply List.ext_getElem?
  intro j
  rw [List.getElem?_set, List.getElem?_set]
  simp only [List.length_set, revTo_len]
  unfold revTo
  rw [List.getElem?_mapIdx, List.getElem?_mapIdx]
  by_cases h1 : xs.length - 1 - i = j
  · subst h1
    rw [if_pos rfl, if_pos (by omega), hy]
    simp only [Option.map_some]
    rw [if_pos (by right; omega), show xs.length - 1 - (xs.length - 1 - i) = i by omega, List.getD, hx]
    rfl
  · rw [if_neg h1]
    by_cases h2 : i = j
    · subst h2
      rw [if_pos rfl, if_pos (by omega), hx]
      simp only [Option.map_some]
      rw [if_pos (by left; omega), List.getD, hy]
      rfl
    · rw [if_neg h2]
      cases xs[j]? with
      | none => rfl
      | some z =>
        simp only [Option.map_some]
        have e : (j < i ∨ xs.length - 1 - i < j) ↔ (j < i + 1 ∨ xs.length - 1 - (i + 1) < j) := by omega
        by_cases h3 : j < i ∨ xs.length - 1 - i < j
        · rw [if_pos h3, if_pos (e.1 h3)]
        · rw [if_neg h3, if_neg (fun h => h3 (e.2 h))]
theorem revTo_end (xs : List Value) (i : Nat) (hi : xs.length ≤ 2 * i + 1) : revTo xs i = xs.reverse := by
  apply List.ext_getElem? 
  intro j
  unfold revTo
  rw [List.getElem?_mapIdx]
  by_cases hj : j < xs.length
  · rw [List.getElem?_reverse hj, List.getElem?_eq_getElem hj]
    simp only [Option.map_some]
    by_cases h : j < i ∨ xs.length - 1 - i < j
    · rw [if_pos h, List.getD, List.getElem?_eq_getElem (by omega : xs.length - 1 - j < xs.length)]
      rfl
    · rw [if_neg h]
      have : xs.length - 1 - j = j := by omega
      rw [this, List.getElem?_eq_getElem hj]
  · rw [List.getElem?_eq_none (by omega), List.getElem?_eq_none (by rw [List.length_reverse]; omega)]
    rfl

theorem grown_tr {a b c : World} {row : Option Nat} (h : a.grownBy b row) (k : b.grownBy c row) : a.grownBy c row :=
  ⟨k.os.trans h.os, k.tape.trans h.tape, k.output.trans h.output, Nat.le_trans h.size k.size, fun i hi hn => (k.block i (Nat.lt_of_lt_of_le hi h.size) hn).trans (h.block i hi hn)⟩
theorem grown_dr {a b : World} {row : Option Nat} (h : a.grownBy b row) : a.grownBy b.drew row := ⟨h.os, h.tape, h.output, h.size, h.block⟩

set_option maxRecDepth 100000 in
set_option maxHeartbeats 8000000 in
theorem rev_int (base : Nat) (v : Value) (n : Nat) (xs : List Value) (w : World) (h : w.ownsRow base 3 1 v n xs) (hb : base ≤ w.heap.size) (hn : n ≤ 1048576) (hk : ∀ u ∈ xs, ∃ q, u = Value.int .i64 q) :
    Calls Try.prog 137 #[v] w fun e w' => (∃ r, e = .returned r) ∧ w'.ownsRow base 3 1 v n xs.reverse ∧ w.grownBy w' v.ownBlock := by
  have hl : xs.length = n := by have := h.1; omega
  by_cases h0 : n ≤ 1
  · obtain ⟨A, c, rfl⟩ := gr_slice h
    have hx : xs.reverse = xs := by
      match xs, hl with
      | [], _ => rfl
      | [a], _ => rfl
      | a :: b :: l, e => simp at e; omega
    rw [hx]
    have H := Lib.hid h
    clear h hx hl
    rcases (by omega : n = 0 ∨ n = 1) with rfl | rfl
    · go_enter Try.func137, Try.ntmps137
      go_wp2
      refine wp_loop_rounds 1 ?_
      rw [rounds_succ]
      go_wp2
      go_end0
      exact ⟨⟨_, rfl⟩, H.out, World.grownBy.refl _ _⟩
    · go_enter Try.func137, Try.ntmps137
      go_wp2
      refine wp_loop_rounds 1 ?_
      rw [rounds_succ]
      go_wp2
      go_end0
      exact ⟨⟨_, rfl⟩, H.out, World.grownBy.refl _ _⟩
  · obtain ⟨g, c, rfl, hgb, hgl⟩ := h.form (by omega)
    have H := Lib.hid h
    have Hl := Lib.hid hl
    clear h hl
    go_enter Try.func137, Try.ntmps137
    go_upto_region 1 with fail
    go_loopw [2, 3] (fun u2 u3 wr => ∃ i : Nat, 2 * i ≤ n ∧ u2 = .int .i64 i ∧ u3 = .int .i64 ((n : Int) - 1 - i) ∧ Hid (wr.ownsRow base 3 1 (.slice (some ⟨g, 0, none⟩) n c) n (revTo xs i)) ∧ Hid (w.grownBy wr (some g))) (fun u2 _ _ => n - (intOf u2).toNat)
    case atStart => exact ⟨0, by omega, rfl, by simp, Lib.hid (by rw [revTo_zero]; exact H.out), Lib.hid (World.grownBy.refl _ _)⟩
    case round =>
      clear H
      obtain ⟨i, hi, rfl, rfl, HO, HG⟩ := hrel
      by_cases hlt : 2 * i + 1 < n
      · obtain ⟨x, hx⟩ : ∃ x, xs[i]? = some x := ⟨_, List.getElem?_eq_getElem (by rw [Hl.out]; omega)⟩
        obtain ⟨y, hy⟩ : ∃ y, xs[n - 1 - i]? = some y := ⟨_, List.getElem?_eq_getElem (by rw [Hl.out]; omega)⟩
        have hkx := hk x (List.mem_of_getElem? hx)
        have hky := hk y (List.mem_of_getElem? hy)
        obtain ⟨qx, rfl⟩ := hkx
        obtain ⟨qy, rfl⟩ := hky
        have hS := revTo_step xs i (.int .i64 qx) (.int .i64 qy) (by rw [Hl.out]; exact hlt) hx (by rw [Hl.out]; exact hy)
        rw [Hl.out] at hS
        have c0 : wr.cell? ⟨g, i, none⟩ = some (.int .i64 qx) := by rw [HO.out.cellAt i (by omega), revTo_at _ _ _ (by rw [Hl.out]; omega)]; exact hx
        have c1 : wr.cell? ⟨g, n - 1 - i, none⟩ = some (.int .i64 qy) := by rw [HO.out.cellAt (n - 1 - i) (by omega), revTo_at _ _ _ (by rw [Hl.out]; omega)]; exact hy
        have f0 := HO.out.frozenAt i
        have f1 := HO.out.frozenAt (n - 1 - i)
        obtain ⟨j, hj⟩ : ∃ j, j = n - 1 - i := ⟨_, rfl⟩
        have hji : (n : Int) - 1 - i = j := by omega
        rw [← hj] at c1 f1 hS
        rw [hji]
        have HS := Lib.hid hS
        have hij : i < j := by omega
        have hin : i < n := by omega
        have hjn : j < n := by omega
        have Hj := Lib.hid hj
        have Hji := Lib.hid hji
        clear hj hji hS hx hy hlt
        obtain ⟨s1, g1⟩ := HO.out.stored i (.int .i64 qy)
        obtain ⟨s2, g2⟩ := s1.stored j (.int .i64 qx)
        rw [HS.out] at s2
        obtain ⟨Z, hZ⟩ : ∃ Z, Z = ((wr.setCell ⟨g, i, none⟩ (.int .i64 qy)).setCell ⟨g, j, none⟩ (.int .i64 qx)).drew := ⟨_, rfl⟩
        have Hend : Hid (Hid (Z.ownsRow base 3 1 (.slice (some ⟨g, 0, none⟩) n c) n (revTo xs (i + 1))) ∧ Hid (w.grownBy Z (some g))) := Lib.hid ⟨Lib.hid (by rw [hZ]; exact s2), Lib.hid (by rw [hZ]; exact grown_dr (grown_tr (grown_tr HG.out g1) g2))⟩
        have HZ := Lib.hid hZ
        clear hZ s1 s2 g1 g2
        go_upto_region 3 with fail
        have gd : wr.drew.cell? ⟨g, i, none⟩ = some (.int .i64 qx) ∧ wr.drew.cell? ⟨g, j, none⟩ = some (.int .i64 qy) := ⟨c0, c1⟩
        refine wp_region_noPanic ?_
        refine wp_region_held_drew (S := fun _ => True) (by kernel_rfl) trivial (fun hHeld => ?_)
        refine wpAnyH_take (i := 0) (v := ?_) rfl (by kernel_rfl) (by kernel_rfl) (by kernel_rfl) (fun _ _ _ h => h) (Or.inl ⟨by rfl, ?_⟩) (by assumption) ?_
        rotate_left
        · (intro w hSw; (try dsimp only at hSw); first | (go_simp; done) | (go_simp; with_reducible rfl))
        try simp only [Act.put, List.setIfInBounds_toArray, List.set_cons_zero, List.set_cons_succ]
        refine wpAnyH_take (i := 1) (v := ?_) rfl (by kernel_rfl) (by kernel_rfl) (by kernel_rfl) (fun _ _ _ h => h) (Or.inl ⟨by rfl, ?_⟩) (by assumption) ?_
        rotate_left
        · (intro w hSw; (try dsimp only at hSw); first | (go_simp; done) | (go_simp; with_reducible rfl))
        try simp only [Act.put, List.setIfInBounds_toArray, List.set_cons_zero, List.set_cons_succ]
        refine wpAnyH_take (i := 2) (v := ?_) rfl (by kernel_rfl) (by kernel_rfl) (by kernel_rfl) (fun _ _ _ h => h) (Or.inl ⟨by rfl, ?_⟩) (by assumption) ?_
        rotate_left
        · (intro w hSw; (try dsimp only at hSw); first | (go_simp; done) | (go_simp; with_reducible rfl))
        try simp only [Act.put, List.setIfInBounds_toArray, List.set_cons_zero, List.set_cons_succ]
        refine wpAnyH_take (i := 3) (v := ?_) rfl (by kernel_rfl) (by kernel_rfl) (by kernel_rfl) (fun _ _ _ h => h) (Or.inl ⟨by rfl, ?_⟩) (by assumption) ?_
        rotate_left
        · (intro w hSw; (try dsimp only at hSw); first | (go_simp; done) | (go_simp; with_reducible rfl))
        try simp only [Act.put, List.setIfInBounds_toArray, List.set_cons_zero, List.set_cons_succ]
        refine wpAnyH_take (i := 4) (v := ?_) rfl (by kernel_rfl) (by kernel_rfl) (by kernel_rfl) (fun _ _ _ h => h) (Or.inl ⟨by rfl, ?_⟩) (by assumption) ?_
        rotate_left
        · (intro w hSw; (try dsimp only at hSw); first | (go_simp; done) | (go_simp; with_reducible rfl))
        try simp only [Act.put, List.setIfInBounds_toArray, List.set_cons_zero, List.set_cons_succ]
        refine wpAnyH_take (i := 5) (v := ?_) rfl (by kernel_rfl) (by kernel_rfl) (by kernel_rfl) (fun _ _ _ h => h) (Or.inl ⟨by rfl, ?_⟩) (by assumption) ?_
        rotate_left
        · (intro w hSw; (try dsimp only at hSw); first | (go_simp; done) | (go_simp; with_reducible rfl))
        try simp only [Act.put, List.setIfInBounds_toArray, List.set_cons_zero, List.set_cons_succ]
        refine wpAnyH_take (i := 6) (v := ?_) rfl (by kernel_rfl) (by kernel_rfl) (by kernel_rfl) (fun _ _ _ h => h) (Or.inl ⟨by rfl, ?_⟩) (by assumption) ?_
        rotate_left
        · (intro w hSw; (try dsimp only at hSw); first | (go_simp; done) | (go_simp; with_reducible rfl))
        try simp only [Act.put, List.setIfInBounds_toArray, List.set_cons_zero, List.set_cons_succ]
        refine wpAnyH_take (i := 8) (v := ?_) rfl (by kernel_rfl) (by kernel_rfl) (by kernel_rfl) (fun _ _ _ h => h) (Or.inl ⟨by rfl, ?_⟩) (by assumption) ?_
        rotate_left
        · (intro w hSw; (try dsimp only at hSw); first | (go_simp; done) | (go_simp; with_reducible rfl))
        try simp only [Act.put, List.setIfInBounds_toArray, List.set_cons_zero, List.set_cons_succ]
        refine wpAnyH_take (i := 9) (v := ?_) rfl (by kernel_rfl) (by kernel_rfl) (by kernel_rfl) (fun _ _ _ h => h) (Or.inl ⟨by rfl, ?_⟩) (by assumption) ?_
        rotate_left
        · (intro w hSw; (try dsimp only at hSw); first | (go_simp; done) | (go_simp; with_reducible rfl))
        try simp only [Act.put, List.setIfInBounds_toArray, List.set_cons_zero, List.set_cons_succ]
        refine wpAnyH_take (i := 10) (v := ?_) rfl (by kernel_rfl) (by kernel_rfl) (by kernel_rfl) (fun _ _ _ h => h) (Or.inl ⟨by rfl, ?_⟩) (by assumption) ?_
        rotate_left
        · (intro w hSw; (try dsimp only at hSw); first | (go_simp; done) | (go_simp; with_reducible rfl))
        try simp only [Act.put, List.setIfInBounds_toArray, List.set_cons_zero, List.set_cons_succ]
        refine wpAnyH_ready (rs := [7, 11]) (by kernel_rfl) (by simp) ?_
        refine AllReadyH.cons rfl (fun K hK => ?_) (AllReadyH.cons rfl (fun K hK => ?_) (AllReadyH.nil))
        · go_simp
          refine hK.out _ _ ?_ (fun hHeld => ?_)
          · ((try dsimp only); all_goals trivial)
          clear hK K
          try simp only [Act.put, List.setIfInBounds_toArray, List.set_cons_zero, List.set_cons_succ]
          refine wpAnyH_ready (rs := [11]) (by kernel_rfl) (by simp) ?_
          refine AllReadyH.cons rfl (fun K hK => ?_) (AllReadyH.nil)
          go_simp
          refine hK.out _ _ ?_ (fun hHeld => ?_)
          · ((try dsimp only); all_goals trivial)
          clear hK K
          try simp only [Act.put, List.setIfInBounds_toArray, List.set_cons_zero, List.set_cons_succ]
          refine wpAnyH_take (i := 12) (v := ?_) rfl (by kernel_rfl) (by kernel_rfl) (by kernel_rfl) (fun _ _ _ h => h) (Or.inl ⟨by rfl, ?_⟩) (by assumption) ?_
          rotate_left
          · (intro w hSw; (try dsimp only at hSw); first | (go_simp; done) | (go_simp; with_reducible rfl))
          try simp only [Act.put, List.setIfInBounds_toArray, List.set_cons_zero, List.set_cons_succ]
          refine wpAnyH_ready (rs := [13]) (by kernel_rfl) (by simp) ?_
          refine AllReadyH.cons rfl (fun K hK => ?_) (AllReadyH.nil)
          go_simp
          refine hK.out _ _ ?_ (fun hHeld => ?_)
          · ((try dsimp only); all_goals trivial)
          clear hK K
          try simp only [Act.put, List.setIfInBounds_toArray, List.set_cons_zero, List.set_cons_succ]
          refine wpAnyH_take (i := 14) (v := ?_) rfl (by kernel_rfl) (by kernel_rfl) (by kernel_rfl) (fun _ _ _ h => h) (Or.inl ⟨by rfl, ?_⟩) (by assumption) ?_
          rotate_left
          · (intro w hSw; (try dsimp only at hSw); first | (go_simp; done) | (go_simp; with_reducible rfl))
          try simp only [Act.put, List.setIfInBounds_toArray, List.set_cons_zero, List.set_cons_succ]
          refine wpAnyH_ready (rs := [15]) (by kernel_rfl) (by simp) ?_
          refine AllReadyH.cons rfl (fun K hK => ?_) (AllReadyH.nil)
          go_simp
          refine hK.out _ _ ?_ (fun hHeld => ?_)
          · ((try dsimp only); all_goals trivial)
          clear hK K
          try simp only [Act.put, List.setIfInBounds_toArray, List.set_cons_zero, List.set_cons_succ]
          refine wpAnyH_done (by kernel_rfl) ?_ _
          refine NoPanic.normal ?_
          clear c0 c1 f0 f1 hHeld
          go_simp
          rw [← HZ.out]
          go_wp2
          go_roundw
          case rel => exact ⟨i + 1, by have := Hj.out; omega, by go_num, by have := Hji.out; go_num, Hend.out.1, Hend.out.2⟩
          case measure => simp [intOf]; omega
        · go_simp
          refine hK.out _ _ ?_ (fun hHeld => ?_)
          · ((try dsimp only); all_goals trivial)
          clear hK K
          try simp only [Act.put, List.setIfInBounds_toArray, List.set_cons_zero, List.set_cons_succ]
          refine wpAnyH_ready (rs := [7]) (by kernel_rfl) (by simp) ?_
          refine AllReadyH.cons rfl (fun K hK => ?_) (AllReadyH.nil)
          go_simp
          refine hK.out _ _ ?_ (fun hHeld => ?_)
          · ((try dsimp only); all_goals trivial)
          clear hK K
          try simp only [Act.put, List.setIfInBounds_toArray, List.set_cons_zero, List.set_cons_succ]
          refine wpAnyH_take (i := 12) (v := ?_) rfl (by kernel_rfl) (by kernel_rfl) (by kernel_rfl) (fun _ _ _ h => h) (Or.inl ⟨by rfl, ?_⟩) (by assumption) ?_
          rotate_left
          · (intro w hSw; (try dsimp only at hSw); first | (go_simp; done) | (go_simp; with_reducible rfl))
          try simp only [Act.put, List.setIfInBounds_toArray, List.set_cons_zero, List.set_cons_succ]
          refine wpAnyH_ready (rs := [13]) (by kernel_rfl) (by simp) ?_
          refine AllReadyH.cons rfl (fun K hK => ?_) (AllReadyH.nil)
          go_simp
          refine hK.out _ _ ?_ (fun hHeld => ?_)
          · ((try dsimp only); all_goals trivial)
          clear hK K
          try simp only [Act.put, List.setIfInBounds_toArray, List.set_cons_zero, List.set_cons_succ]
          refine wpAnyH_take (i := 14) (v := ?_) rfl (by kernel_rfl) (by kernel_rfl) (by kernel_rfl) (fun _ _ _ h => h) (Or.inl ⟨by rfl, ?_⟩) (by assumption) ?_
          rotate_left
          · (intro w hSw; (try dsimp only at hSw); first | (go_simp; done) | (go_simp; with_reducible rfl))
          try simp only [Act.put, List.setIfInBounds_toArray, List.set_cons_zero, List.set_cons_succ]
          refine wpAnyH_ready (rs := [15]) (by kernel_rfl) (by simp) ?_
          refine AllReadyH.cons rfl (fun K hK => ?_) (AllReadyH.nil)
          go_simp
          refine hK.out _ _ ?_ (fun hHeld => ?_)
          · ((try dsimp only); all_goals trivial)
          clear hK K
          try simp only [Act.put, List.setIfInBounds_toArray, List.set_cons_zero, List.set_cons_succ]
          refine wpAnyH_done (by kernel_rfl) ?_ _
          refine NoPanic.normal ?_
          clear c0 c1 f0 f1 hHeld
          go_simp
          rw [← HZ.out]
          go_wp2
          go_roundw
          case rel => exact ⟨i + 1, by have := Hj.out; omega, by go_num, by have := Hji.out; go_num, Hend.out.1, Hend.out.2⟩
          case measure => simp [intOf]; omega
      · go_wp2
        go_end0
        have := HO.out
        rw [revTo_end _ _ (by rw [Hl.out]; omega)] at this
        exact ⟨⟨_, rfl⟩, this, HG.out⟩

end Go.Proofs.Ytagagpappjkgbaa
namespace Go.Proofs.Ytagagpappjkgbaa
set_option linter.unusedVariables false
set_option linter.unusedSimpArgs false
open Go.RowKit

def orderP (g : List GB) : List Nat := (postP g).reverse
theorem unseen_le (s : List Bool) : unseen s ≤ s.length := List.count_le_length
theorem goP_len {g : List GB} {f : Nat → List Bool → List Nat → Option (List Bool × List Nat)} (hf : ∀ b s o s' o', f b s o = some (s', o') → s.length = g.length → b < g.length → s.getD b false = false → s'.length = g.length ∧ o'.length + unseen s' = o.length + unseen s) :
    ∀ (ts : List Int) (s : List Bool) (o : List Nat) (s' : List Bool) (o' : List Nat), (∀ t ∈ ts, 0 ≤ t ∧ t < g.length) → s.length = g.length → goP f ts s o = some (s', o') → s'.length = g.length ∧ o'.length + unseen s' = o.length + unseen s
  | [], s, o, s', o', _, hs, h => by
    simp [goP] at h
    obtain ⟨rfl, rfl⟩ := h
    exact ⟨hs, rfl⟩
  | t :: ts, s, o, s', o', ht, hs, h => by
    unfold goP at h
    have h0 := ht t (by simp)
    have hts : ∀ t ∈ ts, 0 ≤ t ∧ t < g.length := fun x hx => ht x (List.mem_cons_of_mem _ hx)
    cases hq : s.getD t.toNat false with
    | true => rw [hq, if_pos rfl] at h; exact goP_len hf ts s o s' o' hts hs h
    | false =>
      rw [hq, if_neg (by simp)] at h
      cases hw : f t.toNat s o with
      | none => rw [hw] at h; cases h
      | some r =>
        obtain ⟨s1, o1⟩ := r
        rw [hw] at h
        obtain ⟨h1, h2⟩ := hf _ _ _ _ _ hw hs (by omega) hq
        obtain ⟨h3, h4⟩ := goP_len hf ts s1 o1 s' o' hts h1 h
        exact ⟨h3, by omega⟩
theorem walkP_len {g : List GB} (hg : tosOk g) : ∀ (k b : Nat) (s : List Bool) (o : List Nat) (s' : List Bool) (o' : List Nat), walkP g k b s o = some (s', o') → s.length = g.length → b < g.length → s.getD b false = false → s'.length = g.length ∧ o'.length + unseen s' = o.length + unseen s
  | 0, b, s, o, s', o', h, _, _, _ => by simp [walkP] at h
  | k + 1, b, s, o, s', o', h, hs, hb, hq => by
    unfold walkP at h
    cases hw : goP (walkP g k) (tosG g b) (s.set b true) o with
    | none => rw [hw] at h; cases h
    | some r =>
      obtain ⟨s1, o1⟩ := r
      rw [hw] at h
      simp only [Option.some.injEq, Prod.mk.injEq] at h
      obtain ⟨rfl, rfl⟩ := h
      have h1 := unseen_set s b (by omega) hq
      obtain ⟨h2, h3⟩ := goP_len (walkP_len hg k) (tosG g b) (s.set b true) o s1 o1 (fun t ht => hg b t ht) (by simpa using hs) hw
      exact ⟨h2, by simp; omega⟩
theorem postP_len (g : List GB) : (postP g).length ≤ g.length := by
  cases h : wholeG g with
  | false => unfold postP; rw [h]; simp
  | true =>
    obtain ⟨s', h1, _⟩ := postP_run h
    obtain ⟨hp, _⟩ := wholeG_all h
    have := (walkP_len (tosOk_of h) _ _ _ _ _ _ h1 (by simp) hp (by simp [List.getD, hp])).2
    have h2 := unseen_le (List.replicate g.length false)
    simp at this h2
    omega
theorem natsV_rev (l : List Nat) : (natsV l).reverse = natsV l.reverse := by simp [natsV]
theorem natsV_int (l : List Nat) : ∀ u ∈ natsV l, ∃ q, u = Value.int .i64 q := fun u hu => by
  simp [natsV] at hu
  obtain ⟨a, _, rfl⟩ := hu
  exact ⟨_, rfl⟩

set_option maxRecDepth 100000 in
set_option maxHeartbeats 4000000 in
theorem order_g (n0 : Nat) (f : Value) (g : List GB) (w : World) (hf : GF n0 w f g) (hn : n0 ≤ w.heap.size) :
    Calls Try.prog 117 #[f] w fun e w' => ∃ v, e = .returned v ∧ w'.ownsRow w.heap.size 3 1 v (orderP g).length (natsV (orderP g)) ∧ Below w.heap.size w w' := by
  have hf0 := hf
  obtain ⟨s, pA, pn, pc, r, iA, in_, ic, bA, bn, bc, rfl, hG, hbn⟩ := hf
  obtain ⟨W, hW, hbW, hzW, h0W⟩ := gr_one w #[.string s, .slice pA pn pc, .int .i64 r, .slice iA in_ ic, .slice bA bn bc] 68
  obtain ⟨x0, x1, x2, x3, x4, -⟩ := gr_five h0W
  have hlen : bn ≤ 1048576 := by rw [hbn]; obtain ⟨_, _, _, h, _⟩ := hG; exact h
  have hfW : GF n0 W (.agg #[.string s, .slice pA pn pc, .int .i64 r, .slice iA in_ ic, .slice bA bn bc]) g := ⟨s, pA, pn, pc, r, iA, in_, ic, bA, bn, bc, rfl, hG.keep (hbW.mono hn), hbn⟩
  have hH := post_g n0 _ g W hfW (by omega)
  have hpl := postP_len g
  rw [← hbn] at hpl
  have HbW := Lib.hid hbW
  have HW := Lib.hid hW
  have HzW := Lib.hid hzW
  obtain ⟨P, hP⟩ : ∃ P, P = postP g := ⟨_, rfl⟩
  have ho : orderP g = P.reverse := by rw [hP]; rfl
  rw [← hP] at hH hpl
  rw [ho]
  clear hbW hW hG hbn hzW h0W hf0 hfW ho hP
  go_enter Try.func117, Try.ntmps117
  go_upto_region 1 with fail
  rw [← HW.out]
  go_wp2_with (go_at_call 136; refine hH.mono ?_; rintro e w1 ⟨v, rfl, ho1, hb1⟩; obtain ⟨A, c, rfl⟩ := gr_slice ho1; have hR := rev_int W.heap.size _ _ _ w1 ho1 hb1.size (by omega) (natsV_int P); have Ho1 := Lib.hid ho1; have Hb1 := Lib.hid hb1; clear hH ho1 hb1)
  go_wp2_with (go_at_call 137; refine hR.mono ?_; rintro e w2 ⟨⟨r2, rfl⟩, ho2, hg2⟩; have Ho2 := Lib.hid ho2; have Hg2 := Lib.hid hg2; clear hR ho2 hg2)
  go_ret
  have h2 := Hb1.out.grown Hg2.out Hb1.out.size (fun k e => (Ho1.out.lt k e).1)
  refine ⟨_, rfl, ?_, HbW.out.trans (h2.mono (by rw [HzW.out]; omega))⟩
  have := gr_mono Ho2.out (base' := w.heap.size) (by rw [HzW.out]; omega)
  rw [natsV_rev] at this
  simpa using this
end Go.Proofs.Ytagagpappjkgbaa
namespace Go.Proofs.Ytagagpappjkgbaa
set_option linter.unusedVariables false
set_option linter.unusedSimpArgs false
open Go.RowKit

end Go.Proofs.Ytagagpappjkgbaa
namespace Go.Proofs.Ytagagpappjkgbaa
set_option linter.unusedVariables false
set_option linter.unusedSimpArgs false
open Go.RowKit

/-- All but one block is as it was. -/
structure GBu (g : Nat) (w w' : World) : Prop where
  os : w'.os = w.os
  tape : w'.tape = w.tape
  output : w'.output = w.output
  size : w.heap.size ≤ w'.heap.size
  block : ∀ k, k < w.heap.size → k ≠ g → w'.heap[k]? = w.heap[k]?
theorem GBu.refl (g : Nat) (w : World) : GBu g w w := ⟨rfl, rfl, rfl, Nat.le_refl _, fun _ _ _ => rfl⟩
theorem GBu.trans {g : Nat} {a b c : World} (h : GBu g a b) (k : GBu g b c) : GBu g a c :=
  ⟨k.os.trans h.os, k.tape.trans h.tape, k.output.trans h.output, Nat.le_trans h.size k.size, fun i hi hg => (k.block i (Nat.lt_of_lt_of_le hi h.size) hg).trans (h.block i hi hg)⟩
theorem GBu.of_below {g : Nat} {w w' : World} (h : Below w.heap.size w w') : GBu g w w' := ⟨h.os, h.tape, h.output, h.size, fun k hk _ => h.block k hk⟩
theorem GBu.below {g B : Nat} {a w w' : World} (h : GBu g w w') (ha : Below B a w) (hg : B ≤ g) (hB : B ≤ w.heap.size) : Below B a w' :=
  ha.trans ⟨h.os, h.tape, h.output, h.size, fun k hk => h.block k (Nat.lt_of_lt_of_le hk hB) (by omega)⟩
theorem GBu.drew {g : Nat} {a w : World} (h : GBu g a w) : GBu g a w.drew := ⟨h.os, h.tape, h.output, h.size, h.block⟩
/-- A store into the block, or into one that was not there. -/
theorem GBu.setCell {g : Nat} {a w : World} (h : GBu g a w) {p : Addr} (hp : p.block = g ∨ a.heap.size ≤ p.block) (u : Value) : GBu g a (w.setCell p u) :=
  ⟨h.os, h.tape, h.output, by simpa [World.setCell] using h.size, fun k hk hg => (Below.heap_setCell _ _ _ _ (by omega)).trans (h.block k hk hg)⟩
theorem GBu.cell {g : Nat} {w w' : World} (h : GBu g w w') {p : Addr} (hp : p.block < w.heap.size) (hg : p.block ≠ g) : w'.cell? p = w.cell? p := World.cell?_of_block (h.block _ hp hg)
/-- A row: of which type, how many cells an element has, where it lies, how many elements, its cells. -/
structure GRw where
  T : TypeId
  z : Nat
  v : Value
  n : Nat
  xs : List Value
/-- Rows by numbers; no two share a block. -/
structure GFam (w : World) (base E : Nat) (F : Nat → GRw) : Prop where
  el : E < w.heap.size
  av : ∀ k, (F k).v.ownBlock ≠ some E
  own : ∀ k, w.ownsRow base (F k).T (F k).z (F k).v (F k).n (F k).xs
  ne : ∀ k l, k ≠ l → (F k).v.ownBlock = none ∨ (F k).v.ownBlock ≠ (F l).v.ownBlock
def upG (F : Nat → GRw) (k : Nat) (r : GRw) : Nat → GRw := fun j => if j = k then r else F j
theorem upG_at (F : Nat → GRw) (k : Nat) (r : GRw) : upG F k r k = r := by simp [upG]
theorem upG_off (F : Nat → GRw) (k j : Nat) (r : GRw) (h : j ≠ k) : upG F k r j = F j := by simp [upG, h]
theorem GFam.keep {w w' : World} {base E : Nat} {F : Nat → GRw} (h : GFam w base E F) (hb : Below w.heap.size w w') : GFam w' base E F :=
  ⟨Nat.lt_of_lt_of_le h.el hb.size, h.av, fun k => gr_up (h.own k) hb, h.ne⟩
theorem GFam.bu {w w' : World} {base E : Nat} {F : Nat → GRw} (h : GFam w base E F) (hb : GBu E w w') : GFam w' base E F :=
  ⟨Nat.lt_of_lt_of_le h.el hb.size, h.av, fun k => (h.own k).kept (row := some E) ⟨hb.os, hb.tape, hb.output, hb.size, fun j hj hne => hb.block j hj (fun e => hne (by rw [e]))⟩ (.inr (h.av k)), h.ne⟩
/-- One row is another one now: in its own block, or in a new one, or nothing. -/
theorem GFam.grown {w w' : World} {base E : Nat} {F : Nat → GRw} (h : GFam w base E F) (k : Nat) (hg : w.grownBy w' (F k).v.ownBlock) (r : GRw) (hown : w'.ownsRow base r.T r.z r.v r.n r.xs)
    (hat : ∀ g, r.v.ownBlock = some g → (F k).v.ownBlock = some g ∨ w.heap.size ≤ g) : GFam w' base E (upG F k r) := by
  refine ⟨Nat.lt_of_lt_of_le h.el hg.size, fun j => ?_, fun j => ?_, fun i j hij => ?_⟩
  · by_cases hj : j = k
    · subst hj
      rw [upG_at]
      intro e
      rcases hat E e with h1 | h1
      · exact h.av j h1
      · have := h.el; omega
    · rw [upG_off _ _ _ _ hj]; exact h.av j
  · by_cases hj : j = k
    · subst hj; rw [upG_at]; exact hown
    · rw [upG_off _ _ _ _ hj]; exact (h.own j).kept hg (h.ne j k hj)
  · by_cases hi : i = k
    · subst hi
      rw [upG_at, upG_off _ _ _ _ (fun e => hij e.symm)]
      cases hr : r.v.ownBlock with
      | none => exact .inl rfl
      | some g =>
        refine .inr (fun e => ?_)
        rcases hat g hr with h1 | h1
        · rcases h.ne i j hij with h2 | h2
          · rw [h1] at h2; cases h2
          · exact h2 (h1.trans e)
        · have := ((h.own j).lt g e.symm).2; omega
    · rw [upG_off _ _ _ _ hi]
      by_cases hj : j = k
      · subst hj
        rw [upG_at]
        cases hf : (F i).v.ownBlock with
        | none => exact .inl rfl
        | some g =>
          refine .inr (fun e => ?_)
          rcases hat g e.symm with h1 | h1
          · rcases h.ne i j hij with h2 | h2
            · rw [hf] at h2; cases h2
            · exact h2 (hf.trans h1.symm)
          · have := ((h.own i).lt g hf).2; omega
      · rw [upG_off _ _ _ _ hj]; exact h.ne i j hij
/-- A store into a row. -/
theorem GFam.put {w : World} {base E : Nat} {F : Nat → GRw} (h : GFam w base E F) {k : Nat} {T : TypeId} {z g n c : Nat} {xs : List Value} (hk : F k = ⟨T, z, .slice (some ⟨g, 0, none⟩) n c, n, xs⟩) (j : Nat) (u : Value) :
    GFam (w.setCell ⟨g, j, none⟩ u) base E (upG F k ⟨T, z, .slice (some ⟨g, 0, none⟩) n c, n, xs.set j u⟩) ∧ w.grownBy (w.setCell ⟨g, j, none⟩ u) (some g) := by
  have ho : w.ownsRow base T z (.slice (some ⟨g, 0, none⟩) n c) n xs := by have := h.own k; rw [hk] at this; exact this
  obtain ⟨s1, s2⟩ := ho.stored j u
  exact ⟨h.grown k (by rw [hk]; exact s2) _ s1 (fun g' e => .inl (by rw [hk]; exact e)), s2⟩
theorem GFam.at {w : World} {base E : Nat} {F : Nat → GRw} (h : GFam w base E F) {k : Nat} {r : GRw} (hk : F k = r) : w.ownsRow base r.T r.z r.v r.n r.xs := by have := h.own k; rw [hk] at this; exact this
theorem GFam.apart {w : World} {base E : Nat} {F : Nat → GRw} (h : GFam w base E F) {k l : Nat} (hn : k ≠ l) {r s : GRw} (hk : F k = r) (hl : F l = s) {g : Nat} (hg : s.v.ownBlock = some g) : some g ≠ r.v.ownBlock := fun e => by
  rcases h.ne k l hn with h | h
  · rw [hk] at h; rw [h] at e; cases e
  · rw [hk, hl, hg] at h; exact h e.symm
/-- Below base all but one block is as it was. -/
structure GBd (E base : Nat) (w w' : World) : Prop where
  os : w'.os = w.os
  tape : w'.tape = w.tape
  output : w'.output = w.output
  size : w.heap.size ≤ w'.heap.size
  block : ∀ k, k < base → k ≠ E → w'.heap[k]? = w.heap[k]?
theorem GBd.refl (E base : Nat) (w : World) : GBd E base w w := ⟨rfl, rfl, rfl, Nat.le_refl _, fun _ _ _ => rfl⟩
theorem GBd.trans {E base : Nat} {a b c : World} (h : GBd E base a b) (k : GBd E base b c) : GBd E base a c :=
  ⟨k.os.trans h.os, k.tape.trans h.tape, k.output.trans h.output, Nat.le_trans h.size k.size, fun i hi hg => (k.block i hi hg).trans (h.block i hi hg)⟩
theorem GBd.of_below {E base : Nat} {w w' : World} (h : Below w.heap.size w w') (hb : base ≤ w.heap.size) : GBd E base w w' := ⟨h.os, h.tape, h.output, h.size, fun k hk _ => h.block k (by omega)⟩
theorem GBd.of_bu {E base : Nat} {w w' : World} (h : GBu E w w') (hb : base ≤ w.heap.size) : GBd E base w w' := ⟨h.os, h.tape, h.output, h.size, fun k hk hn => h.block k (by omega) hn⟩
theorem GBd.of_grown {E base : Nat} {w w' : World} {row : Option Nat} (h : w.grownBy w' row) (hr : ∀ g, row = some g → base ≤ g) (hb : base ≤ w.heap.size) : GBd E base w w' := ⟨h.os, h.tape, h.output, h.size, fun k hk _ => h.block k (by omega) (fun e => by have := hr k e.symm; omega)⟩
theorem GBd.below {E base B : Nat} {a w w' : World} (h : GBd E base w w') (ha : Below B a w) (hg : B ≤ E) (hB : B ≤ base) : Below B a w' :=
  ha.trans ⟨h.os, h.tape, h.output, h.size, fun k hk => h.block k (by omega) (by omega)⟩
end Go.Proofs.Ytagagpappjkgbaa
namespace Go.Proofs.Ytagagpappjkgbaa
set_option linter.unusedVariables false
set_option linter.unusedSimpArgs false
open Go.RowKit

def normG (n x : Int) : Int := ((x.tmod n) + n).tmod n
theorem normG_in (n x : Int) (hn : 0 < n) : 0 ≤ normG n x ∧ normG n x < n := by
  unfold normG
  have h1 : -n < x.tmod n := Int.lt_tmod_of_pos x hn
  exact ⟨Int.tmod_nonneg _ (by omega), Int.tmod_lt_of_pos _ hn⟩
/-- How a block ends: kind, argument, where it goes. -/
def endG (n : Nat) (whole : Bool) (x : Int × Int) : Int × Int × List Int :=
  let a := if whole then normG n x.1 else x.1
  let b := if whole then normG n x.2 else x.2
  if x.1 = -1 ∧ whole then (3, -1, []) else if a = b then (1, -1, [a]) else (2, 0, [a, b])
/-- Which blocks go where, from block i on. -/
def edgesG : Nat → List (List Int) → List (Nat × Int)
  | _, [] => []
  | i, t :: ts => t.map (fun x => (i, x)) ++ edgesG (i + 1) ts
def predsG (E : List (Nat × Int)) (j : Nat) : List Int := (E.filter fun e => e.2 == (j : Int)).map fun e => (e.1 : Int)
def endsG (l : List (Int × Int)) (whole : Bool) : List (Int × Int × List Int) := (l.take 14).map (endG (min l.length 14) whole)
theorem edgesG_app : ∀ (ts us : List (List Int)) (i : Nat), edgesG i (ts ++ us) = edgesG i ts ++ edgesG (i + ts.length) us
  | [], us, i => by simp [edgesG]
  | t :: ts, us, i => by
    simp only [List.cons_append, edgesG, edgesG_app ts us (i + 1), List.append_assoc, List.length_cons]
    rw [show i + 1 + ts.length = i + (ts.length + 1) by omega]
theorem predsG_app (E : List (Nat × Int)) (i : Nat) (x : Int) (j : Nat) : predsG (E ++ [(i, x)]) j = if x = (j : Int) then predsG E j ++ [(i : Int)] else predsG E j := by
  unfold predsG
  by_cases h : x = (j : Int)
  · simp [h]
  · simp [h]

/-- Pairs as they lie. -/
def GPr (n0 : Nat) (w : World) (v : Value) (l : List (Int × Int)) : Prop := ∃ A c, v = .slice A l.length c ∧ (0 < l.length → ∃ b o, A = some ⟨b, o, none⟩ ∧ b < n0 ∧ ∀ j x, l[j]? = some x → w.cell? ⟨b, o + j * 2, none⟩ = some (.int .i64 x.1) ∧ w.cell? ⟨b, o + j * 2 + 1, none⟩ = some (.int .i64 x.2))
theorem GPr.keep {n0 : Nat} {w w' : World} {v : Value} {l : List (Int × Int)} (h : GPr n0 w v l) (hb : Below n0 w w') : GPr n0 w' v l := by
  obtain ⟨A, c, hv, hr⟩ := h
  refine ⟨A, c, hv, fun hp => ?_⟩
  obtain ⟨b, o, hA, hbn, hc⟩ := hr hp
  exact ⟨b, o, hA, hbn, fun j x hx => ⟨(hb.cell (p := ⟨b, _, none⟩) hbn).trans (hc j x hx).1, (hb.cell (p := ⟨b, _, none⟩) hbn).trans (hc j x hx).2⟩⟩
theorem GPr.at {n0 : Nat} {w : World} {A : Option Addr} {m c : Nat} {l : List (Int × Int)} (h : GPr n0 w (.slice A m c) l) {j : Nat} (hj : j < l.length) :
    ∃ b o, A = some ⟨b, o, none⟩ ∧ b < n0 ∧ w.cell? ⟨b, o + j * 2, none⟩ = some (.int .i64 l[j].1) ∧ w.cell? ⟨b, o + j * 2 + 1, none⟩ = some (.int .i64 l[j].2) := by
  obtain ⟨A', c', hv, hr⟩ := h
  obtain ⟨b, o, hA, hbn, hc⟩ := hr (by omega)
  injection hv with e1
  subst e1
  exact ⟨b, o, hA, hbn, hc j _ (List.getElem?_eq_getElem hj)⟩

/-- A block while the function is made. -/
structure GD where
  pv : Value
  tv : Value
  preds : List Int
  kind : Int
  arg : Int
  to_ : List Int
def GD.cells (d : GD) : List Value := [.slice none 0 0, d.pv, .int .i64 d.kind, .int .i64 d.arg, d.tv]
def blocksG (ds : List GD) : List Value := ds.flatMap GD.cells
theorem blocksG_at : ∀ (ds : List GD) (j q : Nat) (d : GD), ds[j]? = some d → q < 5 → (blocksG ds)[j * 5 + q]? = d.cells[q]?
  | [], j, q, d, h, _ => by simp at h
  | x :: ds, 0, q, d, h, hq => by
    simp at h
    subst h
    rw [Nat.zero_mul, Nat.zero_add]
    simp only [blocksG, List.flatMap_cons]
    rw [List.getElem?_append_left (by simpa [GD.cells] using hq)]
  | x :: ds, j + 1, q, d, h, hq => by
    have := blocksG_at ds j q d (by simpa using h) hq
    simp only [blocksG, List.flatMap_cons] at this ⊢
    rw [List.getElem?_append_right (by simp [GD.cells]; omega), ← this]
    congr 1
    simp [GD.cells]; omega
theorem blocksG_set : ∀ (ds : List GD) (j : Nat) (d : GD) (v : Value) (p : List Int), ds[j]? = some d → (blocksG ds).set (j * 5 + 1) v = blocksG (ds.set j { d with pv := v, preds := p })
  | [], j, d, v, p, h => by simp at h
  | x :: ds, 0, d, v, p, h => by
    simp at h
    subst h
    simp [blocksG, GD.cells]
  | x :: ds, j + 1, d, v, p, h => by
    have := blocksG_set ds j d v p (by simpa using h)
    simp only [blocksG, List.flatMap_cons, List.set_cons_succ] at this ⊢
    rw [List.set_append_right _ _ (by simp [GD.cells]; omega), ← this]
    congr 2
    simp [GD.cells]; omega
def rowT (d : GD) : GRw := ⟨3, 1, d.tv, d.to_.length, intsV d.to_⟩
def rowP (d : GD) : GRw := ⟨3, 1, d.pv, d.preds.length, intsV d.preds⟩
def rowNo : GRw := ⟨3, 1, .slice none 0 0, 0, []⟩
/-- The function's rows: its blocks; where each goes; from where it is come to. -/
def famG (BV : Value) (ds : List GD) : Nat → GRw
  | 0 => ⟨76, 5, BV, ds.length, blocksG ds⟩
  | k + 1 => match ds[k / 2]? with
    | none => rowNo
    | some d => if k % 2 = 0 then rowT d else rowP d
theorem famG_succ (BV : Value) (ds : List GD) (k : Nat) : famG BV ds (k + 1) = match ds[k / 2]? with
    | none => rowNo
    | some d => if k % 2 = 0 then rowT d else rowP d := rfl
theorem famG_t (BV : Value) (ds : List GD) (j : Nat) (d : GD) (h : ds[j]? = some d) : famG BV ds (2 * j + 1) = rowT d := by
  rw [famG_succ]
  rw [show 2 * j / 2 = j by omega, h]
  simp
theorem famG_p (BV : Value) (ds : List GD) (j : Nat) (d : GD) (h : ds[j]? = some d) : famG BV ds (2 * j + 2) = rowP d := by
  rw [show 2 * j + 2 = (2 * j + 1) + 1 from rfl, famG_succ]
  rw [show (2 * j + 1) / 2 = j by omega, h]
  simp
theorem famG_new (BV BV' : Value) (ds : List GD) (d : GD) (hp : d.pv = .slice none 0 0) (hq : d.preds = []) :
    upG (upG (famG BV ds) (2 * ds.length + 1) (rowT d)) 0 ⟨76, 5, BV', ds.length + 1, blocksG ds ++ d.cells⟩ = famG BV' (ds ++ [d]) := by
  funext k
  cases k with
  | zero => simp [upG, famG, blocksG]
  | succ k =>
    rw [upG_off _ _ _ _ (by omega)]
    by_cases hk : k = 2 * ds.length
    · subst hk
      rw [upG_at, famG_t _ _ _ d (by simp)]
    · rw [upG_off _ _ _ _ (by omega)]
      unfold famG
      simp only
      by_cases h1 : k / 2 < ds.length
      · rw [List.getElem?_append_left h1]
      · rw [List.getElem?_eq_none (Nat.le_of_not_lt h1)]
        by_cases h2 : k / 2 = ds.length
        · rw [h2, List.getElem?_append_right (Nat.le_refl _), Nat.sub_self]
          simp only [List.getElem?_cons_zero]
          rw [if_neg (by omega)]
          unfold rowNo rowP
          rw [hp, hq]
          rfl
        · rw [List.getElem?_eq_none (by simp; omega)]
theorem famG_set (BV : Value) (ds : List GD) (j : Nat) (d : GD) (v : Value) (p : List Int) (h : ds[j]? = some d) :
    upG (upG (famG BV ds) (2 * j + 2) ⟨3, 1, v, p.length, intsV p⟩) 0 ⟨76, 5, BV, ds.length, (blocksG ds).set (j * 5 + 1) v⟩ = famG BV (ds.set j { d with pv := v, preds := p }) := by
  have hj : j < ds.length := (List.getElem?_eq_some_iff.1 h).1
  funext k
  cases k with
  | zero =>
    rw [upG_at, blocksG_set ds j d v p h]
    simp [famG]
  | succ k =>
    rw [upG_off _ _ _ _ (by omega)]
    by_cases hk : k = 2 * j + 1
    · subst hk
      rw [upG_at, famG_p _ _ _ { d with pv := v, preds := p } (by simp [hj])]
      rfl
    · rw [upG_off _ _ _ _ (by omega)]
      unfold famG
      simp only
      by_cases h2 : k / 2 = j
      · rw [h2, h, List.getElem?_set_self hj]
        simp only
        have h3 : k % 2 = 0 := by omega
        rw [if_pos h3, if_pos h3]
        rfl
      · rw [List.getElem?_set_ne (fun e => h2 e.symm)]

/-- The function's box. -/
def boxG (w : World) (E : Nat) (BV : Value) : Prop := w.heap[E]? = some (.cells #[.string ⟨#[]⟩, .slice none 0 0, .int .i64 0, .slice none 0 0, BV] 68 (0, 0))
structure GMk (base E : Nat) (w0 w : World) (BV : Value) (ds : List GD) : Prop where
  box : boxG w E BV
  fam : GFam w base E (famG BV ds)
  bd : GBd E base w0 w
  hb : base ≤ w.heap.size
theorem GMk.keep {base E : Nat} {w0 w w' : World} {BV : Value} {ds : List GD} (h : GMk base E w0 w BV ds) (hb : Below w.heap.size w w') : GMk base E w0 w' BV ds :=
  ⟨(hb.block E h.fam.el).trans h.box, h.fam.keep hb, h.bd.trans (GBd.of_below hb h.hb), Nat.le_trans h.hb hb.size⟩
theorem famG_zero (BV : Value) (ds : List GD) : famG BV ds 0 = ⟨76, 5, BV, ds.length, blocksG ds⟩ := rfl
/-- One more block: where it goes lies in w1, the row of blocks has grown in w2, the box is written. -/
theorem GMk.more {base E : Nat} {w0 w w1 w2 : World} {A : Option Addr} {n c g c2 : Nat} {ds : List GD} {d : GD} (h : GMk base E w0 w (.slice A n c) ds) (hb : Below w.heap.size w w1) (hp : d.pv = .slice none 0 0) (hq : d.preds = [])
    (ht : w1.ownsRow base 3 1 d.tv d.to_.length (intsV d.to_)) (htn : ∀ k, d.tv.ownBlock = some k → w.heap.size ≤ k)
    (hg : w1.grownBy w2 (Value.slice A n c).ownBlock) (ho : w2.ownsRow base 76 5 (.slice (some ⟨g, 0, none⟩) (ds.length + 1) c2) (ds.length + 1) (blocksG ds ++ d.cells)) (hat : (Value.slice A n c).ownBlock = some g ∨ w1.heap.size ≤ g) :
    GMk base E w0 (w2.setCell ⟨E, 4, none⟩ (.slice (some ⟨g, 0, none⟩) (ds.length + 1) c2)) (.slice (some ⟨g, 0, none⟩) (ds.length + 1) c2) (ds ++ [d]) := by
  have hEl := h.fam.el
  have hav := h.fam.av 0
  rw [famG_zero] at hav
  have hE2 : boxG w2 E (.slice A n c) := (hg.block E (by have := hb.size; omega) (fun e => hav e.symm)).trans ((hb.block E hEl).trans h.box)
  have hE3 := gr_put hE2 4 (.slice (some ⟨g, 0, none⟩) (ds.length + 1) c2)
  have f1 : GFam w1 base E (upG (famG (.slice A n c) ds) (2 * ds.length + 1) (rowT d)) := by
    refine h.fam.grown _ (w' := w1) ⟨hb.os, hb.tape, hb.output, hb.size, fun k hk _ => hb.block k hk⟩ (rowT d) ht (fun g e => .inr (htn g e))
  have hg1 : w1.grownBy w2 ((upG (famG (.slice A n c) ds) (2 * ds.length + 1) (rowT d)) 0).v.ownBlock := by
    rw [upG_off _ _ _ _ (by omega)]
    exact hg
  have f2 := f1.grown 0 hg1 ⟨76, 5, .slice (some ⟨g, 0, none⟩) (ds.length + 1) c2, ds.length + 1, blocksG ds ++ d.cells⟩ ho (fun g' e => by
    simp only [Value.ownBlock, Option.some.injEq] at e
    subst e
    rw [upG_off _ _ _ _ (by omega)]
    exact hat)
  rw [famG_new _ _ _ _ hp hq] at f2
  have hlt := fun k e => ((h.fam.own 0).lt k e).1
  rw [famG_zero] at hlt
  have hbu : GBu E w2 (w2.setCell ⟨E, 4, none⟩ (.slice (some ⟨g, 0, none⟩) (ds.length + 1) c2)) := (GBu.refl E w2).setCell (Or.inl rfl) _
  have hb1 : base ≤ w1.heap.size := Nat.le_trans h.hb hb.size
  have hb2 : base ≤ w2.heap.size := Nat.le_trans hb1 hg.size
  exact ⟨hE3, f2.bu hbu, ((h.bd.trans (GBd.of_below hb h.hb)).trans (GBd.of_grown hg hlt hb1)).trans (GBd.of_bu hbu hb2), Nat.le_trans hb2 hbu.size⟩
/-- One more block from which one comes to block j. -/
theorem GMk.pred {base E : Nat} {w0 w w2 : World} {gb n c g c2 m : Nat} {ds : List GD} {j : Nat} {d : GD} {x : Int} (h : GMk base E w0 w (.slice (some ⟨gb, 0, none⟩) n c) ds) (hd : ds[j]? = some d)
    (hg : w.grownBy w2 d.pv.ownBlock) (ho : w2.ownsRow base 3 1 (.slice (some ⟨g, 0, none⟩) m c2) m (intsV d.preds ++ [.int .i64 x])) (hm : m = d.preds.length + 1) (hat : d.pv.ownBlock = some g ∨ w.heap.size ≤ g) :
    GMk base E w0 (w2.setCell ⟨gb, j * 5 + 1, none⟩ (.slice (some ⟨g, 0, none⟩) m c2)) (.slice (some ⟨gb, 0, none⟩) n c) (ds.set j { d with pv := .slice (some ⟨g, 0, none⟩) m c2, preds := d.preds ++ [x] }) := by
  subst hm
  have hEl := h.fam.el
  have hj : j < ds.length := (List.getElem?_eq_some_iff.1 hd).1
  have hfp := famG_p (.slice (some ⟨gb, 0, none⟩) n c) ds j d hd
  have hg0 : w.grownBy w2 ((famG (.slice (some ⟨gb, 0, none⟩) n c) ds) (2 * j + 2)).v.ownBlock := by rw [hfp]; exact hg
  have hx : intsV d.preds ++ [Value.int .i64 x] = intsV (d.preds ++ [x]) := by simp [intsV]
  rw [hx] at ho
  have f1 := h.fam.grown (2 * j + 2) hg0 ⟨3, 1, .slice (some ⟨g, 0, none⟩) (d.preds.length + 1) c2, (d.preds ++ [x]).length, intsV (d.preds ++ [x])⟩ (by simpa using ho) (fun g' e => by
    simp only [Value.ownBlock, Option.some.injEq] at e
    subst e
    rw [hfp]
    exact hat)
  have hn : n = ds.length := (gr_len (h.fam.own 0)).2
  have f2 := (f1.put (k := 0) (T := 76) (z := 5) (g := gb) (n := n) (c := c) (xs := blocksG ds) (by rw [upG_off _ _ _ _ (by omega), famG_zero, ← hn]) (j * 5 + 1) (.slice (some ⟨g, 0, none⟩) (d.preds.length + 1) c2))
  obtain ⟨f3, g3⟩ := f2
  rw [hn] at f3
  rw [famG_set _ _ _ d _ _ hd] at f3
  have hav := h.fam.av (2 * j + 2)
  have hav0 := h.fam.av 0
  rw [hfp] at hav
  rw [famG_zero] at hav0
  have hne : E ≠ gb := fun e => hav0 (by rw [e]; rfl)
  have hE2 : boxG w2 E (.slice (some ⟨gb, 0, none⟩) n c) := (hg.block E hEl (fun e => hav e.symm)).trans h.box
  have hE3 : boxG (w2.setCell ⟨gb, j * 5 + 1, none⟩ (.slice (some ⟨g, 0, none⟩) (d.preds.length + 1) c2)) E (.slice (some ⟨gb, 0, none⟩) n c) := (Below.heap_setCell _ _ _ _ hne).trans hE2
  have hlt := fun k e => ((h.fam.own (2 * j + 2)).lt k e).1
  rw [hfp] at hlt
  have hlt0 := ((h.fam.own 0).lt gb rfl).1
  have hb2 : base ≤ w2.heap.size := Nat.le_trans h.hb hg.size
  subst hn
  exact ⟨hE3, f3, (h.bd.trans (GBd.of_grown hg hlt h.hb)).trans (GBd.of_grown g3 (fun k e => by cases e; exact hlt0) hb2), Nat.le_trans hb2 g3.size⟩
end Go.Proofs.Ytagagpappjkgbaa
