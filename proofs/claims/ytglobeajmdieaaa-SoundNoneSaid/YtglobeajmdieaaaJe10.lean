/-
  Ways through blocks over plain data: how blocks are left, by calls within one another and by a row of blocks that were entered; both come to the same.
  How blocks are left: the walk.
  How blocks are left: the walk itself.
-/
import Derived.Test.YtglobeajmdieaaaJe1
namespace Go.Proofs.Ytglobeajmdieaaa
set_option linter.unusedVariables false
set_option linter.unusedSimpArgs false
open Go.RowKit

/-- Where a block goes. -/
def tosG (g : List GB) (b : Nat) : List Int := ((g[b]?).map GB.to_).getD []
def goP (f : Nat → List Bool → List Nat → Option (List Bool × List Nat)) : List Int → List Bool → List Nat → Option (List Bool × List Nat)
  | [], s, o => some (s, o)
  | t :: ts, s, o => if s.getD t.toNat false then goP f ts s o else match f t.toNat s o with
    | none => none
    | some (s', o') => goP f ts s' o'
/-- By calls within one another. -/
def walkP (g : List GB) : Nat → Nat → List Bool → List Nat → Option (List Bool × List Nat)
  | 0, _, _, _ => none
  | k + 1, b, s, o => match goP (walkP g k) (tosG g b) (s.set b true) o with
    | none => none
    | some (s', o') => some (s', o' ++ [b])
/-- By a row of blocks that were entered. -/
def postRun (g : List GB) : Nat → List Bool → List (Nat × Nat) → List Nat → Option (List Nat)
  | _, _, [], o => some o
  | 0, _, _ :: _, _ => none
  | k + 1, s, (b, q) :: st, o => match (tosG g b)[q]? with
    | none => postRun g k s st (o ++ [b])
    | some t => if s.getD t.toNat false then postRun g k s ((b, q + 1) :: st) o else postRun g k (s.set t.toNat true) ((t.toNat, 0) :: (b, q + 1) :: st) o

/-- How many are not entered. -/
def unseen (s : List Bool) : Nat := s.count false
theorem set_getD (s : List Bool) (b : Nat) (hb : b < s.length) : (s.set b true).getD b false = true := by simp [List.getD, hb]
theorem set_getD_ne (s : List Bool) (b c : Nat) (h : b ≠ c) : (s.set b true).getD c false = s.getD c false := by simp [List.getD, List.getElem?_set_ne h]
theorem unseen_set : ∀ (s : List Bool) (b : Nat), b < s.length → s.getD b false = false → unseen (s.set b true) + 1 = unseen s
  | [], b, hb, _ => by simp at hb
  | x :: s, 0, _, h => by
    simp [List.getD] at h
    subst h
    simp [unseen]
  | x :: s, b + 1, hb, h => by
    have := unseen_set s b (by simpa using hb) (by simpa [List.getD] using h)
    cases x <;> simp [unseen] at this ⊢ <;> omega
/-- What was entered stays entered. -/
def Sub (s s' : List Bool) : Prop := s'.length = s.length ∧ unseen s' ≤ unseen s ∧ ∀ c, s.getD c false = true → s'.getD c false = true
theorem Sub.refl (s : List Bool) : Sub s s := ⟨rfl, Nat.le_refl _, fun _ h => h⟩
theorem Sub.trans {a b c : List Bool} (h : Sub a b) (k : Sub b c) : Sub a c := ⟨k.1.trans h.1, Nat.le_trans k.2.1 h.2.1, fun x hx => k.2.2 x (h.2.2 x hx)⟩
theorem Sub.set {s : List Bool} {b : Nat} (hb : b < s.length) (h : s.getD b false = false) : Sub s (s.set b true) :=
  ⟨by simp, by have := unseen_set s b hb h; omega, fun c hc => by
    by_cases e : b = c
    · subst e; rw [h] at hc; cases hc
    · rw [set_getD_ne _ _ _ e]; exact hc⟩
def tosOk (g : List GB) : Prop := ∀ b t, t ∈ tosG g b → 0 ≤ t ∧ t < g.length
theorem tosOk_of {g : List GB} (h : wholeG g = true) : tosOk g := by
  intro b t ht
  unfold tosG at ht
  cases hb : g[b]? with
  | none => rw [hb] at ht; simp at ht
  | some d => rw [hb] at ht; exact (wholeG_all h).2 b d hb t (by simpa using ht)

theorem goP_total (g : List GB) (f : Nat → List Bool → List Nat → Option (List Bool × List Nat)) (n k : Nat) (hf : ∀ b s o, s.length = n → unseen s ≤ k → b < n → s.getD b false = false → ∃ s' o', f b s o = some (s', o') ∧ Sub s s') :
    ∀ (ts : List Int) (s : List Bool) (o : List Nat), s.length = n → unseen s ≤ k → (∀ t ∈ ts, 0 ≤ t ∧ t < n) → ∃ s' o', goP f ts s o = some (s', o') ∧ Sub s s'
  | [], s, o, _, _, _ => ⟨s, o, rfl, Sub.refl s⟩
  | t :: ts, s, o, hs, hu, ht => by
    unfold goP
    have h0 := ht t (by simp)
    cases hq : s.getD t.toNat false with
    | true => rw [if_pos rfl]; exact goP_total g f n k hf ts s o hs hu (fun x hx => ht x (List.mem_cons_of_mem _ hx))
    | false =>
      rw [if_neg (by simp)]
      obtain ⟨s', o', h1, h2⟩ := hf t.toNat s o hs hu (by omega) hq
      rw [h1]
      obtain ⟨s2, o2, h3, h4⟩ := goP_total g f n k hf ts s' o' (h2.1.trans hs) (Nat.le_trans h2.2.1 hu) (fun x hx => ht x (List.mem_cons_of_mem _ hx))
      exact ⟨s2, o2, h3, h2.trans h4⟩
theorem walkP_total (g : List GB) (hg : tosOk g) : ∀ (k b : Nat) (s : List Bool) (o : List Nat), s.length = g.length → unseen s ≤ k → b < g.length → s.getD b false = false → ∃ s' o', walkP g k b s o = some (s', o') ∧ Sub s s' ∧ s'.getD b false = true
  | 0, b, s, o, hs, hu, hb, hq => by
    have := unseen_set s b (by omega) hq
    omega
  | k + 1, b, s, o, hs, hu, hb, hq => by
    have h1 := unseen_set s b (by omega) hq
    have h2 := Sub.set (by omega : b < s.length) hq
    obtain ⟨s', o', h3, h4⟩ := goP_total g (walkP g k) g.length k (fun b s o hs hu hb hq => by
      obtain ⟨s', o', h1, h2, _⟩ := walkP_total g hg k b s o hs hu hb hq
      exact ⟨s', o', h1, h2⟩) (tosG g b) (s.set b true) o (by simpa using hs) (by omega) (fun t ht => hg b t ht)
    unfold walkP
    rw [h3]
    exact ⟨s', o' ++ [b], rfl, h2.trans h4, h4.2.2 b (set_getD s b (by omega))⟩

theorem goP_post (g : List GB) (k : Nat) (hf : ∀ b s o s' o', walkP g k b s o = some (s', o') → ∀ st, ∃ j, ∀ m, postRun g (j + m) (s.set b true) ((b, 0) :: st) o = postRun g m s' st o') (b : Nat) :
    ∀ (ts : List Int) (q : Nat) (s : List Bool) (o : List Nat) (s' : List Bool) (o' : List Nat), (tosG g b).drop q = ts → goP (walkP g k) ts s o = some (s', o') → ∀ st, ∃ j, ∀ m, postRun g (j + m) s ((b, q) :: st) o = postRun g m s' ((b, (tosG g b).length) :: st) o'
  | [], q, s, o, s', o', hq, h, st => by
    simp [goP] at h
    obtain ⟨rfl, rfl⟩ := h
    have hl : (tosG g b).length ≤ q := List.drop_eq_nil_iff.1 hq
    refine ⟨0, fun m => ?_⟩
    rw [Nat.zero_add]
    cases m with
    | zero => simp [postRun]
    | succ m => simp [postRun, List.getElem?_eq_none hl]
  | t :: ts, q, s, o, s', o', hq, h, st => by
    have hlt : q < (tosG g b).length := by
      rcases Nat.lt_or_ge q (tosG g b).length with h | h
      · exact h
      · rw [List.drop_eq_nil_iff.2 h] at hq; cases hq
    have hd := List.drop_eq_getElem_cons hlt
    rw [hq] at hd
    injection hd with h1 h2
    have hget : (tosG g b)[q]? = some t := by rw [h1]; exact List.getElem?_eq_getElem hlt
    unfold goP at h
    cases hs : s.getD t.toNat false with
    | true =>
      rw [hs, if_pos rfl] at h
      obtain ⟨j, hj⟩ := goP_post g k hf b ts (q + 1) s o s' o' h2.symm h st
      refine ⟨j + 1, fun m => ?_⟩
      rw [show j + 1 + m = (j + m) + 1 by omega, ← hj m, postRun, hget]
      simp only [hs]
      rfl
    | false =>
      rw [hs, if_neg (by simp)] at h
      cases hw : walkP g k t.toNat s o with
      | none => rw [hw] at h; cases h
      | some r =>
        obtain ⟨s1, o1⟩ := r
        rw [hw] at h
        obtain ⟨j1, hj1⟩ := hf t.toNat s o s1 o1 hw ((b, q + 1) :: st)
        obtain ⟨j, hj⟩ := goP_post g k hf b ts (q + 1) s1 o1 s' o' h2.symm h st
        refine ⟨j1 + j + 1, fun m => ?_⟩
        rw [show j1 + j + 1 + m = (j1 + (j + m)) + 1 by omega, ← hj m, ← hj1 (j + m), postRun, hget]
        simp only [hs]
        rfl
theorem walkP_post (g : List GB) : ∀ (k b : Nat) (s : List Bool) (o : List Nat) (s' : List Bool) (o' : List Nat), walkP g k b s o = some (s', o') → ∀ st, ∃ j, ∀ m, postRun g (j + m) (s.set b true) ((b, 0) :: st) o = postRun g m s' st o'
  | 0, b, s, o, s', o', h, st => by simp [walkP] at h
  | k + 1, b, s, o, s', o', h, st => by
    unfold walkP at h
    cases hg : goP (walkP g k) (tosG g b) (s.set b true) o with
    | none => rw [hg] at h; cases h
    | some r =>
      obtain ⟨s1, o1⟩ := r
      rw [hg] at h
      simp only [Option.some.injEq, Prod.mk.injEq] at h
      obtain ⟨rfl, rfl⟩ := h
      obtain ⟨j, hj⟩ := goP_post g k (walkP_post g k) b (tosG g b) 0 (s.set b true) o s1 o1 (by simp) hg st
      refine ⟨j + 1, fun m => ?_⟩
      rw [show j + 1 + m = j + (1 + m) by omega, hj (1 + m), show 1 + m = m + 1 by omega, postRun, List.getElem?_eq_none (Nat.le_refl _)]

/-- The blocks as they are left. -/
def postP (g : List GB) : List Nat := if wholeG g then (match walkP g g.length 0 (List.replicate g.length false) [] with | some (_, o) => o | none => []) else []
theorem postP_run {g : List GB} (h : wholeG g = true) : ∃ s', walkP g g.length 0 (List.replicate g.length false) [] = some (s', postP g) ∧ ∃ j, postRun g j ((List.replicate g.length false).set 0 true) [(0, 0)] [] = some (postP g) := by
  obtain ⟨hp, _⟩ := wholeG_all h
  obtain ⟨s', o', h1, h2, h3⟩ := walkP_total g (tosOk_of h) g.length 0 (List.replicate g.length false) [] (by simp) (by simp [unseen]) hp (by simp [List.getD, hp])
  have hpost : postP g = o' := by unfold postP; rw [h, h1]; simp
  rw [hpost]
  refine ⟨s', h1, ?_⟩
  obtain ⟨j, hj⟩ := walkP_post g _ _ _ _ _ _ h1 []
  exact ⟨j + 0, by rw [hj 0]; rfl⟩
end Go.Proofs.Ytglobeajmdieaaa
namespace Go.Proofs.Ytglobeajmdieaaa
set_option linter.unusedVariables false
set_option linter.unusedSimpArgs false
open Go.RowKit

theorem gr_apart {w : World} {b1 b2 : Nat} {T1 T2 : TypeId} {z1 z2 n1 n2 : Nat} {v1 v2 : Value} {xs ys : List Value} (h : w.ownsRow b1 T1 z1 v1 n1 xs) (k : w.ownsRow b2 T2 z2 v2 n2 ys) (hne : T1 ≠ T2) : v1.ownBlock = none ∨ v1.ownBlock ≠ v2.ownBlock := by
  rcases h.2 with ⟨rfl, _⟩ | ⟨g, cap, cur, rfl, _, hg, _⟩
  · exact .inl rfl
  · refine .inr (fun e => ?_)
    rcases k.2 with ⟨rfl, _⟩ | ⟨g', cap', cur', rfl, _, hg', _⟩
    · simp [Value.ownBlock] at e
    · simp [Value.ownBlock] at e
      subst e
      rw [hg] at hg'
      simp at hg'
      exact hne hg'.2
theorem gr_slice {w : World} {base : Nat} {T : TypeId} {z : Nat} {v : Value} {n : Nat} {xs : List Value} (h : w.ownsRow base T z v n xs) : ∃ A c, v = .slice A n c := by
  rcases h.2 with ⟨rfl, h0⟩ | ⟨g, cap, cur, hv, _⟩
  · subst h0; exact ⟨none, 0, rfl⟩
  · exact ⟨_, _, hv⟩
theorem gr_some {w : World} {base : Nat} {T : TypeId} {z : Nat} {A : Option Addr} {m c n : Nat} {xs : List Value} (h : w.ownsRow base T z (.slice A m c) n xs) (hn : 0 < n) : ∃ g, A = some ⟨g, 0, none⟩ ∧ m = n ∧ base ≤ g ∧ g < w.heap.size := by
  obtain ⟨g, cap, hv, hb, hl⟩ := h.form hn
  injection hv with e1 e2 e3
  exact ⟨g, e1, e2, hb, hl⟩
/-- The row without what stands last. -/
theorem gr_cut {w : World} {base : Nat} {T : TypeId} {z g n c : Nat} {xs : List Value} (h : w.ownsRow base T z (.slice (some ⟨g, 0, none⟩) n c) n xs) (m : Nat) (hm : m ≤ n) : w.ownsRow base T z (.slice (some ⟨g, 0, none⟩) m c) m (xs.take (m * z)) := by
  rcases h.2 with ⟨h', _⟩ | ⟨g', cap, cur, h', hb, hg, hnc, hcm, hcs, ht⟩
  · simp at h'
  · simp only [Value.slice.injEq, Option.some.injEq, Addr.mk.injEq, and_true, true_and] at h'
    obtain ⟨rfl, rfl⟩ := h'
    have hle : m * z ≤ n * z := Nat.mul_le_mul_right z hm
    refine ⟨by rw [List.length_take, h.1]; omega, .inr ⟨g, c, cur, rfl, hb, hg, by omega, hcm, hcs, ?_⟩⟩
    rw [← ht, List.take_take, Nat.min_eq_left hle]
theorem gr_mono {w : World} {base base' : Nat} {T : TypeId} {z n : Nat} {v : Value} {xs : List Value} (h : w.ownsRow base T z v n xs) (hb : base' ≤ base) : w.ownsRow base' T z v n xs := by
  refine ⟨h.1, ?_⟩
  rcases h.2 with h1 | ⟨g, cap, cur, hv, hg, rest⟩
  · exact .inl h1
  · exact .inr ⟨g, cap, cur, hv, by omega, rest⟩
theorem infoIntG : (Try.prog.info? 3).map (fun i => (i.zero, i.size, i.bytes)) = some (some (.int .i64 0), 1, 8) := by kernel_rfl
theorem infoBoolG : (Try.prog.info? 4).map (fun i => (i.zero, i.size, i.bytes)) = some (some (.bool false), 1, 1) := by kernel_rfl
theorem infoStayG : (Try.prog.info? 124).map (fun i => (i.zero, i.size, i.bytes)) = some (some (.agg #[.int .i64 0, .int .i64 0]), 2, 16) := by kernel_rfl

def natsV (l : List Nat) : List Value := l.map fun (b : Nat) => Value.int .i64 (b : Int)
def boolsV (l : List Bool) : List Value := l.map Value.bool
def wayV : List (Nat × Nat) → List Value
  | [] => []
  | p :: l => wayV l ++ [.int .i64 (p.1 : Int), .int .i64 (p.2 : Int)]
theorem wayV_len : ∀ l : List (Nat × Nat), (wayV l).length = l.length * 2
  | [] => rfl
  | p :: l => by simp [wayV, wayV_len l]; omega
theorem boolsV_set (l : List Bool) (b : Nat) (x : Bool) : (boolsV l).set b (.bool x) = boolsV (l.set b x) := by simp [boolsV, List.map_set]
theorem boolsV_at (l : List Bool) (b : Nat) (h : b < l.length) : (boolsV l)[b]? = some (.bool (l.getD b false)) := by simp [boolsV, List.getD, h]
theorem madeBool (n : Nat) : (madeCells #[Value.bool false] n).toList = boolsV (List.replicate n false) := by
  rw [toList_madeCells_one]
  simp [boolsV]
theorem madeInt (n : Nat) : (madeCells #[Value.int .i64 0] n).toList = List.replicate n (Value.int .i64 0) := by
  rw [toList_madeCells_one]
end Go.Proofs.Ytglobeajmdieaaa
namespace Go.Proofs.Ytglobeajmdieaaa
set_option linter.unusedVariables false
set_option linter.unusedSimpArgs false
open Go.RowKit

theorem addr0 (a : Addr) : a.add 0 = a := by simp [Addr.add]
theorem cut_stay {g n c : Nat} (m : Nat) (hm : m ≤ n) (hn : n ≤ c) : ∀ W : World, (Instr.slice 125 (.slice (some ⟨g, 0, none⟩) n c) none (some (.int .i64 (m : Int))) none).run Try.prog W = .ok (.slice (some ⟨g, 0, none⟩) m c) W := fun W => by
  rw [run_slice_h W 125 (some ⟨g, 0, none⟩) n c (by simp [Program.elem, Try.underlying125]) .i64 (m : Int) (by omega) (by omega)]
  go_simp
theorem tosG_at {g : List GB} {b : Nat} (hb : b < g.length) : tosG g b = g[b].to_ := by simp [tosG, hb]
theorem eqb_false {a b : Nat} (h : a ≠ b) : ((a : Int) == (b : Int)) = false := by
  have h' : (a : Int) ≠ (b : Int) := by omega
  exact beq_eq_false_iff_ne.2 h'
theorem gr_len {w : World} {base : Nat} {T : TypeId} {z : Nat} {A : Option Addr} {m c n : Nat} {xs : List Value} (h : w.ownsRow base T z (.slice A m c) n xs) : m ≤ c ∧ m = n := by
  rcases h.2 with ⟨hv, rfl⟩ | ⟨g, cap, cur, hv, _, _, hnc, _⟩
  · injection hv with e1 e2 e3
    omega
  · injection hv with e1 e2 e3
    omega

/-- What is known of the rows between two rounds. -/
structure PSt (base n : Nat) (W wr : World) (ge : Nat) (u4 u5 : Value) (st : List (Nat × Nat)) (left : List Nat) (ent : List Bool) : Prop where
  way : wr.ownsRow base 124 2 u4 st.length (wayV st)
  left : wr.ownsRow base 3 1 u5 left.length (natsV left)
  ent : wr.ownsRow base 4 1 (.slice (some ⟨ge, 0, none⟩) n n) n (boolsV ent)
  below : Below base W wr
  hb : base ≤ wr.heap.size
/-- What is known of the blocks that are entered. -/
structure PIn (g : List GB) (st : List (Nat × Nat)) (left : List Nat) (ent : List Bool) : Prop where
  len : ent.length = g.length
  cnt : st.length + left.length + unseen ent = g.length
  lt : ∀ p ∈ st, p.1 < g.length ∧ p.2 ≤ (tosG g p.1).length
theorem PIn.leave {g : List GB} {b q : Nat} {st : List (Nat × Nat)} {left : List Nat} {ent : List Bool} (h : PIn g ((b, q) :: st) left ent) : PIn g st (left ++ [b]) ent :=
  ⟨h.len, by have := h.cnt; simp at this ⊢; omega, fun p hp => h.lt p (List.mem_cons_of_mem _ hp)⟩
theorem PIn.look {g : List GB} {b q : Nat} {st : List (Nat × Nat)} {left : List Nat} {ent : List Bool} (h : PIn g ((b, q) :: st) left ent) (hq : q < (tosG g b).length) : PIn g ((b, q + 1) :: st) left ent :=
  ⟨h.len, by have := h.cnt; simp at this ⊢; omega, fun p hp => by
    rcases List.mem_cons.1 hp with rfl | hp
    · exact ⟨(h.lt (b, q) (by simp)).1, hq⟩
    · exact h.lt p (List.mem_cons_of_mem _ hp)⟩
theorem PIn.enter {g : List GB} {t : Nat} {st : List (Nat × Nat)} {left : List Nat} {ent : List Bool} (h : PIn g st left ent) (ht : t < g.length) (hu : ent.getD t false = false) : PIn g ((t, 0) :: st) left (ent.set t true) :=
  ⟨by simpa using h.len, by have := h.cnt; have := unseen_set ent t (by rw [h.len]; exact ht) hu; simp; omega, fun p hp => by
    rcases List.mem_cons.1 hp with rfl | hp
    · exact ⟨ht, Nat.zero_le _⟩
    · exact h.lt p hp⟩
theorem PIn.few {g : List GB} {st : List (Nat × Nat)} {left : List Nat} {ent : List Bool} (h : PIn g st left ent) : st.length + left.length ≤ g.length := by have := h.cnt; omega

theorem PSt.look {base n : Nat} {W wr : World} {ge gw p cw b q : Nat} {u5 : Value} {st : List (Nat × Nat)} {left : List Nat} {ent : List Bool} (h : PSt base n W wr ge (.slice (some ⟨gw, 0, none⟩) p cw) u5 ((b, q) :: st) left ent) (x : Nat) :
    PSt base n W (wr.setCell ⟨gw, st.length * 2 + 1, none⟩ (.int .i64 (x : Int))) ge (.slice (some ⟨gw, 0, none⟩) p cw) u5 ((b, x) :: st) left ent := by
  have hp := (gr_len h.way).2
  subst hp
  obtain ⟨s1, s2⟩ := h.way.stored (st.length * 2 + 1) (.int .i64 (x : Int))
  have a1 := gr_apart h.left h.way (by decide)
  have a2 := gr_apart h.ent h.way (by decide)
  have hgw := (h.way.lt gw rfl).1
  refine ⟨?_, h.left.kept s2 a1, h.ent.kept s2 a2, h.below.setCell (p := ⟨gw, _, none⟩) hgw _, Nat.le_trans h.hb s2.size⟩
  have e : (wayV ((b, q) :: st)).set (st.length * 2 + 1) (.int .i64 (x : Int)) = wayV ((b, x) :: st) := by
    simp only [wayV]
    rw [List.set_append_right _ _ (by rw [wayV_len]; omega), wayV_len]
    simp
  rw [e] at s1
  exact s1
theorem PSt.set {base n : Nat} {W wr : World} {ge t : Nat} {u4 u5 : Value} {st : List (Nat × Nat)} {left : List Nat} {ent : List Bool} (h : PSt base n W wr ge u4 u5 st left ent) :
    PSt base n W (wr.setCell ⟨ge, t, none⟩ (.bool true)) ge u4 u5 st left (ent.set t true) := by
  obtain ⟨s1, s2⟩ := h.ent.stored t (.bool true)
  have a1 := gr_apart h.left h.ent (by decide)
  have a2 := gr_apart h.way h.ent (by decide)
  have hge := (h.ent.lt ge rfl).1
  rw [boolsV_set] at s1
  exact ⟨h.way.kept s2 a2, h.left.kept s2 a1, s1, h.below.setCell (p := ⟨ge, _, none⟩) hge _, Nat.le_trans h.hb s2.size⟩
theorem PSt.next {base n : Nat} {W wr w' : World} {ge : Nat} {u4 u5 : Value} {st : List (Nat × Nat)} {left : List Nat} {ent : List Bool} (h : PSt base n W wr ge u4 u5 st left ent) (hb : Below wr.heap.size wr w') : PSt base n W w' ge u4 u5 st left ent :=
  ⟨gr_up h.way hb, gr_up h.left hb, gr_up h.ent hb, h.below.trans (hb.mono h.hb), Nat.le_trans h.hb hb.size⟩
theorem PSt.left_ {base n : Nat} {W wr w' : World} {ge : Nat} {u4 u5 v5 : Value} {st : List (Nat × Nat)} {left : List Nat} {ent : List Bool} {b : Nat} (h : PSt base n W wr ge u4 u5 st left ent) (hg : wr.grownBy w' u5.ownBlock) (ho : w'.ownsRow base 3 1 v5 (left.length + 1) (natsV left ++ [.int .i64 (b : Int)])) : PSt base n W w' ge u4 v5 st (left ++ [b]) ent := by
  have a1 := gr_apart h.way h.left (by decide)
  have a2 := gr_apart h.ent h.left (by decide)
  exact ⟨h.way.kept hg a1, by simpa [natsV] using ho, h.ent.kept hg a2, h.below.grown hg h.hb (fun k e => (h.left.lt k e).1), Nat.le_trans h.hb hg.size⟩
theorem PSt.push {base n : Nat} {W wr w' : World} {ge : Nat} {u4 u5 v4 : Value} {st : List (Nat × Nat)} {left : List Nat} {ent : List Bool} {b : Nat} (h : PSt base n W wr ge u4 u5 st left ent) (hg : wr.grownBy w' u4.ownBlock) (ho : w'.ownsRow base 124 2 v4 (st.length + 1) (wayV st ++ [.int .i64 (b : Int), .int .i64 0])) : PSt base n W w' ge v4 u5 ((b, 0) :: st) left ent := by
  have a1 := gr_apart h.left h.way (by decide)
  have a2 := gr_apart h.ent h.way (by decide)
  exact ⟨by simpa [wayV] using ho, h.left.kept hg a1, h.ent.kept hg a2, h.below.grown hg h.hb (fun k e => (h.way.lt k e).1), Nat.le_trans h.hb hg.size⟩
theorem PSt.pop {base n : Nat} {W wr : World} {ge gw p cw : Nat} {u5 : Value} {b q : Nat} {st : List (Nat × Nat)} {left : List Nat} {ent : List Bool} (h : PSt base n W wr ge (.slice (some ⟨gw, 0, none⟩) (p + 1) cw) u5 ((b, q) :: st) left ent) (hp : p = st.length) : PSt base n W wr ge (.slice (some ⟨gw, 0, none⟩) p cw) u5 st left ent := by
  subst hp
  have := gr_cut h.way st.length (by simp)
  have e : (wayV ((b, q) :: st)).take (st.length * 2) = wayV st := by
    simp only [wayV]
    rw [← wayV_len st, List.take_left]
  rw [e] at this
  exact ⟨this, h.left, h.ent, h.below, h.hb⟩
end Go.Proofs.Ytglobeajmdieaaa
