/-
  The checker's names: blocks that are entered and left; here all of them are empty.
  The checker's blocks of statements: print and return.
  The checker: a function's beginning and its end.
  The checker: a function.
-/
import Derived.Test.YtlgpbllkhbgppaaGreatDoorJn24
import Derived.Test.YtlgpbllkhbgppaaGreatDoorJn27
import Derived.Carry
import Derived.Maps.Range
import Derived.Laws.IdiomRangeMap
import Derived.Defers
namespace Go.Proofs.YtlgpbllkhbgppaaGreatDoor
set_option linter.unusedVariables false
set_option linter.unusedSimpArgs false
open Go.RowKit Go.Maps Go.WideMaps

/-- The checker's own block, with the names of blocks as they stand. -/
def CkB (w : World) (g : Nat) (F : Value) (mw : Nat) (R V I B : Value) (N L : Int) : Prop := w.heap[g]? = some (.cells #[F, .map (some mw), .int .i64 0, .int .i64 0, R, V, I, B, .int .i64 N, .int .i64 L] 60 (0, 0))
/-- Below base all but the checker is as it was. -/
structure BB (g base : Nat) (w w' : World) : Prop where
  os : w'.os = w.os
  tape : w'.tape = w.tape
  output : w'.output = w.output
  size : w.heap.size ≤ w'.heap.size
  block : ∀ k, k < base → k ≠ g → w'.heap[k]? = w.heap[k]?
theorem BB.refl (g base : Nat) (w : World) : BB g base w w := ⟨rfl, rfl, rfl, Nat.le_refl _, fun _ _ _ => rfl⟩
theorem BB.trans {g base : Nat} {a b c : World} (h : BB g base a b) (k : BB g base b c) : BB g base a c :=
  ⟨k.os.trans h.os, k.tape.trans h.tape, k.output.trans h.output, Nat.le_trans h.size k.size, fun i hi hg => (k.block i hi hg).trans (h.block i hi hg)⟩
theorem BB.of_but {g base : Nat} {w w' : World} (h : But g w w') (hb : base ≤ w.heap.size) : BB g base w w' := ⟨h.os, h.tape, h.output, h.size, fun k hk hg => h.block k (by omega) hg⟩
theorem BB.of_below {g base : Nat} {w w' : World} (h : Below base w w') : BB g base w w' := ⟨h.os, h.tape, h.output, h.size, fun k hk _ => h.block k hk⟩
theorem BB.below {g base B : Nat} {a w w' : World} (h : BB g base w w') (ha : Below B a w) (hg : B ≤ g) (hB : B ≤ base) : Below B a w' :=
  ha.trans ⟨h.os, h.tape, h.output, h.size, fun k hk => h.block k (Nat.lt_of_lt_of_le hk hB) (by omega)⟩
theorem infoM : (Tryz.prog.info? 54).map (fun i => (i.zero, i.size, i.bytes)) = some (some (.map none), 1, 8) := by kernel_rfl
theorem next_none (P : Program) (w : World) (r m since last : Nat) (t : TypeId) (hr : w.heap[r]? = some (.mapIter (some m) since #[] last)) (hs : since ≤ last) (hm : w.heap[m]? = some (.map #[] 0)) :
    (Instr.next (.pointer (some ⟨r, 0, none⟩)) false t).run P w = .ok (.tuple #[.bool false]) w := by
  rcases run_next_at (P := P) w t r m since last #[] #[] 0 hr hm (by simp) hs with h | ⟨e, he, _⟩
  · exact h.2
  · simp [leftOf] at he
theorem own_bb {w w' : World} {g base : Nat} {T : TypeId} {z n : Nat} {v : Value} {xs : List Value} (h : w.ownsRow base T z v n xs) (hb : But g w w') (hg : g < base) : w'.ownsRow base T z v n xs := own_but h hb hg
/-- The blocks that are entered. -/
def Bks (w : World) (base : Nat) (v : Value) (n : Nat) (xs : List Value) : Prop := w.ownsRow base 54 1 v n xs
set_option maxRecDepth 100000 in
set_option maxHeartbeats 4000000 in
theorem enter_any_c (g base n mw : Nat) (F R V I v : Value) (N L : Int) (xs : List Value) (w : World) (h : CkB w g F mw R V I v N L) (hg : g < base) (hbs : base ≤ w.heap.size) (hown : Bks w base v n xs) (hn : n ≤ 1000) :
    Calls Tryz.prog 66 #[.pointer (some ⟨g, 5, none⟩)] w fun r w' => r = .returned (.tuple #[]) ∧ BB g base w w' ∧ ∃ A c m, CkB w' g F mw R V I (.slice (some ⟨A, 0, none⟩) (n + 1) c) N L ∧ Bks w' base (.slice (some ⟨A, 0, none⟩) (n + 1) c) (n + 1) (xs ++ [.map (some m)]) ∧ w'.heap[m]? = some (.map #[] 0) ∧ base ≤ m ∧ m ≠ A := by
  unfold CkB at h
  unfold Bks at hown
  obtain ⟨V0, C0, rfl⟩ := own_form hown
  have hgl := heap_lt h
  have c7 := Lib.cell_of_heap h 7
  have hmm := @run_makeMap Tryz.prog
  obtain ⟨i0, hi, hz0, hz1, hz2⟩ := info_parts infoM
  obtain ⟨w1, hw1⟩ : ∃ w1, w1 = (w.alloc (.map #[] 0)).alloc (.cells #[.map (some w.heap.size)] 54) := ⟨_, rfl⟩
  have hb1 : Below w.heap.size w w1 := by rw [hw1]; exact ((Below.refl _ _).alloc (Nat.le_refl _) _).alloc (by simp) _
  have hz : w1.heap.size = w.heap.size + 2 := by rw [hw1]; simp
  have hm1 : w1.heap[w.heap.size]? = some (.map #[] 0) := by rw [hw1]; exact (Below.heap_alloc _ _ _ (by simp)).trans (heap_alloc_new w _)
  have ha1 : w1.heap[w.heap.size + 1]? = some (.cells #[.map (some w.heap.size)] 54 (0, 0)) := by
    rw [hw1]
    have := heap_alloc_new (w.alloc (.map #[] 0)) (.cells #[.map (some w.heap.size)] 54)
    rw [show (w.alloc (.map #[] 0)).heap.size = w.heap.size + 1 by simp] at this
    exact this
  have HOW := Lib.hid (own_blw hown hb1)
  have HNW := Lib.hid (World.news_of_block ha1)
  have hsz : base ≤ w1.heap.size := by omega
  have HO : Hid (∀ u ∈ ([.map (some w.heap.size)] : List Value), u.oneCell' = true) := Lib.hid (by intro u hu; simp at hu; subst hu; rfl)
  have H := Lib.hid h
  have Hown := Lib.hid hown
  have Hi := Lib.hid hi
  have Hz0 := Lib.hid hz0
  have Hz1 := Lib.hid hz1
  have Hz2 := Lib.hid hz2
  have Hb1 := Lib.hid hb1
  have Hm1 := Lib.hid hm1
  have Hz := Lib.hid hz
  rw [hw1] at HOW HNW hsz
  have Hw1 := Lib.hid hw1
  clear h hown hi hz0 hz1 hz2 hb1 hm1 ha1 hz hw1
  go_enter Tryz.func66, Tryz.ntmps66
  go_wp2_with (at_builtin; refine wpList_append_lies _ rfl (.tmp 6) (.tmp 8) 56 rfl base 54 i0 (.map none) 1 8 Tryz.underlying56 Hi.out Hz0.out Hz1.out Hz2.out rfl (by decide) (.slice V0 n C0) n xs rfl HOW.out ⟨w.heap.size + 1, 0, none⟩ 1 1 [.map (some w.heap.size)] rfl rfl HNW.out HO.out (by decide) (by unfold maxLen; omega) (by omega) hsz _ rfl ?_)
  intro gp cp2 w2 hown2 hgrow hat hlt2
  rw [← Hw1.out] at hgrow
  clear hsz HOW HNW
  have hlt := fun b hb => Hown.out.lt b hb
  have hz := Hz.out
  have hne : some g ≠ (Value.slice V0 n C0).ownBlock := fun e => by have := (hlt g e.symm).1; omega
  have hg2 : w2.heap[g]? = some (.cells #[F, .map (some mw), .int .i64 0, .int .i64 0, R, V, I, .slice V0 n C0, .int .i64 N, .int .i64 L] 60 (0, 0)) := (hgrow.block g (by omega) hne).trans ((Hb1.out.block g hgl).trans H.out)
  have d7 := Lib.cell_of_heap hg2 7
  have f7 := Lib.frozen_of_heap hg2 7
  have hset := heap_set hg2 7 (.slice (some ⟨gp, 0, none⟩) (n + 1) cp2)
  have hnm : some w.heap.size ≠ (Value.slice V0 n C0).ownBlock := fun e => by have := (hlt _ e.symm).2; omega
  have hm2 : w2.heap[w.heap.size]? = some (.map #[] 0) := (hgrow.block _ (by omega) hnm).trans Hm1.out
  have hBB : BB g base w2 (w2.setCell ⟨g, 7, none⟩ (.slice (some ⟨gp, 0, none⟩) (n + 1) cp2)) := BB.of_but ((But.refl g w2).setCell (Or.inl rfl) _) (by have := hgrow.size; omega)
  have hBB2 : BB g base w w2 := BB.of_below ((Below.mono Hb1.out (by omega)).grown hgrow (by omega) (fun b hb => (hlt b hb).1))
  have hmg : w.heap.size ≠ gp := by
    rcases hat with e | e
    · have := (hlt gp e).2; omega
    · omega
  have hkeep : (w2.setCell ⟨g, 7, none⟩ (.slice (some ⟨gp, 0, none⟩) (n + 1) cp2)).heap[w.heap.size]? = some (.map #[] 0) := (Below.heap_setCell _ _ _ _ (by show w.heap.size ≠ g; omega)).trans hm2
  have hend := Lib.hid (And.intro (hBB2.trans hBB) (And.intro hset (And.intro (own_but hown2 ((But.refl g w2).setCell (p := ⟨g, 7, none⟩) (Or.inl rfl) (.slice (some ⟨gp, 0, none⟩) (n + 1) cp2)) hg) hkeep)))
  clear hset hm2 hBB hBB2 hkeep hg2 hown2 hgrow hat hlt2
  go_wp2
  go_end0
  obtain ⟨q1, q2, q3, q4⟩ := hend.out
  exact ⟨rfl, q1, gp, cp2, w.heap.size, q2, q3, q4, hbs, hmg⟩
set_option maxRecDepth 100000 in
set_option maxHeartbeats 4000000 in
/-- The innermost block, which has no name, is left; as it is put off. -/
theorem leave_c (g n c mw A m : Nat) (F R V I : Value) (N L : Int) (u : FrameMode) (w : World) (h : CkB w g F mw R V I (.slice (some ⟨A, 0, none⟩) (n + 1) c) N L) (hc : n + 1 ≤ c) (hn : n ≤ 1000) (hA : w.cell? ⟨A, n, none⟩ = some (.map (some m))) (hm : w.heap[m]? = some (.map #[] 0)) (hne : m ≠ g) :
    CallsD Tryz.prog 68 #[.pointer (some ⟨g, 5, none⟩)] u w fun r u' w' => u' = u ∧ (r = .returned (.tuple #[]) ∧ But g w w' ∧ CkB w' g F mw R V I (.slice (some ⟨A, 0, none⟩) n c) N L) := by
  unfold CkB at h
  have hgl := heap_lt h
  have hml := heap_lt hm
  have c7 := Lib.cell_of_heap h 7
  have f7 := Lib.frozen_of_heap h 7
  have hr := run_range_map (P := Tryz.prog) w 54 9 3 m #[] 0 Tryz.underlying54 hm
  obtain ⟨w1, hw1⟩ : ∃ w1, w1 = w.alloc (.mapIter (some m) 0 #[] 0) := ⟨_, rfl⟩
  have hb1 : Below w.heap.size w w1 := by rw [hw1]; exact (Below.refl _ _).alloc (Nat.le_refl _) _
  have hi1 : w1.heap[w.heap.size]? = some (.mapIter (some m) 0 #[] 0) := by rw [hw1]; exact heap_alloc_new w _
  have hnx := next_none Tryz.prog w1 w.heap.size m 0 0
  have hN := fun t => hnx t hi1 (Nat.le_refl _) ((hb1.block m hml).trans hm)
  have h1 := (hb1.block g hgl).trans h
  have d7 := Lib.cell_of_heap h1 7
  have e7 := Lib.frozen_of_heap h1 7
  have hset := heap_set h1 7 (.slice (some ⟨A, 0, none⟩) n c)
  have hbut := ((But.of_below (g := g) hb1).setCell (p := ⟨g, 7, none⟩) (Or.inl rfl) (.slice (some ⟨A, 0, none⟩) n c))
  have e1 : (n : Int) + 1 - 1 = n := by omega
  have l0 : (0 : Int) ≤ n := by omega
  have l1 : (n : Int) < (n : Int) + 1 := by omega
  have l2 : (n : Int) ≤ (c : Int) := by omega
  rw [← hw1] at hr
  have Hend := Lib.hid (And.intro hbut hset)
  clear hw1 hb1 hi1 hnx h1 hset hbut h hm
  go_enter_d Tryz.func68, Tryz.ntmps68
  go_wp2
  refine wp_loop_rounds 1 ?_
  rw [rounds_succ]
  go_wp2
  go_end0
  exact ⟨rfl, Hend.out.1, Hend.out.2⟩
end Go.Proofs.YtlgpbllkhbgppaaGreatDoor
namespace Go.Proofs.YtlgpbllkhbgppaaGreatDoor
set_option linter.unusedVariables false
set_option linter.unusedSimpArgs false
open Go.RowKit

def tyS : St → St
  | .mk k a n s p kids _ _ => .mk k a n s p (tyEs kids) [] []
def inS : St → Prop
  | .mk k _ _ s _ kids body els => s.size ≤ 281474976710656 ∧ (k = 9 ∨ k = 10) ∧ kids.length = 1 ∧ inEs kids ∧ body = [] ∧ els = []
def ChPrS (w : World) (base : Nat) (v : Value) (xs : List Value) (l : List St) : Prop := ∀ i e, l[i]? = some e → RdS w (fun b => base ≤ b ∧ b < w.heap.size ∧ some b ≠ v.ownBlock) (fun j => xs[i * 8 + j]?) e
theorem ChPrS.below {w w' : World} {base : Nat} {v : Value} {xs : List Value} {l : List St} (h : ChPrS w base v xs l) (hb : Below w.heap.size w w') : ChPrS w' base v xs l := fun i e he => by
  have h6 := RdS.keep (w' := w') (fun q hq => hb.cell hq.2.1) _ _ (h i e he)
  exact RdS.more (fun b hS => ⟨hS.1, Nat.lt_of_lt_of_le hS.2.1 hb.size, hS.2.2⟩) _ _ h6
theorem ChPrS.snoc {w1 w2 : World} {base lo : Nat} {v v' : Value} {xs : List Value} {l : List St} {k a n p : Int} {s : ByteArray} {kids : List Ex} {K B E : Option Addr} {c cb ce : Nat} (h : ChPrS w1 base v xs l) (hx : xs.length = l.length * 8) (hk : RdEs w1 (From lo w1) K 0 kids)
    (hlo : base ≤ lo) (hv : ∀ b, v.ownBlock = some b → b < lo) (hg : w1.grownBy w2 v.ownBlock) (hat : v'.ownBlock = v.ownBlock ∨ ∃ b, v'.ownBlock = some b ∧ w1.heap.size ≤ b) :
    ChPrS w2 base v' (xs ++ [.int .i64 k, .int .i64 a, .int .i64 n, .string s, .int .i64 p, .slice K kids.length c, .slice B 0 cb, .slice E 0 ce]) (l ++ [.mk k a n s p kids [] []]) := fun i q hp => by
  have hcell : ∀ q : Addr, q.block < w1.heap.size → some q.block ≠ v.ownBlock → w2.cell? q = w1.cell? q := fun q h1 h2 => hg.cell_far q h1 h2
  have hne : ∀ b, b < w1.heap.size → some b ≠ v.ownBlock → some b ≠ v'.ownBlock := fun b h1 h2 => by
    rcases hat with e | ⟨b', e, hge⟩
    · rw [e]; exact h2
    · rw [e]; intro e2; injection e2 with e2; omega
  by_cases hi : i < l.length
  · rw [List.getElem?_append_left hi] at hp
    have h1 := RdS.keep (w' := w2) (fun q hq => hcell q hq.2.1 hq.2.2) _ _ (h i q hp)
    have h2 := RdS.more (S' := fun b => base ≤ b ∧ b < w2.heap.size ∧ some b ≠ v'.ownBlock) (fun b hS => ⟨hS.1, Nat.lt_of_lt_of_le hS.2.1 hg.size, hne b hS.2.1 hS.2.2⟩) _ _ h1
    exact h2.cells (fun j hj => by rw [List.getElem?_append_left (by omega)])
  · have hl : i < (l ++ [St.mk k a n s p kids [] []]).length := (List.getElem?_eq_some_iff.mp hp).1
    rw [List.length_append, List.length_singleton] at hl
    obtain rfl : i = l.length := by omega
    have hpe : q = .mk k a n s p kids [] [] := by simpa using hp.symm
    subst hpe
    have hvb : ∀ b, lo ≤ b → some b ≠ v.ownBlock := fun b h1 h2 => by have := hv b h2.symm; omega
    have h1 := RdEs.keep (w' := w2) (fun q hq => hcell q hq.2 (hvb _ hq.1)) _ _ _ hk
    have h2 := RdEs.more (S' := fun b => base ≤ b ∧ b < w2.heap.size ∧ some b ≠ v'.ownBlock) (fun b hS => ⟨Nat.le_trans hlo hS.1, Nat.lt_of_lt_of_le hS.2 hg.size, hne b hS.2 (hvb b hS.1)⟩) _ _ _ h1
    have h3 : RdS w2 (fun b => base ≤ b ∧ b < w2.heap.size ∧ some b ≠ v'.ownBlock) (fun j => ([.int .i64 k, .int .i64 a, .int .i64 n, .string s, .int .i64 p, .slice K kids.length c, .slice B 0 cb, .slice E 0 ce] : List Value)[j]?) (.mk k a n s p kids [] []) := by
      unfold RdS
      exact ⟨rfl, rfl, rfl, rfl, rfl, ⟨K, c, rfl, h2⟩, ⟨B, cb, rfl, by unfold RdSs; trivial⟩, ⟨E, ce, rfl, by unfold RdSs; trivial⟩⟩
    exact h3.cells (fun j hj => by rw [List.getElem?_append_right (by omega), hx, Nat.add_sub_cancel_left])
theorem ChPrS.read {w : World} {base : Nat} {C : Nat} {V : Option Addr} {l : List St} {xs : List Value} (ho : w.ownsRow base 132 8 (.slice V l.length C) l.length xs) (h : ChPrS w base (.slice V l.length C) xs l) : RdSs w (From base w) V 0 l := by
  refine RdSs.of_all (fun k e he => ?_)
  have hk : k < l.length := (List.getElem?_eq_some_iff.mp he).1
  obtain ⟨g, c, hv, hg, hgl⟩ := ho.form (by omega)
  injection hv with h1 h2 h3
  subst h1
  refine ⟨g, 0, rfl, ⟨hg, hgl⟩, ?_⟩
  have h2 := RdS.more (S' := From base w) (fun b hS => ⟨hS.1, hS.2.1⟩) _ _ (h k e he)
  refine h2.cells (fun j hj => ?_)
  have e0 : 0 + (0 + k) * 8 + j = k * 8 + j := by omega
  rw [e0]
  exact ho.cellAt (k * 8 + j) (by omega)
theorem chkS_any (k : Int) (hk : k = 9 ∨ k = 10) (kids : List Ex) (HE : ∀ e ∈ kids, ExT e) (g : Nat) (S : Nat → Prop) (a n p : Int) (s : ByteArray) (K B E : Option Addr) (c cb ce : Nat) (w : World) (hs : s.size ≤ 281474976710656) (hS : ∀ x, S x → x < w.heap.size) (hl : kids.length = 1) (h : RdEs w S K 0 kids) (hgl : g < w.heap.size) (hg : w.cell? ⟨g, 4, none⟩ = some (.int .i64 1)) :
    Calls Tryz.prog 69 #[.pointer (some ⟨g, 0, none⟩), .agg #[.int .i64 k, .int .i64 a, .int .i64 n, .string s, .int .i64 p, .slice K 1 c, .slice B 0 cb, .slice E 0 ce]] w (ChkQ k a n s p kids (.slice B 0 cb) (.slice E 0 ce) w) := by
  rcases hk with rfl | rfl
  · exact chkS_back kids HE g S a n p s K B E c cb ce w hs hS hl h hgl hg
  · exact chkS_print kids HE g S a n p s K B E c cb ce w hs hS hl h hgl hg
theorem tyS_form {k a n p : Int} {s : ByteArray} {kids : List Ex} {body els : List St} (hb : body = []) (he : els = []) : tyS (.mk k a n s p kids body els) = .mk k a n s p (tyEs kids) [] [] := rfl
/-- What the checker's block comes to. -/
def ChkB (g base n mw : Nat) (F R V I : Value) (N L : Int) (l : List St) (w : World) (r : Ending) (w' : World) : Prop := ∃ K c A cA, r = .returned (.slice K l.length c) ∧ RdSs w' (From base w') K 0 (l.map tyS) ∧ CkB w' g F mw R V I (.slice (some ⟨A, 0, none⟩) n cA) N L ∧ BB g base w w'
set_option maxRecDepth 100000 in
set_option maxHeartbeats 8000000 in
theorem chk_block (l : List St) (hl : ∀ x ∈ l, inS x) (g base n mw : Nat) (S : Nat → Prop) (F V I v : Value) (N L : Int) (xs : List Value) (A : Option Addr) (cap : Nat) (w : World) (hS : ∀ b, S b → b < base) (hlen : l.length ≤ 1099511627776) (hR : RdSs w S A 0 l) (h : CkB w g F mw (.int .i64 1) V I v N L) (hg : g < base) (hSg : ∀ b, S b → b ≠ g) (hbs : base ≤ w.heap.size) (hown : Bks w base v n xs) (hn : n ≤ 1000) :
    Calls Tryz.prog 37 #[.pointer (some ⟨g, 0, none⟩), .slice A l.length cap] w (ChkB g base n mw F (.int .i64 1) V I N L l w) := by
  obtain ⟨m, hm⟩ : ∃ m, m = l.length := ⟨_, rfl⟩
  have hX := enter_any_c g base n mw F (.int .i64 1) V I v N L xs w h hg hbs hown hn
  obtain ⟨i0, hi, hz0, hz1, hz2⟩ := info_parts infoStmt
  have Hi := Lib.hid hi
  have Hz0 := Lib.hid hz0
  have Hz1 := Lib.hid hz1
  have Hz2 := Lib.hid hz2
  have Hm := Lib.hid hm
  have HR := Lib.hid hR
  have HL := Lib.hid hl
  have HS := Lib.hid hS
  have HSg := Lib.hid hSg
  have hxs : xs.length = n := by have := hown.1; omega
  rw [← hm] at hlen ⊢
  clear hi hz0 hz1 hz2 hm hR hl h hown hS hSg
  go_enter_defers Tryz.func37, Tryz.ntmps37
  go_wp2_with (go_at_call 66; refine hX.mono ?_; rintro e w1 ⟨rfl, hb1, A1, c1, mb, hC1, hO1, hm1, hmb, hmA⟩; have Hb1 := Lib.hid hb1; have HC1 := Lib.hid hC1; have HO1 := Lib.hid hO1; have Hm1 := Lib.hid hm1; have Hmb := Lib.hid hmb; have HmA := Lib.hid hmA; clear hb1 hC1 hO1 hm1 hmb hmA hX)
  go_loopw [5, 17] (fun u5 u17 wr => ∃ (i : Nat) (v : Value) (xs : List Value), i ≤ m ∧ u17 = .int .i64 i ∧ u5 = v ∧ Hid (wr.ownsRow w1.heap.size 132 8 v i xs) ∧ Hid (ChPrS wr w1.heap.size v xs ((l.map tyS).take i)) ∧ Hid (Below w1.heap.size w1 wr)) (fun _ u _ => m - (intOf u).toNat)
  case atStart => exact ⟨0, _, [], Nat.zero_le _, rfl, rfl, Lib.hid (World.ownsRow_nil w1 w1.heap.size 132 8), Lib.hid (fun i p hp => by simp at hp), Lib.hid (Below.refl _ _)⟩
  case round =>
    obtain ⟨i, v', xs', hin, rfl, rfl, hown, hex, hb⟩ := hrel
    obtain ⟨V', C', rfl⟩ := own_form hown.out
    have hz1 : w.heap.size ≤ w1.heap.size := Hb1.out.size
    by_cases hlt : i < m
    · have hil : i < l.length := by rw [← Hm.out]; exact hlt
      obtain ⟨e, he⟩ : ∃ e, l[i]? = some e := ⟨_, List.getElem?_eq_getElem hil⟩
      obtain ⟨r, o, rfl, hr0, hE⟩ := HR.out.at_ he
      have hr := HS.out _ hr0
      have hrg := HSg.out _ hr0
      have hin2 := HL.out e (List.mem_of_getElem? he)
      have hte : (l.map tyS)[i]? = some (tyS e) := by rw [List.getElem?_map, he]; rfl
      obtain ⟨k, a, q, s, p, kids, body, els⟩ := e
      unfold inS at hin2
      obtain ⟨hs, hk910, hk1, hke, rfl, rfl⟩ := hin2
      unfold RdS at hE
      obtain ⟨x0, x1, x2, x3, x4, ⟨K, ck, x5, hK⟩, ⟨B, cb, x6, -⟩, ⟨E, ce, x7, -⟩⟩ := hE
      rw [hk1] at x5
      rw [Nat.zero_add] at x0 x1 x2 x3 x4 x5 x6 x7
      have hall : ∀ b, b < base → b ≠ g → wr.heap[b]? = w.heap[b]? := fun b h1 h2 => (hb.out.block b (by omega)).trans (Hb1.out.block b h1 h2)
      have up : ∀ j u, w.cell? ⟨r, j, none⟩ = some u → wr.cell? ⟨r, j, none⟩ = some u := fun j u e => (World.cell?_of_block (a := ⟨r, j, none⟩) (hall r hr hrg)).trans e
      replace x0 := up _ _ x0
      replace x1 := up _ _ x1
      replace x2 := up _ _ x2
      replace x3 := up _ _ x3
      replace x4 := up _ _ x4
      replace x5 := up _ _ x5
      replace x6 := up _ _ x6
      replace x7 := up _ _ x7
      rw [Nat.add_zero] at x0
      have hKr := RdEs.keep (w' := wr) (fun p hp => World.cell?_of_block (hall p.block (HS.out _ hp) (HSg.out _ hp))) _ _ _ hK
      have hgr : wr.cell? ⟨g, 4, none⟩ = some (.int .i64 1) := (hb.out.cell (p := ⟨g, 4, none⟩) (by show g < _; omega)).trans (Lib.cell_of_heap HC1.out 4)
      have hX := fun w' (hw : Below wr.heap.size wr w') => chkS_any k hk910 kids (chkE_each kids hke) g S a q p s K B E ck cb ce w' hs (fun b hb' => by have := HS.out b hb'; have := hb.out.size; have := hw.size; omega) hk1 (RdEs.keep (w' := w') (fun p hp => hw.cell (by have := HS.out _ hp; have := hb.out.size; omega)) _ _ _ hKr) (by have := hb.out.size; have := hw.size; omega) ((hw.cell (p := ⟨g, 4, none⟩) (by show g < _; have := hb.out.size; omega)).trans hgr)
      have HX := Lib.hid hX
      have Hte := Lib.hid hte
      have Hk1 := Lib.hid hk1
      have hrr : r < wr.heap.size := by have := hb.out.size; omega
      clear up hX hK hKr he hte hr0 hall hgr hk910 hke hk1 hs hrg
      go_wp2_with (go_at_call 69; refine (HX.out _ ?_).mono ?_)
      · exact (Below.refl _ _).alloc (Nat.le_refl _) _
      rintro rr w2 ⟨PK, c, rfl, hk, hb2⟩
      have hb2w : Below wr.heap.size wr w2 := ((Below.refl wr.heap.size wr).alloc (Nat.le_refl _) _).trans (hb2.mono (by simp))
      have hk' := RdEs.more (S' := From wr.heap.size w2) (fun b hS => ⟨by have := hS.1; simp at this; omega, hS.2⟩) _ _ _ hk
      have Hb2 := Lib.hid hb2w
      obtain ⟨CS, hCS⟩ : ∃ CS : List Value, CS = [.int .i64 k, .int .i64 a, .int .i64 q, .string s, .int .i64 p, .slice PK 1 (1 + c), .slice B 0 cb, .slice E 0 ce] := ⟨_, rfl⟩
      have hmid := (Below.refl w2.heap.size w2).alloc (Nat.le_refl _) (.cells #[.int .i64 k, .int .i64 a, .int .i64 q, .string s, .int .i64 p, .slice PK 1 (1 + c), .slice B 0 cb, .slice E 0 ce] 132)
      have HOW := Lib.hid (own_blw (own_blw hown.out hb2w) hmid)
      have HNW := Lib.hid (World.news_of_block (heap_alloc_new w2 (.cells #[.int .i64 k, .int .i64 a, .int .i64 q, .string s, .int .i64 p, .slice PK 1 (1 + c), .slice B 0 cb, .slice E 0 ce] 132)))
      have HO : Hid (∀ u ∈ ([.int .i64 k, .int .i64 a, .int .i64 q, .string s, .int .i64 p, .slice PK 1 (1 + c), .slice B 0 cb, .slice E 0 ce] : List Value), u.oneCell' = true) := Lib.hid (by
        intro u hu
        simp only [List.mem_cons, List.not_mem_nil, or_false] at hu
        rcases hu with rfl | rfl | rfl | rfl | rfl | rfl | rfl | rfl <;> rfl)
      have hsz : w1.heap.size ≤ (w2.alloc (.cells #[.int .i64 k, .int .i64 a, .int .i64 q, .string s, .int .i64 p, .slice PK 1 (1 + c), .slice B 0 cb, .slice E 0 ce] 132)).heap.size := by have := hb.out.size; have := hb2w.size; simp; omega
      have Hk := Lib.hid (RdEs.more (S' := From wr.heap.size (w2.alloc (.cells #[.int .i64 k, .int .i64 a, .int .i64 q, .string s, .int .i64 p, .slice PK 1 (1 + c), .slice B 0 cb, .slice E 0 ce] 132))) (fun b hS => ⟨hS.1, by have := hS.2; simp; omega⟩) _ _ _ (RdEs.keep (w' := w2.alloc (.cells #[.int .i64 k, .int .i64 a, .int .i64 q, .string s, .int .i64 p, .slice PK 1 (1 + c), .slice B 0 cb, .slice E 0 ce] 132)) (fun q hq => hmid.cell hq.2) _ _ _ hk'))
      have Hpr := Lib.hid ((hex.out.below hb2w).below hmid)
      have Hmid := Lib.hid hmid
      clear hmid hk hk' hb2 hb2w x0 x1 x2 x3 x4 x5 x6 x7 hCS HX
      go_wp2_with (at_builtin; refine wpList_append_lies _ rfl (.tmp 21) (.tmp 25) 62 rfl w1.heap.size 132 i0 (.agg #[.int .i64 0, .int .i64 0, .int .i64 0, .string ⟨#[]⟩, .int .i64 0, .slice none 0 0, .slice none 0 0, .slice none 0 0]) 8 120 Tryz.underlying62 Hi.out Hz0.out Hz1.out Hz2.out rfl (by decide) (.slice V' i C') i xs' rfl HOW.out ⟨w2.heap.size, 0, none⟩ 1 1 [.int .i64 k, .int .i64 a, .int .i64 q, .string s, .int .i64 p, .slice PK 1 (1 + c), .slice B 0 cb, .slice E 0 ce] rfl rfl HNW.out HO.out (by decide) (by unfold maxLen; omega) (by omega) hsz _ rfl ?_)
      intro gp cp2 w3 hown2 hgrow hat hlt2
      have hat2 : (Value.slice (some ⟨gp, 0, none⟩) (i + 1) cp2).ownBlock = (Value.slice V' i C').ownBlock ∨ ∃ b, (Value.slice (some ⟨gp, 0, none⟩) (i + 1) cp2).ownBlock = some b ∧ (w2.alloc (.cells #[.int .i64 k, .int .i64 a, .int .i64 q, .string s, .int .i64 p, .slice PK 1 (1 + c), .slice B 0 cb, .slice E 0 ce] 132)).heap.size ≤ b := by
        rcases hat with h1 | h1
        · exact Or.inl h1.symm
        · exact Or.inr ⟨gp, rfl, by rw [h1]; simp⟩
      have htk : (l.map tyS).take (i + 1) = (l.map tyS).take i ++ [.mk k a q s p (tyEs kids) [] []] := by
        have hlen : i < (l.map tyS).length := by rw [List.length_map]; exact hil
        rw [List.take_succ_eq_append_getElem hlen]
        congr 2
        have := Hte.out
        rw [List.getElem?_eq_getElem hlen] at this
        exact Option.some.inj this
      have hex2 := Hpr.out.snoc (k := k) (a := a) (n := q) (p := p) (s := s) (c := 1 + c) (B := B) (E := E) (cb := cb) (ce := ce) (v' := .slice (some ⟨gp, 0, none⟩) (i + 1) cp2) (by rw [List.length_take, List.length_map]; have := hown.out.1; omega) Hk.out hb.out.size (fun b hb' => (hown.out.lt b hb').2) hgrow hat2
      rw [← htk, tyEs_len, Hk1.out] at hex2
      have Hex2 := Lib.hid hex2
      have Hown2 := Lib.hid hown2
      have HbN := Lib.hid (((hb.out.trans (Hb2.out.mono hb.out.size)).trans (Hmid.out.mono (by have := hb.out.size; have := Hb2.out.size; omega))).grown hgrow hsz (fun k hk => (hown.out.lt k hk).1))
      clear htk hex2 hown2 hgrow hat hat2 hlt2
      go_wp2
      go_roundw
      case rel => exact ⟨i + 1, _, _, by omega, by go_num, rfl, Hown2, Hex2, HbN⟩
      case measure => simp [intOf]; omega
    · obtain rfl : i = m := by omega
      have hd := Lib.hid hlt
      have hr := hown.out
      have hx := hex.out
      have hle : (l.map tyS).length = i := by rw [List.length_map]; exact Hm.out.symm
      rw [← hle, List.take_length] at hx
      rw [← hle] at hr
      have hy := ChPrS.read (w := wr) (base := w1.heap.size) hr hx
      have hCr : CkB wr g F mw (.int .i64 1) V I (.slice (some ⟨A1, 0, none⟩) (n + 1) c1) N L := (hb.out.block g (by omega)).trans HC1.out
      have hAm : wr.cell? ⟨A1, n, none⟩ = some (.map (some mb)) := by
        have h1 := HO1.out.cellAt n (by omega)
        rw [List.getElem?_append_right (by rw [hxs]; omega), hxs, Nat.sub_self] at h1
        exact (hb.out.cell (p := ⟨A1, n, none⟩) (HO1.out.lt A1 rfl).2).trans h1
      have hmr : wr.heap[mb]? = some (.map #[] 0) := (hb.out.block mb (heap_lt Hm1.out)).trans Hm1.out
      have hcap := (own_cap HO1.out).1
      have hL := fun u => leave_c g n c1 mw A1 mb F (.int .i64 1) V I N L u wr hCr hcap hn hAm hmr (by have := Hmb.out; omega)
      have Hy := Lib.hid hy
      have HL2 := Lib.hid hL
      clear hr hx hy hCr hAm hmr hcap hL
      go_wp2
      refine leaves_cons (f := 68) (args := #[.pointer (some ⟨g, 5, none⟩)]) (by simp) (by simp [go_sem]) ?_
      refine (HL2.out .returning).mono ?_
      rintro r u' w3 ⟨rfl, rfl, hb3, hC3⟩
      refine ⟨.slice V' i C', by simp [results, settle, Tryz.results37, go_sem], V', C', A1, c1, by rw [← Hm.out], ?_, hC3, ?_⟩
      · exact RdSs.more (fun x hx => ⟨by have := hx.1; omega, Nat.lt_of_lt_of_le hx.2 hb3.size⟩) _ _ _ (RdSs.keep (w' := w3) (fun q hq => hb3.cell hq.2 (by have := hq.1; omega)) _ _ _ Hy.out)
      · exact (Hb1.out.trans (BB.of_below (hb.out.mono (by omega)))).trans (BB.of_but hb3 (by have := hb.out.size; omega))
end Go.Proofs.YtlgpbllkhbgppaaGreatDoor
namespace Go.Proofs.YtlgpbllkhbgppaaGreatDoor
set_option linter.unusedVariables false
set_option linter.unusedSimpArgs false
open Go.RowKit

theorem ch_one_al (w : World) (x : Array Value) (T : TypeId) : ∃ W, W = w.alloc (.cells x T) ∧ Below w.heap.size w W ∧ W.heap.size = w.heap.size + 1 ∧ W.heap[w.heap.size]? = some (.cells x T (0, 0)) :=
  ⟨_, rfl, (Below.refl _ _).alloc (Nat.le_refl _) _, by simp, heap_alloc_new w _⟩
theorem BB.mono {g base b' : Nat} {w w' : World} (h : BB g base w w') (hb : b' ≤ base) : BB g b' w w' := ⟨h.os, h.tape, h.output, h.size, fun k hk hg => h.block k (by omega) hg⟩
set_option maxRecDepth 100000 in
set_option maxHeartbeats 4000000 in
theorem newScope_c (w : World) : Calls Tryz.prog 35 #[] w fun r w' => ∃ a b, r = .returned (.agg #[.map (some a), .map (some b), .slice none 0 0, .int .i64 0]) ∧ Below w.heap.size w w' := by
  have hmm := @run_makeMap Tryz.prog
  go_enter Tryz.func35, Tryz.ntmps35
  go_wp2
  refine bodyPost_ret (v := .agg #[.map (some (w.heap.size + 1)), .map (some (w.heap.size + 1 + 1)), .slice none 0 0, .int .i64 0]) (by simp [results, Tryz.results35, go_sem]) rfl ?_
  refine ⟨_, _, rfl, ?_⟩
  repeat (first | with_reducible exact Below.refl _ _ | with_reducible refine Below.setCell ?_ (by first | (simp; done) | (simp; omega)) _ | with_reducible refine Below.alloc ?_ (by first | (simp; done) | (simp; omega)) _)
set_option maxRecDepth 100000 in
set_option maxHeartbeats 4000000 in
theorem params_none (g mw : Nat) (F R V I f0 f1 f3 f4 f5 : Value) (N L : Int) (PA : Option Addr) (pc : Nat) (w : World) (h : CkB w g F mw R V I (.slice none 0 0) N L) :
    Calls Tryz.prog 36 #[.pointer (some ⟨g, 0, none⟩), .agg #[f0, f1, .slice PA 0 pc, f3, f4, f5]] w fun r w' => r = .returned (.slice none 0 0) ∧ BB g w.heap.size w w' ∧ ∃ A c m, CkB w' g F mw R V I (.slice (some ⟨A, 0, none⟩) 1 c) N L ∧ Bks w' (w.heap.size + 1) (.slice (some ⟨A, 0, none⟩) 1 c) 1 [.map (some m)] := by
  have hgl := heap_lt h
  obtain ⟨W, hW, hbW, hzW, hbP⟩ := ch_one_al w #[f0, f1, .slice PA 0 pc, f3, f4, f5] 64
  have hX := enter_any_c g (w.heap.size + 1) 0 mw F R V I (.slice none 0 0) N L [] W ((hbW.block g hgl).trans h) (by omega) (by omega) (World.ownsRow_nil _ _ _ _) (by omega)
  have HbW := Lib.hid hbW
  have HbP := Lib.hid hbP
  have hPl := heap_lt hbP
  clear h hbW hbP hzW
  go_enter Tryz.func36, Tryz.ntmps36
  go_upto_region 1 with fail
  rw [← hW]
  clear hW
  go_wp2_with (go_at_call 66; refine hX.mono ?_)
  rintro e w1 ⟨rfl, hb1, A, c, m, hC, hO, -⟩
  have hbb : BB g w.heap.size w w1 := (BB.of_below HbW.out).trans (hb1.mono (by omega))
  have hP1 : w1.heap[w.heap.size]? = some (.cells #[f0, f1, .slice PA 0 pc, f3, f4, f5] 64 (0, 0)) := (hb1.block _ (by omega) (by omega)).trans HbP.out
  have d2 := Lib.cell_of_heap hP1 2
  have Hbb := Lib.hid hbb
  have HC := Lib.hid hC
  have HO := Lib.hid hO
  clear hb1 hC hO hbb hP1 hX
  go_wp2
  refine wp_loop_rounds 1 ?_
  rw [rounds_succ]
  go_wp2
  go_ret
  exact ⟨rfl, Hbb.out, A, c, m, HC.out, HO.out⟩
set_option maxRecDepth 100000 in
set_option maxHeartbeats 4000000 in
theorem ends_c (l : List St) (S : Nat → Prop) (A : Option Addr) (cap : Nat) (w : World) (hS : ∀ b, S b → b < w.heap.size) (h : RdSs w S A 0 l) (a n p : Int) (s : ByteArray) (kids : List Ex) (m : Nat) (hm : l.length = m + 1) (hmm : m ≤ 1000) (hl : l[m]? = some (.mk 9 a n s p kids [] [])) :
    Calls Tryz.prog 38 #[.slice A l.length cap] w fun r w' => r = .returned (.bool true) ∧ Below w.heap.size w w' := by
  obtain ⟨r, o, rfl, hr0, hE⟩ := h.at_ hl
  have hr := hS _ hr0
  unfold RdS at hE
  obtain ⟨x0, x1, x2, x3, x4, ⟨K, ck, x5, hK⟩, ⟨B, cb, x6, -⟩, ⟨E, ce, x7, -⟩⟩ := hE
  rw [Nat.zero_add] at x0 x1 x2 x3 x4 x5 x6 x7
  rw [Nat.add_zero] at x0
  rw [hm]
  have e0 : ((m : Int) + 1 == 0) = false := by simp; omega
  have e1 : (m : Int) + 1 - 1 = m := by omega
  have e2 : ((m + 1 : Nat) : Int) = (m : Int) + 1 := by omega
  have l0 : (0 : Int) ≤ m := by omega
  have l1 : (m : Int) < (m : Int) + 1 := by omega
  clear hK h hS hr0 hl hm
  go_enter Tryz.func38, Tryz.ntmps38
  go_wp2
  go_ret
  exact ⟨rfl, (Below.refl _ _).alloc (Nat.le_refl _) _⟩
end Go.Proofs.YtlgpbllkhbgppaaGreatDoor
namespace Go.Proofs.YtlgpbllkhbgppaaGreatDoor
set_option linter.unusedVariables false
set_option linter.unusedSimpArgs false
open Go.RowKit

theorem set5 {w1 : World} {g mw : Nat} {F R V I B R2 V2 I2 B2 : Value} {N L N2 : Int} (h : w1.heap[g]? = some (.cells #[F, .map (some mw), .int .i64 0, .int .i64 0, R, V, I, B, .int .i64 N, .int .i64 L] 60 (0, 0))) :
    CkB (((((w1.setCell ⟨g, 4, none⟩ R2).setCell ⟨g, 5, none⟩ V2).setCell ⟨g, 6, none⟩ I2).setCell ⟨g, 7, none⟩ B2).setCell ⟨g, 8, none⟩ (.int .i64 N2)) g F mw R2 V2 I2 B2 N2 L :=
  heap_set (heap_set (heap_set (heap_set (heap_set h 4 R2) 5 V2) 6 I2) 7 B2) 8 (.int .i64 N2)
theorem set5_but {w1 : World} {g : Nat} {R2 V2 I2 B2 N2 : Value} : But g w1 (((((w1.setCell ⟨g, 4, none⟩ R2).setCell ⟨g, 5, none⟩ V2).setCell ⟨g, 6, none⟩ I2).setCell ⟨g, 7, none⟩ B2).setCell ⟨g, 8, none⟩ N2) :=
  (((((But.refl g w1).setCell (Or.inl rfl) _).setCell (Or.inl rfl) _).setCell (Or.inl rfl) _).setCell (Or.inl rfl) _).setCell (Or.inl rfl) _
theorem CkB.of_eq {w w' : World} {g mw : Nat} {F R V I B : Value} {N L : Int} (h : CkB w g F mw R V I B N L) (e : w'.heap[g]? = w.heap[g]?) : CkB w' g F mw R V I B N L := e.trans h
def ChkF (g mw : Nat) (F : Value) (L : Int) (nm : ByteArray) (at_ : Int) (l : List St) (w : World) (r : Ending) (w' : World) : Prop := ∃ K c V I B N, r = .returned (.agg #[.string nm, .int .i64 at_, .slice none 0 0, .int .i64 1, .slice K l.length c, .int .i64 0]) ∧ RdSs w' (From w.heap.size w') K 0 (l.map tyS) ∧ CkB w' g F mw (.int .i64 1) V I B N L ∧ But g w w'
theorem fn_end {w w4 w9 w10 W' : World} {g mw : Nat} {F V I B : Value} {L N at_ : Int} {nm : ByteArray} {l : List St} {K : Option Addr} {c : Nat} (hfar : ∀ x, x ≠ w.heap.size + 1 → W'.heap[x]? = w10.heap[x]?) (hbel : Below w.heap.size w10 W') (hgl : g < w.heap.size) (hz4 : w.heap.size + 2 ≤ w4.heap.size) (hz9 : w4.heap.size + 1 ≤ w9.heap.size)
    (hM : w9.os = w.os ∧ w9.tape = w.tape ∧ w9.output = w.output) (hk : ∀ b, b < w.heap.size → b ≠ g → w9.heap[b]? = w.heap[b]?) (hC : CkB w9 g F mw (.int .i64 1) V I B N L) (hS : RdSs w9 (From (w4.heap.size + 1) w9) K 0 (l.map tyS)) (hb : Below w9.heap.size w9 w10) :
    ChkF g mw F L nm at_ l w (.returned (.agg #[.string nm, .int .i64 at_, .slice none 0 0, .int .i64 1, .slice K l.length c, .int .i64 0])) W' := by
  have h1 := hb.size
  have h2 := hbel.size
  refine ⟨K, c, V, I, B, N, rfl, ?_, (hC.of_eq (hb.block g (by omega))).of_eq (hfar g (by omega)), ⟨hbel.os.trans (hb.os.trans hM.1), hbel.tape.trans (hb.tape.trans hM.2.1), hbel.output.trans (hb.output.trans hM.2.2), by omega, fun b h3 h4 => (hfar b (by omega)).trans ((hb.block b (by omega)).trans (hk b h3 h4))⟩⟩
  refine RdSs.more (fun x hx => ⟨by have := hx.1; omega, by have := hx.2; omega⟩) _ _ _ (RdSs.keep (w' := W') (fun q hq => ?_) _ _ _ hS)
  exact (World.cell?_of_block (hfar _ (by have := hq.1; omega))).trans (hb.cell hq.2)
set_option maxRecDepth 100000 in
set_option maxHeartbeats 8000000 in
theorem fn_c (nm : ByteArray) (hnm : nm.size ≤ 281474976710656) (l : List St) (hl : ∀ x ∈ l, inS x) (m : Nat) (hm : l.length = m + 1) (hmm : m ≤ 1000) (a9 n9 p9 : Int) (s9 : ByteArray) (k9 : List Ex) (hlast : l[m]? = some (.mk 9 a9 n9 s9 p9 k9 [] [])) (g mw : Nat) (S : Nat → Prop) (F R V I B : Value) (N L at_ v0 : Int) (PA BA : Option Addr) (pc bc : Nat) (w : World)
    (hS : ∀ b, S b → b < w.heap.size) (hSg : ∀ b, S b → b ≠ g) (hR : RdSs w S BA 0 l) (h : CkB w g F mw R V I B N L) :
    Calls Tryz.prog 15 #[.pointer (some ⟨g, 0, none⟩), .agg #[.string nm, .int .i64 at_, .slice PA 0 pc, .int .i64 1, .slice BA l.length bc, .int .i64 v0]] w (ChkF g mw F L nm at_ l w) := by
  have hgl := heap_lt h
  obtain ⟨W, hW, hbW, hzW, hbF, hbR⟩ := two_al w #[.string nm, .int .i64 at_, .slice PA 0 pc, .int .i64 1, .slice BA l.length bc, .int .i64 v0] #[.string ⟨#[]⟩, .int .i64 0, .slice none 0 0, .int .i64 0, .slice none 0 0, .int .i64 0] 64 64
  have hg1 := (hbW.block g hgl).trans h
  have d3 := Lib.cell_of_heap hbF 3
  have gd : W.drew.cell? ⟨w.heap.size, 3, none⟩ = some (.int .i64 1) := d3
  have hX := newScope_c W.drew
  have hall : ∀ w1, Below W.drew.heap.size W.drew w1 → w1.heap[g]? = some (.cells #[F, .map (some mw), .int .i64 0, .int .i64 0, R, V, I, B, .int .i64 N, .int .i64 L] 60 (0, 0)) ∧ w1.heap[w.heap.size]? = some (.cells #[.string nm, .int .i64 at_, .slice PA 0 pc, .int .i64 1, .slice BA l.length bc, .int .i64 v0] 64 (0, 0)) ∧ w1.heap[w.heap.size + 1]? = some (.cells #[.string ⟨#[]⟩, .int .i64 0, .slice none 0 0, .int .i64 0, .slice none 0 0, .int .i64 0] 64 (0, 0)) ∧ Below w.heap.size w w1 ∧ w.heap.size + 2 ≤ w1.heap.size := fun w1 h1 => by
    have hz : W.drew.heap.size = w.heap.size + 2 := hzW
    exact ⟨(h1.block g (by omega)).trans hg1, (h1.block _ (by omega)).trans hbF, (h1.block _ (by omega)).trans hbR, (hbW.drew).trans (h1.mono (by omega)), by have := h1.size; omega⟩
  have Hall := Lib.hid hall
  have HR := Lib.hid hR
  have HS := Lib.hid hS
  have HSg := Lib.hid hSg
  have HL := Lib.hid hl
  have Hm := Lib.hid hm
  have Hlast := Lib.hid hlast
  have hC := fun w' => sclone_any nm w' hnm
  clear hg1 hall hR hS hSg hl hm hlast h hbW hzW hbF hbR d3
  go_enter Tryz.func15, Tryz.ntmps15
  go_upto_region 1 with fail
  rw [← hW]
  clear hW
  refine wp_region_noPanic ?_
  refine wp_region_held_drew (S := fun w' => w'.cell? ⟨w.heap.size, 3, none⟩ = some (.int .i64 1)) (by kernel_rfl) gd (fun hHeld => ?_)
  refine wpAnyH_take (i := 0) (v := ?_) rfl (by kernel_rfl) (by kernel_rfl) (by kernel_rfl) (fun _ _ _ h => h) (Or.inl ⟨by rfl, ?_⟩) (by assumption) ?_
  rotate_left
  · (intro w hSw; (try dsimp only at hSw); first | (go_simp; done) | (go_simp; with_reducible rfl))
  try simp only [Act.put, List.setIfInBounds_toArray, List.set_cons_zero, List.set_cons_succ]
  refine wpAnyH_take (i := 1) (v := ?_) rfl (by kernel_rfl) (by kernel_rfl) (by kernel_rfl) (fun _ _ _ h => h) (Or.inl ⟨by rfl, ?_⟩) (by assumption) ?_
  rotate_left
  · (intro w hSw; (try dsimp only at hSw); first | (go_simp; done) | (go_simp; with_reducible rfl))
  try simp only [Act.put, List.setIfInBounds_toArray, List.set_cons_zero, List.set_cons_succ]
  refine wpAnyH_take (i := 2) (v := ?_) rfl (by kernel_rfl) (by kernel_rfl) (by kernel_rfl) (fun _ _ _ h => h) (Or.inl ⟨by rfl, ?_⟩) (by assumption) ?_
  rotate_left
  · (intro w hSw; (try dsimp only at hSw); first | (go_simp; done) | (go_simp; with_reducible rfl))
  try simp only [Act.put, List.setIfInBounds_toArray, List.set_cons_zero, List.set_cons_succ]
  refine wpAnyH_take (i := 3) (v := ?_) rfl (by kernel_rfl) (by kernel_rfl) (by kernel_rfl) (fun _ _ _ h => h) (Or.inl ⟨by rfl, ?_⟩) (by assumption) ?_
  rotate_left
  · (intro w hSw; (try dsimp only at hSw); first | (go_simp; done) | (go_simp; with_reducible rfl))
  try simp only [Act.put, List.setIfInBounds_toArray, List.set_cons_zero, List.set_cons_succ]
  refine wpAnyH_ready (rs := [4]) (by kernel_rfl) (by simp) ?_
  refine AllReadyH.cons rfl (fun K hK => ?_) (AllReadyH.nil)
  go_simp
  refine hX.mono ?_
  rintro e w1 ⟨sa, sb, rfl, hb1⟩
  obtain ⟨hg1, hF1, hR1, hb, hz1⟩ := Hall.out w1 hb1
  have g1 : w1.cell? ⟨w.heap.size, 3, none⟩ = some (.int .i64 1) := Lib.cell_of_heap hF1 3
  have c4 := Lib.cell_of_heap hg1 4
  have c5 := Lib.cell_of_heap hg1 5
  have c6 := Lib.cell_of_heap hg1 6
  have c7 := Lib.cell_of_heap hg1 7
  have c8 := Lib.cell_of_heap hg1 8
  have cf := fun j => Lib.frozen_of_heap hg1 j
  have HG1 := Lib.hid hg1
  have HF1 := Lib.hid hF1
  have HR1 := Lib.hid hR1
  have Hb := Lib.hid hb
  have Hz1 := Lib.hid hz1
  clear hX hb1 hg1 hF1 hR1 hb hz1
  refine hK.out _ _ ?_ (fun hHeld => ?_)
  · ((try dsimp only); first | with_reducible exact gd | with_reducible exact g1 | exact (set_far (by show w.heap.size ≠ g; omega)).trans g1 | exact (set_far (by show w.heap.size ≠ g; omega)).trans ((set_far (by show w.heap.size ≠ g; omega)).trans ((set_far (by show w.heap.size ≠ g; omega)).trans ((set_far (by show w.heap.size ≠ g; omega)).trans ((set_far (by show w.heap.size ≠ g; omega)).trans g1)))) | (rw [set_far (by show w.heap.size ≠ g; omega)]; with_reducible exact g1) | (rw [set_far (by show w.heap.size ≠ g; omega), set_far (by show w.heap.size ≠ g; omega), set_far (by show w.heap.size ≠ g; omega), set_far (by show w.heap.size ≠ g; omega), set_far (by show w.heap.size ≠ g; omega)]; with_reducible exact g1))
  clear hK K
  try simp only [Act.put, List.setIfInBounds_toArray, List.set_cons_zero, List.set_cons_succ]
  refine wpAnyH_take (i := 5) (v := ?_) rfl (by kernel_rfl) (by kernel_rfl) (by kernel_rfl) (fun _ _ _ h => h) (Or.inl ⟨by rfl, ?_⟩) (by assumption) ?_
  rotate_left
  · (intro w hSw; (try dsimp only at hSw); first | (go_simp; done) | (go_simp; with_reducible rfl))
  try simp only [Act.put, List.setIfInBounds_toArray, List.set_cons_zero, List.set_cons_succ]
  refine wpAnyH_take (i := 6) (v := ?_) rfl (by kernel_rfl) (by kernel_rfl) (by kernel_rfl) (fun _ _ _ h => h) (Or.inl ⟨by rfl, ?_⟩) (by assumption) ?_
  rotate_left
  · (intro w hSw; (try dsimp only at hSw); first | (go_simp; done) | (go_simp; with_reducible rfl))
  try simp only [Act.put, List.setIfInBounds_toArray, List.set_cons_zero, List.set_cons_succ]
  refine wpAnyH_ready (rs := [7]) (by kernel_rfl) (by simp) ?_
  refine AllReadyH.cons rfl (fun K hK => ?_) (AllReadyH.nil)
  go_simp
  refine hK.out _ _ ?_ (fun hHeld => ?_)
  · ((try dsimp only); first | with_reducible exact gd | with_reducible exact g1 | exact (set_far (by show w.heap.size ≠ g; omega)).trans g1 | exact (set_far (by show w.heap.size ≠ g; omega)).trans ((set_far (by show w.heap.size ≠ g; omega)).trans ((set_far (by show w.heap.size ≠ g; omega)).trans ((set_far (by show w.heap.size ≠ g; omega)).trans ((set_far (by show w.heap.size ≠ g; omega)).trans g1)))) | (rw [set_far (by show w.heap.size ≠ g; omega)]; with_reducible exact g1) | (rw [set_far (by show w.heap.size ≠ g; omega), set_far (by show w.heap.size ≠ g; omega), set_far (by show w.heap.size ≠ g; omega), set_far (by show w.heap.size ≠ g; omega), set_far (by show w.heap.size ≠ g; omega)]; with_reducible exact g1))
  clear hK K
  try simp only [Act.put, List.setIfInBounds_toArray, List.set_cons_zero, List.set_cons_succ]
  refine wpAnyH_take (i := 8) (v := ?_) rfl (by kernel_rfl) (by kernel_rfl) (by kernel_rfl) (fun _ _ _ h => h) (Or.inl ⟨by rfl, ?_⟩) (by assumption) ?_
  rotate_left
  · (intro w hSw; (try dsimp only at hSw); first | (go_simp; done) | (go_simp; with_reducible rfl))
  try simp only [Act.put, List.setIfInBounds_toArray, List.set_cons_zero, List.set_cons_succ]
  refine wpAnyH_take (i := 9) (v := ?_) rfl (by kernel_rfl) (by kernel_rfl) (by kernel_rfl) (fun _ _ _ h => h) (Or.inl ⟨by rfl, ?_⟩) (by assumption) ?_
  rotate_left
  · (intro w hSw; (try dsimp only at hSw); first | (go_simp; done) | (go_simp; with_reducible rfl))
  try simp only [Act.put, List.setIfInBounds_toArray, List.set_cons_zero, List.set_cons_succ]
  refine wpAnyH_ready (rs := [10]) (by kernel_rfl) (by simp) ?_
  refine AllReadyH.cons rfl (fun K hK => ?_) (AllReadyH.nil)
  go_simp
  refine hK.out _ _ ?_ (fun hHeld => ?_)
  · ((try dsimp only); first | with_reducible exact gd | with_reducible exact g1 | exact (set_far (by show w.heap.size ≠ g; omega)).trans g1 | exact (set_far (by show w.heap.size ≠ g; omega)).trans ((set_far (by show w.heap.size ≠ g; omega)).trans ((set_far (by show w.heap.size ≠ g; omega)).trans ((set_far (by show w.heap.size ≠ g; omega)).trans ((set_far (by show w.heap.size ≠ g; omega)).trans g1)))) | (rw [set_far (by show w.heap.size ≠ g; omega)]; with_reducible exact g1) | (rw [set_far (by show w.heap.size ≠ g; omega), set_far (by show w.heap.size ≠ g; omega), set_far (by show w.heap.size ≠ g; omega), set_far (by show w.heap.size ≠ g; omega), set_far (by show w.heap.size ≠ g; omega)]; with_reducible exact g1))
  clear hK K
  try simp only [Act.put, List.setIfInBounds_toArray, List.set_cons_zero, List.set_cons_succ]
  refine wpAnyH_done (by kernel_rfl) ?_ _
  refine NoPanic.normal ?_
  obtain ⟨w2, hw2⟩ : ∃ w2, w2 = ((((w1.setCell ⟨g, 4, none⟩ (.int .i64 1)).setCell ⟨g, 5, none⟩ (.map (some sa))).setCell ⟨g, 6, none⟩ (.map (some sb))).setCell ⟨g, 7, none⟩ (.slice none 0 0)).setCell ⟨g, 8, none⟩ (.int .i64 0) := ⟨_, rfl⟩
  have hC2 : CkB w2 g F mw (.int .i64 1) (.map (some sa)) (.map (some sb)) (.slice none 0 0) 0 L := by rw [hw2]; exact set5 HG1.out
  have hbut2 : But g w1 w2 := by rw [hw2]; exact set5_but
  rw [← hw2]
  clear hw2 c4 c5 c6 c7 c8 cf g1 gd
  have hz1 := Hz1.out
  have hF2 := (hbut2.block w.heap.size (by omega) (by omega)).trans HF1.out
  have hR2 := (hbut2.block (w.heap.size + 1) (by omega) (by omega)).trans HR1.out
  have hw2 : But g w w2 := (But.of_below Hb.out).trans hbut2
  have hz2 : w.heap.size + 2 ≤ w2.heap.size := Nat.le_trans hz1 hbut2.size
  have d0 := Lib.cell_of_heap hF2 0
  have HC2 := Lib.hid hC2
  have HF2 := Lib.hid hF2
  have HR2 := Lib.hid hR2
  have HW2 := Lib.hid hw2
  have Hz2 := Lib.hid hz2
  clear hC2 hF2 hR2 hw2 hz2 hbut2 hz1 Hz1 HG1 HF1 HR1 Hb
  go_wp2_with (go_at_call 28; refine (hC _).mono ?_)
  clear d0 hC
  rintro e w3 ⟨rfl, hb3⟩
  have hz2 := Hz2.out
  have hF3 := (hb3.block w.heap.size (by omega)).trans HF2.out
  have hset4 := heap_set hF3 0 (.string nm)
  have d0 := Lib.cell_of_heap hF3 0
  have d1 := Lib.cell_of_heap hF3 1
  have d2 := Lib.cell_of_heap hF3 2
  have d3 := Lib.cell_of_heap hF3 3
  have d4 := Lib.cell_of_heap hF3 4
  have d5 := Lib.cell_of_heap hF3 5
  have f0 := Lib.frozen_of_heap hF3 0
  obtain ⟨w4, hw4⟩ : ∃ w4, w4 = w3.setCell ⟨w.heap.size, 0, none⟩ (.string nm) := ⟨_, rfl⟩
  have hbut4 : But w.heap.size w2 w4 := by rw [hw4]; exact (But.of_below (g := w.heap.size) hb3).setCell (p := ⟨w.heap.size, 0, none⟩) (Or.inl rfl) _
  rw [← hw4] at hset4
  have hF4 : w4.heap[w.heap.size]? = some (.cells #[.string nm, .int .i64 at_, .slice PA 0 pc, .int .i64 1, .slice BA l.length bc, .int .i64 v0] 64 (0, 0)) := by simpa using hset4
  have hR4 := (hbut4.block (w.heap.size + 1) (by omega) (by omega)).trans HR2.out
  have hC4 := HC2.out.of_eq (hbut4.block g (by omega) (by omega))
  have hz4 : w.heap.size + 2 ≤ w4.heap.size := Nat.le_trans hz2 hbut4.size
  have hk4 : ∀ b, b < w.heap.size → b ≠ g → w4.heap[b]? = w.heap[b]? := fun b h1 h2 => (hbut4.block b (by omega) (by omega)).trans (HW2.out.block b h1 h2)
  have hP := params_none g mw F (.int .i64 1) (.map (some sa)) (.map (some sb)) (.string nm) (.int .i64 at_) (.int .i64 1) (.slice BA l.length bc) (.int .i64 v0) 0 L PA pc w4 hC4
  rw [hw4] at hP
  have HF4 := Lib.hid hF4
  have HR4 := Lib.hid hR4
  have HK4 := Lib.hid hk4
  have Hz4 := Lib.hid hz4
  have HM4 := Lib.hid (show w4.os = w.os ∧ w4.tape = w.tape ∧ w4.output = w.output from ⟨hbut4.os.trans HW2.out.os, hbut4.tape.trans HW2.out.tape, hbut4.output.trans HW2.out.output⟩)
  clear hF4 hR4 hk4 hz4 hC4 hset4 hF3 hb3 hbut4 HF2 HR2 HC2 HW2 Hz2 hz2
  go_wp2_with (go_at_call 36; refine hP.mono ?_)
  rw [← hw4]
  clear hP hw4 d0 d1 d2 d3 d4 d5 f0
  rintro e w5 ⟨rfl, hb5, A5, c5, m5, hC5, hO5⟩
  have hz4 := Hz4.out
  have hF5 := (hb5.block w.heap.size (by omega) (by omega)).trans HF4.out
  have hR5 := (hb5.block (w.heap.size + 1) (by omega) (by omega)).trans HR4.out
  have hset6 := heap_set hF5 2 (.slice none 0 0)
  have e2 := Lib.cell_of_heap hF5 2
  have e4 := Lib.cell_of_heap hF5 4
  have f2 := Lib.frozen_of_heap hF5 2
  obtain ⟨w6, hw6⟩ : ∃ w6, w6 = w5.setCell ⟨w.heap.size, 2, none⟩ (.slice none 0 0) := ⟨_, rfl⟩
  have hbut6 : But w.heap.size w5 w6 := by rw [hw6]; exact (But.refl _ _).setCell (p := ⟨w.heap.size, 2, none⟩) (Or.inl rfl) _
  rw [← hw6] at hset6
  have hF6 : w6.heap[w.heap.size]? = some (.cells #[.string nm, .int .i64 at_, .slice none 0 0, .int .i64 1, .slice BA l.length bc, .int .i64 v0] 64 (0, 0)) := by simpa using hset6
  have hbl5 : w4.heap.size + 1 ≤ w5.heap.size := by have := hO5.lt A5 rfl; omega
  have hR6 := (hbut6.block (w.heap.size + 1) (by have := hb5.size; omega) (by omega)).trans hR5
  have hC6 := hC5.of_eq (hbut6.block g (by have := hb5.size; omega) (by omega))
  have hO6 : Bks w6 (w4.heap.size + 1) (.slice (some ⟨A5, 0, none⟩) 1 c5) 1 [.map (some m5)] := own_but hO5 hbut6 (by omega)
  have hk6 : ∀ b, b < w.heap.size → b ≠ g → w6.heap[b]? = w.heap[b]? := fun b h1 h2 => ((hbut6.block b (by have := hb5.size; omega) (by omega)).trans (hb5.block b (by omega) h2)).trans (HK4.out b h1 h2)
  have hz6 : w4.heap.size + 1 ≤ w6.heap.size := by have := hbut6.size; omega
  have hB := chk_block l HL.out g (w4.heap.size + 1) 1 mw S F (.map (some sa)) (.map (some sb)) (.slice (some ⟨A5, 0, none⟩) 1 c5) 0 L [.map (some m5)] BA bc w6 (fun b hb => by have := HS.out b hb; omega) (by have := Hm.out; omega) (RdSs.keep (w' := w6) (fun p hp => World.cell?_of_block (hk6 _ (HS.out _ hp) (HSg.out _ hp))) _ _ _ HR.out) hC6 (by omega) HSg.out hz6 hO6 (by omega)
  rw [hw6] at hB
  have HF6 := Lib.hid hF6
  have HR6 := Lib.hid hR6
  have HK6 := Lib.hid hk6
  have Hz6 := Lib.hid hz6
  have HM6 := Lib.hid (show w6.os = w.os ∧ w6.tape = w.tape ∧ w6.output = w.output from ⟨hbut6.os.trans (hb5.os.trans HM4.out.1), hbut6.tape.trans (hb5.tape.trans HM4.out.2.1), hbut6.output.trans (hb5.output.trans HM4.out.2.2)⟩)
  clear hF6 hR6 hk6 hz6 hC6 hO6 hset6 hF5 hR5 hb5 hC5 hO5 hbut6 hbl5 hz4 HF4 HR4 HK4 HM4
  go_wp2_with (go_at_call 37; refine hB.mono ?_)
  rw [← hw6]
  clear hB hw6 e2 e4 f2
  rintro e w7 ⟨K, c, A7, c7, rfl, hS7, hC7, hb7⟩
  have hz4 := Hz4.out
  have hz6 := Hz6.out
  have hz7 : w4.heap.size + 1 ≤ w7.heap.size := by have := hb7.size; omega
  have hF7 := (hb7.block w.heap.size (by omega) (by omega)).trans HF6.out
  have hR7 := (hb7.block (w.heap.size + 1) (by omega) (by omega)).trans HR6.out
  have hk7 : ∀ b, b < w.heap.size → b ≠ g → w7.heap[b]? = w.heap[b]? := fun b h1 h2 => (hb7.block b (by omega) h2).trans (HK6.out b h1 h2)
  have hset9 := heap_set (heap_set hF7 4 (.slice K l.length c)) 5 (.int .i64 0)
  have d3 := Lib.cell_of_heap hF7 3
  have d4 := Lib.cell_of_heap hF7 4
  have d5 := Lib.cell_of_heap hF7 5
  have f4 := Lib.frozen_of_heap hF7 4
  have f5 := Lib.frozen_of_heap hF7 5
  have g8 := Lib.cell_of_heap hC7 8
  obtain ⟨w9, hw9⟩ : ∃ w9, w9 = (w7.setCell ⟨w.heap.size, 4, none⟩ (.slice K l.length c)).setCell ⟨w.heap.size, 5, none⟩ (.int .i64 0) := ⟨_, rfl⟩
  have hbut9 : But w.heap.size w7 w9 := by rw [hw9]; exact ((But.refl _ _).setCell (p := ⟨w.heap.size, 4, none⟩) (Or.inl rfl) _).setCell (p := ⟨w.heap.size, 5, none⟩) (Or.inl rfl) _
  have hzz9 : w9.heap.size = w7.heap.size := by rw [hw9, set_size, set_size]
  rw [← hw9] at hset9
  have hF9 : w9.heap[w.heap.size]? = some (.cells #[.string nm, .int .i64 at_, .slice none 0 0, .int .i64 1, .slice K l.length c, .int .i64 0] 64 (0, 0)) := by simpa using hset9
  have hR9 := (hbut9.block (w.heap.size + 1) (by omega) (by omega)).trans hR7
  have hC9 := hC7.of_eq (hbut9.block g (by omega) (by omega))
  have hS9 := RdSs.more (S' := From (w4.heap.size + 1) w9) (fun x hx => ⟨hx.1, by rw [hzz9]; exact hx.2⟩) _ _ _ (RdSs.keep (w' := w9) (fun q hq => hbut9.cell hq.2 (by have := hq.1; omega)) _ _ _ hS7)
  have hE := ends_c (l.map tyS) (From (w4.heap.size + 1) w9) K c w9 (fun b hb => hb.2) hS9 a9 n9 p9 s9 (tyEs k9) m (by rw [List.length_map]; exact Hm.out) hmm (by rw [List.getElem?_map, Hlast.out]; rfl)
  rw [List.length_map, hw9] at hE
  have hk9 : ∀ b, b < w.heap.size → b ≠ g → w9.heap[b]? = w.heap[b]? := fun b h1 h2 => (hbut9.block b (by omega) (by omega)).trans (hk7 b h1 h2)
  have HF9 := Lib.hid hF9
  have HR9 := Lib.hid hR9
  have HC9 := Lib.hid hC9
  have HS9 := Lib.hid hS9
  have HK9 := Lib.hid hk9
  have Hz9 := Lib.hid (show w4.heap.size + 1 ≤ w9.heap.size by omega)
  have HM9 := Lib.hid (show w9.os = w.os ∧ w9.tape = w.tape ∧ w9.output = w.output from ⟨hbut9.os.trans (hb7.os.trans HM6.out.1), hbut9.tape.trans (hb7.tape.trans HM6.out.2.1), hbut9.output.trans (hb7.output.trans HM6.out.2.2)⟩)
  clear hF9 hR9 hC9 hS9 hk9 hset9 hF7 hR7 hk7 hb7 hC7 hS7 hbut9 hz7 hz6 hz4 hzz9 HF6 HR6 HK6 HM6 Hz6
  go_wp2_with (go_at_call 38; refine hE.mono ?_)
  rw [← hw9]
  clear hE hw9 d3 d4 d5 f4 f5 g8
  rintro e w10 ⟨rfl, hb10⟩
  have hz4 := Hz4.out
  have hz9 := Hz9.out
  have hF10 := (hb10.block w.heap.size (by omega)).trans HF9.out
  have hR10 := (hb10.block (w.heap.size + 1) (by omega)).trans HR9.out
  have d0 := Lib.cell_of_heap hF10 0
  have d1 := Lib.cell_of_heap hF10 1
  have d2 := Lib.cell_of_heap hF10 2
  have d3 := Lib.cell_of_heap hF10 3
  have d4 := Lib.cell_of_heap hF10 4
  have d5 := Lib.cell_of_heap hF10 5
  have r0 := Lib.cell_of_heap hR10 0
  have r1 := Lib.cell_of_heap hR10 1
  have r2 := Lib.cell_of_heap hR10 2
  have r3 := Lib.cell_of_heap hR10 3
  have r4 := Lib.cell_of_heap hR10 4
  have r5 := Lib.cell_of_heap hR10 5
  have rf := fun j => Lib.frozen_of_heap hR10 j
  have Hb10 := Lib.hid hb10
  clear hF10 hR10 hb10 HF9 HR9 hz4 hz9
  go_wp2
  refine bodyPost_ret (v := .agg #[.string nm, .int .i64 at_, .slice none 0 0, .int .i64 1, .slice K l.length c, .int .i64 0]) (by simp [results, Tryz.results15, go_sem, r0, r1, r2, r3, r4, r5]) rfl ?_
  refine fn_end (w4 := w4) (w9 := w9) (w10 := w10) ?_ ?_ hgl Hz4.out Hz9.out HM9.out HK9.out HC9.out HS9.out Hb10.out
  · intro x hx
    repeat (with_reducible refine (Below.heap_setCell _ _ _ _ (by exact hx)).trans ?_)
    rfl
  · repeat (first | with_reducible exact Below.refl _ _ | with_reducible refine Below.setCell ?_ (by first | (simp; done) | (simp; omega)) _)
end Go.Proofs.YtlgpbllkhbgppaaGreatDoor
