/-
  A range over a function that yields several values at once: as in the text of one value.
  slices.Backward over a row of numbers.
  Blocks on all ways: the search's chains, over plain data; how the search lies.
-/
import Derived.Test.YtoplllebaagnnaaJd6
import Derived.Test.YtoplllebaagnnaaJd14
namespace Go.Proofs.Ytoplllebaagnnaa
set_option linter.unusedVariables false
set_option linter.unusedSimpArgs false
open Go.RowKit Go.Shelf

def SepGivs {α : Type} (P : Program) (g : Nat) (lb : Array Value) (enc : α → Array Value) (xs : List α) (S Wr : Nat → Prop) (Post : World → Prop) (W : World) : Prop :=
  ∀ (l : Nat) (J : List α → (Nat → Prop) → World → Prop) (F0 : Nat → Prop),
    (∀ pre F A B, J pre F A → StepOff F A B → J pre F B) →
    (∀ pre F A, J pre F A → ∀ k, F k → k < A.heap.size) →
    (∀ pre x F A, J pre F A → (pre ++ [x]) <+: xs → YieldAt Fence.wide 0 P l (enc x) A fun e B => e = .returned (.bool true) ∧ ∃ F', J (pre ++ [x]) F' B ∧ StepOn F F' A B) →
    (∀ k, F0 k → ¬ S k) → J [] F0 W →
    Calls P g (#[.func (.yield l) #[] #[]] ++ lb) W fun e W' => (∃ v, e = .returned v) ∧ ∃ F', J xs F' W' ∧ Post W' ∧ Framed F0 F' Wr W W'

theorem wp_range_sepv {P : Program} {α : Type} {g : Operand} {ps : Array Tmp} {assign body : Code} {Q : Exit → Act → World → Prop} {a : Act} {w : World} {gf : Nat} {lb : Array Value}
    (hg : a.eval g = .func (.func gf) #[] lb) (eg : ∀ args w, (callFunc gf args).run P w = .ok (.enter gf args) w)
    {enc : α → Array Value} {xs : List α} {S Wr : Nat → Prop} {Post : World → Prop} (hseq : ∀ W1, Below w.heap.size w W1 → SepGivs P gf lb enc xs S Wr Post W1) (hps : ∀ x, (enc x).size = ps.size)
    (hPost : ∀ A B : World, Post A → A.heap.size ≤ B.heap.size → (∀ k, k < w.heap.size → B.heap[k]? = A.heap[k]?) → Post B)
    (I : List α → (Nat → Prop) → World → Prop) (F0 : Nat → Prop)
    (hIoff : ∀ pre F A B, I pre F A → StepOff F A B → I pre F B) (hIlt : ∀ pre F A, I pre F A → ∀ k, F k → k < A.heap.size)
    (hF0 : ∀ k, F0 k → ¬ S k) (hS : ∀ k, S k → k < w.heap.size) (h0 : I [] F0 w) (a₁ : α → Act)
    (hassign : ∀ (l : Nat) (x : α) (W : World) (K : Act → World → Prop), K (a₁ x) W →
      assign.wpIn (Fence.wide.inRound l) 0 P (Exit.then K (fun _ _ _ => False)) { tmps := (ps.zip (enc x)).foldl (fun t (p, v) => t.setIfInBounds p v) a.tmps, defers := [] } W)
    (hbody : ∀ (l : Nat) (pre : List α) (x : α) (F : Nat → Prop) (A : World), I pre F A → (pre ++ [x]) <+: xs → body.wpIn (Fence.wide.inRound l) 0 P (fun e a' B => e = .normal ∧ ∃ F', I (pre ++ [x]) F' B ∧ StepOn F F' A B) (a₁ x) A)
    (hdone : ∀ (D : Nat) (F' : Nat → Prop) (W' : World), I xs F' W' → Post W' → Framed F0 F' Wr w W' → W'.heap[D]? = some (.deferred (some [])) → w.heap.size ≤ D → ¬ F' D → Q .normal { a with defers := { target := .collected D, args := #[] } :: a.defers } W') :
    (Code.rangeFunc g ps assign body).wp P Q a w := by
  refine (wpIn_wide (n := 0)).1 (wpIn_rangeFunc ?_)
  intro fn hfn
  obtain ⟨rec, hrec⟩ : ∃ rec : LoopState → Option Code → Loop, rec = fun st pe => { state := st, pending := pe, fn, tmps := a.tmps, params := ps, assign, body, defers := w.heap.size } := ⟨_, rfl⟩
  obtain ⟨W1, hW1⟩ : ∃ W1, (w.alloc (.deferred (some []))).alloc (.loop (rec .ready none)) = W1 := ⟨_, rfl⟩
  have hL1 : W1.heap[w.heap.size + 1]? = some (.loop (rec .ready none)) := by
    rw [← hW1]; have := World.alloc_heap_new (w.alloc (.deferred (some []))) (.loop (rec .ready none)); rwa [World.size_alloc] at this
  have hK1 : W1.heap[w.heap.size]? = some (.deferred (some [])) := by
    rw [← hW1]; exact (Below.heap_alloc _ _ _ (by simp)).trans (World.alloc_heap_new w _)
  have hb1 : Below w.heap.size w W1 := by
    rw [← hW1]; exact ((Below.refl _ w).alloc (Nat.le_refl _) _).alloc (by simp) _
  have hsz1 : W1.heap.size = w.heap.size + 2 := by rw [← hW1]; simp
  have hI1 : I [] F0 W1 := hIoff _ _ _ _ h0 ⟨hb1.os, hb1.tape, hb1.output, hb1.size, fun k hk => hb1.block k (hIlt _ _ _ h0 k hk)⟩
  have hout : ∀ k, F0 k → k < w.heap.size := fun k hk => hIlt _ _ _ h0 k hk
  refine ⟨w.heap.size + 1, [{ target := .collected w.heap.size, args := #[] }], W1, { target := .fn (.func gf) lb, args := #[.func (.yield (w.heap.size + 1)) #[] #[]] }, W1, gf,
    #[.func (.yield (w.heap.size + 1)) #[] #[]] ++ lb, W1, ?_, ?_, ?_, ?_, fun h => by simp [Fence.wide] at h, ?_⟩
  · rw [← hW1, hrec]; exact run_enterLoop_outer _ _ _ _ _
  · simp only [resolve, hg]
    simp [go_sem]
  · intro f' hf'; trivial
  · simp [invoke, go_sem, eg]
  · refine callsIn_wide.2 ((hseq W1 hb1 (w.heap.size + 1)
      (fun pre F A => ∃ Fu : Nat → Prop, (∀ k, F k ↔ (Fu k ∨ k = w.heap.size + 1 ∨ k = w.heap.size)) ∧ I pre Fu A ∧ ¬ Fu (w.heap.size + 1) ∧ ¬ Fu w.heap.size ∧ A.heap[w.heap.size + 1]? = some (.loop (rec .ready none)) ∧ A.heap[w.heap.size]? = some (.deferred (some [])) ∧ (∀ k, Fu k → F0 k ∨ w.heap.size ≤ k) ∧ w.heap.size + 2 ≤ A.heap.size)
      (fun k => F0 k ∨ k = w.heap.size + 1 ∨ k = w.heap.size) ?_ ?_ ?_ ?_ ?_).mono ?_)
    · rintro pre F A B ⟨Fu, hF, hi, h1, h2, h3, h4, h5, h6⟩ hst
      exact ⟨Fu, hF, hIoff _ _ _ _ hi ⟨hst.os, hst.tape, hst.output, hst.size, fun k hk => hst.block k ((hF k).2 (.inl hk))⟩, h1, h2, (hst.block _ ((hF _).2 (.inr (.inl rfl)))).trans h3, (hst.block _ ((hF _).2 (.inr (.inr rfl)))).trans h4, h5, Nat.le_trans h6 hst.size⟩
    · rintro pre F A ⟨Fu, hF, hi, h1, h2, h3, h4, h5, h6⟩ k hk
      rcases (hF k).1 hk with h | rfl | rfl
      · exact hIlt _ _ _ hi k h
      · omega
      · omega
    · rintro pre x F A ⟨Fu, hF, hi, h1, h2, h3, h4, h5, h6⟩ hpre
      have hy := run_yield (P := P) (args := (enc x)) h3 (by rw [hrec]; simp [hps])
      rw [hrec] at hy
      have hl2 : (A.putObj (w.heap.size + 1) (.loop { rec .ready none with state := .busy })).heap[w.heap.size + 1]? = some (.loop { rec .ready none with state := .busy }) := World.putObj_heap_same (by omega)
      have hi2 : I pre Fu (A.putObj (w.heap.size + 1) (.loop { rec .ready none with state := .busy })) := hIoff _ _ _ _ hi ⟨rfl, rfl, rfl, by simp, fun k hk => World.putObj_heap_other (fun e => h1 (e ▸ hk))⟩
      refine ⟨fn, _, assign, body, hy, roundIn_of_wpIn trivial (hassign _ x A _ ⟨_, run_beginRound h3 (by rw [hrec]), ?_⟩)⟩
      refine wpIn_mono (hbody _ pre x Fu _ hi2 hpre) ?_
      rintro e a3 B ⟨rfl, Fu', hi3, hon⟩
      have hl3 : B.heap[w.heap.size + 1]? = some (.loop { rec .ready none with state := .busy }) := (hon.block _ (by simp; omega) h1).trans hl2
      have hd3 : B.heap[w.heap.size]? = some (.deferred (some [])) := ((hon.block _ (by simp; omega) h2).trans (World.putObj_heap_other (by omega))).trans h4
      have hsB : A.heap.size ≤ B.heap.size := by have := hon.size; simpa using this
      have hend := run_endRound (P := P) none hl3
      have n1 : ¬ Fu' (w.heap.size + 1) := fun e => by
        rcases hon.foot _ e with h | h
        · exact h1 h
        · simp at h; omega
      have n2 : ¬ Fu' w.heap.size := fun e => by
        rcases hon.foot _ e with h | h
        · exact h2 h
        · simp at h; omega
      obtain ⟨r2, hr2⟩ : ∃ r2 : Loop, r2 = { ({ rec .ready none with state := .busy } : Loop) with state := if (none : Option Code).isNone then .ready else .done, pending := none } := ⟨_, rfl⟩
      have hr3 : r2 = rec .ready none := by rw [hr2, hrec]; rfl
      rw [← hr2, hr3] at hend
      refine ⟨_, _, hend, rfl, fun k => Fu' k ∨ k = w.heap.size + 1 ∨ k = w.heap.size, ⟨Fu', fun _ => Iff.rfl, hIoff _ _ _ _ hi3 ⟨rfl, rfl, rfl, by simp, fun k hk => World.putObj_heap_other (fun e => n1 (e ▸ hk))⟩, n1, n2, World.putObj_heap_same (by omega), (World.putObj_heap_other (by omega)).trans hd3, fun k hk => ?_, by simp; omega⟩, ?_⟩
      · rcases hon.foot k hk with h | h
        · exact h5 k h
        · simp at h; right; omega
      · refine ⟨hon.os, hon.tape, hon.output, by simpa using hsB, fun k hk hn => ?_, fun k hk => ?_⟩
        · have hk1 : k ≠ w.heap.size + 1 := fun e => hn ((hF k).2 (.inr (.inl e)))
          have hk2 : ¬ Fu k := fun e => hn ((hF k).2 (.inl e))
          exact (World.putObj_heap_other hk1).trans ((hon.block k (by simpa using hk) hk2).trans (World.putObj_heap_other hk1))
        · rcases hk with h | h
          · rcases hon.foot k h with h' | h'
            · exact .inl ((hF k).2 (.inl h'))
            · exact .inr (by simpa using h')
          · exact .inl ((hF k).2 (.inr h))
    · rintro k (h | rfl | rfl)
      · exact hF0 k h
      · intro e; have := hS _ e; omega
      · intro e; have := hS _ e; omega
    · exact ⟨F0, fun _ => Iff.rfl, hI1, fun e => by have := hout _ e; omega, fun e => by have := hout _ e; omega, hL1, hK1, fun k hk => .inl hk, by omega⟩
    · rintro e W2 ⟨⟨v, rfl⟩, F', ⟨Fu, hF, hi, h1, h2, h3, h4, h5, h6⟩, hp, hfr⟩
      have hend := run_endLoop (P := P) h3 (by rw [hrec]; simp)
      rw [hrec] at hend
      refine ⟨none, _, hend, hdone w.heap.size Fu _ (hIoff _ _ _ _ hi ⟨rfl, rfl, rfl, by simp, fun k hk => World.putObj_heap_other (fun e => h1 (e ▸ hk))⟩) (hPost _ _ hp (by simp) (fun k hk => World.putObj_heap_other (by omega))) ?_ ((World.putObj_heap_other (by omega)).trans h4) (Nat.le_refl _) h2⟩
      refine ⟨hfr.os.trans hb1.os, hfr.tape.trans hb1.tape, hfr.output.trans hb1.output, by have := hfr.size; simp; omega, fun k hk hn hw => ?_, fun k hk => h5 k hk⟩
      exact (World.putObj_heap_other (by omega)).trans ((hfr.block k (by omega) (fun e => by
        rcases e with e | e | e
        · exact hn e
        · omega
        · omega) hw).trans (hb1.block k hk))
end Go.Proofs.Ytoplllebaagnnaa
namespace Go.Proofs.Ytoplllebaagnnaa
set_option linter.unusedVariables false
set_option linter.unusedSimpArgs false
open Go.RowKit Go.Shelf

attribute [local go_sem] Oper.semAt_some

def backL (l : List Int) : List (Nat × Int) := (List.range l.length).reverse.map fun i => (i, l.getD i 0)
theorem backL_len (l : List Int) : (backL l).length = l.length := by simp [backL]
theorem backL_at (l : List Int) (j : Nat) (hj : 0 < j) (hl : j ≤ l.length) : (backL l)[l.length - j]? = some (j - 1, l.getD (j - 1) 0) := by
  unfold backL
  rw [List.getElem?_map, List.getElem?_reverse (by simp; omega), List.length_range, List.getElem?_range (by omega)]
  have e : l.length - 1 - (l.length - j) = j - 1 := by omega
  rw [e]
  rfl
theorem backL_snd (l : List Int) : (backL l).map (·.2) = l.reverse := by
  unfold backL
  rw [List.map_map, List.map_reverse]
  congr 1
  refine List.ext_getElem? fun i => ?_
  rw [List.getElem?_map]
  by_cases h : i < l.length
  · rw [List.getElem?_range h]
    simp [List.getD, h]
  · rw [List.getElem?_eq_none (by simp; omega), List.getElem?_eq_none (by omega)]
    rfl
def encB (p : Nat × Int) : Array Value := #[.int .i64 (p.1 : Int), .int .i64 p.2]
theorem enters_backward : ∀ args w, (callFunc 71 args).run Try.prog w = .ok (.enter 71 args) w := enters_of Try.func71 (by kernel_rfl) rfl

set_option maxRecDepth 100000 in
theorem backward_g (A : Option Addr) (n c : Nat) (w : World) :
    Calls Try.prog 53 #[.slice A n c] w fun e w' => e = .returned (.func (.func 71) #[] #[.pointer (some ⟨w.heap.size, 0, none⟩)]) ∧ Below w.heap.size w w' ∧ w'.heap.size = w.heap.size + 1 ∧ w'.heap[w.heap.size]? = some (.cells #[.slice A n c] 23 (0, 0)) := by
  obtain ⟨W, hW, hbW, hzW, h0W⟩ := gr_one w #[.slice A n c] 23
  have hmf : ∀ (fn : Fn) (first cap : Array Value) (w : World), (Instr.makeFunc fn first cap).run Try.prog w = .ok (.func fn first cap) w := fun _ _ _ _ => rfl
  have H := Lib.hid (And.intro hbW (And.intro hzW h0W))
  have HW := Lib.hid hW
  clear hbW hzW h0W hW
  go_enter Try.func53, Try.ntmps53
  go_upto_region 1 with fail
  rw [← HW.out]
  go_wp2
  go_ret
  exact ⟨rfl, H.out⟩

set_option maxRecDepth 100000 in
set_option maxHeartbeats 4000000 in
theorem backward_sep (bx : Nat) (A : Option Addr) (m c : Nat) (l : List Int) (S : Nat → Prop) (W : World) (hbx : W.cell? ⟨bx, 0, none⟩ = some (.slice A m c)) (hml : m = l.length) (hm : m ≤ 1048576)
    (hrow : 0 < m → ∃ rb, A = some ⟨rb, 0, none⟩ ∧ S rb ∧ ∀ j, j < m → W.cell? ⟨rb, j, none⟩ = some (.int .i64 (l.getD j 0))) (hsx : S bx) (hSl : ∀ k, S k → k < W.heap.size) :
    SepGivs Try.prog 71 #[.pointer (some ⟨bx, 0, none⟩)] encB (backL l) S NoW (fun _ => True) W := by
  intro y J F0 hJoff hJlt hJ hF0 h0
  have hS0 : ∀ k, S k → ¬ F0 k := fun k hk e => hF0 k e hk
  have Hml := Lib.hid hml
  have Hbx := Lib.hid hbx
  have Hsx := Lib.hid hsx
  have Hrow := Lib.hid hrow
  have HJ := Lib.hid hJ
  have HS0 := Lib.hid hS0
  have HSl := Lib.hid hSl
  have H0 : Hid (J ((backL l).take (m - m)) F0 W) := Lib.hid (by rw [Nat.sub_self]; exact h0)
  clear hml hrow hJ hJlt hJoff hS0 hF0 h0 hSl hsx
  have HR0 : Hid (Framed F0 F0 NoW W W) := Lib.hid (Framed.refl _ _ _)
  change Calls _ _ #[.func (.yield y) #[] #[], .pointer (some ⟨bx, 0, none⟩)] _ _
  go_enter Try.func71, Try.ntmps71
  go_upto_region 1 with fail
  clear hbx
  go_loopw [3] (fun u3 wr => ∃ (j : Nat) (F : Nat → Prop), j ≤ m ∧ u3 = .int .i64 ((j : Int) - 1) ∧ Hid (J ((backL l).take (m - j)) F wr) ∧ Hid (Framed F0 F NoW W wr) ∧ Hid (∀ k, S k → ¬ F k)) (fun u3 _ => (intOf u3 + 1).toNat)
  case atStart => exact ⟨m, F0, Nat.le_refl _, rfl, H0, HR0, HS0⟩
  case round =>
    clear H0 HR0
    obtain ⟨j, F, hj, rfl, HJi, HR, HF⟩ := hrel
    cases j with
    | zero =>
      go_wp2
      go_end0
      refine ⟨⟨_, rfl⟩, F, ?_, trivial, HR.out⟩
      have := HJi.out
      rw [Nat.sub_zero, Hml.out, ← backL_len l, List.take_length] at this
      exact this
    | succ j =>
      obtain ⟨rb, rfl, hSr, hcell⟩ := Hrow.out (by omega)
      have hj1 : (((j + 1 : Nat) : Int) - 1) = (j : Int) := by omega
      have hb := HR.out.cell Hsx.out HS0.out HSl.out Hbx.out
      have hc := HR.out.cell hSr HS0.out HSl.out (hcell j (by omega))
      have hat := backL_at l (j + 1) (by omega) (by rw [← Hml.out]; exact hj)
      rw [← Hml.out, Nat.add_sub_cancel] at hat
      obtain ⟨x, hx⟩ : ∃ x, x = l.getD j 0 := ⟨_, rfl⟩
      rw [← hx] at hc hat
      have hst : (backL l).take (m - j) = (backL l).take (m - (j + 1)) ++ [(j, x)] := by
        have h1 : m - j = (m - (j + 1)) + 1 := by omega
        have hlt := (List.getElem?_eq_some_iff.1 hat).1
        have he := (List.getElem?_eq_some_iff.1 hat).2
        rw [h1, List.take_succ_eq_append_getElem hlt, he]
      obtain ⟨fn, tmps, assign, body, hy, hR⟩ := HJ.out ((backL l).take (m - (j + 1))) (j, x) F wr HJi.out (by rw [← hst]; exact List.take_prefix _ _)
      have Hst := Lib.hid hst
      have HR2 := Lib.hid hR
      rw [hj1]
      clear hx hst hR hat hcell hj1
      go_upto_region 3 with fail
      refine (wpIn_wide (n := 0)).1 ?_
      unfold encB at hy
      dsimp only at hy
      gi_wp2
      refine ⟨rfl, HR2.out.mono ?_⟩
      rintro e W3 ⟨rfl, F', hJ3, hon⟩
      have HJ3 := Lib.hid hJ3
      have HR3 := Lib.hid (HR.out.on hon)
      have HF3 := Lib.hid (apart_on HF.out (fun k hk => Nat.lt_of_lt_of_le (HSl.out k hk) HR.out.size) hon)
      clear hJ3 hon hy HR2 hb hc
      dsimp only
      gi_wp2
      go_wp2
      go_roundw
      case rel => exact ⟨j, F', by omega, by go_num, Lib.hid (by rw [Hst.out]; exact HJ3.out), HR3, HF3⟩
      case measure => first | (simp [intOf]; done) | (simp [intOf]; omega)
end Go.Proofs.Ytoplllebaagnnaa
namespace Go.Proofs.Ytoplllebaagnnaa
set_option linter.unusedVariables false
set_option linter.unusedSimpArgs false
open Go.RowKit Go.Shelf

/-- The chain from x on, but for its last two. -/
def chainP (above : List Int) : Nat → Int → Option (List Int)
  | 0, _ => none
  | k + 1, x => (rdI above x).bind fun a => if a = -1 then some [] else (rdI above a).bind fun aa => if aa = -1 then some [] else (chainP above k a).map (x :: ·)
/-- It is made shorter. -/
def cmpP (early : List Int) : List Int → List Int → List Int → Option (List Int × List Int)
  | [], ab, be => some (ab, be)
  | x :: xs, ab, be => (rdI ab x).bind fun a => (rdI be a).bind fun ba => (rdI early ba).bind fun ea => (rdI be x).bind fun bx => (rdI early bx).bind fun ex => (rdI ab a).bind fun aa =>
      cmpP early xs (ab.set x.toNat aa) (if ea < ex then be.set x.toNat ba else be)
def leastP (early above best : List Int) (k : Nat) (b : Int) : Option (List Int × List Int × Int) :=
  (chainP above k b).bind fun p => (cmpP early p.reverse above best).bind fun r => (rdI r.2 b).map fun v => (r.1, r.2, v)
def sl (b m : Nat) : Value := .slice (some ⟨b, 0, none⟩) m m
/-- A block beside the family. -/
structure Fx (w : World) (E : Nat) (F : Nat → GRw) (b : Nat) (o : Obj) : Prop where
  at_ : w.heap[b]? = some o
  ne : ∀ k, (F k).v.ownBlock ≠ some b
  nE : b ≠ E
theorem Fx.keep {w w' : World} {E b : Nat} {F : Nat → GRw} {o : Obj} (h : Fx w E F b o) (hb : Below w.heap.size w w') : Fx w' E F b o := ⟨(hb.block b (gr_in h.at_)).trans h.at_, h.ne, h.nE⟩
theorem Fx.grown {w w' : World} {E b : Nat} {F : Nat → GRw} {o : Obj} (h : Fx w E F b o) (k : Nat) (hg : w.grownBy w' (F k).v.ownBlock) (r : GRw) (hat : ∀ g, r.v.ownBlock = some g → (F k).v.ownBlock = some g ∨ w.heap.size ≤ g) : Fx w' E (upG F k r) b o := by
  refine ⟨(hg.block b (gr_in h.at_) (fun e => h.ne k e.symm)).trans h.at_, fun j => ?_, h.nE⟩
  by_cases hj : j = k
  · subst hj
    rw [upG_at]
    intro e
    rcases hat b e with h1 | h1
    · exact h.ne j h1
    · have := gr_in h.at_; omega
  · rw [upG_off _ _ _ _ hj]; exact h.ne j
theorem Fx.put {w : World} {E b : Nat} {F : Nat → GRw} {o : Obj} (h : Fx w E F b o) {k g : Nat} (hk : (F k).v.ownBlock = some g) (j : Nat) (u : Value) (r : GRw) (hr : r.v.ownBlock = some g) : Fx (w.setCell ⟨g, j, none⟩ u) E (upG F k r) b o := by
  refine ⟨(Below.heap_setCell _ _ _ _ (fun e => h.ne k (by rw [hk]; exact congrArg some e.symm))).trans h.at_, fun i => ?_, h.nE⟩
  by_cases hi : i = k
  · subst hi; rw [upG_at, hr, ← hk]; exact h.ne i
  · rw [upG_off _ _ _ _ hi]; exact h.ne i
theorem Fx.field {w : World} {E b : Nat} {F : Nat → GRw} {o : Obj} (h : Fx w E F b o) (j : Nat) (u : Value) : Fx (w.setCell ⟨E, j, none⟩ u) E F b o := ⟨(Below.heap_setCell _ _ _ _ (fun e => h.nE e)).trans h.at_, h.ne, h.nE⟩

/-- The search, as it lies. -/
structure LsS (base sp m : Nat) (w : World) (bu be ba bb : Nat) (PV : Value) (path up early above best : List Int) (F : Nat → GRw) : Prop where
  sq : Sq 103 w base sp F [sl bu m, sl be m, sl ba m, sl bb m, PV]
  f0 : F 0 = wholeR bu up
  f1 : F 1 = wholeR be early
  f2 : F 2 = wholeR ba above
  f3 : F 3 = wholeR bb best
  f4 : F 4 = intR PV path
  l0 : up.length = m
  l1 : early.length = m
  l2 : above.length = m
  l3 : best.length = m
  mb : m ≤ 1048576
theorem LsS.keep {base sp m : Nat} {w w' : World} {bu be ba bb : Nat} {PV : Value} {path up early above best : List Int} {F : Nat → GRw} (h : LsS base sp m w bu be ba bb PV path up early above best F) (hb : Below w.heap.size w w') : LsS base sp m w' bu be ba bb PV path up early above best F := { h with sq := h.sq.keep hb }
/-- Its path is another one now. -/
theorem LsS.path_ {base sp m : Nat} {w w' : World} {bu be ba bb : Nat} {PV PV' : Value} {path path' up early above best : List Int} {F : Nat → GRw} (h : LsS base sp m w bu be ba bb PV path up early above best F) (hg : w.grownBy w' PV.ownBlock) (ho : w'.ownsRow base 3 1 PV' path'.length (intsV path')) (hat : ∀ g, PV'.ownBlock = some g → PV.ownBlock = some g ∨ w.heap.size ≤ g) :
    LsS base sp m (w'.setCell ⟨sp, 4, none⟩ PV') bu be ba bb PV' path' up early above best (upG F 4 (intR PV' path')) ∧ Below base w (w'.setCell ⟨sp, 4, none⟩ PV') ∧ Sq 103 w' base sp (upG F 4 (intR PV' path')) [sl bu m, sl be m, sl ba m, sl bb m, PV] ∧ (∀ b o, Fx w sp F b o → Fx w' sp (upG F 4 (intR PV' path')) b o) := by
  have hg0 : w.grownBy w' (F 4).v.ownBlock := by rw [h.f4]; exact hg
  have hat0 : ∀ g, (intR PV' path').v.ownBlock = some g → (F 4).v.ownBlock = some g ∨ w.heap.size ≤ g := fun g e => by rw [h.f4]; exact hat g e
  have h1 := h.sq.grown 4 hg0 (intR PV' path') ho hat0
  refine ⟨⟨h1.field 4 PV', ?_, ?_, ?_, ?_, upG_at _ _ _, h.l0, h.l1, h.l2, h.l3, h.mb⟩, (h.sq.b_grown 4 hg0).trans (h1.b_field 4 _), h1, fun b o hx => hx.grown 4 hg0 _ hat0⟩
  · rw [upG_off _ _ _ _ (by omega)]; exact h.f0
  · rw [upG_off _ _ _ _ (by omega)]; exact h.f1
  · rw [upG_off _ _ _ _ (by omega)]; exact h.f2
  · rw [upG_off _ _ _ _ (by omega)]; exact h.f3
theorem LsS.r0 {base sp m : Nat} {w : World} {bu be ba bb : Nat} {PV : Value} {path up early above best : List Int} {F : Nat → GRw} (h : LsS base sp m w bu be ba bb PV path up early above best F) : IRow w bu up ∧ IRow w be early ∧ IRow w ba above ∧ IRow w bb best := ⟨h.sq.whole h.f0, h.sq.whole h.f1, h.sq.whole h.f2, h.sq.whole h.f3⟩
theorem LsS.apart {base sp m : Nat} {w : World} {bu be ba bb : Nat} {PV : Value} {path up early above best : List Int} {F : Nat → GRw} (h : LsS base sp m w bu be ba bb PV path up early above best F) : be ≠ ba ∧ be ≠ bb ∧ ba ≠ bb ∧ bu ≠ be ∧ bu ≠ ba ∧ bu ≠ bb ∧ sp ≠ bu ∧ sp ≠ be ∧ sp ≠ ba ∧ sp ≠ bb := by
  have n : ∀ i j bi bj li lj, i ≠ j → F i = wholeR bi li → F j = wholeR bj lj → bi ≠ bj := fun i j bi bj li lj hij hi hj e => by
    rcases h.sq.fam.ne i j hij with q | q
    · rw [hi] at q; simp [wholeR, Value.ownBlock] at q
    · rw [hi, hj] at q; exact q (by simp [wholeR, Value.ownBlock, e])
  have s : ∀ i bi li, F i = wholeR bi li → sp ≠ bi := fun i bi li hi e => by
    have := h.sq.fam.av i
    rw [hi] at this
    exact this (by simp [wholeR, Value.ownBlock, e])
  exact ⟨n 1 2 _ _ _ _ (by omega) h.f1 h.f2, n 1 3 _ _ _ _ (by omega) h.f1 h.f3, n 2 3 _ _ _ _ (by omega) h.f2 h.f3, n 0 1 _ _ _ _ (by omega) h.f0 h.f1, n 0 2 _ _ _ _ (by omega) h.f0 h.f2, n 0 3 _ _ _ _ (by omega) h.f0 h.f3, s 0 _ _ h.f0, s 1 _ _ h.f1, s 2 _ _ h.f2, s 3 _ _ h.f3⟩
/-- The path without its numbers. -/
theorem path_cut {w : World} {base n : Nat} {PV : Value} {xs : List Value} (h : w.ownsRow base 3 1 PV n xs) : ∃ V0 : Value, (∀ W, (Instr.slice 23 PV none (some (.int .i64 0)) none).run Try.prog W = .ok V0 W) ∧ w.ownsRow base 3 1 V0 0 [] ∧ (∀ g, V0.ownBlock = some g → PV.ownBlock = some g) := by
  rcases h.2 with ⟨rfl, h0⟩ | ⟨g, cap, cur, rfl, hb, hg, hnc, hcm, hcs, ht⟩
  · refine ⟨.slice none 0 0, fun W => ?_, World.ownsRow_nil _ _ _ _, fun g e => by simp [Value.ownBlock] at e⟩
    rw [run_slice_h W 23 none 0 0 (by simp [Program.elem, Try.underlying23]) .i64 0 (by omega) (by omega)]
    go_simp
  · refine ⟨.slice (some ⟨g, 0, none⟩) 0 cap, fun W => ?_, ?_, fun g' e => e⟩
    · rw [run_slice_h W 23 (some ⟨g, 0, none⟩) n cap (by simp [Program.elem, Try.underlying23]) .i64 0 (by omega) (by omega)]
      go_simp
    · have := gr_cut h 0 (Nat.zero_le _)
      simpa using this
/-- Nothing is put off. -/
def noDefer (ops : Array Oper) : Bool := ops.all fun o => match o.op with | .defer _ => false | _ => true
theorem noDefer_spec {ops : Array Oper} (h : noDefer ops = true) : ∀ (i : Nat) o, ops[i]? = some o → ∀ c, o.op ≠ .defer c := by
  intro i o ho c e
  have hm := Array.mem_of_getElem? ho
  have h1 := (Array.all_eq_true_iff_forall_mem.1 h) o hm
  rw [e] at h1
  cases h1
theorem wp_range_back {P : Program} {g : Operand} {p1 p2 q : Tmp} {assign body : Code} {Q : Exit → Act → World → Prop} {a : Act} {w : World} {gf : Nat} {lb : Array Value}
    (hg : a.eval g = .func (.func gf) #[] lb) (eg : ∀ args w, (callFunc gf args).run P w = .ok (.enter gf args) w)
    {xs : List (Nat × Int)} {S Wr : Nat → Prop} (hseq : ∀ W1, Below w.heap.size w W1 → SepGivs P gf lb encB xs S Wr (fun _ => True) W1)
    (I : List (Nat × Int) → (Nat → Prop) → World → Prop) (F0 : Nat → Prop)
    (hIoff : ∀ pre F A B, I pre F A → StepOff F A B → I pre F B) (hIlt : ∀ pre F A, I pre F A → ∀ k, F k → k < A.heap.size)
    (hF0 : ∀ k, F0 k → ¬ S k) (hS : ∀ k, S k → k < w.heap.size) (h0 : I [] F0 w)
    (hassign : ∀ (l : Nat) (x : Nat × Int) (W : World) (K : Act → World → Prop), K { tmps := ((a.tmps.setIfInBounds p1 (.int .i64 (x.1 : Int))).setIfInBounds p2 (.int .i64 x.2)).setIfInBounds q (.int .i64 x.2), defers := [] } W →
      assign.wpIn (Fence.wide.inRound l) 0 P (Exit.then K (fun _ _ _ => False)) { tmps := (a.tmps.setIfInBounds p1 (.int .i64 (x.1 : Int))).setIfInBounds p2 (.int .i64 x.2), defers := [] } W)
    (hbody : ∀ (l : Nat) (pre : List (Nat × Int)) (x : Nat × Int) (F : Nat → Prop) (A : World), I pre F A → (pre ++ [x]) <+: xs → body.wpIn (Fence.wide.inRound l) 0 P (fun e a' B => e = .normal ∧ ∃ F', I (pre ++ [x]) F' B ∧ StepOn F F' A B) { tmps := ((a.tmps.setIfInBounds p1 (.int .i64 (x.1 : Int))).setIfInBounds p2 (.int .i64 x.2)).setIfInBounds q (.int .i64 x.2), defers := [] } A)
    (hdone : ∀ (D : Nat) (F' : Nat → Prop) (W' : World), I xs F' W' → Framed F0 F' Wr w W' → W'.heap[D]? = some (.deferred (some [])) → w.heap.size ≤ D → ¬ F' D → Q .normal { a with defers := { target := .collected D, args := #[] } :: a.defers } W') :
    (Code.rangeFunc g #[p1, p2] assign body).wp P Q a w :=
  wp_range_sepv hg eg hseq (fun _ => rfl) (fun _ _ _ _ _ => trivial) I F0 hIoff hIlt hF0 hS h0 (fun x => { tmps := ((a.tmps.setIfInBounds p1 (.int .i64 (x.1 : Int))).setIfInBounds p2 (.int .i64 x.2)).setIfInBounds q (.int .i64 x.2), defers := [] }) (fun l x W K hK => by
    have := hassign l x W K hK
    simpa [encB] using this) hbody (fun D F' W' h1 _ h3 h4 h5 h6 => hdone D F' W' h1 h3 h4 h5 h6)
theorem own_same {w w' : World} {base : Nat} {T : TypeId} {z n : Nat} {v : Value} {xs : List Value} (h : w.ownsRow base T z v n xs) (hs : ∀ g, v.ownBlock = some g → w'.heap[g]? = w.heap[g]?) : w'.ownsRow base T z v n xs := by
  refine ⟨h.1, ?_⟩
  rcases h.2 with q | ⟨g, cap, cur, hv, q2, q3, rest⟩
  · exact .inl q
  · exact .inr ⟨g, cap, cur, hv, q2, (hs g (by rw [hv]; rfl)).trans q3, rest⟩
/-- Behind the rounds. -/
theorem LsS.after {base sp m bx : Nat} {w Wf : World} {bu be ba bb : Nat} {PV : Value} {path up early above best ab bst : List Int} {F : Nat → GRw} {o : Obj} (h : LsS base sp m w bu be ba bb PV path up early above best F) (hx : Fx w sp F bx o) (hz : w.heap.size ≤ Wf.heap.size)
    (hk : ∀ k, k < w.heap.size → ¬ (k = bx ∨ k = sp ∨ k = be ∨ k = ba ∨ k = bb) → Wf.heap[k]? = w.heap[k]?) (hsp : Wf.heap[sp]? = w.heap[sp]?) (hbe : Wf.heap[be]? = w.heap[be]?) (hba : IRow Wf ba ab) (hbb : IRow Wf bb bst) (hla : ab.length = m) (hlb : bst.length = m) :
    LsS base sp m Wf bu be ba bb PV path up early ab bst (upG (upG F 2 (wholeR ba ab)) 3 (wholeR bb bst)) := by
  have hown : ∀ k, k ≠ 2 → k ≠ 3 → Wf.ownsRow base (F k).T (F k).z (F k).v (F k).n (F k).xs := fun k h2 h3 => by
    refine own_same (h.sq.fam.own k) (fun g hg => ?_)
    by_cases h1 : g = be
    · subst h1; exact hbe
    · refine hk g ((h.sq.fam.own k).lt g hg).2 ?_
      rintro (e | e | e | e | e)
      · subst e; exact hx.ne k hg
      · subst e; exact h.sq.fam.av k hg
      · exact h1 e
      · subst e
        rcases h.sq.fam.ne k 2 h2 with q | q
        · rw [hg] at q; cases q
        · rw [hg, h.f2] at q; exact q rfl
      · subst e
        rcases h.sq.fam.ne k 3 h3 with q | q
        · rw [hg] at q; cases q
        · rw [hg, h.f3] at q; exact q rfl
  have hb2 : base ≤ ba := by have := ((h.sq.fam.own 2).lt ba (by rw [h.f2]; rfl)).1; exact this
  have hb3 : base ≤ bb := by have := ((h.sq.fam.own 3).lt bb (by rw [h.f3]; rfl)).1; exact this
  have v2 : ∀ r : List Int, (upG (upG F 2 (wholeR ba ab)) 3 (wholeR bb r)) 2 = wholeR ba ab := fun r => by rw [upG_off _ _ _ _ (by omega), upG_at]
  have hv : ∀ k, ((upG (upG F 2 (wholeR ba ab)) 3 (wholeR bb bst)) k).v.ownBlock = (F k).v.ownBlock := fun k => by
    by_cases e3 : k = 3
    · subst e3; rw [upG_at, h.f3]; rfl
    · rw [upG_off _ _ _ _ e3]
      by_cases e2 : k = 2
      · subst e2; rw [upG_at, h.f2]; rfl
      · rw [upG_off _ _ _ _ e2]
  refine ⟨⟨⟨Nat.lt_of_lt_of_le h.sq.fam.el hz, fun k => by rw [hv]; exact h.sq.fam.av k, fun k => ?_, fun k l hkl => by rw [hv, hv]; exact h.sq.fam.ne k l hkl⟩, hsp.trans h.sq.box, h.sq.bE, Nat.le_trans h.sq.hb hz⟩, ?_, ?_, v2 _, upG_at _ _ _, ?_, h.l0, h.l1, hla, hlb, h.mb⟩
  · by_cases e3 : k = 3
    · subst e3; rw [upG_at]; exact hbb.own rfl hb3 (by rw [hlb]; exact h.mb)
    · rw [upG_off _ _ _ _ e3]
      by_cases e2 : k = 2
      · subst e2; rw [upG_at]; exact hba.own rfl hb2 (by rw [hla]; exact h.mb)
      · rw [upG_off _ _ _ _ e2]; exact hown k e2 e3
  · rw [upG_off _ _ _ _ (by omega), upG_off _ _ _ _ (by omega)]; exact h.f0
  · rw [upG_off _ _ _ _ (by omega), upG_off _ _ _ _ (by omega)]; exact h.f1
  · rw [upG_off _ _ _ _ (by omega), upG_off _ _ _ _ (by omega)]; exact h.f4
end Go.Proofs.Ytoplllebaagnnaa
