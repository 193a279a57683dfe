/-
  A range over a function that yields several values at once: as in the text of one value.
  slices.Backward over a row of numbers.
-/
import Derived.Test.YtglobeajmdieaaaJe15
import Derived.Test.YtglobeajmdieaaaJe26
namespace Go.Proofs.Ytglobeajmdieaaa
set_option linter.unusedVariables false
set_option linter.unusedSimpArgs false
open Go.RowKit Go.Shelf

def SepGivs {α : Type} (P : Program) (g : Nat) (lb : Array Value) (enc : α → Array Value) (xs : List α) (S Wr : Nat → Prop) (Post : World → Prop) (W : World) : Prop :=
  ∀ (l : Nat) (J : List α → (Nat → Prop) → World → Prop) (F0 : Nat → Prop),
    (∀ pre F A B, J pre F A → StepOff F A B → J pre F B) →
    (∀ pre F A, J pre F A → ∀ k, F k → k < A.heap.size) →
    (∀ pre x F A, J pre F A → (pre ++ [x]) <+: xs → YieldAt Fence.wide 0 P l (enc x) A fun e B => e = .returned (.bool true) ∧ ∃ F', J (pre ++ [x]) F' B ∧ StepOn F F' A B) →
    (∀ k, F0 k → ¬ S k) → J [] F0 W →
    Calls P g (#[.func (.yield l) #[] #[]] ++ lb) W fun e W' => (∃ v, e = .returned v) ∧ ∃ F', J xs F' W' ∧ Post W' ∧ Framed F0 F' Wr W W'

theorem wp_range_sepv {P : Program} {α : Type} {g : Operand} {ps : Array Tmp} {assign body : Code} {Q : Exit → Act → World → Prop} {a : Act} {w : World} {gf : Nat} {lb : Array Value}
    (hg : a.eval g = .func (.func gf) #[] lb) (eg : ∀ args w, (callFunc gf args).run P w = .ok (.enter gf args) w)
    {enc : α → Array Value} {xs : List α} {S Wr : Nat → Prop} {Post : World → Prop} (hseq : ∀ W1, Below w.heap.size w W1 → SepGivs P gf lb enc xs S Wr Post W1) (hps : ∀ x, (enc x).size = ps.size)
    (hPost : ∀ A B : World, Post A → A.heap.size ≤ B.heap.size → (∀ k, k < w.heap.size → B.heap[k]? = A.heap[k]?) → Post B)
    (I : List α → (Nat → Prop) → World → Prop) (F0 : Nat → Prop)
    (hIoff : ∀ pre F A B, I pre F A → StepOff F A B → I pre F B) (hIlt : ∀ pre F A, I pre F A → ∀ k, F k → k < A.heap.size)
    (hF0 : ∀ k, F0 k → ¬ S k) (hS : ∀ k, S k → k < w.heap.size) (h0 : I [] F0 w) (a₁ : α → Act)
    (hassign : ∀ (l : Nat) (x : α) (W : World) (K : Act → World → Prop), K (a₁ x) W →
      assign.wpIn (Fence.wide.inRound l) 0 P (Exit.then K (fun _ _ _ => False)) { tmps := (ps.zip (enc x)).foldl (fun t (p, v) => t.setIfInBounds p v) a.tmps, defers := [] } W)
    (hbody : ∀ (l : Nat) (pre : List α) (x : α) (F : Nat → Prop) (A : World), I pre F A → (pre ++ [x]) <+: xs → body.wpIn (Fence.wide.inRound l) 0 P (fun e a' B => e = .normal ∧ ∃ F', I (pre ++ [x]) F' B ∧ StepOn F F' A B) (a₁ x) A)
    (hdone : ∀ (D : Nat) (F' : Nat → Prop) (W' : World), I xs F' W' → Post W' → Framed F0 F' Wr w W' → W'.heap[D]? = some (.deferred (some [])) → w.heap.size ≤ D → ¬ F' D → Q .normal { a with defers := { target := .collected D, args := #[] } :: a.defers } W') :
    (Code.rangeFunc g ps assign body).wp P Q a w := by
  refine (wpIn_wide (n := 0)).1 (wpIn_rangeFunc ?_)
  intro fn hfn
  obtain ⟨rec, hrec⟩ : ∃ rec : LoopState → Option Code → Loop, rec = fun st pe => { state := st, pending := pe, fn, tmps := a.tmps, params := ps, assign, body, defers := w.heap.size } := ⟨_, rfl⟩
  obtain ⟨W1, hW1⟩ : ∃ W1, (w.alloc (.deferred (some []))).alloc (.loop (rec .ready none)) = W1 := ⟨_, rfl⟩
  have hL1 : W1.heap[w.heap.size + 1]? = some (.loop (rec .ready none)) := by
    rw [← hW1]; have := World.alloc_heap_new (w.alloc (.deferred (some []))) (.loop (rec .ready none)); rwa [World.size_alloc] at this
  have hK1 : W1.heap[w.heap.size]? = some (.deferred (some [])) := by
    rw [← hW1]; exact (Below.heap_alloc _ _ _ (by simp)).trans (World.alloc_heap_new w _)
  have hb1 : Below w.heap.size w W1 := by
    rw [← hW1]; exact ((Below.refl _ w).alloc (Nat.le_refl _) _).alloc (by simp) _
  have hsz1 : W1.heap.size = w.heap.size + 2 := by rw [← hW1]; simp
  have hI1 : I [] F0 W1 := hIoff _ _ _ _ h0 ⟨hb1.os, hb1.tape, hb1.output, hb1.size, fun k hk => hb1.block k (hIlt _ _ _ h0 k hk)⟩
  have hout : ∀ k, F0 k → k < w.heap.size := fun k hk => hIlt _ _ _ h0 k hk
  refine ⟨w.heap.size + 1, [{ target := .collected w.heap.size, args := #[] }], W1, { target := .fn (.func gf) lb, args := #[.func (.yield (w.heap.size + 1)) #[] #[]] }, W1, gf,
    #[.func (.yield (w.heap.size + 1)) #[] #[]] ++ lb, W1, ?_, ?_, ?_, ?_, fun h => by simp [Fence.wide] at h, ?_⟩
  · rw [← hW1, hrec]; exact run_enterLoop_outer _ _ _ _ _
  · simp only [resolve, hg]
    simp [go_sem]
  · intro f' hf'; trivial
  · simp [invoke, go_sem, eg]
  · refine callsIn_wide.2 ((hseq W1 hb1 (w.heap.size + 1)
      (fun pre F A => ∃ Fu : Nat → Prop, (∀ k, F k ↔ (Fu k ∨ k = w.heap.size + 1 ∨ k = w.heap.size)) ∧ I pre Fu A ∧ ¬ Fu (w.heap.size + 1) ∧ ¬ Fu w.heap.size ∧ A.heap[w.heap.size + 1]? = some (.loop (rec .ready none)) ∧ A.heap[w.heap.size]? = some (.deferred (some [])) ∧ (∀ k, Fu k → F0 k ∨ w.heap.size ≤ k) ∧ w.heap.size + 2 ≤ A.heap.size)
      (fun k => F0 k ∨ k = w.heap.size + 1 ∨ k = w.heap.size) ?_ ?_ ?_ ?_ ?_).mono ?_)
    · rintro pre F A B ⟨Fu, hF, hi, h1, h2, h3, h4, h5, h6⟩ hst
      exact ⟨Fu, hF, hIoff _ _ _ _ hi ⟨hst.os, hst.tape, hst.output, hst.size, fun k hk => hst.block k ((hF k).2 (.inl hk))⟩, h1, h2, (hst.block _ ((hF _).2 (.inr (.inl rfl)))).trans h3, (hst.block _ ((hF _).2 (.inr (.inr rfl)))).trans h4, h5, Nat.le_trans h6 hst.size⟩
    · rintro pre F A ⟨Fu, hF, hi, h1, h2, h3, h4, h5, h6⟩ k hk
      rcases (hF k).1 hk with h | rfl | rfl
      · exact hIlt _ _ _ hi k h
      · omega
      · omega
    · rintro pre x F A ⟨Fu, hF, hi, h1, h2, h3, h4, h5, h6⟩ hpre
      have hy := run_yield (P := P) (args := (enc x)) h3 (by rw [hrec]; simp [hps])
      rw [hrec] at hy
      have hl2 : (A.putObj (w.heap.size + 1) (.loop { rec .ready none with state := .busy })).heap[w.heap.size + 1]? = some (.loop { rec .ready none with state := .busy }) := World.putObj_heap_same (by omega)
      have hi2 : I pre Fu (A.putObj (w.heap.size + 1) (.loop { rec .ready none with state := .busy })) := hIoff _ _ _ _ hi ⟨rfl, rfl, rfl, by simp, fun k hk => World.putObj_heap_other (fun e => h1 (e ▸ hk))⟩
      refine ⟨fn, _, assign, body, hy, roundIn_of_wpIn trivial (hassign _ x A _ ⟨_, run_beginRound h3 (by rw [hrec]), ?_⟩)⟩
      refine wpIn_mono (hbody _ pre x Fu _ hi2 hpre) ?_
      rintro e a3 B ⟨rfl, Fu', hi3, hon⟩
      have hl3 : B.heap[w.heap.size + 1]? = some (.loop { rec .ready none with state := .busy }) := (hon.block _ (by simp; omega) h1).trans hl2
      have hd3 : B.heap[w.heap.size]? = some (.deferred (some [])) := ((hon.block _ (by simp; omega) h2).trans (World.putObj_heap_other (by omega))).trans h4
      have hsB : A.heap.size ≤ B.heap.size := by have := hon.size; simpa using this
      have hend := run_endRound (P := P) none hl3
      have n1 : ¬ Fu' (w.heap.size + 1) := fun e => by
        rcases hon.foot _ e with h | h
        · exact h1 h
        · simp at h; omega
      have n2 : ¬ Fu' w.heap.size := fun e => by
        rcases hon.foot _ e with h | h
        · exact h2 h
        · simp at h; omega
      obtain ⟨r2, hr2⟩ : ∃ r2 : Loop, r2 = { ({ rec .ready none with state := .busy } : Loop) with state := if (none : Option Code).isNone then .ready else .done, pending := none } := ⟨_, rfl⟩
      have hr3 : r2 = rec .ready none := by rw [hr2, hrec]; rfl
      rw [← hr2, hr3] at hend
      refine ⟨_, _, hend, rfl, fun k => Fu' k ∨ k = w.heap.size + 1 ∨ k = w.heap.size, ⟨Fu', fun _ => Iff.rfl, hIoff _ _ _ _ hi3 ⟨rfl, rfl, rfl, by simp, fun k hk => World.putObj_heap_other (fun e => n1 (e ▸ hk))⟩, n1, n2, World.putObj_heap_same (by omega), (World.putObj_heap_other (by omega)).trans hd3, fun k hk => ?_, by simp; omega⟩, ?_⟩
      · rcases hon.foot k hk with h | h
        · exact h5 k h
        · simp at h; right; omega
      · refine ⟨hon.os, hon.tape, hon.output, by simpa using hsB, fun k hk hn => ?_, fun k hk => ?_⟩
        · have hk1 : k ≠ w.heap.size + 1 := fun e => hn ((hF k).2 (.inr (.inl e)))
          have hk2 : ¬ Fu k := fun e => hn ((hF k).2 (.inl e))
          exact (World.putObj_heap_other hk1).trans ((hon.block k (by simpa using hk) hk2).trans (World.putObj_heap_other hk1))
        · rcases hk with h | h
          · rcases hon.foot k h with h' | h'
            · exact .inl ((hF k).2 (.inl h'))
            · exact .inr (by simpa using h')
          · exact .inl ((hF k).2 (.inr h))
    · rintro k (h | rfl | rfl)
      · exact hF0 k h
      · intro e; have := hS _ e; omega
      · intro e; have := hS _ e; omega
    · exact ⟨F0, fun _ => Iff.rfl, hI1, fun e => by have := hout _ e; omega, fun e => by have := hout _ e; omega, hL1, hK1, fun k hk => .inl hk, by omega⟩
    · rintro e W2 ⟨⟨v, rfl⟩, F', ⟨Fu, hF, hi, h1, h2, h3, h4, h5, h6⟩, hp, hfr⟩
      have hend := run_endLoop (P := P) h3 (by rw [hrec]; simp)
      rw [hrec] at hend
      refine ⟨none, _, hend, hdone w.heap.size Fu _ (hIoff _ _ _ _ hi ⟨rfl, rfl, rfl, by simp, fun k hk => World.putObj_heap_other (fun e => h1 (e ▸ hk))⟩) (hPost _ _ hp (by simp) (fun k hk => World.putObj_heap_other (by omega))) ?_ ((World.putObj_heap_other (by omega)).trans h4) (Nat.le_refl _) h2⟩
      refine ⟨hfr.os.trans hb1.os, hfr.tape.trans hb1.tape, hfr.output.trans hb1.output, by have := hfr.size; simp; omega, fun k hk hn hw => ?_, fun k hk => h5 k hk⟩
      exact (World.putObj_heap_other (by omega)).trans ((hfr.block k (by omega) (fun e => by
        rcases e with e | e | e
        · exact hn e
        · omega
        · omega) hw).trans (hb1.block k hk))
end Go.Proofs.Ytglobeajmdieaaa
namespace Go.Proofs.Ytglobeajmdieaaa
set_option linter.unusedVariables false
set_option linter.unusedSimpArgs false
open Go.RowKit Go.Shelf

attribute [local go_sem] Oper.semAt_some

def backL (l : List Int) : List (Nat × Int) := (List.range l.length).reverse.map fun i => (i, l.getD i 0)
theorem backL_len (l : List Int) : (backL l).length = l.length := by simp [backL]
theorem backL_at (l : List Int) (j : Nat) (hj : 0 < j) (hl : j ≤ l.length) : (backL l)[l.length - j]? = some (j - 1, l.getD (j - 1) 0) := by
  unfold backL
  rw [List.getElem?_map, List.getElem?_reverse (by simp; omega), List.length_range, List.getElem?_range (by omega)]
  have e : l.length - 1 - (l.length - j) = j - 1 := by omega
  rw [e]
  rfl
theorem backL_snd (l : List Int) : (backL l).map (·.2) = l.reverse := by
  unfold backL
  rw [List.map_map, List.map_reverse]
  congr 1
  refine List.ext_getElem? fun i => ?_
  rw [List.getElem?_map]
  by_cases h : i < l.length
  · rw [List.getElem?_range h]
    simp [List.getD, h]
  · rw [List.getElem?_eq_none (by simp; omega), List.getElem?_eq_none (by omega)]
    rfl
def encB (p : Nat × Int) : Array Value := #[.int .i64 (p.1 : Int), .int .i64 p.2]
theorem enters_backward : ∀ args w, (callFunc 91 args).run Try.prog w = .ok (.enter 91 args) w := enters_of Try.func91 (by kernel_rfl) rfl

set_option maxRecDepth 100000 in
theorem backward_g (A : Option Addr) (n c : Nat) (w : World) :
    Calls Try.prog 81 #[.slice A n c] w fun e w' => e = .returned (.func (.func 91) #[] #[.pointer (some ⟨w.heap.size, 0, none⟩)]) ∧ Below w.heap.size w w' ∧ w'.heap.size = w.heap.size + 1 ∧ w'.heap[w.heap.size]? = some (.cells #[.slice A n c] 42 (0, 0)) := by
  obtain ⟨W, hW, hbW, hzW, h0W⟩ := gr_one w #[.slice A n c] 42
  have hmf : ∀ (fn : Fn) (first cap : Array Value) (w : World), (Instr.makeFunc fn first cap).run Try.prog w = .ok (.func fn first cap) w := fun _ _ _ _ => rfl
  have H := Lib.hid (And.intro hbW (And.intro hzW h0W))
  have HW := Lib.hid hW
  clear hbW hzW h0W hW
  go_enter Try.func81, Try.ntmps81
  go_upto_region 1 with fail
  rw [← HW.out]
  go_wp2
  go_ret
  exact ⟨rfl, H.out⟩

set_option maxRecDepth 100000 in
set_option maxHeartbeats 4000000 in
theorem backward_sep (bx : Nat) (A : Option Addr) (m c : Nat) (l : List Int) (S : Nat → Prop) (W : World) (hbx : W.cell? ⟨bx, 0, none⟩ = some (.slice A m c)) (hml : m = l.length) (hm : m ≤ 1048576)
    (hrow : 0 < m → ∃ rb, A = some ⟨rb, 0, none⟩ ∧ S rb ∧ ∀ j, j < m → W.cell? ⟨rb, j, none⟩ = some (.int .i64 (l.getD j 0))) (hsx : S bx) (hSl : ∀ k, S k → k < W.heap.size) :
    SepGivs Try.prog 91 #[.pointer (some ⟨bx, 0, none⟩)] encB (backL l) S NoW (fun _ => True) W := by
  intro y J F0 hJoff hJlt hJ hF0 h0
  have hS0 : ∀ k, S k → ¬ F0 k := fun k hk e => hF0 k e hk
  have Hml := Lib.hid hml
  have Hbx := Lib.hid hbx
  have Hsx := Lib.hid hsx
  have Hrow := Lib.hid hrow
  have HJ := Lib.hid hJ
  have HS0 := Lib.hid hS0
  have HSl := Lib.hid hSl
  have H0 : Hid (J ((backL l).take (m - m)) F0 W) := Lib.hid (by rw [Nat.sub_self]; exact h0)
  clear hml hrow hJ hJlt hJoff hS0 hF0 h0 hSl hsx
  have HR0 : Hid (Framed F0 F0 NoW W W) := Lib.hid (Framed.refl _ _ _)
  change Calls _ _ #[.func (.yield y) #[] #[], .pointer (some ⟨bx, 0, none⟩)] _ _
  go_enter Try.func91, Try.ntmps91
  go_upto_region 1 with fail
  clear hbx
  go_loopw [3] (fun u3 wr => ∃ (j : Nat) (F : Nat → Prop), j ≤ m ∧ u3 = .int .i64 ((j : Int) - 1) ∧ Hid (J ((backL l).take (m - j)) F wr) ∧ Hid (Framed F0 F NoW W wr) ∧ Hid (∀ k, S k → ¬ F k)) (fun u3 _ => (intOf u3 + 1).toNat)
  case atStart => exact ⟨m, F0, Nat.le_refl _, rfl, H0, HR0, HS0⟩
  case round =>
    clear H0 HR0
    obtain ⟨j, F, hj, rfl, HJi, HR, HF⟩ := hrel
    cases j with
    | zero =>
      go_wp2
      go_end0
      refine ⟨⟨_, rfl⟩, F, ?_, trivial, HR.out⟩
      have := HJi.out
      rw [Nat.sub_zero, Hml.out, ← backL_len l, List.take_length] at this
      exact this
    | succ j =>
      obtain ⟨rb, rfl, hSr, hcell⟩ := Hrow.out (by omega)
      have hj1 : (((j + 1 : Nat) : Int) - 1) = (j : Int) := by omega
      have hb := HR.out.cell Hsx.out HS0.out HSl.out Hbx.out
      have hc := HR.out.cell hSr HS0.out HSl.out (hcell j (by omega))
      have hat := backL_at l (j + 1) (by omega) (by rw [← Hml.out]; exact hj)
      rw [← Hml.out, Nat.add_sub_cancel] at hat
      obtain ⟨x, hx⟩ : ∃ x, x = l.getD j 0 := ⟨_, rfl⟩
      rw [← hx] at hc hat
      have hst : (backL l).take (m - j) = (backL l).take (m - (j + 1)) ++ [(j, x)] := by
        have h1 : m - j = (m - (j + 1)) + 1 := by omega
        have hlt := (List.getElem?_eq_some_iff.1 hat).1
        have he := (List.getElem?_eq_some_iff.1 hat).2
        rw [h1, List.take_succ_eq_append_getElem hlt, he]
      obtain ⟨fn, tmps, assign, body, hy, hR⟩ := HJ.out ((backL l).take (m - (j + 1))) (j, x) F wr HJi.out (by rw [← hst]; exact List.take_prefix _ _)
      have Hst := Lib.hid hst
      have HR2 := Lib.hid hR
      rw [hj1]
      clear hx hst hR hat hcell hj1
      go_upto_region 3 with fail
      refine (wpIn_wide (n := 0)).1 ?_
      unfold encB at hy
      dsimp only at hy
      gi_wp2
      refine ⟨rfl, HR2.out.mono ?_⟩
      rintro e W3 ⟨rfl, F', hJ3, hon⟩
      have HJ3 := Lib.hid hJ3
      have HR3 := Lib.hid (HR.out.on hon)
      have HF3 := Lib.hid (apart_on HF.out (fun k hk => Nat.lt_of_lt_of_le (HSl.out k hk) HR.out.size) hon)
      clear hJ3 hon hy HR2 hb hc
      dsimp only
      gi_wp2
      go_wp2
      go_roundw
      case rel => exact ⟨j, F', by omega, by go_num, Lib.hid (by rw [Hst.out]; exact HJ3.out), HR3, HF3⟩
      case measure => first | (simp [intOf]; done) | (simp [intOf]; omega)
end Go.Proofs.Ytglobeajmdieaaa
