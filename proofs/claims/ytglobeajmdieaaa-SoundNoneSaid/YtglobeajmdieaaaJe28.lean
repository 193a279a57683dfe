/-
  Blocks on all ways: the search's chains, over plain data; how the search lies.
-/
import Derived.Test.YtglobeajmdieaaaJe27
namespace Go.Proofs.Ytglobeajmdieaaa
set_option linter.unusedVariables false
set_option linter.unusedSimpArgs false
open Go.RowKit Go.Shelf

/-- The chain from x on, but for its last two. -/
def chainP (above : List Int) : Nat → Int → Option (List Int)
  | 0, _ => none
  | k + 1, x => (rdI above x).bind fun a => if a = -1 then some [] else (rdI above a).bind fun aa => if aa = -1 then some [] else (chainP above k a).map (x :: ·)
/-- It is made shorter. -/
def cmpP (early : List Int) : List Int → List Int → List Int → Option (List Int × List Int)
  | [], ab, be => some (ab, be)
  | x :: xs, ab, be => (rdI ab x).bind fun a => (rdI be a).bind fun ba => (rdI early ba).bind fun ea => (rdI be x).bind fun bx => (rdI early bx).bind fun ex => (rdI ab a).bind fun aa =>
      cmpP early xs (ab.set x.toNat aa) (if ea < ex then be.set x.toNat ba else be)
def leastP (early above best : List Int) (k : Nat) (b : Int) : Option (List Int × List Int × Int) :=
  (chainP above k b).bind fun p => (cmpP early p.reverse above best).bind fun r => (rdI r.2 b).map fun v => (r.1, r.2, v)
def sl (b m : Nat) : Value := .slice (some ⟨b, 0, none⟩) m m
/-- A block beside the family. -/
structure Fx (w : World) (E : Nat) (F : Nat → GRw) (b : Nat) (o : Obj) : Prop where
  at_ : w.heap[b]? = some o
  ne : ∀ k, (F k).v.ownBlock ≠ some b
  nE : b ≠ E
theorem Fx.keep {w w' : World} {E b : Nat} {F : Nat → GRw} {o : Obj} (h : Fx w E F b o) (hb : Below w.heap.size w w') : Fx w' E F b o := ⟨(hb.block b (gr_in h.at_)).trans h.at_, h.ne, h.nE⟩
theorem Fx.grown {w w' : World} {E b : Nat} {F : Nat → GRw} {o : Obj} (h : Fx w E F b o) (k : Nat) (hg : w.grownBy w' (F k).v.ownBlock) (r : GRw) (hat : ∀ g, r.v.ownBlock = some g → (F k).v.ownBlock = some g ∨ w.heap.size ≤ g) : Fx w' E (upG F k r) b o := by
  refine ⟨(hg.block b (gr_in h.at_) (fun e => h.ne k e.symm)).trans h.at_, fun j => ?_, h.nE⟩
  by_cases hj : j = k
  · subst hj
    rw [upG_at]
    intro e
    rcases hat b e with h1 | h1
    · exact h.ne j h1
    · have := gr_in h.at_; omega
  · rw [upG_off _ _ _ _ hj]; exact h.ne j
theorem Fx.put {w : World} {E b : Nat} {F : Nat → GRw} {o : Obj} (h : Fx w E F b o) {k g : Nat} (hk : (F k).v.ownBlock = some g) (j : Nat) (u : Value) (r : GRw) (hr : r.v.ownBlock = some g) : Fx (w.setCell ⟨g, j, none⟩ u) E (upG F k r) b o := by
  refine ⟨(Below.heap_setCell _ _ _ _ (fun e => h.ne k (by rw [hk]; exact congrArg some e.symm))).trans h.at_, fun i => ?_, h.nE⟩
  by_cases hi : i = k
  · subst hi; rw [upG_at, hr, ← hk]; exact h.ne i
  · rw [upG_off _ _ _ _ hi]; exact h.ne i
theorem Fx.field {w : World} {E b : Nat} {F : Nat → GRw} {o : Obj} (h : Fx w E F b o) (j : Nat) (u : Value) : Fx (w.setCell ⟨E, j, none⟩ u) E F b o := ⟨(Below.heap_setCell _ _ _ _ (fun e => h.nE e)).trans h.at_, h.ne, h.nE⟩

/-- The search, as it lies. -/
structure LsS (base sp m : Nat) (w : World) (bu be ba bb : Nat) (PV : Value) (path up early above best : List Int) (F : Nat → GRw) : Prop where
  sq : Sq 155 w base sp F [sl bu m, sl be m, sl ba m, sl bb m, PV]
  f0 : F 0 = wholeR bu up
  f1 : F 1 = wholeR be early
  f2 : F 2 = wholeR ba above
  f3 : F 3 = wholeR bb best
  f4 : F 4 = intR PV path
  l0 : up.length = m
  l1 : early.length = m
  l2 : above.length = m
  l3 : best.length = m
  mb : m ≤ 1048576
theorem LsS.keep {base sp m : Nat} {w w' : World} {bu be ba bb : Nat} {PV : Value} {path up early above best : List Int} {F : Nat → GRw} (h : LsS base sp m w bu be ba bb PV path up early above best F) (hb : Below w.heap.size w w') : LsS base sp m w' bu be ba bb PV path up early above best F := { h with sq := h.sq.keep hb }
/-- Its path is another one now. -/
theorem LsS.path_ {base sp m : Nat} {w w' : World} {bu be ba bb : Nat} {PV PV' : Value} {path path' up early above best : List Int} {F : Nat → GRw} (h : LsS base sp m w bu be ba bb PV path up early above best F) (hg : w.grownBy w' PV.ownBlock) (ho : w'.ownsRow base 3 1 PV' path'.length (intsV path')) (hat : ∀ g, PV'.ownBlock = some g → PV.ownBlock = some g ∨ w.heap.size ≤ g) :
    LsS base sp m (w'.setCell ⟨sp, 4, none⟩ PV') bu be ba bb PV' path' up early above best (upG F 4 (intR PV' path')) ∧ Below base w (w'.setCell ⟨sp, 4, none⟩ PV') ∧ Sq 155 w' base sp (upG F 4 (intR PV' path')) [sl bu m, sl be m, sl ba m, sl bb m, PV] ∧ (∀ b o, Fx w sp F b o → Fx w' sp (upG F 4 (intR PV' path')) b o) := by
  have hg0 : w.grownBy w' (F 4).v.ownBlock := by rw [h.f4]; exact hg
  have hat0 : ∀ g, (intR PV' path').v.ownBlock = some g → (F 4).v.ownBlock = some g ∨ w.heap.size ≤ g := fun g e => by rw [h.f4]; exact hat g e
  have h1 := h.sq.grown 4 hg0 (intR PV' path') ho hat0
  refine ⟨⟨h1.field 4 PV', ?_, ?_, ?_, ?_, upG_at _ _ _, h.l0, h.l1, h.l2, h.l3, h.mb⟩, (h.sq.b_grown 4 hg0).trans (h1.b_field 4 _), h1, fun b o hx => hx.grown 4 hg0 _ hat0⟩
  · rw [upG_off _ _ _ _ (by omega)]; exact h.f0
  · rw [upG_off _ _ _ _ (by omega)]; exact h.f1
  · rw [upG_off _ _ _ _ (by omega)]; exact h.f2
  · rw [upG_off _ _ _ _ (by omega)]; exact h.f3
theorem LsS.r0 {base sp m : Nat} {w : World} {bu be ba bb : Nat} {PV : Value} {path up early above best : List Int} {F : Nat → GRw} (h : LsS base sp m w bu be ba bb PV path up early above best F) : IRow w bu up ∧ IRow w be early ∧ IRow w ba above ∧ IRow w bb best := ⟨h.sq.whole h.f0, h.sq.whole h.f1, h.sq.whole h.f2, h.sq.whole h.f3⟩
theorem LsS.apart {base sp m : Nat} {w : World} {bu be ba bb : Nat} {PV : Value} {path up early above best : List Int} {F : Nat → GRw} (h : LsS base sp m w bu be ba bb PV path up early above best F) : be ≠ ba ∧ be ≠ bb ∧ ba ≠ bb ∧ bu ≠ be ∧ bu ≠ ba ∧ bu ≠ bb ∧ sp ≠ bu ∧ sp ≠ be ∧ sp ≠ ba ∧ sp ≠ bb := by
  have n : ∀ i j bi bj li lj, i ≠ j → F i = wholeR bi li → F j = wholeR bj lj → bi ≠ bj := fun i j bi bj li lj hij hi hj e => by
    rcases h.sq.fam.ne i j hij with q | q
    · rw [hi] at q; simp [wholeR, Value.ownBlock] at q
    · rw [hi, hj] at q; exact q (by simp [wholeR, Value.ownBlock, e])
  have s : ∀ i bi li, F i = wholeR bi li → sp ≠ bi := fun i bi li hi e => by
    have := h.sq.fam.av i
    rw [hi] at this
    exact this (by simp [wholeR, Value.ownBlock, e])
  exact ⟨n 1 2 _ _ _ _ (by omega) h.f1 h.f2, n 1 3 _ _ _ _ (by omega) h.f1 h.f3, n 2 3 _ _ _ _ (by omega) h.f2 h.f3, n 0 1 _ _ _ _ (by omega) h.f0 h.f1, n 0 2 _ _ _ _ (by omega) h.f0 h.f2, n 0 3 _ _ _ _ (by omega) h.f0 h.f3, s 0 _ _ h.f0, s 1 _ _ h.f1, s 2 _ _ h.f2, s 3 _ _ h.f3⟩
/-- The path without its numbers. -/
theorem path_cut {w : World} {base n : Nat} {PV : Value} {xs : List Value} (h : w.ownsRow base 3 1 PV n xs) : ∃ V0 : Value, (∀ W, (Instr.slice 42 PV none (some (.int .i64 0)) none).run Try.prog W = .ok V0 W) ∧ w.ownsRow base 3 1 V0 0 [] ∧ (∀ g, V0.ownBlock = some g → PV.ownBlock = some g) := by
  rcases h.2 with ⟨rfl, h0⟩ | ⟨g, cap, cur, rfl, hb, hg, hnc, hcm, hcs, ht⟩
  · refine ⟨.slice none 0 0, fun W => ?_, World.ownsRow_nil _ _ _ _, fun g e => by simp [Value.ownBlock] at e⟩
    rw [run_slice_h W 42 none 0 0 (by simp [Program.elem, Try.underlying42]) .i64 0 (by omega) (by omega)]
    go_simp
  · refine ⟨.slice (some ⟨g, 0, none⟩) 0 cap, fun W => ?_, ?_, fun g' e => e⟩
    · rw [run_slice_h W 42 (some ⟨g, 0, none⟩) n cap (by simp [Program.elem, Try.underlying42]) .i64 0 (by omega) (by omega)]
      go_simp
    · have := gr_cut h 0 (Nat.zero_le _)
      simpa using this
/-- Nothing is put off. -/
def noDefer (ops : Array Oper) : Bool := ops.all fun o => match o.op with | .defer _ => false | _ => true
theorem noDefer_spec {ops : Array Oper} (h : noDefer ops = true) : ∀ (i : Nat) o, ops[i]? = some o → ∀ c, o.op ≠ .defer c := by
  intro i o ho c e
  have hm := Array.mem_of_getElem? ho
  have h1 := (Array.all_eq_true_iff_forall_mem.1 h) o hm
  rw [e] at h1
  cases h1
theorem wp_range_back {P : Program} {g : Operand} {p1 p2 q : Tmp} {assign body : Code} {Q : Exit → Act → World → Prop} {a : Act} {w : World} {gf : Nat} {lb : Array Value}
    (hg : a.eval g = .func (.func gf) #[] lb) (eg : ∀ args w, (callFunc gf args).run P w = .ok (.enter gf args) w)
    {xs : List (Nat × Int)} {S Wr : Nat → Prop} (hseq : ∀ W1, Below w.heap.size w W1 → SepGivs P gf lb encB xs S Wr (fun _ => True) W1)
    (I : List (Nat × Int) → (Nat → Prop) → World → Prop) (F0 : Nat → Prop)
    (hIoff : ∀ pre F A B, I pre F A → StepOff F A B → I pre F B) (hIlt : ∀ pre F A, I pre F A → ∀ k, F k → k < A.heap.size)
    (hF0 : ∀ k, F0 k → ¬ S k) (hS : ∀ k, S k → k < w.heap.size) (h0 : I [] F0 w)
    (hassign : ∀ (l : Nat) (x : Nat × Int) (W : World) (K : Act → World → Prop), K { tmps := ((a.tmps.setIfInBounds p1 (.int .i64 (x.1 : Int))).setIfInBounds p2 (.int .i64 x.2)).setIfInBounds q (.int .i64 x.2), defers := [] } W →
      assign.wpIn (Fence.wide.inRound l) 0 P (Exit.then K (fun _ _ _ => False)) { tmps := (a.tmps.setIfInBounds p1 (.int .i64 (x.1 : Int))).setIfInBounds p2 (.int .i64 x.2), defers := [] } W)
    (hbody : ∀ (l : Nat) (pre : List (Nat × Int)) (x : Nat × Int) (F : Nat → Prop) (A : World), I pre F A → (pre ++ [x]) <+: xs → body.wpIn (Fence.wide.inRound l) 0 P (fun e a' B => e = .normal ∧ ∃ F', I (pre ++ [x]) F' B ∧ StepOn F F' A B) { tmps := ((a.tmps.setIfInBounds p1 (.int .i64 (x.1 : Int))).setIfInBounds p2 (.int .i64 x.2)).setIfInBounds q (.int .i64 x.2), defers := [] } A)
    (hdone : ∀ (D : Nat) (F' : Nat → Prop) (W' : World), I xs F' W' → Framed F0 F' Wr w W' → W'.heap[D]? = some (.deferred (some [])) → w.heap.size ≤ D → ¬ F' D → Q .normal { a with defers := { target := .collected D, args := #[] } :: a.defers } W') :
    (Code.rangeFunc g #[p1, p2] assign body).wp P Q a w :=
  wp_range_sepv hg eg hseq (fun _ => rfl) (fun _ _ _ _ _ => trivial) I F0 hIoff hIlt hF0 hS h0 (fun x => { tmps := ((a.tmps.setIfInBounds p1 (.int .i64 (x.1 : Int))).setIfInBounds p2 (.int .i64 x.2)).setIfInBounds q (.int .i64 x.2), defers := [] }) (fun l x W K hK => by
    have := hassign l x W K hK
    simpa [encB] using this) hbody (fun D F' W' h1 _ h3 h4 h5 h6 => hdone D F' W' h1 h3 h4 h5 h6)
theorem own_same {w w' : World} {base : Nat} {T : TypeId} {z n : Nat} {v : Value} {xs : List Value} (h : w.ownsRow base T z v n xs) (hs : ∀ g, v.ownBlock = some g → w'.heap[g]? = w.heap[g]?) : w'.ownsRow base T z v n xs := by
  refine ⟨h.1, ?_⟩
  rcases h.2 with q | ⟨g, cap, cur, hv, q2, q3, rest⟩
  · exact .inl q
  · exact .inr ⟨g, cap, cur, hv, q2, (hs g (by rw [hv]; rfl)).trans q3, rest⟩
/-- Behind the rounds. -/
theorem LsS.after {base sp m bx : Nat} {w Wf : World} {bu be ba bb : Nat} {PV : Value} {path up early above best ab bst : List Int} {F : Nat → GRw} {o : Obj} (h : LsS base sp m w bu be ba bb PV path up early above best F) (hx : Fx w sp F bx o) (hz : w.heap.size ≤ Wf.heap.size)
    (hk : ∀ k, k < w.heap.size → ¬ (k = bx ∨ k = sp ∨ k = be ∨ k = ba ∨ k = bb) → Wf.heap[k]? = w.heap[k]?) (hsp : Wf.heap[sp]? = w.heap[sp]?) (hbe : Wf.heap[be]? = w.heap[be]?) (hba : IRow Wf ba ab) (hbb : IRow Wf bb bst) (hla : ab.length = m) (hlb : bst.length = m) :
    LsS base sp m Wf bu be ba bb PV path up early ab bst (upG (upG F 2 (wholeR ba ab)) 3 (wholeR bb bst)) := by
  have hown : ∀ k, k ≠ 2 → k ≠ 3 → Wf.ownsRow base (F k).T (F k).z (F k).v (F k).n (F k).xs := fun k h2 h3 => by
    refine own_same (h.sq.fam.own k) (fun g hg => ?_)
    by_cases h1 : g = be
    · subst h1; exact hbe
    · refine hk g ((h.sq.fam.own k).lt g hg).2 ?_
      rintro (e | e | e | e | e)
      · subst e; exact hx.ne k hg
      · subst e; exact h.sq.fam.av k hg
      · exact h1 e
      · subst e
        rcases h.sq.fam.ne k 2 h2 with q | q
        · rw [hg] at q; cases q
        · rw [hg, h.f2] at q; exact q rfl
      · subst e
        rcases h.sq.fam.ne k 3 h3 with q | q
        · rw [hg] at q; cases q
        · rw [hg, h.f3] at q; exact q rfl
  have hb2 : base ≤ ba := by have := ((h.sq.fam.own 2).lt ba (by rw [h.f2]; rfl)).1; exact this
  have hb3 : base ≤ bb := by have := ((h.sq.fam.own 3).lt bb (by rw [h.f3]; rfl)).1; exact this
  have v2 : ∀ r : List Int, (upG (upG F 2 (wholeR ba ab)) 3 (wholeR bb r)) 2 = wholeR ba ab := fun r => by rw [upG_off _ _ _ _ (by omega), upG_at]
  have hv : ∀ k, ((upG (upG F 2 (wholeR ba ab)) 3 (wholeR bb bst)) k).v.ownBlock = (F k).v.ownBlock := fun k => by
    by_cases e3 : k = 3
    · subst e3; rw [upG_at, h.f3]; rfl
    · rw [upG_off _ _ _ _ e3]
      by_cases e2 : k = 2
      · subst e2; rw [upG_at, h.f2]; rfl
      · rw [upG_off _ _ _ _ e2]
  refine ⟨⟨⟨Nat.lt_of_lt_of_le h.sq.fam.el hz, fun k => by rw [hv]; exact h.sq.fam.av k, fun k => ?_, fun k l hkl => by rw [hv, hv]; exact h.sq.fam.ne k l hkl⟩, hsp.trans h.sq.box, h.sq.bE, Nat.le_trans h.sq.hb hz⟩, ?_, ?_, v2 _, upG_at _ _ _, ?_, h.l0, h.l1, hla, hlb, h.mb⟩
  · by_cases e3 : k = 3
    · subst e3; rw [upG_at]; exact hbb.own rfl hb3 (by rw [hlb]; exact h.mb)
    · rw [upG_off _ _ _ _ e3]
      by_cases e2 : k = 2
      · subst e2; rw [upG_at]; exact hba.own rfl hb2 (by rw [hla]; exact h.mb)
      · rw [upG_off _ _ _ _ e2]; exact hown k e2 e3
  · rw [upG_off _ _ _ _ (by omega), upG_off _ _ _ _ (by omega)]; exact h.f0
  · rw [upG_off _ _ _ _ (by omega), upG_off _ _ _ _ (by omega)]; exact h.f1
  · rw [upG_off _ _ _ _ (by omega), upG_off _ _ _ _ (by omega)]; exact h.f4
end Go.Proofs.Ytglobeajmdieaaa
