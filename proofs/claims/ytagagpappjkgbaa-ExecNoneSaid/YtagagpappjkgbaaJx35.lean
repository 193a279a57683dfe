/-
  Blocks on all ways: a region that makes six rows in any order.
-/
import Derived.Test.YtagagpappjkgbaaJx34
namespace Go.Proofs.Ytagagpappjkgbaa
set_option linter.unusedVariables false
set_option linter.unusedSimpArgs false
open Go.RowKit Go.Shelf

def L6 (b0 b4 b8 b9 b13 b17 : Bool) : Array Bool := #[b0, true, true, true, b4, true, true, true, b8, b9, true, true, true, b13, true, true, true, b17, false, false, false]
def ok6 (b0 b4 b9 b13 : Bool) : Bool := (!b4 || b0) && (!b13 || (b4 && b9))
def allB (f : Bool → Bool) : Bool := f false && f true
theorem allB_spec {f : Bool → Bool} (h : allB f = true) (b : Bool) : f b = true := by
  unfold allB at h
  rw [Bool.and_eq_true] at h
  cases b
  · exact h.1
  · exact h.2
def may6 (b0 b4 b8 b9 b13 b17 : Bool) (i : Nat) : Bool :=
  (i == 0 && !b0) || (i == 4 && !b4 && b0) || (i == 8 && !b8) || (i == 9 && !b9) || (i == 13 && !b13 && b4 && b9) || (i == 17 && !b17) || (i == 18 && b4 && b8 && b13 && b17)
def chk6 (ops : Array Oper) : Bool := allB fun b0 => allB fun b4 => allB fun b8 => allB fun b9 => allB fun b13 => allB fun b17 =>
  !(ok6 b0 b4 b9 b13) || (!(Region.ready .any ops (L6 b0 b4 b8 b9 b13 b17)).isEmpty && (Region.ready .any ops (L6 b0 b4 b8 b9 b13 b17)).all (may6 b0 b4 b8 b9 b13 b17))
def cnt (b : Bool) : Nat := if b then 0 else 1
theorem one_step {P : Program} {ops : Array Oper} {Q : Exit → Act → World → Prop} {S : World → Prop} {J : Act → World → Prop} {i : Nat} {o : Oper} {a : Act} {w : World} (ho : ops[i]? = some o)
    (h : ∀ K' : Act → World → Prop, Shut (∀ a w, S w → (S w → J a w) → K' a w) → if Region.wanted o (yielded ops a.tmps) = true then Oper.wp P o a w K' Q else K' (a.put o.dst undef) w) : wpOp P ops Q i (fun a' w' => S w' ∧ J a' w') a w :=
  wpOp_step ho (fun K' hK => h K' (fun a w hS hJ => hK a w ⟨hS, hJ hS⟩))
theorem bits6 {P : Program} {ops : Array Oper} {Q : Exit → Act → World → Prop} {S : World → Prop} (hchk : chk6 ops = true) (I : Bool → Bool → Bool → Bool → Bool → Bool → Act → World → Prop)
    (h0 : ∀ b8 b9 b17 a w, I false false b8 b9 false b17 a w → S w → wpOp P ops Q 0 (fun a' w' => S w' ∧ I true false b8 b9 false b17 a' w') a w)
    (h4 : ∀ b8 b9 b17 a w, I true false b8 b9 false b17 a w → S w → wpOp P ops Q 4 (fun a' w' => S w' ∧ I true true b8 b9 false b17 a' w') a w)
    (h8 : ∀ b0 b4 b9 b13 b17 a w, I b0 b4 false b9 b13 b17 a w → S w → wpOp P ops Q 8 (fun a' w' => S w' ∧ I b0 b4 true b9 b13 b17 a' w') a w)
    (h9 : ∀ b0 b4 b8 b17 a w, I b0 b4 b8 false false b17 a w → S w → wpOp P ops Q 9 (fun a' w' => S w' ∧ I b0 b4 b8 true false b17 a' w') a w)
    (h13 : ∀ b8 b17 a w, I true true b8 true false b17 a w → S w → wpOp P ops Q 13 (fun a' w' => S w' ∧ I true true b8 true true b17 a' w') a w)
    (h17 : ∀ b0 b4 b8 b9 b13 a w, I b0 b4 b8 b9 b13 false a w → S w → wpOp P ops Q 17 (fun a' w' => S w' ∧ I b0 b4 b8 b9 b13 true a' w') a w)
    (hend : ∀ a w, I true true true true true true a w → S w → wpAnyH P .any ops Q S 3 (L6 true true true true true true) a w) :
    ∀ (n : Nat) (b0 b4 b8 b9 b13 b17 : Bool) (a : Act) (w : World), ok6 b0 b4 b9 b13 = true → n = cnt b0 + cnt b4 + cnt b8 + cnt b9 + cnt b13 + cnt b17 → I b0 b4 b8 b9 b13 b17 a w → S w → wpAnyH P .any ops Q S (n + 3) (L6 b0 b4 b8 b9 b13 b17) a w
  | 0, b0, b4, b8, b9, b13, b17, a, w, hok, hn, hI, hS => by
    cases b0 <;> cases b4 <;> cases b8 <;> cases b9 <;> cases b13 <;> cases b17 <;> simp [cnt] at hn
    exact hend a w hI hS
  | n + 1, b0, b4, b8, b9, b13, b17, a, w, hok, hn, hI, hS => by
    have hc := allB_spec (allB_spec (allB_spec (allB_spec (allB_spec (allB_spec hchk b0) b4) b8) b9) b13) b17
    rw [hok, Bool.not_true, Bool.false_or, Bool.and_eq_true] at hc
    have ih := bits6 hchk I h0 h4 h8 h9 h13 h17 hend n
    refine ⟨fun he => ?_, fun i hi => ?_⟩
    · rw [he] at hc; exact absurd hc.1 (by simp)
    · have hm := List.all_eq_true.1 hc.2 i hi
      simp only [may6, Bool.or_eq_true, Bool.and_eq_true, beq_iff_eq, Bool.not_eq_true'] at hm
      rcases hm with (((((⟨rfl, e0⟩ | ⟨⟨rfl, e4⟩, e0⟩) | ⟨rfl, e8⟩) | ⟨rfl, e9⟩) | ⟨⟨⟨rfl, e13⟩, e4⟩, e9⟩) | ⟨rfl, e17⟩) | ⟨⟨⟨⟨rfl, e4⟩, e8⟩, e13⟩, e17⟩
      · subst e0
        obtain ⟨rfl, rfl⟩ : b4 = false ∧ b13 = false := by cases b4 <;> cases b13 <;> simp [ok6] at hok ⊢
        refine wpOp_mono (fun a' w' h => ⟨h.1, ih true false b8 b9 false b17 a' w' rfl ?_ h.2 h.1⟩) (h0 b8 b9 b17 a w hI hS)
        simp only [cnt, if_true, if_false, Bool.false_eq_true] at hn ⊢; omega
      · subst e4 e0
        obtain rfl : b13 = false := by cases b13 <;> simp [ok6] at hok ⊢
        refine wpOp_mono (fun a' w' h => ⟨h.1, ih true true b8 b9 false b17 a' w' rfl ?_ h.2 h.1⟩) (h4 b8 b9 b17 a w hI hS)
        simp only [cnt, if_true, if_false, Bool.false_eq_true] at hn ⊢; omega
      · subst e8
        refine wpOp_mono (fun a' w' h => ⟨h.1, ih b0 b4 true b9 b13 b17 a' w' hok ?_ h.2 h.1⟩) (h8 b0 b4 b9 b13 b17 a w hI hS)
        simp only [cnt, if_true, if_false, Bool.false_eq_true] at hn ⊢; omega
      · subst e9
        obtain rfl : b13 = false := by cases b13 <;> simp [ok6] at hok ⊢
        refine wpOp_mono (fun a' w' h => ⟨h.1, ih b0 b4 b8 true false b17 a' w' (by simpa [ok6] using hok) ?_ h.2 h.1⟩) (h9 b0 b4 b8 b17 a w hI hS)
        simp only [cnt, if_true, if_false, Bool.false_eq_true] at hn ⊢; omega
      · subst e13 e4 e9
        obtain rfl : b0 = true := by cases b0 <;> simp [ok6] at hok ⊢
        refine wpOp_mono (fun a' w' h => ⟨h.1, ih true true b8 true true b17 a' w' rfl ?_ h.2 h.1⟩) (h13 b8 b17 a w hI hS)
        simp only [cnt, if_true, if_false, Bool.false_eq_true] at hn ⊢; omega
      · subst e17
        refine wpOp_mono (fun a' w' h => ⟨h.1, ih b0 b4 b8 b9 b13 true a' w' hok ?_ h.2 h.1⟩) (h17 b0 b4 b8 b9 b13 a w hI hS)
        simp only [cnt, if_true, if_false, Bool.false_eq_true] at hn ⊢; omega
      · subst e4 e8 e13 e17
        obtain ⟨rfl, rfl⟩ : b0 = true ∧ b9 = true := by cases b0 <;> cases b9 <;> simp [ok6] at hok ⊢
        simp [cnt] at hn
def rowIs (b : Bool) (x : Value) (r : GRw) (l : List Int) : Prop := match b with
  | true => ∃ g, x = sl g l.length ∧ r = wholeR g l
  | false => r = noRow
structure J6 (T : TypeId) (base E m : Nat) (cs : List Value) (w0 : World) (b0 b4 b8 b9 b13 b17 : Bool) (x0 x4 x8 x9 x13 x17 : Value) (F : Nat → GRw) (w : World) : Prop where
  sq : Sq T w base E F cs
  bw : Below base w0 w
  f5 : rowIs b0 x0 (F 5) [-1]
  f0 : rowIs b4 x4 (F 0) (List.replicate m (-1))
  f1 : rowIs b8 x8 (F 1) (List.replicate m 0)
  f6 : rowIs b9 x9 (F 6) [-1]
  f2 : rowIs b13 x13 (F 2) (List.replicate m (-1))
  f3 : rowIs b17 x17 (F 3) (List.replicate m 0)
  off : ∀ i, i = 4 ∨ 6 < i → F i = noRow
theorem Sq.row6 {T : TypeId} {w w' : World} {base E g k : Nat} {F : Nat → GRw} {cs : List Value} {l : List Int} (h : Sq T w base E F cs) (hk : F k = noRow) (hb : Below w.heap.size w w') (hg : w.heap.size ≤ g) (hr : IRow w' g l) (hl : l.length ≤ 1048576) : Sq T w' base E (upG F k (wholeR g l)) cs :=
  h.new k (by rw [hk]; rfl) hb (wholeR g l) (hr.own rfl hg hl)
section
variable {T : TypeId} {base E m g : Nat} {cs : List Value} {w0 w w' : World} {b0 b4 b8 b9 b13 b17 : Bool} {x0 x4 x8 x9 x13 x17 : Value} {F : Nat → GRw}
theorem J6.n0 (h : J6 T base E m cs w0 false b4 b8 b9 b13 b17 x0 x4 x8 x9 x13 x17 F w) (hb : Below w.heap.size w w') (hg : w.heap.size ≤ g) (hr : IRow w' g [-1]) : J6 T base E m cs w0 true b4 b8 b9 b13 b17 (sl g 1) x4 x8 x9 x13 x17 (upG F 5 (wholeR g [-1])) w' :=
  ⟨h.sq.row6 h.f5 hb hg hr (by simp), h.bw.trans (hb.mono h.sq.hb), ⟨g, rfl, upG_at _ _ _⟩, by rw [upG_off _ _ _ _ (by omega)]; exact h.f0, by rw [upG_off _ _ _ _ (by omega)]; exact h.f1, by rw [upG_off _ _ _ _ (by omega)]; exact h.f6, by rw [upG_off _ _ _ _ (by omega)]; exact h.f2, by rw [upG_off _ _ _ _ (by omega)]; exact h.f3, fun i hi => by rw [upG_off _ _ _ _ (by omega)]; exact h.off i hi⟩
theorem J6.n9 (h : J6 T base E m cs w0 b0 b4 b8 false b13 b17 x0 x4 x8 x9 x13 x17 F w) (hb : Below w.heap.size w w') (hg : w.heap.size ≤ g) (hr : IRow w' g [-1]) : J6 T base E m cs w0 b0 b4 b8 true b13 b17 x0 x4 x8 (sl g 1) x13 x17 (upG F 6 (wholeR g [-1])) w' :=
  ⟨h.sq.row6 h.f6 hb hg hr (by simp), h.bw.trans (hb.mono h.sq.hb), by rw [upG_off _ _ _ _ (by omega)]; exact h.f5, by rw [upG_off _ _ _ _ (by omega)]; exact h.f0, by rw [upG_off _ _ _ _ (by omega)]; exact h.f1, ⟨g, rfl, upG_at _ _ _⟩, by rw [upG_off _ _ _ _ (by omega)]; exact h.f2, by rw [upG_off _ _ _ _ (by omega)]; exact h.f3, fun i hi => by rw [upG_off _ _ _ _ (by omega)]; exact h.off i hi⟩
theorem J6.n4 (h : J6 T base E m cs w0 b0 false b8 b9 b13 b17 x0 x4 x8 x9 x13 x17 F w) (hb : Below w.heap.size w w') (hg : w.heap.size ≤ g) (hr : IRow w' g (List.replicate m (-1))) (hm : m ≤ 1048576) : J6 T base E m cs w0 b0 true b8 b9 b13 b17 x0 (sl g m) x8 x9 x13 x17 (upG F 0 (wholeR g (List.replicate m (-1)))) w' :=
  ⟨h.sq.row6 h.f0 hb hg hr (by simpa using hm), h.bw.trans (hb.mono h.sq.hb), by rw [upG_off _ _ _ _ (by omega)]; exact h.f5, ⟨g, by simp, upG_at _ _ _⟩, by rw [upG_off _ _ _ _ (by omega)]; exact h.f1, by rw [upG_off _ _ _ _ (by omega)]; exact h.f6, by rw [upG_off _ _ _ _ (by omega)]; exact h.f2, by rw [upG_off _ _ _ _ (by omega)]; exact h.f3, fun i hi => by rw [upG_off _ _ _ _ (by omega)]; exact h.off i hi⟩
theorem J6.n8 (h : J6 T base E m cs w0 b0 b4 false b9 b13 b17 x0 x4 x8 x9 x13 x17 F w) (hb : Below w.heap.size w w') (hg : w.heap.size ≤ g) (hr : IRow w' g (List.replicate m 0)) (hm : m ≤ 1048576) : J6 T base E m cs w0 b0 b4 true b9 b13 b17 x0 x4 (sl g m) x9 x13 x17 (upG F 1 (wholeR g (List.replicate m 0))) w' :=
  ⟨h.sq.row6 h.f1 hb hg hr (by simpa using hm), h.bw.trans (hb.mono h.sq.hb), by rw [upG_off _ _ _ _ (by omega)]; exact h.f5, by rw [upG_off _ _ _ _ (by omega)]; exact h.f0, ⟨g, by simp, upG_at _ _ _⟩, by rw [upG_off _ _ _ _ (by omega)]; exact h.f6, by rw [upG_off _ _ _ _ (by omega)]; exact h.f2, by rw [upG_off _ _ _ _ (by omega)]; exact h.f3, fun i hi => by rw [upG_off _ _ _ _ (by omega)]; exact h.off i hi⟩
theorem J6.n13 (h : J6 T base E m cs w0 b0 b4 b8 b9 false b17 x0 x4 x8 x9 x13 x17 F w) (hb : Below w.heap.size w w') (hg : w.heap.size ≤ g) (hr : IRow w' g (List.replicate m (-1))) (hm : m ≤ 1048576) : J6 T base E m cs w0 b0 b4 b8 b9 true b17 x0 x4 x8 x9 (sl g m) x17 (upG F 2 (wholeR g (List.replicate m (-1)))) w' :=
  ⟨h.sq.row6 h.f2 hb hg hr (by simpa using hm), h.bw.trans (hb.mono h.sq.hb), by rw [upG_off _ _ _ _ (by omega)]; exact h.f5, by rw [upG_off _ _ _ _ (by omega)]; exact h.f0, by rw [upG_off _ _ _ _ (by omega)]; exact h.f1, by rw [upG_off _ _ _ _ (by omega)]; exact h.f6, ⟨g, by simp, upG_at _ _ _⟩, by rw [upG_off _ _ _ _ (by omega)]; exact h.f3, fun i hi => by rw [upG_off _ _ _ _ (by omega)]; exact h.off i hi⟩
theorem J6.n17 (h : J6 T base E m cs w0 b0 b4 b8 b9 b13 false x0 x4 x8 x9 x13 x17 F w) (hb : Below w.heap.size w w') (hg : w.heap.size ≤ g) (hr : IRow w' g (List.replicate m 0)) (hm : m ≤ 1048576) : J6 T base E m cs w0 b0 b4 b8 b9 b13 true x0 x4 x8 x9 x13 (sl g m) (upG F 3 (wholeR g (List.replicate m 0))) w' :=
  ⟨h.sq.row6 h.f3 hb hg hr (by simpa using hm), h.bw.trans (hb.mono h.sq.hb), by rw [upG_off _ _ _ _ (by omega)]; exact h.f5, by rw [upG_off _ _ _ _ (by omega)]; exact h.f0, by rw [upG_off _ _ _ _ (by omega)]; exact h.f1, by rw [upG_off _ _ _ _ (by omega)]; exact h.f6, by rw [upG_off _ _ _ _ (by omega)]; exact h.f2, ⟨g, by simp, upG_at _ _ _⟩, fun i hi => by rw [upG_off _ _ _ _ (by omega)]; exact h.off i hi⟩
end
theorem makeZ (n : Nat) (hn : n ≤ 1048576) (W : World) : (Instr.makeSlice 64 (.int .i64 (n : Int)) (.int .i64 (n : Int))).run Try.prog W = .ok (.slice (some ⟨W.heap.size, 0, none⟩) n n) (W.alloc (.cells (intsV (List.replicate n 0)).toArray 3)) := by
  obtain ⟨i0, hi0, hz0, hz1, hz2⟩ := info_parts infoIntG
  have h := run_make (w := W) (P := Try.prog) 64 3 i0 (.int .i64 0) Try.underlying64 hi0 hz0 .i64 .i64 (n : Int) (n : Int) (by omega) (by omega) (by rw [hz2]; omega) (by omega)
  have e : intsV (List.replicate n 0) = (madeCells #[Value.int .i64 0] n).toList := by rw [madeInt]; simp [intsV]
  rw [h, Int.toNat_natCast, hz1, Nat.mul_one, e, Array.toArray_toList]
  rfl
def I6 (pa : Value → Value → Value → Value → Value → Value → Act) (T : TypeId) (base E m : Nat) (cs : List Value) (w0 : World) (b0 b4 b8 b9 b13 b17 : Bool) (a : Act) (w : World) : Prop := ∃ x0 x4 x8 x9 x13 x17 F, a = pa x0 x4 x8 x9 x13 x17 ∧ J6 T base E m cs w0 b0 b4 b8 b9 b13 b17 x0 x4 x8 x9 x13 x17 F w
end Go.Proofs.Ytagagpappjkgbaa
