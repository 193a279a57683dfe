/-
  The runner's cell.
  The runner's new table.
  The runner's create.
  What comes over a way, as it lies.
-/
import Derived.Test.YtagagpappjkgbaaJx15
import Derived.Laws.MakeOwn
namespace Go.Proofs.Ytagagpappjkgbaa
set_option linter.unusedVariables false
set_option linter.unusedSimpArgs false
open Go.RowKit Go.Shelf Go.Sort

section
variable {n0 base E : Nat} {fs : List SF} {cm : List (List (Int × Int))} {r : XR} {M : XM} {F : Nat → GRw} {w : World}
/-- A table as it lies. -/
theorem XOk.tab_at (h : XOk n0 base E fs cm r M F w) {t : Nat} {T : XT} (hT : r.tabs[t]? = some T) : w.cell? ⟨M.tb t, 0, none⟩ = some (.int .i64 T.rows) ∧ w.cell? ⟨M.tb t, 1, none⟩ = some (.int .i64 T.cols) ∧ w.cell? ⟨M.tb t, 2, none⟩ = some (.slice (M.tA t) T.cells.length (M.tC t)) := by
  have ho := h.sq.at (h.ft t T hT).1
  have c : ∀ q, q < 1 * 3 → w.cell? ⟨M.tb t, q, none⟩ = ([.int .i64 T.rows, .int .i64 T.cols, .slice (M.tA t) T.cells.length (M.tC t)] : List Value)[q]? := fun q hq => ho.cellAt q hq
  exact ⟨c 0 (by omega), c 1 (by omega), c 2 (by omega)⟩
theorem XOk.tcell (h : XOk n0 base E fs cm r M F w) {t : Nat} {T : XT} (hT : r.tabs[t]? = some T) {k : Nat} (hk : k < T.cells.length) : ∃ g, M.tA t = some ⟨g, 0, none⟩ ∧ w.cell? ⟨g, k, none⟩ = some (.int .i64 (T.cells.getD k 0)) ∧ w.frozen? ⟨g, k, none⟩ = false := by
  have ho := h.sq.at (h.ft t T hT).2
  rcases id ho.2 with ⟨e, e0⟩ | ⟨g, cap, cur, e, -, hg, -⟩
  · exact absurd e0 (by show T.cells.length ≠ 0; omega)
  · have e1 : M.tA t = some ⟨g, 0, none⟩ := by injection e
    refine ⟨g, e1, ?_, Lib.frozen_of_heap hg k⟩
    have ho' : w.ownsRow base 2 1 (.slice (some ⟨g, 0, none⟩) T.cells.length (M.tC t)) T.cells.length (intsV T.cells) := by rw [← e1]; exact ho
    rw [ho'.cellAt k (by omega)]
    simp [intsV, List.getD, hk]
theorem XOk.tab_set (h : XOk n0 base E fs cm r M F w) {t k g : Nat} {T : XT} (hT : r.tabs[t]? = some T) (hk : k < T.cells.length) (hg : M.tA t = some ⟨g, 0, none⟩) (u : Int) :
    (∃ F', XOk n0 base E fs cm { r with tabs := r.tabs.set t { T with cells := T.cells.set k u } } M F' (w.setCell ⟨g, k, none⟩ (.int .i64 u))) ∧ Below base w (w.setCell ⟨g, k, none⟩ (.int .i64 u)) := by
  have hF := (h.ft t T hT).2
  have hF' : F (9 + 4 * t) = ⟨2, 1, .slice (some ⟨g, 0, none⟩) T.cells.length (M.tC t), T.cells.length, intsV T.cells⟩ := by rw [hF, ← hg]; rfl
  have s1 := h.sq.put hF' k (.int .i64 u)
  have hb := h.sq.b_put hF' k (.int .i64 u)
  have hn : Below n0 w _ := hb.mono h.n0b
  have ht : t < r.tabs.length := (List.getElem?_eq_some_iff.mp hT).1
  refine ⟨⟨_, ⟨s1, fun l hl => ?_, h.ol, ?_, fun i' L hL => ?_, fun i' ps' hps => ?_, fun t' T' hT' => ?_, fun t' ht' => ?_, h.lv, h.lb, h.pn, h.cn, h.lp, h.lc, fun i f v hf hv => ⟨(h.sr i f v hf hv).1.keep hn, (h.sr i f v hf hv).2.1.keep hn, (h.sr i f v hf hv).2.2⟩, h.ls, h.inn.keep hn, h.ic, h.n0b, h.lf⟩⟩, hb⟩
  · rw [upG_off _ _ _ _ (by omega)]
    have e : rowX { r with tabs := r.tabs.set t { T with cells := T.cells.set k u } } M l = rowX r M l := by rcases l with _ | _ | _ | _ | l <;> rfl
    rw [e]; exact h.fr l hl
  · rw [upG_off _ _ _ _ (by omega)]; exact h.f5
  · rw [upG_off _ _ _ _ (by omega)]; exact h.fc i' L hL
  · rw [upG_off _ _ _ _ (by omega)]; exact h.fp i' ps' hps
  · have h2 : (r.tabs.set t { T with cells := T.cells.set k u })[t']? = some T' := hT'
    rw [upG_off _ _ (8 + 4 * t') _ (by omega)]
    by_cases e : t' = t
    · subst e
      rw [List.getElem?_set_self ht] at h2
      injection h2 with h2
      rw [upG_at, ← h2, (h.ft t' T hT).1]
      refine ⟨?_, ?_⟩
      · unfold tabR; rw [List.length_set]
      · unfold celR; rw [List.length_set, ← hg]; simp [intsV, List.map_set]
    · rw [upG_off _ _ _ _ (by omega)]
      rw [List.getElem?_set_ne (fun h => e h.symm)] at h2
      exact h.ft t' T' h2
  · have h2 : (r.tabs.set t { T with cells := T.cells.set k u }).length ≤ t' := ht'
    rw [List.length_set] at h2
    rw [upG_off _ _ _ _ (by omega), upG_off _ _ _ _ (by omega)]
    exact h.fn t' h2
set_option maxRecDepth 100000 in
set_option maxHeartbeats 8000000 in
theorem cell_c (h : XOk n0 base E fs cm r M F w) (id : Int) (b q : Nat) (x : SIn) (aA : Option Addr) (ac : Nat) (hi : InAt n0 w b q x aA ac) (hcl : ∀ T ∈ r.tabs, T.cells.length ≤ 1048576) (r' : XR) (hx : cellX r id x = some r') :
    Calls Try.prog 108 #[.pointer (some ⟨E, 0, none⟩), .int .i64 id, .pointer (some ⟨b, q, none⟩)] w fun e w' => e = .returned (.tuple #[]) ∧ XNow n0 base E fs cm r' w w' := by
  unfold cellX at hx
  rw [Option.bind_eq_some_iff] at hx
  obtain ⟨v, hv, hx⟩ := hx
  rw [Option.bind_eq_some_iff] at hx
  obtain ⟨t, ht, hx⟩ := hx
  rw [Option.bind_eq_some_iff] at hx
  obtain ⟨T, hT, hx⟩ := hx
  rw [Option.bind_eq_some_iff] at hx
  obtain ⟨iv, hiv, hx⟩ := hx
  obtain ⟨a0, ha0, hg0⟩ := argX_some hv
  obtain ⟨a1, ha1, hg1⟩ := argX_some hiv
  obtain ⟨ab, ao, rfl, k0, hl0⟩ := hi.arg ha0
  obtain ⟨ab2, ao2, e2, k1, hl1⟩ := hi.arg ha1
  injection e2 with e2
  injection e2 with e3 e4
  subst e3 e4
  rw [Nat.add_zero] at k0
  have hcT := hcl T (List.mem_of_getElem? hT)
  have HI : Hid (∀ A, Below w.heap.size w A → InAt n0 A b q x (some ⟨ab, ao, none⟩) ac) := Lib.hid fun A hA => hi.keep (hA.mono h.n0w)
  have HX : Hid (∀ A, Below w.heap.size w A → XOk n0 base E fs cm r M F A) := Lib.hid fun A hA => h.keep hA
  have hG0 := ex_call w fun A hA => get_c (h.keep hA) a0 v hg0
  have hG1 := ex_call w fun A hA => get_c (h.keep hA) a1 iv hg1
  rw [ht] at hG0
  obtain ⟨pi, hpi⟩ : ∃ pi : Option Addr, pi = iv.of_.map fun t => ⟨M.tb t, 0, none⟩ := ⟨_, rfl⟩
  rw [← hpi] at hG1
  obtain ⟨i, hin⟩ : ∃ i, i = iv.n := ⟨_, rfl⟩
  rw [← hin] at hx hG1
  have fd0 := field1 v.n (.pointer (some ⟨M.tb t, 0, none⟩))
  have fd1 := field0 i (.pointer pi)
  have hG0' : ∀ p : Regrown, Calls Try.prog 103 #[.pointer (some ⟨E, 0, none⟩), .int .i64 a0] (grow (redrawn w p.d) p.os) fun e w' => e = .returned (.agg #[.int .i64 v.n, .pointer (some ⟨M.tb t, 0, none⟩)]) ∧ ∃ q : Regrown, w' = grow (redrawn w q.d) q.os := hG0
  obtain ⟨-, -, t2⟩ := h.tab_at hT
  obtain ⟨cl, hclen⟩ : ∃ cl, cl = T.cells.length := ⟨_, rfl⟩
  rw [← hclen] at t2 hcT hx
  obtain ⟨al, hal⟩ : ∃ al, al = x.args.length := ⟨_, rfl⟩
  have c2 := hi.c2
  rw [← hal] at c2 hl0 hl1
  have z2 := cell_regrown c2
  have z0 := cell_regrown k0
  have z1 := cell_regrown k1
  have zt := cell_regrown t2
  have Hal := Lib.hid hal
  have Hcl := Lib.hid hclen
  have HT := Lib.hid hT
  have Hx := Lib.hid hx
  have Hn0 := Lib.hid h.sq.hb
  clear h hi hx hv hiv hg0 hg1 ha0 ha1 ht hT hpi hin hclen hal hcl c2 k0 k1 t2 hG0
  go_enter Try.func108, Try.ntmps108
  go_upto_region 0 with fail
  refine wp_region_quiet_below (by kernel_rfl) (by kernel_rfl) ?_
  iterate 8 (go_big_quiet_step (exact hG0' _))
  repeat (go_big_quiet_step (exact hG1 _))
  refine wpQuiet_nil ?_
  intro X hw'
  obtain ⟨⟨dq, osq⟩, hw''⟩ := hw'
  have HbX : Hid (Below w.heap.size w X) := Lib.hid (by rw [hw'']; exact below_regrown w dq osq)
  clear hw'' hG0' hG1 z0 z1 z2 zt fd0 fd1
  have hB := fun A => below_c i (cl : Int) A
  have HXX := Lib.hid (HX.out X HbX.out)
  have HBb : Hid (Below base w X) := Lib.hid (HbX.out.mono Hn0.out)
  cases hbe : belowX i (cl : Int) with
  | false =>
    have hx := Hx.out
    rw [hbe] at hx hB
    simp only [Bool.not_false, if_true] at hx
    injection hx with hx
    have hS := stop_c HXX.out 4 0
    rw [hx] at hS
    have hB1 := hB X
    clear hx hB hbe
    go_wp2_with (first
      | (go_at_call 128; refine hB1.mono ?_; rintro e w1 ⟨rfl, rfl⟩; clear hB1)
      | (go_at_call 101; refine hS.mono ?_; rintro e w3 ⟨rfl, hN, hb⟩; have HN := Lib.hid hN; have Hb := Lib.hid hb; clear hN hb hS))
    try simp only [Exit.inBlock, Exit.then]
    first
      | refine bodyPost_ret (results_none rfl _ _ _) rfl ?_
      | refine bodyPost_end (results_none rfl _ _ _) rfl ?_
    exact ⟨rfl, ⟨_, _, HN.out⟩, HBb.out.trans Hb.out⟩
  | true =>
    have hx := Hx.out
    rw [hbe] at hx hB
    simp only [Bool.not_true, Bool.false_eq_true, if_false] at hx
    unfold belowX at hbe
    simp only [Bool.and_eq_true, decide_eq_true_eq] at hbe
    obtain ⟨k, rfl⟩ : ∃ k : Nat, i = k := ⟨i.toNat, by omega⟩
    rw [Int.toNat_natCast] at hx
    have hkc : k < cl := by omega
    have hkl : k < T.cells.length := by rw [← Hcl.out]; exact hkc
    obtain ⟨g, hgA, gc, gf⟩ := HXX.out.tcell HT.out hkl
    obtain ⟨cv, hcv⟩ : ∃ cv, cv = T.cells.getD k 0 := ⟨_, rfl⟩
    rw [← hcv] at gc
    have hB1 := hB X
    have c0 := (HI.out X HbX.out).c0
    obtain ⟨op, hop⟩ : ∃ op, op = x.op := ⟨_, rfl⟩
    rw [← hop] at c0 hx
    rw [hgA]
    by_cases h32 : op = 32
    · rw [if_pos h32, Option.map_eq_some_iff] at hx
      obtain ⟨u, hu, rfl⟩ := hx
      obtain ⟨a2, ha2, hg2⟩ := argX_some hu
      obtain ⟨ab2, ao2, e2, k2, hl2⟩ := (HI.out X HbX.out).arg ha2
      injection e2 with e2
      injection e2 with e3 e4
      subst e3 e4
      have c2 := (HI.out X HbX.out).c2
      rw [← Hal.out] at c2 hl2
      have hG2 := get_c HXX.out a2 u hg2
      have d1 : (op == 32) = true := by rw [h32]; rfl
      have hE : ∀ A, Below X.heap.size X A → (∃ F', XOk n0 base E fs cm { r with tabs := r.tabs.set t { T with cells := T.cells.set k u.n } } M F' (A.setCell ⟨g, k, none⟩ (.int .i64 u.n))) ∧ Below base A (A.setCell ⟨g, k, none⟩ (.int .i64 u.n)) ∧ A.cell? ⟨g, k, none⟩ = some (.int .i64 cv) ∧ A.frozen? ⟨g, k, none⟩ = false := fun A hA => by
        obtain ⟨g', e, gc', gf'⟩ := (HXX.out.keep hA).tcell HT.out hkl
        have : g' = g := by rw [hgA] at e; injection e with e; injection e with e; exact e.symm
        subst this
        obtain ⟨q1, q2⟩ := (HXX.out.keep hA).tab_set HT.out hkl hgA u.n
        exact ⟨q1, q2, by rw [hcv]; exact gc', gf'⟩
      have HE := Lib.hid hE
      have fd2 := field0 u.n (.pointer (u.of_.map fun t => ⟨M.tb t, 0, none⟩))
      have HbX0 : Hid (base ≤ X.heap.size) := Lib.hid HXX.out.sq.hb
      clear hu hg2 ha2 hbe hop hcv hB hE hkl h32
      go_wp2_with (first
        | (go_at_call 128; refine hB1.mono ?_; rintro e w1 ⟨rfl, rfl⟩; clear hB1)
        | (go_at_call 103; refine hG2.mono ?_; rintro e w1 ⟨rfl, hb1⟩; clear gc gf; obtain ⟨q1, q2, gc, gf⟩ := HE.out w1 hb1; have Hq1 := Lib.hid q1; have Hq2 := Lib.hid ((hb1.mono HbX0.out).trans q2); clear q1 q2 hb1 hG2))
      try simp only [Exit.inBlock, Exit.then]
      first
        | refine bodyPost_ret (results_none rfl _ _ _) rfl ?_
        | refine bodyPost_end (results_none rfl _ _ _) rfl ?_
      exact ⟨rfl, ⟨_, Hq1.out⟩, HBb.out.trans Hq2.out⟩
    · rw [if_neg h32, Option.bind_eq_some_iff] at hx
      obtain ⟨c', hc', hs⟩ := hx
      have hce : c' = cv := by
        rw [hcv]
        simp [List.getD, hc']
      subst hce
      have hS := (set_c HXX.out id ⟨c', none⟩ r' hs)
      have d1 : (op == 32) = false := by simpa using h32
      clear hs hc' hbe hop hcv hB hkl h32
      go_wp2_with (first
        | (go_at_call 128; refine hB1.mono ?_; rintro e w1 ⟨rfl, rfl⟩; clear hB1)
        | (go_at_call 105; refine hS.mono ?_; rintro e w1 ⟨rfl, hN⟩; have HN := Lib.hid (hN.now HBb.out); clear hN hS))
      try simp only [Exit.inBlock, Exit.then]
      first
        | refine bodyPost_ret (results_none rfl _ _ _) rfl ?_
        | refine bodyPost_end (results_none rfl _ _ _) rfl ?_
      exact ⟨rfl, HN.out⟩
end
end Go.Proofs.Ytagagpappjkgbaa
namespace Go.Proofs.Ytagagpappjkgbaa
set_option linter.unusedVariables false
set_option linter.unusedSimpArgs false
open Go.RowKit Go.Shelf Go.Sort

/-- Which rows are spoken of are there. -/
def RefsOk (r : XR) : Prop := ∀ v : XV, (v ∈ r.args ∨ v ∈ r.coming ∨ (∃ k ∈ r.kept, k.was.v = v) ∨ (∃ ps ∈ r.places, ∃ p ∈ ps, p.v = v)) → ∀ t, v.of_ = some t → t < r.tabs.length
/-- Where a new table lies. -/
def upT (M : XM) (t b : Nat) (a : Option Addr) (c : Nat) : XM := { M with tb := fun j => if j = t then b else M.tb j, tA := fun j => if j = t then a else M.tA j, tC := fun j => if j = t then c else M.tC j }
theorem flat_cong {α β : Type} {f g : α → List β} : ∀ (l : List α), (∀ a ∈ l, f a = g a) → l.flatMap f = l.flatMap g
  | [], _ => rfl
  | a :: l, h => by rw [List.flatMap_cons, List.flatMap_cons, h a (by simp), flat_cong l (fun b hb => h b (by simp [hb]))]
theorem ref_upT (M : XM) (t b : Nat) (a : Option Addr) (c : Nat) (o : Option Nat) (h : ∀ s, o = some s → s < t) : (o.map fun s => (⟨(upT M t b a c).tb s, 0, none⟩ : Addr)) = o.map fun s => ⟨M.tb s, 0, none⟩ := by
  cases o with
  | none => rfl
  | some s => have := h s rfl; simp only [Option.map_some, upT, if_neg (show ¬ s = t by omega)]
theorem infoI64G : (Try.prog.info? 2).map (fun i => (i.zero, i.size, i.bytes)) = some (some (.int .i64 0), 1, 8) := by kernel_rfl
theorem make64 (n : Nat) (hn : n ≤ 1048576) (W : World) : (Instr.makeSlice 48 (.int .i64 (n : Int)) (.int .i64 (n : Int))).run Try.prog W = .ok (.slice (some ⟨W.heap.size, 0, none⟩) n n) (W.alloc (.cells (intsV (List.replicate n 0)).toArray 2)) := by
  obtain ⟨i0, hi0, hz0, hz1, hz2⟩ := info_parts infoI64G
  have h := run_make (w := W) (P := Try.prog) 48 2 i0 (.int .i64 0) Try.underlying48 hi0 hz0 .i64 .i64 (n : Int) (n : Int) (by omega) (by omega) (by rw [hz2]; omega) (by omega)
  have e : intsV (List.replicate n 0) = (madeCells #[Value.int .i64 0] n).toList := by rw [madeInt]; simp [intsV]
  rw [h, Int.toNat_natCast, hz1, Nat.mul_one, e, Array.toArray_toList]
  rfl
section
variable {n0 base E : Nat} {fs : List SF} {cm : List (List (Int × Int))} {r : XR} {M : XM} {F : Nat → GRw} {w w1 w2 : World}
theorem XOk.tab_new (h : XOk n0 base E fs cm r M F w) (hr : RefsOk r) (rows cols : Int) (n : Nat) (hn : n ≤ 1048576) (hw1 : Below w.heap.size w w1) (ho1 : w1.ownsRow w.heap.size 2 1 (.slice (some ⟨w.heap.size, 0, none⟩) n n) n (intsV (List.replicate n 0)))
    (hw2 : w2 = w1.alloc (.cells #[.int .i64 rows, .int .i64 cols, .slice (some ⟨w.heap.size, 0, none⟩) n n] 162)) :
    (∃ F', XOk n0 base E fs cm { r with tabs := r.tabs ++ [⟨rows, cols, List.replicate n 0⟩] } (upT M r.tabs.length w1.heap.size (some ⟨w.heap.size, 0, none⟩) n) F' w2) ∧ Below w.heap.size w w2 := by
  have hb2 : Below w1.heap.size w1 w2 := by rw [hw2]; exact (Below.refl _ _).alloc (Nat.le_refl _) _
  have hbw : Below w.heap.size w w2 := hw1.trans (hb2.mono hw1.size)
  have hn0 : Below n0 w w2 := hbw.mono (Nat.le_trans h.n0b h.sq.hb)
  have e9 := (h.fn r.tabs.length (Nat.le_refl _)).2
  have e8 := (h.fn r.tabs.length (Nat.le_refl _)).1
  have s1 := h.sq.new (9 + 4 * r.tabs.length) (by rw [e9]; rfl) hw1 ⟨2, 1, .slice (some ⟨w.heap.size, 0, none⟩) n n, n, intsV (List.replicate n 0)⟩ ho1
  have ho2 : w2.ownsRow w1.heap.size 162 3 (.slice (some ⟨w1.heap.size, 0, none⟩) 1 1) 1 [.int .i64 rows, .int .i64 cols, .slice (some ⟨w.heap.size, 0, none⟩) n n] := by
    rw [hw2]
    exact World.ownsRow_lit w1 #[.int .i64 rows, .int .i64 cols, .slice (some ⟨w.heap.size, 0, none⟩) n n] 1 (Nat.le_refl _) (by decide) rfl
  have s2 := s1.new (8 + 4 * r.tabs.length) (by rw [upG_off _ _ _ _ (by omega), e8]; rfl) hb2 ⟨162, 3, .slice (some ⟨w1.heap.size, 0, none⟩) 1 1, 1, [.int .i64 rows, .int .i64 cols, .slice (some ⟨w.heap.size, 0, none⟩) n n]⟩ ho2
  have hv : ∀ v : XV, (v ∈ r.args ∨ v ∈ r.coming ∨ (∃ k ∈ r.kept, k.was.v = v) ∨ (∃ ps ∈ r.places, ∃ p ∈ ps, p.v = v)) → (v.of_.map fun s => (⟨(upT M r.tabs.length w1.heap.size (some ⟨w.heap.size, 0, none⟩) n).tb s, 0, none⟩ : Addr)) = v.of_.map fun s => ⟨M.tb s, 0, none⟩ := fun v hm => ref_upT _ _ _ _ _ _ (hr v hm)
  refine ⟨⟨_, ⟨s2, fun l hl => ?_, h.ol, ?_, fun i' L hL => ?_, fun i' ps' hps => ?_, fun t' T' hT' => ?_, fun t' ht' => ?_, h.lv, h.lb, h.pn, h.cn, h.lp, h.lc, fun i f v hf hv => ⟨(h.sr i f v hf hv).1.keep hn0, (h.sr i f v hf hv).2.1.keep hn0, (h.sr i f v hf hv).2.2⟩, h.ls, h.inn.keep hn0, h.ic, h.n0b, h.lf⟩⟩, hbw⟩
  · rw [upG_off _ _ _ _ (by omega), upG_off _ _ _ _ (by omega), h.fr l hl]
    rcases l with _ | _ | _ | _ | l
    · rfl
    · rfl
    · show (⟨_, _, _, _, _⟩ : GRw) = ⟨_, _, _, _, _⟩
      congr 1
      exact flat_cong _ fun v hm => by unfold vCell; rw [hv v (.inl hm)]
    · show (⟨_, _, _, _, _⟩ : GRw) = ⟨_, _, _, _, _⟩
      congr 1
      exact flat_cong _ fun k hm => by unfold kCell; rw [hv k.was.v (.inr (.inr (.inl ⟨k, hm, rfl⟩)))]; rfl
    · show (⟨_, _, _, _, _⟩ : GRw) = ⟨_, _, _, _, _⟩
      congr 1
      exact flat_cong _ fun v hm => by unfold vCell; rw [hv v (.inr (.inl hm))]
  · rw [upG_off _ _ _ _ (by omega), upG_off _ _ _ _ (by omega), fRow_cong (M := M) (M' := upT M _ _ _ _) rfl rfl]; exact h.f5
  · rw [upG_off _ _ _ _ (by omega), upG_off _ _ _ _ (by omega)]; exact h.fc i' L hL
  · rw [upG_off _ _ _ _ (by omega), upG_off _ _ _ _ (by omega), h.fp i' ps' hps]
    show (⟨_, _, _, _, _⟩ : GRw) = ⟨_, _, _, _, _⟩
    congr 1
    exact flat_cong _ fun p hm => by unfold pCell; rw [hv p.v (.inr (.inr (.inr ⟨ps', List.mem_of_getElem? hps, p, hm, rfl⟩)))]
  · have h2 : (r.tabs ++ [(⟨rows, cols, List.replicate n 0⟩ : XT)])[t']? = some T' := hT'
    by_cases e : t' = r.tabs.length
    · subst e
      rw [List.getElem?_append_right (Nat.le_refl _), Nat.sub_self] at h2
      injection h2 with h2
      subst h2
      rw [upG_at, upG_off _ _ _ _ (by omega), upG_at]
      refine ⟨?_, ?_⟩
      · unfold tabR upT
        simp only [if_true, List.length_replicate]
      · unfold celR upT
        simp only [if_true, List.length_replicate]
    · have hlt : t' < r.tabs.length := by
        have := (List.getElem?_eq_some_iff.mp h2).1
        simp at this
        omega
      rw [List.getElem?_append_left hlt] at h2
      rw [upG_off _ _ _ _ (by omega), upG_off _ _ _ _ (by omega), upG_off _ _ _ _ (by omega), upG_off _ _ _ _ (by omega)]
      have := h.ft t' T' h2
      refine ⟨this.1.trans ?_, this.2.trans ?_⟩
      · unfold tabR upT
        simp only [if_neg e]
      · unfold celR upT
        simp only [if_neg e]
  · have h2 : (r.tabs ++ [(⟨rows, cols, List.replicate n 0⟩ : XT)]).length ≤ t' := ht'
    rw [List.length_append] at h2
    have : ([(⟨rows, cols, List.replicate n 0⟩ : XT)]).length = 1 := rfl
    rw [upG_off _ _ _ _ (by omega), upG_off _ _ _ _ (by omega), upG_off _ _ _ _ (by omega), upG_off _ _ _ _ (by omega)]
    exact h.fn t' (by omega)
end
end Go.Proofs.Ytagagpappjkgbaa
namespace Go.Proofs.Ytagagpappjkgbaa
set_option linter.unusedVariables false
set_option linter.unusedSimpArgs false
open Go.RowKit Go.Shelf Go.Sort

/-- The end of create, over plain data. -/
def tailX (r : XR) (id n m : Int) : Option XR :=
  if !(belowX n 65537) || (!(belowX m 65537) || decide (65536 < n * m)) then some (stopX r 4 0)
  else if r.left < n * m then some (takeX r (n * m))
  else
    let r := takeX r (n * m)
    setX { r with tabs := r.tabs ++ [⟨n, m, List.replicate (n * m).toNat 0⟩] } id ⟨0, some r.tabs.length⟩
section
variable {n0 base E : Nat} {fs : List SF} {cm : List (List (Int × Int))} {r : XR} {M : XM} {F : Nat → GRw} {w : World}
theorem refs_take (h : RefsOk r) (k : Int) : RefsOk (takeX r k) := by
  unfold takeX
  split
  · exact h
  · exact h
theorem new_set (h : XOk n0 base E fs cm r M F w) (hr : RefsOk r) (rows cols : Int) (k : Nat) (hk : k ≤ 1048576) (id : Int) (r' : XR) (hs : setX { r with tabs := r.tabs ++ [⟨rows, cols, List.replicate k 0⟩] } id ⟨0, some r.tabs.length⟩ = some r') :
    Calls Try.prog 105 #[.pointer (some ⟨E, 0, none⟩), .int .i64 id, .agg #[.int .i64 0, .pointer (some ⟨w.heap.size + 1, 0, none⟩)]] ((w.alloc (.cells (intsV (List.replicate k 0)).toArray 2)).alloc (.cells #[.int .i64 rows, .int .i64 cols, .slice (some ⟨w.heap.size, 0, none⟩) k k] 162)) fun e w' => e = .returned (.tuple #[]) ∧ XNow n0 base E fs cm r' w w' := by
  have hal : Below w.heap.size w (w.alloc (.cells (intsV (List.replicate k 0)).toArray 2)) := (Below.refl _ _).alloc (Nat.le_refl _) _
  have ho : (w.alloc (.cells (intsV (List.replicate k 0)).toArray 2)).ownsRow w.heap.size 2 1 (.slice (some ⟨w.heap.size, 0, none⟩) k k) k (intsV (List.replicate k 0)) := by
    have := World.ownsRow_lit (base := w.heap.size) (e := 2) (size := 1) w (intsV (List.replicate k 0)).toArray k (Nat.le_refl _) (Nat.le_trans hk (by decide)) (by simp [intsV])
    exact this
  obtain ⟨⟨F', h2⟩, hb⟩ := h.tab_new hr rows cols k hk hal ho rfl
  have hS := set_c h2 id ⟨0, some r.tabs.length⟩ r' hs
  have e : ((some r.tabs.length).map fun t => (⟨(upT M r.tabs.length (w.alloc (.cells (intsV (List.replicate k 0)).toArray 2)).heap.size (some ⟨w.heap.size, 0, none⟩) k).tb t, 0, none⟩ : Addr)) = some ⟨w.heap.size + 1, 0, none⟩ := by
    show some (⟨if r.tabs.length = r.tabs.length then _ else _, 0, none⟩ : Addr) = _
    rw [if_pos rfl]
    congr 2
    exact Array.size_push _
  rw [e] at hS
  exact hS.mono fun e w' he => ⟨he.1, he.2.now (hb.mono h.sq.hb)⟩
set_option maxRecDepth 100000 in
set_option maxHeartbeats 8000000 in
theorem create_c (h : XOk n0 base E fs cm r M F w) (hr : RefsOk r) (id : Int) (b q : Nat) (x : SIn) (aA : Option Addr) (ac : Nat) (hi : InAt n0 w b q x aA ac) (r' : XR) (hx : createX r id x = some r') :
    Calls Try.prog 107 #[.pointer (some ⟨E, 0, none⟩), .int .i64 id, .pointer (some ⟨b, q, none⟩)] w fun e w' => e = .returned (.tuple #[]) ∧ XNow n0 base E fs cm r' w w' := by
  unfold createX at hx
  rw [Option.bind_eq_some_iff] at hx
  obtain ⟨v, hv, hx⟩ := hx
  rw [Option.bind_eq_some_iff] at hx
  obtain ⟨m, hm, hx⟩ := hx
  have hx : tailX r id v.n m = some r' := hx
  obtain ⟨a0, ha0, hg0⟩ := argX_some hv
  obtain ⟨ab, ao, rfl, k0, hl0⟩ := hi.arg ha0
  rw [Nat.add_zero] at k0
  have HI : Hid (∀ A, Below w.heap.size w A → InAt n0 A b q x (some ⟨ab, ao, none⟩) ac) := Lib.hid fun A hA => hi.keep (hA.mono h.n0w)
  have HX : Hid (∀ A, Below w.heap.size w A → XOk n0 base E fs cm r M F A) := Lib.hid fun A hA => h.keep hA
  have hG0 := get_c h a0 v hg0
  obtain ⟨pv, hpv⟩ : ∃ pv : Option Addr, pv = v.of_.map fun t => ⟨M.tb t, 0, none⟩ := ⟨_, rfl⟩
  rw [← hpv] at hG0
  obtain ⟨n, hn⟩ : ∃ n, n = v.n := ⟨_, rfl⟩
  rw [← hn] at hG0 hx
  have fd0 := field0 n (.pointer pv)
  obtain ⟨al, hal⟩ : ∃ al, al = x.args.length := ⟨_, rfl⟩
  have c2 := hi.c2
  rw [← hal] at c2 hl0
  have Hal := Lib.hid hal
  have Hx := Lib.hid hx
  have Hm := Lib.hid hm
  have Hr := Lib.hid hr
  have Hn0 := Lib.hid h.sq.hb
  clear h hi hx hv hg0 ha0 hm hpv hn hal hr
  go_enter Try.func107, Try.ntmps107
  go_upto_region 1 with (go_at_call 103; refine hG0.mono ?_; rintro e X ⟨rfl, hX⟩; have HbX := Lib.hid hX; clear hX hG0)
  clear fd0 k0 c2
  have HXX := Lib.hid (HX.out X HbX.out)
  have HBb : Hid (Below base w X) := Lib.hid (HbX.out.mono Hn0.out)
  have c0 := (HI.out X HbX.out).c0
  obtain ⟨op, hop⟩ : ∃ op, op = x.op := ⟨_, rfl⟩
  rw [← hop] at c0
  by_cases h31 : op = 31
  · have d1 : (op == 31) = true := by rw [h31]; rfl
    have hm := Hm.out
    rw [← hop, if_pos h31, Option.map_eq_some_iff] at hm
    obtain ⟨u, hu, hum⟩ := hm
    obtain ⟨a1, ha1, hg1⟩ := argX_some hu
    obtain ⟨ab2, ao2, e2, k1, hl1⟩ := (HI.out X HbX.out).arg ha1
    injection e2 with e2
    injection e2 with e3 e4
    subst e3 e4
    have c2 := (HI.out X HbX.out).c2
    rw [← Hal.out] at c2 hl1
    have hG1 := get_c HXX.out a1 u hg1
    obtain ⟨pu, hpu⟩ : ∃ pu : Option Addr, pu = u.of_.map fun t => ⟨M.tb t, 0, none⟩ := ⟨_, rfl⟩
    rw [← hpu, hum] at hG1
    have fd1 := field0 m (.pointer pu)
    clear hop h31 hu hum hg1 ha1 hpu
    go_upto_region 3 with (go_at_call 103; refine hG1.mono ?_; rintro e Y ⟨rfl, hY⟩; have HXY := Lib.hid hY; clear hY hG1)
    clear fd1 k1 c0 c2 d1
    have HY := Lib.hid (HXX.out.keep HXY.out)
    have HBY : Hid (Below base w Y) := Lib.hid (HBb.out.trans (HXY.out.mono HXX.out.sq.hb))
    have hx := Hx.out
    unfold tailX at hx
    have hlf := HY.out.lf
    have hB1 := below_c n 65537
    have hB2 := below_c m 65537
    have HS := Lib.hid (stop_c HY.out 4 0)
    cases hb1 : belowX n 65537 with
    | false =>
      rw [hb1] at hx hB1
      simp only [Bool.not_false, Bool.true_or, if_true] at hx
      injection hx with hx
      rw [hx] at HS
      have hS := HS.out
      clear hx hb1 hB2 hlf
      go_wp2_with (first
        | (go_at_call 128; refine (hB1 _).mono ?_; rintro e w1 ⟨rfl, rfl⟩; clear hB1)
        | (go_at_call 101; refine hS.mono ?_; rintro e w3 ⟨rfl, hN, hb⟩; have HN := Lib.hid hN; have Hb := Lib.hid hb; clear hN hb hS))
      try simp only [Exit.inBlock, Exit.then]
      first
        | refine bodyPost_ret (results_none rfl _ _ _) rfl ?_
        | refine bodyPost_end (results_none rfl _ _ _) rfl ?_
      exact ⟨rfl, ⟨_, _, HN.out⟩, HBY.out.trans Hb.out⟩
    | true =>
      rw [hb1] at hx hB1
      simp only [Bool.not_true, Bool.false_or] at hx
      cases hb2 : belowX m 65537 with
      | false =>
        rw [hb2] at hx hB2
        simp only [Bool.not_false, Bool.true_or, if_true] at hx
        injection hx with hx
        rw [hx] at HS
        have hS := HS.out
        clear hx hb1 hb2 hlf
        go_wp2_with (first
          | (go_at_call 128; refine (hB1 _).mono ?_; rintro e w1 ⟨rfl, rfl⟩; clear hB1)
          | (go_at_call 128; refine (hB2 _).mono ?_; rintro e w1 ⟨rfl, rfl⟩; clear hB2)
          | (go_at_call 101; refine hS.mono ?_; rintro e w3 ⟨rfl, hN, hb⟩; have HN := Lib.hid hN; have Hb := Lib.hid hb; clear hN hb hS))
        try simp only [Exit.inBlock, Exit.then]
        first
          | refine bodyPost_ret (results_none rfl _ _ _) rfl ?_
          | refine bodyPost_end (results_none rfl _ _ _) rfl ?_
        exact ⟨rfl, ⟨_, _, HN.out⟩, HBY.out.trans Hb.out⟩
      | true =>
        rw [hb2] at hx hB2
        simp only [Bool.not_true, Bool.false_or] at hx
        unfold belowX at hb1 hb2
        simp only [Bool.and_eq_true, decide_eq_true_eq] at hb1 hb2
        obtain ⟨n1, rfl⟩ : ∃ k : Nat, n = k := ⟨n.toNat, by omega⟩
        obtain ⟨m1, rfl⟩ : ∃ k : Nat, m = k := ⟨m.toNat, by omega⟩
        obtain ⟨k, hk⟩ : ∃ k : Nat, k = n1 * m1 := ⟨_, rfl⟩
        have hki : (n1 : Int) * (m1 : Int) = k := by rw [hk]; push_cast; rfl
        have hkb : k ≤ 65536 * 65536 := by rw [hk]; exact Nat.mul_le_mul (by omega) (by omega)
        have hwr : IntKind.i64.wrap ((n1 : Int) * (m1 : Int)) = k := by rw [hki, IntKind.wrap_i64]; omega
        skip
        rw [hki] at hx
        by_cases hbig : (65536 : Int) < k
        · have d3 : decide ((k : Int) > 65536) = true := decide_eq_true (by omega)
          rw [decide_eq_true hbig] at hx
          simp only [if_true] at hx
          injection hx with hx
          rw [hx] at HS
          have hS := HS.out
          clear hx hb1 hb2 hlf hk hki hkb hbig
          go_wp2_with (first
            | (go_at_call 128; refine (hB1 _).mono ?_; rintro e w1 ⟨rfl, rfl⟩; clear hB1)
            | (go_at_call 128; refine (hB2 _).mono ?_; rintro e w1 ⟨rfl, rfl⟩; clear hB2)
            | (go_at_call 101; refine hS.mono ?_; rintro e w3 ⟨rfl, hN, hb⟩; have HN := Lib.hid hN; have Hb := Lib.hid hb; clear hN hb hS))
          try simp only [Exit.inBlock, Exit.then]
          first
            | refine bodyPost_ret (results_none rfl _ _ _) rfl ?_
            | refine bodyPost_end (results_none rfl _ _ _) rfl ?_
          exact ⟨rfl, ⟨_, _, HN.out⟩, HBY.out.trans Hb.out⟩
        · have d3 : decide ((k : Int) > 65536) = false := decide_eq_false (by omega)
          rw [decide_eq_false hbig] at hx
          simp only [Bool.false_eq_true, if_false] at hx
          by_cases hlk : r.left < k
          · rw [if_pos hlk] at hx
            injection hx with hx
            have hT := take_c HY.out k (by omega)
            rw [decide_eq_false (show ¬ ((k : Int) ≤ r.left) by omega), hx] at hT
            clear hx hb1 hb2 hlf hk hki hkb hbig hlk
            go_wp2_with (first
              | (go_at_call 128; refine (hB1 _).mono ?_; rintro e w1 ⟨rfl, rfl⟩; clear hB1)
              | (go_at_call 128; refine (hB2 _).mono ?_; rintro e w1 ⟨rfl, rfl⟩; clear hB2)
              | (go_at_call 77; refine hT.mono ?_; rintro e w3 ⟨rfl, hN, hb⟩; have HN := Lib.hid hN; have Hb := Lib.hid hb; clear hN hb hT))
            try simp only [Exit.inBlock, Exit.then]
            first
              | refine bodyPost_ret (results_none rfl _ _ _) rfl ?_
              | refine bodyPost_end (results_none rfl _ _ _) rfl ?_
            exact ⟨rfl, ⟨_, _, HN.out⟩, HBY.out.trans Hb.out⟩
          · rw [if_neg hlk] at hx
            have hT := take_c HY.out k (by omega)
            rw [decide_eq_true (show ((k : Int) ≤ r.left) by omega)] at hT
            have Hx2 := Lib.hid hx
            have Hkk := Lib.hid (show k ≤ 1048576 by omega)
            clear hx hb1 hb2 hlf hk hki hkb hbig hlk
            go_upto_region 6 with (first
              | (go_at_call 128; refine (hB1 _).mono ?_; rintro e w1 ⟨rfl, rfl⟩; clear hB1)
              | (go_at_call 128; refine (hB2 _).mono ?_; rintro e w1 ⟨rfl, rfl⟩; clear hB2)
              | (go_at_call 77; refine hT.mono ?_; rintro e Z ⟨rfl, hN, hb⟩; have HN := Lib.hid hN; have Hb := Lib.hid hb; clear hN hb hT))
            have hmk := make64 k Hkk.out
            have hS := new_set HN.out (refs_take Hr.out k) (n1 : Int) (m1 : Int) k Hkk.out id r' (by have := Hx2.out; rw [Int.toNat_natCast] at this; exact this)
            go_wp2_with (go_at_call 105; refine hS.mono ?_; rintro e Y2 ⟨rfl, hN2⟩; have HN2 := Lib.hid hN2; clear hN2 hS)
            try simp only [Exit.inBlock, Exit.then]
            first
              | refine bodyPost_ret (results_none rfl _ _ _) rfl ?_
              | refine bodyPost_end (results_none rfl _ _ _) rfl ?_
            exact ⟨rfl, HN2.out.1, (HBY.out.trans Hb.out).trans HN2.out.2⟩
  · have d1 : (op == 31) = false := by simpa using h31
    have hm := Hm.out
    rw [← hop, if_neg h31] at hm
    injection hm with hm
    subst hm
    clear hop h31
    obtain ⟨Y, hY⟩ : ∃ Y, Y = X := ⟨_, rfl⟩
    rw [← hY] at HXX HBb c0 ⊢
    clear hY
    have HY := HXX
    have HBY := HBb
    have hx := Hx.out
    unfold tailX at hx
    have hlf := HY.out.lf
    have hB1 := below_c n 65537
    have hB2 := below_c 1 65537
    have HS := Lib.hid (stop_c HY.out 4 0)
    cases hb1 : belowX n 65537 with
    | false =>
      rw [hb1] at hx hB1
      simp only [Bool.not_false, Bool.true_or, if_true] at hx
      injection hx with hx
      rw [hx] at HS
      have hS := HS.out
      clear hx hb1 hB2 hlf
      go_wp2_with (first
        | (go_at_call 128; refine (hB1 _).mono ?_; rintro e w1 ⟨rfl, rfl⟩; clear hB1)
        | (go_at_call 101; refine hS.mono ?_; rintro e w3 ⟨rfl, hN, hb⟩; have HN := Lib.hid hN; have Hb := Lib.hid hb; clear hN hb hS))
      try simp only [Exit.inBlock, Exit.then]
      first
        | refine bodyPost_ret (results_none rfl _ _ _) rfl ?_
        | refine bodyPost_end (results_none rfl _ _ _) rfl ?_
      exact ⟨rfl, ⟨_, _, HN.out⟩, HBY.out.trans Hb.out⟩
    | true =>
      rw [hb1] at hx hB1
      simp only [Bool.not_true, Bool.false_or] at hx
      cases hb2 : belowX 1 65537 with
      | false =>
        rw [hb2] at hx hB2
        simp only [Bool.not_false, Bool.true_or, if_true] at hx
        injection hx with hx
        rw [hx] at HS
        have hS := HS.out
        clear hx hb1 hb2 hlf
        go_wp2_with (first
          | (go_at_call 128; refine (hB1 _).mono ?_; rintro e w1 ⟨rfl, rfl⟩; clear hB1)
          | (go_at_call 128; refine (hB2 _).mono ?_; rintro e w1 ⟨rfl, rfl⟩; clear hB2)
          | (go_at_call 101; refine hS.mono ?_; rintro e w3 ⟨rfl, hN, hb⟩; have HN := Lib.hid hN; have Hb := Lib.hid hb; clear hN hb hS))
        try simp only [Exit.inBlock, Exit.then]
        first
          | refine bodyPost_ret (results_none rfl _ _ _) rfl ?_
          | refine bodyPost_end (results_none rfl _ _ _) rfl ?_
        exact ⟨rfl, ⟨_, _, HN.out⟩, HBY.out.trans Hb.out⟩
      | true =>
        rw [hb2] at hx hB2
        simp only [Bool.not_true, Bool.false_or] at hx
        unfold belowX at hb1 hb2
        simp only [Bool.and_eq_true, decide_eq_true_eq] at hb1 hb2
        obtain ⟨n1, rfl⟩ : ∃ k : Nat, n = k := ⟨n.toNat, by omega⟩
        obtain ⟨m1, hm1⟩ : ∃ k : Nat, k = 1 := ⟨1, rfl⟩
        obtain ⟨k, hk⟩ : ∃ k : Nat, k = n1 * m1 := ⟨_, rfl⟩
        have hki : (n1 : Int) * 1 = k := by rw [hk]; rw [hm1]; simp
        have hkb : k ≤ 65536 * 65536 := by rw [hk]; exact Nat.mul_le_mul (by omega) (by omega)
        have hwr : IntKind.i64.wrap ((n1 : Int) * 1) = k := by rw [hki, IntKind.wrap_i64]; omega
        have hwr2 : IntKind.i64.wrap (n1 : Int) = k := by have := hwr; rw [Int.mul_one] at this; exact this
        clear hwr
        rw [hki] at hx
        by_cases hbig : (65536 : Int) < k
        · have d3 : decide ((k : Int) > 65536) = true := decide_eq_true (by omega)
          rw [decide_eq_true hbig] at hx
          simp only [if_true] at hx
          injection hx with hx
          rw [hx] at HS
          have hS := HS.out
          clear hx hb1 hb2 hlf hk hki hkb hbig
          go_wp2_with (first
            | (go_at_call 128; refine (hB1 _).mono ?_; rintro e w1 ⟨rfl, rfl⟩; clear hB1)
            | (go_at_call 128; refine (hB2 _).mono ?_; rintro e w1 ⟨rfl, rfl⟩; clear hB2)
            | (go_at_call 101; refine hS.mono ?_; rintro e w3 ⟨rfl, hN, hb⟩; have HN := Lib.hid hN; have Hb := Lib.hid hb; clear hN hb hS))
          try simp only [Exit.inBlock, Exit.then]
          first
            | refine bodyPost_ret (results_none rfl _ _ _) rfl ?_
            | refine bodyPost_end (results_none rfl _ _ _) rfl ?_
          exact ⟨rfl, ⟨_, _, HN.out⟩, HBY.out.trans Hb.out⟩
        · have d3 : decide ((k : Int) > 65536) = false := decide_eq_false (by omega)
          rw [decide_eq_false hbig] at hx
          simp only [Bool.false_eq_true, if_false] at hx
          by_cases hlk : r.left < k
          · rw [if_pos hlk] at hx
            injection hx with hx
            have hT := take_c HY.out k (by omega)
            rw [decide_eq_false (show ¬ ((k : Int) ≤ r.left) by omega), hx] at hT
            clear hx hb1 hb2 hlf hk hki hkb hbig hlk
            go_wp2_with (first
              | (go_at_call 128; refine (hB1 _).mono ?_; rintro e w1 ⟨rfl, rfl⟩; clear hB1)
              | (go_at_call 128; refine (hB2 _).mono ?_; rintro e w1 ⟨rfl, rfl⟩; clear hB2)
              | (go_at_call 77; refine hT.mono ?_; rintro e w3 ⟨rfl, hN, hb⟩; have HN := Lib.hid hN; have Hb := Lib.hid hb; clear hN hb hT))
            try simp only [Exit.inBlock, Exit.then]
            first
              | refine bodyPost_ret (results_none rfl _ _ _) rfl ?_
              | refine bodyPost_end (results_none rfl _ _ _) rfl ?_
            exact ⟨rfl, ⟨_, _, HN.out⟩, HBY.out.trans Hb.out⟩
          · rw [if_neg hlk] at hx
            have hT := take_c HY.out k (by omega)
            rw [decide_eq_true (show ((k : Int) ≤ r.left) by omega)] at hT
            have Hx2 := Lib.hid hx
            have Hkk := Lib.hid (show k ≤ 1048576 by omega)
            clear hx hb1 hb2 hlf hk hki hkb hbig hlk
            go_upto_region 6 with (first
              | (go_at_call 128; refine (hB1 _).mono ?_; rintro e w1 ⟨rfl, rfl⟩; clear hB1)
              | (go_at_call 128; refine (hB2 _).mono ?_; rintro e w1 ⟨rfl, rfl⟩; clear hB2)
              | (go_at_call 77; refine hT.mono ?_; rintro e Z ⟨rfl, hN, hb⟩; have HN := Lib.hid hN; have Hb := Lib.hid hb; clear hN hb hT))
            have hmk := make64 k Hkk.out
            have hS := new_set HN.out (refs_take Hr.out k) (n1 : Int) 1 k Hkk.out id r' (by have := Hx2.out; rw [Int.toNat_natCast] at this; exact this)
            go_wp2_with (go_at_call 105; refine hS.mono ?_; rintro e Y2 ⟨rfl, hN2⟩; have HN2 := Lib.hid hN2; clear hN2 hS)
            try simp only [Exit.inBlock, Exit.then]
            first
              | refine bodyPost_ret (results_none rfl _ _ _) rfl ?_
              | refine bodyPost_end (results_none rfl _ _ _) rfl ?_
            exact ⟨rfl, HN2.out.1, (HBY.out.trans Hb.out).trans HN2.out.2⟩
end
end Go.Proofs.Ytagagpappjkgbaa
namespace Go.Proofs.Ytagagpappjkgbaa
set_option linter.unusedVariables false
set_option linter.unusedSimpArgs false
open Go.RowKit Go.Shelf Go.Sort

theorem upM_upM (M : XM) (k : Nat) (A B : Option Addr) (c d : Nat) : upM (upM M k A c) k B d = upM M k B d := by
  unfold upM
  congr 1
  · funext j
    by_cases h : j = k
    · simp only [if_pos h]
    · simp only [if_neg h]
  · funext j
    by_cases h : j = k
    · simp only [if_pos h]
    · simp only [if_neg h]
theorem upM_same (M : XM) (k : Nat) : upM M k (M.sa k) (M.sc k) = M := by
  have e1 : (fun j => if j = k then M.sa k else M.sa j) = M.sa := funext fun j => by split <;> simp_all
  have e2 : (fun j => if j = k then M.sc k else M.sc j) = M.sc := funext fun j => by split <;> simp_all
  unfold upM
  rw [e1, e2]
theorem own_any (A : Option Addr) (n m c : Nat) : (Value.slice A n c).ownBlock = (Value.slice A m c).ownBlock := by cases A <;> rfl
theorem cutV {A : Option Addr} {n c : Nat} (hn : n ≤ c) (hc : c ≤ 9223372036854775807) (W : World) : (Instr.slice 99 (.slice A n c) none (some (.int .i64 0)) none).run Try.prog W = .ok (.slice A 0 c) W := by
  rw [run_slice_h W 99 A n c (by simp [Program.elem, Try.underlying99]) .i64 0 (by omega) (by omega)]
  go_simp
section
variable {n0 base E : Nat} {fs : List SF} {cm : List (List (Int × Int))} {r : XR} {M : XM} {F : Nat → GRw} {w : World}
theorem XOk.come_at (h : XOk n0 base E fs cm r M F w) {i b : Nat} {L : List (Int × Int)} {c : Int × Int} (hL : cm[i]? = some L) (hc : L[b]? = some c) :
    w.cell? ⟨M.cb i, b * 2, none⟩ = some (.int .i64 c.1) ∧ w.cell? ⟨M.cb i, b * 2 + 1, none⟩ = some (.int .i64 c.2) := by
  have hi : b < L.length := (List.getElem?_eq_some_iff.mp hc).1
  have ho := h.sq.at (h.fc i L hL)
  have k : ∀ q, q < L.length * 2 → w.cell? ⟨M.cb i, q, none⟩ = (L.flatMap wCell)[q]? := fun q hq => ho.cellAt q hq
  have a := flat_at wCell 2 (fun _ => rfl) L b c hc
  exact ⟨(k _ (by omega)).trans (a 0 (by omega)), (k _ (by omega)).trans (a 1 (by omega))⟩
/-- The runner goes on elsewhere, and nothing came over the way yet. -/
theorem XOk.turned (h : XOk n0 base E fs cm r M F w) (t : Nat) :
    (∃ F', XOk n0 base E fs cm { r with now := { r.now with block := t, at_ := 0 }, coming := [] } M F' (((w.setCell ⟨E, 12, none⟩ (.int .i64 (t : Int))).setCell ⟨E, 13, none⟩ (.int .i64 0)).setCell ⟨E, 19, none⟩ (.slice (M.sa 4) 0 (M.sc 4)))) ∧
    Below base w (((w.setCell ⟨E, 12, none⟩ (.int .i64 (t : Int))).setCell ⟨E, 13, none⟩ (.int .i64 0)).setCell ⟨E, 19, none⟩ (.slice (M.sa 4) 0 (M.sc 4))) := by
  have s1 := (h.sq.field 12 (.int .i64 (t : Int))).field 13 (.int .i64 0)
  have b1 : Below base w ((w.setCell ⟨E, 12, none⟩ (.int .i64 (t : Int))).setCell ⟨E, 13, none⟩ (.int .i64 0)) := (h.sq.b_field 12 _).trans ((h.sq.field 12 (.int .i64 (t : Int))).b_field 13 _)
  have h1 : XOk n0 base E fs cm { r with now := { r.now with block := t, at_ := 0 } } M F ((w.setCell ⟨E, 12, none⟩ (.int .i64 (t : Int))).setCell ⟨E, 13, none⟩ (.int .i64 0)) := h.re s1 b1 h.lf rfl rfl rfl rfl rfl rfl rfl rfl
  obtain ⟨W, hW⟩ : ∃ W, W = (w.setCell ⟨E, 12, none⟩ (.int .i64 (t : Int))).setCell ⟨E, 13, none⟩ (.int .i64 0) := ⟨_, rfl⟩
  rw [← hW] at h1 b1 ⊢
  have h4 := h1.fr 4 (by omega)
  have ho := h1.sq.at h4
  have ho0 : W.ownsRow base 156 2 (.slice (M.sa 4) 0 (M.sc 4)) 0 [] := by
    rcases id ho.2 with ⟨e, e0⟩ | ⟨g, cap, cur, e, -⟩
    · have e' : (Value.slice (M.sa 4) r.coming.length (M.sc 4)) = .slice none 0 0 := e
      injection e' with e1 e2 e3
      rw [e1, e3]
      exact World.ownsRow_nil _ _ _ _
    · have e' : (Value.slice (M.sa 4) r.coming.length (M.sc 4)) = .slice (some ⟨g, 0, none⟩) r.coming.length cap := e
      injection e' with e1 e2 e3
      have ho' : W.ownsRow base 156 2 (.slice (some ⟨g, 0, none⟩) r.coming.length (M.sc 4)) r.coming.length (r.coming.flatMap (vCell M.tb)) := by rw [← e1]; exact ho
      have := gr_cut ho' 0 (Nat.zero_le _)
      rw [e1]
      simpa using this
  have s2 := h1.sq.grown 4 (World.grownBy.refl _ _) ⟨156, 2, .slice (M.sa 4) 0 (M.sc 4), 0, []⟩ ho0 (fun g e => .inl (by rw [h4]; exact (own_any _ _ _ _).trans e))
  have s3 := s2.field 19 (.slice (M.sa 4) 0 (M.sc 4))
  have b3 := s2.b_field 19 (.slice (M.sa 4) 0 (M.sc 4))
  have hb := b1.trans b3
  have hn := hb.mono h.n0b
  refine ⟨⟨_, ⟨s3, fun l hl => ?_, h.ol, ?_, fun i' L hL => ?_, fun i' ps' hps => ?_, fun t' T' hT' => ?_, fun t' ht' => ?_, h.lv, h.lb, h.pn, h.cn, h.lp, h.lc, fun i f v hf hv => ⟨(h.sr i f v hf hv).1.keep hn, (h.sr i f v hf hv).2.1.keep hn, (h.sr i f v hf hv).2.2⟩, h.ls, h.inn.keep hn, h.ic, h.n0b, h.lf⟩⟩, hb⟩
  · by_cases e : l = 4
    · subst e; rw [upG_at]; rfl
    · rw [upG_off _ _ _ _ e, h1.fr l hl]
      rcases l with _ | _ | _ | _ | _ | l <;> first | rfl | omega
  · rw [upG_off _ _ _ _ (by omega)]; exact h1.f5
  · rw [upG_off _ _ _ _ (by omega)]; exact h1.fc i' L hL
  · rw [upG_off _ _ _ _ (by omega)]; exact h1.fp i' ps' hps
  · rw [upG_off _ _ _ _ (by omega), upG_off _ _ _ _ (by omega)]; exact h1.ft t' T' hT'
  · rw [upG_off _ _ _ _ (by omega), upG_off _ _ _ _ (by omega)]; exact h1.fn t' ht'
end
end Go.Proofs.Ytagagpappjkgbaa
