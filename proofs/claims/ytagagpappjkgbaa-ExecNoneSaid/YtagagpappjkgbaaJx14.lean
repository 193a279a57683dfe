/-
  The runner's choose, reckon, input.
  The runner's reckon, input.
  The runner's input.
-/
import Derived.Test.YtagagpappjkgbaaJx2
import Derived.Test.YtagagpappjkgbaaJx13
namespace Go.Proofs.Ytagagpappjkgbaa
set_option linter.unusedVariables false
set_option linter.unusedSimpArgs false
open Go.RowKit Go.Shelf Go.Sort

theorem field0 (a : Int) (p : Value) (W : World) : (Instr.field 156 (.agg #[.int .i64 a, p]) 0).run Try.prog W = .ok (.int .i64 a) W := by
  unfold Instr.field
  go_simp
  simp [asAgg]
theorem field1 (a : Int) (p : Value) (W : World) : (Instr.field 156 (.agg #[.int .i64 a, p]) 1).run Try.prog W = .ok p W := by
  unfold Instr.field
  go_simp
  simp [asAgg]
/-- An instruction as it lies. -/
structure InAt (n0 : Nat) (w : World) (b q : Nat) (x : SIn) (aA : Option Addr) (ac : Nat) : Prop where
  lt : b < n0
  c0 : w.cell? ⟨b, q, none⟩ = some (.int .i64 x.op)
  c2 : w.cell? ⟨b, q + 2, none⟩ = some (.slice aA x.args.length ac)
  c3 : w.cell? ⟨b, q + 3, none⟩ = some (.int .i64 x.n)
  c4 : w.cell? ⟨b, q + 4, none⟩ = some (.int .i64 x.to_)
  ar : GNs n0 w (.slice aA x.args.length ac) x.args
theorem InAt.keep {n0 : Nat} {w w' : World} {b q : Nat} {x : SIn} {aA : Option Addr} {ac : Nat} (h : InAt n0 w b q x aA ac) (hb : Below n0 w w') : InAt n0 w' b q x aA ac :=
  ⟨h.lt, (hb.cell (p := ⟨b, q, none⟩) h.lt).trans h.c0, (hb.cell (p := ⟨b, q + 2, none⟩) h.lt).trans h.c2, (hb.cell (p := ⟨b, q + 3, none⟩) h.lt).trans h.c3, (hb.cell (p := ⟨b, q + 4, none⟩) h.lt).trans h.c4, h.ar.keep hb⟩
/-- An argument's cell. -/
theorem InAt.arg {n0 : Nat} {w : World} {b q : Nat} {x : SIn} {aA : Option Addr} {ac : Nat} (h : InAt n0 w b q x aA ac) {i : Nat} {a : Int} (ha : x.args[i]? = some a) : ∃ ab ao, aA = some ⟨ab, ao, none⟩ ∧ w.cell? ⟨ab, ao + i, none⟩ = some (.int .i64 a) ∧ i < x.args.length := by
  obtain ⟨hi, e⟩ := List.getElem?_eq_some_iff.mp ha
  obtain ⟨ab, ao, h1, -, h2⟩ := h.ar.at hi
  exact ⟨ab, ao, h1, by rw [← e]; exact h2, hi⟩
theorem argX_some {r : XR} {x : SIn} {i : Nat} {v : XV} (h : argX r x i = some v) : ∃ a, x.args[i]? = some a ∧ getX r a = some v := by
  unfold argX at h
  rw [Option.bind_eq_some_iff] at h
  exact h
section
variable {n0 base E : Nat} {fs : List SF} {cm : List (List (Int × Int))} {r : XR} {M : XM} {F : Nat → GRw} {w : World}
theorem XOk.bel (h : XOk n0 base E fs cm r M F w) {A : World} (hA : Below w.heap.size w A) : Below base w A := hA.mono h.sq.hb
theorem XTo.now {r' : XR} {w0 w1 w2 : World} (h : XTo n0 base E fs cm r' M w1 w2) (hb : Below base w0 w1) : XNow n0 base E fs cm r' w0 w2 := by
  obtain ⟨⟨M', F', h1, -⟩, h2⟩ := h
  exact ⟨⟨M', F', h1⟩, hb.trans h2⟩
set_option maxRecDepth 100000 in
set_option maxHeartbeats 4000000 in
theorem choose_c (h : XOk n0 base E fs cm r M F w) (id : Int) (b q : Nat) (x : SIn) (aA : Option Addr) (ac : Nat) (hi : InAt n0 w b q x aA ac) (r' : XR) (hx : ((argX r x 0).bind fun c => (argX r x (if c.n = 0 then 2 else 1)).bind fun v => setX r id v) = some r') :
    Calls Try.prog 106 #[.pointer (some ⟨E, 0, none⟩), .int .i64 id, .pointer (some ⟨b, q, none⟩)] w fun e w' => e = .returned (.tuple #[]) ∧ XNow n0 base E fs cm r' w w' := by
  rw [Option.bind_eq_some_iff] at hx
  obtain ⟨c, hc, hx⟩ := hx
  rw [Option.bind_eq_some_iff] at hx
  obtain ⟨v, hv, hs⟩ := hx
  obtain ⟨a0, ha0, hg0⟩ := argX_some hc
  obtain ⟨a1, ha1, hg1⟩ := argX_some hv
  obtain ⟨ab, ao, rfl, k0, hl0⟩ := hi.arg ha0
  have hn : Below w.heap.size w w → n0 ≤ w.heap.size := fun _ => Nat.le_trans h.n0b h.sq.hb
  have hn0 : n0 ≤ w.heap.size := Nat.le_trans h.n0b h.sq.hb
  have HI : Hid (∀ A, Below w.heap.size w A → InAt n0 A b q x (some ⟨ab, ao, none⟩) ac) := Lib.hid fun A hA => hi.keep (hA.mono hn0)
  have hG0 := get_c h a0 c hg0
  have HG1 : Hid (∀ A, Below w.heap.size w A → Calls Try.prog 103 #[.pointer (some ⟨E, 0, none⟩), .int .i64 a1] A fun e w' => e = .returned (.agg #[.int .i64 v.n, .pointer (v.of_.map fun t => ⟨M.tb t, 0, none⟩)]) ∧ Below A.heap.size A w') := Lib.hid fun A hA => get_c (h.keep hA) a1 v hg1
  have HS : Hid (∀ A, Below w.heap.size w A → Calls Try.prog 105 #[.pointer (some ⟨E, 0, none⟩), .int .i64 id, .agg #[.int .i64 v.n, .pointer (v.of_.map fun t => ⟨M.tb t, 0, none⟩)]] A fun e w' => e = .returned (.tuple #[]) ∧ XNow n0 base E fs cm r' w w') := Lib.hid fun A hA => (set_c (h.keep hA) id v r' hs).mono fun e w' he => ⟨he.1, he.2.now (h.bel hA)⟩
  have fd := field0 c.n (.pointer (c.of_.map fun t => ⟨M.tb t, 0, none⟩))
  have c2 := hi.c2
  have hlen := hi.ar.len
  obtain ⟨al, hal⟩ : ∃ al, al = x.args.length := ⟨_, rfl⟩
  rw [← hal] at c2 hl0
  rw [Nat.add_zero] at k0
  have Hal := Lib.hid hal
  by_cases h0 : c.n = 0
  · rw [if_pos h0] at ha1
    obtain ⟨ab', ao', e1, -, hl1⟩ := hi.arg ha1
    rw [← hal] at hl1
    have hk1 : ∀ A, Below w.heap.size w A → A.cell? ⟨ab, ao + 2, none⟩ = some (.int .i64 a1) ∧ A.cell? ⟨b, q + 2, none⟩ = some (.slice (some ⟨ab, ao, none⟩) al ac) := fun A hA => by
      obtain ⟨ab2, ao2, e2, k2, -⟩ := (HI.out A hA).arg ha1
      injection e2 with e2
      injection e2 with e3 e4
      subst e3 e4
      exact ⟨k2, by rw [Hal.out]; exact (HI.out A hA).c2⟩
    have Hk1 := Lib.hid hk1
    have d1 : (c.n != 0) = false := by rw [h0]; rfl
    clear h hi hs hc hv hg0 hg1 ha0 ha1 hn hn0 e1 hk1 h0 hal hlen
    go_enter Try.func106, Try.ntmps106
    go_upto_region 2 with (go_at_call 103; refine hG0.mono ?_; rintro e w1 ⟨rfl, hb1⟩; have Hb1 := Lib.hid hb1; obtain ⟨k1, c21⟩ := Hk1.out w1 hb1; have hG1 := HG1.out w1 hb1; clear hb1 hG0)
    clear c2 k0
    go_wp2_with (first
      | (go_at_call 103; refine hG1.mono ?_; rintro e w2 ⟨rfl, hb2⟩; have hS := HS.out w2 (Hb1.out.trans (hb2.mono Hb1.out.size)); clear hb2 hG1)
      | (go_at_call 105; refine hS.mono ?_; rintro e w3 ⟨rfl, hN⟩; have HN := Lib.hid hN; clear hN hS))
    try simp only [Exit.inBlock, Exit.then]
    refine bodyPost_end (results_none rfl _ _ _) rfl ?_
    exact ⟨rfl, HN.out⟩
  · rw [if_neg h0] at ha1
    obtain ⟨ab', ao', e1, -, hl1⟩ := hi.arg ha1
    rw [← hal] at hl1
    have hk1 : ∀ A, Below w.heap.size w A → A.cell? ⟨ab, ao + 1, none⟩ = some (.int .i64 a1) ∧ A.cell? ⟨b, q + 2, none⟩ = some (.slice (some ⟨ab, ao, none⟩) al ac) := fun A hA => by
      obtain ⟨ab2, ao2, e2, k2, -⟩ := (HI.out A hA).arg ha1
      injection e2 with e2
      injection e2 with e3 e4
      subst e3 e4
      exact ⟨k2, by rw [Hal.out]; exact (HI.out A hA).c2⟩
    have Hk1 := Lib.hid hk1
    have d1 : (c.n != 0) = true := by simpa using h0
    clear h hi hs hc hv hg0 hg1 ha0 ha1 hn hn0 e1 hk1 h0 hal hlen
    go_enter Try.func106, Try.ntmps106
    go_upto_region 1 with (go_at_call 103; refine hG0.mono ?_; rintro e w1 ⟨rfl, hb1⟩; have Hb1 := Lib.hid hb1; obtain ⟨k1, c21⟩ := Hk1.out w1 hb1; have hG1 := HG1.out w1 hb1; clear hb1 hG0)
    clear c2 k0
    go_wp2_with (first
      | (go_at_call 103; refine hG1.mono ?_; rintro e w2 ⟨rfl, hb2⟩; have hS := HS.out w2 (Hb1.out.trans (hb2.mono Hb1.out.size)); clear hb2 hG1)
      | (go_at_call 105; refine hS.mono ?_; rintro e w3 ⟨rfl, hN⟩; have HN := Lib.hid hN; clear hN hS))
    try simp only [Exit.inBlock, Exit.then]
    refine bodyPost_end (results_none rfl _ _ _) rfl ?_
    exact ⟨rfl, HN.out⟩
end
end Go.Proofs.Ytagagpappjkgbaa
namespace Go.Proofs.Ytagagpappjkgbaa
set_option linter.unusedVariables false
set_option linter.unusedSimpArgs false
open Go.RowKit Go.Shelf Go.Sort

section
variable {n0 base E : Nat} {fs : List SF} {cm : List (List (Int × Int))} {r : XR} {M : XM} {F : Nat → GRw} {w : World}
theorem set_n (h : XOk n0 base E fs cm r M F w) (id n : Int) (r' : XR) (hs : setX r id ⟨n, none⟩ = some r') {A : World} (hA : Below w.heap.size w A) :
    Calls Try.prog 105 #[.pointer (some ⟨E, 0, none⟩), .int .i64 id, .agg #[.int .i64 n, .pointer none]] A fun e w' => e = .returned (.tuple #[]) ∧ XNow n0 base E fs cm r' w w' :=
  (set_c (h.keep hA) id ⟨n, none⟩ r' hs).mono fun e w' he => ⟨he.1, he.2.now (h.bel hA)⟩
theorem XOk.n0w (h : XOk n0 base E fs cm r M F w) : n0 ≤ w.heap.size := Nat.le_trans h.n0b h.sq.hb
set_option maxRecDepth 100000 in
set_option maxHeartbeats 4000000 in
theorem reckon_c (h : XOk n0 base E fs cm r M F w) (id : Int) (b q : Nat) (x : SIn) (aA : Option Addr) (ac : Nat) (hi : InAt n0 w b q x aA ac) (r' : XR) (hx : reckonX r id x = some r') :
    Calls Try.prog 111 #[.pointer (some ⟨E, 0, none⟩), .int .i64 id, .pointer (some ⟨b, q, none⟩)] w fun e w' => e = .returned (.tuple #[]) ∧ XNow n0 base E fs cm r' w w' := by
  unfold reckonX at hx
  rw [Option.bind_eq_some_iff] at hx
  obtain ⟨a, ha, hx⟩ := hx
  obtain ⟨a0, ha0, hg0⟩ := argX_some ha
  obtain ⟨ab, ao, rfl, k0, hl0⟩ := hi.arg ha0
  have HI : Hid (∀ A, Below w.heap.size w A → InAt n0 A b q x (some ⟨ab, ao, none⟩) ac) := Lib.hid fun A hA => hi.keep (hA.mono h.n0w)
  have hG0 := get_c h a0 a hg0
  have fd := field0 a.n (.pointer (a.of_.map fun t => ⟨M.tb t, 0, none⟩))
  have c2 := hi.c2
  obtain ⟨al, hal⟩ : ∃ al, al = x.args.length := ⟨_, rfl⟩
  rw [← hal] at c2 hl0
  rw [Nat.add_zero] at k0
  have Hal := Lib.hid hal
  obtain ⟨op, hop⟩ : ∃ op, op = x.op := ⟨_, rfl⟩
  rw [← hop] at hx
  have Hop := Lib.hid hop
  obtain ⟨an, han⟩ : ∃ an, an = a.n := ⟨_, rfl⟩
  rw [← han] at hx hG0 fd
  obtain ⟨pa, hpa⟩ : ∃ pa : Option Addr, pa = a.of_.map fun t => ⟨M.tb t, 0, none⟩ := ⟨_, rfl⟩
  rw [← hpa] at hG0 fd
  cases hone : oneOk op with
  | true =>
    rw [hone, if_pos rfl] at hx
    have HS : Hid (∀ A, Below w.heap.size w A → Calls Try.prog 105 #[.pointer (some ⟨E, 0, none⟩), .int .i64 id, .agg #[.int .i64 (oneV op an), .pointer none]] A fun e w' => e = .returned (.tuple #[]) ∧ XNow n0 base E fs cm r' w w') := Lib.hid fun A hA => set_n h id _ r' hx hA
    have hU := fun A => unary_any op A
    have hO := fun A => aone_any op an A
    rw [hone] at hU hO
    have HU := Lib.hid hU
    have HO := Lib.hid hO
    have HC0 : Hid (∀ A, Below w.heap.size w A → A.cell? ⟨b, q, none⟩ = some (.int .i64 op)) := Lib.hid fun A hA => by rw [Hop.out]; exact (HI.out A hA).c0
    clear h hi hx ha hg0 ha0 hal hop han hpa hone hU hO
    go_enter Try.func111, Try.ntmps111
    go_upto_region 1 with (go_at_call 103; refine hG0.mono ?_; rintro e w1 ⟨rfl, hb1⟩; have Hb1 := Lib.hid hb1; have c0 := HC0.out w1 hb1; have hS := HS.out w1 hb1; have hU1 := HU.out w1; have hO1 := HO.out w1; clear hb1 hG0)
    clear c2 k0 fd
    go_wp2_with (first
      | (go_at_call 131; refine hU1.mono ?_; rintro e w2 ⟨rfl, hw2⟩; rw [← hw2]; clear hw2 w2 hU1)
      | (go_at_call 132; refine hO1.mono ?_; rintro e w2 ⟨rfl, hw2⟩; rw [← hw2]; clear hw2 w2 hO1)
      | (go_at_call 105; refine hS.mono ?_; rintro e w3 ⟨rfl, hN⟩; have HN := Lib.hid hN; clear hN hS))
    try simp only [Exit.inBlock, Exit.then]
    first
      | refine bodyPost_ret (results_none rfl _ _ _) rfl ?_
      | refine bodyPost_end (results_none rfl _ _ _) rfl ?_
    exact ⟨rfl, HN.out⟩
  | false =>
    rw [hone] at hx
    simp only [Bool.false_eq_true, if_false] at hx
    rw [Option.bind_eq_some_iff] at hx
    obtain ⟨bv, hbv, hx⟩ := hx
    obtain ⟨a1, ha1, hg1⟩ := argX_some hbv
    obtain ⟨bn, hbn⟩ : ∃ bn, bn = bv.n := ⟨_, rfl⟩
    rw [← hbn] at hx
    obtain ⟨pb, hpb⟩ : ∃ pb : Option Addr, pb = bv.of_.map fun t => ⟨M.tb t, 0, none⟩ := ⟨_, rfl⟩
    have HG1 : Hid (∀ A, Below w.heap.size w A → Calls Try.prog 103 #[.pointer (some ⟨E, 0, none⟩), .int .i64 a1] A fun e w' => e = .returned (.agg #[.int .i64 bn, .pointer pb]) ∧ Below A.heap.size A w') := Lib.hid fun A hA => by
      rw [hbn, hpb]
      exact get_c (h.keep hA) a1 bv hg1
    have fd1 := field0 bn (.pointer pb)
    have hU := fun A => unary_any op A
    rw [hone] at hU
    have HU := Lib.hid hU
    have hl1 : 1 < al := by rw [Hal.out]; exact (List.getElem?_eq_some_iff.mp ha1).1
    have HC1 : Hid (∀ A, Below w.heap.size w A → A.cell? ⟨b, q, none⟩ = some (.int .i64 op) ∧ A.cell? ⟨b, q + 2, none⟩ = some (.slice (some ⟨ab, ao, none⟩) al ac) ∧ A.cell? ⟨ab, ao + 1, none⟩ = some (.int .i64 a1)) := Lib.hid fun A hA => by
      obtain ⟨ab2, ao2, e2, k2, -⟩ := (HI.out A hA).arg ha1
      injection e2 with e2
      injection e2 with e3 e4
      subst e3 e4
      exact ⟨by rw [Hop.out]; exact (HI.out A hA).c0, by rw [Hal.out]; exact (HI.out A hA).c2, k2⟩
    obtain ⟨ok, hok⟩ : ∃ ok, ok = opOk op bn := ⟨_, rfl⟩
    rw [← hok] at hx
    have hD := fun A => do_any op an bn A
    rw [← hok] at hD
    have HD := Lib.hid hD
    have HS : Hid (ok = true → ∀ A, Below w.heap.size w A → Calls Try.prog 105 #[.pointer (some ⟨E, 0, none⟩), .int .i64 id, .agg #[.int .i64 (opV op an bn), .pointer none]] A fun e w' => e = .returned (.tuple #[]) ∧ XNow n0 base E fs cm r' w w') := Lib.hid fun hk A hA => by
      rw [hk, if_pos rfl] at hx
      exact set_n h id _ r' hx hA
    have HT : Hid (ok = false → ∀ A, Below w.heap.size w A → Calls Try.prog 101 #[.pointer (some ⟨E, 0, none⟩), .int .i64 4, .int .i64 0] A fun e w' => e = .returned (.tuple #[]) ∧ XNow n0 base E fs cm r' w w') := Lib.hid fun hk A hA => by
      rw [hk] at hx
      simp only [Bool.false_eq_true, if_false] at hx
      injection hx with hx
      rw [← hx]
      exact (stop_c (h.keep hA) 4 0).mono fun e w' he => ⟨he.1, ⟨_, _, he.2.1⟩, (h.bel hA).trans he.2.2⟩
    clear h hi hx ha hg0 ha0 hal hop han hpa hone hU hbv hg1 ha1 hbn hpb hok hD
    go_enter Try.func111, Try.ntmps111
    go_upto_region 1 with (go_at_call 103; refine hG0.mono ?_; rintro e w1 ⟨rfl, hb1⟩; have Hb1 := Lib.hid hb1; obtain ⟨c0, c21, k1⟩ := HC1.out w1 hb1; have hU1 := HU.out w1; clear hb1 hG0)
    clear c2 k0 fd
    go_upto_region 4 with (go_at_call 131; refine hU1.mono ?_; rintro e w2 ⟨rfl, hw2⟩; rw [← hw2]; clear hw2 w2 hU1)
    have hg := ex_call w1 fun A hA => HG1.out A (Hb1.out.trans (hA.mono Hb1.out.size))
    have hd := ex_call w1 fun A hA => (HD.out A).mono fun e w' he => And.intro he.1 (he.2 ▸ Below.refl _ _)
    have z0 := cell_regrown c0
    have z2 := cell_regrown c21
    have z1 := cell_regrown k1
    refine wp_region_quiet_below (by kernel_rfl) (by kernel_rfl) ?_
    repeat (go_big_quiet_step (first | exact hg _ | exact hd _))
    refine wpQuiet_nil ?_
    intro X hw'
    obtain ⟨⟨dq, osq⟩, hw''⟩ := hw'
    have hbX : Below w.heap.size w X := Hb1.out.trans ((by rw [hw'']; exact below_regrown w1 dq osq : Below w1.heap.size w1 X).mono Hb1.out.size)
    have hSX := fun hk => HS.out hk X hbX
    have hTX := fun hk => HT.out hk X hbX
    clear hw'' hg hd z0 z1 z2 c0 c21 k1 fd1 hbX
    cases ok with
    | true =>
      have hS := hSX rfl
      clear hSX hTX
      go_wp2_with (go_at_call 105; refine hS.mono ?_; rintro e w3 ⟨rfl, hN⟩; have HN := Lib.hid hN; clear hN hS)
      try simp only [Exit.inBlock, Exit.then]
      first
        | refine bodyPost_ret (results_none rfl _ _ _) rfl ?_
        | refine bodyPost_end (results_none rfl _ _ _) rfl ?_
      exact ⟨rfl, HN.out⟩
    | false =>
      have hT := hTX rfl
      clear hSX hTX
      go_wp2_with (go_at_call 101; refine hT.mono ?_; rintro e w3 ⟨rfl, hN⟩; have HN := Lib.hid hN; clear hN hT)
      try simp only [Exit.inBlock, Exit.then]
      first
        | refine bodyPost_ret (results_none rfl _ _ _) rfl ?_
        | refine bodyPost_end (results_none rfl _ _ _) rfl ?_
      exact ⟨rfl, HN.out⟩
end
end Go.Proofs.Ytagagpappjkgbaa
namespace Go.Proofs.Ytagagpappjkgbaa
set_option linter.unusedVariables false
set_option linter.unusedSimpArgs false
open Go.RowKit Go.Shelf Go.Sort

theorem cut_in {A : Option Addr} {n c : Nat} (h : 1 ≤ n) (hn : n ≤ c) (W : World) : (Instr.slice 48 (.slice A n c) (some (.int .i64 1)) none none).run Try.prog W = .ok (.slice (if c = 1 then A else A.map (·.add 1)) (n - 1) (c - 1)) W := by
  rw [run_slice_l W 48 A n c (by simp [Program.elem, Try.underlying48]) .i64 1 (by omega) (by omega)]
  go_simp
section
variable {n0 base E : Nat} {fs : List SF} {cm : List (List (Int × Int))} {r : XR} {M : XM} {F : Nat → GRw} {w : World}
theorem XOk.inn_set (h : XOk n0 base E fs cm r M F w) (A : Option Addr) (c : Nat) (l : List Int) (hl : GNs n0 w (.slice A l.length c) l) (hc : l.length ≤ c ∧ c ≤ 9223372036854775807) :
    XOk n0 base E fs cm { r with inn := l } { M with inA := A, inC := c } F (w.setCell ⟨E, 0, none⟩ (.slice A l.length c)) ∧ Below base w (w.setCell ⟨E, 0, none⟩ (.slice A l.length c)) := by
  have s1 := h.sq.field 0 (.slice A l.length c)
  have hb : Below base w (w.setCell ⟨E, 0, none⟩ (.slice A l.length c)) := (Below.refl base w).setCell (p := ⟨E, 0, none⟩) h.sq.bE _
  have hn : Below n0 w (w.setCell ⟨E, 0, none⟩ (.slice A l.length c)) := hb.mono h.n0b
  refine ⟨⟨s1, fun k hk => ?_, h.ol, ?_, h.fc, h.fp, h.ft, h.fn, h.lv, h.lb, h.pn, h.cn, h.lp, h.lc, fun i f v hf hv => ⟨(h.sr i f v hf hv).1.keep hn, (h.sr i f v hf hv).2.1.keep hn, (h.sr i f v hf hv).2.2⟩, h.ls, hl.keep hn, hc, h.n0b, h.lf⟩, hb⟩
  · have e : rowX { r with inn := l } { M with inA := A, inC := c } k = rowX r M k := by rcases k with _ | _ | _ | _ | k <;> rfl
    rw [e]; exact h.fr k hk
  · rw [fRow_cong (M := M) (M' := { M with inA := A, inC := c }) rfl rfl]; exact h.f5
set_option maxRecDepth 100000 in
set_option maxHeartbeats 4000000 in
theorem input_c (h : XOk n0 base E fs cm r M F w) (id : Int) (r' : XR) (hx : inputX r id = some r') :
    Calls Try.prog 109 #[.pointer (some ⟨E, 0, none⟩), .int .i64 id] w fun e w' => e = .returned (.tuple #[]) ∧ XNow n0 base E fs cm r' w w' := by
  have x0 := h.sq.cell 0 _ rfl
  unfold inputX at hx
  cases hin : r.inn with
  | nil =>
    rw [hin] at hx x0
    injection hx with hx
    have hT := stop_c h 2 4
    rw [hx] at hT
    clear h hx hin
    go_enter Try.func109, Try.ntmps109
    go_wp2_with (go_at_call 101; refine hT.mono ?_; rintro e w3 ⟨rfl, hN, hb⟩; have HN := Lib.hid hN; have Hb := Lib.hid hb; clear hN hb hT)
    try simp only [Exit.inBlock, Exit.then]
    first
      | refine bodyPost_ret (results_none rfl _ _ _) rfl ?_
      | refine bodyPost_end (results_none rfl _ _ _) rfl ?_
    exact ⟨rfl, ⟨_, _, HN.out⟩, Hb.out⟩
  | cons c l =>
    rw [hin] at hx
    simp only [Option.map_eq_some_iff] at hx
    obtain ⟨r1, hs, rfl⟩ := hx
    obtain ⟨b, o, hA, -, hc⟩ := h.inn.at (j := 0) (by rw [hin]; simp)
    have hce : r.inn[0]'(by rw [hin]; simp) = c := by simp [hin]
    rw [hce, Nat.add_zero] at hc
    rw [hA] at x0
    obtain ⟨n, hn⟩ : ∃ n, n = r.inn.length := ⟨_, rfl⟩
    have hn1 : 1 ≤ n := by rw [hn, hin]; simp
    have hln : l.length = n - 1 := by rw [hn, hin]; simp
    rw [← hn] at x0
    have hS := (set_c h id ⟨c, none⟩ r1 hs)
    have hr1 : r1.inn = r.inn := by
      obtain ⟨k, ps, p, -, -, -, -, e⟩ := setX_some hs
      rw [e]
    have d1 : ((n : Int) == 0) = false := by simp; omega
    have Hn := Lib.hid hn
    have Hin := Lib.hid hin
    have Hln := Lib.hid hln
    have Hr1 := Lib.hid hr1
    clear h hs hin hA hce hn hln hr1
    go_enter Try.func109, Try.ntmps109
    go_upto_region 3 with (go_at_call 105; refine hS.mono ?_; rintro e w1 ⟨rfl, ⟨M', F', h1, -⟩, hb1⟩; have H1 := Lib.hid h1; have Hb1 := Lib.hid hb1; clear h1 hb1 hS)
    clear x0 hc
    have y0 := H1.out.sq.cell 0 _ rfl
    have yf := H1.out.sq.fro 0
    rw [Hr1.out, ← Hn.out] at y0
    have hic := H1.out.ic
    rw [Hr1.out, ← Hn.out] at hic
    have hcut := cut_in (A := M'.inA) hn1 hic.1
    have hg : GNs n0 w1 (.slice (if M'.inC = 1 then M'.inA else M'.inA.map (·.add 1)) l.length (M'.inC - 1)) l := by
      refine ⟨_, _, rfl, fun hp => ?_⟩
      have hg1 := H1.out.inn
      rw [Hr1.out, Hin.out] at hg1
      obtain ⟨A', c', e, hr⟩ := hg1
      injection e with e1
      obtain ⟨b', o', hA', hb', hc'⟩ := hr (by simp)
      have hne : M'.inC ≠ 1 := by have := Hln.out; omega
      refine ⟨b', o' + 1, ?_, hb', fun j y hj => ?_⟩
      · rw [if_neg hne, e1, hA']
        show some ((⟨b', o', none⟩ : Addr).add 1) = _
        rw [gr_add]
      · have := hc' (j + 1) y hj
        rw [show o' + 1 + j = o' + (j + 1) by omega]
        exact this
    obtain ⟨A2, hA2⟩ : ∃ A2, A2 = (if M'.inC = 1 then M'.inA else M'.inA.map (·.add 1)) := ⟨_, rfl⟩
    rw [← hA2] at hcut hg
    have hX := H1.out.inn_set A2 (M'.inC - 1) l hg ⟨by have := Hln.out; omega, by omega⟩
    rw [Hln.out] at hX
    have HX := Lib.hid hX
    clear hg hA2 hX hic
    go_wp2
    try simp only [Exit.inBlock, Exit.then]
    first
      | refine bodyPost_ret (results_none rfl _ _ _) rfl ?_
      | refine bodyPost_end (results_none rfl _ _ _) rfl ?_
    exact ⟨rfl, ⟨_, _, HX.out.1⟩, Hb1.out.trans HX.out.2⟩
end
end Go.Proofs.Ytagagpappjkgbaa
