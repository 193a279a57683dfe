/-
  The runner's do.
-/
import Derived.Test.YtagagpappjkgbaaJx18
import Derived.Test.YtagagpappjkgbaaJx19
namespace Go.Proofs.Ytagagpappjkgbaa
set_option linter.unusedVariables false
set_option linter.unusedSimpArgs false
open Go.RowKit Go.Shelf Go.Sort

section
variable {n0 base E : Nat} {fs : List SF} {cm : List (List (Int × Int))}
theorem tabX_some {r : XR} {v : XV} {T : XT} (h : tabX r v = some T) : ∃ t, v.of_ = some t ∧ r.tabs[t]? = some T := by
  unfold tabX at h
  rw [Option.bind_eq_some_iff] at h
  exact h
theorem puts_len {r : XR} : ∀ (l : List Int) (acc l' : List XV), putsX r l acc = some l' → l.length ≤ 1048576
  | [], acc, l', h => by simp
  | a :: l, acc, l', h => by
    have key : ∀ (l : List Int) (acc l' : List XV), putsX r l acc = some l' → l = [] ∨ acc.length + l.length ≤ 1048576 := by
      intro l
      induction l with
      | nil => intro _ _ _; exact .inl rfl
      | cons b l ih =>
        intro acc l' h
        unfold putsX at h
        split at h
        · next hlt =>
          rw [Option.bind_eq_some_iff] at h
          obtain ⟨v, -, h⟩ := h
          rcases ih _ _ h with e | e
          · subst e; exact .inr (by simp; omega)
          · exact .inr (by simp at e ⊢; omega)
        · cases h
    rcases key _ _ _ h with e | e
    · cases e
    · omega
theorem call_len {r r' : XR} {x : SIn} (h : callX r x = some r') : x.args.length ≤ 1048576 := by
  unfold callX at h
  split at h
  · rw [Option.map_eq_some_iff] at h
    obtain ⟨l, hl, -⟩ := h
    exact puts_len _ _ _ hl
  · cases h
/-- What the ways of do share: behind the first region. -/
structure DoIn (n0 base E : Nat) (fs : List SF) (cm : List (List (Int × Int))) (r : XR) (M : XM) (F : Nat → GRw) (w D : World) (ib q : Nat) (x : SIn) (aA : Option Addr) (ac : Nat) : Prop where
  ok : XOk n0 base E fs cm r M F D
  inn : InAt n0 D ib q x aA ac
  bel : Below base w D
set_option maxRecDepth 100000 in
set_option maxHeartbeats 32000000 in
theorem do_c : DoC n0 base E fs cm := by
  intro r M F w id at_ r' h hrf htb hx
  unfold doX at hx
  rw [Option.bind_eq_some_iff] at hx
  obtain ⟨f, hf, hx⟩ := hx
  by_cases hid0 : 0 ≤ id
  case neg => rw [if_neg hid0] at hx; cases hx
  rw [if_pos hid0, Option.bind_eq_some_iff] at hx
  obtain ⟨x, hxi, hx⟩ := hx
  obtain ⟨idn, rfl⟩ : ∃ n : Nat, id = n := ⟨id.toNat, by omega⟩
  rw [Int.toNat_natCast] at hxi
  obtain ⟨fb, fv, hfA, hi, c3, -, -, -, his, -, hil, -⟩ := h.fn_at hf
  have hidl : idn < f.ins.length := (List.getElem?_eq_some_iff.mp hxi).1
  have hxe : f.ins[idn] = x := (List.getElem?_eq_some_iff.mp hxi).2
  obtain ⟨iA, ic, hiv, -⟩ := id his
  rw [hiv] at his c3
  obtain ⟨ib, io, aA, ac, rfl, hibn, o0, -, o2, o3, o4, hga⟩ := his.at hidl
  rw [hxe] at o0 o2 o3 o4 hga
  have x10 := h.sq.cell 10 _ rfl
  have x11 := h.sq.cell 11 _ rfl
  rw [hfA] at x10
  have hfb := h.lb
  obtain ⟨D, hD⟩ : ∃ D, D = w.drew := ⟨_, rfl⟩
  have hbD : Below w.heap.size w D := by rw [hD]; exact (Below.refl _ _).drew
  have hin : InAt n0 D ib (io + idn * 5) x aA ac := by rw [hD]; exact ⟨hibn, o0, o2, o3, o4, hga⟩
  have hdo : DoIn n0 base E fs cm r M F w D ib (io + idn * 5) x aA ac := ⟨h.keep hbD, hin, hbD.mono h.sq.hb⟩
  have HDo := Lib.hid hdo
  have o0 : D.cell? ⟨ib, io + idn * 5, none⟩ = some (.int .i64 x.op) := hin.c0
  have HD := Lib.hid hD
  have Hrf := Lib.hid hrf
  have Htb := Lib.hid htb
  obtain ⟨q, hq⟩ : ∃ q, q = io + idn * 5 := ⟨_, rfl⟩
  rw [← hq] at HDo o0
  obtain ⟨op, hop⟩ : ∃ op, op = x.op := ⟨_, rfl⟩
  rw [← hop] at o0 hx
  obtain ⟨wi, hwi⟩ : ∃ wi, wi = r.now.which := ⟨_, rfl⟩
  rw [← hwi] at hi c3 x11
  obtain ⟨fn, hfn⟩ : ∃ fn, fn = fs.length := ⟨_, rfl⟩
  rw [← hfn] at hi hfb x10
  obtain ⟨inl, hinl⟩ : ∃ inl, inl = f.ins.length := ⟨_, rfl⟩
  rw [← hinl] at c3 hidl hil
  have Hop := Lib.hid hop
  have Hx := Lib.hid hx
  have Hq := Lib.hid hq
  have hix : 0 + (io + idn * 5) = q ∨ True := .inr trivial
  clear h hrf htb hx hf hxi hxe hfA his hiv hga hD hbD hin hdo hop hwi hfn hinl o2 o3 o4 hid0 hibn hix hq
  go_enter Try.func80, Try.ntmps80
  go_upto_region 0 with fail
  go_still_tail 15, (by kernel_rfl)
  change wpList _ _ _ _ _ w.drew
  rw [← HD.out]
  clear c3 x10 x11
  go_upto_region 1 with fail
  rw [← Hq.out]
  go_upto_region 3 with fail
  have hx := Hx.out
  by_cases h1 : op = 1
  · rw [if_pos h1] at hx
    have d1 : (op == 1) = true := by rw [h1]; rfl
    clear h1 Hx
    have hS := set_c HDo.out.ok (idn : Int) ⟨x.n, none⟩ r' hx
    have k3 := HDo.out.inn.c3
    obtain ⟨xn, hxn⟩ : ∃ xn, xn = x.n := ⟨_, rfl⟩
    rw [← hxn] at hS k3
    clear hxn
    clear hx o0
    go_wp2_with (go_at_call 105; refine hS.mono ?_; rintro e w1 ⟨rfl, hN⟩; have HN := Lib.hid hN; clear hN hS)
    try simp only [Exit.inBlock, Exit.then]
    first
      | refine bodyPost_ret (results_none rfl _ _ _) rfl ?_
      | refine bodyPost_end (results_none rfl _ _ _) rfl ?_
    exact ⟨rfl, HN.out.now HDo.out.bel⟩
  · rw [if_neg h1] at hx
    have d1 : (op == 1) = false := by simpa using h1
    by_cases h2 : op = 2
    · rw [if_pos h2] at hx
      have d2 : (op == 2) = true := by rw [h2]; rfl
      clear h2 Hx
      split at hx
      case isFalse => cases hx
      case isTrue hxn =>
      rw [Option.bind_eq_some_iff] at hx
      obtain ⟨v, hv, hx⟩ := hx
      have hS := set_c (HDo.out.ok.keep ((Below.refl D.heap.size D).drew)) (idn : Int) v r' hx
      have k3 := HDo.out.inn.c3
      obtain ⟨xn, hxn'⟩ : ∃ n : Nat, x.n = n := ⟨x.n.toNat, by omega⟩
      rw [hxn'] at k3 hv hxn
      rw [Int.toNat_natCast] at hv
      obtain ⟨g, hg, a0, a1⟩ := HDo.out.ok.args_at hv
      have x14 := HDo.out.ok.sq.cell 14 _ rfl
      have x17 := HDo.out.ok.sq.cell 17 _ rfl
      rw [hg] at x17
      have hcap := own_cap (HDo.out.ok.sq.at (HDo.out.ok.fr 2 (by omega)))
      have hlt : r.now.args + xn < r.args.length := (List.getElem?_eq_some_iff.mp hv).1
      obtain ⟨al, hal⟩ : ∃ al, al = r.args.length := ⟨_, rfl⟩
      have hal1 : al ≤ 9223372036854775807 := by rw [hal]; exact Nat.le_trans hcap.1 hcap.2
      obtain ⟨am, ham⟩ : ∃ am, am = r.now.args := ⟨_, rfl⟩
      obtain ⟨sm, hsm⟩ : ∃ sm, sm = r.now.args + xn := ⟨_, rfl⟩
      have hw64 : IntKind.i64.wrap ((am : Int) + (xn : Int)) = (sm : Int) := by rw [IntKind.wrap_i64]; omega
      rw [← hsm] at a0 a1 hlt
      rw [← hal] at x17 hlt
      rw [← ham] at x14
      obtain ⟨pv, hpv⟩ : ∃ pv : Option Addr, pv = v.of_.map (fun t => ⟨M.tb t, 0, none⟩) := ⟨_, rfl⟩
      rw [← hpv] at a1 hS
      clear hx o0 hxn hxn' hv hg hcap hal ham hsm hpv
      go_upto_region 6 with fail
      go_still_tail 18, (by kernel_rfl)
      change wpList _ _ _ _ _ D.drew
      go_wp2_with (go_at_call 105; refine hS.mono ?_; rintro e w1 ⟨rfl, hN⟩; have HN := Lib.hid hN; clear hN hS)
      try simp only [Exit.inBlock, Exit.then]
      first
        | refine bodyPost_ret (results_none rfl _ _ _) rfl ?_
        | refine bodyPost_end (results_none rfl _ _ _) rfl ?_
      exact ⟨rfl, HN.out.now (HDo.out.bel.trans (Below.refl base D).drew)⟩
    · rw [if_neg h2] at hx
      have d2 : (op == 2) = false := by simpa using h2
      by_cases h3 : op = 3
      · rw [if_pos h3] at hx
        have d3 : (op == 3) = true := by rw [h3]; rfl
        clear h3 Hx
        rw [Option.bind_eq_some_iff] at hx
        obtain ⟨v, hv, hx⟩ := hx
        have hS := set_c HDo.out.ok (idn : Int) v r' hx
        obtain ⟨g, hg, a0, a1⟩ := HDo.out.ok.coming_at hv
        have x19 := HDo.out.ok.sq.cell 19 _ rfl
        rw [hg] at x19
        have hlt : at_ < r.coming.length := (List.getElem?_eq_some_iff.mp hv).1
        have hcap := own_cap (HDo.out.ok.sq.at (HDo.out.ok.fr 4 (by omega)))
        obtain ⟨al, hal⟩ : ∃ al, al = r.coming.length := ⟨_, rfl⟩
        have hal1 : al ≤ 9223372036854775807 := by rw [hal]; exact Nat.le_trans hcap.1 hcap.2
        rw [← hal] at x19 hlt
        obtain ⟨pv, hpv⟩ : ∃ pv : Option Addr, pv = v.of_.map (fun t => ⟨M.tb t, 0, none⟩) := ⟨_, rfl⟩
        rw [← hpv] at a1 hS
        clear hx o0 hv hg hcap hal hpv
        go_wp2_with (go_at_call 105; refine hS.mono ?_; rintro e w1 ⟨rfl, hN⟩; have HN := Lib.hid hN; clear hN hS)
        try simp only [Exit.inBlock, Exit.then]
        first
          | refine bodyPost_ret (results_none rfl _ _ _) rfl ?_
          | refine bodyPost_end (results_none rfl _ _ _) rfl ?_
        exact ⟨rfl, HN.out.now HDo.out.bel⟩
      · rw [if_neg h3] at hx
        have d3 : (op == 3) = false := by simpa using h3
        by_cases h25 : op = 25
        · rw [if_pos h25] at hx
          have d25 : (op == 25) = true := by rw [h25]; rfl
          clear h25 Hx
          have hS := choose_c HDo.out.ok (idn : Int) ib q x aA ac HDo.out.inn r' hx
          clear hx o0
          go_wp2_with (go_at_call 106; refine hS.mono ?_; rintro e w1 ⟨rfl, hN⟩; have HN := Lib.hid hN; clear hN hS)
          try simp only [Exit.inBlock, Exit.then]
          first
            | refine bodyPost_ret (results_none rfl _ _ _) rfl ?_
            | refine bodyPost_end (results_none rfl _ _ _) rfl ?_
          exact ⟨rfl, HN.out.1, HDo.out.bel.trans HN.out.2⟩
        · rw [if_neg h25] at hx
          have d25 : (op == 25) = false := by simpa using h25
          by_cases h26 : op = 26 ∨ op = 27
          · rw [if_pos h26] at hx
            clear Hx
            rcases h26 with h26 | h26
            · have d26 : (op == 26) = true := by rw [h26]; rfl
              clear h26
              rw [Option.bind_eq_some_iff] at hx
              obtain ⟨v, hv, hx⟩ := hx
              rw [Option.bind_eq_some_iff] at hx
              obtain ⟨T, hT, hx⟩ := hx
              obtain ⟨a, ha, hg⟩ := argX_some hv
              obtain ⟨t, ht, hT'⟩ := tabX_some hT
              obtain ⟨ab, ao, rfl, k0, hl⟩ := HDo.out.inn.arg ha
              rw [Nat.add_zero] at k0
              have k2 := HDo.out.inn.c2
              have hlen := HDo.out.inn.ar.len
              obtain ⟨xl, hxl⟩ : ∃ xl, xl = x.args.length := ⟨_, rfl⟩
              rw [← hxl] at k2 hl
              have hG := get_c HDo.out.ok a v hg
              have e : (v.of_.map fun t => (⟨M.tb t, 0, none⟩ : Addr)) = some ⟨M.tb t, 0, none⟩ := by rw [ht]; rfl
              rw [e] at hG
              have HT : Hid (∀ A, Below D.heap.size D A → A.cell? ⟨M.tb t, 0, none⟩ = some (.int .i64 T.rows)) := Lib.hid fun A hA => ((HDo.out.ok.keep hA).tab_at hT').1
              have HS : Hid (∀ A, Below D.heap.size D A → Calls Try.prog 105 #[.pointer (some ⟨E, 0, none⟩), .int .i64 (idn : Int), .agg #[.int .i64 T.rows, .pointer none]] A fun e w' => e = .returned (.tuple #[]) ∧ XTo n0 base E fs cm r' M A w') := Lib.hid fun A hA => set_c (HDo.out.ok.keep hA) (idn : Int) ⟨T.rows, none⟩ r' hx
              have fd := field1 v.n (.pointer (some ⟨M.tb t, 0, none⟩))
              have Hb0 : Hid (base ≤ D.heap.size) := Lib.hid HDo.out.ok.sq.hb
              clear hx o0 hv hT ha hg ht hT' hlen hxl e
              go_wp2_with (first
                | (go_at_call 103; refine hG.mono ?_; rintro e w1 ⟨rfl, hb1⟩; have Hb1 := Lib.hid hb1; have t0 := HT.out w1 hb1; have hS := HS.out w1 hb1; clear hb1 hG)
                | (go_at_call 105; refine hS.mono ?_; rintro e w2 ⟨rfl, hN⟩; have HN := Lib.hid hN; clear hN hS))
              try simp only [Exit.inBlock, Exit.then]
              first
                | refine bodyPost_ret (results_none rfl _ _ _) rfl ?_
                | refine bodyPost_end (results_none rfl _ _ _) rfl ?_
              exact ⟨rfl, HN.out.now (HDo.out.bel.trans (Hb1.out.mono Hb0.out))⟩
            · have d26 : (op == 26) = false := by rw [h26]; rfl
              have d27 : (op == 27) = true := by rw [h26]; rfl
              clear h26
              rw [Option.bind_eq_some_iff] at hx
              obtain ⟨v, hv, hx⟩ := hx
              rw [Option.bind_eq_some_iff] at hx
              obtain ⟨T, hT, hx⟩ := hx
              obtain ⟨a, ha, hg⟩ := argX_some hv
              obtain ⟨t, ht, hT'⟩ := tabX_some hT
              obtain ⟨ab, ao, rfl, k0, hl⟩ := HDo.out.inn.arg ha
              rw [Nat.add_zero] at k0
              have k2 := HDo.out.inn.c2
              have hlen := HDo.out.inn.ar.len
              obtain ⟨xl, hxl⟩ : ∃ xl, xl = x.args.length := ⟨_, rfl⟩
              rw [← hxl] at k2 hl
              have hG := get_c HDo.out.ok a v hg
              have e : (v.of_.map fun t => (⟨M.tb t, 0, none⟩ : Addr)) = some ⟨M.tb t, 0, none⟩ := by rw [ht]; rfl
              rw [e] at hG
              have HT : Hid (∀ A, Below D.heap.size D A → A.cell? ⟨M.tb t, 0, none⟩ = some (.int .i64 T.rows)) := Lib.hid fun A hA => ((HDo.out.ok.keep hA).tab_at hT').1
              have HS : Hid (∀ A, Below D.heap.size D A → Calls Try.prog 105 #[.pointer (some ⟨E, 0, none⟩), .int .i64 (idn : Int), .agg #[.int .i64 T.rows, .pointer none]] A fun e w' => e = .returned (.tuple #[]) ∧ XTo n0 base E fs cm r' M A w') := Lib.hid fun A hA => set_c (HDo.out.ok.keep hA) (idn : Int) ⟨T.rows, none⟩ r' hx
              have fd := field1 v.n (.pointer (some ⟨M.tb t, 0, none⟩))
              have Hb0 : Hid (base ≤ D.heap.size) := Lib.hid HDo.out.ok.sq.hb
              clear hx o0 hv hT ha hg ht hT' hlen hxl e
              go_wp2_with (first
                | (go_at_call 103; refine hG.mono ?_; rintro e w1 ⟨rfl, hb1⟩; have Hb1 := Lib.hid hb1; have t0 := HT.out w1 hb1; have hS := HS.out w1 hb1; clear hb1 hG)
                | (go_at_call 105; refine hS.mono ?_; rintro e w2 ⟨rfl, hN⟩; have HN := Lib.hid hN; clear hN hS))
              try simp only [Exit.inBlock, Exit.then]
              first
                | refine bodyPost_ret (results_none rfl _ _ _) rfl ?_
                | refine bodyPost_end (results_none rfl _ _ _) rfl ?_
              exact ⟨rfl, HN.out.now (HDo.out.bel.trans (Hb1.out.mono Hb0.out))⟩
          · rw [if_neg h26] at hx
            rw [not_or] at h26
            have d26 : (op == 26) = false := by simpa using h26.1
            have d27 : (op == 27) = false := by simpa using h26.2
            by_cases h28 : op = 28
            · rw [if_pos h28] at hx
              have d28 : (op == 28) = true := by rw [h28]; rfl
              clear h28 Hx
              rw [Option.bind_eq_some_iff] at hx
              obtain ⟨v, hv, hx⟩ := hx
              rw [Option.bind_eq_some_iff] at hx
              obtain ⟨T, hT, hx⟩ := hx
              obtain ⟨a, ha, hg⟩ := argX_some hv
              obtain ⟨t, ht, hT'⟩ := tabX_some hT
              obtain ⟨ab, ao, rfl, k0, hl⟩ := HDo.out.inn.arg ha
              rw [Nat.add_zero] at k0
              have k2 := HDo.out.inn.c2
              have hlen := HDo.out.inn.ar.len
              obtain ⟨xl, hxl⟩ : ∃ xl, xl = x.args.length := ⟨_, rfl⟩
              rw [← hxl] at k2 hl
              have hG := get_c HDo.out.ok a v hg
              have e : (v.of_.map fun t => (⟨M.tb t, 0, none⟩ : Addr)) = some ⟨M.tb t, 0, none⟩ := by rw [ht]; rfl
              rw [e] at hG
              have HT : Hid (∀ A, Below D.heap.size D A → A.cell? ⟨M.tb t, 1, none⟩ = some (.int .i64 T.cols)) := Lib.hid fun A hA => ((HDo.out.ok.keep hA).tab_at hT').2.1
              have HS : Hid (∀ A, Below D.heap.size D A → Calls Try.prog 105 #[.pointer (some ⟨E, 0, none⟩), .int .i64 (idn : Int), .agg #[.int .i64 T.cols, .pointer none]] A fun e w' => e = .returned (.tuple #[]) ∧ XTo n0 base E fs cm r' M A w') := Lib.hid fun A hA => set_c (HDo.out.ok.keep hA) (idn : Int) ⟨T.cols, none⟩ r' hx
              have fd := field1 v.n (.pointer (some ⟨M.tb t, 0, none⟩))
              have Hb0 : Hid (base ≤ D.heap.size) := Lib.hid HDo.out.ok.sq.hb
              clear hx o0 hv hT ha hg ht hT' hlen hxl e
              go_wp2_with (first
                | (go_at_call 103; refine hG.mono ?_; rintro e w1 ⟨rfl, hb1⟩; have Hb1 := Lib.hid hb1; have t0 := HT.out w1 hb1; have hS := HS.out w1 hb1; clear hb1 hG)
                | (go_at_call 105; refine hS.mono ?_; rintro e w2 ⟨rfl, hN⟩; have HN := Lib.hid hN; clear hN hS))
              try simp only [Exit.inBlock, Exit.then]
              first
                | refine bodyPost_ret (results_none rfl _ _ _) rfl ?_
                | refine bodyPost_end (results_none rfl _ _ _) rfl ?_
              exact ⟨rfl, HN.out.now (HDo.out.bel.trans (Hb1.out.mono Hb0.out))⟩
            · rw [if_neg h28] at hx
              have d28 : (op == 28) = false := by simpa using h28
              by_cases h30 : op = 30 ∨ op = 31
              · rw [if_pos h30] at hx
                clear Hx
                rcases h30 with h30 | h30
                · have d30 : (op == 30) = true := by rw [h30]; rfl
                  clear h30
                  have hS := create_c HDo.out.ok Hrf.out (idn : Int) ib q x aA ac HDo.out.inn r' hx
                  clear hx o0
                  go_wp2_with (go_at_call 107; refine hS.mono ?_; rintro e w1 ⟨rfl, hN⟩; have HN := Lib.hid hN; clear hN hS)
                  try simp only [Exit.inBlock, Exit.then]
                  first
                    | refine bodyPost_ret (results_none rfl _ _ _) rfl ?_
                    | refine bodyPost_end (results_none rfl _ _ _) rfl ?_
                  exact ⟨rfl, HN.out.1, HDo.out.bel.trans HN.out.2⟩
                · have d30 : (op == 30) = false := by rw [h30]; rfl
                  have d31 : (op == 31) = true := by rw [h30]; rfl
                  clear h30
                  have hS := create_c HDo.out.ok Hrf.out (idn : Int) ib q x aA ac HDo.out.inn r' hx
                  clear hx o0
                  go_wp2_with (go_at_call 107; refine hS.mono ?_; rintro e w1 ⟨rfl, hN⟩; have HN := Lib.hid hN; clear hN hS)
                  try simp only [Exit.inBlock, Exit.then]
                  first
                    | refine bodyPost_ret (results_none rfl _ _ _) rfl ?_
                    | refine bodyPost_end (results_none rfl _ _ _) rfl ?_
                  exact ⟨rfl, HN.out.1, HDo.out.bel.trans HN.out.2⟩
              · rw [if_neg h30] at hx
                rw [not_or] at h30
                have d30 : (op == 30) = false := by simpa using h30.1
                have d31 : (op == 31) = false := by simpa using h30.2
                by_cases h29 : op = 29 ∨ op = 32
                · rw [if_pos h29] at hx
                  clear Hx
                  rcases h29 with h29 | h29
                  · have d29 : (op == 29) = true := by rw [h29]; rfl
                    clear h29
                    have hS := cell_c HDo.out.ok (idn : Int) ib q x aA ac HDo.out.inn Htb.out r' hx
                    clear hx o0
                    go_wp2_with (go_at_call 108; refine hS.mono ?_; rintro e w1 ⟨rfl, hN⟩; have HN := Lib.hid hN; clear hN hS)
                    try simp only [Exit.inBlock, Exit.then]
                    first
                      | refine bodyPost_ret (results_none rfl _ _ _) rfl ?_
                      | refine bodyPost_end (results_none rfl _ _ _) rfl ?_
                    exact ⟨rfl, HN.out.1, HDo.out.bel.trans HN.out.2⟩
                  · have d29 : (op == 29) = false := by rw [h29]; rfl
                    have d32 : (op == 32) = true := by rw [h29]; rfl
                    clear h29
                    have hS := cell_c HDo.out.ok (idn : Int) ib q x aA ac HDo.out.inn Htb.out r' hx
                    clear hx o0
                    go_wp2_with (go_at_call 108; refine hS.mono ?_; rintro e w1 ⟨rfl, hN⟩; have HN := Lib.hid hN; clear hN hS)
                    try simp only [Exit.inBlock, Exit.then]
                    first
                      | refine bodyPost_ret (results_none rfl _ _ _) rfl ?_
                      | refine bodyPost_end (results_none rfl _ _ _) rfl ?_
                    exact ⟨rfl, HN.out.1, HDo.out.bel.trans HN.out.2⟩
                · rw [if_neg h29] at hx
                  rw [not_or] at h29
                  have d29 : (op == 29) = false := by simpa using h29.1
                  have d32 : (op == 32) = false := by simpa using h29.2
                  by_cases h33 : op = 33
                  · rw [if_pos h33] at hx
                    have d33 : (op == 33) = true := by rw [h33]; rfl
                    clear h33 Hx
                    split at hx
                    case isFalse => cases hx
                    case isTrue hev =>
                    rw [Option.map_eq_some_iff] at hx
                    obtain ⟨v, hv, hr'⟩ := hx
                    obtain ⟨a, ha, hg⟩ := argX_some hv
                    obtain ⟨ab, ao, rfl, k0, hl⟩ := HDo.out.inn.arg ha
                    rw [Nat.add_zero] at k0
                    have k2 := HDo.out.inn.c2
                    have hlen := HDo.out.inn.ar.len
                    have hga := HDo.out.inn.ar
                    obtain ⟨ab', ao', hae, habn, -⟩ := hga.at hl
                    injection hae with hae
                    injection hae with hae1 hae2
                    subst hae1 hae2
                    have hibn := HDo.out.inn.lt
                    obtain ⟨xl, hxl⟩ : ∃ xl, xl = x.args.length := ⟨_, rfl⟩
                    rw [← hxl] at k2 hl
                    have hG := get_c (HDo.out.ok.keep ((Below.refl D.heap.size D).drew)) a v hg
                    obtain ⟨vn, hvn⟩ : ∃ vn, vn = v.n := ⟨_, rfl⟩
                    obtain ⟨pv, hpv⟩ : ∃ pv : Option Addr, pv = v.of_.map fun t => ⟨M.tb t, 0, none⟩ := ⟨_, rfl⟩
                    rw [← hvn, ← hpv] at hG
                    rw [← hvn] at hr'
                    have Hnb := HDo.out.ok.n0b
                    have HSx : Hid (∀ A, Below base D A → A.cell? ⟨ib, q + 2, none⟩ = some (.slice (some ⟨ab, ao, none⟩) xl ac) ∧ A.cell? ⟨ab, ao, none⟩ = some (.int .i64 a)) := Lib.hid fun A hA => ⟨(hA.cell (p := ⟨ib, q + 2, none⟩) (Nat.lt_of_lt_of_le hibn Hnb)).trans k2, (hA.cell (p := ⟨ab, ao, none⟩) (Nat.lt_of_lt_of_le habn Hnb)).trans k0⟩
                    have fd := field0 vn (.pointer pv)
                    obtain ⟨en, hen⟩ : ∃ en, en = r.events.length := ⟨_, rfl⟩
                    have x2 : D.cell? ⟨E, 2, none⟩ = some (.slice (M.sa 0) en (M.sc 0)) := by rw [hen]; exact HDo.out.ok.sq.cell 2 _ rfl
                    have Hen := Lib.hid hen
                    have Hel : Hid (en < 1048576) := Lib.hid (by rw [hen]; exact hev)
                    have Hrow : Hid (F 0 = ⟨2, 1, .slice (M.sa 0) r.events.length (M.sc 0), r.events.length, intsV r.events⟩) := Lib.hid (HDo.out.ok.fr 0 (by omega))
                    have Hr' : Hid (r' = { r with events := r.events ++ [vn] }) := Lib.hid hr'.symm
                    obtain ⟨i0, hi0, hz0, hz1, hz2⟩ := info_parts infoI64G
                    have Hi := Lib.hid hi0
                    have Hz0 := Lib.hid hz0
                    have Hz1 := Lib.hid hz1
                    have Hz2 := Lib.hid hz2
                    have HO : Hid (∀ u ∈ ([.int .i64 vn] : List Value), u.oneCell' = true) := Lib.hid (by
                      intro u hu
                      simp at hu
                      subst hu
                      rfl)
                    clear o0 hv ha hg hlen hga hxl hvn hpv hen hev hr' hi0 hz0 hz1 hz2 habn hibn Hnb
                    go_upto_region 23 with fail
                    refine wp_region_held_drew (S := fun u : World => u.cell? ⟨ib, q + 2, none⟩ = some (.slice (some ⟨ab, ao, none⟩) xl ac) ∧ u.cell? ⟨ab, ao, none⟩ = some (.int .i64 a)) (by kernel_rfl) ⟨k2, k0⟩ (fun hHeld => ?_)
                    refine wpAnyH_take (i := 0) (v := ?_) rfl (by kernel_rfl) (by kernel_rfl) (by kernel_rfl) (fun _ _ _ h => h) (Or.inl ⟨by kernel_rfl, ?_⟩) (by assumption) ?_
                    rotate_left
                    · (intro w hSw; (try dsimp only at hSw); first | (go_simp; done) | (go_simp; with_reducible rfl))
                    try simp only [Act.put, List.setIfInBounds_toArray, List.set_cons_zero, List.set_cons_succ]
                    refine wpAnyH_take (i := 1) (v := ?_) rfl (by kernel_rfl) (by kernel_rfl) (by kernel_rfl) (fun _ _ _ h => h) (Or.inl ⟨by kernel_rfl, ?_⟩) (by assumption) ?_
                    rotate_left
                    · (intro w hSw; (try dsimp only at hSw); first | (go_simp; done) | (go_simp; with_reducible rfl))
                    try simp only [Act.put, List.setIfInBounds_toArray, List.set_cons_zero, List.set_cons_succ]
                    refine wpAnyH_take (i := 2) (v := ?_) rfl (by kernel_rfl) (by kernel_rfl) (by kernel_rfl) (fun _ _ _ h => h) (Or.inl ⟨by kernel_rfl, ?_⟩) (by assumption) ?_
                    rotate_left
                    · (intro w hSw; (try dsimp only at hSw); first | (go_simp; done) | (go_simp; with_reducible rfl))
                    try simp only [Act.put, List.setIfInBounds_toArray, List.set_cons_zero, List.set_cons_succ]
                    refine wpAnyH_take (i := 3) (v := ?_) rfl (by kernel_rfl) (by kernel_rfl) (by kernel_rfl) (fun _ _ _ h => h) (Or.inl ⟨by kernel_rfl, ?_⟩) (by assumption) ?_
                    rotate_left
                    · (intro w hSw; (try dsimp only at hSw); first | (go_simp; done) | (go_simp; with_reducible rfl))
                    try simp only [Act.put, List.setIfInBounds_toArray, List.set_cons_zero, List.set_cons_succ]
                    refine wpAnyH_take (i := 4) (v := ?_) rfl (by kernel_rfl) (by kernel_rfl) (by kernel_rfl) (fun _ _ _ h => h) (Or.inl ⟨by kernel_rfl, ?_⟩) (by assumption) ?_
                    rotate_left
                    · (intro w hSw; (try dsimp only at hSw); first | (go_simp; done) | (go_simp; with_reducible rfl))
                    try simp only [Act.put, List.setIfInBounds_toArray, List.set_cons_zero, List.set_cons_succ]
                    refine wpAnyH_take (i := 6) (v := ?_) rfl (by kernel_rfl) (by kernel_rfl) (by kernel_rfl) (fun _ _ _ h => h) (Or.inl ⟨by kernel_rfl, ?_⟩) (by assumption) ?_
                    rotate_left
                    · (intro w hSw; (try dsimp only at hSw); first | (go_simp; done) | (go_simp; with_reducible rfl))
                    try simp only [Act.put, List.setIfInBounds_toArray, List.set_cons_zero, List.set_cons_succ]
                    refine wpAnyH_take (i := 7) (v := ?_) rfl (by kernel_rfl) (by kernel_rfl) (by kernel_rfl) (fun _ _ _ h => h) (Or.inl ⟨by kernel_rfl, ?_⟩) (by assumption) ?_
                    rotate_left
                    · (intro w hSw; (try dsimp only at hSw); first | (go_simp; done) | (go_simp; with_reducible rfl))
                    try simp only [Act.put, List.setIfInBounds_toArray, List.set_cons_zero, List.set_cons_succ]
                    refine wpAnyH_take (i := 8) (v := ?_) rfl (by kernel_rfl) (by kernel_rfl) (by kernel_rfl) (fun _ _ _ h => h) (Or.inl ⟨by kernel_rfl, ?_⟩) (by assumption) ?_
                    rotate_left
                    · (intro w hSw; (try dsimp only at hSw); first | (go_simp; done) | (go_simp; with_reducible rfl))
                    try simp only [Act.put, List.setIfInBounds_toArray, List.set_cons_zero, List.set_cons_succ]
                    refine wpAnyH_take (i := 9) (v := ?_) rfl (by kernel_rfl) (by kernel_rfl) (by kernel_rfl) (fun _ _ _ h => h) (Or.inl ⟨by kernel_rfl, ?_⟩) (by assumption) ?_
                    rotate_left
                    · (intro w hSw; (try dsimp only at hSw); first | (go_simp; done) | (go_simp; with_reducible rfl))
                    try simp only [Act.put, List.setIfInBounds_toArray, List.set_cons_zero, List.set_cons_succ]
                    refine wpAnyH_take (i := 10) (v := ?_) rfl (by kernel_rfl) (by kernel_rfl) (by kernel_rfl) (fun _ _ _ h => h) (Or.inl ⟨by kernel_rfl, ?_⟩) (by assumption) ?_
                    rotate_left
                    · (intro w hSw; (try dsimp only at hSw); first | (go_simp; done) | (go_simp; with_reducible rfl))
                    try simp only [Act.put, List.setIfInBounds_toArray, List.set_cons_zero, List.set_cons_succ]
                    refine wpAnyH_take (i := 11) (v := ?_) rfl (by kernel_rfl) (by kernel_rfl) (by kernel_rfl) (fun _ _ _ h => h) (Or.inl ⟨by kernel_rfl, ?_⟩) (by assumption) ?_
                    rotate_left
                    · (intro w hSw; (try dsimp only at hSw); first | (go_simp; done) | (go_simp; with_reducible rfl))
                    try simp only [Act.put, List.setIfInBounds_toArray, List.set_cons_zero, List.set_cons_succ]
                    refine wpAnyH_take (i := 12) (v := ?_) rfl (by kernel_rfl) (by kernel_rfl) (by kernel_rfl) (fun _ _ _ h => h) (Or.inl ⟨by kernel_rfl, ?_⟩) (by assumption) ?_
                    rotate_left
                    · (intro w hSw; (try dsimp only at hSw); first | (go_simp; done) | (go_simp; with_reducible rfl))
                    try simp only [Act.put, List.setIfInBounds_toArray, List.set_cons_zero, List.set_cons_succ]
                    refine wpAnyH_ready (rs := [5, 13]) (by kernel_rfl) (by simp) ?_
                    refine AllReadyH.cons rfl (fun K hK => ?_) (AllReadyH.cons rfl (fun K hK => ?_) (AllReadyH.nil))
                    · have hs0 : D.drew.cell? ⟨ib, q + 2, none⟩ = some (.slice (some ⟨ab, ao, none⟩) xl ac) ∧ D.drew.cell? ⟨ab, ao, none⟩ = some (.int .i64 a) := ⟨k2, k0⟩
                      have s2 : D.drew.cell? ⟨E, 2, none⟩ = some (.slice (M.sa 0) en (M.sc 0)) := x2
                      go_simp
                      refine hK.out _ _ ?_ (fun hHeld => ?_)
                      · ((try dsimp only); first | with_reducible assumption | exact hs0 | exact hs1 | exact hs2 | exact hs3 | exact hs4 | exact hs5)
                      clear hK K
                      try simp only [Act.put, List.setIfInBounds_toArray, List.set_cons_zero, List.set_cons_succ]
                      refine wpAnyH_ready (rs := [13]) (by kernel_rfl) (by simp) ?_
                      refine AllReadyH.cons rfl (fun K hK => ?_) (AllReadyH.nil)
                      have hs1 : D.drew.cell? ⟨ib, q + 2, none⟩ = some (.slice (some ⟨ab, ao, none⟩) xl ac) ∧ D.drew.cell? ⟨ab, ao, none⟩ = some (.int .i64 a) := ⟨k2, k0⟩
                      go_simp
                      refine hG.mono ?_
                      rintro e w1 ⟨rfl, hb1⟩
                      have H1k := Lib.hid (HDo.out.ok.keep ((Below.refl D.heap.size D).drew.trans hb1))
                      have HBw1 := Lib.hid (((Below.refl D.heap.size D).drew.trans hb1).mono HDo.out.ok.sq.hb)
                      have hs2 : w1.cell? ⟨ib, q + 2, none⟩ = some (.slice (some ⟨ab, ao, none⟩) xl ac) ∧ w1.cell? ⟨ab, ao, none⟩ = some (.int .i64 a) := HSx.out w1 HBw1.out
                      clear hG hb1
                      try dsimp only
                      refine hK.out _ _ ?_ (fun hHeld => ?_)
                      · ((try dsimp only); first | with_reducible assumption | exact hs0 | exact hs1 | exact hs2 | exact hs3 | exact hs4 | exact hs5)
                      clear hK K
                      try simp only [Act.put, List.setIfInBounds_toArray, List.set_cons_zero, List.set_cons_succ]
                      refine wpAnyH_take (i := 14) (v := ?_) rfl (by kernel_rfl) (by kernel_rfl) (by kernel_rfl) (fun _ _ _ h => h) (Or.inl ⟨by kernel_rfl, ?_⟩) (by assumption) ?_
                      rotate_left
                      · (intro w hSw; (try dsimp only at hSw); first | (go_simp; done) | (go_simp; with_reducible rfl))
                      try simp only [Act.put, List.setIfInBounds_toArray, List.set_cons_zero, List.set_cons_succ]
                      refine wpAnyH_ready (rs := [15]) (by kernel_rfl) (by simp) ?_
                      refine AllReadyH.cons rfl (fun K hK => ?_) (AllReadyH.nil)
                      go_simp
                      have hbZ : Below w1.heap.size w1 (w1.alloc (.cells #[.int .i64 vn] 2)) := (Below.refl _ _).alloc (Nat.le_refl _) _
                      have hs3 : (w1.alloc (.cells #[.int .i64 vn] 2)).cell? ⟨ib, q + 2, none⟩ = some (.slice (some ⟨ab, ao, none⟩) xl ac) ∧ (w1.alloc (.cells #[.int .i64 vn] 2)).cell? ⟨ab, ao, none⟩ = some (.int .i64 a) := HSx.out _ (HBw1.out.trans (hbZ.mono H1k.out.sq.hb))
                      have HZk := Lib.hid (H1k.out.keep hbZ)
                      have HBZ := Lib.hid (HBw1.out.trans (hbZ.mono H1k.out.sq.hb))
                      clear hbZ
                      refine hK.out _ _ ?_ (fun hHeld => ?_)
                      · ((try dsimp only); first | with_reducible assumption | exact hs0 | exact hs1 | exact hs2 | exact hs3 | exact hs4 | exact hs5)
                      clear hK K
                      try simp only [Act.put, List.setIfInBounds_toArray, List.set_cons_zero, List.set_cons_succ]
                      refine wpAnyH_ready (rs := [16]) (by kernel_rfl) (by simp) ?_
                      refine AllReadyH.cons rfl (fun K hK => ?_) (AllReadyH.nil)
                      have hown := HZk.out.sq.at Hrow.out
                      rw [← Hen.out] at hown
                      have HNW := Lib.hid (World.news_of_block (w := (w1.alloc (.cells #[.int .i64 vn] 2))) (heap_alloc_new w1 (.cells #[.int .i64 vn] 2)))
                      refine step_append_lies _ rfl (.tmp 137) (.tmp 147) 48 rfl base 2 i0 (.int .i64 0) 1 8 Try.underlying48 Hi.out Hz0.out Hz1.out Hz2.out rfl (by decide) (.slice (M.sa 0) en (M.sc 0)) en (intsV r.events) (by simp [Act.eval, Act.put]) hown ⟨w1.heap.size, 0, none⟩ 1 1 [.int .i64 vn] (by simp [Act.eval, Act.put]) rfl HNW.out HO.out (by decide) (by unfold maxLen; have := Hel.out; omega) (by have := Hel.out; omega) HZk.out.sq.hb _ rfl ?_
                      intro g cap w5 hown5 hgrow hat hlt5
                      have hgr : (w1.alloc (.cells #[.int .i64 vn] 2)).grownBy w5 (F 0).v.ownBlock := by
                        rw [Hrow.out]
                        exact (own_any (M.sa 0) r.events.length en (M.sc 0)) ▸ hgrow
                      have hat2 : (F 0).v.ownBlock = some g ∨ (w1.alloc (.cells #[.int .i64 vn] 2)).heap.size ≤ g := by
                        rw [Hrow.out]
                        rcases hat with h | h
                        · exact .inl ((own_any (M.sa 0) r.events.length en (M.sc 0)).trans h)
                        · exact .inr (by rw [h]; exact Nat.le_refl _)
                      have hR := (HZk.out).row (r' := { r with events := r.events ++ [vn] }) 0 (by omega) g (en + 1) cap hgr (by show Value.slice _ (r.events ++ [_]).length _ = _; rw [List.length_append, Hen.out]; rfl)
                        (by
                          show w5.ownsRow base 2 1 (.slice (some ⟨g, 0, none⟩) (r.events ++ [vn]).length cap) (r.events ++ [vn]).length (intsV (r.events ++ [vn]))
                          have ho5 := hown5
                          rw [Hen.out] at ho5
                          rw [List.length_append]
                          have e : intsV (r.events ++ [vn]) = intsV r.events ++ [.int .i64 vn] := by simp [intsV]
                          rw [e]
                          exact ho5)
                        hat2
                        (fun l hl hne => by rcases l with _ | _ | _ | _ | _ | l <;> first | rfl | omega)
                        2 (.slice (some ⟨g, 0, none⟩) (en + 1) cap) (by rw [Hen.out]; show _ = xCells { r with events := r.events ++ [vn] } fs.length (upM M 0 (some ⟨g, 0, none⟩) cap); unfold xCells; rw [show ({ r with events := r.events ++ [vn] } : XR).events.length = r.events.length + 1 by show (r.events ++ [_]).length = _; rw [List.length_append]; rfl]; rfl)
                        HZk.out.ol rfl rfl rfl rfl
                      have y2 : w5.cell? ⟨E, 2, none⟩ = some (.slice (M.sa 0) en (M.sc 0)) := by rw [Hen.out]; exact hR.2.2.1 2 _ rfl
                      have yf5 := hR.2.2.2 2
                      have hs4 : w5.cell? ⟨ib, q + 2, none⟩ = some (.slice (some ⟨ab, ao, none⟩) xl ac) ∧ w5.cell? ⟨ab, ao, none⟩ = some (.int .i64 a) := HSx.out _ (HBZ.out.trans (HZk.out.sq.b_grown 0 hgr))
                      have HRr := Lib.hid (And.intro hR.1 hR.2.1)
                      clear hown hown5 hgrow hat hlt5 hgr hat2 hR HNW
                      refine hK.out _ _ ?_ (fun hHeld => ?_)
                      · ((try dsimp only); first | with_reducible assumption | exact hs0 | exact hs1 | exact hs2 | exact hs3 | exact hs4 | exact hs5)
                      clear hK K
                      try simp only [Act.put, List.setIfInBounds_toArray, List.set_cons_zero, List.set_cons_succ]
                      refine wpAnyH_take (i := 17) (v := ?_) rfl (by kernel_rfl) (by kernel_rfl) (by kernel_rfl) (fun _ _ _ h => h) (Or.inl ⟨by kernel_rfl, ?_⟩) (by assumption) ?_
                      rotate_left
                      · (intro w hSw; (try dsimp only at hSw); first | (go_simp; done) | (go_simp; with_reducible rfl))
                      try simp only [Act.put, List.setIfInBounds_toArray, List.set_cons_zero, List.set_cons_succ]
                      refine wpAnyH_take (i := 18) (v := ?_) rfl (by kernel_rfl) (by kernel_rfl) (by kernel_rfl) (fun _ _ _ h => h) (Or.inl ⟨by kernel_rfl, ?_⟩) (by assumption) ?_
                      rotate_left
                      · (intro w hSw; (try dsimp only at hSw); first | (go_simp; done) | (go_simp; with_reducible rfl))
                      try simp only [Act.put, List.setIfInBounds_toArray, List.set_cons_zero, List.set_cons_succ]
                      refine wpAnyH_take (i := 19) (v := ?_) rfl (by kernel_rfl) (by kernel_rfl) (by kernel_rfl) (fun _ _ _ h => h) (Or.inl ⟨by kernel_rfl, ?_⟩) (by assumption) ?_
                      rotate_left
                      · (intro w hSw; (try dsimp only at hSw); first | (go_simp; done) | (go_simp; with_reducible rfl))
                      try simp only [Act.put, List.setIfInBounds_toArray, List.set_cons_zero, List.set_cons_succ]
                      refine wpAnyH_ready (rs := [20]) (by kernel_rfl) (by simp) ?_
                      refine AllReadyH.cons rfl (fun K hK => ?_) (AllReadyH.nil)
                      have hs5 : (w5.setCell ⟨E, 2, none⟩ (.slice (some ⟨g, 0, none⟩) (en + 1) cap)).cell? ⟨ib, q + 2, none⟩ = some (.slice (some ⟨ab, ao, none⟩) xl ac) ∧ (w5.setCell ⟨E, 2, none⟩ (.slice (some ⟨g, 0, none⟩) (en + 1) cap)).cell? ⟨ab, ao, none⟩ = some (.int .i64 a) := HSx.out _ (HBZ.out.trans HRr.out.2)
                      go_simp
                      refine hK.out _ _ ?_ (fun hHeld => ?_)
                      · ((try dsimp only); first | with_reducible assumption | exact hs0 | exact hs1 | exact hs2 | exact hs3 | exact hs4 | exact hs5)
                      clear hK K
                      try simp only [Act.put, List.setIfInBounds_toArray, List.set_cons_zero, List.set_cons_succ]
                      refine wpAnyH_done (by kernel_rfl) ?_ _
                      try simp only [Exit.inBlock, Exit.then]
                      first
                        | refine bodyPost_ret (results_none rfl _ _ _) rfl ?_
                        | refine bodyPost_end (results_none rfl _ _ _) rfl ?_
                      obtain ⟨F5, hF5⟩ := HRr.out.1
                      rw [Hr'.out]
                      exact ⟨rfl, ⟨_, F5, hF5⟩, HDo.out.bel.trans (HBZ.out.trans HRr.out.2)⟩
                    · have hs1 : D.drew.cell? ⟨ib, q + 2, none⟩ = some (.slice (some ⟨ab, ao, none⟩) xl ac) ∧ D.drew.cell? ⟨ab, ao, none⟩ = some (.int .i64 a) := ⟨k2, k0⟩
                      go_simp
                      refine hG.mono ?_
                      rintro e w1 ⟨rfl, hb1⟩
                      have H1k := Lib.hid (HDo.out.ok.keep ((Below.refl D.heap.size D).drew.trans hb1))
                      have HBw1 := Lib.hid (((Below.refl D.heap.size D).drew.trans hb1).mono HDo.out.ok.sq.hb)
                      have hs2 : w1.cell? ⟨ib, q + 2, none⟩ = some (.slice (some ⟨ab, ao, none⟩) xl ac) ∧ w1.cell? ⟨ab, ao, none⟩ = some (.int .i64 a) := HSx.out w1 HBw1.out
                      clear hG hb1
                      try dsimp only
                      refine hK.out _ _ ?_ (fun hHeld => ?_)
                      · ((try dsimp only); first | with_reducible assumption | exact hs0 | exact hs1 | exact hs2 | exact hs3 | exact hs4 | exact hs5)
                      clear hK K
                      try simp only [Act.put, List.setIfInBounds_toArray, List.set_cons_zero, List.set_cons_succ]
                      refine wpAnyH_take (i := 14) (v := ?_) rfl (by kernel_rfl) (by kernel_rfl) (by kernel_rfl) (fun _ _ _ h => h) (Or.inl ⟨by kernel_rfl, ?_⟩) (by assumption) ?_
                      rotate_left
                      · (intro w hSw; (try dsimp only at hSw); first | (go_simp; done) | (go_simp; with_reducible rfl))
                      try simp only [Act.put, List.setIfInBounds_toArray, List.set_cons_zero, List.set_cons_succ]
                      refine wpAnyH_ready (rs := [5, 15]) (by kernel_rfl) (by simp) ?_
                      refine AllReadyH.cons rfl (fun K hK => ?_) (AllReadyH.cons rfl (fun K hK => ?_) (AllReadyH.nil))
                      · have s2 : w1.cell? ⟨E, 2, none⟩ = some (.slice (M.sa 0) en (M.sc 0)) := by rw [Hen.out]; exact H1k.out.sq.cell 2 _ rfl
                        go_simp
                        refine hK.out _ _ ?_ (fun hHeld => ?_)
                        · ((try dsimp only); first | with_reducible assumption | exact hs0 | exact hs1 | exact hs2 | exact hs3 | exact hs4 | exact hs5)
                        clear hK K
                        try simp only [Act.put, List.setIfInBounds_toArray, List.set_cons_zero, List.set_cons_succ]
                        refine wpAnyH_ready (rs := [15]) (by kernel_rfl) (by simp) ?_
                        refine AllReadyH.cons rfl (fun K hK => ?_) (AllReadyH.nil)
                        go_simp
                        have hbZ : Below w1.heap.size w1 (w1.alloc (.cells #[.int .i64 vn] 2)) := (Below.refl _ _).alloc (Nat.le_refl _) _
                        have hs3 : (w1.alloc (.cells #[.int .i64 vn] 2)).cell? ⟨ib, q + 2, none⟩ = some (.slice (some ⟨ab, ao, none⟩) xl ac) ∧ (w1.alloc (.cells #[.int .i64 vn] 2)).cell? ⟨ab, ao, none⟩ = some (.int .i64 a) := HSx.out _ (HBw1.out.trans (hbZ.mono H1k.out.sq.hb))
                        have HZk := Lib.hid (H1k.out.keep hbZ)
                        have HBZ := Lib.hid (HBw1.out.trans (hbZ.mono H1k.out.sq.hb))
                        clear hbZ
                        refine hK.out _ _ ?_ (fun hHeld => ?_)
                        · ((try dsimp only); first | with_reducible assumption | exact hs0 | exact hs1 | exact hs2 | exact hs3 | exact hs4 | exact hs5)
                        clear hK K
                        try simp only [Act.put, List.setIfInBounds_toArray, List.set_cons_zero, List.set_cons_succ]
                        refine wpAnyH_ready (rs := [16]) (by kernel_rfl) (by simp) ?_
                        refine AllReadyH.cons rfl (fun K hK => ?_) (AllReadyH.nil)
                        have hown := HZk.out.sq.at Hrow.out
                        rw [← Hen.out] at hown
                        have HNW := Lib.hid (World.news_of_block (w := (w1.alloc (.cells #[.int .i64 vn] 2))) (heap_alloc_new w1 (.cells #[.int .i64 vn] 2)))
                        refine step_append_lies _ rfl (.tmp 137) (.tmp 147) 48 rfl base 2 i0 (.int .i64 0) 1 8 Try.underlying48 Hi.out Hz0.out Hz1.out Hz2.out rfl (by decide) (.slice (M.sa 0) en (M.sc 0)) en (intsV r.events) (by simp [Act.eval, Act.put]) hown ⟨w1.heap.size, 0, none⟩ 1 1 [.int .i64 vn] (by simp [Act.eval, Act.put]) rfl HNW.out HO.out (by decide) (by unfold maxLen; have := Hel.out; omega) (by have := Hel.out; omega) HZk.out.sq.hb _ rfl ?_
                        intro g cap w5 hown5 hgrow hat hlt5
                        have hgr : (w1.alloc (.cells #[.int .i64 vn] 2)).grownBy w5 (F 0).v.ownBlock := by
                          rw [Hrow.out]
                          exact (own_any (M.sa 0) r.events.length en (M.sc 0)) ▸ hgrow
                        have hat2 : (F 0).v.ownBlock = some g ∨ (w1.alloc (.cells #[.int .i64 vn] 2)).heap.size ≤ g := by
                          rw [Hrow.out]
                          rcases hat with h | h
                          · exact .inl ((own_any (M.sa 0) r.events.length en (M.sc 0)).trans h)
                          · exact .inr (by rw [h]; exact Nat.le_refl _)
                        have hR := (HZk.out).row (r' := { r with events := r.events ++ [vn] }) 0 (by omega) g (en + 1) cap hgr (by show Value.slice _ (r.events ++ [_]).length _ = _; rw [List.length_append, Hen.out]; rfl)
                          (by
                            show w5.ownsRow base 2 1 (.slice (some ⟨g, 0, none⟩) (r.events ++ [vn]).length cap) (r.events ++ [vn]).length (intsV (r.events ++ [vn]))
                            have ho5 := hown5
                            rw [Hen.out] at ho5
                            rw [List.length_append]
                            have e : intsV (r.events ++ [vn]) = intsV r.events ++ [.int .i64 vn] := by simp [intsV]
                            rw [e]
                            exact ho5)
                          hat2
                          (fun l hl hne => by rcases l with _ | _ | _ | _ | _ | l <;> first | rfl | omega)
                          2 (.slice (some ⟨g, 0, none⟩) (en + 1) cap) (by rw [Hen.out]; show _ = xCells { r with events := r.events ++ [vn] } fs.length (upM M 0 (some ⟨g, 0, none⟩) cap); unfold xCells; rw [show ({ r with events := r.events ++ [vn] } : XR).events.length = r.events.length + 1 by show (r.events ++ [_]).length = _; rw [List.length_append]; rfl]; rfl)
                          HZk.out.ol rfl rfl rfl rfl
                        have y2 : w5.cell? ⟨E, 2, none⟩ = some (.slice (M.sa 0) en (M.sc 0)) := by rw [Hen.out]; exact hR.2.2.1 2 _ rfl
                        have yf5 := hR.2.2.2 2
                        have hs4 : w5.cell? ⟨ib, q + 2, none⟩ = some (.slice (some ⟨ab, ao, none⟩) xl ac) ∧ w5.cell? ⟨ab, ao, none⟩ = some (.int .i64 a) := HSx.out _ (HBZ.out.trans (HZk.out.sq.b_grown 0 hgr))
                        have HRr := Lib.hid (And.intro hR.1 hR.2.1)
                        clear hown hown5 hgrow hat hlt5 hgr hat2 hR HNW
                        refine hK.out _ _ ?_ (fun hHeld => ?_)
                        · ((try dsimp only); first | with_reducible assumption | exact hs0 | exact hs1 | exact hs2 | exact hs3 | exact hs4 | exact hs5)
                        clear hK K
                        try simp only [Act.put, List.setIfInBounds_toArray, List.set_cons_zero, List.set_cons_succ]
                        refine wpAnyH_take (i := 17) (v := ?_) rfl (by kernel_rfl) (by kernel_rfl) (by kernel_rfl) (fun _ _ _ h => h) (Or.inl ⟨by kernel_rfl, ?_⟩) (by assumption) ?_
                        rotate_left
                        · (intro w hSw; (try dsimp only at hSw); first | (go_simp; done) | (go_simp; with_reducible rfl))
                        try simp only [Act.put, List.setIfInBounds_toArray, List.set_cons_zero, List.set_cons_succ]
                        refine wpAnyH_take (i := 18) (v := ?_) rfl (by kernel_rfl) (by kernel_rfl) (by kernel_rfl) (fun _ _ _ h => h) (Or.inl ⟨by kernel_rfl, ?_⟩) (by assumption) ?_
                        rotate_left
                        · (intro w hSw; (try dsimp only at hSw); first | (go_simp; done) | (go_simp; with_reducible rfl))
                        try simp only [Act.put, List.setIfInBounds_toArray, List.set_cons_zero, List.set_cons_succ]
                        refine wpAnyH_take (i := 19) (v := ?_) rfl (by kernel_rfl) (by kernel_rfl) (by kernel_rfl) (fun _ _ _ h => h) (Or.inl ⟨by kernel_rfl, ?_⟩) (by assumption) ?_
                        rotate_left
                        · (intro w hSw; (try dsimp only at hSw); first | (go_simp; done) | (go_simp; with_reducible rfl))
                        try simp only [Act.put, List.setIfInBounds_toArray, List.set_cons_zero, List.set_cons_succ]
                        refine wpAnyH_ready (rs := [20]) (by kernel_rfl) (by simp) ?_
                        refine AllReadyH.cons rfl (fun K hK => ?_) (AllReadyH.nil)
                        have hs5 : (w5.setCell ⟨E, 2, none⟩ (.slice (some ⟨g, 0, none⟩) (en + 1) cap)).cell? ⟨ib, q + 2, none⟩ = some (.slice (some ⟨ab, ao, none⟩) xl ac) ∧ (w5.setCell ⟨E, 2, none⟩ (.slice (some ⟨g, 0, none⟩) (en + 1) cap)).cell? ⟨ab, ao, none⟩ = some (.int .i64 a) := HSx.out _ (HBZ.out.trans HRr.out.2)
                        go_simp
                        refine hK.out _ _ ?_ (fun hHeld => ?_)
                        · ((try dsimp only); first | with_reducible assumption | exact hs0 | exact hs1 | exact hs2 | exact hs3 | exact hs4 | exact hs5)
                        clear hK K
                        try simp only [Act.put, List.setIfInBounds_toArray, List.set_cons_zero, List.set_cons_succ]
                        refine wpAnyH_done (by kernel_rfl) ?_ _
                        try simp only [Exit.inBlock, Exit.then]
                        first
                          | refine bodyPost_ret (results_none rfl _ _ _) rfl ?_
                          | refine bodyPost_end (results_none rfl _ _ _) rfl ?_
                        obtain ⟨F5, hF5⟩ := HRr.out.1
                        rw [Hr'.out]
                        exact ⟨rfl, ⟨_, F5, hF5⟩, HDo.out.bel.trans (HBZ.out.trans HRr.out.2)⟩
                      · go_simp
                        have hbZ : Below w1.heap.size w1 (w1.alloc (.cells #[.int .i64 vn] 2)) := (Below.refl _ _).alloc (Nat.le_refl _) _
                        have hs3 : (w1.alloc (.cells #[.int .i64 vn] 2)).cell? ⟨ib, q + 2, none⟩ = some (.slice (some ⟨ab, ao, none⟩) xl ac) ∧ (w1.alloc (.cells #[.int .i64 vn] 2)).cell? ⟨ab, ao, none⟩ = some (.int .i64 a) := HSx.out _ (HBw1.out.trans (hbZ.mono H1k.out.sq.hb))
                        have HZk := Lib.hid (H1k.out.keep hbZ)
                        have HBZ := Lib.hid (HBw1.out.trans (hbZ.mono H1k.out.sq.hb))
                        clear hbZ
                        refine hK.out _ _ ?_ (fun hHeld => ?_)
                        · ((try dsimp only); first | with_reducible assumption | exact hs0 | exact hs1 | exact hs2 | exact hs3 | exact hs4 | exact hs5)
                        clear hK K
                        try simp only [Act.put, List.setIfInBounds_toArray, List.set_cons_zero, List.set_cons_succ]
                        refine wpAnyH_ready (rs := [5]) (by kernel_rfl) (by simp) ?_
                        refine AllReadyH.cons rfl (fun K hK => ?_) (AllReadyH.nil)
                        have s2 : (w1.alloc (.cells #[.int .i64 vn] 2)).cell? ⟨E, 2, none⟩ = some (.slice (M.sa 0) en (M.sc 0)) := by rw [Hen.out]; exact HZk.out.sq.cell 2 _ rfl
                        go_simp
                        refine hK.out _ _ ?_ (fun hHeld => ?_)
                        · ((try dsimp only); first | with_reducible assumption | exact hs0 | exact hs1 | exact hs2 | exact hs3 | exact hs4 | exact hs5)
                        clear hK K
                        try simp only [Act.put, List.setIfInBounds_toArray, List.set_cons_zero, List.set_cons_succ]
                        refine wpAnyH_ready (rs := [16]) (by kernel_rfl) (by simp) ?_
                        refine AllReadyH.cons rfl (fun K hK => ?_) (AllReadyH.nil)
                        have hown := HZk.out.sq.at Hrow.out
                        rw [← Hen.out] at hown
                        have HNW := Lib.hid (World.news_of_block (w := (w1.alloc (.cells #[.int .i64 vn] 2))) (heap_alloc_new w1 (.cells #[.int .i64 vn] 2)))
                        refine step_append_lies _ rfl (.tmp 137) (.tmp 147) 48 rfl base 2 i0 (.int .i64 0) 1 8 Try.underlying48 Hi.out Hz0.out Hz1.out Hz2.out rfl (by decide) (.slice (M.sa 0) en (M.sc 0)) en (intsV r.events) (by simp [Act.eval, Act.put]) hown ⟨w1.heap.size, 0, none⟩ 1 1 [.int .i64 vn] (by simp [Act.eval, Act.put]) rfl HNW.out HO.out (by decide) (by unfold maxLen; have := Hel.out; omega) (by have := Hel.out; omega) HZk.out.sq.hb _ rfl ?_
                        intro g cap w5 hown5 hgrow hat hlt5
                        have hgr : (w1.alloc (.cells #[.int .i64 vn] 2)).grownBy w5 (F 0).v.ownBlock := by
                          rw [Hrow.out]
                          exact (own_any (M.sa 0) r.events.length en (M.sc 0)) ▸ hgrow
                        have hat2 : (F 0).v.ownBlock = some g ∨ (w1.alloc (.cells #[.int .i64 vn] 2)).heap.size ≤ g := by
                          rw [Hrow.out]
                          rcases hat with h | h
                          · exact .inl ((own_any (M.sa 0) r.events.length en (M.sc 0)).trans h)
                          · exact .inr (by rw [h]; exact Nat.le_refl _)
                        have hR := (HZk.out).row (r' := { r with events := r.events ++ [vn] }) 0 (by omega) g (en + 1) cap hgr (by show Value.slice _ (r.events ++ [_]).length _ = _; rw [List.length_append, Hen.out]; rfl)
                          (by
                            show w5.ownsRow base 2 1 (.slice (some ⟨g, 0, none⟩) (r.events ++ [vn]).length cap) (r.events ++ [vn]).length (intsV (r.events ++ [vn]))
                            have ho5 := hown5
                            rw [Hen.out] at ho5
                            rw [List.length_append]
                            have e : intsV (r.events ++ [vn]) = intsV r.events ++ [.int .i64 vn] := by simp [intsV]
                            rw [e]
                            exact ho5)
                          hat2
                          (fun l hl hne => by rcases l with _ | _ | _ | _ | _ | l <;> first | rfl | omega)
                          2 (.slice (some ⟨g, 0, none⟩) (en + 1) cap) (by rw [Hen.out]; show _ = xCells { r with events := r.events ++ [vn] } fs.length (upM M 0 (some ⟨g, 0, none⟩) cap); unfold xCells; rw [show ({ r with events := r.events ++ [vn] } : XR).events.length = r.events.length + 1 by show (r.events ++ [_]).length = _; rw [List.length_append]; rfl]; rfl)
                          HZk.out.ol rfl rfl rfl rfl
                        have y2 : w5.cell? ⟨E, 2, none⟩ = some (.slice (M.sa 0) en (M.sc 0)) := by rw [Hen.out]; exact hR.2.2.1 2 _ rfl
                        have yf5 := hR.2.2.2 2
                        have hs4 : w5.cell? ⟨ib, q + 2, none⟩ = some (.slice (some ⟨ab, ao, none⟩) xl ac) ∧ w5.cell? ⟨ab, ao, none⟩ = some (.int .i64 a) := HSx.out _ (HBZ.out.trans (HZk.out.sq.b_grown 0 hgr))
                        have HRr := Lib.hid (And.intro hR.1 hR.2.1)
                        clear hown hown5 hgrow hat hlt5 hgr hat2 hR HNW
                        refine hK.out _ _ ?_ (fun hHeld => ?_)
                        · ((try dsimp only); first | with_reducible assumption | exact hs0 | exact hs1 | exact hs2 | exact hs3 | exact hs4 | exact hs5)
                        clear hK K
                        try simp only [Act.put, List.setIfInBounds_toArray, List.set_cons_zero, List.set_cons_succ]
                        refine wpAnyH_take (i := 17) (v := ?_) rfl (by kernel_rfl) (by kernel_rfl) (by kernel_rfl) (fun _ _ _ h => h) (Or.inl ⟨by kernel_rfl, ?_⟩) (by assumption) ?_
                        rotate_left
                        · (intro w hSw; (try dsimp only at hSw); first | (go_simp; done) | (go_simp; with_reducible rfl))
                        try simp only [Act.put, List.setIfInBounds_toArray, List.set_cons_zero, List.set_cons_succ]
                        refine wpAnyH_take (i := 18) (v := ?_) rfl (by kernel_rfl) (by kernel_rfl) (by kernel_rfl) (fun _ _ _ h => h) (Or.inl ⟨by kernel_rfl, ?_⟩) (by assumption) ?_
                        rotate_left
                        · (intro w hSw; (try dsimp only at hSw); first | (go_simp; done) | (go_simp; with_reducible rfl))
                        try simp only [Act.put, List.setIfInBounds_toArray, List.set_cons_zero, List.set_cons_succ]
                        refine wpAnyH_take (i := 19) (v := ?_) rfl (by kernel_rfl) (by kernel_rfl) (by kernel_rfl) (fun _ _ _ h => h) (Or.inl ⟨by kernel_rfl, ?_⟩) (by assumption) ?_
                        rotate_left
                        · (intro w hSw; (try dsimp only at hSw); first | (go_simp; done) | (go_simp; with_reducible rfl))
                        try simp only [Act.put, List.setIfInBounds_toArray, List.set_cons_zero, List.set_cons_succ]
                        refine wpAnyH_ready (rs := [20]) (by kernel_rfl) (by simp) ?_
                        refine AllReadyH.cons rfl (fun K hK => ?_) (AllReadyH.nil)
                        have hs5 : (w5.setCell ⟨E, 2, none⟩ (.slice (some ⟨g, 0, none⟩) (en + 1) cap)).cell? ⟨ib, q + 2, none⟩ = some (.slice (some ⟨ab, ao, none⟩) xl ac) ∧ (w5.setCell ⟨E, 2, none⟩ (.slice (some ⟨g, 0, none⟩) (en + 1) cap)).cell? ⟨ab, ao, none⟩ = some (.int .i64 a) := HSx.out _ (HBZ.out.trans HRr.out.2)
                        go_simp
                        refine hK.out _ _ ?_ (fun hHeld => ?_)
                        · ((try dsimp only); first | with_reducible assumption | exact hs0 | exact hs1 | exact hs2 | exact hs3 | exact hs4 | exact hs5)
                        clear hK K
                        try simp only [Act.put, List.setIfInBounds_toArray, List.set_cons_zero, List.set_cons_succ]
                        refine wpAnyH_done (by kernel_rfl) ?_ _
                        try simp only [Exit.inBlock, Exit.then]
                        first
                          | refine bodyPost_ret (results_none rfl _ _ _) rfl ?_
                          | refine bodyPost_end (results_none rfl _ _ _) rfl ?_
                        obtain ⟨F5, hF5⟩ := HRr.out.1
                        rw [Hr'.out]
                        exact ⟨rfl, ⟨_, F5, hF5⟩, HDo.out.bel.trans (HBZ.out.trans HRr.out.2)⟩
                  · rw [if_neg h33] at hx
                    have d33 : (op == 33) = false := by simpa using h33
                    by_cases h34 : op = 34
                    · rw [if_pos h34] at hx
                      have d34 : (op == 34) = true := by rw [h34]; rfl
                      clear h34 Hx
                      have hS := input_c HDo.out.ok (idn : Int) r' hx
                      clear hx o0
                      go_wp2_with (go_at_call 109; refine hS.mono ?_; rintro e w1 ⟨rfl, hN⟩; have HN := Lib.hid hN; clear hN hS)
                      try simp only [Exit.inBlock, Exit.then]
                      first
                        | refine bodyPost_ret (results_none rfl _ _ _) rfl ?_
                        | refine bodyPost_end (results_none rfl _ _ _) rfl ?_
                      exact ⟨rfl, HN.out.1, HDo.out.bel.trans HN.out.2⟩
                    · rw [if_neg h34] at hx
                      have d34 : (op == 34) = false := by simpa using h34
                      by_cases h35 : op = 35
                      · rw [if_pos h35] at hx
                        have d35 : (op == 35) = true := by rw [h35]; rfl
                        clear h35 Hx
                        rw [Option.map_eq_some_iff] at hx
                        obtain ⟨v, hv, hr'⟩ := hx
                        obtain ⟨a, ha, hg⟩ := argX_some hv
                        obtain ⟨ab, ao, rfl, k0, hl⟩ := HDo.out.inn.arg ha
                        rw [Nat.add_zero] at k0
                        have k2 := HDo.out.inn.c2
                        have hlen := HDo.out.inn.ar.len
                        obtain ⟨xl, hxl⟩ : ∃ xl, xl = x.args.length := ⟨_, rfl⟩
                        rw [← hxl] at k2 hl
                        have hG := get_c HDo.out.ok a v hg
                        obtain ⟨vn, hvn⟩ : ∃ vn, vn = v.n := ⟨_, rfl⟩
                        obtain ⟨pv, hpv⟩ : ∃ pv : Option Addr, pv = v.of_.map fun t => ⟨M.tb t, 0, none⟩ := ⟨_, rfl⟩
                        rw [← hvn, ← hpv] at hG
                        rw [← hvn] at hr'
                        have HI : Hid (∀ A, Below D.heap.size D A → A.cell? ⟨ib, q + 3, none⟩ = some (.int .i64 x.n)) := Lib.hid fun A hA => (HDo.out.inn.keep (hA.mono (Nat.le_trans HDo.out.ok.n0b HDo.out.ok.sq.hb))).c3
                        have HS : Hid (∀ A, Below D.heap.size D A → Calls Try.prog 101 #[.pointer (some ⟨E, 0, none⟩), .int .i64 2, .int .i64 x.n] A fun e w' => e = .returned (.tuple #[]) ∧ XOk n0 base E fs cm (stopX r 2 x.n) M F w' ∧ Below base A w') := Lib.hid fun A hA => stop_c (HDo.out.ok.keep hA) 2 x.n
                        have fd := field0 vn (.pointer pv)
                        have Hb0 : Hid (base ≤ D.heap.size) := Lib.hid HDo.out.ok.sq.hb
                        obtain ⟨xn, hxn⟩ : ∃ xn, xn = x.n := ⟨_, rfl⟩
                        rw [← hxn] at HI HS hr'
                        clear o0 hv ha hg hlen hxl hvn hpv hxn
                        by_cases h0 : vn = 0
                        · rw [if_pos h0] at hr'
                          have Hr' := Lib.hid hr'
                          have d0 : (vn == 0) = true := by rw [h0]; rfl
                          clear hr' h0
                          go_wp2_with (first
                            | (go_at_call 103; refine hG.mono ?_; rintro e w1 ⟨rfl, hb1⟩; have Hb1 := Lib.hid hb1; have t0 := HI.out w1 hb1; have hS := HS.out w1 hb1; clear hb1 hG)
                            | (go_at_call 101; refine hS.mono ?_; rintro e w2 ⟨rfl, hN, hb2⟩; have HN := Lib.hid hN; have Hb2 := Lib.hid hb2; clear hN hb2 hS))
                          try simp only [Exit.inBlock, Exit.then]
                          first
                            | refine bodyPost_ret (results_none rfl _ _ _) rfl ?_
                            | refine bodyPost_end (results_none rfl _ _ _) rfl ?_
                          rw [← Hr'.out]
                          exact ⟨rfl, ⟨_, _, HN.out⟩, (HDo.out.bel.trans (Hb1.out.mono Hb0.out)).trans Hb2.out⟩
                        · rw [if_neg h0] at hr'
                          have Hr' := Lib.hid hr'
                          have d0 : (vn == 0) = false := by simpa using h0
                          have HK : Hid (∀ A, Below D.heap.size D A → XOk n0 base E fs cm r M F A) := Lib.hid fun A hA => HDo.out.ok.keep hA
                          clear hr' h0 HS HI
                          go_wp2_with (go_at_call 103; refine hG.mono ?_; rintro e w1 ⟨rfl, hb1⟩; have Hb1 := Lib.hid hb1; clear hb1 hG)
                          try simp only [Exit.inBlock, Exit.then]
                          first
                            | refine bodyPost_ret (results_none rfl _ _ _) rfl ?_
                            | refine bodyPost_end (results_none rfl _ _ _) rfl ?_
                          rw [← Hr'.out]
                          exact ⟨rfl, ⟨_, _, HK.out _ Hb1.out⟩, HDo.out.bel.trans (Hb1.out.mono Hb0.out)⟩
                      · rw [if_neg h35] at hx
                        have d35 : (op == 35) = false := by simpa using h35
                        by_cases h36 : op = 36
                        · rw [if_pos h36] at hx
                          have d36 : (op == 36) = true := by rw [h36]; rfl
                          clear h36 Hx
                          have hS := call_c HDo.out.ok ib q x aA ac HDo.out.inn (call_len hx) r' hx
                          clear hx o0
                          go_wp2_with (go_at_call 110; refine hS.mono ?_; rintro e w1 ⟨rfl, hN⟩; have HN := Lib.hid hN; clear hN hS)
                          try simp only [Exit.inBlock, Exit.then]
                          first
                            | refine bodyPost_ret (results_none rfl _ _ _) rfl ?_
                            | refine bodyPost_end (results_none rfl _ _ _) rfl ?_
                          exact ⟨rfl, HN.out.1, HDo.out.bel.trans HN.out.2⟩
                        · rw [if_neg h36] at hx
                          have d36 : (op == 36) = false := by simpa using h36
                          have hS := reckon_c HDo.out.ok (idn : Int) ib q x aA ac HDo.out.inn r' hx
                          clear hx o0
                          go_wp2_with (go_at_call 111; refine hS.mono ?_; rintro e w1 ⟨rfl, hN⟩; have HN := Lib.hid hN; clear hN hS)
                          try simp only [Exit.inBlock, Exit.then]
                          first
                            | refine bodyPost_ret (results_none rfl _ _ _) rfl ?_
                            | refine bodyPost_end (results_none rfl _ _ _) rfl ?_
                          exact ⟨rfl, HN.out.1, HDo.out.bel.trans HN.out.2⟩
end
end Go.Proofs.Ytagagpappjkgbaa
