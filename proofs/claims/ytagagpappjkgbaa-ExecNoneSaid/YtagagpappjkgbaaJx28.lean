/-
  Programs that may be: begins, asked, bare.
  Programs that may be: named, of.
-/
import Derived.Test.YtagagpappjkgbaaJx1
namespace Go.Proofs.Ytagagpappjkgbaa
set_option linter.unusedVariables false
set_option linter.unusedSimpArgs false
open Go.RowKit

def mainP (fs : List SF) (mn : Int) : Bool := match fs[mn.toNat]? with
  | some d => (d.params.length == 0) && (d.ret == 1)
  | none => false
def beginsP (fs : List SF) (mn : Int) : Bool := decide (fs.length ≤ 256) && (hasG fs.length mn && mainP fs mn)
set_option maxRecDepth 100000 in
set_option maxHeartbeats 4000000 in
theorem begins_g (fA : Option Addr) (fn fc : Nat) (mn : Int) (fs : List SF) (w : World) (hf : SFs w.heap.size w (.slice fA fn fc) fs) (hl : fn = fs.length) (hfb : fn ≤ 1048576) :
    Calls Try.prog 74 #[.agg #[.slice fA fn fc, .int .i64 mn]] w fun e w' => e = .returned (.bool (beginsP fs mn)) ∧ Below w.heap.size w w' := by
  obtain ⟨W, hW, hbW, hzW, h0W⟩ := gr_one w #[.slice fA fn fc, .int .i64 mn] 36
  have x0 := Lib.cell_of_heap h0W 0
  have x1 := Lib.cell_of_heap h0W 1
  have hH := sound_has_g fA fn fc mn mn W
  have HX : Hid (∀ V, Below W.heap.size W V → V.cell? ⟨w.heap.size, 0, none⟩ = some (.slice fA fn fc) ∧ V.cell? ⟨w.heap.size, 1, none⟩ = some (.int .i64 mn) ∧ SFs w.heap.size V (.slice fA fn fc) fs) := Lib.hid fun V hV => by
    have e1 := (hV.block w.heap.size (by omega)).trans h0W
    exact ⟨Lib.cell_of_heap e1 0, Lib.cell_of_heap e1 1, (hf.keep hbW).keep (hV.mono (by omega))⟩
  have HB : Hid (∀ V, Below W.heap.size W V → Below w.heap.size w V) := Lib.hid fun V hV => hbW.trans (hV.mono (by omega))
  have HzW := Lib.hid hzW
  have HW := Lib.hid hW
  obtain ⟨res, hres⟩ : ∃ res, res = beginsP fs mn := ⟨_, rfl⟩
  rw [← hres]
  unfold beginsP at hres
  rw [← hl] at hres
  have Hl := Lib.hid hl
  clear hW hbW hzW h0W hf hl
  by_cases h256 : fn ≤ 256
  · have d1 : decide ((fn : Int) > 256) = false := decide_eq_false (by omega)
    rw [decide_eq_true h256, Bool.true_and] at hres
    cases hq : hasG fn mn with
    | false =>
      rw [hq] at hres hH
      have hr : res = false := by rw [hres]; rfl
      subst hr
      clear hres hq
      go_enter Try.func74, Try.ntmps74
      go_upto_region 1 with fail
      rw [← HW.out]
      go_wp2_with (go_at_call 92; refine hH.mono ?_; rintro e w1 ⟨rfl, hb1⟩; have HE := Lib.hid (HB.out w1 hb1); clear hb1 hH)
      go_ret
      exact ⟨rfl, HE.out⟩
    | true =>
      rw [hq, Bool.true_and] at hres
      rw [hq] at hH
      have hm := of_decide_eq_true hq
      obtain ⟨k, rfl⟩ : ∃ k : Nat, mn = k := ⟨mn.toNat, by omega⟩
      have hk : k < fn := by omega
      have hkl : k < fs.length := by rw [← Hl.out]; exact hk
      have hmp : mainP fs (k : Int) = ((fs[k].params.length == 0) && (fs[k].ret == 1)) := by
        unfold mainP
        rw [Int.toNat_natCast, List.getElem?_eq_getElem hkl]
      rw [hmp] at hres
      obtain ⟨d, hd⟩ : ∃ d, d = fs[k] := ⟨_, rfl⟩
      rw [← hd] at hres
      have HD : Hid (∀ V, Below W.heap.size W V → ∃ b o s pA pc iA ic bA bc, fA = some ⟨b, o, none⟩ ∧ V.cell? ⟨b, o + k * 5, none⟩ = some (.string s) ∧ V.cell? ⟨b, o + k * 5 + 1, none⟩ = some (.slice pA d.params.length pc) ∧ V.cell? ⟨b, o + k * 5 + 2, none⟩ = some (.int .i64 d.ret) ∧ V.cell? ⟨b, o + k * 5 + 3, none⟩ = some (.slice iA d.ins.length ic) ∧ V.cell? ⟨b, o + k * 5 + 4, none⟩ = some (.slice bA d.blocks.length bc)) := Lib.hid fun V hV => by
        obtain ⟨b, o, s, pA, pc, iA, ic, bA, bc, h1, -, h2, h3, h4, h5, h6, -⟩ := (HX.out V hV).2.2.at hkl
        rw [← hd] at h3 h4 h5 h6
        exact ⟨b, o, s, pA, pc, iA, ic, bA, bc, h1, h2, h3, h4, h5, h6⟩
      obtain ⟨pl, hpl⟩ : ∃ pl, pl = d.params.length := ⟨_, rfl⟩
      rw [← hpl] at hres HD
      obtain ⟨dr, hdr⟩ : ∃ dr, dr = d.ret := ⟨_, rfl⟩
      rw [← hdr] at hres HD
      clear hq hm hkl hmp hd hpl hdr h256
      go_enter Try.func74, Try.ntmps74
      go_upto_region 1 with fail
      rw [← HW.out]
      go_upto_region 3 with (go_at_call 92; refine hH.mono ?_; rintro e w1 ⟨rfl, hb1⟩; have Hb1 := Lib.hid hb1; clear hb1 hH)
      obtain ⟨y0, y1, -⟩ := HX.out w1 Hb1.out
      obtain ⟨b, o, s, pA, pc, iA, ic, bA, bc, rfl, k0, k1, k2, k3, k4⟩ := HD.out w1 Hb1.out
      obtain ⟨Z, hZ, hbZ, hzZ, h0Z⟩ := gr_one w1 #[.string s, .slice pA pl pc, .int .i64 dr, .slice iA d.ins.length ic, .slice bA d.blocks.length bc] 68
      obtain ⟨z0, z1, z2, z3, z4, -⟩ := gr_five h0Z
      have HE := Lib.hid (HB.out Z (Hb1.out.trans (hbZ.mono Hb1.out.size)))
      have HZ := Lib.hid hZ
      clear x0 x1 hZ hbZ hzZ h0Z
      go_upto_region 4 with fail
      rw [← HZ.out]
      clear y0 y1 k0 k1 k2 k3 k4
      by_cases hp0 : pl = 0
      · have hr : res = (dr == 1) := by rw [hres, hp0]; simp
        subst hr
        have d2 : ((pl : Int) == 0) = true := by rw [hp0]; rfl
        clear hres hp0
        go_wp2
        go_ret
        exact ⟨rfl, HE.out⟩
      · have hr : res = false := by rw [hres]; have : (pl == 0) = false := by simpa using hp0
                                    rw [this]; rfl
        subst hr
        have d2 : ((pl : Int) == 0) = false := by simp; omega
        clear hres hp0
        go_wp2
        go_ret
        exact ⟨rfl, HE.out⟩
  · have d1 : decide ((fn : Int) > 256) = true := decide_eq_true (by omega)
    have hr : res = false := by rw [hres, decide_eq_false h256]; rfl
    subst hr
    clear hres h256 hH
    go_enter Try.func74, Try.ntmps74
    go_upto_region 1 with fail
    rw [← HW.out]
    go_wp2
    go_ret
    exact ⟨rfl, HB.out W (Below.refl _ _)⟩
def askedP (r kind : Int) : Int := if kind = 2 then 2 else r
set_option maxRecDepth 100000 in
theorem asked_g (sb : Nat) (fA : Option Addr) (fn fc : Nat) (mn : Int) (s : ByteArray) (pA : Option Addr) (pn pc : Nat) (r : Int) (iA : Option Addr) (in_ ic : Nat) (bA : Option Addr) (bn bc : Nat) (vi va : Value) (kind arg : Int) (tA : Option Addr) (tn tc : Nat) (w : World) (h : SubC w sb fA fn fc mn s pA pn pc r iA in_ ic bA bn bc vi va) :
    Calls Try.prog 122 #[.pointer (some ⟨sb, 0, none⟩), .agg #[.int .i64 kind, .int .i64 arg, .slice tA tn tc]] w fun e w' => e = .returned (.int .i64 (askedP r kind)) ∧ Below w.heap.size w w' := by
  obtain ⟨W, hW, hbW, hzW, h0W⟩ := gr_one w #[.int .i64 kind, .int .i64 arg, .slice tA tn tc] 74
  have x0 := Lib.cell_of_heap h0W 0
  have y4 := Lib.cell_of_heap (h.keep hbW) 4
  have HbW := Lib.hid hbW
  have HW := Lib.hid hW
  clear hbW hW h0W hzW h
  by_cases h2 : kind = 2
  · have d2 : (kind == 2) = true := by simpa using h2
    have e : askedP r kind = 2 := if_pos h2
    rw [e]
    clear e h2
    go_enter Try.func122, Try.ntmps122
    go_upto_region 1 with fail
    rw [← HW.out]
    go_wp2
    go_ret
    exact ⟨rfl, HbW.out⟩
  · have d2 : (kind == 2) = false := by simpa using h2
    have e : askedP r kind = r := if_neg h2
    rw [e]
    clear e h2
    go_enter Try.func122, Try.ntmps122
    go_upto_region 1 with fail
    rw [← HW.out]
    go_wp2
    go_ret
    exact ⟨rfl, HbW.out⟩
/-- No number that is for others. -/
def bareP (op n to_ : Int) : Bool := if op = 1 then to_ == 0 else if op = 2 then to_ == 0 else if op = 35 then to_ == 0 else if op = 36 then n == 0 else (to_ == 0) && (n == 0)
set_option maxRecDepth 100000 in
theorem bare_g (sb : Nat) (op ty n to_ : Int) (aA : Option Addr) (an ac : Nat) (w : World) :
    Calls Try.prog 118 #[.pointer (some ⟨sb, 0, none⟩), .agg #[.int .i64 op, .int .i64 ty, .slice aA an ac, .int .i64 n, .int .i64 to_]] w fun e w' => e = .returned (.bool (bareP op n to_)) ∧ Below w.heap.size w w' := by
  obtain ⟨W, hW, hbW, hzW, h0W⟩ := gr_one w #[.int .i64 op, .int .i64 ty, .slice aA an ac, .int .i64 n, .int .i64 to_] 71
  obtain ⟨x0, x1, x2, x3, x4, -⟩ := gr_five h0W
  have HbW := Lib.hid hbW
  have HW := Lib.hid hW
  clear hbW hW h0W hzW
  obtain ⟨res, hres⟩ : ∃ res, res = bareP op n to_ := ⟨_, rfl⟩
  rw [← hres]
  unfold bareP at hres
  by_cases h1 : op = 1
  · have d1 : (op == 1) = true := by simpa using h1
    rw [if_pos h1] at hres
    subst hres
    try clear h5
    try clear h4
    try clear h3
    try clear h2
    try clear h1
    go_enter Try.func118, Try.ntmps118
    go_upto_region 1 with fail
    rw [← HW.out]
    go_wp2
    go_ret
    exact ⟨rfl, HbW.out⟩
  · have d1 : (op == 1) = false := by simpa using h1
    rw [if_neg h1] at hres
    by_cases h2 : op = 2
    · have d2 : (op == 2) = true := by simpa using h2
      rw [if_pos h2] at hres
      subst hres
      try clear h5
      try clear h4
      try clear h3
      try clear h2
      try clear h1
      go_enter Try.func118, Try.ntmps118
      go_upto_region 1 with fail
      rw [← HW.out]
      go_wp2
      go_ret
      exact ⟨rfl, HbW.out⟩
    · have d2 : (op == 2) = false := by simpa using h2
      rw [if_neg h2] at hres
      by_cases h3 : op = 35
      · have d3 : (op == 35) = true := by simpa using h3
        rw [if_pos h3] at hres
        subst hres
        try clear h5
        try clear h4
        try clear h3
        try clear h2
        try clear h1
        go_enter Try.func118, Try.ntmps118
        go_upto_region 1 with fail
        rw [← HW.out]
        go_wp2
        go_ret
        exact ⟨rfl, HbW.out⟩
      · have d3 : (op == 35) = false := by simpa using h3
        rw [if_neg h3] at hres
        by_cases h4 : op = 36
        · have d4 : (op == 36) = true := by simpa using h4
          rw [if_pos h4] at hres
          subst hres
          try clear h5
          try clear h4
          try clear h3
          try clear h2
          try clear h1
          go_enter Try.func118, Try.ntmps118
          go_upto_region 1 with fail
          rw [← HW.out]
          go_wp2
          go_ret
          exact ⟨rfl, HbW.out⟩
        · have d4 : (op == 36) = false := by simpa using h4
          rw [if_neg h4] at hres
          by_cases h5 : to_ = 0
          · have d5 : (to_ == 0) = true := by simpa using h5
            rw [d5, Bool.true_and] at hres
            subst hres
            try clear h5
            try clear h4
            try clear h3
            try clear h2
            try clear h1
            go_enter Try.func118, Try.ntmps118
            go_upto_region 1 with fail
            rw [← HW.out]
            go_wp2
            go_ret
            exact ⟨rfl, HbW.out⟩
          · have d5 : (to_ == 0) = false := by simpa using h5
            rw [d5, Bool.false_and] at hres
            subst hres
            try clear h5
            try clear h4
            try clear h3
            try clear h2
            try clear h1
            go_enter Try.func118, Try.ntmps118
            go_upto_region 1 with fail
            rw [← HW.out]
            go_wp2
            go_ret
            exact ⟨rfl, HbW.out⟩
end Go.Proofs.Ytagagpappjkgbaa
namespace Go.Proofs.Ytagagpappjkgbaa
set_option linter.unusedVariables false
set_option linter.unusedSimpArgs false
open Go.RowKit

def opOf (ins : List SIn) (a : Int) : Int := ((ins[a.toNat]?).map SIn.op).getD 0
def tyOf (ins : List SIn) (a : Int) : Int := ((ins[a.toNat]?).map SIn.ty).getD 0
def nmP (ins : List SIn) (a : Int) : Bool := decide (0 ≤ a) && (decide (a < ins.length) && (opOf ins a != 0))
def namedP (ins : List SIn) (args : List Int) : Bool := args.all (nmP ins)
theorem opOf_at {ins : List SIn} {k : Nat} (h : k < ins.length) : opOf ins (k : Int) = ins[k].op := by unfold opOf; rw [Int.toNat_natCast, List.getElem?_eq_getElem h]; rfl
theorem tyOf_at {ins : List SIn} {k : Nat} (h : k < ins.length) : tyOf ins (k : Int) = ins[k].ty := by unfold tyOf; rw [Int.toNat_natCast, List.getElem?_eq_getElem h]; rfl
theorem GNs.rd {n0 n c : Nat} {w : World} {A : Option Addr} {l : List Int} (h : GNs n0 w (.slice A n c) l) {j : Nat} (hj : j < n) : ∃ b o, A = some ⟨b, o, none⟩ ∧ w.cell? ⟨b, o + j, none⟩ = some (.int .i64 (l.getD j 0)) := by
  have := h.len
  obtain ⟨b, o, hA, -, hc⟩ := h.at (j := j) (by omega)
  exact ⟨b, o, hA, by rw [hc]; simp [List.getD, (by omega : j < l.length)]⟩
set_option maxRecDepth 100000 in
set_option maxHeartbeats 4000000 in
theorem named_g (n0 sb : Nat) (fA : Option Addr) (fn fc : Nat) (mn : Int) (s : ByteArray) (pA : Option Addr) (pn pc : Nat) (r : Int) (iA : Option Addr) (in_ ic : Nat) (bA : Option Addr) (bn bc : Nat) (vi va : Value) (ins : List SIn) (op ty n to_ : Int) (aA : Option Addr) (an ac : Nat) (args : List Int) (w : World) (h : SubC w sb fA fn fc mn s pA pn pc r iA in_ ic bA bn bc vi va) (hn : n0 ≤ w.heap.size) (hi : SIs n0 w (.slice iA in_ ic) ins) (hil : in_ = ins.length) (ha : GNs w.heap.size w (.slice aA an ac) args) (hab : an ≤ 1048576) (hib : in_ ≤ 1048576) :
    Calls Try.prog 119 #[.pointer (some ⟨sb, 0, none⟩), .agg #[.int .i64 op, .int .i64 ty, .slice aA an ac, .int .i64 n, .int .i64 to_]] w fun e w' => e = .returned (.bool (namedP ins args)) ∧ Below w.heap.size w w' := by
  obtain ⟨W, hW, hbW, hzW, h0W⟩ := gr_one w #[.int .i64 op, .int .i64 ty, .slice aA an ac, .int .i64 n, .int .i64 to_] 71
  obtain ⟨x0, x1, x2, x3, x4, -⟩ := gr_five h0W
  have hal := ha.len
  have Hrd : Hid (∀ j, j < an → ∃ g o, aA = some ⟨g, o, none⟩ ∧ W.cell? ⟨g, o + j, none⟩ = some (.int .i64 (args.getD j 0))) := Lib.hid fun j hj => (ha.keep hbW).rd hj
  have y5 := Lib.cell_of_heap (h.keep hbW) 5
  have Hi : Hid (SIs n0 W (.slice iA in_ ic) ins) := Lib.hid (hi.keep (hbW.mono hn))
  obtain ⟨res, hres⟩ : ∃ res, res = namedP ins args := ⟨_, rfl⟩
  rw [← hres]
  have Hres := Lib.hid hres
  have Hal := Lib.hid hal
  have Hil := Lib.hid hil
  have HbW := Lib.hid hbW
  have HW := Lib.hid hW
  clear hW hbW hzW h0W h hi ha hal hil hres
  go_enter Try.func119, Try.ntmps119
  go_upto_region 1 with fail
  rw [← HW.out]
  go_upto_block 0 with fail
  go_wp2_with fail
  go_loopw [10] (fun u10 wr => ∃ i : Nat, i ≤ an ∧ u10 = .int .i64 i ∧ Hid ((args.take i).all (nmP ins) = true) ∧ wr = W) (fun u10 _ => an - (intOf u10).toNat)
  case atStart => exact ⟨0, Nat.zero_le _, rfl, Lib.hid (by simp), by trivial⟩
  case round =>
    obtain ⟨i, hi, rfl, HA, rfl⟩ := hrel
    by_cases hli : i < an
    · obtain ⟨g, o, rfl, k1⟩ := Hrd.out i hli
      obtain ⟨a, hta⟩ : ∃ a, a = args.getD i 0 := ⟨_, rfl⟩
      rw [← hta] at k1
      have hil2 : i < args.length := by rw [← Hal.out]; exact hli
      have hte : args[i] = a := by rw [hta]; simp [List.getD, hil2]
      have htk : (args.take (i + 1)).all (nmP ins) = nmP ins a := by
        rw [← List.take_append_getElem hil2, List.all_append, HA.out, hte]
        simp
      have hmem : nmP ins a = false → res = false := fun hf => by
        rw [Hres.out]
        unfold namedP
        cases hq : args.all (nmP ins) with
        | false => rfl
        | true =>
          have := List.all_eq_true.1 hq args[i] (List.getElem_mem hil2)
          rw [hte, hf] at this; cases this
      have Htk := Lib.hid htk
      have Hmem := Lib.hid hmem
      clear htk hmem hte hil2 hta HA
      by_cases h0 : a < 0
      · have d1 : decide (a < 0) = true := decide_eq_true h0
        have hf := Hmem.out (by unfold nmP; rw [decide_eq_false (by omega : ¬ 0 ≤ a)]; rfl)
        subst hf
        clear h0
        go_wp2_with fail
        go_ret
        exact ⟨rfl, HbW.out⟩
      · have d1 : decide (a < 0) = false := decide_eq_false h0
        by_cases h1 : a ≥ (in_ : Int)
        · have d2 : decide (a ≥ (in_ : Int)) = true := decide_eq_true h1
          have hf := Hmem.out (by unfold nmP; rw [decide_eq_false (by rw [← Hil.out]; omega : ¬ a < (ins.length : Int))]; simp)
          subst hf
          clear h0
          go_wp2_with fail
          go_ret
          exact ⟨rfl, HbW.out⟩
        · have d2 : decide (a ≥ (in_ : Int)) = false := decide_eq_false h1
          obtain ⟨k, rfl⟩ : ∃ k : Nat, a = k := ⟨a.toNat, by omega⟩
          have hk : k < in_ := by omega
          have hkl : k < ins.length := by rw [← Hil.out]; exact hk
          obtain ⟨ib, io, aA2, ac2, rfl, -, k2, -⟩ := Hi.out.at hkl
          rw [← opOf_at hkl] at k2
          obtain ⟨x, hx⟩ : ∃ x, x = opOf ins (k : Int) := ⟨_, rfl⟩
          rw [← hx] at k2
          have hnm : nmP ins (k : Int) = (x != 0) := by
            unfold nmP
            rw [decide_eq_true (by omega : (0 : Int) ≤ (k : Int)), decide_eq_true (by omega : (k : Int) < (ins.length : Int)), ← hx]
            rfl
          rw [hnm] at Htk Hmem
          by_cases hx0 : x = 0
          · have d3 : (x == 0) = true := by simpa using hx0
            have hf := Hmem.out (by rw [hx0]; rfl)
            subst hf
            clear h0 h1 hx hnm hx0 hkl
            go_wp2_with fail
            go_ret
            exact ⟨rfl, HbW.out⟩
          · have d3 : (x == 0) = false := by simpa using hx0
            have HA2 : Hid ((args.take (i + 1)).all (nmP ins) = true) := Lib.hid (by rw [Htk.out]; simpa using hx0)
            clear h0 h1 hx hnm hx0 hkl
            go_wp2_with fail
            go_roundw
            case rel => exact ⟨i + 1, by omega, by go_num, HA2, by trivial⟩
            case measure => simp [intOf]; omega
    · obtain rfl : an = i := by omega
      have hf : res = true := by rw [Hres.out]; have := HA.out; rw [Hal.out, List.take_length] at this; exact this
      subst hf
      go_wp2_with fail
      go_ret
      exact ⟨rfl, HbW.out⟩

def ofQ (ins : List SIn) (args types : List Int) (j : Nat) : Bool := tyOf ins (args.getD j 0) == types.getD j 0
def ofP (ins : List SIn) (args types : List Int) : Bool := decide (args.length = types.length) && (List.range args.length).all (ofQ ins args types)
set_option maxRecDepth 100000 in
set_option maxHeartbeats 4000000 in
theorem of_g (n0 sb : Nat) (fA : Option Addr) (fn fc : Nat) (mn : Int) (s : ByteArray) (pA : Option Addr) (pn pc : Nat) (r : Int) (iA : Option Addr) (in_ ic : Nat) (bA : Option Addr) (bn bc : Nat) (vi va : Value) (ins : List SIn) (op ty n to_ : Int) (aA : Option Addr) (an ac : Nat) (args : List Int) (tA : Option Addr) (tn tc : Nat) (types : List Int) (w : World) (h : SubC w sb fA fn fc mn s pA pn pc r iA in_ ic bA bn bc vi va) (hn : n0 ≤ w.heap.size) (hi : SIs n0 w (.slice iA in_ ic) ins) (hil : in_ = ins.length) (ha : GNs w.heap.size w (.slice aA an ac) args) (hab : an ≤ 1048576) (hib : in_ ≤ 1048576) (ht : GNs w.heap.size w (.slice tA tn tc) types) (htb : tn ≤ 1048576) (hin : ∀ a ∈ args, 0 ≤ a ∧ a < ins.length) :
    Calls Try.prog 138 #[.pointer (some ⟨sb, 0, none⟩), .agg #[.int .i64 op, .int .i64 ty, .slice aA an ac, .int .i64 n, .int .i64 to_], .slice tA tn tc] w fun e w' => e = .returned (.bool (ofP ins args types)) ∧ Below w.heap.size w w' := by
  obtain ⟨W, hW, hbW, hzW, h0W⟩ := gr_one w #[.int .i64 op, .int .i64 ty, .slice aA an ac, .int .i64 n, .int .i64 to_] 71
  obtain ⟨x0, x1, x2, x3, x4, -⟩ := gr_five h0W
  have hal := ha.len
  have htl := ht.len
  have Hrd : Hid (∀ V, Below W.heap.size W V → (∀ j, j < an → ∃ g o, aA = some ⟨g, o, none⟩ ∧ V.cell? ⟨g, o + j, none⟩ = some (.int .i64 (args.getD j 0))) ∧ (∀ j, j < tn → ∃ g o, tA = some ⟨g, o, none⟩ ∧ V.cell? ⟨g, o + j, none⟩ = some (.int .i64 (types.getD j 0))) ∧ V.cell? ⟨sb, 5, none⟩ = some (.slice iA in_ ic) ∧ SIs n0 V (.slice iA in_ ic) ins) := Lib.hid fun V hV => ⟨fun j hj => ((ha.keep hbW).keep (hV.mono (by omega))).rd hj, fun j hj => ((ht.keep hbW).keep (hV.mono (by omega))).rd hj, Lib.cell_of_heap ((h.keep hbW).keep hV) 5, (hi.keep (hbW.mono hn)).keep (hV.mono (by omega))⟩
  have HB : Hid (∀ V, Below W.heap.size W V → Below w.heap.size w V) := Lib.hid fun V hV => hbW.trans (hV.mono (by omega))
  obtain ⟨res, hres⟩ : ∃ res, res = ofP ins args types := ⟨_, rfl⟩
  rw [← hres]
  unfold ofP at hres
  rw [← hal, ← htl] at hres
  have Hal := Lib.hid hal
  have Hil := Lib.hid hil
  have Hin := Lib.hid hin
  have HW := Lib.hid hW
  have HN0 : Hid (Below W.heap.size W W) := Lib.hid (Below.refl _ _)
  clear hW hbW hzW h0W h hi ha ht hal htl hil hin
  by_cases hlen : an = tn
  · subst hlen
    rw [decide_eq_true rfl, Bool.true_and] at hres
    have Hres := Lib.hid hres
    have dn : ((an : Int) != (an : Int)) = false := by simp
    clear hres
    go_enter Try.func138, Try.ntmps138
    go_upto_region 1 with fail
    rw [← HW.out]
    go_upto_block 0 with fail
    go_wp2_with fail
    go_loopw [18] (fun u18 wr => ∃ i : Nat, i ≤ an ∧ u18 = .int .i64 i ∧ Hid ((List.range i).all (ofQ ins args types) = true) ∧ Hid (Below W.heap.size W wr)) (fun u18 _ => an - (intOf u18).toNat)
    case atStart => exact ⟨0, Nat.zero_le _, rfl, Lib.hid (by simp), HN0⟩
    case round =>
      clear HN0 x0 x1 x2 x3 x4
      obtain ⟨i, hi, rfl, HA, HN⟩ := hrel
      obtain ⟨C, hC⟩ : ∃ C, C = wr := ⟨_, rfl⟩
      rw [← hC] at HN ⊢
      clear hC
      by_cases hli : i < an
      · obtain ⟨r1, r2, k5, hIs⟩ := Hrd.out C HN.out
        obtain ⟨g, o, rfl, k1⟩ := r1 i hli
        obtain ⟨g2, o2, rfl, k2⟩ := r2 i hli
        obtain ⟨a, hta⟩ : ∃ a, a = args.getD i 0 := ⟨_, rfl⟩
        obtain ⟨t, htt⟩ : ∃ t, t = types.getD i 0 := ⟨_, rfl⟩
        have hofq : ofQ ins args types i = (tyOf ins a == t) := by unfold ofQ; rw [← hta, ← htt]
        rw [← hta] at k1
        rw [← htt] at k2
        have hil2 : i < args.length := by rw [← Hal.out]; exact hli
        have hte : args[i] = a := by rw [hta]; simp [List.getD, hil2]
        have hai := Hin.out a (by rw [← hte]; exact List.getElem_mem hil2)
        obtain ⟨k, rfl⟩ : ∃ k : Nat, a = k := ⟨a.toNat, by omega⟩
        have hkl : k < ins.length := by omega
        have hk : k < in_ := by rw [Hil.out]; exact hkl
        obtain ⟨ib, io, aA2, ac2, rfl, -, -, k3, -⟩ := hIs.at hkl
        rw [← tyOf_at hkl] at k3
        obtain ⟨x, hx⟩ : ∃ x, x = tyOf ins (k : Int) := ⟨_, rfl⟩
        rw [← hx] at k3 hofq
        have htk : (List.range (i + 1)).all (ofQ ins args types) = (x == t) := by
          rw [List.range_succ, List.all_append, HA.out]
          simp [hofq]
        have hmem : (x == t) = false → res = false := fun hf => by
          rw [Hres.out]
          cases hq : (List.range an).all (ofQ ins args types) with
          | false => rfl
          | true =>
            have := List.all_eq_true.1 hq i (List.mem_range.2 hli)
            rw [hofq, hf] at this; cases this
        have HN4 : Hid (∀ q, Below W.heap.size W (C.drewN q)) := Lib.hid fun q => below_dr HN.out q
        clear r1 r2 hIs hta htt hofq hil2 hte hai hkl hx HA HN
        by_cases hxt : x = t
        · have d3 : (x != t) = false := by simpa using hxt
          have HA2 : Hid ((List.range (i + 1)).all (ofQ ins args types) = true) := Lib.hid (by rw [htk]; simpa using hxt)
          clear htk hmem hxt
          go_upto_region 6 with fail
          go_quiet (fail)
          have HN5 := Lib.hid (HN4.out nq)
          go_wp2_with fail
          go_roundw
          case rel => exact ⟨i + 1, by omega, by go_num, HA2, HN5⟩
          case measure => simp [intOf]; omega
        · have d3 : (x != t) = true := by simpa using hxt
          have hf := hmem (by simpa using hxt)
          subst hf
          clear htk hmem hxt
          go_upto_region 6 with fail
          go_quiet (fail)
          go_wp2_with fail
          go_ret
          exact ⟨rfl, HB.out _ (HN4.out nq)⟩
      · obtain rfl : an = i := by omega
        have hf : res = true := by rw [Hres.out]; exact HA.out
        subst hf
        go_wp2_with fail
        go_ret
        exact ⟨rfl, HB.out C HN.out⟩
  · have dn : ((an : Int) != (tn : Int)) = true := by simp; omega
    have hf : res = false := by rw [hres, decide_eq_false hlen]; rfl
    subst hf
    clear hres hlen
    go_enter Try.func138, Try.ntmps138
    go_upto_region 1 with fail
    rw [← HW.out]
    go_wp2
    go_ret
    exact ⟨rfl, HB.out W HN0.out⟩
end Go.Proofs.Ytagagpappjkgbaa
