/-
  Programs as bytes: the library's Clone at this program's numbers; the reader's New, Text.
  Programs as bytes: the reader's Text; upTo, one.
  Programs as bytes: upTo, one, a row of numbers.
  Programs as bytes: a row of numbers is read.
  Programs as bytes: a block's end, read.
-/
import Derived.Test.YthhjhdmdfneegaaJc10
import Derived.Shelf.Pu.Clone
namespace Go.Proofs.Ythhjhdmdfneegaa
set_option linter.unusedVariables false
set_option linter.unusedSimpArgs false
open Go.RowKit Go.Shelf

def cloneRen : Go.Shelf.Ren := ⟨fun | 25 => 60 | n => n, fun | 3 => 3 | 4 => 4 | 5 => 5 | 9 => 9 | 37 => 56 | 47 => 110 | n => n, fun | n => n⟩
theorem cloneLays : Go.Proofs.LaysPu.n25 Try.prog cloneRen := {
  mixed := by kernel_rfl
  f25 := Try.func60.trans (congrArg some (by kernel_rfl))
  t0 := Try.underlying0
  a0 := Try.isAgg0
  z0 := Try.sizeOf0
  v0 := Try.zeroValue0
  i0 := by kernel_rfl
  t3 := Try.underlying3
  a3 := Try.isAgg3
  z3 := Try.sizeOf3
  v3 := Try.zeroValue3
  i3 := by kernel_rfl
  t4 := Try.underlying4
  a4 := Try.isAgg4
  z4 := Try.sizeOf4
  v4 := Try.zeroValue4
  i4 := by kernel_rfl
  t5 := Try.underlying5
  a5 := Try.isAgg5
  z5 := Try.sizeOf5
  v5 := Try.zeroValue5
  i5 := by kernel_rfl
  t9 := Try.underlying9
  a9 := Try.isAgg9
  z9 := Try.sizeOf9
  v9 := Try.zeroValue9
  i9 := by kernel_rfl
  t37 := Try.underlying56
  a37 := Try.isAgg56
  z37 := Try.sizeOf56
  v37 := Try.zeroValue56
  i37 := by kernel_rfl
  t47 := Try.underlying110
  a47 := Try.isAgg110
  z47 := Try.sizeOf110
  v47 := Try.zeroValue110
  i47 := by kernel_rfl }
theorem sclone_q (l : List UInt8) (w : World) (hl : l.length ≤ 1099511627776) : Calls Try.prog 37 #[.string ⟨l.toArray⟩] w fun e w' => e = .returned (.string ⟨l.toArray⟩) ∧ Below w.heap.size w w' := by
  have hs : (⟨l.toArray⟩ : ByteArray).size ≤ 281474976710656 := by simp [ByteArray.size]; omega
  have hC : Calls Try.prog 60 #[.string ⟨l.toArray⟩] w fun e w' => e = .returned (.string ⟨l.toArray⟩) ∧ Below w.heap.size w w' := AnyPu.stringslite_Clone cloneLays ⟨l.toArray⟩ w hs
  clear hs
  go_enter Try.func37, Try.ntmps37
  go_wp2_with (go_at_call 60; refine hC.mono ?_; rintro e w1 ⟨rfl, hb⟩; have Hb := Lib.hid hb; clear hb hC)
  go_ret
  exact ⟨rfl, Hb.out⟩
set_option maxRecDepth 100000 in
theorem new_c (l : List UInt8) (w : World) (hl : l.length ≤ 1099511627776) : Calls Try.prog 16 #[.string ⟨l.toArray⟩] w fun e w' => ∃ E, e = .returned (.pointer (some ⟨E, 0, none⟩)) ∧ RdAt E (some l) w' ∧ w.heap.size ≤ E ∧ Below w.heap.size w w' := by
  have hC := sclone_q l w hl
  go_enter Try.func16, Try.ntmps16
  go_wp2_with (go_at_call 37; refine hC.mono ?_; rintro e w1 ⟨rfl, hb⟩; have Hb := Lib.hid hb; clear hb hC)
  go_ret
  exact ⟨_, rfl, heap_alloc_new w1 _, Hb.out.size, Hb.out.alloc Hb.out.size _⟩
def textS (n : Int) : Option (List UInt8) → List UInt8 × Option (List UInt8)
  | none => ([], none)
  | some l => if n < 0 ∨ (l.length : Int) < n then ([], none) else (l.take n.toNat, some (l.drop n.toNat))
set_option maxRecDepth 100000 in
theorem text_nil (n : Int) (w : World) : Calls Try.prog 39 #[.pointer none, .int .i64 n] w fun e w' => e = .returned (.string ⟨#[]⟩) ∧ w' = w := by
  have hO := ok_nil w
  go_enter Try.func39, Try.ntmps39
  go_wp2_with (go_at_call 20; refine hO.mono ?_; rintro e w1 ⟨rfl, rfl⟩; clear hO)
  go_ret
  exact ⟨rfl, rfl⟩
end Go.Proofs.Ythhjhdmdfneegaa
namespace Go.Proofs.Ythhjhdmdfneegaa
set_option linter.unusedVariables false
set_option linter.unusedSimpArgs false
open Go.RowKit Go.Shelf

theorem RdAt.gb {E : Nat} {w w' : World} {s : Option (List UInt8)} (h : RdAt E s w) (hb : Below w.heap.size w w') : RdAt E s w' ∧ GBu E w w' := ⟨h.keep hb, GBu.of_below hb⟩
set_option maxRecDepth 100000 in
set_option maxHeartbeats 4000000 in
theorem text_r (E : Nat) (n : Int) (s : Option (List UInt8)) (w : World) (h : RdAt E s w) (hl : (s.getD []).length ≤ 1099511627776) : Calls Try.prog 39 #[.pointer (some ⟨E, 0, none⟩), .int .i64 n] w fun e w' => e = .returned (.string ⟨(textS n s).1.toArray⟩) ∧ RdAt E (textS n s).2 w' ∧ GBu E w w' := by
  have hO := ok_r E s w h
  cases s with
  | none =>
    have H := Lib.hid h
    clear h hl
    go_enter Try.func39, Try.ntmps39
    go_wp2_with (go_at_call 20; refine hO.mono ?_; rintro e w1 ⟨rfl, rfl⟩; clear hO)
    go_ret
    exact ⟨rfl, H.out, GBu.refl _ _⟩
  | some l =>
    have x0 : w.cell? ⟨E, 0, none⟩ = some (.string ⟨l.toArray⟩) := Lib.cell_of_heap h 0
    have hF := fail_r E (some l) w h
    have hsz : (⟨l.toArray⟩ : ByteArray).size = l.length := by simp [ByteArray.size]
    have hl : l.length ≤ 1099511627776 := hl
    by_cases hb : n < 0 ∨ (l.length : Int) < n
    · have hS : textS n (some l) = ([], none) := by show (if _ then _ else _) = _; rw [if_pos hb]
      have HS := Lib.hid hS
      by_cases hn : n < 0
      · have d1 : decide (n < 0) = true := decide_eq_true hn
        clear h hS hb hn
        go_enter Try.func39, Try.ntmps39
        go_wp2_with (first
          | (go_at_call 20; refine hO.mono ?_; rintro e w1 ⟨rfl, rfl⟩; clear hO)
          | (go_at_call 62; refine hF.mono ?_; rintro e w2 ⟨rfl, h1, h2⟩; have H1 := Lib.hid h1; have H2 := Lib.hid h2; clear h1 h2 hF))
        go_ret
        rw [HS.out]
        exact ⟨rfl, H1.out, H2.out⟩
      · have hgt : (l.length : Int) < n := by rcases hb with h | h; exact absurd h hn; exact h
        have d1 : decide (n < 0) = false := decide_eq_false hn
        have d2 : decide (n > (l.length : Int)) = true := decide_eq_true hgt
        clear h hS hb hn
        go_enter Try.func39, Try.ntmps39
        go_wp2_with (first
          | (go_at_call 20; refine hO.mono ?_; rintro e w1 ⟨rfl, rfl⟩; clear hO)
          | (go_at_call 62; refine hF.mono ?_; rintro e w2 ⟨rfl, h1, h2⟩; have H1 := Lib.hid h1; have H2 := Lib.hid h2; clear h1 h2 hF))
        go_ret
        rw [HS.out]
        exact ⟨rfl, H1.out, H2.out⟩
    · obtain ⟨k, rfl⟩ : ∃ k : Nat, n = k := ⟨n.toNat, by omega⟩
      have hk : k ≤ l.length := by omega
      have hS : textS (k : Int) (some l) = (l.take k, some (l.drop k)) := by show (if _ then _ else _) = _; rw [if_neg hb, Int.toNat_natCast]
      have HS := Lib.hid hS
      have d1 : decide ((k : Int) < 0) = false := decide_eq_false (by omega)
      have d2 : decide ((k : Int) > (l.length : Int)) = false := decide_eq_false (by omega)
      have d3 : decide (l.length < k) = false := decide_eq_false (by omega)
      have hC := sclone_q (l.take k) w (by rw [List.length_take]; omega)
      have Hh := Lib.hid h
      have hex := ext_take l k
      clear h hS hb hF
      go_enter Try.func39, Try.ntmps39
      go_wp2_with (first
        | (go_at_call 20; refine hO.mono ?_; rintro e w1 ⟨rfl, rfl⟩; clear hO)
        | (go_at_call 37; (try rw [hex]); refine hC.mono ?_; rintro e w2 ⟨rfl, hb2⟩; have hR := Hh.out.keep hb2; have x2 : w2.cell? ⟨E, 0, none⟩ = some (.string ⟨l.toArray⟩) := Lib.cell_of_heap hR 0; have xf2 := Lib.frozen_of_heap hR 0; have HR := Lib.hid hR; have HB := Lib.hid hb2; clear hR hb2 hC))
      go_ret
      rw [HS.out, ext_drop]
      exact ⟨rfl, HR.out.on.1, (GBu.of_below HB.out).trans HR.out.on.2⟩
end Go.Proofs.Ythhjhdmdfneegaa
namespace Go.Proofs.Ythhjhdmdfneegaa
set_option linter.unusedVariables false
set_option linter.unusedSimpArgs false
open Go.RowKit Go.Shelf

theorem numS_le (most : Nat) (s : Option (List UInt8)) : (numS most s).1 ≤ most := by
  cases s with
  | none => simp [numS]
  | some l =>
    show (if (numQ l).2 = 0 ∨ most < (numQ l).1 then ((0 : Nat), (none : Option (List UInt8))) else ((numQ l).1, some (l.drop (numQ l).2))).1 ≤ _
    by_cases h : (numQ l).2 = 0 ∨ most < (numQ l).1
    · rw [if_pos h]; exact Nat.zero_le _
    · rw [if_neg h]; show (numQ l).1 ≤ most; omega
theorem numS_len (most : Nat) (s : Option (List UInt8)) : ((numS most s).2.getD []).length ≤ (s.getD []).length := by
  cases s with
  | none => simp [numS]
  | some l =>
    show ((if (numQ l).2 = 0 ∨ most < (numQ l).1 then ((0 : Nat), (none : Option (List UInt8))) else ((numQ l).1, some (l.drop (numQ l).2))).2.getD []).length ≤ _
    by_cases h : (numQ l).2 = 0 ∨ most < (numQ l).1
    · rw [if_pos h]; exact Nat.zero_le _
    · rw [if_neg h]; simp
/-- What is owned stays, where the reader alone goes on. -/
theorem own_gbu {w w' : World} {B E : Nat} {T : TypeId} {z n : Nat} {v : Value} {xs : List Value} {s : Option (List UInt8)} (ho : w.ownsRow B T z v n xs) (hr : RdAt E s w) (hT : T ≠ 78) (hg : GBu E w w') : w'.ownsRow B T z v n xs := by
  refine ho.kept (row := some E) ⟨hg.os, hg.tape, hg.output, hg.size, fun j hj hne => hg.block j hj (fun e => hne (by rw [e]))⟩ ?_
  rcases ho.2 with ⟨rfl, -⟩ | ⟨g, cap, cur, rfl, -, hh, -⟩
  · exact .inl rfl
  · refine .inr (fun e => ?_)
    have e' : g = E := by simpa [Value.ownBlock] using e
    subst e'
    unfold RdAt at hr
    rw [hh] at hr
    injection hr with hr
    injection hr with _ hr _
    exact hT hr
set_option maxRecDepth 100000 in
theorem up_r (E most : Nat) (hm : most ≤ 1048576) (s : Option (List UInt8)) (w : World) (h : RdAt E s w) (hl : (s.getD []).length ≤ 1099511627776) : Calls Try.prog 17 #[.pointer (some ⟨E, 0, none⟩), .int .u64 (most : Int)] w fun e w' => e = .returned (.int .i64 ((numS most s).1 : Int)) ∧ RdAt E (numS most s).2 w' ∧ GBu E w w' := by
  have hN := num_r E most s w h hl
  have hlt := numS_le most s
  obtain ⟨k, hk⟩ : ∃ k, k = (numS most s).1 := ⟨_, rfl⟩
  obtain ⟨s2, hs2⟩ : ∃ s2, s2 = (numS most s).2 := ⟨_, rfl⟩
  rw [← hk, ← hs2] at hN
  rw [← hk] at hlt
  rw [← hk, ← hs2]
  have hw : IntKind.i64.wrap (k : Int) = (k : Int) := by rw [IntKind.wrap_i64]; omega
  clear h hl hk hs2
  go_enter Try.func17, Try.ntmps17
  go_wp2_with (go_at_call 38; refine hN.mono ?_; rintro e w1 ⟨rfl, h1, h2⟩; have H1 := Lib.hid h1; have H2 := Lib.hid h2; clear h1 h2 hN)
  go_ret
  exact ⟨rfl, H1.out, H2.out⟩
def oneQ (s : Option (List UInt8)) : Int × Option (List UInt8) := (((numS 131072 s).1 : Int) - 1, (numS 131072 s).2)
set_option maxRecDepth 100000 in
theorem one_r (E : Nat) (s : Option (List UInt8)) (w : World) (h : RdAt E s w) (hl : (s.getD []).length ≤ 1099511627776) : Calls Try.prog 64 #[.pointer (some ⟨E, 0, none⟩)] w fun e w' => e = .returned (.int .i64 (oneQ s).1) ∧ RdAt E (oneQ s).2 w' ∧ GBu E w w' := by
  have hN : Calls Try.prog 17 #[.pointer (some ⟨E, 0, none⟩), .int .u64 131072] w fun e w' => e = .returned (.int .i64 ((numS 131072 s).1 : Int)) ∧ RdAt E (numS 131072 s).2 w' ∧ GBu E w w' := up_r E 131072 (by decide) s w h hl
  have hlt := numS_le 131072 s
  unfold oneQ
  obtain ⟨k, hk⟩ : ∃ k, k = (numS 131072 s).1 := ⟨_, rfl⟩
  obtain ⟨s2, hs2⟩ : ∃ s2, s2 = (numS 131072 s).2 := ⟨_, rfl⟩
  rw [← hk, ← hs2] at hN
  rw [← hk] at hlt
  rw [← hk, ← hs2]
  have hw : wrap64 ((k : Int) - 1) = (k : Int) - 1 := IntWalk.wrap64_in _ (by omega)
  clear h hl hk hs2
  go_enter Try.func64, Try.ntmps64
  go_wp2_with (go_at_call 17; refine hN.mono ?_; rintro e w1 ⟨rfl, h1, h2⟩; have H1 := Lib.hid h1; have H2 := Lib.hid h2; clear h1 h2 hN)
  go_ret
  exact ⟨by first | rfl | rw [hw] | simp, H1.out, H2.out⟩
/-- So many things, one behind the other; none, where the reader was bad ahead of one. -/
def manyQ {α : Type} (item : Option (List UInt8) → α × Option (List UInt8)) : Nat → List α → Option (List UInt8) → List α × Option (List UInt8)
  | 0, acc, s => (acc, s)
  | _ + 1, _, none => ([], none)
  | k + 1, acc, some l => manyQ item k (acc ++ [(item (some l)).1]) (item (some l)).2
def itemsQ {α : Type} (most : Nat) (item : Option (List UInt8) → α × Option (List UInt8)) (s : Option (List UInt8)) : List α × Option (List UInt8) := manyQ item (numS most s).1 [] (numS most s).2
def rowQ (most : Nat) (s : Option (List UInt8)) : List Int × Option (List UInt8) := itemsQ most oneQ s
end Go.Proofs.Ythhjhdmdfneegaa
namespace Go.Proofs.Ythhjhdmdfneegaa
set_option linter.unusedVariables false
set_option linter.unusedSimpArgs false
open Go.RowKit Go.Shelf

theorem infoIntQ : (Try.prog.info? 3).map (fun i => (i.zero, i.size, i.bytes)) = some (some (.int .i64 0), 1, 8) := by kernel_rfl
/-- append of one number. -/
theorem app_int {ops : Array Oper} {rest : List Oper} {o : Oper} {a : Act} {w : World} {Q : Exit → Act → World → Prop} (hgd : o.guard = none) (s x : Operand)
    (ho : o.op = .call { callee := .builtin .append, args := #[s, x], argTypes := #[39, 39] }) (base : Nat) (v : Value) (l : List Int) (hs : a.eval s = v) (hown : w.ownsRow base 3 1 v l.length (intsV l))
    (g0 : Nat) (u : Int) (hx : a.eval x = .slice (some ⟨g0, 0, none⟩) 1 1) (hc : ∀ j y, ([.int .i64 u] : List Value)[j]? = some y → w.cell? ((⟨g0, 0, none⟩ : Addr).add j) = some y) (hl : l.length ≤ 1048576) (hb : base ≤ w.heap.size)
    (h : ∀ v' w', w'.ownsRow base 3 1 v' (l ++ [u]).length (intsV (l ++ [u])) → w.grownBy w' v.ownBlock → wpList Try.prog ops Q rest (a.put o.dst v') w') : wpList Try.prog ops Q (o :: rest) a w := by
  obtain ⟨i0, hi0, hz0, hz1, hz2⟩ := info_parts infoIntQ
  refine wpList_append_lies w hgd s x 39 ho base 3 i0 (.int .i64 0) 1 8 Try.underlying39 hi0 hz0 hz1 hz2 rfl (by decide) v l.length (intsV l) hs hown ⟨g0, 0, none⟩ 1 1 [.int .i64 u] hx rfl hc (fun y hy => by simp at hy; subst hy; rfl) (by decide) (by unfold maxLen; omega) (by omega) hb _ rfl ?_
  intro g cap w' ho' hg' hat _
  refine h _ _ ?_ hg'
  rw [show intsV (l ++ [u]) = intsV l ++ [.int .i64 u] by simp [intsV], List.length_append]
  exact ho'
theorem manyQ_len {α : Type} {item : Option (List UInt8) → α × Option (List UInt8)} : ∀ (k : Nat) (acc : List α) (s : Option (List UInt8)), (manyQ item k acc s).1.length ≤ acc.length + k
  | 0, acc, s => by simp [manyQ]
  | k + 1, acc, none => by simp [manyQ]
  | k + 1, acc, some l => by
    have := manyQ_len (item := item) k (acc ++ [(item (some l)).1]) (item (some l)).2
    unfold manyQ
    simp at this
    omega
theorem oneQ_len (s : Option (List UInt8)) : ((oneQ s).2.getD []).length ≤ (s.getD []).length := numS_len _ _
/-- An own row stays where another block alone grew or the reader went on. -/
theorem RdAt.grown {E base n z : Nat} {T : TypeId} {s : Option (List UInt8)} {w w' : World} {v : Value} {xs : List Value} (h : RdAt E s w) (ho : w.ownsRow base T z v n xs) (hT : T ≠ 78) (hg : w.grownBy w' v.ownBlock) : RdAt E s w' := by
  refine (hg.block E (gr_in h) (fun e => ?_)).trans h
  rcases ho.2 with ⟨rfl, -⟩ | ⟨g, cap, cur, rfl, -, hh, -⟩
  · cases e
  · have e' : E = g := by simpa [Value.ownBlock] using e
    subst e'
    unfold RdAt at h
    rw [hh] at h
    injection h with h
    injection h with _ h _
    exact hT h
theorem GBu.of_grown {E base n z : Nat} {T : TypeId} {w0 w w' : World} {v : Value} {xs : List Value} (h0 : GBu E w0 w) (ho : w.ownsRow base T z v n xs) (hb : w0.heap.size ≤ base) (hg : w.grownBy w' v.ownBlock) : GBu E w0 w' :=
  ⟨hg.os.trans h0.os, hg.tape.trans h0.tape, hg.output.trans h0.output, Nat.le_trans h0.size hg.size, fun k hk hne => (hg.block k (Nat.lt_of_lt_of_le hk h0.size) (fun e => by have := (ho.lt k e.symm).1; omega)).trans (h0.block k hk hne)⟩
set_option maxRecDepth 100000 in
set_option maxHeartbeats 4000000 in
theorem items_int (E most : Nat) (hm : most ≤ 1048576) (s : Option (List UInt8)) (w : World) (h : RdAt E s w) (hl : (s.getD []).length ≤ 1099511627776) : Calls Try.prog 63 #[.pointer (some ⟨E, 0, none⟩), .int .u64 (most : Int), .func (.func 64) #[] #[]] w fun e w' => ∃ v, e = .returned v ∧ w'.ownsRow w.heap.size 3 1 v (rowQ most s).1.length (intsV (rowQ most s).1) ∧ RdAt E (rowQ most s).2 w' ∧ GBu E w w' := by
  have hN := num_r E most s w h hl
  have hle := numS_le most s
  have hsl := numS_len most s
  have hQ : rowQ most s = manyQ oneQ (numS most s).1 [] (numS most s).2 := rfl
  obtain ⟨n, hn⟩ : ∃ n, n = (numS most s).1 := ⟨_, rfl⟩
  obtain ⟨s1, hs1⟩ : ∃ s1, s1 = (numS most s).2 := ⟨_, rfl⟩
  rw [← hn, ← hs1] at hN hQ
  rw [← hn] at hle
  rw [← hs1] at hsl
  have HQ := Lib.hid hQ
  have Hs1 : Hid ((s1.getD []).length ≤ 1099511627776) := Lib.hid (Nat.le_trans hsl hl)
  have hnb : n ≤ 1048576 := Nat.le_trans hle hm
  clear h hl hn hs1 hQ hsl hle
  go_enter Try.func63, Try.ntmps63
  go_wp2_with (go_at_call 38; refine hN.mono ?_; rintro e w1 ⟨rfl, h1, h2⟩; have H1 := Lib.hid h1; have H2 := Lib.hid h2; clear h1 h2 hN)
  go_loopw [11, 7] (fun u11 u7 wr => ∃ (i : Nat) (acc : List Int) (s2 : Option (List UInt8)), i ≤ n ∧ u11 = .int .u64 (i : Int) ∧ Hid (wr.ownsRow w.heap.size 3 1 u7 acc.length (intsV acc)) ∧ Hid (RdAt E s2 wr ∧ GBu E w wr ∧ (s2.getD []).length ≤ 1099511627776 ∧ acc.length ≤ i) ∧ Hid (manyQ oneQ (n - i) acc s2 = rowQ most s)) (fun u11 _ _ => n - (intOf u11).toNat)
  case atStart => exact ⟨0, [], s1, Nat.zero_le _, rfl, Lib.hid (World.ownsRow_nil _ _ _ _), Lib.hid ⟨H1.out, H2.out, Hs1.out, Nat.le_refl _⟩, Lib.hid (by rw [HQ.out]; rfl)⟩
  case round =>
    clear H1 H2
    obtain ⟨i, acc, s2, hi, rfl, HO, HR, HM⟩ := hrel
    obtain ⟨wo, hwo⟩ : ∃ x, x = wr := ⟨_, rfl⟩
    rw [← hwo] at HO HR ⊢
    clear hwo
    by_cases hlt : i < n
    · have hO := ok_r E s2 wo HR.out.1
      cases s2 with
      | none =>
        have hq : rowQ most s = ([], none) := by rw [← HM.out, show n - i = (n - i - 1) + 1 by omega]; rfl
        have Hq := Lib.hid hq
        clear hq
        go_wp2_with (go_at_call 20; refine hO.mono ?_; rintro e w2 ⟨rfl, rfl⟩; clear hO)
        go_ret
        rw [Hq.out]
        exact ⟨_, rfl, World.ownsRow_nil _ _ _ _, HR.out.1, HR.out.2.1⟩
      | some l =>
        have hI := one_r E (some l) wo HR.out.1 HR.out.2.2.1
        have hM2 : manyQ oneQ (n - (i + 1)) (acc ++ [(oneQ (some l)).1]) (oneQ (some l)).2 = rowQ most s := by rw [← HM.out, show n - i = (n - (i + 1)) + 1 by omega]; rfl
        have hlen := oneQ_len (some l)
        obtain ⟨x, hx⟩ : ∃ x, x = (oneQ (some l)).1 := ⟨_, rfl⟩
        obtain ⟨s3, hs3⟩ : ∃ s3, s3 = (oneQ (some l)).2 := ⟨_, rfl⟩
        rw [← hx, ← hs3] at hI hM2
        rw [← hs3] at hlen
        have HM2 := Lib.hid hM2
        have Hlen : Hid ((s3.getD []).length ≤ 1099511627776) := Lib.hid (Nat.le_trans hlen HR.out.2.2.1)
        obtain ⟨A0, c0, rfl⟩ := gr_slice HO.out
        clear hM2 hlen hx hs3
        go_wp2_with (first
          | (go_at_call 20; refine hO.mono ?_; rintro e w2 ⟨rfl, rfl⟩; clear hO)
          | (go_at_call 64; refine hI.mono ?_; rintro e w3 ⟨rfl, h3, g3⟩; have H3 := Lib.hid h3; have G3 := Lib.hid (HR.out.2.1.trans g3); have O3 := Lib.hid (own_gbu HO.out HR.out.1 (by decide) g3); clear h3 g3 hI)
          | (at_builtin; refine app_int rfl (.tmp 16) (.tmp 20) rfl w.heap.size _ acc rfl (gr_up O3.out ((Below.refl _ _).alloc (Nat.le_refl _) _)) _ x rfl (World.news_of_block (heap_alloc_new w3 _)) (by have := HR.out.2.2.2; omega) (by have := G3.out.size; simp; omega) ?_; intro v' w5 ho5 hg5; have O5 := Lib.hid ho5; have R5 := Lib.hid ((H3.out.keep ((Below.refl _ _).alloc (Nat.le_refl _) _)).grown (gr_up O3.out ((Below.refl _ _).alloc (Nat.le_refl _) _)) (by decide) hg5); have G5 := Lib.hid ((G3.out.trans (GBu.of_below ((Below.refl _ _).alloc (Nat.le_refl _) _))).of_grown (gr_up O3.out ((Below.refl _ _).alloc (Nat.le_refl _) _)) (Nat.le_refl _) hg5); clear ho5 hg5))
        go_roundw
        case rel => exact ⟨i + 1, acc ++ [x], s3, by omega, by go_num, O5, Lib.hid ⟨R5.out, G5.out, Hlen.out, by have := HR.out.2.2.2; simp; omega⟩, HM2⟩
        case measure => simp [intOf]; omega
    · have hq : rowQ most s = (acc, s2) := by rw [← HM.out, show n - i = 0 by omega]; rfl
      have Hq := Lib.hid hq
      obtain ⟨A0, c0, rfl⟩ := gr_slice HO.out
      clear hq
      go_wp2_with fail
      go_ret
      rw [Hq.out]
      exact ⟨_, rfl, HO.out, HR.out.1, HR.out.2.1⟩
set_option maxRecDepth 100000 in
theorem row_r (E most : Nat) (hm : most ≤ 1048576) (s : Option (List UInt8)) (w : World) (h : RdAt E s w) (hl : (s.getD []).length ≤ 1099511627776) : Calls Try.prog 40 #[.pointer (some ⟨E, 0, none⟩), .int .u64 (most : Int)] w fun e w' => ∃ v, e = .returned v ∧ w'.ownsRow w.heap.size 3 1 v (rowQ most s).1.length (intsV (rowQ most s).1) ∧ RdAt E (rowQ most s).2 w' ∧ GBu E w w' := by
  have hI := items_int E most hm s w h hl
  clear h hl
  go_enter Try.func40, Try.ntmps40
  go_wp2_with (go_at_call 63; refine hI.mono ?_; rintro e w1 ⟨v1, rfl, h1, h2, h3⟩; have H1 := Lib.hid h1; have H2 := Lib.hid h2; have H3 := Lib.hid h3; clear h1 h2 h3 hI)
  go_ret
  exact ⟨_, rfl, H1.out, H2.out, H3.out⟩
end Go.Proofs.Ythhjhdmdfneegaa
namespace Go.Proofs.Ythhjhdmdfneegaa
set_option linter.unusedVariables false
set_option linter.unusedSimpArgs false
open Go.RowKit Go.Shelf

/-- What is owned stays, where a cell below it is laid. -/
theorem own_lay {w : World} {B c j : Nat} {T : TypeId} {z n : Nat} {v x : Value} {xs : List Value} (ho : w.ownsRow B T z v n xs) (hc : c < B) : (w.setCell ⟨c, j, none⟩ x).ownsRow B T z v n xs := by
  refine ho.kept (row := some c) ⟨rfl, rfl, rfl, by simp [World.setCell], fun k hk hne => Below.heap_setCell _ _ _ _ (fun e => hne (congrArg some e))⟩ ?_
  rcases ho.2 with ⟨rfl, -⟩ | ⟨g, cap, cur, rfl, hb, -⟩
  · exact .inl rfl
  · refine .inr (fun e => ?_)
    have e' : g = c := by simpa [Value.ownBlock] using e
    omega
theorem own_low {w : World} {B B' : Nat} {T : TypeId} {z n : Nat} {v : Value} {xs : List Value} (ho : w.ownsRow B T z v n xs) (hB : B' ≤ B) : w.ownsRow B' T z v n xs := by
  refine ⟨ho.1, ?_⟩
  rcases ho.2 with h | ⟨g, cap, cur, hv, hb, h⟩
  · exact .inl h
  · exact .inr ⟨g, cap, cur, hv, Nat.le_trans hB hb, h⟩
/-- The reader went on, and then what is new was laid. -/
theorem GBu.then_new {E : Nat} {w w1 w2 : World} (h : GBu E w w1) (hb : Below w.heap.size w1 w2) : GBu E w w2 :=
  ⟨hb.os.trans h.os, hb.tape.trans h.tape, hb.output.trans h.output, Nat.le_trans h.size hb.size, fun k hk hg => (hb.block k hk).trans (h.block k hk hg)⟩
def endQ (s : Option (List UInt8)) : (Nat × Int × List Int) × Option (List UInt8) := (((numS 3 s).1, (oneQ (numS 3 s).2).1, (rowQ 2 (oneQ (numS 3 s).2).2).1), (rowQ 2 (oneQ (numS 3 s).2).2).2)
set_option maxRecDepth 100000 in
theorem end_r (E : Nat) (s : Option (List UInt8)) (w : World) (h : RdAt E s w) (hl : (s.getD []).length ≤ 1099511627776) : Calls Try.prog 66 #[.pointer (some ⟨E, 0, none⟩)] w fun e w' => ∃ v, e = .returned (.agg #[.int .i64 ((endQ s).1.1 : Int), .int .i64 (endQ s).1.2.1, v]) ∧ w'.ownsRow w.heap.size 3 1 v (endQ s).1.2.2.length (intsV (endQ s).1.2.2) ∧ RdAt E (endQ s).2 w' ∧ GBu E w w' := by
  obtain ⟨W, hW, hbW, hzW, h0W⟩ := gr_one w #[.int .i64 0, .int .i64 0, .slice none 0 0] 49
  have hU : Calls Try.prog 17 #[.pointer (some ⟨E, 0, none⟩), .int .u64 3] W fun e w' => e = .returned (.int .i64 ((numS 3 s).1 : Int)) ∧ RdAt E (numS 3 s).2 w' ∧ GBu E W w' := up_r E 3 (by decide) s W (h.keep hbW) hl
  have hl1 := Nat.le_trans (numS_len 3 s) hl
  unfold endQ
  obtain ⟨k, hk⟩ : ∃ k, k = (numS 3 s).1 := ⟨_, rfl⟩
  obtain ⟨s1, hs1⟩ : ∃ s1, s1 = (numS 3 s).2 := ⟨_, rfl⟩
  rw [← hs1] at hl1
  rw [← hk, ← hs1] at hU
  simp only [← hk, ← hs1]
  have hO := fun w1 (h1 : RdAt E s1 w1) => one_r E s1 w1 h1 hl1
  have hl2 := Nat.le_trans (oneQ_len s1) hl1
  obtain ⟨a, ha⟩ : ∃ a, a = (oneQ s1).1 := ⟨_, rfl⟩
  obtain ⟨s2, hs2⟩ : ∃ s2, s2 = (oneQ s1).2 := ⟨_, rfl⟩
  rw [← hs2] at hl2
  rw [← ha, ← hs2] at hO
  simp only [← ha, ← hs2]
  have hR : ∀ w2, RdAt E s2 w2 → Calls Try.prog 40 #[.pointer (some ⟨E, 0, none⟩), .int .u64 2] w2 fun e w' => ∃ v, e = .returned v ∧ w'.ownsRow w2.heap.size 3 1 v (rowQ 2 s2).1.length (intsV (rowQ 2 s2).1) ∧ RdAt E (rowQ 2 s2).2 w' ∧ GBu E w2 w' := fun w2 h2 => row_r E 2 (by decide) s2 w2 h2 hl2
  obtain ⟨xs, hxs⟩ : ∃ xs, xs = (rowQ 2 s2).1 := ⟨_, rfl⟩
  obtain ⟨s3, hs3⟩ : ∃ s3, s3 = (rowQ 2 s2).2 := ⟨_, rfl⟩
  rw [← hxs, ← hs3] at hR
  simp only [← hxs, ← hs3]
  have hEw : E < w.heap.size := gr_in h
  have HE := Lib.hid hEw
  have HW := Lib.hid hW
  have HbW := Lib.hid hbW
  have HzW := Lib.hid hzW
  have H0 := Lib.hid h0W
  clear h hl hk hs1 ha hs2 hxs hs3 hl1 hl2 hW hbW hzW h0W hEw
  go_enter Try.func66, Try.ntmps66
  go_upto_region 1 with fail
  rw [← HW.out]
  go_wp2_with (first
    | (go_at_call 17; refine hU.mono ?_; rintro e w1 ⟨rfl, h1, g1⟩; have H1 := Lib.hid h1; have G1 := Lib.hid g1; clear h1 g1 hU)
    | (go_at_call 64; refine (hO _ H1.out).mono ?_; rintro e w2 ⟨rfl, h2, g2⟩; have H2 := Lib.hid h2; have G2 := Lib.hid (G1.out.trans g2); clear h2 g2 hO)
    | (go_at_call 40; refine (hR _ H2.out).mono ?_; rintro e w3 ⟨v, rfl, o3, h3, g3⟩; have O3 := Lib.hid o3; have H3 := Lib.hid h3; have G3 := Lib.hid (G2.out.trans g3); have h03 := (G3.out.block w.heap.size (gr_in H0.out) (Nat.ne_of_gt HE.out)).trans H0.out; have t0 := Lib.cell_of_heap h03 0; have t1 := Lib.cell_of_heap h03 1; have t2 := Lib.cell_of_heap h03 2; have tf0 := Lib.frozen_of_heap h03 0; have tf1 := Lib.frozen_of_heap h03 1; have tf2 := Lib.frozen_of_heap h03 2; obtain ⟨A0, c0, rfl⟩ := gr_slice O3.out; have HH := Lib.hid h03; clear o3 h3 g3 hR h03))
  obtain ⟨Z, hZ⟩ : ∃ Z, Z = ((w3.setCell ⟨w.heap.size, 0, none⟩ (.int .i64 (k : Int))).setCell ⟨w.heap.size, 1, none⟩ (.int .i64 a)).setCell ⟨w.heap.size, 2, none⟩ (.slice A0 xs.length c0) := ⟨_, rfl⟩
  have hqZ : Z.heap[w.heap.size]? = some (.cells #[.int .i64 (k : Int), .int .i64 a, .slice A0 xs.length c0] 49 (0, 0)) := by
    rw [hZ]
    exact gr_put (gr_put (gr_put HH.out 0 _) 1 _) 2 _
  have hbZ : Below w.heap.size w3 Z := by
    rw [hZ]
    exact (((Below.refl _ _).setCell (p := ⟨w.heap.size, 0, none⟩) (Nat.le_refl _) _).setCell (p := ⟨w.heap.size, 1, none⟩) (Nat.le_refl _) _).setCell (p := ⟨w.heap.size, 2, none⟩) (Nat.le_refl _) _
  have hlt : w.heap.size < w2.heap.size := by have := G2.out.size; have := HzW.out; omega
  have hoZ : Z.ownsRow w.heap.size 3 1 (.slice A0 xs.length c0) xs.length (intsV xs) := by
    rw [hZ]
    exact own_low (own_lay (own_lay (own_lay O3.out hlt) hlt) hlt) (Nat.le_of_lt hlt)
  rw [← hZ]
  refine bodyPost_ret (results_cell_row rfl _ _ w.heap.size _ _ _ _ rfl hqZ Try.underlying49 rfl (by kernel_rfl)) rfl ?_
  exact ⟨_, rfl, hoZ, (hbZ.block _ HE.out).trans H3.out, ((GBu.of_below HbW.out).trans G3.out).then_new hbZ⟩
end Go.Proofs.Ythhjhdmdfneegaa
