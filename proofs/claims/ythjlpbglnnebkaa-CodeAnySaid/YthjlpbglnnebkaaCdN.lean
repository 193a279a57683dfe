/-
  Programs as bytes: a row of numbers is read.
-/
import Derived.Test.YthjlpbglnnebkaaCdM
namespace Go.Proofs.Ythjlpbglnnebkaa
open Go.RowKit Go.Shelf
set_option linter.unusedVariables false
set_option linter.unusedSimpArgs false

theorem infoIntQ : (Try.prog.info? 3).map (fun i => (i.zero, i.size, i.bytes)) = some (some (.int .i64 0), 1, 8) := by kernel_rfl
/-- append of one number. -/
theorem app_int {ops : Array Oper} {rest : List Oper} {o : Oper} {a : Act} {w : World} {Q : Exit → Act → World → Prop} (hgd : o.guard = none) (s x : Operand)
    (ho : o.op = .call { callee := .builtin .append, args := #[s, x], argTypes := #[59, 59] }) (base : Nat) (v : Value) (l : List Int) (hs : a.eval s = v) (hown : w.ownsRow base 3 1 v l.length (intsV l))
    (g0 : Nat) (u : Int) (hx : a.eval x = .slice (some ⟨g0, 0, none⟩) 1 1) (hc : ∀ j y, ([.int .i64 u] : List Value)[j]? = some y → w.cell? ((⟨g0, 0, none⟩ : Addr).add j) = some y) (hl : l.length ≤ 1048576) (hb : base ≤ w.heap.size)
    (h : ∀ v' w', w'.ownsRow base 3 1 v' (l ++ [u]).length (intsV (l ++ [u])) → w.grownBy w' v.ownBlock → wpList Try.prog ops Q rest (a.put o.dst v') w') : wpList Try.prog ops Q (o :: rest) a w := by
  obtain ⟨i0, hi0, hz0, hz1, hz2⟩ := info_parts infoIntQ
  refine wpList_append_lies w hgd s x 59 ho base 3 i0 (.int .i64 0) 1 8 Try.underlying59 hi0 hz0 hz1 hz2 rfl (by decide) v l.length (intsV l) hs hown ⟨g0, 0, none⟩ 1 1 [.int .i64 u] hx rfl hc (fun y hy => by simp at hy; subst hy; rfl) (by decide) (by unfold maxLen; omega) (by omega) hb _ rfl ?_
  intro g cap w' ho' hg' hat _
  refine h _ _ ?_ hg'
  rw [show intsV (l ++ [u]) = intsV l ++ [.int .i64 u] by simp [intsV], List.length_append]
  exact ho'
theorem manyQ_len {α : Type} {item : Option (List UInt8) → α × Option (List UInt8)} : ∀ (k : Nat) (acc : List α) (s : Option (List UInt8)), (manyQ item k acc s).1.length ≤ acc.length + k
  | 0, acc, s => by simp [manyQ]
  | k + 1, acc, none => by simp [manyQ]
  | k + 1, acc, some l => by
    have := manyQ_len (item := item) k (acc ++ [(item (some l)).1]) (item (some l)).2
    unfold manyQ
    simp at this
    omega
theorem oneQ_len (s : Option (List UInt8)) : ((oneQ s).2.getD []).length ≤ (s.getD []).length := numS_len _ _
/-- An own row stays where another block alone grew or the reader went on. -/
theorem RdAt.grown {E base n z : Nat} {T : TypeId} {s : Option (List UInt8)} {w w' : World} {v : Value} {xs : List Value} (h : RdAt E s w) (ho : w.ownsRow base T z v n xs) (hT : T ≠ 50) (hg : w.grownBy w' v.ownBlock) : RdAt E s w' := by
  refine (hg.block E (gr_in h) (fun e => ?_)).trans h
  rcases ho.2 with ⟨rfl, -⟩ | ⟨g, cap, cur, rfl, -, hh, -⟩
  · cases e
  · have e' : E = g := by simpa [Value.ownBlock] using e
    subst e'
    unfold RdAt at h
    rw [hh] at h
    injection h with h
    injection h with _ h _
    exact hT h
theorem GBu.of_grown {E base n z : Nat} {T : TypeId} {w0 w w' : World} {v : Value} {xs : List Value} (h0 : GBu E w0 w) (ho : w.ownsRow base T z v n xs) (hb : w0.heap.size ≤ base) (hg : w.grownBy w' v.ownBlock) : GBu E w0 w' :=
  ⟨hg.os.trans h0.os, hg.tape.trans h0.tape, hg.output.trans h0.output, Nat.le_trans h0.size hg.size, fun k hk hne => (hg.block k (Nat.lt_of_lt_of_le hk h0.size) (fun e => by have := (ho.lt k e.symm).1; omega)).trans (h0.block k hk hne)⟩
set_option maxRecDepth 100000 in
set_option maxHeartbeats 4000000 in
theorem items_int (E most : Nat) (hm : most ≤ 1048576) (s : Option (List UInt8)) (w : World) (h : RdAt E s w) (hl : (s.getD []).length ≤ 1099511627776) : Calls Try.prog 74 #[.pointer (some ⟨E, 0, none⟩), .int .u64 (most : Int), .func (.func 75) #[] #[]] w fun e w' => ∃ v, e = .returned v ∧ w'.ownsRow w.heap.size 3 1 v (rowQ most s).1.length (intsV (rowQ most s).1) ∧ RdAt E (rowQ most s).2 w' ∧ GBu E w w' := by
  have hN := num_r E most s w h hl
  have hle := numS_le most s
  have hsl := numS_len most s
  have hQ : rowQ most s = manyQ oneQ (numS most s).1 [] (numS most s).2 := rfl
  obtain ⟨n, hn⟩ : ∃ n, n = (numS most s).1 := ⟨_, rfl⟩
  obtain ⟨s1, hs1⟩ : ∃ s1, s1 = (numS most s).2 := ⟨_, rfl⟩
  rw [← hn, ← hs1] at hN hQ
  rw [← hn] at hle
  rw [← hs1] at hsl
  have HQ := Lib.hid hQ
  have Hs1 : Hid ((s1.getD []).length ≤ 1099511627776) := Lib.hid (Nat.le_trans hsl hl)
  have hnb : n ≤ 1048576 := Nat.le_trans hle hm
  clear h hl hn hs1 hQ hsl hle
  go_enter Try.func74, Try.ntmps74
  go_wp2_with (go_at_call 10; refine hN.mono ?_; rintro e w1 ⟨rfl, h1, h2⟩; have H1 := Lib.hid h1; have H2 := Lib.hid h2; clear h1 h2 hN)
  go_loopw [11, 7] (fun u11 u7 wr => ∃ (i : Nat) (acc : List Int) (s2 : Option (List UInt8)), i ≤ n ∧ u11 = .int .u64 (i : Int) ∧ Hid (wr.ownsRow w.heap.size 3 1 u7 acc.length (intsV acc)) ∧ Hid (RdAt E s2 wr ∧ GBu E w wr ∧ (s2.getD []).length ≤ 1099511627776 ∧ acc.length ≤ i) ∧ Hid (manyQ oneQ (n - i) acc s2 = rowQ most s)) (fun u11 _ _ => n - (intOf u11).toNat)
  case atStart => exact ⟨0, [], s1, Nat.zero_le _, rfl, Lib.hid (World.ownsRow_nil _ _ _ _), Lib.hid ⟨H1.out, H2.out, Hs1.out, Nat.le_refl _⟩, Lib.hid (by rw [HQ.out]; rfl)⟩
  case round =>
    clear H1 H2
    obtain ⟨i, acc, s2, hi, rfl, HO, HR, HM⟩ := hrel
    obtain ⟨wo, hwo⟩ : ∃ x, x = wr := ⟨_, rfl⟩
    rw [← hwo] at HO HR ⊢
    clear hwo
    by_cases hlt : i < n
    · have hO := ok_r E s2 wo HR.out.1
      cases s2 with
      | none =>
        have hq : rowQ most s = ([], none) := by rw [← HM.out, show n - i = (n - i - 1) + 1 by omega]; rfl
        have Hq := Lib.hid hq
        clear hq
        go_wp2_with (go_at_call 14; refine hO.mono ?_; rintro e w2 ⟨rfl, rfl⟩; clear hO)
        go_ret
        rw [Hq.out]
        exact ⟨_, rfl, World.ownsRow_nil _ _ _ _, HR.out.1, HR.out.2.1⟩
      | some l =>
        have hI := one_r E (some l) wo HR.out.1 HR.out.2.2.1
        have hM2 : manyQ oneQ (n - (i + 1)) (acc ++ [(oneQ (some l)).1]) (oneQ (some l)).2 = rowQ most s := by rw [← HM.out, show n - i = (n - (i + 1)) + 1 by omega]; rfl
        have hlen := oneQ_len (some l)
        obtain ⟨x, hx⟩ : ∃ x, x = (oneQ (some l)).1 := ⟨_, rfl⟩
        obtain ⟨s3, hs3⟩ : ∃ s3, s3 = (oneQ (some l)).2 := ⟨_, rfl⟩
        rw [← hx, ← hs3] at hI hM2
        rw [← hs3] at hlen
        have HM2 := Lib.hid hM2
        have Hlen : Hid ((s3.getD []).length ≤ 1099511627776) := Lib.hid (Nat.le_trans hlen HR.out.2.2.1)
        obtain ⟨A0, c0, rfl⟩ := gr_slice HO.out
        clear hM2 hlen hx hs3
        go_wp2_with (first
          | (go_at_call 14; refine hO.mono ?_; rintro e w2 ⟨rfl, rfl⟩; clear hO)
          | (go_at_call 75; refine hI.mono ?_; rintro e w3 ⟨rfl, h3, g3⟩; have H3 := Lib.hid h3; have G3 := Lib.hid (HR.out.2.1.trans g3); have O3 := Lib.hid (own_gbu HO.out HR.out.1 (by decide) g3); clear h3 g3 hI)
          | (at_builtin; refine app_int rfl (.tmp 16) (.tmp 20) rfl w.heap.size _ acc rfl (gr_up O3.out ((Below.refl _ _).alloc (Nat.le_refl _) _)) _ x rfl (World.news_of_block (heap_alloc_new w3 _)) (by have := HR.out.2.2.2; omega) (by have := G3.out.size; simp; omega) ?_; intro v' w5 ho5 hg5; have O5 := Lib.hid ho5; have R5 := Lib.hid ((H3.out.keep ((Below.refl _ _).alloc (Nat.le_refl _) _)).grown (gr_up O3.out ((Below.refl _ _).alloc (Nat.le_refl _) _)) (by decide) hg5); have G5 := Lib.hid ((G3.out.trans (GBu.of_below ((Below.refl _ _).alloc (Nat.le_refl _) _))).of_grown (gr_up O3.out ((Below.refl _ _).alloc (Nat.le_refl _) _)) (Nat.le_refl _) hg5); clear ho5 hg5))
        go_roundw
        case rel => exact ⟨i + 1, acc ++ [x], s3, by omega, by go_num, O5, Lib.hid ⟨R5.out, G5.out, Hlen.out, by have := HR.out.2.2.2; simp; omega⟩, HM2⟩
        case measure => simp [intOf]; omega
    · have hq : rowQ most s = (acc, s2) := by rw [← HM.out, show n - i = 0 by omega]; rfl
      have Hq := Lib.hid hq
      obtain ⟨A0, c0, rfl⟩ := gr_slice HO.out
      clear hq
      go_wp2_with fail
      go_ret
      rw [Hq.out]
      exact ⟨_, rfl, HO.out, HR.out.1, HR.out.2.1⟩
set_option maxRecDepth 100000 in
theorem row_r (E most : Nat) (hm : most ≤ 1048576) (s : Option (List UInt8)) (w : World) (h : RdAt E s w) (hl : (s.getD []).length ≤ 1099511627776) : Calls Try.prog 54 #[.pointer (some ⟨E, 0, none⟩), .int .u64 (most : Int)] w fun e w' => ∃ v, e = .returned v ∧ w'.ownsRow w.heap.size 3 1 v (rowQ most s).1.length (intsV (rowQ most s).1) ∧ RdAt E (rowQ most s).2 w' ∧ GBu E w w' := by
  have hI := items_int E most hm s w h hl
  clear h hl
  go_enter Try.func54, Try.ntmps54
  go_wp2_with (go_at_call 74; refine hI.mono ?_; rintro e w1 ⟨v1, rfl, h1, h2, h3⟩; have H1 := Lib.hid h1; have H2 := Lib.hid h2; have H3 := Lib.hid h3; clear h1 h2 h3 hI)
  go_ret
  exact ⟨_, rfl, H1.out, H2.out, H3.out⟩
end Go.Proofs.Ythjlpbglnnebkaa
