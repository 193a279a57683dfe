/-
  Programs as bytes: a number's bytes are laid behind others.
  Programs as bytes: the writer: number, one, row.
  Programs as bytes: signs.
-/
import Derived.Test.YthhjhdmdfneegaaJc1
import Derived.Deep.AppendLies
import Derived.Lib.AppendStr
namespace Go.Proofs.Ythhjhdmdfneegaa
set_option linter.unusedVariables false
set_option linter.unusedSimpArgs false
open Go.RowKit

theorem infoU8 : (Try.prog.info? 5).map (fun i => (i.zero, i.size, i.bytes)) = some (some (.int .u8 0), 1, 1) := by kernel_rfl
/-- append of one byte. -/
theorem app_byte {ops : Array Oper} {rest : List Oper} {o : Oper} {a : Act} {w : World} {Q : Exit → Act → World → Prop} (hgd : o.guard = none) (s x : Operand)
    (ho : o.op = .call { callee := .builtin .append, args := #[s, x], argTypes := #[56, 56] }) (base : Nat) (v : Value) (l : List UInt8) (hs : a.eval s = v) (hown : w.ownsRow base 5 1 v l.length (bcV l))
    (g0 : Nat) (u : UInt8) (hx : a.eval x = .slice (some ⟨g0, 0, none⟩) 1 1) (hc : ∀ j y, ([.int .u8 (u.toNat : Int)] : List Value)[j]? = some y → w.cell? ((⟨g0, 0, none⟩ : Addr).add j) = some y) (hl : l.length ≤ 1099511627800) (hb : base ≤ w.heap.size)
    (h : ∀ v' w', w'.ownsRow base 5 1 v' (l ++ [u]).length (bcV (l ++ [u])) → Kb base w w' → wpList Try.prog ops Q rest (a.put o.dst v') w') : wpList Try.prog ops Q (o :: rest) a w := by
  obtain ⟨i0, hi0, hz0, hz1, hz2⟩ := info_parts infoU8
  refine wpList_append_lies w hgd s x 56 ho base 5 i0 (.int .u8 0) 1 1 Try.underlying56 hi0 hz0 hz1 hz2 rfl (by decide) v l.length (bcV l) hs hown ⟨g0, 0, none⟩ 1 1 [.int .u8 (u.toNat : Int)] hx rfl hc (fun y hy => by simp at hy; subst hy; rfl) (by decide) (by unfold maxLen; omega) (by omega) hb _ rfl ?_
  intro g cap w' ho' hg' hat _
  refine h _ _ ?_ (Kq.of_grown hown hb hg')
  · rw [bcV_snoc, List.length_append]; exact ho'
/-- append of a string. -/
theorem app_str {ops : Array Oper} {rest : List Oper} {o : Oper} {a : Act} {w : World} {Q : Exit → Act → World → Prop} (hgd : o.guard = none) (s x : Operand) (t : TypeId) (ht : Try.prog.underlying t = some .string)
    (ho : o.op = .call { callee := .builtin .append, args := #[s, x], argTypes := #[56, t] }) (base : Nat) (v : Value) (l m : List UInt8) (hs : a.eval s = v) (hown : w.ownsRow base 5 1 v l.length (bcV l))
    (hx : a.eval x = .string ⟨m.toArray⟩) (hl : l.length + m.length ≤ 1099511627800) (hb : base ≤ w.heap.size)
    (h : ∀ v' w', w'.ownsRow base 5 1 v' (l ++ m).length (bcV (l ++ m)) → Kb base w w' → wpList Try.prog ops Q rest (a.put o.dst v') w') : wpList Try.prog ops Q (o :: rest) a w := by
  obtain ⟨i0, hi0, hz0, hz1, hz2⟩ := info_parts infoU8
  have hs' : (⟨m.toArray⟩ : ByteArray).size = m.length := by simp [ByteArray.size]
  refine Lib.wpList_append_own_string w hgd s x 56 t ho base 5 i0 Try.underlying56 ht hi0 hz0 hz1 hz2 v l.length (bcV l) hs hown ⟨m.toArray⟩ hx (by rw [hs']; unfold maxLen; omega) (by rw [hs']; omega) hb ?_
  intro v' w' ho' hg' _
  refine h _ _ ?_ (Kq.of_grown hown hb hg')
  have e : Lib.strCells ⟨m.toArray⟩ = bcV m := by simp [Lib.strCells, bcV]
  rw [e, hs'] at ho'
  rw [List.length_append, show bcV (l ++ m) = bcV l ++ bcV m by simp [bcV]]
  exact ho'
theorem cdF_big {f k : Nat} (hk : 128 ≤ k) (hf : k < 128 ^ (f + 1)) : ∃ f', f = f' + 1 ∧ cdF f k = UInt8.ofNat (128 + k % 128) :: cdF f' (k / 128) ∧ k / 128 < 128 ^ (f' + 1) := by
  rcases f with _ | f
  · simp at hf; omega
  · refine ⟨f, rfl, ?_, ?_⟩
    · rw [cdF, if_neg (by omega)]
    · rw [Nat.pow_succ] at hf
      exact Nat.div_lt_of_lt_mul (by rw [Nat.mul_comm]; exact hf)
theorem cdF_small {f k : Nat} (hk : k < 128) : cdF f k = [UInt8.ofNat k] := by
  rcases f with _ | f
  · rfl
  · rw [cdF, if_pos hk]
set_option maxRecDepth 100000 in
set_option maxHeartbeats 4000000 in
theorem addNum_c (base : Nat) (v : Value) (l : List UInt8) (k : Nat) (w : World) (hk : k < 18446744073709551616) (ho : w.ownsRow base 5 1 v l.length (bcV l)) (hl : l.length ≤ 1099511627776) (hb : base ≤ w.heap.size) :
    Calls Try.prog 33 #[v, .int .u64 (k : Int)] w fun e w' => ∃ v', e = .returned v' ∧ w'.ownsRow base 5 1 v' (l ++ cdN k).length (bcV (l ++ cdN k)) ∧ Kb base w w' := by
  have H0 : Hid (w.ownsRow base 5 1 v l.length (bcV l)) := Lib.hid ho
  have H1 : Hid (l ++ cdF 9 k = l ++ cdN k ∧ k < 128 ^ (9 + 1) ∧ l.length + 9 ≤ 1099511627790) := Lib.hid ⟨rfl, by simp; omega, by omega⟩
  have H2 : Hid (Kb base w w) := Lib.hid (Kq.refl _ _ _)
  have Hb := Lib.hid hb
  clear ho hl hb
  go_enter Try.func33, Try.ntmps33
  go_wp2_with fail
  go_loopw [0, 1] (fun u0 u1 wr => ∃ (f k1 : Nat) (l1 : List UInt8), u1 = .int .u64 (k1 : Int) ∧ k1 < 18446744073709551616 ∧ Hid (wr.ownsRow base 5 1 u0 l1.length (bcV l1)) ∧ Hid (l1 ++ cdF f k1 = l ++ cdN k ∧ k1 < 128 ^ (f + 1) ∧ l1.length + f ≤ 1099511627790) ∧ Hid (Kb base w wr)) (fun _ u1 _ => (intOf u1).toNat)
  case atStart => exact ⟨9, k, l, rfl, hk, H0, H1, H2⟩
  case round =>
    clear H0 H1 H2 hk
    obtain ⟨f, k1, l1, rfl, hk1, HO, HE, HW⟩ := hrel
    by_cases hge : 128 ≤ k1
    · obtain ⟨f', hf', hcd, hlt⟩ := cdF_big hge HE.out.2.1
      obtain ⟨X, hX, hbX, hzX, h0X⟩ := gr_one wr #[.int .u8 ((k1 : Int) % 128 + 128)] 5
      have hu : ((UInt8.ofNat (128 + k1 % 128)).toNat : Int) = (k1 : Int) % 128 + 128 := by
        have : (UInt8.ofNat (128 + k1 % 128)).toNat = 128 + k1 % 128 := by simp [UInt8.toNat_ofNat']; omega
        rw [this]; omega
      have hcX : ∀ j y, ([.int .u8 ((UInt8.ofNat (128 + k1 % 128)).toNat : Int)] : List Value)[j]? = some y → X.cell? ((⟨wr.heap.size, 0, none⟩ : Addr).add j) = some y := by rw [hu]; exact World.news_of_block h0X
      have HOX := Lib.hid (gr_up HO.out hbX)
      have HbX := Lib.hid (Nat.le_trans (Nat.le_trans Hb.out HW.out.b.size) hbX.size)
      have HWX := Lib.hid (HW.out.trans (Kq.of_below hbX (Nat.le_trans Hb.out HW.out.b.size)))
      have HE2 : Hid (f = f' + 1 ∧ cdF f k1 = UInt8.ofNat (128 + k1 % 128) :: cdF f' (k1 / 128) ∧ k1 / 128 < 128 ^ (f' + 1)) := Lib.hid ⟨hf', hcd, hlt⟩
      have HcX := Lib.hid hcX
      obtain ⟨A0, c0, rfl⟩ := gr_slice HO.out
      have HX := Lib.hid hX
      clear hf' hcd hlt hX hbX hzX h0X hu hcX
      go_wp2_with (at_builtin; rw [← HX.out]; refine app_byte rfl (.tmp 7) (.tmp 12) rfl base _ l1 rfl HOX.out _ _ rfl HcX.out (by have := HE.out.2.2; omega) HbX.out ?_; intro v' w' ho' hw'; have HO' := Lib.hid ho'; have HW' := Lib.hid (HWX.out.trans hw'); clear ho' hw')
      go_roundw
      case rel => exact ⟨f', k1 / 128, l1 ++ [UInt8.ofNat (128 + k1 % 128)], by go_num, by omega, HO', Lib.hid ⟨by rw [← HE.out.1, HE2.out.2.1]; simp, HE2.out.2.2, by have := HE.out.2.2; have := HE2.out.1; simp; omega⟩, HW'⟩
      case measure => simp [intOf]; omega
    · have hcs : cdF f k1 = [UInt8.ofNat k1] := cdF_small (by omega)
      obtain ⟨X, hX, hbX, hzX, h0X⟩ := gr_one wr #[.int .u8 (k1 : Int)] 5
      have hu : ((UInt8.ofNat k1).toNat : Int) = (k1 : Int) := by
        have : (UInt8.ofNat k1).toNat = k1 := by simp [UInt8.toNat_ofNat']; omega
        rw [this]
      have hcX : ∀ j y, ([.int .u8 ((UInt8.ofNat k1).toNat : Int)] : List Value)[j]? = some y → X.cell? ((⟨wr.heap.size, 0, none⟩ : Addr).add j) = some y := by rw [hu]; exact World.news_of_block h0X
      have HOX := Lib.hid (gr_up HO.out hbX)
      have HbX := Lib.hid (Nat.le_trans (Nat.le_trans Hb.out HW.out.b.size) hbX.size)
      have HWX := Lib.hid (HW.out.trans (Kq.of_below hbX (Nat.le_trans Hb.out HW.out.b.size)))
      have HE2 : Hid (l1 ++ [UInt8.ofNat k1] = l ++ cdN k) := Lib.hid (by rw [← HE.out.1, hcs])
      have HcX := Lib.hid hcX
      have hw8 : IntKind.u8.wrap (k1 : Int) = (k1 : Int) := by rw [IntKind.wrap_u8]; omega
      obtain ⟨A0, c0, rfl⟩ := gr_slice HO.out
      have HX := Lib.hid hX
      clear hcs hX hbX hzX h0X hu hcX
      go_wp2_with (at_builtin; rw [← HX.out]; refine app_byte rfl (.tmp 16) (.tmp 19) rfl base _ l1 rfl HOX.out _ _ rfl HcX.out (by have := HE.out.2.2; omega) HbX.out ?_; intro v' w' ho' hw'; have HO' := Lib.hid ho'; have HW' := Lib.hid (HWX.out.trans hw'); clear ho' hw')
      go_ret
      exact ⟨v', rfl, by rw [← HE2.out]; exact HO'.out, HW'.out⟩
end Go.Proofs.Ythhjhdmdfneegaa
namespace Go.Proofs.Ythhjhdmdfneegaa
set_option linter.unusedVariables false
set_option linter.unusedSimpArgs false
open Go.RowKit

/-- A number's 64 bits. -/
def u64Q (n : Int) : Nat := (n % 18446744073709551616).toNat
theorem u64Q_lt (n : Int) : u64Q n < 18446744073709551616 := by unfold u64Q; omega
theorem u64Q_wrap (n : Int) : IntKind.u64.wrap n = (u64Q n : Int) := by rw [IntKind.wrap_u64]; unfold u64Q; omega
/-- The writer as it lies. -/
def WrAt (base E : Nat) (l : List UInt8) (w : World) : Prop := ∃ v, w.heap[E]? = some (.cells #[v] 58 (0, 0)) ∧ w.ownsRow base 5 1 v l.length (bcV l) ∧ base ≤ E ∧ base ≤ w.heap.size
theorem WrAt.keep {base E : Nat} {l : List UInt8} {w w' : World} (h : WrAt base E l w) (hb : Below w.heap.size w w') : WrAt base E l w' := by
  obtain ⟨v, h1, h2, h3, h4⟩ := h
  exact ⟨v, (hb.block E (gr_in h1)).trans h1, gr_up h2 hb, h3, Nat.le_trans h4 hb.size⟩
/-- What a method of the writer leaves. -/
def WrP (base E : Nat) (l : List UInt8) (w : World) (e : Ending) (w' : World) : Prop := e = .returned (.tuple #[]) ∧ WrAt base E l w' ∧ Kw base w w'
theorem cdF_len : ∀ (f k : Nat), (cdF f k).length ≤ f + 1
  | 0, k => by simp [cdF]
  | f + 1, k => by
    unfold cdF
    split
    · simp
    · have := cdF_len f (k / 128)
      simp; omega
theorem cdN_len (k : Nat) : (cdN k).length ≤ 10 := cdF_len 9 k
/-- The writer's row is another one now. -/
theorem WrAt.of_set {base E : Nat} {l : List UInt8} {w : World} {cs : Array Value} {v : Value} (hE : w.heap[E]? = some (.cells cs 58 (0, 0))) (hcs : cs.size = 1) (ho : w.ownsRow base 5 1 v l.length (bcV l)) (hb : base ≤ E) : WrAt base E l (w.setCell ⟨E, 0, none⟩ v) ∧ Kw base w (w.setCell ⟨E, 0, none⟩ v) := by
  refine ⟨⟨v, ?_, ?_, hb, ?_⟩, Kq.set hE hb v⟩
  · rw [gr_put hE]
    have e : cs.setIfInBounds 0 v = #[v] := by
      apply Array.ext
      · simp [hcs]
      · intro i h1 h2
        simp at h2
        subst h2
        simp
    rw [e]
  · refine World.ownsRow.kept (row := some E) ho ⟨rfl, rfl, rfl, by simp [World.setCell], fun k hk hne => Below.heap_setCell w ⟨E, 0, none⟩ v k (fun e => hne (by rw [e]))⟩ ?_
    rcases ho.2 with ⟨rfl, -⟩ | ⟨g, cap, cur, rfl, -, hh, -⟩
    · exact .inl rfl
    · refine .inr (fun e => ?_)
      have e' : g = E := by simpa [Value.ownBlock] using e
      subst e'
      rw [hh] at hE
      injection hE with hE
      injection hE with _ hE _
      cases hE
  · have := gr_in hE
    simp [World.setCell]
    omega
set_option maxRecDepth 100000 in
set_option maxHeartbeats 4000000 in
theorem number_w (base E : Nat) (l : List UInt8) (n : Int) (w : World) (h : WrAt base E l w) (hl : l.length ≤ 1099511627776) :
    Calls Try.prog 14 #[.pointer (some ⟨E, 0, none⟩), .int .i64 n] w (WrP base E (l ++ cdN (u64Q n)) w) := by
  obtain ⟨v, h1, h2, h3, h4⟩ := h
  have hA := addNum_c base v l (u64Q n) w (u64Q_lt n) h2 hl h4
  have x0 := Lib.cell_of_heap h1 0
  have hw : IntKind.u64.wrap n = (u64Q n : Int) := u64Q_wrap n
  obtain ⟨k, hk⟩ : ∃ k, k = u64Q n := ⟨_, rfl⟩
  rw [← hk] at hA hw ⊢
  obtain ⟨A0, c0, rfl⟩ := gr_slice h2
  obtain ⟨m, hm⟩ : ∃ m, m = l ++ cdN k := ⟨_, rfl⟩
  rw [← hm] at hA ⊢
  have H1 := Lib.hid h1
  have H3 := Lib.hid h3
  clear h1 h2 h3 h4 hk hm
  go_enter Try.func14, Try.ntmps14
  go_wp2_with (go_at_call 33; refine hA.mono ?_; rintro e w1 ⟨v1, rfl, ho1, hk1⟩; obtain ⟨A1, c1, rfl⟩ := gr_slice ho1; have e1 := hk1.k _ _ _ _ H1.out (by decide); have y0 := Lib.cell_of_heap e1 0; have yf := Lib.frozen_of_heap e1 0; have E1 := Lib.hid e1; have HO := Lib.hid ho1; have HK := Lib.hid hk1; clear e1 ho1 hk1 hA)
  try simp only [Exit.inBlock, Exit.then]
  first
    | refine bodyPost_ret (results_none rfl _ _ _) rfl ?_
    | refine bodyPost_end (results_none rfl _ _ _) rfl ?_
  have hs := WrAt.of_set (l := m) E1.out rfl HO.out H3.out
  exact ⟨rfl, hs.1, HK.out.w.trans hs.2⟩
theorem WrP.mono {base E : Nat} {l : List UInt8} {w w' w'' : World} {e : Ending} (h : WrP base E l w' e w'') (hk : Kw base w w') : WrP base E l w e w'' := ⟨h.1, h.2.1, hk.trans h.2.2⟩
set_option maxRecDepth 100000 in
set_option maxHeartbeats 4000000 in
theorem one_w (base E : Nat) (l : List UInt8) (n : Int) (w : World) (h : WrAt base E l w) (hl : l.length ≤ 1099511627776) :
    Calls Try.prog 58 #[.pointer (some ⟨E, 0, none⟩), .int .i64 n] w (WrP base E (l ++ cdN (u64Q (n + 1))) w) := by
  have hN := number_w base E l (wrap64 (n + 1)) w h hl
  have e : u64Q (wrap64 (n + 1)) = u64Q (n + 1) := by unfold u64Q wrap64; omega
  rw [e] at hN
  obtain ⟨m, hm⟩ : ∃ m, m = l ++ cdN (u64Q (n + 1)) := ⟨_, rfl⟩
  rw [← hm] at hN ⊢
  clear h e hm
  go_enter Try.func58, Try.ntmps58
  go_wp2_with (go_at_call 14; refine hN.mono ?_; rintro e w1 ⟨rfl, h1⟩; have H1 := Lib.hid h1; clear h1 hN)
  try simp only [Exit.inBlock, Exit.then]
  first
    | refine bodyPost_ret (results_none rfl _ _ _) rfl ?_
    | refine bodyPost_end (results_none rfl _ _ _) rfl ?_
  exact ⟨rfl, H1.out⟩
theorem take_q {α : Type} (l : List α) (i : Nat) (h : i < l.length) : l.take (i + 1) = l.take i ++ [l[i]] := by
  rw [List.take_add_one, List.getElem?_eq_getElem h]; rfl
/-- A row's bytes. -/
def cdOnes (l : List Int) : List UInt8 := l.flatMap fun x => cdN (u64Q (x + 1))
def cdRow (l : List Int) : List UInt8 := cdN l.length ++ cdOnes l
theorem cdOnes_len (l : List Int) : (cdOnes l).length ≤ 10 * l.length := by
  induction l with
  | nil => simp [cdOnes]
  | cons x l ih =>
    have := cdN_len (u64Q (x + 1))
    unfold cdOnes at ih ⊢
    rw [List.flatMap_cons, List.length_append, List.length_cons]
    omega
theorem cdOnes_more (l : List Int) (i : Nat) (h : i < l.length) : cdOnes (l.take (i + 1)) = cdOnes (l.take i) ++ cdN (u64Q (l[i] + 1)) := by
  unfold cdOnes
  rw [take_q l i h, List.flatMap_append]
  simp
theorem cdOnes_take_len (l : List Int) (i : Nat) : (cdOnes (l.take i)).length ≤ 10 * l.length := by
  have := cdOnes_len (l.take i)
  have h2 : (l.take i).length ≤ l.length := by rw [List.length_take]; omega
  omega
theorem u64Q_nat (n : Nat) (h : n < 18446744073709551616) : u64Q (n : Int) = n := by unfold u64Q; omega
set_option maxRecDepth 100000 in
set_option maxHeartbeats 4000000 in
theorem row_w (base E n0 : Nat) (l : List UInt8) (A : Option Addr) (n c : Nat) (r : List Int) (w : World) (h : WrAt base E l w) (hr : GNs n0 w (.slice A n c) r) (hn : n0 ≤ base) (hrl : r.length ≤ 1048576) (hl : l.length ≤ 1099000000000) :
    Calls Try.prog 34 #[.pointer (some ⟨E, 0, none⟩), .slice A n c] w (WrP base E (l ++ cdRow r) w) := by
  have hnr := hr.len
  have hN := number_w base E l (n : Int) w h (by omega)
  rw [u64Q_nat n (by omega), hnr] at hN
  have HR : Hid (∀ X, Below base w X → GNs n0 X (.slice A n c) r) := Lib.hid fun X hX => hr.keep (hX.mono hn)
  rw [← hnr] at hN
  have Hnr := Lib.hid hnr
  have Hrl := Lib.hid hrl
  clear h hr hnr hrl
  go_enter Try.func34, Try.ntmps34
  go_wp2_with (go_at_call 14; refine hN.mono ?_; rintro e w1 ⟨rfl, h1, k1⟩; have H1 : Hid (WrAt base E (l ++ cdN n ++ cdOnes (r.take 0)) w1) := Lib.hid (by simpa [cdOnes] using h1); have HK := Lib.hid k1; clear h1 k1 hN)
  go_loopw [12] (fun u12 wr => ∃ i : Nat, i ≤ n ∧ u12 = .int .i64 (i : Int) ∧ Hid (WrAt base E (l ++ cdN n ++ cdOnes (r.take i)) wr) ∧ Hid (Kw base w wr)) (fun u12 _ => n - (intOf u12).toNat)
  case atStart => exact ⟨0, Nat.zero_le _, rfl, H1, HK⟩
  case round =>
    clear H1 HK
    obtain ⟨i, hi, rfl, H1, HK⟩ := hrel
    have hnb : n ≤ 1048576 := by rw [Hnr.out]; exact Hrl.out
    by_cases hlt : i < n
    · have hir : i < r.length := by rw [← Hnr.out]; exact hlt
      obtain ⟨gb, go, rfl, -, kx⟩ := (HR.out wr HK.out.b).at hir
      have hO := one_w base E (l ++ cdN n ++ cdOnes (r.take i)) r[i] wr H1.out (by
        have := cdN_len n
        have := cdOnes_take_len r i
        have := Hrl.out
        simp only [List.length_append]
        omega)
      have e : l ++ cdN n ++ cdOnes (r.take i) ++ cdN (u64Q (r[i] + 1)) = l ++ cdN n ++ cdOnes (r.take (i + 1)) := by rw [cdOnes_more r i hir]; simp
      rw [e] at hO
      obtain ⟨x, hx⟩ : ∃ x, x = r[i] := ⟨_, rfl⟩
      rw [← hx] at kx hO
      clear hx e hir
      go_wp2_with (go_at_call 58; refine hO.mono ?_; rintro e w2 ⟨rfl, h2, k2⟩; have H2 := Lib.hid h2; have HK2 := Lib.hid (HK.out.trans k2); clear h2 k2 hO)
      go_roundw
      case rel => exact ⟨i + 1, by omega, by go_num, H2, HK2⟩
      case measure => simp [intOf]; omega
    · have hin : i = r.length := by rw [← Hnr.out]; omega
      have e : l ++ cdN n ++ cdOnes (r.take i) = l ++ cdRow r := by rw [hin, List.take_length]; unfold cdRow; rw [← Hnr.out, List.append_assoc]
      rw [e] at H1
      clear hin e
      go_wp2_with fail
      try simp only [Exit.inBlock, Exit.then]
      first
        | refine bodyPost_ret (results_none rfl _ _ _) rfl ?_
        | refine bodyPost_end (results_none rfl _ _ _) rfl ?_
      exact ⟨rfl, H1.out, HK.out⟩
end Go.Proofs.Ythhjhdmdfneegaa
namespace Go.Proofs.Ythhjhdmdfneegaa
set_option linter.unusedVariables false
set_option linter.unusedSimpArgs false
open Go.RowKit

def signQ (n : Int) : Nat := if n < 0 then 2 * (-(n + 1)).toNat + 1 else 2 * n.toNat
def unsQ (n : Nat) : Int := if n % 2 = 1 then -((n / 2 : Nat) : Int) - 1 else ((n / 2 : Nat) : Int)
theorem uns_sign (n : Int) : unsQ (signQ n) = n := by
  unfold unsQ signQ
  split <;> split <;> omega
theorem signQ_lt (n : Int) (h : InG n) : signQ n < 18446744073709551616 := by
  unfold signQ InG at *
  split <;> omega
set_option maxRecDepth 100000 in
set_option maxHeartbeats 4000000 in
theorem sign_c (n : Int) (hn : InG n) (w : World) : Calls Try.prog 59 #[.int .i64 n] w fun e w' => e = .returned (.int .u64 (signQ n : Int)) ∧ w' = w := by
  unfold InG at hn
  by_cases h : n < 0
  · have e : (signQ n : Int) = 2 * -(n + 1) + 1 := by unfold signQ; rw [if_pos h]; omega
    have d : decide (n < 0) = true := decide_eq_true h
    rw [e]
    clear e
    go_enter Try.func59, Try.ntmps59
    go_wp2
    go_ret
    exact ⟨rfl, rfl⟩
  · have e : (signQ n : Int) = 2 * n := by unfold signQ; rw [if_neg h]; omega
    have d : decide (n < 0) = false := decide_eq_false h
    rw [e]
    clear e
    go_enter Try.func59, Try.ntmps59
    go_wp2
    go_ret
    exact ⟨rfl, rfl⟩
set_option maxRecDepth 100000 in
set_option maxHeartbeats 4000000 in
theorem unsign_c (n : Nat) (hn : n < 18446744073709551616) (w : World) : Calls Try.prog 69 #[.int .u64 (n : Int)] w fun e w' => e = .returned (.int .i64 (unsQ n)) ∧ w' = w := by
  by_cases h : n % 2 = 1
  · have e : unsQ n = -((n : Int) / 2) - 1 := by unfold unsQ; rw [if_pos h]; omega
    have d : ((n : Int) % 2 == 1) = true := by simp; omega
    rw [e]
    clear e h
    go_enter Try.func69, Try.ntmps69
    go_wp2
    go_ret
    exact ⟨rfl, rfl⟩
  · have e : unsQ n = (n : Int) / 2 := by unfold unsQ; rw [if_neg h]; omega
    have d : ((n : Int) % 2 == 1) = false := by simp; omega
    rw [e]
    clear e h
    go_enter Try.func69, Try.ntmps69
    go_wp2
    go_ret
    exact ⟨rfl, rfl⟩
end Go.Proofs.Ythhjhdmdfneegaa
