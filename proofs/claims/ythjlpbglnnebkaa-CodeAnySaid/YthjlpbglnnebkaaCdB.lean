/-
  Programs as bytes: a number's bytes are laid behind others.
-/
import Derived.Test.YthjlpbglnnebkaaCdA
import Derived.Deep.AppendLies
import Derived.Lib.AppendStr
namespace Go.Proofs.Ythjlpbglnnebkaa
open Go.RowKit
set_option linter.unusedVariables false
set_option linter.unusedSimpArgs false

theorem infoU8 : (Try.prog.info? 5).map (fun i => (i.zero, i.size, i.bytes)) = some (some (.int .u8 0), 1, 1) := by kernel_rfl
/-- append of one byte. -/
theorem app_byte {ops : Array Oper} {rest : List Oper} {o : Oper} {a : Act} {w : World} {Q : Exit → Act → World → Prop} (hgd : o.guard = none) (s x : Operand)
    (ho : o.op = .call { callee := .builtin .append, args := #[s, x], argTypes := #[51, 51] }) (base : Nat) (v : Value) (l : List UInt8) (hs : a.eval s = v) (hown : w.ownsRow base 5 1 v l.length (bcV l))
    (g0 : Nat) (u : UInt8) (hx : a.eval x = .slice (some ⟨g0, 0, none⟩) 1 1) (hc : ∀ j y, ([.int .u8 (u.toNat : Int)] : List Value)[j]? = some y → w.cell? ((⟨g0, 0, none⟩ : Addr).add j) = some y) (hl : l.length ≤ 1099511627800) (hb : base ≤ w.heap.size)
    (h : ∀ v' w', w'.ownsRow base 5 1 v' (l ++ [u]).length (bcV (l ++ [u])) → Kb base w w' → wpList Try.prog ops Q rest (a.put o.dst v') w') : wpList Try.prog ops Q (o :: rest) a w := by
  obtain ⟨i0, hi0, hz0, hz1, hz2⟩ := info_parts infoU8
  refine wpList_append_lies w hgd s x 51 ho base 5 i0 (.int .u8 0) 1 1 Try.underlying51 hi0 hz0 hz1 hz2 rfl (by decide) v l.length (bcV l) hs hown ⟨g0, 0, none⟩ 1 1 [.int .u8 (u.toNat : Int)] hx rfl hc (fun y hy => by simp at hy; subst hy; rfl) (by decide) (by unfold maxLen; omega) (by omega) hb _ rfl ?_
  intro g cap w' ho' hg' hat _
  refine h _ _ ?_ (Kq.of_grown hown hb hg')
  · rw [bcV_snoc, List.length_append]; exact ho'
/-- append of a string. -/
theorem app_str {ops : Array Oper} {rest : List Oper} {o : Oper} {a : Act} {w : World} {Q : Exit → Act → World → Prop} (hgd : o.guard = none) (s x : Operand) (t : TypeId) (ht : Try.prog.underlying t = some .string)
    (ho : o.op = .call { callee := .builtin .append, args := #[s, x], argTypes := #[51, t] }) (base : Nat) (v : Value) (l m : List UInt8) (hs : a.eval s = v) (hown : w.ownsRow base 5 1 v l.length (bcV l))
    (hx : a.eval x = .string ⟨m.toArray⟩) (hl : l.length + m.length ≤ 1099511627800) (hb : base ≤ w.heap.size)
    (h : ∀ v' w', w'.ownsRow base 5 1 v' (l ++ m).length (bcV (l ++ m)) → Kb base w w' → wpList Try.prog ops Q rest (a.put o.dst v') w') : wpList Try.prog ops Q (o :: rest) a w := by
  obtain ⟨i0, hi0, hz0, hz1, hz2⟩ := info_parts infoU8
  have hs' : (⟨m.toArray⟩ : ByteArray).size = m.length := by simp [ByteArray.size]
  refine Lib.wpList_append_own_string w hgd s x 51 t ho base 5 i0 Try.underlying51 ht hi0 hz0 hz1 hz2 v l.length (bcV l) hs hown ⟨m.toArray⟩ hx (by rw [hs']; unfold maxLen; omega) (by rw [hs']; omega) hb ?_
  intro v' w' ho' hg' _
  refine h _ _ ?_ (Kq.of_grown hown hb hg')
  have e : Lib.strCells ⟨m.toArray⟩ = bcV m := by simp [Lib.strCells, bcV]
  rw [e, hs'] at ho'
  rw [List.length_append, show bcV (l ++ m) = bcV l ++ bcV m by simp [bcV]]
  exact ho'
theorem cdF_big {f k : Nat} (hk : 128 ≤ k) (hf : k < 128 ^ (f + 1)) : ∃ f', f = f' + 1 ∧ cdF f k = UInt8.ofNat (128 + k % 128) :: cdF f' (k / 128) ∧ k / 128 < 128 ^ (f' + 1) := by
  rcases f with _ | f
  · simp at hf; omega
  · refine ⟨f, rfl, ?_, ?_⟩
    · rw [cdF, if_neg (by omega)]
    · rw [Nat.pow_succ] at hf
      exact Nat.div_lt_of_lt_mul (by rw [Nat.mul_comm]; exact hf)
theorem cdF_small {f k : Nat} (hk : k < 128) : cdF f k = [UInt8.ofNat k] := by
  rcases f with _ | f
  · rfl
  · rw [cdF, if_pos hk]
set_option maxRecDepth 100000 in
set_option maxHeartbeats 4000000 in
theorem addNum_c (base : Nat) (v : Value) (l : List UInt8) (k : Nat) (w : World) (hk : k < 18446744073709551616) (ho : w.ownsRow base 5 1 v l.length (bcV l)) (hl : l.length ≤ 1099511627776) (hb : base ≤ w.heap.size) :
    Calls Try.prog 28 #[v, .int .u64 (k : Int)] w fun e w' => ∃ v', e = .returned v' ∧ w'.ownsRow base 5 1 v' (l ++ cdN k).length (bcV (l ++ cdN k)) ∧ Kb base w w' := by
  have H0 : Hid (w.ownsRow base 5 1 v l.length (bcV l)) := Lib.hid ho
  have H1 : Hid (l ++ cdF 9 k = l ++ cdN k ∧ k < 128 ^ (9 + 1) ∧ l.length + 9 ≤ 1099511627790) := Lib.hid ⟨rfl, by simp; omega, by omega⟩
  have H2 : Hid (Kb base w w) := Lib.hid (Kq.refl _ _ _)
  have Hb := Lib.hid hb
  clear ho hl hb
  go_enter Try.func28, Try.ntmps28
  go_wp2_with fail
  go_loopw [0, 1] (fun u0 u1 wr => ∃ (f k1 : Nat) (l1 : List UInt8), u1 = .int .u64 (k1 : Int) ∧ k1 < 18446744073709551616 ∧ Hid (wr.ownsRow base 5 1 u0 l1.length (bcV l1)) ∧ Hid (l1 ++ cdF f k1 = l ++ cdN k ∧ k1 < 128 ^ (f + 1) ∧ l1.length + f ≤ 1099511627790) ∧ Hid (Kb base w wr)) (fun _ u1 _ => (intOf u1).toNat)
  case atStart => exact ⟨9, k, l, rfl, hk, H0, H1, H2⟩
  case round =>
    clear H0 H1 H2 hk
    obtain ⟨f, k1, l1, rfl, hk1, HO, HE, HW⟩ := hrel
    by_cases hge : 128 ≤ k1
    · obtain ⟨f', hf', hcd, hlt⟩ := cdF_big hge HE.out.2.1
      obtain ⟨X, hX, hbX, hzX, h0X⟩ := gr_one wr #[.int .u8 ((k1 : Int) % 128 + 128)] 5
      have hu : ((UInt8.ofNat (128 + k1 % 128)).toNat : Int) = (k1 : Int) % 128 + 128 := by
        have : (UInt8.ofNat (128 + k1 % 128)).toNat = 128 + k1 % 128 := by simp [UInt8.toNat_ofNat']; omega
        rw [this]; omega
      have hcX : ∀ j y, ([.int .u8 ((UInt8.ofNat (128 + k1 % 128)).toNat : Int)] : List Value)[j]? = some y → X.cell? ((⟨wr.heap.size, 0, none⟩ : Addr).add j) = some y := by rw [hu]; exact World.news_of_block h0X
      have HOX := Lib.hid (gr_up HO.out hbX)
      have HbX := Lib.hid (Nat.le_trans (Nat.le_trans Hb.out HW.out.b.size) hbX.size)
      have HWX := Lib.hid (HW.out.trans (Kq.of_below hbX (Nat.le_trans Hb.out HW.out.b.size)))
      have HE2 : Hid (f = f' + 1 ∧ cdF f k1 = UInt8.ofNat (128 + k1 % 128) :: cdF f' (k1 / 128) ∧ k1 / 128 < 128 ^ (f' + 1)) := Lib.hid ⟨hf', hcd, hlt⟩
      have HcX := Lib.hid hcX
      obtain ⟨A0, c0, rfl⟩ := gr_slice HO.out
      have HX := Lib.hid hX
      clear hf' hcd hlt hX hbX hzX h0X hu hcX
      go_wp2_with (at_builtin; rw [← HX.out]; refine app_byte rfl (.tmp 7) (.tmp 12) rfl base _ l1 rfl HOX.out _ _ rfl HcX.out (by have := HE.out.2.2; omega) HbX.out ?_; intro v' w' ho' hw'; have HO' := Lib.hid ho'; have HW' := Lib.hid (HWX.out.trans hw'); clear ho' hw')
      go_roundw
      case rel => exact ⟨f', k1 / 128, l1 ++ [UInt8.ofNat (128 + k1 % 128)], by go_num, by omega, HO', Lib.hid ⟨by rw [← HE.out.1, HE2.out.2.1]; simp, HE2.out.2.2, by have := HE.out.2.2; have := HE2.out.1; simp; omega⟩, HW'⟩
      case measure => simp [intOf]; omega
    · have hcs : cdF f k1 = [UInt8.ofNat k1] := cdF_small (by omega)
      obtain ⟨X, hX, hbX, hzX, h0X⟩ := gr_one wr #[.int .u8 (k1 : Int)] 5
      have hu : ((UInt8.ofNat k1).toNat : Int) = (k1 : Int) := by
        have : (UInt8.ofNat k1).toNat = k1 := by simp [UInt8.toNat_ofNat']; omega
        rw [this]
      have hcX : ∀ j y, ([.int .u8 ((UInt8.ofNat k1).toNat : Int)] : List Value)[j]? = some y → X.cell? ((⟨wr.heap.size, 0, none⟩ : Addr).add j) = some y := by rw [hu]; exact World.news_of_block h0X
      have HOX := Lib.hid (gr_up HO.out hbX)
      have HbX := Lib.hid (Nat.le_trans (Nat.le_trans Hb.out HW.out.b.size) hbX.size)
      have HWX := Lib.hid (HW.out.trans (Kq.of_below hbX (Nat.le_trans Hb.out HW.out.b.size)))
      have HE2 : Hid (l1 ++ [UInt8.ofNat k1] = l ++ cdN k) := Lib.hid (by rw [← HE.out.1, hcs])
      have HcX := Lib.hid hcX
      have hw8 : IntKind.u8.wrap (k1 : Int) = (k1 : Int) := by rw [IntKind.wrap_u8]; omega
      obtain ⟨A0, c0, rfl⟩ := gr_slice HO.out
      have HX := Lib.hid hX
      clear hcs hX hbX hzX h0X hu hcX
      go_wp2_with (at_builtin; rw [← HX.out]; refine app_byte rfl (.tmp 16) (.tmp 19) rfl base _ l1 rfl HOX.out _ _ rfl HcX.out (by have := HE.out.2.2; omega) HbX.out ?_; intro v' w' ho' hw'; have HO' := Lib.hid ho'; have HW' := Lib.hid (HWX.out.trans hw'); clear ho' hw')
      go_ret
      exact ⟨v', rfl, by rw [← HE2.out]; exact HO'.out, HW'.out⟩
end Go.Proofs.Ythjlpbglnnebkaa
