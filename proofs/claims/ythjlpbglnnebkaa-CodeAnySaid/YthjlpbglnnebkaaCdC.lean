/-
  Programs as bytes: the writer: number, one, row.
-/
import Derived.Test.YthjlpbglnnebkaaCdB
import Derived.Test.YthjlpbglnnebkaaGrA
namespace Go.Proofs.Ythjlpbglnnebkaa
open Go.RowKit
set_option linter.unusedVariables false
set_option linter.unusedSimpArgs false

/-- A number's 64 bits. -/
def u64Q (n : Int) : Nat := (n % 18446744073709551616).toNat
theorem u64Q_lt (n : Int) : u64Q n < 18446744073709551616 := by unfold u64Q; omega
theorem u64Q_wrap (n : Int) : IntKind.u64.wrap n = (u64Q n : Int) := by rw [IntKind.wrap_u64]; unfold u64Q; omega
/-- The writer as it lies. -/
def WrAt (base E : Nat) (l : List UInt8) (w : World) : Prop := ∃ v, w.heap[E]? = some (.cells #[v] 75 (0, 0)) ∧ w.ownsRow base 5 1 v l.length (bcV l) ∧ base ≤ E ∧ base ≤ w.heap.size
theorem WrAt.keep {base E : Nat} {l : List UInt8} {w w' : World} (h : WrAt base E l w) (hb : Below w.heap.size w w') : WrAt base E l w' := by
  obtain ⟨v, h1, h2, h3, h4⟩ := h
  exact ⟨v, (hb.block E (gr_in h1)).trans h1, gr_up h2 hb, h3, Nat.le_trans h4 hb.size⟩
/-- What a method of the writer leaves. -/
def WrP (base E : Nat) (l : List UInt8) (w : World) (e : Ending) (w' : World) : Prop := e = .returned (.tuple #[]) ∧ WrAt base E l w' ∧ Kw base w w'
theorem cdF_len : ∀ (f k : Nat), (cdF f k).length ≤ f + 1
  | 0, k => by simp [cdF]
  | f + 1, k => by
    unfold cdF
    split
    · simp
    · have := cdF_len f (k / 128)
      simp; omega
theorem cdN_len (k : Nat) : (cdN k).length ≤ 10 := cdF_len 9 k
/-- The writer's row is another one now. -/
theorem WrAt.of_set {base E : Nat} {l : List UInt8} {w : World} {cs : Array Value} {v : Value} (hE : w.heap[E]? = some (.cells cs 75 (0, 0))) (hcs : cs.size = 1) (ho : w.ownsRow base 5 1 v l.length (bcV l)) (hb : base ≤ E) : WrAt base E l (w.setCell ⟨E, 0, none⟩ v) ∧ Kw base w (w.setCell ⟨E, 0, none⟩ v) := by
  refine ⟨⟨v, ?_, ?_, hb, ?_⟩, Kq.set hE hb v⟩
  · rw [gr_put hE]
    have e : cs.setIfInBounds 0 v = #[v] := by
      apply Array.ext
      · simp [hcs]
      · intro i h1 h2
        simp at h2
        subst h2
        simp
    rw [e]
  · refine World.ownsRow.kept (row := some E) ho ⟨rfl, rfl, rfl, by simp [World.setCell], fun k hk hne => Below.heap_setCell w ⟨E, 0, none⟩ v k (fun e => hne (by rw [e]))⟩ ?_
    rcases ho.2 with ⟨rfl, -⟩ | ⟨g, cap, cur, rfl, -, hh, -⟩
    · exact .inl rfl
    · refine .inr (fun e => ?_)
      have e' : g = E := by simpa [Value.ownBlock] using e
      subst e'
      rw [hh] at hE
      injection hE with hE
      injection hE with _ hE _
      cases hE
  · have := gr_in hE
    simp [World.setCell]
    omega
set_option maxRecDepth 100000 in
set_option maxHeartbeats 4000000 in
theorem number_w (base E : Nat) (l : List UInt8) (n : Int) (w : World) (h : WrAt base E l w) (hl : l.length ≤ 1099511627776) :
    Calls Try.prog 33 #[.pointer (some ⟨E, 0, none⟩), .int .i64 n] w (WrP base E (l ++ cdN (u64Q n)) w) := by
  obtain ⟨v, h1, h2, h3, h4⟩ := h
  have hA := addNum_c base v l (u64Q n) w (u64Q_lt n) h2 hl h4
  have x0 := Lib.cell_of_heap h1 0
  have hw : IntKind.u64.wrap n = (u64Q n : Int) := u64Q_wrap n
  obtain ⟨k, hk⟩ : ∃ k, k = u64Q n := ⟨_, rfl⟩
  rw [← hk] at hA hw ⊢
  obtain ⟨A0, c0, rfl⟩ := gr_slice h2
  obtain ⟨m, hm⟩ : ∃ m, m = l ++ cdN k := ⟨_, rfl⟩
  rw [← hm] at hA ⊢
  have H1 := Lib.hid h1
  have H3 := Lib.hid h3
  clear h1 h2 h3 h4 hk hm
  go_enter Try.func33, Try.ntmps33
  go_wp2_with (go_at_call 28; refine hA.mono ?_; rintro e w1 ⟨v1, rfl, ho1, hk1⟩; obtain ⟨A1, c1, rfl⟩ := gr_slice ho1; have e1 := hk1.k _ _ _ _ H1.out (by decide); have y0 := Lib.cell_of_heap e1 0; have yf := Lib.frozen_of_heap e1 0; have E1 := Lib.hid e1; have HO := Lib.hid ho1; have HK := Lib.hid hk1; clear e1 ho1 hk1 hA)
  try simp only [Exit.inBlock, Exit.then]
  first
    | refine bodyPost_ret (results_none rfl _ _ _) rfl ?_
    | refine bodyPost_end (results_none rfl _ _ _) rfl ?_
  have hs := WrAt.of_set (l := m) E1.out rfl HO.out H3.out
  exact ⟨rfl, hs.1, HK.out.w.trans hs.2⟩
theorem WrP.mono {base E : Nat} {l : List UInt8} {w w' w'' : World} {e : Ending} (h : WrP base E l w' e w'') (hk : Kw base w w') : WrP base E l w e w'' := ⟨h.1, h.2.1, hk.trans h.2.2⟩
set_option maxRecDepth 100000 in
set_option maxHeartbeats 4000000 in
theorem one_w (base E : Nat) (l : List UInt8) (n : Int) (w : World) (h : WrAt base E l w) (hl : l.length ≤ 1099511627776) :
    Calls Try.prog 73 #[.pointer (some ⟨E, 0, none⟩), .int .i64 n] w (WrP base E (l ++ cdN (u64Q (n + 1))) w) := by
  have hN := number_w base E l (wrap64 (n + 1)) w h hl
  have e : u64Q (wrap64 (n + 1)) = u64Q (n + 1) := by unfold u64Q wrap64; omega
  rw [e] at hN
  obtain ⟨m, hm⟩ : ∃ m, m = l ++ cdN (u64Q (n + 1)) := ⟨_, rfl⟩
  rw [← hm] at hN ⊢
  clear h e hm
  go_enter Try.func73, Try.ntmps73
  go_wp2_with (go_at_call 33; refine hN.mono ?_; rintro e w1 ⟨rfl, h1⟩; have H1 := Lib.hid h1; clear h1 hN)
  try simp only [Exit.inBlock, Exit.then]
  first
    | refine bodyPost_ret (results_none rfl _ _ _) rfl ?_
    | refine bodyPost_end (results_none rfl _ _ _) rfl ?_
  exact ⟨rfl, H1.out⟩
theorem take_q {α : Type} (l : List α) (i : Nat) (h : i < l.length) : l.take (i + 1) = l.take i ++ [l[i]] := by
  rw [List.take_add_one, List.getElem?_eq_getElem h]; rfl
/-- A row's bytes. -/
def cdOnes (l : List Int) : List UInt8 := l.flatMap fun x => cdN (u64Q (x + 1))
def cdRow (l : List Int) : List UInt8 := cdN l.length ++ cdOnes l
theorem cdOnes_len (l : List Int) : (cdOnes l).length ≤ 10 * l.length := by
  induction l with
  | nil => simp [cdOnes]
  | cons x l ih =>
    have := cdN_len (u64Q (x + 1))
    unfold cdOnes at ih ⊢
    rw [List.flatMap_cons, List.length_append, List.length_cons]
    omega
theorem cdOnes_more (l : List Int) (i : Nat) (h : i < l.length) : cdOnes (l.take (i + 1)) = cdOnes (l.take i) ++ cdN (u64Q (l[i] + 1)) := by
  unfold cdOnes
  rw [take_q l i h, List.flatMap_append]
  simp
theorem cdOnes_take_len (l : List Int) (i : Nat) : (cdOnes (l.take i)).length ≤ 10 * l.length := by
  have := cdOnes_len (l.take i)
  have h2 : (l.take i).length ≤ l.length := by rw [List.length_take]; omega
  omega
theorem u64Q_nat (n : Nat) (h : n < 18446744073709551616) : u64Q (n : Int) = n := by unfold u64Q; omega
set_option maxRecDepth 100000 in
set_option maxHeartbeats 4000000 in
theorem row_w (base E n0 : Nat) (l : List UInt8) (A : Option Addr) (n c : Nat) (r : List Int) (w : World) (h : WrAt base E l w) (hr : GNs n0 w (.slice A n c) r) (hn : n0 ≤ base) (hrl : r.length ≤ 1048576) (hl : l.length ≤ 1099000000000) :
    Calls Try.prog 51 #[.pointer (some ⟨E, 0, none⟩), .slice A n c] w (WrP base E (l ++ cdRow r) w) := by
  have hnr := hr.len
  have hN := number_w base E l (n : Int) w h (by omega)
  rw [u64Q_nat n (by omega), hnr] at hN
  have HR : Hid (∀ X, Below base w X → GNs n0 X (.slice A n c) r) := Lib.hid fun X hX => hr.keep (hX.mono hn)
  rw [← hnr] at hN
  have Hnr := Lib.hid hnr
  have Hrl := Lib.hid hrl
  clear h hr hnr hrl
  go_enter Try.func51, Try.ntmps51
  go_wp2_with (go_at_call 33; refine hN.mono ?_; rintro e w1 ⟨rfl, h1, k1⟩; have H1 : Hid (WrAt base E (l ++ cdN n ++ cdOnes (r.take 0)) w1) := Lib.hid (by simpa [cdOnes] using h1); have HK := Lib.hid k1; clear h1 k1 hN)
  go_loopw [12] (fun u12 wr => ∃ i : Nat, i ≤ n ∧ u12 = .int .i64 (i : Int) ∧ Hid (WrAt base E (l ++ cdN n ++ cdOnes (r.take i)) wr) ∧ Hid (Kw base w wr)) (fun u12 _ => n - (intOf u12).toNat)
  case atStart => exact ⟨0, Nat.zero_le _, rfl, H1, HK⟩
  case round =>
    clear H1 HK
    obtain ⟨i, hi, rfl, H1, HK⟩ := hrel
    have hnb : n ≤ 1048576 := by rw [Hnr.out]; exact Hrl.out
    by_cases hlt : i < n
    · have hir : i < r.length := by rw [← Hnr.out]; exact hlt
      obtain ⟨gb, go, rfl, -, kx⟩ := (HR.out wr HK.out.b).at hir
      have hO := one_w base E (l ++ cdN n ++ cdOnes (r.take i)) r[i] wr H1.out (by
        have := cdN_len n
        have := cdOnes_take_len r i
        have := Hrl.out
        simp only [List.length_append]
        omega)
      have e : l ++ cdN n ++ cdOnes (r.take i) ++ cdN (u64Q (r[i] + 1)) = l ++ cdN n ++ cdOnes (r.take (i + 1)) := by rw [cdOnes_more r i hir]; simp
      rw [e] at hO
      obtain ⟨x, hx⟩ : ∃ x, x = r[i] := ⟨_, rfl⟩
      rw [← hx] at kx hO
      clear hx e hir
      go_wp2_with (go_at_call 73; refine hO.mono ?_; rintro e w2 ⟨rfl, h2, k2⟩; have H2 := Lib.hid h2; have HK2 := Lib.hid (HK.out.trans k2); clear h2 k2 hO)
      go_roundw
      case rel => exact ⟨i + 1, by omega, by go_num, H2, HK2⟩
      case measure => simp [intOf]; omega
    · have hin : i = r.length := by rw [← Hnr.out]; omega
      have e : l ++ cdN n ++ cdOnes (r.take i) = l ++ cdRow r := by rw [hin, List.take_length]; unfold cdRow; rw [← Hnr.out, List.append_assoc]
      rw [e] at H1
      clear hin e
      go_wp2_with fail
      try simp only [Exit.inBlock, Exit.then]
      first
        | refine bodyPost_ret (results_none rfl _ _ _) rfl ?_
        | refine bodyPost_end (results_none rfl _ _ _) rfl ?_
      exact ⟨rfl, H1.out, HK.out⟩
end Go.Proofs.Ythjlpbglnnebkaa
