/-
  One word; a line; a list of expressions; its first ones, and the rest.
  A printed list of expressions; two with a sign between them.
  Two with a sign between them; the words of true and false.
-/
import Derived.Test.YtiadbeglhnocoaaGreatDoorJb18
import Derived.Test.YtiadbeglhnocoaaGreatDoorJb38
import Derived.Lib.MinMax
import Derived.Deep.DeepCutAuto
import Derived.Outline
namespace Go.Proofs.YtiadbeglhnocoaaGreatDoor
set_option linter.unusedVariables false
set_option linter.unusedSimpArgs false
open Go.RowKit

theorem PrS.mono {B b : Nat} {l : List UInt8} {w0 w w' : World} {e : Ending} (h : PrS B b l w e w') (h1 : Below B w0 w) (h2 : KeepT w0 w) : PrS B b l w0 e w' := ⟨h.1, h.2.1, h1.trans h.2.2.1, h2.trans h.2.2.2⟩
/-- One word, in a row that was made for it. -/
theorem say1 (B b : Nat) (l : List UInt8) (s : ByteArray) (w : World) (h : IsPr B b (Lib.byteCells l) w) (hlen : l.length + s.data.toList.length ≤ 1099511627776) (hBw : B ≤ w.heap.size) :
    Calls Tryz.prog 46 #[.pointer (some ⟨b, 0, none⟩), .slice (some ⟨w.heap.size, 0, none⟩) 1 1] (w.alloc (.cells #[.string s] 9)) (PrS B b (l ++ s.data.toList) w) := by
  have h0 : Below w.heap.size w (w.alloc (.cells #[.string s] 9)) := (Below.refl _ _).alloc (Nat.le_refl _) _
  have h1 : Below B w (w.alloc (.cells #[.string s] 9)) := h0.mono hBw
  have := sayR_any B b l [s.data.toList] w.heap.size (w.alloc (.cells #[.string s] 9)) (h.alloc _) (heap_alloc_new w _) (by simp) (by simpa using hlen) (by simp; omega)
  refine this.mono (fun _ _ hp => ?_)
  have h3 := hp.mono h1 (KeepT.of_below h0)
  simpa using h3
set_option maxHeartbeats 2000000 in
set_option maxRecDepth 100000 in
theorem line_any (B b : Nat) (l : List UInt8) (d : Nat) (ws : List (List UInt8)) (r : Nat) (w : World) (h : IsPr B b (Lib.byteCells l) w) (hr : w.heap[r]? = some (.cells (ws.map stV).toArray 9 (0, 0))) (hn : ws.length ≤ 100) (hlen : l.length + (lnP d ws).length ≤ 1099511627776) (hBw : B ≤ w.heap.size) :
    Calls Tryz.prog 22 #[.pointer (some ⟨b, 0, none⟩), .int .i64 d, .slice (some ⟨r, 0, none⟩) ws.length ws.length] w (PrS B b (l ++ lnP d ws) w) := by
  have H := Lib.hid h
  have Hr := Lib.hid hr
  have hl2 : l.length + (d + (ws.flatten.length + 1)) ≤ 1099511627776 := by
    unfold lnP at hlen
    simp only [List.length_append, List.length_replicate, List.length_cons, List.length_nil] at hlen
    omega
  obtain ⟨n, hnn⟩ : ∃ n, n = ws.length := ⟨_, rfl⟩
  have Hn := Lib.hid hnn
  rw [← hnn] at hn ⊢
  have hd : (d : Int) ≤ 1099511627776 := by omega
  obtain ⟨fl, hfl⟩ : ∃ fl, fl = ws.flatten := ⟨_, rfl⟩
  have Hfl := Lib.hid hfl
  rw [← hfl] at hl2
  clear h hr hnn hlen hfl
  go_enter Tryz.func22, Tryz.ntmps22
  go_wp2
  go_loopw [7] (fun i wr => ∃ k : Nat, k ≤ d ∧ i = .int .i64 k ∧ Hid (IsPr B b (Lib.byteCells (l ++ List.replicate k 9)) wr ∧ Below B w wr ∧ KeepT w wr)) (fun i _ => d - (intOf i).toNat)
  case atStart => exact ⟨0, Nat.zero_le _, rfl, Lib.hid ⟨by simpa using H.out, Below.refl _ _, KeepT.refl _⟩⟩
  case round =>
    obtain ⟨k, hk, rfl, HR⟩ := hrel
    by_cases hlt : k < d
    · have hS := say1 B b (l ++ List.replicate k 9) ⟨#[9]⟩ wr HR.out.1 (by rw [List.length_append, List.length_replicate]; show _ + 1 ≤ _; omega) (Nat.le_trans hBw HR.out.2.1.size)
      go_wp2_with (go_at_call 46; refine hS.mono ?_; rintro e w1 ⟨rfl, hp, hb, hkp⟩; have HP := Lib.hid (show IsPr B b (Lib.byteCells (l ++ List.replicate (k + 1) 9)) w1 ∧ Below B w w1 ∧ KeepT w w1 from ⟨by rw [List.replicate_succ', ← List.append_assoc]; exact hp, HR.out.2.1.trans hb, HR.out.2.2.trans hkp⟩); clear hp hb hkp hS)
      go_roundw
      case rel => exact ⟨k + 1, by omega, by go_num, HP⟩
      case measure => simp [intOf]; omega
    · obtain rfl : k = d := by omega
      have hz : B ≤ wr.heap.size := Nat.le_trans hBw HR.out.2.1.size
      have hW := sayR_any B b (l ++ List.replicate k 9) ws r wr HR.out.1 (HR.out.2.2 r _ _ _ Hr.out (by decide) (by decide)) (by rw [← Hn.out]; exact hn) (by rw [List.length_append, List.length_replicate, ← Hfl.out]; omega) hz
      rw [← Hn.out, ← Hfl.out] at hW
      have hE := fun w1 (hp : IsPr B b (Lib.byteCells (l ++ List.replicate k 9 ++ fl)) w1) (hz : B ≤ w1.heap.size) => say1 B b (l ++ List.replicate k 9 ++ fl) ⟨#[10]⟩ w1 hp (by simp only [List.length_append, List.length_replicate]; show _ + 1 ≤ _; omega) hz
      clear hlt
      go_wp2_with (first
        | (go_at_call 46; (with_reducible refine hW.mono ?_); rintro e w1 ⟨rfl, hp, hb, hkp⟩; have hE1 := hE w1 hp (Nat.le_trans hz hb.size); have HP := Lib.hid (show Below B w w1 ∧ KeepT w w1 from ⟨HR.out.2.1.trans hb, HR.out.2.2.trans hkp⟩); clear hp hb hkp hW hE)
        | (go_at_call 46; (refine hE1.mono ?_); rintro e w2 ⟨rfl, hp, hb, hkp⟩; have HQ := Lib.hid hp; have HP2 := Lib.hid (show Below B w w2 ∧ KeepT w w2 from ⟨HP.out.1.trans hb, HP.out.2.trans hkp⟩); clear hp hb hkp hE1))
      go_end0
      refine ⟨rfl, ?_, HP2.out.1, HP2.out.2⟩
      unfold lnP
      rw [← Hfl.out, ← List.append_assoc, ← List.append_assoc]
      exact HQ.out
theorem addr_zero (A : Option Addr) : A.map (·.add 0) = A := by
  cases A with
  | none => rfl
  | some a => simp [Addr.add]
/-- 'l[:m]'. -/
theorem take_run {A : Option Addr} {n x : Nat} (m : Nat) (hm : m ≤ n) :
    ∃ A1, (∀ W, (Instr.slice 75 (.slice A n (n + x)) none (some (.int .i64 (m : Int))) none).run Tryz.prog W = .ok (.slice A1 m (n + x)) W) ∧ (0 < m → A1 = A) := by
  refine ⟨if n + x = 0 then A else A.map (·.add 0), fun W => ?_, fun _ => ?_⟩
  · rw [run_slice_h W 75 A n (n + x) (by simp [Program.elem, Tryz.underlying75]) .i64 (m : Int) (by omega) (by omega)]
    go_simp
  · split
    · rfl
    · exact addr_zero A
/-- 'l[k:]'. -/
theorem drop_run {w : World} {S : Nat → Prop} {A : Option Addr} {l : List Ex} {x : Nat} (h : RdEs w S A 0 l) (k : Nat) (hk : k ≤ l.length) :
    ∃ A1 x1, (∀ W, (Instr.slice 75 (.slice A l.length (l.length + x)) (some (.int .i64 (k : Int))) none none).run Tryz.prog W = .ok (.slice A1 (l.length - k) (l.length - k + x1)) W) ∧ RdEs w S A1 0 (l.drop k) := by
  have hrun : ∀ W, (Instr.slice 75 (.slice A l.length (l.length + x)) (some (.int .i64 (k : Int))) none none).run Tryz.prog W = .ok (sliced A k l.length (l.length + x) 7) W := fun W => by
    rw [run_slice_l W 75 A l.length (l.length + x) (by simp [Program.elem, Tryz.underlying75]) .i64 (k : Int) (by omega) (by omega)]
    go_simp
  by_cases hl : l.length = k
  · have hd : l.drop k = [] := by rw [← hl]; simp
    rw [hd]
    obtain ⟨A1, hA1⟩ : ∃ A1, sliced A k l.length (l.length + x) 7 = .slice A1 (l.length - k) (l.length + x - k) := ⟨_, rfl⟩
    rw [show l.length + x - k = l.length - k + x by omega] at hA1
    exact ⟨A1, x, fun W => by rw [hrun, hA1], by unfold RdEs; trivial⟩
  · have h0 : 0 < l.length := by omega
    obtain ⟨e, he⟩ : ∃ e, l[0]? = some e := ⟨_, List.getElem?_eq_getElem h0⟩
    obtain ⟨g, o, rfl, hS, _⟩ := h.at_ he
    refine ⟨some ⟨g, o + k * 7, none⟩, x, fun W => ?_, RdEs.of_all (fun i e he => ?_)⟩
    · rw [hrun]
      unfold sliced
      rw [if_neg (by omega), show l.length + x - k = l.length - k + x by omega]
      congr 2
      simp only [Option.map_some]
      congr 1
      unfold Addr.add
      by_cases hk0 : k = 0
      · subst hk0; simp
      · simp; omega
    · rw [List.getElem?_drop] at he
      obtain ⟨g', o', hA, hS', hE⟩ := h.at_ he
      injection hA with hA
      injection hA with h1 h2 h3
      subst h1 h2
      refine ⟨g, o + k * 7, rfl, hS, hE.cells (fun j hj => ?_)⟩
      rw [show o + k * 7 + (0 + i) * 7 + j = o + (0 + (k + i)) * 7 + j by omega]
set_option maxRecDepth 100000 in
set_option maxHeartbeats 2000000 in
theorem upTo_any (A : Option Addr) (n x : Nat) (hn : n ≤ 1099511627776) (w : World) :
    Calls Tryz.prog 102 #[.slice A n (n + x), .int .i64 1] w fun e w' => (∃ A1, e = .returned (.slice A1 (min 1 n) (n + x)) ∧ (0 < n → A1 = A)) ∧ w = w' := by
  obtain ⟨p, hp⟩ : ∃ p, p = min 1 n := ⟨_, rfl⟩
  obtain ⟨A1, hrun, hA⟩ := take_run (A := A) (n := n) (x := x) p (by omega)
  have hmin : min (1 : Int) (n : Int) = (p : Int) := by omega
  have Hp := Lib.hid (show (0 < n → 0 < p) ∧ p = min 1 n from ⟨by omega, hp⟩)
  clear hp
  go_enter Tryz.func102, Tryz.ntmps102
  go_wp2
  go_ret
  rw [← Hp.out.2]
  exact ⟨⟨A1, rfl, fun h => hA (Hp.out.1 h)⟩, rfl⟩
set_option maxRecDepth 100000 in
set_option maxHeartbeats 2000000 in
theorem from_any (S : Nat → Prop) (A : Option Addr) (l : List Ex) (x : Nat) (hn : l.length ≤ 1099511627776) (w w0 : World) (h : RdEs w0 S A 0 l) :
    Calls Tryz.prog 104 #[.slice A l.length (l.length + x), .int .i64 1] w fun e w' => (∃ A1 x1, e = .returned (.slice A1 (l.drop 1).length ((l.drop 1).length + x1)) ∧ RdEs w0 S A1 0 (l.drop 1)) ∧ w = w' := by
  obtain ⟨p, hp⟩ : ∃ p, p = min 1 l.length := ⟨_, rfl⟩
  obtain ⟨A1, x1, hrun, hR⟩ := drop_run (x := x) h p (by omega)
  have hmin : min (1 : Int) (l.length : Int) = (p : Int) := by omega
  have hdp : l.drop p = l.drop 1 := by
    cases l with
    | nil => simp
    | cons a r => simp at hp; rw [hp]
  have hlp : l.length - p = (l.drop 1).length := by simp; omega
  rw [hdp] at hR
  rw [hlp] at hrun
  obtain ⟨m, hm⟩ : ∃ m, m = (l.drop 1).length := ⟨_, rfl⟩
  obtain ⟨n, hn2⟩ : ∃ n, n = l.length := ⟨_, rfl⟩
  rw [← hm] at hrun ⊢
  rw [← hn2] at hrun hmin hn ⊢
  have HR := Lib.hid hR
  clear hp hdp hlp hm hn2 h hR
  go_enter Tryz.func104, Tryz.ntmps104
  go_wp2
  go_ret
  exact ⟨⟨A1, x1, rfl, HR.out⟩, rfl⟩
end Go.Proofs.YtiadbeglhnocoaaGreatDoor
namespace Go.Proofs.YtiadbeglhnocoaaGreatDoor
set_option linter.unusedVariables false
set_option linter.unusedSimpArgs false
open Go.RowKit

theorem t0_cells7 {w : World} {b : Nat} {v0 v1 v2 v3 v4 v5 v6 : Value} {T : TypeId} (h : w.heap[b]? = some (.cells #[v0, v1, v2, v3, v4, v5, v6] T (0, 0))) : w.cell? ⟨b, 0, none⟩ = some v0 ∧ w.cell? ⟨b, 1, none⟩ = some v1 ∧ w.cell? ⟨b, 2, none⟩ = some v2 ∧ w.cell? ⟨b, 3, none⟩ = some v3 ∧ w.cell? ⟨b, 4, none⟩ = some v4 ∧ w.cell? ⟨b, 5, none⟩ = some v5 ∧ w.cell? ⟨b, 6, none⟩ = some v6 ∧ ∀ j, w.frozen? ⟨b, j, none⟩ = false :=
  ⟨Lib.cell_of_heap h 0, Lib.cell_of_heap h 1, Lib.cell_of_heap h 2, Lib.cell_of_heap h 3, Lib.cell_of_heap h 4, Lib.cell_of_heap h 5, Lib.cell_of_heap h 6, fun j => Lib.frozen_of_heap h j⟩
theorem t_one_al (w : World) (x : Array Value) (T : TypeId) : ∃ W, W = w.alloc (.cells x T) ∧ Below w.heap.size w W ∧ W.heap.size = w.heap.size + 1 ∧ W.heap[w.heap.size]? = some (.cells x T (0, 0)) :=
  ⟨_, rfl, (Below.refl _ _).alloc (Nat.le_refl _) _, by simp, heap_alloc_new w _⟩
/-- An expression is printed so. -/
def ExPr (e : Ex) : Prop := ∀ (B b : Nat) (l : List UInt8) (K : Option Addr) (c : Nat) (k a t o n : Int) (s : ByteArray) (kids : List Ex), e = .mk k a t o n s kids → ∀ w : World, IsPr B b (Lib.byteCells l) w → RdEs w (· < B) K 0 kids → l.length + (prE e).length ≤ 1099511627776 → kids.length ≤ 1099511627776 → B ≤ w.heap.size →
  Calls Tryz.prog 92 #[.pointer (some ⟨b, 0, none⟩), .agg #[.int .i64 k, .int .i64 a, .int .i64 t, .int .i64 o, .int .i64 n, .string s, .slice K kids.length (kids.length + c)]] w (PrS B b (l ++ prE e) w)
mutual
/-- No expression has more kids than there are numbers. -/
def smallE : Ex → Prop
  | .mk _ _ _ _ _ _ kids => kids.length ≤ 1099511627776 ∧ smallEs kids
def smallEs : List Ex → Prop
  | [] => True
  | e :: r => smallE e ∧ smallEs r
end
theorem smallEs_mem {l : List Ex} (h : smallEs l) : ∀ e ∈ l, smallE e := by
  induction l with
  | nil => intro e he; simp at he
  | cons x r ih =>
    intro e he
    unfold smallEs at h
    rcases List.mem_cons.mp he with rfl | he
    · exact h.1
    · exact ih h.2 e he
theorem jn_take (ks : List (List UInt8)) (k : Nat) (hk : k < ks.length) : jn (ks.take (k + 1)) = jn (ks.take k) ++ ((if k = 0 then [] else [44, 32]) ++ ks[k]) := by
  rw [List.take_succ_eq_append_getElem hk, jn_snoc]
  cases k with
  | zero => simp [jn]
  | succ k =>
    rw [if_neg (by intro h; have := congrArg List.length h; rw [List.length_take, List.length_nil] at this; omega), if_neg (by omega)]
theorem jn_take_le (ks : List (List UInt8)) (k : Nat) : (jn (ks.take k)).length ≤ (jn ks).length := by
  induction k with
  | zero => simp [jn]
  | succ k ih =>
    by_cases hk : k < ks.length
    · -- by the whole list
      have h : ∀ m, k + 1 + m ≤ ks.length → (jn (ks.take (k + 1))).length ≤ (jn (ks.take (k + 1 + m))).length := fun m => by
        induction m with
        | zero => intro _; exact Nat.le_refl _
        | succ m ihm =>
          intro hm
          have h1 := ihm (by omega)
          have h2 := jn_take ks (k + 1 + m) (by omega)
          rw [show k + 1 + (m + 1) = k + 1 + m + 1 by omega, h2, List.length_append]
          omega
      have := h (ks.length - (k + 1)) (by omega)
      rw [show k + 1 + (ks.length - (k + 1)) = ks.length by omega, List.take_length] at this
      exact this
    · rw [List.take_of_length_le (by omega)]
      exact Nat.le_refl _
set_option maxRecDepth 100000 in
set_option maxHeartbeats 8000000 in
theorem list_any (B b : Nat) (l : List UInt8) (o c : ByteArray) (A : Option Addr) (kids : List Ex) (x : Nat) (w : World) (h : IsPr B b (Lib.byteCells l) w) (hK : RdEs w (· < B) A 0 kids) (hS : smallEs kids) (HE : ∀ e ∈ kids, ExPr e) (hn : kids.length ≤ 1099511627776)
    (hlen : l.length + (lsP o.data.toList (prEs kids) c.data.toList).length ≤ 1099511627776) (hBw : B ≤ w.heap.size) :
    Calls Tryz.prog 100 #[.pointer (some ⟨b, 0, none⟩), .string o, .slice A kids.length x, .string c] w (PrS B b (l ++ lsP o.data.toList (prEs kids) c.data.toList) w) := by
  have hl2 : l.length + (o.data.toList.length + (jn (prEs kids)).length + c.data.toList.length) ≤ 1099511627776 := by
    unfold lsP at hlen
    simp only [List.length_append] at hlen ⊢
    omega
  have hO := say1 B b l o w h (by omega) hBw
  have HK := Lib.hid hK
  have HHE := Lib.hid HE
  have HS := Lib.hid hS
  obtain ⟨n, hnn⟩ : ∃ n, n = kids.length := ⟨_, rfl⟩
  have Hn := Lib.hid hnn
  rw [← hnn] at hn ⊢
  obtain ⟨lo, hlo⟩ : ∃ lo, lo = l ++ o.data.toList := ⟨_, rfl⟩
  have Hlo := Lib.hid hlo
  have hll : lo.length + ((jn (prEs kids)).length + c.data.toList.length) ≤ 1099511627776 := by rw [hlo, List.length_append]; omega
  have Hll := Lib.hid hll
  rw [← hlo] at hO
  have hlc : lo.length ≤ 1099511627776 := by omega
  clear h hK hS HE hnn hlo hlen hl2 hll
  go_enter Tryz.func100, Tryz.ntmps100
  go_wp2_with (go_at_call 46; refine hO.mono ?_; rintro e w1 ⟨rfl, hp, hb, hkp⟩; have HP := Lib.hid (show IsPr B b (Lib.byteCells lo) w1 ∧ Below B w w1 ∧ KeepT w w1 from ⟨hp, hb, hkp⟩); clear hp hb hkp hO)
  go_loopw [16] (fun i wr => ∃ k : Nat, k ≤ n ∧ i = .int .i64 k ∧ Hid (IsPr B b (Lib.byteCells (lo ++ jn ((prEs kids).take k))) wr ∧ Below B w wr ∧ KeepT w wr)) (fun i _ => n - (intOf i).toNat)
  case atStart => exact ⟨0, Nat.zero_le _, rfl, Lib.hid (by simpa [jn] using HP.out)⟩
  case round =>
    obtain ⟨k, hk, rfl, HR⟩ := hrel
    clear HP
    have hz : B ≤ wr.heap.size := Nat.le_trans hBw HR.out.2.1.size
    by_cases hlt : k < n
    · have hkl : k < kids.length := by rw [← Hn.out]; exact hlt
      obtain ⟨e, he⟩ : ∃ e, kids[k]? = some e := ⟨_, List.getElem?_eq_getElem hkl⟩
      have heq : kids[k] = e := by rw [List.getElem?_eq_getElem hkl] at he; exact Option.some.inj he
      have hmem : e ∈ kids := List.mem_of_getElem? he
      obtain ⟨g, q, rfl, hg, hE⟩ := HK.out.at_ he
      have hEp := HHE.out e hmem
      have hsm := smallEs_mem HS.out e hmem
      have hjt := jn_take (prEs kids) k (by rw [prEs_map, List.length_map]; exact hkl)
      have hjl := jn_take_le (prEs kids) (k + 1)
      have hpk : (prEs kids)[k]'(by rw [prEs_map, List.length_map]; exact hkl) = prE e := by simp only [prEs_map, List.getElem_map, heq]
      rw [hpk] at hjt
      obtain ⟨ek, ea, et, eo, en, es, ekids⟩ := e
      unfold RdE at hE
      obtain ⟨x0, x1, x2, x3, x4, x5, EK, ec, x6, hEK⟩ := hE
      rw [Nat.zero_add] at x0 x1 x2 x3 x4 x5 x6
      have up : ∀ j u, w.cell? ⟨g, j, none⟩ = some u → wr.cell? ⟨g, j, none⟩ = some u := fun j u e => (HR.out.2.1.cell (p := ⟨g, j, none⟩) hg).trans e
      replace x0 := up _ _ x0
      replace x1 := up _ _ x1
      replace x2 := up _ _ x2
      replace x3 := up _ _ x3
      replace x4 := up _ _ x4
      replace x5 := up _ _ x5
      replace x6 := up _ _ x6
      rw [Nat.add_zero] at x0
      have hEK2 := Lib.hid hEK
      unfold smallE at hsm
      have hX := fun w2 l2 (hp : IsPr B b (Lib.byteCells l2) w2) (hb2 : Below B w w2) (hl2 : l2.length + (prE (.mk ek ea et eo en es ekids)).length ≤ 1099511627776) => hEp B b l2 EK ec ek ea et eo en es ekids rfl w2 hp (RdEs.keep (w' := w2) (fun p hp => hb2.cell hp) _ _ _ hEK) hl2 hsm.1 (Nat.le_trans hBw hb2.size)
      obtain ⟨pe, hpe⟩ : ∃ pe, pe = prE (.mk ek ea et eo en es ekids) := ⟨_, rfl⟩
      rw [← hpe] at hX hjt
      have Hjt := Lib.hid hjt
      have Hpe := Lib.hid hpe
      have hjl2 : lo.length + ((jn ((prEs kids).take k)).length + ((if k = 0 then ([] : List UInt8) else [44, 32]).length + pe.length)) ≤ 1099511627776 := by
        have := Hll.out
        rw [hjt] at hjl
        simp only [List.length_append] at hjl
        omega
      clear he heq hmem hEp hsm hjt hjl hpk hpe hEK up
      obtain ⟨wb, hwb, hbb, hzb, hcb⟩ := t_one_al wr #[.int .i64 ek, .int .i64 ea, .int .i64 et, .int .i64 eo, .int .i64 en, .string es, .slice EK ekids.length (ekids.length + ec)] 96
      have hpb := HR.out.1.below hbb
      have hbbB : Below B w wb := HR.out.2.1.trans (hbb.mono hz)
      have hkb : KeepT w wb := HR.out.2.2.trans (KeepT.of_below hbb)
      by_cases hk0 : k = 0
      · subst hk0
        rw [Nat.zero_mul, Nat.add_zero] at x0 x1 x2 x3 x4 x5 x6
        have hX1 := hX wb _ hpb hbbB (by simp only [List.length_append]; simp only [if_true, List.length_nil] at hjl2; omega)
        obtain ⟨y0, y1, y2, y3, y4, y5, y6, yf⟩ := t0_cells7 hcb
        have HB2 := Lib.hid (show Below B w wb ∧ KeepT w wb from ⟨hbbB, hkb⟩)
        clear hX hpb hbbB hkb hcb hbb hzb hjl2
        go_upto_region 4 with fail
        rw [← hwb]
        clear hwb x0 x1 x2 x3 x4 x5 x6
        go_wp2_with (go_at_call 92; refine hX1.mono ?_; rintro e w2 ⟨rfl, hp, hb, hkp⟩; have HP := Lib.hid (show IsPr B b (Lib.byteCells (lo ++ jn ((prEs kids).take 1))) w2 ∧ Below B w w2 ∧ KeepT w w2 from ⟨by rw [Hjt.out]; simpa using hp, HB2.out.1.trans hb, HB2.out.2.trans hkp⟩); clear hp hb hkp hX1)
        go_roundw
        case rel => exact ⟨1, by omega, by go_num, HP⟩
        case measure => simp [intOf]; omega
      · have hC := say1 B b (lo ++ jn ((prEs kids).take k)) ⟨#[44, 32]⟩ wb hpb (by rw [List.length_append]; rw [if_neg hk0] at hjl2; show _ + 2 ≤ _; simp at hjl2; omega) (by omega)
        have hkp0 : 0 < k := by omega
        have hdk : decide ((0 : Int) < (k : Int)) = true := by simp; omega
        have Hb2 := Lib.hid (show Below B w wb ∧ KeepT w wb from ⟨hbbB, hkb⟩)
        have Hcb := Lib.hid hcb
        rw [if_neg hk0] at hjl2
        have hj3 : (lo ++ jn ((prEs kids).take k) ++ (⟨#[44, 32]⟩ : ByteArray).data.toList).length + pe.length ≤ 1099511627776 := by
          simp only [List.length_append]
          show _ + 2 + _ ≤ _
          simp at hjl2
          omega
        clear hpb hbbB hkb hcb hbb hzb hjl2
        go_upto_region 4 with fail
        rw [← hwb]
        clear hwb x0 x1 x2 x3 x4 x5 x6
        go_wp2_with (first
          | (go_at_call 46; refine hC.mono ?_; rintro e w2 ⟨rfl, hp, hb, hkp⟩; have hX1 := hX w2 _ hp (Hb2.out.1.trans hb) hj3; obtain ⟨y0, y1, y2, y3, y4, y5, y6, yf⟩ := t0_cells7 (hkp _ _ _ _ Hcb.out (by decide) (by decide)); have HB3 := Lib.hid (show Below B w w2 ∧ KeepT w w2 from ⟨Hb2.out.1.trans hb, Hb2.out.2.trans hkp⟩); clear hp hb hkp hC hX)
          | (go_at_call 92; refine hX1.mono ?_; rintro e w3 ⟨rfl, hp, hb, hkp⟩; have HP := Lib.hid (show IsPr B b (Lib.byteCells (lo ++ jn ((prEs kids).take (k + 1)))) w3 ∧ Below B w w3 ∧ KeepT w w3 from ⟨by rw [Hjt.out, if_neg hk0, ← List.append_assoc, ← List.append_assoc]; exact hp, HB3.out.1.trans hb, HB3.out.2.trans hkp⟩); clear hp hb hkp hX1))
        go_roundw
        case rel => exact ⟨k + 1, by omega, by go_num, HP⟩
        case measure => simp [intOf]; omega
    · obtain rfl : k = n := by omega
      have hend : (prEs kids).take k = prEs kids := List.take_of_length_le (by rw [prEs_map, List.length_map, Hn.out]; exact Nat.le_refl _)
      have hR := HR.out
      rw [hend] at hR
      have hC := say1 B b (lo ++ jn (prEs kids)) c wr hR.1 (by rw [List.length_append]; have := Hll.out; omega) hz
      have HR2 := Lib.hid hR
      clear hend hR hlt HR
      go_wp2_with (go_at_call 46; refine hC.mono ?_; rintro e w2 ⟨rfl, hp, hb, hkp⟩; have HQ := Lib.hid hp; have HB2 := Lib.hid (show Below B w w2 ∧ KeepT w w2 from ⟨HR2.out.2.1.trans hb, HR2.out.2.2.trans hkp⟩); clear hp hb hkp hC)
      go_end0
      refine ⟨rfl, ?_, HB2.out.1, HB2.out.2⟩
      unfold lsP
      rw [← List.append_assoc, ← List.append_assoc, ← Hlo.out]
      exact HQ.out
end Go.Proofs.YtiadbeglhnocoaaGreatDoor
namespace Go.Proofs.YtiadbeglhnocoaaGreatDoor
set_option linter.unusedVariables false
set_option linter.unusedSimpArgs false
open Go.RowKit

theorem RdEs.take {w : World} {S : Nat → Prop} {A : Option Addr} {l : List Ex} (h : RdEs w S A 0 l) (m : Nat) : RdEs w S A 0 (l.take m) :=
  RdEs.of_all (fun i e he => by
    rw [List.getElem?_take] at he
    split at he
    · exact h.at_ he
    · simp at he)
/-- The first one, if there is one. -/
theorem first_of {w : World} {S : Nat → Prop} {A A1 : Option Addr} {l : List Ex} (h : RdEs w S A 0 l) (hA : 0 < l.length → A1 = A) : RdEs w S A1 0 (l.take 1) := by
  cases l with
  | nil => unfold RdEs; trivial
  | cons a r => rw [hA (by simp)]; exact h.take 1
theorem smallEs_sub {l r : List Ex} (h : smallEs l) (hs : ∀ e ∈ r, e ∈ l) : smallEs r := by
  induction r with
  | nil => unfold smallEs; trivial
  | cons x r ih =>
    unfold smallEs
    exact ⟨smallEs_mem h x (hs x (by simp)), ih (fun e he => hs e (by simp [he]))⟩
theorem prEs_take (l : List Ex) (m : Nat) : prEs (l.take m) = (prEs l).take m := by rw [prEs_map, prEs_map, List.map_take]
theorem prEs_drop (l : List Ex) (m : Nat) : prEs (l.drop m) = (prEs l).drop m := by rw [prEs_map, prEs_map, List.map_drop]
theorem app_bytes (a b : ByteArray) : (a ++ b).data.toList = a.data.toList ++ b.data.toList := by simp
set_option maxRecDepth 100000 in
set_option maxHeartbeats 8000000 in
theorem pair_any (B b : Nat) (l : List UInt8) (A : Option Addr) (kids : List Ex) (x : Nat) (sg : ByteArray) (hsg : sg.size ≤ 100) (w : World) (h : IsPr B b (Lib.byteCells l) w) (hK : RdEs w (· < B) A 0 kids) (hS : smallEs kids) (HE : ∀ e ∈ kids, ExPr e) (hn : kids.length ≤ 1099511627776)
    (hlen : l.length + (pairP (prEs kids) sg.data.toList).length ≤ 1099511627776) (hBw : B ≤ w.heap.size) :
    Calls Tryz.prog 103 #[.pointer (some ⟨b, 0, none⟩), .slice A kids.length (kids.length + x), .string sg] w (PrS B b (l ++ pairP (prEs kids) sg.data.toList) w) := by
  obtain ⟨p1, hp1⟩ : ∃ p1, p1 = lsP ([40] : List UInt8) ((prEs kids).take 1) ([32] ++ sg.data.toList ++ [32]) := ⟨_, rfl⟩
  obtain ⟨p2, hp2⟩ : ∃ p2, p2 = lsP ([] : List UInt8) (((prEs kids).drop 1).take 1) [41] := ⟨_, rfl⟩
  have hpp : pairP (prEs kids) sg.data.toList = p1 ++ p2 := by rw [hp1, hp2]; rfl
  rw [hpp] at hlen ⊢
  rw [List.length_append] at hlen
  have hU := upTo_any A kids.length x hn
  have hF := fun w' => from_any (· < B) A kids x hn w' w hK
  have hL1 := fun A1 (hA : 0 < kids.length → A1 = A) => list_any B b l ⟨#[40]⟩ (⟨#[32]⟩ ++ sg ++ ⟨#[32]⟩) A1 (kids.take 1) (kids.length + x) w h (first_of hK hA) (smallEs_sub hS (fun e he => List.mem_of_mem_take he)) (fun e he => HE e (List.mem_of_mem_take he)) (by rw [List.length_take]; omega)
    (by rw [app_bytes, app_bytes, prEs_take]; show l.length + (lsP [40] _ ([32] ++ _ ++ [32])).length ≤ _; rw [← hp1]; omega) hBw
  rw [app_bytes, app_bytes, prEs_take] at hL1
  have hL1' : ∀ A1, (0 < kids.length → A1 = A) → Calls Tryz.prog 100 #[.pointer (some ⟨b, 0, none⟩), .string ⟨#[40]⟩, .slice A1 (kids.take 1).length (kids.length + x), .string (⟨#[32]⟩ ++ sg ++ ⟨#[32]⟩)] w (PrS B b (l ++ p1) w) := fun A1 hA => by rw [hp1]; exact hL1 A1 hA
  have hlt : (kids.take 1).length = min 1 kids.length := by rw [List.length_take]
  rw [hlt] at hL1'
  have hL2 := fun A1 x1 w1 (hp : IsPr B b (Lib.byteCells (l ++ p1)) w1) (hb : Below B w w1) (hR : RdEs w (· < B) A1 0 ((kids.drop 1).take 1)) => list_any B b (l ++ p1) ⟨#[]⟩ ⟨#[41]⟩ A1 ((kids.drop 1).take 1) x1 w1 hp (RdEs.keep (w' := w1) (fun q hq => hb.cell hq) _ _ _ hR) (smallEs_sub hS (fun e he => List.mem_of_mem_drop (List.mem_of_mem_take he))) (fun e he => HE e (List.mem_of_mem_drop (List.mem_of_mem_take he))) (by rw [List.length_take]; omega)
    (by rw [prEs_take, prEs_drop, List.length_append]; show _ + (lsP [] _ [41]).length ≤ _; rw [← hp2]; omega) (Nat.le_trans hBw hb.size)
  rw [prEs_take, prEs_drop] at hL2
  have hL2' : ∀ A1 x1 w1, IsPr B b (Lib.byteCells (l ++ p1)) w1 → Below B w w1 → RdEs w (· < B) A1 0 ((kids.drop 1).take 1) → Calls Tryz.prog 100 #[.pointer (some ⟨b, 0, none⟩), .string ⟨#[]⟩, .slice A1 (min 1 (kids.drop 1).length) x1, .string ⟨#[41]⟩] w1 (PrS B b (l ++ p1 ++ p2) w1) := fun A1 x1 w1 hp hb hR => by
    have := hL2 A1 x1 w1 hp hb hR
    rw [List.length_take] at this
    rw [hp2]; exact this
  obtain ⟨m, hm⟩ : ∃ m, m = (kids.drop 1).length := ⟨_, rfl⟩
  have hm2 : m ≤ 1099511627776 := by rw [hm, List.length_drop]; omega
  have hU2 := fun (A : Option Addr) (x : Nat) => upTo_any A m x hm2
  have Hm := Lib.hid hm
  obtain ⟨n, hnn⟩ : ∃ n, n = kids.length := ⟨_, rfl⟩
  rw [← hm] at hL2' hF
  rw [← hnn] at hL1' hU hF ⊢
  have HF := Lib.hid hF
  have HL2 := Lib.hid hL2'
  clear hL1 hL2 hpp hp1 hp2 hlen hlt h hK hS HE hn hm hnn hF hL2'
  go_enter Tryz.func103, Tryz.ntmps103
  go_wp2_with (first
    | (go_at_call 102; (with_reducible refine (hU _).mono ?_); rintro e w' ⟨⟨A1, rfl, hA⟩, rfl⟩; have hLA := hL1' A1 hA; clear hA hL1' hU)
    | (go_at_call 100; (with_reducible refine hLA.mono ?_); rintro e w1 ⟨rfl, hp, hb, hkp⟩; have HP := Lib.hid hp; have HB := Lib.hid (And.intro hb hkp); clear hp hb hkp hLA)
    | (go_at_call 104; refine (HF.out _).mono ?_; rintro e w' ⟨⟨A2, x2, rfl, hR2⟩, rfl⟩; have hU3 := hU2 A2 x2; have HR2 := Lib.hid hR2; clear hR2 HF hU2)
    | (go_at_call 102; (with_reducible refine (hU3 _).mono ?_); rintro e w' ⟨⟨A3, rfl, hA3⟩, rfl⟩; have hLB := HL2.out A3 (m + x2) w1 HP.out HB.out.1 (first_of HR2.out (by rw [← Hm.out]; exact hA3)); clear hA3 hU3 HL2)
    | (go_at_call 100; (with_reducible refine hLB.mono ?_); rintro e w2 ⟨rfl, hp, hb, hkp⟩; have HQ := Lib.hid hp; have HB2 := Lib.hid (And.intro (HB.out.1.trans hb) (HB.out.2.trans hkp)); clear hp hb hkp hLB))
  go_end0
  refine ⟨rfl, ?_, HB2.out.1, HB2.out.2⟩
  rw [← List.append_assoc]
  exact HQ.out
set_option maxHeartbeats 2000000 in
theorem truth_any (n : Int) (w : World) : Calls Tryz.prog 99 #[.int .i64 n] w fun e w' => e = .returned (.string ⟨(truthB n).toArray⟩) ∧ w = w' := by
  unfold truthB
  by_cases h : n = 0
  · have hb : (n == 0) = true := by simp [h]
    rw [if_pos h]
    clear h
    go_enter Tryz.func99, Tryz.ntmps99
    go_wp2
    go_ret
    exact ⟨rfl, rfl⟩
  · have hb : (n == 0) = false := by simpa using h
    rw [if_neg h]
    clear h
    go_enter Tryz.func99, Tryz.ntmps99
    go_wp2
    go_ret
    exact ⟨rfl, rfl⟩
end Go.Proofs.YtiadbeglhnocoaaGreatDoor
