/-
  A function that comes in, opened: its rows as they lie, and how great they are together.
-/
import Derived.Test.YtglobeajmdieaaaDoorIpJ
import Derived.Test.YtglobeajmdieaaaDoorRows
import Derived.OpenShut
import Derived.ChangeSame
import Derived.ProofKit
import Derived.ChangeSlices
namespace Go.Proofs.YtglobeajmdieaaaDoor
open Go.RowKit Go.ChangeShapes Go.WideShapes Go.ChangeAt
set_option linter.unusedVariables false
set_option linter.unusedSimpArgs false

theorem ip_add (g o k : Nat) : (⟨g, o, none⟩ : Addr).add k = ⟨g, o + k, none⟩ := by
  unfold Addr.add
  by_cases h : k = 0 <;> simp [h]
theorem ip_lt {w : World} {a : Addr} {v : Value} (h : w.cell? a = some v) : a.block < w.heap.size := by
  unfold World.cell? at h
  split at h <;> simp_all
  all_goals (rcases Nat.lt_or_ge a.block w.heap.size with h' | h'; exact h'; simp_all)
theorem ip_block {w : World} {a : Addr} {v : Value} (h : w.cell? a = some v) : ∃ ob, w.heap[a.block]? = some ob := by
  have := ip_lt h
  exact ⟨_, Array.getElem?_eq_getElem this⟩
theorem inR_wf {n : Int} (h : (Lit.int .i64 n).wf = true) : InR n := by
  unfold Lit.wf at h
  rw [Bool.and_eq_true] at h
  exact ⟨of_decide_eq_true h.1, of_decide_eq_true h.2⟩
theorem pick_list {α : Type} (p : Nat → α → Prop) : ∀ n, (∀ i, i < n → ∃ a, p i a) → ∃ l : List α, l.length = n ∧ ∀ i a, l[i]? = some a → p i a
  | 0, _ => ⟨[], rfl, fun i a h => by cases h⟩
  | n + 1, h => by
    obtain ⟨l, hl, hp⟩ := pick_list p n fun i hi => h i (by omega)
    obtain ⟨a, ha⟩ := h n (by omega)
    refine ⟨l ++ [a], by simp [hl], fun i b hb => ?_⟩
    rcases Nat.lt_or_ge i n with hi | hi
    · rw [List.getElem?_append_left (by omega)] at hb
      exact hp i b hb
    · rw [List.getElem?_append_right (by omega)] at hb
      have : i - l.length = 0 := by
        rcases Nat.lt_or_ge (i - l.length) 1 with h' | h'
        · omega
        · rw [List.getElem?_eq_none (by simpa using h')] at hb; cases hb
      rw [this] at hb
      injection hb with hb
      subst hb
      have : i = n := by omega
      rw [this]; exact ha

theorem bulk_one {H : Type} (d : DataW H) : 1 ≤ Rows.uptoBulk d := by
  cases d with
  | lit l => cases l <;> simp [Rows.uptoBulk]
  | nil => simp [Rows.uptoBulk]
  | ptr d => simp [Rows.uptoBulk]
  | slice elems spare => simp [Rows.uptoBulk]
  | agg parts => simp [Rows.uptoBulk]
  | iface t d => simp [Rows.uptoBulk]
  | map entries => simp [Rows.uptoBulk]
  | held h => simp [Rows.uptoBulk]
theorem bulk_len {H : Type} : ∀ l : List (DataW H), l.length ≤ Rows.uptoBulkAll l
  | [] => by simp [Rows.uptoBulkAll]
  | d :: r => by have := bulk_one d; have := bulk_len r; simp only [Rows.uptoBulkAll, List.length_cons]; omega
theorem bulk_get {H : Type} : ∀ (l : List (DataW H)) (i : Nat) (d : DataW H), l[i]? = some d → Rows.uptoBulk d ≤ Rows.uptoBulkAll l
  | [], i, d, h => by cases h
  | x :: r, 0, d, h => by injection h with h; subst h; simp only [Rows.uptoBulkAll]; omega
  | x :: r, i + 1, d, h => by have := bulk_get r i d h; simp only [Rows.uptoBulkAll]; omega
/-- What is so of each part is so of the sum. -/
theorem bulk_sum {H : Type} {α : Type} (f : α → Nat) : ∀ (al : List α) (ds : List (DataW H)), al.length = ds.length → (∀ (i : Nat) a d, al[i]? = some a → ds[i]? = some d → f a ≤ Rows.uptoBulk d) → (al.map f).sum ≤ Rows.uptoBulkAll ds
  | [], [], _, _ => by simp [Rows.uptoBulkAll]
  | a :: al, d :: ds, h, hp => by
    have h1 := hp 0 a d rfl rfl
    have h2 := bulk_sum f al ds (by simpa using h) fun i x y hx hy => hp (i + 1) x y hx hy
    simp only [List.map_cons, List.sum_cons, Rows.uptoBulkAll]; omega
  | [], d :: ds, h, _ => by simp at h
  | a :: al, [], h, _ => by simp at h

section
variable {H : Type} {enc : TypeId × Value → H} {w : World} {fuel : Nat} {cs : List Value} {x : DataW H × List MemPlace}
theorem open_rdn (h : DataW.trod enc Tryd.prog w 0 (fun _ => true) true fuel 22 cs = some x) :
    ∃ (A : Option Addr) (n c : Nat) (l : List Int), cs = [.slice A n c] ∧ n ≤ c ∧ RdN w.heap.size w (.slice A n c) l ∧ (∀ y ∈ l, InR y) ∧ l.length + 1 ≤ Rows.uptoBulk x.1 := by
  rcases open_ints Tryd.underlying22 Tryd.underlying3 (by kernel_rfl) h with ⟨h0, hx⟩ | ⟨a, len, cap, zs, hcs, hb, hl, hm, hzl, hx, hc, hw⟩
  · exact ⟨none, 0, 0, [], h0, by omega, ⟨none, 0, rfl, fun h => by simp at h⟩, (fun y hy => by cases hy), by rw [hx]; simp [Rows.uptoBulk]⟩
  · simp only [if_true] at hzl
    have hll : (zs.take len).length = len := by rw [List.length_take]; omega
    refine ⟨some a, len, cap, zs.take len, hcs, hl, ⟨some a, cap, by rw [hll], fun hp => ?_⟩, fun y hy => inR_wf (hw y (List.mem_of_mem_take hy)), ?_⟩
    · rw [hll] at hp
      have c0 := hc 0 (by omega)
      have hs : a.spot = none := World.cell?_spot (a := a) (by simpa [Addr.add] using c0)
      obtain ⟨g, o, sp⟩ := a
      simp only at hs
      subst hs
      rw [ip_add] at c0
      obtain ⟨ob, hob⟩ := ip_block c0
      refine ⟨g, o, ob, rfl, hob, .inl (ip_lt c0), fun j y hy => ?_⟩
      rw [List.getElem?_take] at hy
      split at hy
      · have h1 := (List.getElem?_eq_some_iff.1 hy).1
        have := hc j h1
        rw [ip_add] at this
        rw [this]
        simp [List.getD, hy]
      · cases hy
    · rw [hx]
      simp only [Rows.uptoBulk]
      have h1 := bulk_len (lits (H := H) IntKind.i64 (zs.take len))
      have h2 : (lits (H := H) IntKind.i64 (zs.take len)).length = len := by simp [lits]; omega
      omega
theorem open_i (h : DataW.trod enc Tryd.prog w 0 (fun _ => true) true fuel 3 cs = some x) : ∃ n, cs = [.int .i64 n] ∧ InR n := by
  obtain ⟨n, h1, _, h2⟩ := DataW.trod_int Tryd.underlying3 h
  exact ⟨n, h1, inR_wf h2⟩
theorem open_l (h : DataW.trod enc Tryd.prog w 0 (fun _ => true) true fuel 2 cs = some x) : ∃ n, cs = [.int .i64 n] ∧ InR n := by
  obtain ⟨n, h1, _, h2⟩ := DataW.trod_int Tryd.underlying2 h
  exact ⟨n, h1, inR_wf h2⟩
theorem cel_i : Tryd.prog.cellsOf 3 = 1 := by kernel_rfl
theorem cel_l : Tryd.prog.cellsOf 2 = 1 := by kernel_rfl
theorem cel_s : Tryd.prog.cellsOf 9 = 1 := by kernel_rfl
theorem cel_I : Tryd.prog.cellsOf 22 = 1 := by kernel_rfl
theorem cel_X : Tryd.prog.cellsOf 23 = 1 := by kernel_rfl
theorem cel_B : Tryd.prog.cellsOf 24 = 1 := by kernel_rfl
theorem cel_5 : Tryd.prog.cellsOf 43 = 5 := by kernel_rfl
theorem cel_b : Tryd.prog.cellsOf 35 = 5 := by kernel_rfl
theorem cel_t : Tryd.prog.cellsOf 32 = 3 := by kernel_rfl
theorem cel_f : Tryd.prog.cellsOf 26 = 5 := by kernel_rfl
theorem list3 {α : Type} {l : List α} (h : l.length = 3) : ∃ a b c, l = [a, b, c] := by
  match l, h with
  | [a, b, c], _ => exact ⟨a, b, c, rfl⟩
theorem list5 {α : Type} {l : List α} (h : l.length = 5) : ∃ a b c d e, l = [a, b, c, d, e] := by
  match l, h with
  | [a, b, c, d, e], _ => exact ⟨a, b, c, d, e, rfl⟩
/-- An instruction. -/
theorem open_ins (h : DataW.trod enc Tryd.prog w 0 (fun _ => true) true fuel 43 cs = some x) :
    ∃ (d : InD) (va : Value), cs = [.int .i64 d.op, .int .i64 d.ty, va, .int .i64 d.n, .int .i64 d.tg] ∧ RdN w.heap.size w va d.args ∧ d.ok ∧ d.args.length ≤ Rows.uptoBulk x.1 := by
  obtain ⟨xs, m, -, hx, hcl, hxl, hf⟩ := DataW.trod_struct Tryd.underlying43 h
  rw [cel_5] at hcl
  obtain ⟨c0, c1, c2, c3, c4, rfl⟩ := list5 hcl
  obtain ⟨y0, y1, y2, y3, y4, rfl⟩ := list5 hxl
  have h0 : DataW.trod enc Tryd.prog w 0 (fun _ => true) true m 3 [c0] = some y0 := by
    have e := hf 0 _ rfl
    simpa [cel_i] using e
  have h1 : DataW.trod enc Tryd.prog w 0 (fun _ => true) true m 3 [c1] = some y1 := by
    have e := hf 1 _ rfl
    simpa [cel_i] using e
  have h2 : DataW.trod enc Tryd.prog w 0 (fun _ => true) true m 22 [c2] = some y2 := by
    have e := hf 2 _ rfl
    simpa [cel_I] using e
  have h3 : DataW.trod enc Tryd.prog w 0 (fun _ => true) true m 2 [c3] = some y3 := by
    have e := hf 3 _ rfl
    simpa [cel_l] using e
  have h4 : DataW.trod enc Tryd.prog w 0 (fun _ => true) true m 3 [c4] = some y4 := by
    have e := hf 4 _ rfl
    simpa [cel_i] using e
  obtain ⟨n0, e0, w0⟩ := open_i (cs := [c0]) (x := y0) h0
  obtain ⟨n1, e1, w1⟩ := open_i (cs := [c1]) (x := y1) h1
  obtain ⟨A, n, c, l, e2, _, hr, hl, hb⟩ := open_rdn (cs := [c2]) (x := y2) h2
  obtain ⟨n3, e3, w3⟩ := open_l (cs := [c3]) (x := y3) h3
  obtain ⟨n4, e4, w4⟩ := open_i (cs := [c4]) (x := y4) h4
  injection e0 with e0; injection e1 with e1; injection e2 with e2; injection e3 with e3; injection e4 with e4
  subst e0 e1 e2 e3 e4
  refine ⟨⟨n0, n1, l, n3, n4⟩, _, rfl, hr, ⟨w0, w1, hl, w3, w4⟩, ?_⟩
  rw [hx]
  simp only [Rows.uptoBulk, List.map_cons, List.map_nil]
  have := bulk_get [y0.1, y1.1, y2.1, y3.1, y4.1] 2 y2.1 rfl
  show l.length ≤ _
  omega
/-- A block. -/
theorem open_blk (h : DataW.trod enc Tryd.prog w 0 (fun _ => true) true fuel 35 cs = some x) (hb : Rows.uptoBulk x.1 ≤ 1048576) :
    ∃ (d : BkD) (lv pv tv : Value), cs = [lv, pv, .int .i64 d.kind, .int .i64 d.arg, tv] ∧ RdN w.heap.size w lv d.list ∧ RdN w.heap.size w pv d.preds ∧ RdN w.heap.size w tv d.to_ ∧ d.ok ∧ d.list.length ≤ Rows.uptoBulk x.1 := by
  obtain ⟨xs, m, -, hx, hcl, hxl, hf⟩ := DataW.trod_struct Tryd.underlying35 h
  rw [cel_b] at hcl
  obtain ⟨c0, c1, c2, c3, c4, rfl⟩ := list5 hcl
  obtain ⟨y0, y1, y2, rfl⟩ := list3 hxl
  have h0 : DataW.trod enc Tryd.prog w 0 (fun _ => true) true m 22 [c0] = some y0 := by
    have e := hf 0 _ rfl
    simpa [cel_I] using e
  have h1 : DataW.trod enc Tryd.prog w 0 (fun _ => true) true m 22 [c1] = some y1 := by
    have e := hf 1 _ rfl
    simpa [cel_I] using e
  have h2 : DataW.trod enc Tryd.prog w 0 (fun _ => true) true m 32 [c2, c3, c4] = some y2 := by
    have e := hf 2 _ rfl
    simpa [cel_t] using e
  obtain ⟨A, n, c, l, e0, _, hr, hl, hb0⟩ := open_rdn (cs := [c0]) (x := y0) h0
  obtain ⟨A1, n1, k1, l1, e1, _, hr1, hl1, hb1⟩ := open_rdn (cs := [c1]) (x := y1) h1
  obtain ⟨zs, m2, -, hz, hzc, hzl, hg⟩ := DataW.trod_struct (cs := [c2, c3, c4]) (x := y2) Tryd.underlying32 h2
  obtain ⟨z0, z1, z2, rfl⟩ := list3 hzl
  have g0 : DataW.trod enc Tryd.prog w 0 (fun _ => true) true m2 3 [c2] = some z0 := by
    have e := hg 0 _ rfl
    simpa [cel_i] using e
  have g1 : DataW.trod enc Tryd.prog w 0 (fun _ => true) true m2 3 [c3] = some z1 := by
    have e := hg 1 _ rfl
    simpa [cel_i] using e
  have g2 : DataW.trod enc Tryd.prog w 0 (fun _ => true) true m2 22 [c4] = some z2 := by
    have e := hg 2 _ rfl
    simpa [cel_I] using e
  obtain ⟨n2, e2, w2⟩ := open_i (cs := [c2]) (x := z0) g0
  obtain ⟨n3, e3, w3⟩ := open_i (cs := [c3]) (x := z1) g1
  obtain ⟨A4, n4, k4, l4, e4, _, hr4, hl4, hb4⟩ := open_rdn (cs := [c4]) (x := z2) g2
  injection e0 with e0; injection e1 with e1; injection e2 with e2; injection e3 with e3; injection e4 with e4
  subst e0 e1 e2 e3 e4
  rw [hx] at hb ⊢
  simp only [Rows.uptoBulk, List.map_cons, List.map_nil] at hb ⊢
  have q0 := bulk_get [y0.1, y1.1, y2.1] 0 y0.1 rfl
  have q1 := bulk_get [y0.1, y1.1, y2.1] 1 y1.1 rfl
  have q2 := bulk_get [y0.1, y1.1, y2.1] 2 y2.1 rfl
  have q4 : Rows.uptoBulk z2.1 ≤ Rows.uptoBulk y2.1 := by
    rw [hz]
    simp only [Rows.uptoBulk, List.map_cons, List.map_nil]
    have := bulk_get [z0.1, z1.1, z2.1] 2 z2.1 rfl
    omega
  refine ⟨⟨l, l1, n2, n3, l4⟩, _, _, _, rfl, hr, hr1, hr4, ⟨⟨?_, hl⟩, ⟨?_, hl1⟩, w2, w3, ⟨?_, hl4⟩⟩, ?_⟩
  · show l.length ≤ _; omega
  · show l1.length ≤ _; omega
  · show l4.length ≤ _; omega
  · show l.length ≤ _; omega
/-- Rows of structs: each one opened. -/
theorem open_inss (h : DataW.trod enc Tryd.prog w 0 (fun _ => true) true fuel 23 cs = some x) (hb : Rows.uptoBulk x.1 ≤ 1048576) :
    ∃ (A : Option Addr) (n c : Nat) (l : List InD), cs = [.slice A n c] ∧ n ≤ c ∧ RdI w.heap.size w (.slice A n c) l ∧ (∀ d ∈ l, d.ok ∧ d.args.length ≤ 1048576) := by
  rcases DataW.trod_slice Tryd.underlying23 h with ⟨h0, hx⟩ | ⟨a, len, cap, elems, rest, m, _, hcs, hx, _, hl, hm, hlen, hel, _, _⟩
  · exact ⟨none, 0, 0, [], h0, by omega, ⟨none, 0, rfl, by simp, fun h => by simp at h⟩, (fun y hy => by cases hy)⟩
  · rw [hx] at hb
    simp only [Rows.uptoBulk] at hb
    have hlb := bulk_len (elems.map (·.1))
    rw [List.length_map] at hlb
    have each : ∀ i, i < len → ∃ d : InD, (∃ va, w.cell? (a.add (i * 5)) = some (.int .i64 d.op) ∧ w.cell? ((a.add (i * 5)).add 1) = some (.int .i64 d.ty) ∧ w.cell? ((a.add (i * 5)).add 2) = some va ∧ w.cell? ((a.add (i * 5)).add 3) = some (.int .i64 d.n) ∧ w.cell? ((a.add (i * 5)).add 4) = some (.int .i64 d.tg) ∧ RdN w.heap.size w va d.args) ∧ d.ok ∧ d.args.length ≤ 1048576 := by
      intro i hi
      have h1 := hel i hi
      rw [List.getElem?_eq_getElem (by omega), Option.bind_eq_some_iff] at h1
      obtain ⟨cs', hcs', hy⟩ := h1
      rw [cel_5] at hcs'
      obtain ⟨d, va, rfl, hr, hok, hbk⟩ := open_ins hy
      obtain ⟨-, -, h3⟩ := World.cells?_some hcs'
      have hget : (elems.map (·.1))[i]? = some elems[i].1 := by rw [List.getElem?_map, List.getElem?_eq_getElem (by omega)]; rfl
      have hle := bulk_get (elems.map (·.1)) i _ hget
      refine ⟨d, ⟨va, ?_, ?_, ?_, ?_, ?_, hr⟩, hok, by omega⟩
      · have := h3 0 (by omega); simpa [Addr.add] using this
      · have := h3 1 (by omega); simpa using this
      · have := h3 2 (by omega); simpa using this
      · have := h3 3 (by omega); simpa using this
      · have := h3 4 (by omega); simpa using this
    obtain ⟨l, hll, hp⟩ := pick_list _ len each
    refine ⟨some a, len, cap, l, hcs, hl, ⟨some a, cap, by rw [hll], by omega, fun hpos => ?_⟩, fun d hd => ?_⟩
    · obtain ⟨d0, hd0⟩ : ∃ d0, l[0]? = some d0 := ⟨_, List.getElem?_eq_getElem (by omega)⟩
      obtain ⟨⟨va, c0, -⟩, -⟩ := hp 0 d0 hd0
      have hs : a.spot = none := World.cell?_spot (a := a) (by simpa [Addr.add] using c0)
      obtain ⟨g, o, sp⟩ := a
      simp only at hs
      subst hs
      rw [ip_add] at c0
      obtain ⟨ob, hob⟩ := ip_block c0
      refine ⟨g, o, ob, rfl, hob, ip_lt c0, fun j d hd => ?_⟩
      obtain ⟨⟨va, c0, c1, c2, c3, c4, hr⟩, -⟩ := hp j d hd
      rw [ip_add] at c0 c1 c2 c3 c4
      rw [ip_add] at c1 c2 c3 c4
      exact ⟨va, c0, c1, c2, c3, c4, hr⟩
    · obtain ⟨j, hj, rfl⟩ := List.mem_iff_getElem.1 hd
      exact (hp j _ (List.getElem?_eq_getElem hj)).2
theorem open_blks (h : DataW.trod enc Tryd.prog w 0 (fun _ => true) true fuel 24 cs = some x) (hb : Rows.uptoBulk x.1 ≤ 1048576) :
    ∃ (A : Option Addr) (n c : Nat) (l : List BkD), cs = [.slice A n c] ∧ n ≤ c ∧ RdB w.heap.size w (.slice A n c) l ∧ (∀ d ∈ l, d.ok) ∧ (l.map (·.list.length)).sum ≤ 1048576 := by
  rcases DataW.trod_slice Tryd.underlying24 h with ⟨h0, hx⟩ | ⟨a, len, cap, elems, rest, m, _, hcs, hx, _, hl, hm, hlen, hel, _, _⟩
  · exact ⟨none, 0, 0, [], h0, by omega, ⟨none, 0, rfl, by simp, fun h => by simp at h⟩, (fun y hy => by cases hy), by simp⟩
  · rw [hx] at hb
    simp only [Rows.uptoBulk] at hb
    have hlb := bulk_len (elems.map (·.1))
    rw [List.length_map] at hlb
    have each : ∀ i, i < len → ∃ d : BkD, (∃ lv pv tv, w.cell? (a.add (i * 5)) = some lv ∧ w.cell? ((a.add (i * 5)).add 1) = some pv ∧ w.cell? ((a.add (i * 5)).add 2) = some (.int .i64 d.kind) ∧ w.cell? ((a.add (i * 5)).add 3) = some (.int .i64 d.arg) ∧ w.cell? ((a.add (i * 5)).add 4) = some tv ∧ RdN w.heap.size w lv d.list ∧ RdN w.heap.size w pv d.preds ∧ RdN w.heap.size w tv d.to_) ∧ d.ok ∧ ∃ y, (elems.map (·.1))[i]? = some y ∧ d.list.length ≤ Rows.uptoBulk y := by
      intro i hi
      have h1 := hel i hi
      rw [List.getElem?_eq_getElem (by omega), Option.bind_eq_some_iff] at h1
      obtain ⟨cs', hcs', hy⟩ := h1
      rw [cel_b] at hcs'
      have hget : (elems.map (·.1))[i]? = some elems[i].1 := by rw [List.getElem?_map, List.getElem?_eq_getElem (by omega)]; rfl
      have hle := bulk_get (elems.map (·.1)) i _ hget
      obtain ⟨d, lv, pv, tv, rfl, hr0, hr1, hr2, hok, hbk⟩ := open_blk hy (by omega)
      obtain ⟨-, -, h3⟩ := World.cells?_some hcs'
      refine ⟨d, ⟨lv, pv, tv, ?_, ?_, ?_, ?_, ?_, hr0, hr1, hr2⟩, hok, _, hget, hbk⟩
      · have := h3 0 (by omega); simpa [Addr.add] using this
      · have := h3 1 (by omega); simpa using this
      · have := h3 2 (by omega); simpa using this
      · have := h3 3 (by omega); simpa using this
      · have := h3 4 (by omega); simpa using this
    obtain ⟨l, hll, hp⟩ := pick_list _ len each
    refine ⟨some a, len, cap, l, hcs, hl, ⟨some a, cap, by rw [hll], by omega, fun hpos => ?_⟩, fun d hd => ?_, ?_⟩
    · obtain ⟨d0, hd0⟩ : ∃ d0, l[0]? = some d0 := ⟨_, List.getElem?_eq_getElem (by omega)⟩
      obtain ⟨⟨lv, pv, tv, c0, -⟩, -⟩ := hp 0 d0 hd0
      have hs : a.spot = none := World.cell?_spot (a := a) (by simpa [Addr.add] using c0)
      obtain ⟨g, o, sp⟩ := a
      simp only at hs
      subst hs
      rw [ip_add] at c0
      obtain ⟨ob, hob⟩ := ip_block c0
      refine ⟨g, o, ob, rfl, hob, ip_lt c0, fun j d hd => ?_⟩
      obtain ⟨⟨lv, pv, tv, c0, c1, c2, c3, c4, hr⟩, -⟩ := hp j d hd
      rw [ip_add] at c0 c1 c2 c3 c4
      rw [ip_add] at c1 c2 c3 c4
      exact ⟨lv, pv, tv, c0, c1, c2, c3, c4, hr⟩
    · obtain ⟨j, hj, rfl⟩ := List.mem_iff_getElem.1 hd
      exact (hp j _ (List.getElem?_eq_getElem hj)).2.1
    · have hs := bulk_sum (fun d : BkD => d.list.length) l (elems.map (·.1)) (by rw [List.length_map]; omega) (fun i d y hd hy => by
        obtain ⟨-, -, y', hy', hle⟩ := hp i d hd
        rw [hy] at hy'
        injection hy' with e
        subst e
        exact hle)
      have e : (l.map (·.list.length)) = (l.map (fun d : BkD => d.list.length)) := rfl
      omega
/-- The whole function. -/
theorem open_func (h : DataW.trod enc Tryd.prog w 0 (fun _ => true) true fuel 26 cs = some x) (hb : Rows.uptoBulk x.1 ≤ 1048576) :
    ∃ (s : ByteArray) (PA : Option Addr) (pn pc : Nat) (r : Int) (IA : Option Addr) (n ic : Nat) (BA : Option Addr) (m bc : Nat) (ps : List Int) (is : List InD) (bs : List BkD),
      cs = [.string s, .slice PA pn pc, .int .i64 r, .slice IA n ic, .slice BA m bc] ∧ s.size ≤ 1048576 ∧ RdN w.heap.size w (.slice PA pn pc) ps ∧ Short ps ∧ InR r ∧ n ≤ ic ∧ m ≤ bc ∧
      RdI w.heap.size w (.slice IA n ic) is ∧ RdB w.heap.size w (.slice BA m bc) bs ∧ (∀ d ∈ is, d.ok ∧ d.args.length ≤ 1048576) ∧ (∀ d ∈ bs, d.ok) ∧ (bs.map (·.list.length)).sum ≤ 1048576 := by
  obtain ⟨xs, m, -, hx, hcl, hxl, hf⟩ := DataW.trod_struct Tryd.underlying26 h
  rw [cel_f] at hcl
  obtain ⟨c0, c1, c2, c3, c4, rfl⟩ := list5 hcl
  obtain ⟨y0, y1, y2, y3, y4, rfl⟩ := list5 hxl
  have h0 : DataW.trod enc Tryd.prog w 0 (fun _ => true) true m 9 [c0] = some y0 := by
    have e := hf 0 _ rfl
    simpa [cel_s] using e
  have h1 : DataW.trod enc Tryd.prog w 0 (fun _ => true) true m 22 [c1] = some y1 := by
    have e := hf 1 _ rfl
    simpa [cel_I] using e
  have h2 : DataW.trod enc Tryd.prog w 0 (fun _ => true) true m 3 [c2] = some y2 := by
    have e := hf 2 _ rfl
    simpa [cel_i] using e
  have h3 : DataW.trod enc Tryd.prog w 0 (fun _ => true) true m 23 [c3] = some y3 := by
    have e := hf 3 _ rfl
    simpa [cel_X] using e
  have h4 : DataW.trod enc Tryd.prog w 0 (fun _ => true) true m 24 [c4] = some y4 := by
    have e := hf 4 _ rfl
    simpa [cel_B] using e
  rw [hx] at hb
  simp only [Rows.uptoBulk, List.map_cons, List.map_nil] at hb
  have q0 := bulk_get [y0.1, y1.1, y2.1, y3.1, y4.1] 0 y0.1 rfl
  have q1 := bulk_get [y0.1, y1.1, y2.1, y3.1, y4.1] 1 y1.1 rfl
  have q3 := bulk_get [y0.1, y1.1, y2.1, y3.1, y4.1] 3 y3.1 rfl
  have q4 := bulk_get [y0.1, y1.1, y2.1, y3.1, y4.1] 4 y4.1 rfl
  obtain ⟨s, e0, hy0, _⟩ := DataW.trod_string Tryd.underlying9 h0
  obtain ⟨PA, pn, pc, ps, e1, _, hp, hpl, hpb⟩ := open_rdn h1
  obtain ⟨r, e2, hr⟩ := open_i h2
  obtain ⟨IA, n, ic, is, e3, hic, hri, hio⟩ := open_inss h3 (by omega)
  obtain ⟨BA, k, bc, bs, e4, hbc, hrb, hbo, hsum⟩ := open_blks h4 (by omega)
  injection e0 with e0; injection e1 with e1; injection e2 with e2; injection e3 with e3; injection e4 with e4
  subst e0 e1 e2 e3 e4
  have hs : s.size ≤ 1048576 := by
    have e : Rows.uptoBulk y0.1 = s.data.toList.length + 1 := by rw [hy0]; simp only [Rows.uptoBulk]
    have h3 : s.data.toList.length = s.size := by rw [Array.length_toList]; rfl
    omega
  exact ⟨s, PA, pn, pc, r, IA, n, ic, BA, k, bc, ps, is, bs, rfl, hs, hp, ⟨by omega, hpl⟩, hr, hic, hbc, hri, hrb, hio, hbo, hsum⟩
end
/-- How long the text is at most. -/
theorem line_len (is : List InD) (hio : ∀ d ∈ is, d.ok ∧ d.args.length ≤ 1048576) (y : Int) (hy : InR y) : (lineP is y).length ≤ 22 * 1048576 + 400 := by
  unfold lineP
  split
  · cases hg : is[y.toNat]? with
    | none => simp
    | some d =>
      obtain ⟨hok, ha⟩ := hio d (List.mem_of_getElem? hg)
      have t1 := Lib.itoa_length_le y hy.1 hy.2
      have t2 := Lib.itoa_length_le d.op hok.1.1 hok.1.2
      have t3 := Lib.itoa_length_le d.ty hok.2.1.1 hok.2.1.2
      have t4 := Lib.itoa_length_le d.n hok.2.2.2.1.1 hok.2.2.2.1.2
      have t5 := Lib.itoa_length_le d.tg hok.2.2.2.2.1 hok.2.2.2.2.2
      have t6 := rowP_len d.args hok.2.2.1
      have e : insP y d = [10, 32] ++ (32 :: Lib.itoa y) ++ ([32, 61] ++ (32 :: Lib.itoa d.op)) ++ rowP d.args ++ ([32, 59] ++ (32 :: Lib.itoa d.ty)) ++ (32 :: Lib.itoa d.n) ++ (32 :: Lib.itoa d.tg) := by
        simp [insP, sayP, rowP, List.flatMap_cons]
      show (insP y d).length ≤ _
      rw [e]
      simp only [List.length_append, List.length_cons, List.length_nil]
      omega
  · simp
theorem lines_len (is : List InD) (hio : ∀ d ∈ is, d.ok ∧ d.args.length ≤ 1048576) : ∀ (l : List Int), (∀ y ∈ l, InR y) → (linesP is l).length ≤ l.length * (22 * 1048576 + 400)
  | [], _ => by simp [linesP]
  | y :: l, h => by
    have h1 := line_len is hio y (h y (by simp))
    have h2 := lines_len is hio l fun z hz => h z (by simp [hz])
    have e : linesP is (y :: l) = lineP is y ++ linesP is l := by simp [linesP]
    rw [e, List.length_append, List.length_cons]
    omega
theorem block_len (is : List InD) (hio : ∀ d ∈ is, d.ok ∧ d.args.length ≤ 1048576) (b : Nat) (hb : b ≤ 1048576) (d : BkD) (hd : d.ok) : (blockP is b d).length ≤ d.list.length * (22 * 1048576 + 400) + 46137800 := by
  have h1 := lines_len is hio d.list hd.1.2
  have t1 := Lib.itoa_length_le (b : Int) (by omega) (by omega)
  have t2 := Lib.itoa_length_le d.kind hd.2.2.1.1 hd.2.2.1.2
  have t3 := Lib.itoa_length_le d.arg hd.2.2.2.1.1 hd.2.2.2.1.2
  have t4 := rowP_len d.preds hd.2.1.2
  have t5 := rowP_len d.to_ hd.2.2.2.2.2
  have l4 := hd.2.1.1
  have l5 := hd.2.2.2.2.1
  have e : blockP is b d = ([10, 98, 108, 111, 99, 107] ++ (32 :: Lib.itoa (b : Int))) ++ ([32, 102, 114, 111, 109] ++ rowP d.preds) ++ linesP is d.list ++ ([10, 32, 32, 101, 110, 100] ++ (32 :: Lib.itoa d.kind) ++ (32 :: Lib.itoa d.arg)) ++ ([32, 116, 111] ++ rowP d.to_) := by
    simp [blockP, sayP, rowP, List.flatMap_cons]
  rw [e]
  simp only [List.length_append, List.length_cons, List.length_nil]
  omega
theorem blocks_len (is : List InD) (hio : ∀ d ∈ is, d.ok ∧ d.args.length ≤ 1048576) : ∀ (l : List BkD) (b : Nat), b + l.length ≤ 1048576 → (∀ d ∈ l, d.ok) → (blocksP is l b).length ≤ (l.map (·.list.length)).sum * (22 * 1048576 + 400) + l.length * 46137800
  | [], b, _, _ => by simp [blocksP]
  | d :: l, b, hb, h => by
    have h1 := block_len is hio b (by omega) d (h d (by simp))
    have h2 := blocks_len is hio l (b + 1) (by simp only [List.length_cons] at hb; omega) fun z hz => h z (by simp [hz])
    unfold blocksP
    rw [List.length_append]
    simp only [List.map_cons, List.sum_cons, List.length_cons]
    omega
theorem sum_take (l : List BkD) (k : Nat) : ((l.take k).map (·.list.length)).sum ≤ (l.map (·.list.length)).sum := by
  have h : l.map (·.list.length) = (l.take k).map (·.list.length) ++ (l.drop k).map (·.list.length) := by rw [← List.map_append, List.take_append_drop]
  rw [h, List.sum_append]; omega
end Go.Proofs.YtglobeajmdieaaaDoor
