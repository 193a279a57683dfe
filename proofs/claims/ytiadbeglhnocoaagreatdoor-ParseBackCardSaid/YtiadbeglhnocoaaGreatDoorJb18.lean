/-
  Parts of expressions, as they lie; their list.
  An expression with its parts.
  An expression with so many parts.
-/
import Derived.Test.YtiadbeglhnocoaaGreatDoorJb16
import Derived.Test.YtiadbeglhnocoaaGreatDoorJb17
import Derived.Deep.AppendLies
import Derived.OwnWalk
import Derived.Lib.MinMax
namespace Go.Proofs.YtiadbeglhnocoaaGreatDoor
set_option linter.unusedVariables false
set_option linter.unusedSimpArgs false
open Go.RowKit

/-- Made from lo on. -/
def From (lo : Nat) (w : World) (b : Nat) : Prop := lo ≤ b ∧ b < w.heap.size
/-- The eight cells read as the part. -/
def RdP (w : World) (S : Nat → Prop) (c : Nat → Option Value) (p : Part) : Prop := RdE w S c p.1 ∧ c 7 = some (.int .i64 p.2)
theorem RdP.keep {w w' : World} {S : Nat → Prop} (hb : ∀ p : Addr, S p.block → w'.cell? p = w.cell? p) {c : Nat → Option Value} {p : Part} (h : RdP w S c p) : RdP w' S c p := ⟨RdE.keep hb c _ h.1, h.2⟩
theorem RdP.more {w : World} {S S' : Nat → Prop} (hB : ∀ b, S b → S' b) {c : Nat → Option Value} {p : Part} (h : RdP w S c p) : RdP w S' c p := ⟨RdE.more hB c _ h.1, h.2⟩
theorem RdP.cells {w : World} {S : Nat → Prop} {c c' : Nat → Option Value} {p : Part} (h : RdP w S c p) (hc : ∀ j, j < 8 → c' j = c j) : RdP w S c' p := ⟨h.1.cells (fun j hj => hc j (by omega)), (hc 7 (by omega)).trans h.2⟩
/-- A row of parts, as it lies. -/
def RdPs (w : World) (S : Nat → Prop) (A : Option Addr) (l : List Part) : Prop := 0 < l.length → ∃ r o, A = some ⟨r, o, none⟩ ∧ S r ∧ ∀ i p, l[i]? = some p → RdP w S (fun j => w.cell? ⟨r, o + i * 8 + j, none⟩) p
theorem RdPs.keep {w w' : World} {S : Nat → Prop} (hb : ∀ p : Addr, S p.block → w'.cell? p = w.cell? p) {A : Option Addr} {l : List Part} (h : RdPs w S A l) : RdPs w' S A l := fun hl => by
  obtain ⟨r, o, hA, hr, hx⟩ := h hl
  refine ⟨r, o, hA, hr, fun i p hp => ?_⟩
  have h1 := RdP.keep (w' := w') hb (hx i p hp)
  exact h1.cells (fun j _ => hb ⟨r, o + i * 8 + j, none⟩ hr)
theorem RdPs.more {w : World} {S S' : Nat → Prop} (hB : ∀ b, S b → S' b) {A : Option Addr} {l : List Part} (h : RdPs w S A l) : RdPs w S' A l := fun hl => by
  obtain ⟨r, o, hA, hr, hx⟩ := h hl
  exact ⟨r, o, hA, hB r hr, fun i p hp => (hx i p hp).more hB⟩
/-- Behind a call of the parser's own, and what else makes new blocks, parts read as before. -/
theorem RdPs.but {w w' : World} {g lo : Nat} {A : Option Addr} {l : List Part} (h : RdPs w (From lo w) A l) (hb : But g w w') (hg : g < lo) : RdPs w' (From lo w') A l :=
  RdPs.more (fun b hS => ⟨hS.1, Nat.lt_of_lt_of_le hS.2 hb.size⟩) (RdPs.keep (w' := w') (fun p hp => hb.cell hp.2 (fun e => by have := hp.1; omega)) h)
/-- A part, as a value. -/
def partV (k a t o n : Int) (s : ByteArray) (K : Option Addr) (m c : Nat) (d : Int) : Value := .agg #[.int .i64 k, .int .i64 a, .int .i64 t, .int .i64 o, .int .i64 n, .string s, .slice K m c, .int .i64 d]
def PartV (w : World) (S : Nat → Prop) (v : Value) (p : Part) : Prop := ∃ k a t o n s kids K c d, p = (.mk k a t o n s kids, d) ∧ v = partV k a t o n s K kids.length (kids.length + c) d ∧ RdEs w S K 0 kids
theorem PartV.keep {w w' : World} {S : Nat → Prop} (hb : ∀ p : Addr, S p.block → w'.cell? p = w.cell? p) {v : Value} {p : Part} (h : PartV w S v p) : PartV w' S v p := by
  obtain ⟨k, a, t, o, n, s, kids, K, c, d, hp, hv, hk⟩ := h
  exact ⟨k, a, t, o, n, s, kids, K, c, d, hp, hv, RdEs.keep hb _ _ _ hk⟩
theorem PartV.more {w : World} {S S' : Nat → Prop} (hB : ∀ b, S b → S' b) {v : Value} {p : Part} (h : PartV w S v p) : PartV w S' v p := by
  obtain ⟨k, a, t, o, n, s, kids, K, c, d, hp, hv, hk⟩ := h
  exact ⟨k, a, t, o, n, s, kids, K, c, d, hp, hv, RdEs.more hB _ _ _ hk⟩
theorem PartV.but {w w' : World} {g lo : Nat} {v : Value} {p : Part} (h : PartV w (From lo w) v p) (hb : But g w w') (hg : g < lo) : PartV w' (From lo w') v p :=
  PartV.more (fun b hS => ⟨hS.1, Nat.lt_of_lt_of_le hS.2 hb.size⟩) (PartV.keep (w' := w') (fun p hp => hb.cell hp.2 (fun e => by have := hp.1; omega)) h)
theorem infoE7 : (Tryz.prog.info? 96).map (fun i => (i.zero, i.size, i.bytes)) = some (some (.agg #[.int .i64 0, .int .i64 0, .int .i64 0, .int .i64 0, .int .i64 0, .string ⟨#[]⟩, .slice none 0 0]), 7, 80) := by kernel_rfl
theorem seven_one (k a t o n : Int) (s : ByteArray) (K : Option Addr) (m c : Nat) : ∀ u ∈ ([.int .i64 k, .int .i64 a, .int .i64 t, .int .i64 o, .int .i64 n, .string s, .slice K m c] : List Value), u.oneCell' = true := by
  intro u hu
  simp only [List.mem_cons, List.not_mem_nil, or_false] at hu
  rcases hu with rfl | rfl | rfl | rfl | rfl | rfl | rfl <;> rfl
/-- So many places there are at least. -/
theorem own_cap {w : World} {base : Nat} {T : TypeId} {size : Nat} {V : Option Addr} {C n m : Nat} {xs : List Value} (h : w.ownsRow base T size (.slice V n C) m xs) : n ≤ C ∧ C ≤ maxLen := by
  rcases h.2 with ⟨hv, h0⟩ | ⟨b, c, cur, hv, _, _, hnc, hcm, _⟩
  · injection hv with e1 e2 e3
    rw [e2, e3]
    exact ⟨Nat.le_refl _, by unfold maxLen; omega⟩
  · injection hv with e1 e2 e3
    rw [e2, e3]
    exact ⟨hnc, hcm⟩
/-- The row of expressions that is made: its cells read as the parts' expressions. -/
def Exs (w : World) (S : Nat → Prop) (xs : List Value) (l : List Part) : Prop := ∀ i p, l[i]? = some p → RdE w S (fun j => xs[i * 7 + j]?) p.1
theorem Exs.snoc {w : World} {S : Nat → Prop} {xs : List Value} {l : List Part} (h : Exs w S xs l) (hx : xs.length = l.length * 7) {k a t o n : Int} {s : ByteArray} {K : Option Addr} {m c : Nat} {p : Part}
    (hp : RdE w S (fun j => ([.int .i64 k, .int .i64 a, .int .i64 t, .int .i64 o, .int .i64 n, .string s, .slice K m c] : List Value)[j]?) p.1) : Exs w S (xs ++ [.int .i64 k, .int .i64 a, .int .i64 t, .int .i64 o, .int .i64 n, .string s, .slice K m c]) (l ++ [p]) := fun i q hq => by
  by_cases hi : i < l.length
  · rw [List.getElem?_append_left hi] at hq
    exact (h i q hq).cells (fun j hj => by rw [List.getElem?_append_left (by omega)])
  · have hl : i < (l ++ [p]).length := (List.getElem?_eq_some_iff.mp hq).1
    rw [List.length_append, List.length_singleton] at hl
    obtain rfl : i = l.length := by omega
    have : q = p := by simpa using hq.symm
    subst this
    exact hp.cells (fun j hj => by rw [List.getElem?_append_right (by omega), hx, Nat.add_sub_cancel_left])
/-- What was there, or is new. -/
def Or' (S : Nat → Prop) (w w' : World) (b : Nat) : Prop := S b ∨ (w.heap.size ≤ b ∧ b < w'.heap.size)
theorem Exs.read {w wr : World} {S : Nat → Prop} {C : Nat} {V : Option Addr} {l : List Part} {xs : List Value} (ho : wr.ownsRow w.heap.size 96 7 (.slice V l.length C) l.length xs) (hex : Exs w S xs l) (hb : Below w.heap.size w wr) (hS : ∀ b, S b → b < w.heap.size) : RdEs wr (Or' S w wr) V 0 (l.map Prod.fst) := by
  refine RdEs.of_all (fun k e he => ?_)
  rw [List.getElem?_map] at he
  obtain ⟨p, hp, rfl⟩ := Option.map_eq_some_iff.mp he
  have hk : k < l.length := (List.getElem?_eq_some_iff.mp hp).1
  obtain ⟨g, c, hv, hg, hgl⟩ := ho.form (by omega)
  injection hv with h1 h2 h3
  subst h1
  refine ⟨g, 0, rfl, Or.inr ⟨hg, hgl⟩, ?_⟩
  have h1 := RdE.keep (w' := wr) (fun q hq => hb.cell (hS _ hq)) _ _ (hex k p hp)
  have h2 := RdE.more (S' := Or' S w wr) (fun b hS => Or.inl hS) _ _ h1
  refine h2.cells (fun j hj => ?_)
  have e0 : 0 + (0 + k) * 7 + j = k * 7 + j := by omega
  rw [e0]
  exact ho.cellAt (k * 7 + j) (by omega)
set_option maxRecDepth 100000 in
set_option maxHeartbeats 4000000 in
/-- The expressions of parts, in a row of its own. -/
theorem exprs_any (S : Nat → Prop) (l : List Part) (A : Option Addr) (cap : Nat) (w : World) (hS : ∀ b, S b → b < w.heap.size) (hl : l.length ≤ 1099511627776) (h : RdPs w S A l) :
    Calls Tryz.prog 87 #[.slice A l.length cap] w fun e w' => ∃ K c, e = .returned (.slice K l.length (l.length + c)) ∧ RdEs w' (Or' S w w') K 0 (l.map Prod.fst) ∧ Below w.heap.size w w' := by
  obtain ⟨n, hn⟩ : ∃ n, n = l.length := ⟨_, rfl⟩
  have Hn := Lib.hid hn
  rw [← hn] at hl ⊢
  obtain ⟨i0, hi, hz0, hz1, hz2⟩ := info_parts infoE7
  have Hi := Lib.hid hi
  have Hz0 := Lib.hid hz0
  have Hz1 := Lib.hid hz1
  have Hz2 := Lib.hid hz2
  have H := Lib.hid h
  clear hn h hi hz0 hz1 hz2
  go_enter Tryz.func87, Tryz.ntmps87
  go_wp2
  go_loopw [3, 8] (fun u3 u8 wr => ∃ (i : Nat) (v : Value) (xs : List Value), i ≤ n ∧ u8 = .int .i64 i ∧ u3 = v ∧ Hid (wr.ownsRow w.heap.size 96 7 v i xs) ∧ Hid (Exs w S xs (l.take i)) ∧ Hid (Below w.heap.size w wr)) (fun _ u _ => n - (intOf u).toNat)
  case atStart => exact ⟨0, _, [], Nat.zero_le _, rfl, rfl, Lib.hid (World.ownsRow_nil w w.heap.size 96 7), Lib.hid (fun i p hp => by simp at hp), Lib.hid (Below.refl _ _)⟩
  case round =>
    obtain ⟨i, v, xs, hin, rfl, rfl, hown, hex, hb⟩ := hrel
    obtain ⟨V, C, rfl⟩ := own_form hown.out
    by_cases hlt : i < n
    · have hil : i < l.length := by rw [← Hn.out]; exact hlt
      obtain ⟨r, o, rfl, hr0, hx⟩ := H.out (by omega)
      have hr := hS _ hr0
      clear hr0
      obtain ⟨p, hp⟩ : ∃ p, l[i]? = some p := ⟨_, List.getElem?_eq_getElem hil⟩
      obtain ⟨hE, x7⟩ := hx i p hp
      obtain ⟨⟨k, a, t, q, m, s, kids⟩, d⟩ := p
      unfold RdE at hE
      obtain ⟨x0, x1, x2, x3, x4, x5, K, ck, x6, hK⟩ := hE
      have up : ∀ j u, w.cell? ⟨r, j, none⟩ = some u → wr.cell? ⟨r, j, none⟩ = some u := fun j u e => (hb.out.cell (p := ⟨r, j, none⟩) hr).trans e
      replace x0 := up _ _ x0
      replace x1 := up _ _ x1
      replace x2 := up _ _ x2
      replace x3 := up _ _ x3
      replace x4 := up _ _ x4
      replace x5 := up _ _ x5
      replace x6 := up _ _ x6
      replace x7 := up _ _ x7
      rw [Nat.add_zero] at x0
      have Hp := Lib.hid hp
      have HK := Lib.hid hK
      clear up hx hp hK
      have hmid := ((Below.refl wr.heap.size wr).alloc (Nat.le_refl _) (.cells #[.int .i64 k, .int .i64 a, .int .i64 t, .int .i64 q, .int .i64 m, .string s, .slice K kids.length (kids.length + ck), .int .i64 d] 124)).alloc (by simp) (.cells #[.int .i64 k, .int .i64 a, .int .i64 t, .int .i64 q, .int .i64 m, .string s, .slice K kids.length (kids.length + ck)] 96)
      have HOW := Lib.hid (hown.out.kept (row := none) ⟨hmid.os, hmid.tape, hmid.output, hmid.size, fun k hk _ => hmid.block k hk⟩ (by cases Value.ownBlock _ <;> simp))
      have hnb := heap_alloc_new (wr.alloc (.cells #[.int .i64 k, .int .i64 a, .int .i64 t, .int .i64 q, .int .i64 m, .string s, .slice K kids.length (kids.length + ck), .int .i64 d] 124)) (.cells #[.int .i64 k, .int .i64 a, .int .i64 t, .int .i64 q, .int .i64 m, .string s, .slice K kids.length (kids.length + ck)] 96)
      rw [show (wr.alloc (.cells #[.int .i64 k, .int .i64 a, .int .i64 t, .int .i64 q, .int .i64 m, .string s, .slice K kids.length (kids.length + ck), .int .i64 d] 124)).heap.size = wr.heap.size + 1 by simp] at hnb
      have HN2 := Lib.hid (World.news_of_block hnb)
      have HO := Lib.hid (seven_one k a t q m s K kids.length (kids.length + ck))
      have hsz : w.heap.size ≤ ((wr.alloc (.cells #[.int .i64 k, .int .i64 a, .int .i64 t, .int .i64 q, .int .i64 m, .string s, .slice K kids.length (kids.length + ck), .int .i64 d] 124)).alloc (.cells #[.int .i64 k, .int .i64 a, .int .i64 t, .int .i64 q, .int .i64 m, .string s, .slice K kids.length (kids.length + ck)] 96)).heap.size := by have := hb.out.size; simp; omega
      have hrr : r < wr.heap.size := Nat.lt_of_lt_of_le hr hb.out.size
      have Hmid := Lib.hid hmid
      clear hnb hmid
      go_wp2_with (at_builtin; refine wpList_append_lies _ rfl (.tmp 12) (.tmp 15) 75 rfl w.heap.size 96 i0 (.agg #[.int .i64 0, .int .i64 0, .int .i64 0, .int .i64 0, .int .i64 0, .string ⟨#[]⟩, .slice none 0 0]) 7 80 Tryz.underlying75 Hi.out Hz0.out Hz1.out Hz2.out rfl (by decide) (.slice V i C) i xs rfl HOW.out ⟨wr.heap.size + 1, 0, none⟩ 1 1 [.int .i64 k, .int .i64 a, .int .i64 t, .int .i64 q, .int .i64 m, .string s, .slice K kids.length (kids.length + ck)] rfl rfl HN2.out HO.out (by decide) (by unfold maxLen; omega) (by omega) hsz _ rfl ?_)
      intro gp cp2 w2 hown2 hgrow hat hlt2
      have htk : l.take (i + 1) = l.take i ++ [(.mk k a t q m s kids, d)] := by
        rw [List.take_succ_eq_append_getElem hil]
        congr 2
        have := Hp.out
        rw [List.getElem?_eq_getElem hil] at this
        exact Option.some.inj this
      have hex2 := hex.out.snoc (p := (.mk k a t q m s kids, d)) (by rw [List.length_take]; have := hown.out.1; omega) (k := k) (a := a) (t := t) (o := q) (n := m) (s := s) (K := K) (m := kids.length) (c := kids.length + ck) (by unfold RdE; exact ⟨rfl, rfl, rfl, rfl, rfl, rfl, K, ck, rfl, HK.out⟩)
      rw [← htk] at hex2
      have Hex2 := Lib.hid hex2
      have Hown2 := Lib.hid hown2
      have Hb2 := Lib.hid ((hb.out.trans (Hmid.out.mono hb.out.size)).grown hgrow hsz (fun k hk => (hown.out.lt k hk).1))
      clear htk hex2 hown2 hgrow hat hlt2 x0 x1 x2 x3 x4 x5 x6 x7
      go_wp2
      go_roundw
      case rel => exact ⟨i + 1, _, _, by omega, by go_num, rfl, Hown2, Hex2, Hb2⟩
      case measure => simp [intOf]; omega
    · obtain rfl : i = n := by omega
      have hd := Lib.hid hlt
      have hr := hown.out
      have hx := hex.out
      rw [Hn.out, List.take_length] at hx
      rw [Hn.out] at hr
      have HR := Lib.hid (Exs.read hr hx hb.out hS)
      obtain ⟨x, rfl⟩ : ∃ x, C = i + x := ⟨C - i, by have := (own_cap hown.out).1; omega⟩
      clear hr hx
      go_wp2
      go_ret
      exact ⟨V, x, rfl, HR.out, hb.out⟩
end Go.Proofs.YtiadbeglhnocoaaGreatDoor
namespace Go.Proofs.YtiadbeglhnocoaaGreatDoor
set_option linter.unusedVariables false
set_option linter.unusedSimpArgs false
open Go.RowKit

theorem deepest_snoc (l : List Part) (p : Part) (hp : 0 ≤ p.2) : deepest (l ++ [p]) = max (deepest l) p.2 := by
  induction l with
  | nil => simp [deepest]; omega
  | cons x r ih => simp only [List.cons_append, deepest, ih]; omega
theorem deepest_nonneg (l : List Part) : 0 ≤ deepest l := by
  cases l with
  | nil => exact Int.le_refl _
  | cons x r =>
    induction r generalizing x with
    | nil => simp [deepest]; omega
    | cons y r ih => have := ih y; simp only [deepest] at this ⊢; omega
theorem deepest_le (l : List Part) (B : Int) (hB : 0 ≤ B) (h : ∀ p ∈ l, p.2 ≤ B) : deepest l ≤ B := by
  induction l with
  | nil => simpa [deepest]
  | cons x r ih =>
    have h1 := h x (by simp)
    have h2 := ih (fun p hp => h p (by simp [hp]))
    simp only [deepest]
    omega
theorem two_al (w : World) (x y : Array Value) (T T' : TypeId) : ∃ W, W = (w.alloc (.cells x T)).alloc (.cells y T') ∧ Below w.heap.size w W ∧ W.heap.size = w.heap.size + 2 ∧ W.heap[w.heap.size]? = some (.cells x T (0, 0)) ∧ W.heap[w.heap.size + 1]? = some (.cells y T' (0, 0)) := by
  refine ⟨_, rfl, ((Below.refl _ _).alloc (Nat.le_refl _) _).alloc (by simp) _, by simp, (Below.heap_alloc _ _ _ (by simp)).trans (heap_alloc_new w _), ?_⟩
  have h1 := heap_alloc_new (w.alloc (.cells x T)) (.cells y T')
  rw [show (w.alloc (.cells x T)).heap.size = w.heap.size + 1 by simp] at h1
  exact h1
/-- What an expression comes to, as a value. -/
def WholePost (g : Nat) (S : Nat → Prop) (w : World) (r : Part × PS) (e : Ending) (w' : World) : Prop := ∃ v, e = .returned v ∧ PartV w' (Or' S w w') v r.1 ∧ PAt w' g r.2 ∧ But g w w'
theorem cells7 {w : World} {b : Nat} {v0 v1 v2 v3 v4 v5 v6 : Value} {T : TypeId} (h : w.heap[b]? = some (.cells #[v0, v1, v2, v3, v4, v5, v6] T (0, 0))) : w.cell? ⟨b, 0, none⟩ = some v0 ∧ w.cell? ⟨b, 1, none⟩ = some v1 ∧ w.cell? ⟨b, 2, none⟩ = some v2 ∧ w.cell? ⟨b, 3, none⟩ = some v3 ∧ w.cell? ⟨b, 4, none⟩ = some v4 ∧ w.cell? ⟨b, 5, none⟩ = some v5 ∧ w.cell? ⟨b, 6, none⟩ = some v6 ∧ ∀ j, w.frozen? ⟨b, j, none⟩ = false :=
  ⟨Lib.cell_of_heap h 0, Lib.cell_of_heap h 1, Lib.cell_of_heap h 2, Lib.cell_of_heap h 3, Lib.cell_of_heap h 4, Lib.cell_of_heap h 5, Lib.cell_of_heap h 6, fun j => Lib.frozen_of_heap h j⟩
theorem cells8 {w : World} {b : Nat} {v0 v1 v2 v3 v4 v5 v6 v7 : Value} {T : TypeId} (h : w.heap[b]? = some (.cells #[v0, v1, v2, v3, v4, v5, v6, v7] T (0, 0))) : w.cell? ⟨b, 0, none⟩ = some v0 ∧ w.cell? ⟨b, 1, none⟩ = some v1 ∧ w.cell? ⟨b, 2, none⟩ = some v2 ∧ w.cell? ⟨b, 3, none⟩ = some v3 ∧ w.cell? ⟨b, 4, none⟩ = some v4 ∧ w.cell? ⟨b, 5, none⟩ = some v5 ∧ w.cell? ⟨b, 6, none⟩ = some v6 ∧ w.cell? ⟨b, 7, none⟩ = some v7 ∧ ∀ j, w.frozen? ⟨b, j, none⟩ = false :=
  ⟨Lib.cell_of_heap h 0, Lib.cell_of_heap h 1, Lib.cell_of_heap h 2, Lib.cell_of_heap h 3, Lib.cell_of_heap h 4, Lib.cell_of_heap h 5, Lib.cell_of_heap h 6, Lib.cell_of_heap h 7, fun j => Lib.frozen_of_heap h j⟩
theorem whole_end {w w2 w3 W' : World} {g : Nat} {S : Nat → Prop} {s2 : PS} {k a o n : Int} {x : ByteArray} {kids : List Ex} {K : Option Addr} {c : Nat} {D : Int} (hS : ∀ b, S b → g < b ∧ b < w.heap.size) (hgl : g < w.heap.size) (hfar : ∀ b, b ≠ w.heap.size → b ≠ w.heap.size + 1 → W'.heap[b]? = w3.heap[b]?) (hb : Below w.heap.size w3 W')
    (hP : PAt w3 g s2) (hbut : But g w w3) (h23 : w2.heap.size ≤ w3.heap.size) (hw2 : w.heap.size + 2 ≤ w2.heap.size) (hk : RdEs w3 (Or' S w2 w3) K 0 kids) : WholePost g S w ((.mk k a 0 o n x kids, D), s2) (.returned (partV k a 0 o n x K kids.length (kids.length + c) D)) W' := by
  refine ⟨_, rfl, ⟨k, a, 0, o, n, x, kids, K, c, D, rfl, rfl, ?_⟩, hP.up (hb.mono (by omega)), hbut.up hb⟩
  refine RdEs.more (fun b hb' => ?_) _ _ _ (RdEs.keep (w' := W') (fun p hp => World.cell?_of_block (hfar p.block ?_ ?_)) _ _ _ hk)
  · have := hb.size
    rcases hb' with h1 | ⟨h1, h2⟩
    · exact Or.inl h1
    · exact Or.inr ⟨by omega, by omega⟩
  · rcases hp with h1 | ⟨h1, h2⟩
    · have := (hS _ h1).2; omega
    · omega
  · rcases hp with h1 | ⟨h1, h2⟩
    · have := (hS _ h1).2; omega
    · omega
set_option maxRecDepth 100000 in
set_option maxHeartbeats 8000000 in
theorem whole_any (g : Nat) (s : PS) (S : Nat → Prop) (k a o n : Int) (x : ByteArray) (l : List Part) (A : Option Addr) (cap : Nat) (w : World) (h : PAt w g s) (hS : ∀ b, S b → g < b ∧ b < w.heap.size) (hl : l.length ≤ 1099511627776) (hR : RdPs w S A l)
    (hd : ∀ p ∈ l, 0 ≤ p.2 ∧ p.2 ≤ 1125899906842624) (h1 : -1099511627776 ≤ s.deep) (h2 : s.deep ≤ 1099511627776) :
    Calls Tryz.prog 110 #[.pointer (some ⟨g, 0, none⟩), .agg #[.int .i64 k, .int .i64 a, .int .i64 0, .int .i64 o, .int .i64 n, .string x, .slice none 0 0], .slice A l.length cap] w (WholePost g S w (wholeP s k a o n x l)) := by
  have hgl := h.lt
  obtain ⟨m, hm⟩ : ∃ m, m = l.length := ⟨_, rfl⟩
  have Hm := Lib.hid hm
  rw [← hm] at hl ⊢
  have HR := Lib.hid hR
  have H := Lib.hid h
  have HD := Lib.hid hd
  clear hm hR h hd
  go_enter Tryz.func110, Tryz.ntmps110
  go_wp2
  obtain ⟨W, hW, hbW, hzW, hbE, hbR⟩ := two_al w #[.int .i64 k, .int .i64 a, .int .i64 0, .int .i64 o, .int .i64 n, .string x, .slice none 0 0] #[.int .i64 0, .int .i64 0, .int .i64 0, .int .i64 0, .int .i64 0, .string ⟨#[]⟩, .slice none 0 0, .int .i64 0] 96 124
  rw [← hW]
  have HbW := Lib.hid hbW
  have HbE := Lib.hid hbE
  have HbR := Lib.hid hbR
  clear hW hbW hbE hbR
  go_loopw [7, 12] (fun u7 u12 wr => ∃ i : Nat, i ≤ m ∧ u12 = .int .i64 i ∧ u7 = .int .i64 (deepest (l.take i)) ∧ Hid (Below W.heap.size W wr)) (fun _ u _ => m - (intOf u).toNat)
  case atStart => exact ⟨0, Nat.zero_le _, rfl, rfl, Lib.hid (Below.refl _ _)⟩
  case round =>
    obtain ⟨i, him, rfl, rfl, hb⟩ := hrel
    have hbw := Lib.hid (HbW.out.trans (hb.out.mono HbW.out.size))
    by_cases hlt : i < m
    · have hil : i < l.length := by rw [← Hm.out]; exact hlt
      obtain ⟨r, q, rfl, hr0, hx⟩ := HR.out (by omega)
      have hr := (hS _ hr0).2
      obtain ⟨p, hp⟩ : ∃ p, l[i]? = some p := ⟨_, List.getElem?_eq_getElem hil⟩
      obtain ⟨hE, x7⟩ := hx i p hp
      have hpd := HD.out p (List.mem_of_getElem? hp)
      obtain ⟨⟨k', a', t', o', n', s', kids⟩, d⟩ := p
      unfold RdE at hE
      obtain ⟨x0, x1, x2, x3, x4, x5, K, ck, x6, hK⟩ := hE
      have up : ∀ j u, w.cell? ⟨r, j, none⟩ = some u → wr.cell? ⟨r, j, none⟩ = some u := fun j u e => (hbw.out.cell (p := ⟨r, j, none⟩) hr).trans e
      replace x0 := up _ _ x0
      replace x1 := up _ _ x1
      replace x2 := up _ _ x2
      replace x3 := up _ _ x3
      replace x4 := up _ _ x4
      replace x5 := up _ _ x5
      replace x6 := up _ _ x6
      replace x7 := up _ _ x7
      rw [Nat.add_zero] at x0
      have hsn : deepest (l.take (i + 1)) = max (deepest (l.take i)) d := by
        rw [List.take_succ_eq_append_getElem hil, deepest_snoc _ _ (by rw [List.getElem?_eq_getElem hil] at hp; rw [Option.some.inj hp]; exact hpd.1)]
        rw [List.getElem?_eq_getElem hil] at hp
        rw [Option.some.inj hp]
      have Hsn := Lib.hid hsn
      clear up hx hp hK hr0 hsn hpd
      obtain ⟨D0, hD0⟩ : ∃ D0, D0 = deepest (l.take i) := ⟨_, rfl⟩
      rw [← hD0] at Hsn ⊢
      clear hD0
      go_wp2
      all_goals
        go_roundw
        case rel => exact ⟨i + 1, by omega, by go_num, by rw [Hsn.out], Lib.hid (hb.out.alloc hb.out.size _)⟩
        case measure => simp [intOf]; omega
    · obtain rfl : i = m := by omega
      clear hlt
      have hlt' : l.take i = l := by rw [Hm.out, List.take_length]
      rw [hlt']
      clear hlt'
      obtain ⟨D, hD⟩ : ∃ D, D = deepest l := ⟨_, rfl⟩
      have hD0 : 0 ≤ D := by rw [hD]; exact deepest_nonneg l
      have hD1 : D ≤ 1125899906842624 := by rw [hD]; exact deepest_le l _ (by omega) (fun p hp => (HD.out p hp).2)
      have hwp : wholeP s k a o n x l = ((.mk k a 0 o n x (l.map Prod.fst), D + 1), if s.deep + (D + 1) > 256 then s.fail 4 a else s) := by unfold wholeP; rw [← hD]
      rw [← hD]
      have Hwp := Lib.hid hwp
      clear hwp hD
      have hE := Lib.hid ((hb.out.block w.heap.size (by omega)).trans HbE.out)
      have hR := Lib.hid ((hb.out.block (w.heap.size + 1) (by omega)).trans HbR.out)
      have hzr : w.heap.size + 2 ≤ wr.heap.size := by have := hb.out.size; omega
      have hX : ∀ w2, But g w w2 → Calls Tryz.prog 87 #[.slice A i cap] w2 fun e w' => ∃ K c, e = .returned (.slice K i (i + c)) ∧ RdEs w' (Or' S w2 w') K 0 (l.map Prod.fst) ∧ Below w2.heap.size w2 w' := fun w2 hb2 => by
        have := exprs_any S l A cap w2 (fun b hb => Nat.lt_of_lt_of_le (hS b hb).2 hb2.size) (by rw [← Hm.out]; exact hl) (RdPs.keep (w' := w2) (fun p hp => hb2.cell (hS _ hp).2 (fun e => by have := (hS _ hp).1; omega)) HR.out)
        rw [← Hm.out] at this
        exact this
      have hP := H.out.keep hbw.out
      obtain ⟨A0, c0, y0, y1, y2, y3, y4, yf, hc0, hm0, hr0⟩ := hP.five
      have hgr := hP.lt
      have HP := Lib.hid hP
      clear hr0 y0 y1 y2 y4 hP
      by_cases hc : s.deep + (D + 1) > 256
      · have hwp := Hwp.out
        rw [if_pos hc] at hwp
        have e1 := (cells7 hE.out).2.1
        have hF := fail_any g s 4 a wr HP.out
        obtain ⟨s2, hs2⟩ : ∃ s2, s2 = s.fail 4 a := ⟨_, rfl⟩
        rw [← hs2] at hF hwp
        clear Hwp hs2
        have Hwp := Lib.hid hwp
        clear hwp
        go_wp2_with (first
          | (go_at_call 19; refine hF.mono ?_; rintro e w2 ⟨rfl, hp2, hb2⟩; have HE2 := Lib.hid ((hb2.block w.heap.size (by omega) (by omega)).trans hE.out); have HR2 := Lib.hid ((hb2.block (w.heap.size + 1) (by omega) (by omega)).trans hR.out); have hbut2 := (But.of_below (g := g) hbw.out).trans hb2; have hX2 := hX w2 hbut2; have hz2 : w.heap.size + 2 ≤ w2.heap.size := (by have := hb2.size; omega); have Hbut2 := Lib.hid hbut2; have Hp2 := Lib.hid hp2; clear hp2 hb2 hbut2 e1)
          | (go_at_call 87; refine hX2.mono ?_; rintro e w3 ⟨K, c, rfl, hk, hb3⟩; have HE3 := (hb3.block w.heap.size (by omega)).trans HE2.out; have HR3 := (hb3.block (w.heap.size + 1) (by omega)).trans HR2.out; obtain ⟨e0, e1, e2, e3, e4, e5, e6, ef⟩ := cells7 HE3; obtain ⟨r0, r1, r2, r3, r4, r5, r6, r7, rf⟩ := cells8 HR3; have hz3 : w.heap.size + 2 ≤ w3.heap.size := (by have := hb3.size; omega); have Hk := Lib.hid hk; have Hb3 := Lib.hid hb3; clear hk hb3 HE3 HR3 hX2))
        refine bodyPost_ret (v := partV k a 0 o n x K i (i + c) (D + 1)) (by simp [results, Tryz.results110, go_sem, partV, r0, r1, r2, r3, r4, r5, r6, r7]) rfl ?_
        rw [Hwp.out, show i = (l.map Prod.fst).length by rw [List.length_map, ← Hm.out]]
        refine whole_end (w2 := w2) hS hgl ?_ ?_ (Hp2.out.keep Hb3.out) (Hbut2.out.up (Hb3.out.mono (by omega))) Hb3.out.size (by omega) Hk.out
        · intro b hb1 hb2
          repeat (with_reducible refine (Below.heap_setCell _ _ _ _ (by first | exact hb1 | exact hb2)).trans ?_)
          rfl
        · repeat (first | with_reducible exact Below.refl _ _ | with_reducible refine Below.setCell ?_ (by first | (simp; done) | (simp; omega)) _)
      · have hwp := Hwp.out
        rw [if_neg hc] at hwp
        clear Hwp
        have Hwp := Lib.hid hwp
        clear hwp
        obtain ⟨w2, hw2⟩ : ∃ w2, w2 = wr := ⟨_, rfl⟩
        have hX2 := hX w2 (hw2 ▸ But.of_below hbw.out)
        have Hbut2 := Lib.hid (hw2 ▸ But.of_below (g := g) hbw.out : But g w w2)
        have Hp2 : Hid (PAt w2 g s) := hw2 ▸ HP
        have HE2 := hE
        have HR2 := hR
        have hz2 := hzr
        subst hw2
        go_wp2_with (go_at_call 87; refine hX2.mono ?_; rintro e w3 ⟨K, c, rfl, hk, hb3⟩; have HE3 := (hb3.block w.heap.size (by omega)).trans HE2.out; have HR3 := (hb3.block (w.heap.size + 1) (by omega)).trans HR2.out; obtain ⟨e0, e1, e2, e3, e4, e5, e6, ef⟩ := cells7 HE3; obtain ⟨r0, r1, r2, r3, r4, r5, r6, r7, rf⟩ := cells8 HR3; have hz3 : w.heap.size + 2 ≤ w3.heap.size := (by have := hb3.size; omega); have Hk := Lib.hid hk; have Hb3 := Lib.hid hb3; clear hk hb3 HE3 HR3 hX2)
        refine bodyPost_ret (v := partV k a 0 o n x K i (i + c) (D + 1)) (by simp [results, Tryz.results110, go_sem, partV, r0, r1, r2, r3, r4, r5, r6, r7]) rfl ?_
        rw [Hwp.out, show i = (l.map Prod.fst).length by rw [List.length_map, ← Hm.out]]
        refine whole_end (w2 := w2) hS hgl ?_ ?_ (Hp2.out.keep Hb3.out) (Hbut2.out.up (Hb3.out.mono (by omega))) Hb3.out.size (by omega) Hk.out
        · intro b hb1 hb2
          repeat (with_reducible refine (Below.heap_setCell _ _ _ _ (by first | exact hb1 | exact hb2)).trans ?_)
          rfl
        · repeat (first | with_reducible exact Below.refl _ _ | with_reducible refine Below.setCell ?_ (by first | (simp; done) | (simp; omega)) _)
end Go.Proofs.YtiadbeglhnocoaaGreatDoor
namespace Go.Proofs.YtiadbeglhnocoaaGreatDoor
set_option linter.unusedVariables false
set_option linter.unusedSimpArgs false
open Go.RowKit

/-- A part in a block that was made for it, ahead of all that the part stands on. -/
theorem PartV.far {w W' : World} {S : Nat → Prop} {v : Value} {p : Part} (h : PartV w S v p) (hfar : ∀ b, S b → W'.heap[b]? = w.heap[b]?) : PartV W' S v p := h.keep (w' := W') (fun q hq => World.cell?_of_block (hfar q.block hq))
theorem res_end {w w2 w3 W' : World} {g : Nat} {S : Nat → Prop} {r : Part × PS} {v : Value} (hS : ∀ b, S b → g < b ∧ b < w.heap.size) (hgl : g < w.heap.size) (hbut2 : But g w w2) (hw2 : w.heap.size + 2 ≤ w2.heap.size) (hv : PartV w3 (Or' S w2 w3) v r.1) (hp : PAt w3 g r.2) (hb : But g w2 w3)
    (hfar : ∀ b, b ≠ w.heap.size → b ≠ w.heap.size + 1 → W'.heap[b]? = w3.heap[b]?) (hbe : Below w.heap.size w3 W') : WholePost g S w r (.returned v) W' := by
  have h3 := hb.size
  refine ⟨v, rfl, ?_, hp.up (hbe.mono (by omega)), (hbut2.trans hb).up hbe⟩
  refine (hv.far (fun b hb' => hfar b ?_ ?_)).more (fun b hb' => ?_)
  · rcases hb' with h1 | ⟨h1, h2⟩
    · have := (hS _ h1).2; omega
    · omega
  · rcases hb' with h1 | ⟨h1, h2⟩
    · have := (hS _ h1).2; omega
    · omega
  · have := hbe.size
    rcases hb' with h1 | ⟨h1, h2⟩
    · exact Or.inl h1
    · exact Or.inr ⟨by omega, by omega⟩
set_option maxRecDepth 100000 in
set_option maxHeartbeats 8000000 in
theorem counted_any (g : Nat) (s : PS) (S : Nat → Prop) (mn mx : Nat) (k a o n : Int) (x : ByteArray) (l : List Part) (A : Option Addr) (cap : Nat) (w : World) (h : PAt w g s) (hS : ∀ b, S b → g < b ∧ b < w.heap.size) (hl : l.length ≤ 1099511627776) (hR : RdPs w S A l)
    (hd : ∀ p ∈ l, 0 ≤ p.2 ∧ p.2 ≤ 1125899906842624) (h1 : -1099511627776 ≤ s.deep) (h2 : s.deep ≤ 1099511627776) :
    Calls Tryz.prog 112 #[.pointer (some ⟨g, 0, none⟩), .int .i64 mn, .int .i64 mx, .agg #[.int .i64 k, .int .i64 a, .int .i64 0, .int .i64 o, .int .i64 n, .string x, .slice none 0 0], .slice A l.length cap] w (WholePost g S w (countedP mn mx s k a o n x l)) := by
  have hgl := h.lt
  obtain ⟨W, hW, hbW, hzW, hbE, hbR⟩ := two_al w #[.int .i64 k, .int .i64 a, .int .i64 0, .int .i64 o, .int .i64 n, .string x, .slice none 0 0] #[.int .i64 0, .int .i64 0, .int .i64 0, .int .i64 0, .int .i64 0, .string ⟨#[]⟩, .slice none 0 0, .int .i64 0] 96 124
  have hP := h.keep hbW
  have hWh : ∀ s' w2, PAt w2 g s' → s'.deep = s.deep → But g w w2 → Calls Tryz.prog 110 #[.pointer (some ⟨g, 0, none⟩), .agg #[.int .i64 k, .int .i64 a, .int .i64 0, .int .i64 o, .int .i64 n, .string x, .slice none 0 0], .slice A l.length cap] w2 (WholePost g S w2 (wholeP s' k a o n x l)) := fun s' w2 hp hd' hb =>
    whole_any g s' S k a o n x l A cap w2 hp (fun b hb' => ⟨(hS b hb').1, Nat.lt_of_lt_of_le (hS b hb').2 hb.size⟩) hl (RdPs.keep (w' := w2) (fun p hp => hb.cell (hS _ hp).2 (fun e => by have := (hS _ hp).1; omega)) hR) hd (by omega) (by omega)
  obtain ⟨m, hm⟩ : ∃ m, m = l.length := ⟨_, rfl⟩
  obtain ⟨r, hr⟩ : ∃ r, r = countedP mn mx s k a o n x l := ⟨_, rfl⟩
  rw [← hr]
  unfold countedP at hr
  rw [← hm] at hWh hl hr ⊢
  have HbE := Lib.hid hbE
  have HbR := Lib.hid hbR
  have HbW := Lib.hid hbW
  have HP := Lib.hid hP
  by_cases hc : m < mn ∨ mx < m
  · rw [if_pos hc] at hr
    have hF := fail_any g s 2 a W hP
    have hWF := fun w2 hp hb => hWh (s.fail 2 a) w2 hp rfl hb
    rw [← hr] at hWF
    obtain ⟨s2, hs2⟩ : ∃ s2, s2 = s.fail 2 a := ⟨_, rfl⟩
    rw [← hs2] at hF hWF
    rw [hW] at hF
    have e1 := (cells7 hbE).2.1
    rw [hW] at e1
    clear hr hs2 hWh hP hbE hbR hbW hR hd h h1 h2 hm
    rcases Nat.lt_or_ge m mn with hlt | hge
    all_goals
      first
        | (have hd1 : decide (m < mn) = true := by simpa using hlt)
        | (have hd1 : decide (m < mn) = false := by simpa using hge
           have hd2 : decide (mx < m) = true := by simp; omega)
      clear hc
      go_enter Tryz.func112, Tryz.ntmps112
      go_wp2_with (first
        | (go_at_call 19; refine hF.mono ?_; rintro e w2 ⟨rfl, hp2, hb2⟩; rw [← hW] at hb2; have HE2 := Lib.hid ((hb2.block w.heap.size (by omega) (by omega)).trans HbE.out); have HR2 := Lib.hid ((hb2.block (w.heap.size + 1) (by omega) (by omega)).trans HbR.out); have hbut2 := (But.of_below (g := g) HbW.out).trans hb2; have hX2 := hWF w2 hp2 hbut2; have hz2 : w.heap.size + 2 ≤ w2.heap.size := (by have := hb2.size; omega); obtain ⟨f0, f1, f2, f3, f4, f5, f6, ff⟩ := cells7 HE2.out; have Hbut2 := Lib.hid hbut2; clear hp2 hb2 hbut2 hF hWF)
        | (go_at_call 110; refine hX2.mono ?_; rintro e w3 ⟨v, rfl, hv, hp3, hb3⟩; obtain ⟨vk, va, vt, vo, vn, vs, kids, K, c, d, hre, rfl, hk⟩ := hv; have HR3 := (hb3.block (w.heap.size + 1) (by omega) (by omega)).trans HR2.out; obtain ⟨r0, r1, r2, r3, r4, r5, r6, r7, rf⟩ := cells8 HR3; have hz3 : w.heap.size + 2 ≤ w3.heap.size := (by have := hb3.size; omega); have Hv : Hid (PartV w3 (Or' S w2 w3) (partV vk va vt vo vn vs K kids.length (kids.length + c) d) r.1) := Lib.hid ⟨vk, va, vt, vo, vn, vs, kids, K, c, d, hre, rfl, hk⟩; have Hp3 := Lib.hid hp3; have Hb3 := Lib.hid hb3; clear hk hb3 HR3 hX2 hp3 hre; unfold partV))
      refine bodyPost_ret (v := partV vk va vt vo vn vs K kids.length (kids.length + c) d) (by simp [results, Tryz.results112, go_sem, partV, r0, r1, r2, r3, r4, r5, r6, r7]) rfl ?_
      refine res_end hS hgl Hbut2.out hz2 Hv.out Hp3.out Hb3.out ?_ ?_
      · intro b hb1 hb2
        repeat (with_reducible refine (Below.heap_setCell _ _ _ _ (by first | exact hb1 | exact hb2)).trans ?_)
        rfl
      · repeat (first | with_reducible exact Below.refl _ _ | with_reducible refine Below.setCell ?_ (by first | (simp; done) | (simp; omega)) _)
  · rw [if_neg hc] at hr
    have hd1 : decide (m < mn) = false := by simp; omega
    have hd2 : decide (mx < m) = false := by simp; omega
    have hX2 := hWh s W hP rfl (But.of_below hbW)
    rw [← hr] at hX2
    have HR2 := HbR
    have Hbut2 : Hid (But g w W) := Lib.hid (But.of_below hbW)
    have hz2 : w.heap.size + 2 ≤ W.heap.size := by omega
    obtain ⟨f0, f1, f2, f3, f4, f5, f6, ff⟩ := cells7 hbE
    obtain ⟨w2, hw2⟩ : ∃ w2, w2 = W := ⟨_, rfl⟩
    rw [← hw2] at HR2 Hbut2 hz2
    have hX3 := hX2
    rw [hW] at hX2 f0 f1 f2 f3 f4 f5 f6 ff
    clear hX3 hr hWh hP hbE hbR hbW hR hd h h1 h2 hm hc
    go_enter Tryz.func112, Tryz.ntmps112
    go_wp2_with (go_at_call 110; refine hX2.mono ?_; rintro e w3 ⟨v, rfl, hv, hp3, hb3⟩; rw [← hW, ← hw2] at hv hb3; obtain ⟨vk, va, vt, vo, vn, vs, kids, K, c, d, hre, rfl, hk⟩ := hv; have HR3 := (hb3.block (w.heap.size + 1) (by omega) (by omega)).trans HR2.out; obtain ⟨r0, r1, r2, r3, r4, r5, r6, r7, rf⟩ := cells8 HR3; have hz3 : w.heap.size + 2 ≤ w3.heap.size := (by have := hb3.size; omega); have Hv : Hid (PartV w3 (Or' S w2 w3) (partV vk va vt vo vn vs K kids.length (kids.length + c) d) r.1) := Lib.hid ⟨vk, va, vt, vo, vn, vs, kids, K, c, d, hre, rfl, hk⟩; have Hp3 := Lib.hid hp3; have Hb3 := Lib.hid hb3; clear hk hb3 HR3 hX2 hp3 hre; unfold partV)
    refine bodyPost_ret (v := partV vk va vt vo vn vs K kids.length (kids.length + c) d) (by simp [results, Tryz.results112, go_sem, partV, r0, r1, r2, r3, r4, r5, r6, r7]) rfl ?_
    refine res_end hS hgl Hbut2.out hz2 Hv.out Hp3.out Hb3.out ?_ ?_
    · intro b hb1 hb2
      repeat (with_reducible refine (Below.heap_setCell _ _ _ _ (by first | exact hb1 | exact hb2)).trans ?_)
      rfl
    · repeat (first | with_reducible exact Below.refl _ _ | with_reducible refine Below.setCell ?_ (by first | (simp; done) | (simp; omega)) _)
end Go.Proofs.YtiadbeglhnocoaaGreatDoor
