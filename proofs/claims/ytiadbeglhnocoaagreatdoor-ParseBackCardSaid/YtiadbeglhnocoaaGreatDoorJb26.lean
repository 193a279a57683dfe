/-
  A row of one part, and a list of parts behind it.
  All that a part is indexed by.
-/
import Derived.Test.YtiadbeglhnocoaaGreatDoorJb25
import Derived.Maps.AppendAt
namespace Go.Proofs.YtiadbeglhnocoaaGreatDoor
set_option linter.unusedVariables false
set_option linter.unusedSimpArgs false
open Go.RowKit

/-- The cells of a row of parts, as a list. -/
theorem cells_of_row {w : World} {S : Nat → Prop} {r : Nat} : ∀ (l : List Part) (o : Nat), (∀ i p, l[i]? = some p → RdP w S (fun j => w.cell? ⟨r, o + i * 8 + j, none⟩) p) →
    ∃ news : List Value, news.length = l.length * 8 ∧ (∀ j u, news[j]? = some u → w.cell? ⟨r, o + j, none⟩ = some u) ∧ (∀ u ∈ news, u.oneCell' = true) ∧ ∀ i p, l[i]? = some p → RdP w S (fun j => news[i * 8 + j]?) p
  | [], o, _ => ⟨[], rfl, fun j u h => by simp at h, fun u h => by simp at h, fun i p h => by simp at h⟩
  | p :: l, o, h => by
    obtain ⟨news, h1, h2, h3, h4⟩ := cells_of_row l (o + 8) (fun i q hq => by
      have := h (i + 1) q (by simpa using hq)
      rw [show o + (i + 1) * 8 = o + 8 + i * 8 by omega] at this
      exact this)
    obtain ⟨hE, x7⟩ := h 0 p rfl
    obtain ⟨⟨k, a, t, q, m, s, kids⟩, d⟩ := p
    unfold RdE at hE
    obtain ⟨x0, x1, x2, x3, x4, x5, K, ck, x6, hK⟩ := hE
    rw [Nat.zero_mul, Nat.add_zero] at x0 x1 x2 x3 x4 x5 x6 x7
    have hlen : ∀ j, 8 ≤ j → ([.int .i64 k, .int .i64 a, .int .i64 t, .int .i64 q, .int .i64 m, .string s, .slice K kids.length (kids.length + ck), .int .i64 d] ++ news)[j]? = news[j - 8]? := fun j hj => by
      rw [List.getElem?_append_right (by simpa using hj)]; rfl
    refine ⟨[.int .i64 k, .int .i64 a, .int .i64 t, .int .i64 q, .int .i64 m, .string s, .slice K kids.length (kids.length + ck), .int .i64 d] ++ news, by simp [h1]; omega, fun j u hu => ?_, fun u hu => ?_, fun i q' hq => ?_⟩
    · by_cases hj : 8 ≤ j
      · rw [hlen j hj] at hu
        have := h2 _ _ hu
        rw [show o + 8 + (j - 8) = o + j by omega] at this
        exact this
      · match j, hj with
        | 0, _ => simp at hu; subst hu; exact x0
        | 1, _ => simp at hu; subst hu; exact x1
        | 2, _ => simp at hu; subst hu; exact x2
        | 3, _ => simp at hu; subst hu; exact x3
        | 4, _ => simp at hu; subst hu; exact x4
        | 5, _ => simp at hu; subst hu; exact x5
        | 6, _ => simp at hu; subst hu; exact x6
        | 7, _ => simp at hu; subst hu; exact x7
        | n + 8, hj => omega
    · rw [List.mem_append] at hu
      rcases hu with hu | hu
      · exact eight_one k a t q m s K kids.length (kids.length + ck) d u hu
      · exact h3 u hu
    · cases i with
      | zero =>
        simp at hq
        subst hq
        refine ⟨?_, by simp⟩
        unfold RdE
        refine ⟨by simp, by simp, by simp, by simp, by simp, by simp, K, ck, by simp, hK⟩
      | succ i =>
        refine (h4 i q' (by simpa using hq)).cells (fun j hj => ?_)
        rw [hlen _ (by omega), show (i + 1) * 8 + j - 8 = i * 8 + j by omega]
/-- The cells of a list of parts, whether there are any or not. -/
theorem parts_news {w : World} {S : Nat → Prop} {A : Option Addr} {l : List Part} (h : RdPs w S A l) : ∃ news : List Value, news.length = l.length * 8 ∧ (0 < l.length → ∃ ad, A = some ad ∧ ∀ j u, news[j]? = some u → w.cell? (ad.add j) = some u) ∧ (∀ u ∈ news, u.oneCell' = true) ∧ ∀ i p, l[i]? = some p → RdP w S (fun j => news[i * 8 + j]?) p := by
  cases l with
  | nil => exact ⟨[], rfl, fun h => by simp at h, fun u h => by simp at h, fun i p h => by simp at h⟩
  | cons p r =>
    obtain ⟨b, o, hA, _, hx⟩ := h (by simp)
    obtain ⟨news, h1, h2, h3, h4⟩ := cells_of_row (p :: r) o hx
    refine ⟨news, h1, fun _ => ⟨⟨b, o, none⟩, hA, fun j u hu => ?_⟩, h3, h4⟩
    rw [show (⟨b, o, none⟩ : Addr).add j = ⟨b, o + j, none⟩ by unfold Addr.add; split <;> simp_all]
    exact h2 j u hu
/-- append, the source nil or not. -/
theorem app_run (w : World) (ty : TypeId) (base : Nat) (v : Value) (n : Nat) (xs : List Value) (hown : w.ownsRow base 124 8 v n xs) (A : Option Addr) (m c : Nat) (news : List Value) (hl : news.length = m * 8)
    (hA : 0 < m → ∃ ad, A = some ad ∧ ∀ j u, news[j]? = some u → w.cell? (ad.add j) = some u) (h1 : ∀ u ∈ news, u.oneCell' = true) (h63 : n + m ≤ 1099511627776) (hbase : base ≤ w.heap.size) :
    ∃ v' w', (Builtin.append_ #[133, 133] ty #[v, .slice A m c]).run Tryz.prog w = .ok v' w' ∧ w'.ownsRow base 124 8 v' (n + m) (xs ++ news) ∧ w.grownBy w' v.ownBlock ∧ (v'.ownBlock = v.ownBlock ∨ v'.ownBlock = some w.heap.size) := by
  obtain ⟨i0, hi, hz0, hz1, hz2⟩ := info_parts infoPart
  cases A with
  | none =>
    have hm : m = 0 := by
      rcases Nat.eq_zero_or_pos m with h | h
      · exact h
      · obtain ⟨_, h, _⟩ := hA h; cases h
    subst hm
    have hn : news = [] := List.eq_nil_of_length_eq_zero (by simpa using hl)
    subst hn
    refine ⟨v, w, ?_, by simpa using hown, World.grownBy.refl w _, .inl rfl⟩
    rcases hown.2 with ⟨rfl, rfl⟩ | ⟨g, cap, cur, rfl, _, _, hnc, _⟩
    · simp [Builtin.append_, run_underlying Tryz.underlying133, sizeOf, typeInfo, hi, Builtin.lenOf, Builtin.firstCells]
    · simp [Builtin.append_, run_underlying Tryz.underlying133, sizeOf, typeInfo, hi, Builtin.lenOf, Builtin.firstCells, hnc, storeCells]
  | some ad =>
    have hcells : ∀ j u, news[j]? = some u → w.cell? (ad.add j) = some u := fun j u hu => by
      have hm : 0 < m := by
        have := (List.getElem?_eq_some_iff.mp hu).1
        omega
      obtain ⟨ad', h, hc⟩ := hA hm
      rw [Option.some.inj h]
      exact hc j u hu
    obtain ⟨v', w', hrun, h2, h3, _, h5⟩ := run_append_own_at (P := Tryz.prog) w base 133 ty 124 i0 (.agg #[.int .i64 0, .int .i64 0, .int .i64 0, .int .i64 0, .int .i64 0, .string ⟨#[]⟩, .slice none 0 0, .int .i64 0]) 8 88 Tryz.underlying133 hi hz0 hz1 hz2 rfl (by decide) v n xs hown ad m c news hl hcells h1 (by unfold maxLen; omega) (by omega) hbase
    exact ⟨v', w', hrun, h2, h3, h5⟩
theorem app_step {w : World} {ops : Array Oper} {o : Oper} {a : Act} {K : Act → World → Prop} {Q : Exit → Act → World → Prop} {E : Prop} (hgd : o.guard = none) (s x : Operand)
    (ho : o.op = .call { callee := .builtin .append, args := #[s, x], argTypes := #[133, 133] })
    (base : Nat) (v : Value) (n : Nat) (xs : List Value) (hs : a.eval s = v) (hown : w.ownsRow base 124 8 v n xs) (A : Option Addr) (m c : Nat) (news : List Value) (hx : a.eval x = .slice A m c) (hl : news.length = m * 8)
    (hA : 0 < m → ∃ ad, A = some ad ∧ ∀ j u, news[j]? = some u → w.cell? (ad.add j) = some u) (h1 : ∀ u ∈ news, u.oneCell' = true) (h63 : n + m ≤ 1099511627776) (hbase : base ≤ w.heap.size)
    (h : ∀ v' w', w'.ownsRow base 124 8 v' (n + m) (xs ++ news) → w.grownBy w' v.ownBlock → (v'.ownBlock = v.ownBlock ∨ v'.ownBlock = some w.heap.size) → K (a.put o.dst v') w') :
    if Region.wanted o (yielded ops a.tmps) = true then Oper.wp Tryz.prog o a w K Q else E := by
  have hw : Region.wanted o (yielded ops a.tmps) = true := by simp [Region.wanted, hgd]
  rw [if_pos hw]
  obtain ⟨v', w', hrun, h2, h3, h4⟩ := app_run w o.type base v n xs hown A m c news hl hA h1 h63 hbase
  unfold Oper.wp execOp
  simp only [ho, resolve, invoke, builtin, Sem.run_bind, Sem.run_pure, Result.andThen_ok, List.map_toArray, List.map_cons, List.map_nil, hs, hx, hrun]
  exact h v' w' h2 h3 h4
/-- Behind it: a row of the part and the list. -/
theorem idx_mid {w wr w5 w6 : World} {g B : Nat} {S Sl : Nat → Prop} {k a t o n : Int} {s : ByteArray} {kids : List Ex} {K : Option Addr} {c : Nat} {d : Int} {l : List Part} {news : List Value} {v' : Value}
    (hgw : g < w.heap.size) (hS : ∀ b, S b → g < b ∧ b < w.heap.size) (hw : w.heap.size + 2 ≤ wr.heap.size) (hk : RdEs wr (fun b => S b ∨ (w.heap.size + 2 ≤ b ∧ b < wr.heap.size)) K 0 kids)
    (hb : But g wr w5) (hB : wr.heap.size ≤ B) (hl : ∀ i p, l[i]? = some p → RdP w5 Sl (fun j => news[i * 8 + j]?) p) (hSl : ∀ b, Sl b → wr.heap.size ≤ b ∧ b < w5.heap.size ∧ b ≠ B)
    (ho : w6.ownsRow wr.heap.size 124 8 v' (1 + l.length) ([.int .i64 k, .int .i64 a, .int .i64 t, .int .i64 o, .int .i64 n, .string s, .slice K kids.length (kids.length + c), .int .i64 d] ++ news)) (hgr : w5.grownBy w6 (some B)) :
    ∃ A' c', v' = .slice A' (l.length + 1) c' ∧ RdPs w6 (fun b => S b ∨ (w.heap.size + 2 ≤ b ∧ b < w6.heap.size)) A' ((.mk k a t o n s kids, d) :: l) ∧ But g wr w6 := by
  obtain ⟨g', c', hv, hg1, hg2⟩ := ho.form (by omega)
  subst hv
  have hs6 := hgr.size
  have hs5 := hb.size
  have hcell : ∀ q : Addr, q.block < w5.heap.size → q.block ≠ B → w6.cell? q = w5.cell? q := fun q h1 h2 => hgr.cell_far q h1 (fun e => h2 (Option.some.inj e))
  have hbut : But g wr w6 := ⟨hgr.os.trans hb.os, hgr.tape.trans hb.tape, hgr.output.trans hb.output, by omega, fun b h1 h2 => (hgr.block b (by omega) (fun e => by have := Option.some.inj e; omega)).trans (hb.block b h1 h2)⟩
  refine ⟨some ⟨g', 0, none⟩, c', by rw [Nat.add_comm], fun _ => ⟨g', 0, rfl, Or.inr ⟨by omega, hg2⟩, fun i p hp => ?_⟩, hbut⟩
  have hlen : ∀ j, 8 ≤ j → ([.int .i64 k, .int .i64 a, .int .i64 t, .int .i64 o, .int .i64 n, .string s, .slice K kids.length (kids.length + c), .int .i64 d] ++ news)[j]? = news[j - 8]? := fun j hj => by
    rw [List.getElem?_append_right (by simpa using hj)]; rfl
  have hat : ∀ i j, i < 1 + l.length → j < 8 → w6.cell? ⟨g', 0 + i * 8 + j, none⟩ = ([.int .i64 k, .int .i64 a, .int .i64 t, .int .i64 o, .int .i64 n, .string s, .slice K kids.length (kids.length + c), .int .i64 d] ++ news)[i * 8 + j]? := fun i j hi hj => by
    rw [show 0 + i * 8 + j = i * 8 + j by omega]
    exact ho.cellAt _ (by omega)
  have hi : i < l.length + 1 := by simpa using (List.getElem?_eq_some_iff.mp hp).1
  cases i with
  | zero =>
    simp at hp
    subst hp
    have hk6 := RdEs.more (S' := fun b => S b ∨ (w.heap.size + 2 ≤ b ∧ b < w6.heap.size)) (fun b hb' => by
      rcases hb' with h1 | ⟨h1, h2⟩
      · exact Or.inl h1
      · exact Or.inr ⟨h1, by omega⟩) _ _ _ (RdEs.keep (w' := w6) (fun q hq => hbut.cell (by rcases hq with h1 | ⟨_, h2⟩; exact Nat.lt_of_lt_of_le (hS _ h1).2 (by omega); exact h2) (fun e => by rcases hq with h1 | ⟨h1, _⟩; have := (hS _ h1).1; omega; omega)) _ _ _ hk)
    have : RdP w6 (fun b => S b ∨ (w.heap.size + 2 ≤ b ∧ b < w6.heap.size)) (fun j => ([.int .i64 k, .int .i64 a, .int .i64 t, .int .i64 o, .int .i64 n, .string s, .slice K kids.length (kids.length + c), .int .i64 d] ++ news)[j]?) (.mk k a t o n s kids, d) := by
      refine ⟨?_, by simp⟩
      unfold RdE
      exact ⟨by simp, by simp, by simp, by simp, by simp, by simp, K, c, by simp, hk6⟩
    refine this.cells (fun j hj => ?_)
    have := hat 0 j (by omega) hj
    rw [Nat.zero_mul, Nat.zero_add] at this
    rw [Nat.zero_mul]
    simpa using this
  | succ i =>
    have h1 := hl i p (by simpa using hp)
    have h2 := RdP.keep (w' := w6) (fun q hq => hcell q (hSl _ hq).2.1 (hSl _ hq).2.2) h1
    have h3 := h2.more (S' := fun b => S b ∨ (w.heap.size + 2 ≤ b ∧ b < w6.heap.size)) (fun b hb' => Or.inr ⟨by have := (hSl _ hb').1; omega, by have := (hSl _ hb').2.1; omega⟩)
    refine h3.cells (fun j hj => ?_)
    rw [hat (i + 1) j (by omega) hj, hlen _ (by omega), show (i + 1) * 8 + j - 8 = i * 8 + j by omega]
end Go.Proofs.YtiadbeglhnocoaaGreatDoor
namespace Go.Proofs.YtiadbeglhnocoaaGreatDoor
set_option linter.unusedVariables false
set_option linter.unusedSimpArgs false
open Go.RowKit

/-- What is there at the head of the loop. -/
structure HeadI (g : Nat) (w : World) (S : Nat → Prop) (k : Nat) (r : Part × PS) (j : Nat) (sl : PS) (wr : World) : Prop where
  at_ : PAt wr g sl
  ok : Ok k sl
  but : But g w wr
  res : wr.heap[w.heap.size + 1]? = some (.cells #[.int .i64 0, .int .i64 0, .int .i64 0, .int .i64 0, .int .i64 0, .string ⟨#[]⟩, .slice none 0 0, .int .i64 0] 124 (0, 0))
  left : ∃ qk qa qt qo qn qs qkids QK qc qd, indexK j (.mk qk qa qt qo qn qs qkids, qd) sl = some r ∧ 0 ≤ qd ∧ qd ≤ mostD k + ((k : Int) - j) ∧ wr.heap[w.heap.size]? = some (.cells #[.int .i64 qk, .int .i64 qa, .int .i64 qt, .int .i64 qo, .int .i64 qn, .string qs, .slice QK qkids.length (qkids.length + qc), .int .i64 qd] 124 (0, 0)) ∧ RdEs wr (fun b => S b ∨ (w.heap.size + 2 ≤ b ∧ b < wr.heap.size)) QK 0 qkids
  hj : j ≤ k
theorem idx_end {w w3 W' : World} {g : Nat} {S : Nat → Prop} {r : Part × PS} {v : Value} (hS : ∀ b, S b → g < b ∧ b < w.heap.size) (hgl : g < w.heap.size) (hv : PartV w3 (fun b => S b ∨ (w.heap.size + 2 ≤ b ∧ b < w3.heap.size)) v r.1) (hp : PAt w3 g r.2) (hbut : But g w w3)
    (hfar : ∀ b, b ≠ w.heap.size + 1 → W'.heap[b]? = w3.heap[b]?) (hbe : Below w.heap.size w3 W') : WholePost g S w r (.returned v) W' := by
  refine ⟨v, rfl, ?_, hp.up (hbe.mono (by omega)), hbut.up hbe⟩
  refine (hv.far (fun b hb' => hfar b ?_)).more (fun b hb' => ?_)
  · rcases hb' with h1 | ⟨h1, h2⟩
    · have := (hS _ h1).2; omega
    · omega
  · have := hbe.size
    rcases hb' with h1 | ⟨h1, h2⟩
    · exact Or.inl h1
    · exact Or.inr ⟨by omega, by omega⟩
theorem grown_below {w w' : World} {g B : Nat} (h : w.grownBy w' (some B)) (hg : g < B) (hgl : g < w.heap.size) : Below (g + 1) w w' := ⟨h.os, h.tape, h.output, h.size, fun k hk => h.block k (by omega) (fun e => by have := Option.some.inj e; omega)⟩
set_option maxRecDepth 100000 in
set_option maxHeartbeats 16000000 in
theorem indexed_any (k : Nat) (HP : ∀ j, j < k → PrsC j) : InC k := by
  intro hk24 g f v S s r w hr hok h hv hS hf0 hf1
  have hgl := h.lt
  obtain ⟨qk, qa, qt, qo, qn, qs, qkids, QK, qc, qd, hfe, rfl, hqk⟩ := hv
  unfold partV
  obtain ⟨W, hW, hbW, hzW, hbF, hbR⟩ := two_al w #[.int .i64 qk, .int .i64 qa, .int .i64 qt, .int .i64 qo, .int .i64 qn, .string qs, .slice QK qkids.length (qkids.length + qc), .int .i64 qd] #[.int .i64 0, .int .i64 0, .int .i64 0, .int .i64 0, .int .i64 0, .string ⟨#[]⟩, .slice none 0 0, .int .i64 0] 124 124
  have HHead : Hid (HeadI g w S k r k s W) := by
    refine Lib.hid ⟨h.keep hbW, hok, But.of_below hbW, hbR, ⟨qk, qa, qt, qo, qn, qs, qkids, QK, qc, qd, by rw [← hfe]; exact hr, by rw [hfe] at hf0; exact hf0, by rw [hfe] at hf1; simp only at hf1 ⊢; omega, hbF, ?_⟩, Nat.le_refl _⟩
    exact RdEs.more (fun b hb => Or.inl hb) _ _ _ (RdEs.keep (w' := W) (fun q hq => hbW.cell (hS _ hq).2) _ _ _ hqk)
  have HS := Lib.hid hS
  have hmk : mostD k + k ≤ 1125899906842624 := by
    have h1 := mostD_le (k := k + 1) (by omega)
    have h2 := mostD_succ k
    omega
  have hk25 := hok.1
  clear hfe hf0 hf1 hqk hr hok h hbF hbR hbW hzW hS
  go_enter Tryz.func97, Tryz.ntmps97
  go_wp2
  rw [← hW]
  clear hW
  go_loopg [] k (fun gk wr => Hid (∃ sl, HeadI g w S k r gk sl wr))
  case atStart => exact Lib.hid ⟨s, HHead.out⟩
  case round =>
    obtain ⟨sl, hd⟩ := hrel.out
    obtain ⟨hat, hokl, hbutl, hresl, ⟨qk, qa, qt, qo, qn, qs, qkids, QK, qc, qd, hlp, hq0, hq1, hLl, hql⟩, hjl⟩ := hd
    have hrl := heap_lt hresl
    obtain ⟨x0, x1, x2, x3, x4, x5, x6, x7, xf⟩ := cells8 hLl
    cases gk with
    | zero => simp [indexK] at hlp
    | succ j =>
      simp only [indexK] at hlp
      clear hrel HHead
      have hI := is_any g sl ([91] : List UInt8) wr hat
      by_cases hx : sl.isB ([91] : List UInt8) = true
      · rw [if_pos hx] at hlp
        rw [hx] at hI
        cases hb : partsK j ([91] : List UInt8) ([93] : List UInt8) sl with
        | none => rw [hb] at hlp; cases hlp
        | some q =>
          rw [hb] at hlp
          obtain ⟨l, s1⟩ := q
          simp only at hlp
          obtain ⟨hev, hlk, hdp⟩ := (pure_all j).parts _ _ _ _ hb
          simp only at hev hlk hdp
          have hjk : j < k := by omega
          have hN := fun w2 (hp2 : PAt w2 g sl) => now_any g sl w2 hp2
          have hPr := fun w2 (hp2 : PAt w2 g sl) => HP j hjk g ([91] : List UInt8) ([93] : List UInt8) sl (l, s1) w2 hb (hokl.less (by omega)) hp2
          obtain ⟨t, hnow⟩ : ∃ t, t = sl.now := ⟨_, rfl⟩
          rw [← hnow] at hlp hN
          obtain ⟨tk, ta, tn, tb⟩ := t
          unfold tkV at hN
          simp only at hlp hN
          have f1 := tok_f1 tk ta tn ⟨tb.toArray⟩
          have Hdep := Lib.hid (show (∀ p ∈ (((.mk qk qa qt qo qn qs qkids, qd) : Part) :: l), 0 ≤ p.2 ∧ p.2 ≤ 1125899906842624) ∧ -1099511627776 ≤ s1.deep ∧ s1.deep ≤ 1099511627776 ∧ Ok k s1 ∧ l.length ≤ 33554432 from by
            have hm := mostD_mono (Nat.le_of_lt hjk)
            have hok2 := hokl.even hev
            have hok3 := hok2
            unfold Ok at hok3
            refine ⟨fun p hp => ?_, by omega, by omega, hok2, by omega⟩
            simp only [List.mem_cons] at hp
            rcases hp with rfl | hp
            · exact ⟨hq0, by simp only; omega⟩
            · have := hdp p hp; exact ⟨this.1, by omega⟩)
          have Hmax := Lib.hid (show ∀ p ∈ (((.mk qk qa qt qo qn qs qkids, qd) : Part) :: l), p.2 ≤ mostD k + ((k : Int) - (j + 1)) from by
            have hm := mostD_mono (Nat.le_of_lt hjk)
            intro p hp
            simp only [List.mem_cons] at hp
            rcases hp with rfl | hp
            · simp only; omega
            · have := hdp p hp; omega)
          have Hlp := Lib.hid hlp
          have Hat := Lib.hid hat
          have Hbutl := Lib.hid hbutl
          have Hresl := Lib.hid hresl
          have HLl := Lib.hid hLl
          have Hql := Lib.hid hql
          clear hnow hlp hbutl hresl hLl hql hat hokl hb hx hev hlk hdp hq0 hq1
          go_upto_region 3 with (first
            | (go_at_call 61; refine hI.mono ?_; rintro e w1 ⟨rfl, hb1⟩; have hN1 := hN w1 (Hat.out.keep hb1); have Hb1 := Lib.hid hb1; clear hb1 hI hN)
            | (go_at_call 18; refine hN1.mono ?_; rintro e w2 ⟨rfl, hb2⟩; have Hb2 := Lib.hid (Hb1.out.trans (hb2.mono Hb1.out.size)); clear hb2 hN1))
          obtain ⟨W3, hW3, hbW3, hzW3, hbE3⟩ := one_al w2 #[.int .i64 9, .int .i64 ta, .int .i64 0, .int .i64 0, .int .i64 0, .string ⟨#[]⟩, .slice none 0 0] 96
          rw [← hW3]
          clear hW3 x0 x1 x2 x3 x4 x5 x6 x7 xf f1
          have hz2 := Hb2.out.size
          have hd3 : Below wr.heap.size wr W3.drew := (Hb2.out.trans (hbW3.mono hz2)).drew
          have hp3 : PAt W3.drew g sl := Hat.out.keep hd3
          have hL3 := (hd3.block w.heap.size (by omega)).trans HLl.out
          have hE3 : W3.drew.heap[w2.heap.size]? = some (.cells #[.int .i64 9, .int .i64 ta, .int .i64 0, .int .i64 0, .int .i64 0, .string ⟨#[]⟩, .slice none 0 0] 96 (0, 0)) := hbE3
          have hz3 : W3.drew.heap.size = w2.heap.size + 1 := hzW3
          obtain ⟨D3, hD3⟩ : ∃ D3, D3 = W3.drew := ⟨_, rfl⟩
          have hbut3 : But g wr D3 := by rw [hD3]; exact But.of_below hd3
          rw [← hD3] at hp3 hL3 hE3 hz3
          obtain ⟨b0', b1', b2', b3', b4', b5', b6', b7', _⟩ := cells8 hL3
          have b0 := And.intro b0' (And.intro b1' (And.intro b2' (And.intro b3' (And.intro b4' (And.intro b5' (And.intro b6' b7'))))))
          have Hbut3 := Lib.hid hbut3
          have HE3 := Lib.hid hE3
          have HL3 := Lib.hid hL3
          have Hp3 := Lib.hid hp3
          have HD3 := Lib.hid hD3
          rw [hD3] at b0
          clear hbW3 hbE3 hbut3 hE3 hL3 hp3 hd3 hD3 b0' b1' b2' b3' b4' b5' b6' b7'
          refine wp_region_held_drew (S := (fun w' => w'.cell? ⟨w.heap.size, 0, none⟩ = some (.int .i64 qk) ∧ w'.cell? ⟨w.heap.size, 1, none⟩ = some (.int .i64 qa) ∧ w'.cell? ⟨w.heap.size, 2, none⟩ = some (.int .i64 qt) ∧ w'.cell? ⟨w.heap.size, 3, none⟩ = some (.int .i64 qo) ∧ w'.cell? ⟨w.heap.size, 4, none⟩ = some (.int .i64 qn) ∧ w'.cell? ⟨w.heap.size, 5, none⟩ = some (.string qs) ∧ w'.cell? ⟨w.heap.size, 6, none⟩ = some (.slice QK qkids.length (qkids.length + qc)) ∧ w'.cell? ⟨w.heap.size, 7, none⟩ = some (.int .i64 qd))) (by kernel_rfl) b0 (fun hHeld => ?_)
          refine wpAnyH_take (i := 0) (v := ?_) rfl (by kernel_rfl) (by kernel_rfl) (by kernel_rfl) (fun _ _ _ h => h) (Or.inl ⟨by rfl, ?_⟩) (by assumption) ?_
          rotate_left
          · (intro w hSw; (try dsimp only at hSw); first | (go_simp; done) | (go_simp; with_reducible rfl))
          try simp only [Act.put, List.setIfInBounds_toArray, List.set_cons_zero, List.set_cons_succ]
          refine wpAnyH_take (i := 2) (v := ?_) rfl (by kernel_rfl) (by kernel_rfl) (by kernel_rfl) (fun _ _ _ h => h) (Or.inl ⟨by rfl, ?_⟩) (by assumption) ?_
          rotate_left
          · (intro w hSw; (try dsimp only at hSw); first | (go_simp; done) | (go_simp; with_reducible rfl))
          try simp only [Act.put, List.setIfInBounds_toArray, List.set_cons_zero, List.set_cons_succ]
          refine wpAnyH_ready (rs := [1, 3]) (by kernel_rfl) (by simp) ?_
          refine AllReadyH.cons rfl (fun K hK => ?_) (AllReadyH.cons rfl (fun K hK => ?_) (AllReadyH.nil))
          · go_simp
            obtain ⟨W4, hW4, hbW4, hzW4, hbP4⟩ := one_al W3 #[.int .i64 qk, .int .i64 qa, .int .i64 qt, .int .i64 qo, .int .i64 qn, .string qs, .slice QK qkids.length (qkids.length + qc), .int .i64 qd] 124
            have hd4 : Below D3.heap.size D3 W4.drew := by rw [HD3.out]; exact ⟨hbW4.os, hbW4.tape, hbW4.output, hbW4.size, hbW4.block⟩
            have hP4 : W4.drew.heap[W3.heap.size]? = some (.cells #[.int .i64 qk, .int .i64 qa, .int .i64 qt, .int .i64 qo, .int .i64 qn, .string qs, .slice QK qkids.length (qkids.length + qc), .int .i64 qd] 124 (0, 0)) := hbP4
            have hz4 : W4.drew.heap.size = W3.heap.size + 1 := hzW4
            rw [← hW4]
            obtain ⟨D4, hD4⟩ : ∃ D4, D4 = W4.drew := ⟨_, rfl⟩
            rw [← hD4]
            rw [← hD4] at hd4 hP4 hz4
            have hLX := (hd4.block w.heap.size (by omega)).trans HL3.out
            obtain ⟨d0', d1', d2', d3', d4', d5', d6', d7', _⟩ := cells8 hLX
            have sA := And.intro d0' (And.intro d1' (And.intro d2' (And.intro d3' (And.intro d4' (And.intro d5' (And.intro d6' d7'))))))
            clear d0' d1' d2' d3' d4' d5' d6' d7' hLX
            have hPr4 := hPr D4 (Hp3.out.keep hd4)
            have HE4 := Lib.hid ((hd4.block w2.heap.size (by omega)).trans HE3.out)
            have Hbut4 := Lib.hid (Hbut3.out.trans (But.of_below hd4))
            have HL4 := Lib.hid ((hd4.block w.heap.size (by omega)).trans HL3.out)
            have HP4 := Lib.hid hP4
            clear hW4 hD4 hbW4 hbP4 hzW4 hd4 hP4 hPr
            refine hK.out _ _ ?_ (fun hHeld => ?_)
            · ((try dsimp only); first | with_reducible exact b0 | with_reducible exact sA | with_reducible exact sC | with_reducible exact sB)
            clear hK K
            try simp only [Act.put, List.setIfInBounds_toArray, List.set_cons_zero, List.set_cons_succ]
            refine wpAnyH_ready (rs := [3]) (by kernel_rfl) (by simp) ?_
            refine AllReadyH.cons rfl (fun K hK => ?_) (AllReadyH.nil)
            go_simp
            with_reducible refine hPr4.mono ?_
            rintro e w5 ⟨A, cap, rfl, hc1, hc2, hrd, hp5, hb5⟩
            simp only at hp5 hrd
            have hz5 := hb5.size
            have Hbut5 := Lib.hid (Hbut4.out.trans hb5)
            have HE5 := Lib.hid ((hb5.block w2.heap.size (by omega) (by omega)).trans HE4.out)
            have hLX := (hb5.block w.heap.size (by omega) (by omega)).trans HL4.out
            obtain ⟨d0', d1', d2', d3', d4', d5', d6', d7', _⟩ := cells8 hLX
            have sC := And.intro d0' (And.intro d1' (And.intro d2' (And.intro d3' (And.intro d4' (And.intro d5' (And.intro d6' d7'))))))
            clear d0' d1' d2' d3' d4' d5' d6' d7' hLX
            have hrow := (hb5.block W3.heap.size (by omega) (by omega)).trans HP4.out
            have HSl := Lib.hid (show ∀ b, From D4.heap.size w5 b → wr.heap.size ≤ b ∧ b < w5.heap.size ∧ b ≠ W3.heap.size from fun b hb => ⟨by have := hb.1; omega, hb.2, by have := hb.1; omega⟩)
            have Hp5 := Lib.hid hp5
            have hown : w5.ownsRow wr.heap.size 124 8 (.slice (some ⟨W3.heap.size, 0, none⟩) 1 1) 1 [.int .i64 qk, .int .i64 qa, .int .i64 qt, .int .i64 qo, .int .i64 qn, .string qs, .slice QK qkids.length (qkids.length + qc), .int .i64 qd] := ⟨by simp, Or.inr ⟨W3.heap.size, 1, #[.int .i64 qk, .int .i64 qa, .int .i64 qt, .int .i64 qo, .int .i64 qn, .string qs, .slice QK qkids.length (qkids.length + qc), .int .i64 qd], rfl, by omega, hrow, Nat.le_refl _, by unfold maxLen; omega, by simp, by simp⟩⟩
            obtain ⟨news, hn1, hn2, hn3, hn4⟩ := parts_news hrd
            have Hn4 := Lib.hid hn4
            have Hown := Lib.hid hown
            have HrX := Lib.hid hrow
            clear hn4 hown hrd hrow
            clear hp5 hb5 hPr4 hc1 hc2
            refine hK.out _ _ ?_ (fun hHeld => ?_)
            · ((try dsimp only); first | with_reducible exact b0 | with_reducible exact sA | with_reducible exact sC | with_reducible exact sB)
            clear hK K
            try simp only [Act.put, List.setIfInBounds_toArray, List.set_cons_zero, List.set_cons_succ]
            refine wpAnyH_ready (rs := [4]) (by kernel_rfl) (by simp) ?_
            refine AllReadyH.cons rfl (fun K hK => ?_) (AllReadyH.nil)
            refine app_step rfl (.tmp 14) (.tmp 16) rfl wr.heap.size (.slice (some ⟨W3.heap.size, 0, none⟩) 1 1) 1 [.int .i64 qk, .int .i64 qa, .int .i64 qt, .int .i64 qo, .int .i64 qn, .string qs, .slice QK qkids.length (qkids.length + qc), .int .i64 qd] (by simp [Act.eval, Act.put]) Hown.out A l.length cap news (by simp [Act.eval, Act.put]) hn1 hn2 hn3 (by have := Hdep.out.2.2.2.2; omega) (by omega) ?_
            intro v7 w7 hown7 hgr7 hat7
            replace hgr7 : w5.grownBy w7 (some W3.heap.size) := hgr7
            have hp7 := Hp5.out.up (grown_below (g := g) hgr7 (by omega) (by omega))
            obtain ⟨A7, c7, rfl, hr7, hbut7⟩ := idx_mid hgl HS.out (by omega) Hql.out Hbut5.out (by omega) Hn4.out HSl.out hown7 hgr7
            have hE7 := (hgr7.block w2.heap.size (by omega) (fun e => by have := Option.some.inj e; omega)).trans HE5.out
            have hL7 := (hbut7.block w.heap.size (by omega) (by omega)).trans HLl.out
            obtain ⟨c0', c1', c2', c3', c4', c5', c6', c7', _⟩ := cells8 hL7
            have sB := And.intro c0' (And.intro c1' (And.intro c2' (And.intro c3' (And.intro c4' (And.intro c5' (And.intro c6' c7'))))))
            have hz7 : wr.heap.size ≤ w7.heap.size := hbut7.size
            have hz72 : w2.heap.size < w7.heap.size := heap_lt hE7
            have Hp7 := Lib.hid hp7
            have Hr7 := Lib.hid hr7
            have Hbut7 := Lib.hid hbut7
            have HE7 := Lib.hid hE7
            have HL7 := Lib.hid hL7
            clear hown7 hgr7 hat7 hp7 hr7 hbut7 hE7 hL7 c0' c1' c2' c3' c4' c5' c6' c7' Hn4 Hown HrX hn1 hn2 hn3
            refine hK.out _ _ ?_ (fun hHeld => ?_)
            · ((try dsimp only); first | with_reducible exact b0 | with_reducible exact sA | with_reducible exact sC | with_reducible exact sB)
            clear hK K
            try simp only [Act.put, List.setIfInBounds_toArray, List.set_cons_zero, List.set_cons_succ]
            refine wpAnyH_ready (rs := [5]) (by kernel_rfl) (by simp) ?_
            refine AllReadyH.cons rfl (fun K hK => ?_) (AllReadyH.nil)
            go_simp
            refine hK.out _ _ ?_ (fun hHeld => ?_)
            · ((try dsimp only); first | with_reducible exact b0 | with_reducible exact sA | with_reducible exact sC | with_reducible exact sB)
            clear hK K
            try simp only [Act.put, List.setIfInBounds_toArray, List.set_cons_zero, List.set_cons_succ]
            refine wpAnyH_done (by kernel_rfl) ?_ _
            have hX7 := counted_any g s1 (fun b => S b ∨ (w.heap.size + 2 ≤ b ∧ b < w7.heap.size)) 2 3 9 ta 0 0 ⟨#[]⟩ ((.mk qk qa qt qo qn qs qkids, qd) :: l) A7 c7 w7 Hp7.out (fun b hb => by
              rcases hb with h1 | ⟨h1, h2⟩
              · have := HS.out b h1; exact ⟨this.1, by omega⟩
              · exact ⟨by omega, h2⟩) (by have := Hdep.out.2.2.2.2; simp; omega) Hr7.out Hdep.out.1 Hdep.out.2.1 Hdep.out.2.2.1
            have hdp := counted_deep 2 3 s1 9 ta 0 0 ⟨#[]⟩ ((.mk qk qa qt qo qn qs qkids, qd) :: l) (mostD k + ((k : Int) - (j + 1))) (by have := mostD_nn k; omega) Hmax.out
            have hevp := even_counted 2 3 s1 9 ta 0 0 ⟨#[]⟩ ((.mk qk qa qt qo qn qs qkids, qd) :: l)
            have hlp9 := Hlp.out
            rw [show (((.mk qk qa qt qo qn qs qkids, qd) : Part) :: l).length = l.length + 1 from rfl] at hX7
            obtain ⟨pp, hpp⟩ : ∃ pp, pp = countedP 2 3 s1 9 ta 0 0 ⟨#[]⟩ ((.mk qk qa qt qo qn qs qkids, qd) :: l) := ⟨_, rfl⟩
            rw [← hpp] at hX7 hdp hevp hlp9
            obtain ⟨p1, s3⟩ := pp
            simp only at hX7 hdp hevp hlp9
            have hok3 := Hdep.out.2.2.2.1.even hevp
            have Hlp9 := Lib.hid hlp9
            have Hdp := Lib.hid hdp
            have Hok3 := Lib.hid hok3
            obtain ⟨e0, e1, e2, e3, e4, e5, e6, ef⟩ := cells7 HE7.out
            clear hpp hdp hevp hlp9 hok3 sA sB sC b0 hHeld
            go_wp2_with (go_at_call 112; refine hX7.mono ?_; rintro e w8 ⟨v8, rfl, hv8, hp8, hb8⟩; obtain ⟨ak, aa, aq, ao, an, az, akids, AK, ac, ad, hae, rfl, hak⟩ := hv8; have hL8 := (hb8.block w.heap.size (by omega) (by omega)).trans HL7.out; obtain ⟨z0, z1, z2, z3, z4, z5, z6, z7, zf⟩ := cells8 hL8; have hz8 := hb8.size; have Hak := Lib.hid hak; have Hae := Lib.hid hae; have Hp8 := Lib.hid hp8; have Hb8 := Lib.hid hb8; have HL8 := Lib.hid hL8; clear hak hae hp8 hb8 hL8 hX7 e0 e1 e2 e3 e4 e5 e6 ef; unfold partV)
            go_roundg j
            case rel =>
              obtain ⟨W9, hW9, hL9, hfar9, hbl9, hz9⟩ := eight_name HL8.out (.int .i64 ak) (.int .i64 aa) (.int .i64 aq) (.int .i64 ao) (.int .i64 an) (.string az) (.slice AK akids.length (akids.length + ac)) (.int .i64 ad)
              rw [← hW9]
              have hae := Hae.out
              have hdp := Hdp.out
              have hlp9 := Hlp9.out
              rw [hae] at hdp hlp9
              have hb98 : But g w W9 := ((Hbutl.out.trans Hbut7.out).trans Hb8.out).up (hbl9 w.heap.size (Nat.le_refl _))
              refine Lib.hid ⟨s3, Hp8.out.up (hbl9 (g + 1) (by omega)), Hok3.out, hb98, ?_, ⟨ak, aa, aq, ao, an, az, akids, AK, ac, ad, hlp9, hdp.1, by have := hdp.2; simp only at this; omega, hL9, ?_⟩, by omega⟩
              · exact (hfar9 _ (by omega)).trans ((Hb8.out.block _ (by omega) (by omega)).trans ((Hbut7.out.block _ (by omega) (by omega)).trans Hresl.out))
              · refine RdEs.more (fun b hb => ?_) _ _ _ (RdEs.keep (w' := W9) (fun q hq => World.cell?_of_block (hfar9 _ ?_)) _ _ _ Hak.out)
                · rcases hb with (h1 | ⟨h1, h2⟩) | ⟨h1, h2⟩
                  · exact Or.inl h1
                  · exact Or.inr ⟨h1, by omega⟩
                  · exact Or.inr ⟨by omega, by omega⟩
                · rcases hq with (h1 | ⟨h1, h2⟩) | ⟨h1, h2⟩
                  · have := (HS.out _ h1).2; omega
                  · omega
                  · omega
            all_goals exact Nat.lt_succ_self _
          · go_simp
            rw [← HD3.out]
            with_reducible refine (hPr D3 Hp3.out).mono ?_
            rintro e w4 ⟨A, cap, rfl, hc1, hc2, hrd, hp5, hb5⟩
            simp only at hp5 hrd
            have hz4 := hb5.size
            have hLX := (hb5.block w.heap.size (by omega) (by omega)).trans HL3.out
            obtain ⟨d0', d1', d2', d3', d4', d5', d6', d7', _⟩ := cells8 hLX
            have sA := And.intro d0' (And.intro d1' (And.intro d2' (And.intro d3' (And.intro d4' (And.intro d5' (And.intro d6' d7'))))))
            clear d0' d1' d2' d3' d4' d5' d6' d7' hLX
            have HL4 := Lib.hid ((hb5.block w.heap.size (by omega) (by omega)).trans HL3.out)
            have HE4 := Lib.hid ((hb5.block w2.heap.size (by omega) (by omega)).trans HE3.out)
            have Hbut4 := Lib.hid (Hbut3.out.trans hb5)
            have Hrd := Lib.hid hrd
            have Hp4 := Lib.hid hp5
            clear hp5 hb5 hPr hc1 hc2 hrd
            refine hK.out _ _ ?_ (fun hHeld => ?_)
            · ((try dsimp only); first | with_reducible exact b0 | with_reducible exact sA | with_reducible exact sC | with_reducible exact sB)
            clear hK K
            try simp only [Act.put, List.setIfInBounds_toArray, List.set_cons_zero, List.set_cons_succ]
            refine wpAnyH_ready (rs := [1]) (by kernel_rfl) (by simp) ?_
            refine AllReadyH.cons rfl (fun K hK => ?_) (AllReadyH.nil)
            go_simp
            obtain ⟨w5, hw5, hbW5, hzW5, hrow⟩ := one_al w4 #[.int .i64 qk, .int .i64 qa, .int .i64 qt, .int .i64 qo, .int .i64 qn, .string qs, .slice QK qkids.length (qkids.length + qc), .int .i64 qd] 124
            rw [← hw5]
            have hLX := (hbW5.block w.heap.size (by omega)).trans HL4.out
            obtain ⟨d0', d1', d2', d3', d4', d5', d6', d7', _⟩ := cells8 hLX
            have sC := And.intro d0' (And.intro d1' (And.intro d2' (And.intro d3' (And.intro d4' (And.intro d5' (And.intro d6' d7'))))))
            clear d0' d1' d2' d3' d4' d5' d6' d7' hLX
            have HE5 := Lib.hid ((hbW5.block w2.heap.size (by omega)).trans HE4.out)
            have Hbut5 := Lib.hid (Hbut4.out.trans (But.of_below hbW5))
            have Hp5 := Lib.hid (Hp4.out.keep hbW5)
            have hrd : RdPs w5 (From D3.heap.size w4) A l := RdPs.keep (w' := w5) (fun q hq => hbW5.cell hq.2) Hrd.out
            have HSl := Lib.hid (show ∀ b, From D3.heap.size w4 b → wr.heap.size ≤ b ∧ b < w5.heap.size ∧ b ≠ w4.heap.size from fun b hb => ⟨by have := hb.1; omega, by have := hb.2; omega, by have := hb.2; omega⟩)
            have hown : w5.ownsRow wr.heap.size 124 8 (.slice (some ⟨w4.heap.size, 0, none⟩) 1 1) 1 [.int .i64 qk, .int .i64 qa, .int .i64 qt, .int .i64 qo, .int .i64 qn, .string qs, .slice QK qkids.length (qkids.length + qc), .int .i64 qd] := ⟨by simp, Or.inr ⟨w4.heap.size, 1, #[.int .i64 qk, .int .i64 qa, .int .i64 qt, .int .i64 qo, .int .i64 qn, .string qs, .slice QK qkids.length (qkids.length + qc), .int .i64 qd], rfl, by omega, hrow, Nat.le_refl _, by unfold maxLen; omega, by simp, by simp⟩⟩
            obtain ⟨news, hn1, hn2, hn3, hn4⟩ := parts_news hrd
            have Hn4 := Lib.hid hn4
            have Hown := Lib.hid hown
            have HrX := Lib.hid hrow
            clear hn4 hown hrd hrow
            clear hw5 hbW5
            refine hK.out _ _ ?_ (fun hHeld => ?_)
            · ((try dsimp only); first | with_reducible exact b0 | with_reducible exact sA | with_reducible exact sC | with_reducible exact sB)
            clear hK K
            try simp only [Act.put, List.setIfInBounds_toArray, List.set_cons_zero, List.set_cons_succ]
            refine wpAnyH_ready (rs := [4]) (by kernel_rfl) (by simp) ?_
            refine AllReadyH.cons rfl (fun K hK => ?_) (AllReadyH.nil)
            refine app_step rfl (.tmp 14) (.tmp 16) rfl wr.heap.size (.slice (some ⟨w4.heap.size, 0, none⟩) 1 1) 1 [.int .i64 qk, .int .i64 qa, .int .i64 qt, .int .i64 qo, .int .i64 qn, .string qs, .slice QK qkids.length (qkids.length + qc), .int .i64 qd] (by simp [Act.eval, Act.put]) Hown.out A l.length cap news (by simp [Act.eval, Act.put]) hn1 hn2 hn3 (by have := Hdep.out.2.2.2.2; omega) (by omega) ?_
            intro v7 w7 hown7 hgr7 hat7
            replace hgr7 : w5.grownBy w7 (some w4.heap.size) := hgr7
            have hp7 := Hp5.out.up (grown_below (g := g) hgr7 (by omega) (by omega))
            obtain ⟨A7, c7, rfl, hr7, hbut7⟩ := idx_mid hgl HS.out (by omega) Hql.out Hbut5.out (by omega) Hn4.out HSl.out hown7 hgr7
            have hE7 := (hgr7.block w2.heap.size (by omega) (fun e => by have := Option.some.inj e; omega)).trans HE5.out
            have hL7 := (hbut7.block w.heap.size (by omega) (by omega)).trans HLl.out
            obtain ⟨c0', c1', c2', c3', c4', c5', c6', c7', _⟩ := cells8 hL7
            have sB := And.intro c0' (And.intro c1' (And.intro c2' (And.intro c3' (And.intro c4' (And.intro c5' (And.intro c6' c7'))))))
            have hz7 : wr.heap.size ≤ w7.heap.size := hbut7.size
            have hz72 : w2.heap.size < w7.heap.size := heap_lt hE7
            have Hp7 := Lib.hid hp7
            have Hr7 := Lib.hid hr7
            have Hbut7 := Lib.hid hbut7
            have HE7 := Lib.hid hE7
            have HL7 := Lib.hid hL7
            clear hown7 hgr7 hat7 hp7 hr7 hbut7 hE7 hL7 c0' c1' c2' c3' c4' c5' c6' c7' Hn4 Hown HrX hn1 hn2 hn3
            refine hK.out _ _ ?_ (fun hHeld => ?_)
            · ((try dsimp only); first | with_reducible exact b0 | with_reducible exact sA | with_reducible exact sC | with_reducible exact sB)
            clear hK K
            try simp only [Act.put, List.setIfInBounds_toArray, List.set_cons_zero, List.set_cons_succ]
            refine wpAnyH_ready (rs := [5]) (by kernel_rfl) (by simp) ?_
            refine AllReadyH.cons rfl (fun K hK => ?_) (AllReadyH.nil)
            go_simp
            refine hK.out _ _ ?_ (fun hHeld => ?_)
            · ((try dsimp only); first | with_reducible exact b0 | with_reducible exact sA | with_reducible exact sC | with_reducible exact sB)
            clear hK K
            try simp only [Act.put, List.setIfInBounds_toArray, List.set_cons_zero, List.set_cons_succ]
            refine wpAnyH_done (by kernel_rfl) ?_ _
            have hX7 := counted_any g s1 (fun b => S b ∨ (w.heap.size + 2 ≤ b ∧ b < w7.heap.size)) 2 3 9 ta 0 0 ⟨#[]⟩ ((.mk qk qa qt qo qn qs qkids, qd) :: l) A7 c7 w7 Hp7.out (fun b hb => by
              rcases hb with h1 | ⟨h1, h2⟩
              · have := HS.out b h1; exact ⟨this.1, by omega⟩
              · exact ⟨by omega, h2⟩) (by have := Hdep.out.2.2.2.2; simp; omega) Hr7.out Hdep.out.1 Hdep.out.2.1 Hdep.out.2.2.1
            have hdp := counted_deep 2 3 s1 9 ta 0 0 ⟨#[]⟩ ((.mk qk qa qt qo qn qs qkids, qd) :: l) (mostD k + ((k : Int) - (j + 1))) (by have := mostD_nn k; omega) Hmax.out
            have hevp := even_counted 2 3 s1 9 ta 0 0 ⟨#[]⟩ ((.mk qk qa qt qo qn qs qkids, qd) :: l)
            have hlp9 := Hlp.out
            rw [show (((.mk qk qa qt qo qn qs qkids, qd) : Part) :: l).length = l.length + 1 from rfl] at hX7
            obtain ⟨pp, hpp⟩ : ∃ pp, pp = countedP 2 3 s1 9 ta 0 0 ⟨#[]⟩ ((.mk qk qa qt qo qn qs qkids, qd) :: l) := ⟨_, rfl⟩
            rw [← hpp] at hX7 hdp hevp hlp9
            obtain ⟨p1, s3⟩ := pp
            simp only at hX7 hdp hevp hlp9
            have hok3 := Hdep.out.2.2.2.1.even hevp
            have Hlp9 := Lib.hid hlp9
            have Hdp := Lib.hid hdp
            have Hok3 := Lib.hid hok3
            obtain ⟨e0, e1, e2, e3, e4, e5, e6, ef⟩ := cells7 HE7.out
            clear hpp hdp hevp hlp9 hok3 sA sB sC b0 hHeld
            go_wp2_with (go_at_call 112; refine hX7.mono ?_; rintro e w8 ⟨v8, rfl, hv8, hp8, hb8⟩; obtain ⟨ak, aa, aq, ao, an, az, akids, AK, ac, ad, hae, rfl, hak⟩ := hv8; have hL8 := (hb8.block w.heap.size (by omega) (by omega)).trans HL7.out; obtain ⟨z0, z1, z2, z3, z4, z5, z6, z7, zf⟩ := cells8 hL8; have hz8 := hb8.size; have Hak := Lib.hid hak; have Hae := Lib.hid hae; have Hp8 := Lib.hid hp8; have Hb8 := Lib.hid hb8; have HL8 := Lib.hid hL8; clear hak hae hp8 hb8 hL8 hX7 e0 e1 e2 e3 e4 e5 e6 ef; unfold partV)
            go_roundg j
            case rel =>
              obtain ⟨W9, hW9, hL9, hfar9, hbl9, hz9⟩ := eight_name HL8.out (.int .i64 ak) (.int .i64 aa) (.int .i64 aq) (.int .i64 ao) (.int .i64 an) (.string az) (.slice AK akids.length (akids.length + ac)) (.int .i64 ad)
              rw [← hW9]
              have hae := Hae.out
              have hdp := Hdp.out
              have hlp9 := Hlp9.out
              rw [hae] at hdp hlp9
              have hb98 : But g w W9 := ((Hbutl.out.trans Hbut7.out).trans Hb8.out).up (hbl9 w.heap.size (Nat.le_refl _))
              refine Lib.hid ⟨s3, Hp8.out.up (hbl9 (g + 1) (by omega)), Hok3.out, hb98, ?_, ⟨ak, aa, aq, ao, an, az, akids, AK, ac, ad, hlp9, hdp.1, by have := hdp.2; simp only at this; omega, hL9, ?_⟩, by omega⟩
              · exact (hfar9 _ (by omega)).trans ((Hb8.out.block _ (by omega) (by omega)).trans ((Hbut7.out.block _ (by omega) (by omega)).trans Hresl.out))
              · refine RdEs.more (fun b hb => ?_) _ _ _ (RdEs.keep (w' := W9) (fun q hq => World.cell?_of_block (hfar9 _ ?_)) _ _ _ Hak.out)
                · rcases hb with (h1 | ⟨h1, h2⟩) | ⟨h1, h2⟩
                  · exact Or.inl h1
                  · exact Or.inr ⟨h1, by omega⟩
                  · exact Or.inr ⟨by omega, by omega⟩
                · rcases hq with (h1 | ⟨h1, h2⟩) | ⟨h1, h2⟩
                  · have := (HS.out _ h1).2; omega
                  · omega
                  · omega
            all_goals exact Nat.lt_succ_self _
      · rw [if_neg hx] at hlp
        simp only [Option.some.injEq] at hlp
        have hxf : sl.isB ([91] : List UInt8) = false := by simpa using hx
        rw [hxf] at hI
        have Hat := Lib.hid hat
        have Hbutl := Lib.hid hbutl
        have Hresl := Lib.hid hresl
        have HLl := Lib.hid hLl
        have Hql := Lib.hid hql
        have Hlp := Lib.hid hlp
        clear hx hxf hat hokl hbutl hresl hLl hql hlp x0 x1 x2 x3 x4 x5 x6 x7 xf
        go_wp2_with (go_at_call 61; refine hI.mono ?_; rintro e w2 ⟨rfl, hb2⟩; obtain ⟨x0, x1, x2, x3, x4, x5, x6, x7, xf⟩ := cells8 ((hb2.block w.heap.size (by omega)).trans HLl.out); obtain ⟨r0, r1, r2, r3, r4, r5, r6, r7, rf⟩ := cells8 ((hb2.block (w.heap.size + 1) hrl).trans Hresl.out); have hz2 : w.heap.size + 1 < w2.heap.size := (by have := hb2.size; omega); have Hb2 := Lib.hid hb2; clear hb2 hI)
        refine bodyPost_ret (v := partV qk qa qt qo qn qs QK qkids.length (qkids.length + qc) qd) (by simp [results, Tryz.results97, go_sem, partV, r0, r1, r2, r3, r4, r5, r6, r7]) rfl ?_
        rw [← Hlp.out]
        refine idx_end (w3 := w2) HS.out hgl (PartV.intro qk qa qt qo qn qs qkids QK qc qd rfl ?_) (Hat.out.keep Hb2.out) (Hbutl.out.trans (But.of_below Hb2.out)) (fun b hb => eight_heap hb) (eight_below (by omega))
        exact RdEs.more (fun b hb => by
          rcases hb with h1 | ⟨h1, h2⟩
          · exact Or.inl h1
          · exact Or.inr ⟨h1, Nat.lt_of_lt_of_le h2 Hb2.out.size⟩) _ _ _ (RdEs.keep (w' := w2) (fun q hq => Hb2.out.cell (by
          rcases hq with h1 | ⟨_, h2⟩
          · have := (HS.out _ h1).2; omega
          · exact h2)) _ _ _ Hql.out)
end Go.Proofs.YtiadbeglhnocoaaGreatDoor
