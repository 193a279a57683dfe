/-
  Rows of bytes of the call's own of which no cell is frozen, whatever their mark says.
-/
import Derived.Test.YtglobeajmdieaaaDoorIpA
namespace Go.Proofs.YtglobeajmdieaaaDoor
open Go.RowKit
set_option linter.unusedVariables false
set_option linter.unusedSimpArgs false

/-- A row that can be written on: so many bytes, so much room, none of it frozen. -/
def OwnX (w : World) (B : Nat) (e : TypeId) (v : Value) (n : Nat) (xs : List Value) : Prop :=
  xs.length = n ∧ ∃ (g cap : Nat) (cur : Array Value) (fz : Nat × Nat), v = .slice (some ⟨g, 0, none⟩) n cap ∧ B ≤ g ∧ w.heap[g]? = some (.cells cur e fz) ∧ n ≤ cap ∧ cap ≤ maxLen ∧ cur.size = cap ∧ (∀ j, j < cap → ¬ (fz.1 ≤ j ∧ j < fz.2)) ∧ cur.toList.take n = xs
theorem OwnX.keep {w w' : World} {B : Nat} {e : TypeId} {v : Value} {n : Nat} {xs : List Value} (h : OwnX w B e v n xs) (hb : Below w.heap.size w w') : OwnX w' B e v n xs := by
  obtain ⟨hl, g, cap, cur, fz, hv, hB, hg, rest⟩ := h
  exact ⟨hl, g, cap, cur, fz, hv, hB, (hb.block g (heap_in hg)).trans hg, rest⟩
theorem OwnX.lt {w : World} {B : Nat} {e : TypeId} {v : Value} {n : Nat} {xs : List Value} (h : OwnX w B e v n xs) : ∀ k, v.ownBlock = some k → B ≤ k ∧ k < w.heap.size := by
  obtain ⟨hl, g, cap, cur, fz, rfl, hB, hg, rest⟩ := h
  intro k hk
  simp [Value.ownBlock] at hk
  subst hk
  exact ⟨hB, heap_in hg⟩
theorem frozen_not {w : World} {g j : Nat} {cur : Array Value} {t : TypeId} {fz : Nat × Nat} (hg : w.heap[g]? = some (.cells cur t fz)) (hj : ¬ (fz.1 ≤ j ∧ j < fz.2)) : w.frozen? ⟨g, j, none⟩ = false := by
  obtain ⟨lo, hi⟩ := fz
  simp only [World.frozen?, hg, Bool.and_eq_false_iff, decide_eq_false_iff_not]
  simp only at hj
  omega
theorem heap_put' {w : World} {b : Nat} {cs : Array Value} {T : TypeId} {fr : Nat × Nat} (hb : w.heap[b]? = some (.cells cs T fr)) (j : Nat) (u : Value) : (w.setCell ⟨b, j, none⟩ u).heap[b]? = some (.cells (cs.setIfInBounds j u) T fr) := heap_put hb j u
/-- Cells are stored one behind the other. -/
theorem stores_run (P : Program) (g o : Nat) (t : TypeId) (fz : Nat × Nat) : ∀ (vs : List Value) (i : Nat) (cur : Array Value) (w : World), w.heap[g]? = some (.cells cur t fz) → (∀ j, j < cur.size → ¬ (fz.1 ≤ j ∧ j < fz.2)) → o + i + vs.length ≤ cur.size → (∀ v ∈ vs, v.oneCell' = true) →
    ∃ w' cur', (storeCells ⟨g, o, none⟩ vs i).run P w = .ok () w' ∧ w'.heap[g]? = some (.cells cur' t fz) ∧ cur'.size = cur.size ∧ cur'.toList.take (o + i + vs.length) = cur.toList.take (o + i) ++ vs ∧ w.grownBy w' (some g)
  | [], i, cur, w, hg, _, _, _ => ⟨w, cur, rfl, hg, rfl, by simp, ⟨rfl, rfl, rfl, Nat.le_refl _, fun _ _ _ => rfl⟩⟩
  | v :: rest, i, cur, w, hg, hfz, hl, h1 => by
    have hi : o + i < cur.size := by simp at hl; omega
    have hadd : (⟨g, o, none⟩ : Addr).add i = ⟨g, o + i, none⟩ := by unfold Addr.add; split <;> simp_all
    have hcell : w.cell? ⟨g, o + i, none⟩ = some cur[o + i] := by simp [World.cell?, hg, hi]
    have hfro := frozen_not hg (hfz (o + i) hi)
    have hst : (store ((⟨g, o, none⟩ : Addr).add i) v).run P w = .ok () (w.setCell ⟨g, o + i, none⟩ v) := by
      rw [hadd, run_store P w _ v _ (h1 v (by simp)), hcell]
      simp [hfro]
    obtain ⟨w', cur', hr, hg', hs, ht, hgr⟩ := stores_run P g o t fz rest (i + 1) (cur.setIfInBounds (o + i) v) (w.setCell ⟨g, o + i, none⟩ v) (heap_put hg _ _) (by simpa using hfz) (by simp at hl ⊢; omega) (fun x hx => h1 x (by simp [hx]))
    refine ⟨w', cur', ?_, hg', by rw [hs]; simp, ?_, ⟨hgr.os, hgr.tape, hgr.output, by have := hgr.size; simpa using this, fun k hk hn => (hgr.block k (by simpa using hk) hn).trans (Below.heap_setCell _ _ _ _ (fun e => hn (by rw [e])))⟩⟩
    · simp only [storeCells, Sem.run_bind, hst, Result.andThen_ok, hr]
    · rw [show o + i + (v :: rest).length = o + (i + 1) + rest.length by simp; omega, ht]
      rw [Array.toList_setIfInBounds, ← Nat.add_assoc, List.take_succ_eq_append_getElem (by simp; omega), List.take_set, List.set_eq_of_length_le (by simp; omega)]
      simp
theorem own_at {w : World} {g n : Nat} {cur : Array Value} {e : TypeId} {fz : Nat × Nat} {xs : List Value} (hg : w.heap[g]? = some (.cells cur e fz)) (ht : cur.toList.take n = xs) : ∀ j u, xs[j]? = some u → w.cell? ((⟨g, 0, none⟩ : Addr).add j) = some u := by
  intro j u hu
  have hadd : (⟨g, 0, none⟩ : Addr).add j = ⟨g, j, none⟩ := by unfold Addr.add; split <;> simp_all
  rw [hadd, Lib.cell_of_heap hg j]
  rw [← ht, List.getElem?_take] at hu
  split at hu
  · simpa using hu
  · cases hu
/-- A new row: what was there, what comes, and zeros. -/
theorem grown_row (w : World) (B : Nat) (e : TypeId) (hB : B ≤ w.heap.size) (xs ns : List Value) (k old : Nat) (hk : (xs ++ ns).length = k) (hkm : k ≤ maxLen) (row : Option Nat) :
    OwnX (w.drew.alloc (.cells (xs.toArray ++ ns.toArray ++ Builtin.zeroCells (Value.int .u8 0).cells (grownCap w k old e - k)) e)) B e (.slice (some ⟨w.heap.size, 0, none⟩) k (grownCap w k old e)) k (xs ++ ns) ∧ w.grownBy (w.drew.alloc (.cells (xs.toArray ++ ns.toArray ++ Builtin.zeroCells (Value.int .u8 0).cells (grownCap w k old e - k)) e)) row := by
  have hge := grownCap_ge w k old e
  refine ⟨⟨hk, w.heap.size, _, _, (0, 0), rfl, hB, heap_alloc_new w.drew _, hge, grownCap_le_maxLen w k old e hkm, ?_, fun j _ h => by simp at h, ?_⟩, ⟨rfl, rfl, rfl, by simp, fun j hj _ => Below.heap_alloc w.drew _ j hj⟩⟩
  · have hz1 : (Value.int IntKind.u8 0).cells.size = 1 := rfl
    rw [List.length_append] at hk
    simp only [Array.size_append, List.size_toArray, size_zeroCells, hz1]
    omega
  · rw [← hk]
    simp only [Array.toList_append]
    exact List.take_left
/-- Cells that lie somewhere are laid behind a row. -/
theorem appendX (P : Program) (w : World) (B : Nat) (t ty e : TypeId) (i : TypeInfo) (ht : P.underlying t = some (.slice e)) (hi : P.info? e = some i) (hz : i.zero = some (.int .u8 0)) (hs : i.size = 1) (hby : i.bytes = 1) (v : Value) (n : Nat) (xs : List Value) (h : OwnX w B e v n xs) (hB : B ≤ w.heap.size)
    (ad : Addr) (m c : Nat) (news : List Value) (hl : news.length = m) (hnews : ∀ j u, news[j]? = some u → w.cell? (ad.add j) = some u) (h1 : ∀ u ∈ news, u.oneCell' = true) (hlim : n + m ≤ 140737488355328) :
    ∃ v' w', (Builtin.append_ #[t, t] ty #[v, .slice (some ad) m c]).run P w = .ok v' w' ∧ OwnX w' B e v' (n + m) (xs ++ news) ∧ w.grownBy w' v.ownBlock := by
  obtain ⟨hxl, g, cap, cur, fz, rfl, hBg, hg, hnc, hcm, hcs, hfz, htk⟩ := h
  have hm : n + m ≤ maxLen := by unfold maxLen; omega
  by_cases hroom : n + m ≤ cap
  · obtain ⟨w', cur', hr, hg', hs', htk', hgr⟩ := stores_run P g n e fz news 0 cur w hg (by rw [hcs]; exact hfz) (by omega) h1
    have hf := run_firstCells_some (P := P) w i.size m ad m c news (by rw [hs]; omega) hnews
    refine ⟨.slice (some ⟨g, 0, none⟩) (n + m) cap, w', ?_, ⟨by rw [List.length_append]; omega, g, cap, cur', fz, rfl, hBg, hg', hroom, hcm, by omega, hfz, ?_⟩, hgr⟩
    · rw [hs] at hf
      simp [Builtin.append_, run_underlying ht, sizeOf, typeInfo, hi, hs, Builtin.lenOf, hroom, hf, Addr.add_lit, hr]
    · rw [← hl, ← htk]; simpa using htk'
  · have hr := run_append_grow (P := P) w t ty e i (.int .u8 0) ht hi hz ⟨g, 0, none⟩ n cap xs (by rw [hs]; omega) (own_at hg htk) ad m c news (by rw [hs]; omega) hnews (by omega) (by omega) (by rw [hby]; exact growslice_fits (by omega) (by omega))
    obtain ⟨h2, h3⟩ := grown_row w B e hB xs news (n + m) cap (by rw [List.length_append]; omega) hm (Value.ownBlock (.slice (some ⟨g, 0, none⟩) n cap))
    exact ⟨_, _, hr, h2, h3⟩
/-- A string's bytes are laid behind a row. -/
theorem appendX_string (P : Program) (w : World) (B : Nat) (t u ty e : TypeId) (i : TypeInfo) (ht : P.underlying t = some (.slice e)) (hu : P.underlying u = some .string) (hi : P.info? e = some i) (hz : i.zero = some (.int .u8 0)) (hs : i.size = 1) (hby : i.bytes = 1) (v : Value) (n : Nat) (xs : List Value) (h : OwnX w B e v n xs) (hB : B ≤ w.heap.size)
    (s : ByteArray) (hlim : n + s.size ≤ 140737488355328) :
    ∃ v' w', (Builtin.append_ #[t, u] ty #[v, .string s]).run P w = .ok v' w' ∧ OwnX w' B e v' (n + s.size) (xs ++ Lib.strCells s) ∧ w.grownBy w' v.ownBlock := by
  obtain ⟨hxl, g, cap, cur, fz, rfl, hBg, hg, hnc, hcm, hcs, hfz, htk⟩ := h
  have hm : n + s.size ≤ maxLen := by unfold maxLen; omega
  have hsl := Lib.strCells_length s
  by_cases hroom : n + s.size ≤ cap
  · obtain ⟨w', cur', hr, hg', hs', htk', hgr⟩ := stores_run P g n e fz (Lib.strCells s) 0 cur w hg (by rw [hcs]; exact hfz) (by omega) (Lib.strCells_oneCell s)
    have hf := Lib.run_firstCells_string (P := P) w 1 s
    refine ⟨.slice (some ⟨g, 0, none⟩) (n + s.size) cap, w', ?_, ⟨by rw [List.length_append]; omega, g, cap, cur', fz, rfl, hBg, hg', hroom, hcm, by omega, hfz, ?_⟩, hgr⟩
    · simp [Builtin.append_, run_underlying ht, run_underlying hu, sizeOf, typeInfo, hi, hs, Builtin.lenOf, hroom, hf, Addr.add_lit, hr]
    · rw [← hsl, ← htk]; simpa using htk'
  · have hr := Lib.run_append_grow_string (P := P) w t u ty e i (.int .u8 0) ht hu hi hz ⟨g, 0, none⟩ n cap xs (by rw [hs]; omega) (own_at hg htk) s (by omega) (by omega) (by rw [hby]; exact growslice_fits (by omega) (by omega))
    obtain ⟨h2, h3⟩ := grown_row w B e hB xs (Lib.strCells s) (n + s.size) cap (by rw [List.length_append]; omega) hm (Value.ownBlock (.slice (some ⟨g, 0, none⟩) n cap))
    exact ⟨_, _, hr, h2, h3⟩
theorem wpList_appendX {P : Program} (w : World) {ops : Array Oper} {rest : List Oper} {o : Oper} {a : Act} {Q : Exit → Act → World → Prop} (hgd : o.guard = none) (sl x : Operand) (t : TypeId) (ho : o.op = .call { callee := .builtin .append, args := #[sl, x], argTypes := #[t, t] })
    (B : Nat) (e : TypeId) (i : TypeInfo) (ht : P.underlying t = some (.slice e)) (hi : P.info? e = some i) (hz : i.zero = some (.int .u8 0)) (hs : i.size = 1) (hby : i.bytes = 1) (v : Value) (n : Nat) (xs : List Value) (hv : a.eval sl = v) (h : OwnX w B e v n xs) (hB : B ≤ w.heap.size)
    (ad : Addr) (m c : Nat) (news : List Value) (hx : a.eval x = .slice (some ad) m c) (hl : news.length = m) (hnews : ∀ j u, news[j]? = some u → w.cell? (ad.add j) = some u) (h1 : ∀ u ∈ news, u.oneCell' = true) (hlim : n + m ≤ 140737488355328)
    (k : ∀ v' w', OwnX w' B e v' (n + m) (xs ++ news) → w.grownBy w' v.ownBlock → wpList P ops Q rest (a.put o.dst v') w') : wpList P ops Q (o :: rest) a w := by
  refine wpList_plain hgd fun K hK => ?_
  obtain ⟨v', w', hr, h2, h3⟩ := appendX P w B t o.type e i ht hi hz hs hby v n xs h hB ad m c news hl hnews h1 hlim
  unfold Oper.wp execOp
  simp only [ho, resolve, invoke, builtin, Sem.run_bind, Sem.run_pure, Result.andThen_ok, List.map_toArray, List.map_cons, List.map_nil, hv, hx, hr]
  exact hK _ _ (k v' w' h2 h3)
theorem wpList_appendX_string {P : Program} (w : World) {ops : Array Oper} {rest : List Oper} {o : Oper} {a : Act} {Q : Exit → Act → World → Prop} (hgd : o.guard = none) (sl x : Operand) (t u : TypeId) (ho : o.op = .call { callee := .builtin .append, args := #[sl, x], argTypes := #[t, u] })
    (B : Nat) (e : TypeId) (i : TypeInfo) (ht : P.underlying t = some (.slice e)) (hu : P.underlying u = some .string) (hi : P.info? e = some i) (hz : i.zero = some (.int .u8 0)) (hs : i.size = 1) (hby : i.bytes = 1) (v : Value) (n : Nat) (xs : List Value) (hv : a.eval sl = v) (h : OwnX w B e v n xs) (hB : B ≤ w.heap.size)
    (s : ByteArray) (hx : a.eval x = .string s) (hlim : n + s.size ≤ 140737488355328)
    (k : ∀ v' w', OwnX w' B e v' (n + s.size) (xs ++ Lib.strCells s) → w.grownBy w' v.ownBlock → wpList P ops Q rest (a.put o.dst v') w') : wpList P ops Q (o :: rest) a w := by
  refine wpList_plain hgd fun K hK => ?_
  obtain ⟨v', w', hr, h2, h3⟩ := appendX_string P w B t u o.type e i ht hu hi hz hs hby v n xs h hB s hlim
  unfold Oper.wp execOp
  simp only [ho, resolve, invoke, builtin, Sem.run_bind, Sem.run_pure, Result.andThen_ok, List.map_toArray, List.map_cons, List.map_nil, hv, hx, hr]
  exact hK _ _ (k v' w' h2 h3)
end Go.Proofs.YtglobeajmdieaaaDoor
