/-
  What the law's two last ways come to: another body; another first statement.
-/
import Derived.Test.YtpnpjlggikdinaaTrX0
namespace Go.Proofs.Ytpnpjlggikdinaa
open Go.RowKit

/-- A row's block is of the row's type. -/
theorem own_at {w : World} {B : Nat} {T : TypeId} {z n : Nat} {v : Value} {xs : List Value} (h : w.ownsRow B T z v n xs) {g : Nat} (hg : v.ownBlock = some g) : ∃ cur, w.heap[g]? = some (.cells cur T (0, 0)) := by
  rcases h.2 with ⟨rfl, _⟩ | ⟨g', c, cur, rfl, _, hh, _⟩
  · simp [Value.ownBlock] at hg
  · simp only [Value.ownBlock, Option.some.injEq] at hg
    subst hg
    exact ⟨cur, hh⟩
theorem blk_lt {w : World} {k : Nat} {o : Obj} (h : w.heap[k]? = some o) : k < w.heap.size := by
  rcases Nat.lt_or_ge k w.heap.size with h' | h'
  · exact h'
  · rw [Array.getElem?_eq_none h'] at h; cases h
/-- Behind an append to a row of one type all blocks of another one are as they were. -/
theorem old_far {w5 wa w6 : World} {N1 : Nat} {T : TypeId} {z n : Nat} {v : Value} {xs : List Value} (hwa : Below w5.heap.size w5 wa) (how : wa.ownsRow N1 T z v n xs) (hgrow : wa.grownBy w6 v.ownBlock)
    {k : Nat} {cs : Array Value} {T' : TypeId} {fr : Nat × Nat} (hk : w5.heap[k]? = some (.cells cs T' fr)) (hor : T' ≠ T ∨ k < N1) : w6.heap[k]? = some (.cells cs T' fr) := by
  have hkl := blk_lt hk
  have hk2 : wa.heap[k]? = some (.cells cs T' fr) := (hwa.block k hkl).trans hk
  refine (hgrow.block k (Nat.lt_of_lt_of_le hkl hwa.size) ?_).trans hk2
  rcases hor with hT | hlt
  · exact fun e => own_type how hk2 (Ne.symm hT) e.symm
  · exact own_ne how hlt
theorem old_blk {w5 wa w6 : World} {N1 : Nat} {T T' : TypeId} {z n : Nat} {v : Value} {xs : List Value} {k : Nat} (h : ∃ cur, w5.heap[k]? = some (.cells cur T' (0, 0))) (hT : T' ≠ T) (hwa : Below w5.heap.size w5 wa) (how : wa.ownsRow N1 T z v n xs) (hgrow : wa.grownBy w6 v.ownBlock) : w6.heap[k]? = w5.heap[k]? := by
  obtain ⟨cur, hc⟩ := h
  exact (old_far hwa how hgrow hc (Or.inl hT)).trans hc.symm
theorem own_ap {w6 : World} {N1 : Nat} {T : TypeId} {z n cap : Nat} {gp : Nat} {xs : List Value} (ho : w6.ownsRow N1 T z (.slice (some ⟨gp, 0, none⟩) n cap) n xs) {k : Nat} {cs : Array Value} {T' : TypeId} {fr : Nat × Nat} (hk : w6.heap[k]? = some (.cells cs T' fr)) (hT : T' ≠ T) : k ≠ gp := fun e => by
  subst e
  exact own_type ho hk (Ne.symm hT) rfl
/-- What the law asks at its end. -/
structure Done (w W : World) (ga gb ba : Nat) : Prop where
  hba : W.heap[ba]? = some (.cells #[.slice (some ⟨ga, 0, none⟩) 2 2] 25 (0, 0))
  hbb : W.heap[ba + 1]? = some (.cells #[.slice (some ⟨gb, 0, none⟩) 2 2] 25 (0, 0))
  hz : ba + 1 < W.heap.size
  hbW : Below w.heap.size w W
  s1 : ∀ W', Below W.heap.size W W' → Calls Try.prog 6 #[.agg #[.slice (some ⟨ga, 0, none⟩) 2 2], .agg #[.slice (some ⟨gb, 0, none⟩) 2 2]] W' fun e w' => e = .returned (.bool false) ∧ Below W'.heap.size W' w'
  s2 : ∀ W', Below W.heap.size W W' → Calls Try.prog 6 #[.agg #[.slice (some ⟨gb, 0, none⟩) 2 2], .agg #[.slice (some ⟨ga, 0, none⟩) 2 2]] W' fun e w' => e = .returned (.bool false) ∧ Below W'.heap.size W' w'
theorem wp_of_done {w W0 : World} {ga gb ba : Nat} {P : Program} {c : Code} {a : Act} {Q : Exit → Act → World → Prop} (hd : Done w W0 ga gb ba) (H : ∀ W, Done w W ga gb ba → Code.wp P c Q a W) : Code.wp P c Q a W0 := H W0 hd
theorem ParamsSay.keep {w w' : World} {A A' : Option Addr} {m c m' c' : Nat} {b : Bool} (h : ParamsSay w A A' m c m' c' b) (hb : Below w.heap.size w w') : ParamsSay w' A A' m c m' c' b := fun w2 h2 => h w2 (hb.trans (h2.mono hb.size))
theorem StmtsSay.keep {w w' : World} {A A' : Option Addr} {m c m' c' : Nat} {b : Bool} (h : StmtsSay w A A' m c m' c' b) (hb : Below w.heap.size w w') : StmtsSay w' A A' m c m' c' b := fun w2 h2 => h w2 (hb.trans (h2.mono hb.size))
section
variable {l : List EE} {w w5 wa w6 W : World} {N1 ga gb ba gp : Nat} {at_ : Int} {P B P' B' : Option Addr} {cp cb cp' cb' : Nat} {bxs bxs' : List Value}
/-- Another body. -/
theorem done3 (h : Two l w5 N1 ga gb at_ P cp B cb P' cp' B' cb' bxs bxs')
    (hba : w5.heap[ba]? = some (.cells #[.slice (some ⟨ga, 0, none⟩) 2 2] 25 (0, 0))) (hbb : w5.heap[ba + 1]? = some (.cells #[.slice (some ⟨gb, 0, none⟩) 2 2] 25 (0, 0)))
    (hbW : Below w.heap.size w w5) (hw1 : w.heap.size ≤ N1) (hwa : Below w5.heap.size w5 wa) {n0 : Nat} {v : Value} {xs0 xs : List Value} (how : wa.ownsRow N1 38 8 v n0 xs0) (hgrow : wa.grownBy w6 v.ownBlock)
    {n cap : Nat} (hown : w6.ownsRow N1 38 8 (.slice (some ⟨gp, 0, none⟩) n cap) n xs) (hn : n = (bodyT l).length + 1)
    (hW : ∀ k, k ≠ gb → k ≠ gp → W.heap[k]? = w6.heap[k]?) (hWb : ∀ cs, w6.heap[gb]? = some (.cells cs 31 (0, 0)) → W.heap[gb]? = some (.cells (cs.setIfInBounds 4 (.slice (some ⟨gp, 0, none⟩) n cap)) 31 (0, 0))) (hWs : Below N1 w6 W) : Done w W ga gb ba := by
  have hpa6 := old_far hwa how hgrow h.pa (Or.inl (by decide))
  have hpb6 := old_far hwa how hgrow h.pb (Or.inl (by decide))
  have hba6 := old_far hwa how hgrow hba (Or.inl (by decide))
  have hbb6 := old_far hwa how hgrow hbb (Or.inl (by decide))
  have hgab : ga ≠ gb := by have := h.la; have := h.lb; omega
  have t1 : ba ≠ gb := fun e => by rw [e, hpb6] at hba6; simp at hba6
  have t2 : ba + 1 ≠ gb := fun e => by rw [e, hpb6] at hbb6; simp at hbb6
  have fin : ∀ {k : Nat} {cs : Array Value} {T' : TypeId} {fr : Nat × Nat}, w6.heap[k]? = some (.cells cs T' fr) → T' ≠ 38 → k ≠ gb → W.heap[k]? = some (.cells cs T' fr) := fun hk hT hg => (hW _ hg (own_ap hown hk hT)).trans hk
  have hpa : Prg W ga ⟨#[102]⟩ 0 P (paramsT l).length cp ((l.length : Int) % 5) B (bodyT l).length cb 0 := fin hpa6 (by decide) hgab
  have hpb : Prg W gb ⟨#[102]⟩ at_ P' (paramsT l).length cp' ((l.length : Int) % 5) (some ⟨gp, 0, none⟩) n cap at_ := hWb _ hpb6
  have hbW6 : Below w.heap.size w w6 := ((hbW.trans (hwa.mono hbW.size)).grown hgrow (Nat.le_trans hbW.size hwa.size) (fun k hk => Nat.le_trans hw1 (how.lt k hk).1))
  have hbWW : Below w.heap.size w W := hbW6.trans (hWs.mono hw1)
  have row : ∀ {B0 z m : Nat} {u : Value} {ys : List Value}, w5.ownsRow B0 35 z u m ys → W.ownsRow B0 35 z u m ys := fun ho => own_same ho (fun g hg => by
    obtain ⟨cur, hc⟩ := own_at ho hg
    have h6 := old_far hwa how hgrow hc (Or.inl (by decide))
    rw [hc]
    exact fin h6 (by decide) (fun e => by rw [e, hpb6] at h6; simp at h6))
  have hps : (paramsT l).length ≤ 9223372036854775807 := by rw [paramsT_len]; omega
  have HP := paramsSay hps (row h.oP) (row h.oP')
  have HP' := paramsSay hps (row h.oP') (row h.oP)
  have hne : (bodyT l).length ≠ n := by omega
  have hbbW := fin hbb6 (by decide) t2
  exact ⟨fin hba6 (by decide) t1, hbbW, blk_lt hbbW, hbWW, fun W' hb => Prg.body 2 2 (hpa.keep hb) (hpb.keep hb) (HP.keep hb) (stmtsNe hne), fun W' hb => Prg.body 2 2 (hpb.keep hb) (hpa.keep hb) (HP'.keep hb) (stmtsNe (Ne.symm hne))⟩
/-- The first statements' kids are another number. -/
theorem firstNe {W : World} {g g' n c c' : Nat} {k a0 n0 p : Int} {s : ByteArray} {K BB EE' : Option Addr} {m ck mb cbb me ce : Nat} {a' n' : Int} {K' BB' EE'' : Option Addr} {m' ck' mb' cbb' me' ce' : Nat} (hn : 1 ≤ n) (hmax : n ≤ 9223372036854775807) (hg : g < W.heap.size) (hg' : g' < W.heap.size) (hm : m ≠ m')
    (x : ∀ j u, ([.int .i64 k, .int .i64 a0, .int .i64 n0, .string s, .int .i64 p, .slice K m ck, .slice BB mb cbb, .slice EE' me ce] : List Value)[j]? = some u → W.cell? ⟨g, j, none⟩ = some u)
    (y : ∀ j u, ([.int .i64 k, .int .i64 a', .int .i64 n', .string s, .int .i64 p, .slice K' m' ck', .slice BB' mb' cbb', .slice EE'' me' ce'] : List Value)[j]? = some u → W.cell? ⟨g', j, none⟩ = some u) : StmtsSay W (some ⟨g, 0, none⟩) (some ⟨g', 0, none⟩) n c n c' false := fun w2 hb => by
  have x' := fun j u e => (hb.cell (p := ⟨g, j, none⟩) hg).trans (x j u e)
  have y' := fun j u e => (hb.cell (p := ⟨g', j, none⟩) hg').trans (y j u e)
  refine listFirst_Stmt W.heap.size _ _ n c c' hmax w2 hb.size hn ?_
  refine ⟨g, 0, g', 0, k, a0, n0, s, p, K, m, ck, BB, mb, cbb, EE', me, ce, k, a', n', s, p, K', m', ck', BB', mb', cbb', EE'', me', ce', rfl, rfl, hg, hg', ⟨x' 0 _ rfl, x' 1 _ rfl, x' 2 _ rfl, x' 3 _ rfl, x' 4 _ rfl, x' 5 _ rfl, x' 6 _ rfl, x' 7 _ rfl⟩, ⟨y' 0 _ rfl, y' 1 _ rfl, y' 2 _ rfl, y' 3 _ rfl, y' 4 _ rfl, y' 5 _ rfl, y' 6 _ rfl, y' 7 _ rfl⟩, fun w3 _ _ => ?_⟩
  exact sameStmt_ne _ _ _ _ _ _ _ _ _ _ _ _ _ _ _ _ _ _ _ _ _ _ _ _ _ w3 (kidsNe hm)
theorem eight {w : World} {S : Nat → Prop} {c : Nat → Option Value} {k a n : Int} {s : ByteArray} {p : Int} {kids : List Ex} {body els : List St} (h : RdS w S c (.mk k a n s p kids body els)) :
    ∃ K ck BB cbb EE' ce, (∀ j u, ([.int .i64 k, .int .i64 a, .int .i64 n, .string s, .int .i64 p, .slice K kids.length ck, .slice BB body.length cbb, .slice EE' els.length ce] : List Value)[j]? = some u → c j = some u) := by
  unfold RdS at h
  obtain ⟨h0, h1, h2, h3, h4, ⟨K, ck, h5, _⟩, ⟨BB, cbb, h6, _⟩, EE', ce, h7, _⟩ := h
  refine ⟨K, ck, BB, cbb, EE', ce, fun j u e => ?_⟩
  match j, e with
  | 0, e => exact h0.trans e
  | 1, e => exact h1.trans e
  | 2, e => exact h2.trans e
  | 3, e => exact h3.trans e
  | 4, e => exact h4.trans e
  | 5, e => exact h5.trans e
  | 6, e => exact h6.trans e
  | 7, e => exact h7.trans e
  | j + 8, e => simp at e
/-- Another first statement. -/
theorem done5 (h : Two l w5 N1 ga gb at_ P cp B cb P' cp' B' cb' bxs bxs') {g' : Nat} (hB' : B' = some ⟨g', 0, none⟩) (hpos : 0 < (bodyT l).length)
    (hba : w5.heap[ba]? = some (.cells #[.slice (some ⟨ga, 0, none⟩) 2 2] 25 (0, 0))) (hbb : w5.heap[ba + 1]? = some (.cells #[.slice (some ⟨gb, 0, none⟩) 2 2] 25 (0, 0)))
    (hbW : Below w.heap.size w w5) (hw1 : w.heap.size ≤ N1) (hwa : Below w5.heap.size w5 wa) {n0 : Nat} {v : Value} {xs0 xs : List Value} (hv : bxs'[5]? = some v) (how : wa.ownsRow N1 40 7 v n0 xs0) (hgrow : wa.grownBy w6 v.ownBlock)
    {cap : Nat} (hown : w6.ownsRow N1 40 7 (.slice (some ⟨gp, 0, none⟩) (n0 + 1) cap) (n0 + 1) xs)
    (hW : ∀ k, k ≠ g' → k ≠ gp → W.heap[k]? = w6.heap[k]?) (hWc : ∀ j, j ≠ 5 → W.cell? ⟨g', j, none⟩ = w6.cell? ⟨g', j, none⟩) (hW5 : W.cell? ⟨g', 5, none⟩ = some (.slice (some ⟨gp, 0, none⟩) (n0 + 1) cap)) (hWs : Below N1 w6 W) : Done w W ga gb ba := by
  have hpa6 := old_far hwa how hgrow h.pa (Or.inl (by decide))
  have hpb6 := old_far hwa how hgrow h.pb (Or.inl (by decide))
  have hba6 := old_far hwa how hgrow hba (Or.inl (by decide))
  have hbb6 := old_far hwa how hgrow hbb (Or.inl (by decide))
  subst hB'
  obtain ⟨cur', hg5⟩ := own_at h.oB' (g := g') rfl
  have hg6 := old_far hwa how hgrow hg5 (Or.inl (by decide))
  have fin : ∀ {k : Nat} {cs : Array Value} {T' : TypeId} {fr : Nat × Nat}, w6.heap[k]? = some (.cells cs T' fr) → T' ≠ 40 → T' ≠ 38 ∨ k < N1 → W.heap[k]? = some (.cells cs T' fr) := fun {k cs T' fr} hk hT hg => (hW _ (fun e => by
    rcases hg with hg | hg
    · rw [e, hg6] at hk
      simp only [Option.some.injEq, Obj.cells.injEq] at hk
      exact hg hk.2.1.symm
    · have := (h.oB'.lt g' rfl).1
      omega) (own_ap hown hk hT)).trans hk
  have hpa : Prg W ga ⟨#[102]⟩ 0 P (paramsT l).length cp ((l.length : Int) % 5) B (bodyT l).length cb 0 := fin hpa6 (by decide) (Or.inl (by decide))
  have hpb : Prg W gb ⟨#[102]⟩ at_ P' (paramsT l).length cp' ((l.length : Int) % 5) (some ⟨g', 0, none⟩) (bodyT l).length cb' at_ := fin hpb6 (by decide) (Or.inl (by decide))
  have hbW6 : Below w.heap.size w w6 := ((hbW.trans (hwa.mono hbW.size)).grown hgrow (Nat.le_trans hbW.size hwa.size) (fun k hk => Nat.le_trans hw1 (how.lt k hk).1))
  have hbWW : Below w.heap.size w W := hbW6.trans (hWs.mono hw1)
  have row : ∀ {B0 z m : Nat} {u : Value} {ys : List Value}, w5.ownsRow B0 35 z u m ys → W.ownsRow B0 35 z u m ys := fun ho => own_same ho (fun g hg => by
    obtain ⟨cur, hc⟩ := own_at ho hg
    have h6 := old_far hwa how hgrow hc (Or.inl (by decide))
    rw [hc]
    exact fin h6 (by decide) (Or.inl (by decide)))
  have hps : (paramsT l).length ≤ 9223372036854775807 := by rw [paramsT_len]; omega
  have HP := paramsSay hps (row h.oP) (row h.oP')
  have HP' := paramsSay hps (row h.oP') (row h.oP)
  have hbbW := fin hbb6 (by decide) (Or.inl (by decide))
  -- the two first statements
  obtain ⟨e0, he0⟩ : ∃ e0, (bodyT l)[0]? = some e0 := ⟨_, List.getElem?_eq_getElem hpos⟩
  obtain ⟨g, c, hv0, _, hgl⟩ := h.oB.form hpos
  injection hv0 with hB1 hB2 hB3
  subst hB1
  have hgN : g < N1 := h.uB g rfl
  obtain ⟨curB, hgB5⟩ := own_at h.oB (g := g) rfl
  have hgB6 := old_far hwa how hgrow hgB5 (Or.inr hgN)
  have hgBW := fin hgB6 (by decide) (Or.inr hgN)
  have hr := h.rB 0 e0 he0
  have hr' := (h.rB' 0 e0 he0).1
  cases e0 with
  | mk k a n s p kids body els =>
    obtain ⟨K, ck, BB, cbb, EE', ce, X⟩ := eight hr
    obtain ⟨K', ck', BB', cbb', EE'', ce', Y⟩ := eight hr'
    have hl8 : (bodyT l).length * 8 ≥ 8 := by omega
    have hvk := Y 5 _ rfl
    have hvk2 : v = .slice K' kids.length ck' := by
      have e1 : 0 * 8 + 5 = 5 := rfl
      rw [e1, hv] at hvk
      injection hvk
    obtain ⟨A0, c0, hA0⟩ := own_form how
    have hn0 : n0 = kids.length := by
      rw [hA0] at hvk2
      injection hvk2
    have x : ∀ j u, ([.int .i64 k, .int .i64 a, .int .i64 n, .string s, .int .i64 p, .slice K kids.length ck, .slice BB body.length cbb, .slice EE' els.length ce] : List Value)[j]? = some u → W.cell? ⟨g, j, none⟩ = some u := fun j u e => by
      have hj : j < 8 := by
        have := (List.getElem?_eq_some_iff.mp e).1
        simpa using this
      have h1 : W.cell? ⟨g, j, none⟩ = w5.cell? ⟨g, j, none⟩ := World.cell?_of_block (hgBW.trans hgB5.symm)
      rw [h1, h.oB.cellAt j (by omega)]
      have := X j u e
      rw [show 0 * 8 + j = j by omega] at this
      exact this
    have y : ∀ j u, ([.int .i64 k, .int .i64 a, .int .i64 n, .string s, .int .i64 p, .slice (some ⟨gp, 0, none⟩) (n0 + 1) cap, .slice BB' body.length cbb', .slice EE'' els.length ce'] : List Value)[j]? = some u → W.cell? ⟨g', j, none⟩ = some u := fun j u e => by
      by_cases h5 : j = 5
      · subst h5
        rw [hW5]
        exact e
      · have hj : j < 8 := by
          have := (List.getElem?_eq_some_iff.mp e).1
          simpa using this
        have h1 : w6.cell? ⟨g', j, none⟩ = w5.cell? ⟨g', j, none⟩ := World.cell?_of_block (hg6.trans hg5.symm)
        rw [hWc j h5, h1, h.oB'.cellAt j (by omega)]
        have := Y j u (by
          match j, h5, hj, e with
          | 0, _, _, e => exact e
          | 1, _, _, e => exact e
          | 2, _, _, e => exact e
          | 3, _, _, e => exact e
          | 4, _, _, e => exact e
          | 6, _, _, e => exact e
          | 7, _, _, e => exact e
          | j + 8, _, hj, _ => exact absurd hj (by omega))
        rw [show 0 * 8 + j = j by omega] at this
        exact this
    have hg'W : g' < W.heap.size := by
      have hz : W.heap.size ≥ w6.heap.size := hWs.size
      have := blk_lt hg6
      omega
    have hmax : (bodyT l).length ≤ 9223372036854775807 := by
      have := (stmtsT_fine 2 (l.take (min l.length 8))).1
      unfold bodyT
      omega
    have HB := fun c1 c2 => firstNe (n := (bodyT l).length) (c := c1) (c' := c2) (by omega) hmax (blk_lt hgBW) hg'W (by omega : kids.length ≠ n0 + 1) x y
    have HB' := fun c1 c2 => firstNe (n := (bodyT l).length) (c := c1) (c' := c2) (by omega) hmax hg'W (blk_lt hgBW) (by omega : n0 + 1 ≠ kids.length) y x
    exact ⟨fin hba6 (by decide) (Or.inl (by decide)), hbbW, blk_lt hbbW, hbWW, fun W' hb => Prg.body 2 2 (hpa.keep hb) (hpb.keep hb) (HP.keep hb) ((HB cb cb').keep hb), fun W' hb => Prg.body 2 2 (hpb.keep hb) (hpa.keep hb) (HP'.keep hb) ((HB' cb' cb).keep hb)⟩
end
section
variable {w : World} {gk g o : Nat} {u v0 v1 v2 v3 v4 v5 v6 : Value}
theorem setD_far : ∀ k, k ≠ g → k ≠ gk → (w.setCell ⟨g, 5, none⟩ u).heap[k]? = w.heap[k]? := fun k h1 _ => Below.heap_setCell w ⟨g, 5, none⟩ u k h1
theorem setD_cell : ∀ j, j ≠ 5 → (w.setCell ⟨g, 5, none⟩ u).cell? ⟨g, j, none⟩ = w.cell? ⟨g, j, none⟩ := fun j h => World.cell?_setCell_other w _ _ u (fun e => h (congrArg Addr.off e).symm)
theorem setD_5 {x : Value} (hx : w.cell? ⟨g, 5, none⟩ = some x) : (w.setCell ⟨g, 5, none⟩ u).cell? ⟨g, 5, none⟩ = some u := World.cell?_setCell_same' w _ u (by rw [hx]; rfl)
theorem setD_below {N : Nat} (h1 : N ≤ g) : Below N w (w.setCell ⟨g, 5, none⟩ u) := (Below.refl N w).setCell (p := ⟨g, 5, none⟩) h1 u
theorem setC_blk (k : Nat) (h : k ≠ gk) : ((((((((w.setCell ⟨g, 5, none⟩ u).setCell ⟨gk, o, none⟩ v0).setCell ⟨gk, o + 1, none⟩ v1).setCell ⟨gk, o + 2, none⟩ v2).setCell ⟨gk, o + 3, none⟩ v3).setCell ⟨gk, o + 4, none⟩ v4).setCell ⟨gk, o + 5, none⟩ v5).setCell ⟨gk, o + 6, none⟩ v6).heap[k]? = (w.setCell ⟨g, 5, none⟩ u).heap[k]? :=
  (Below.heap_setCell _ _ _ _ h).trans ((Below.heap_setCell _ _ _ _ h).trans ((Below.heap_setCell _ _ _ _ h).trans ((Below.heap_setCell _ _ _ _ h).trans ((Below.heap_setCell _ _ _ _ h).trans ((Below.heap_setCell _ _ _ _ h).trans (Below.heap_setCell _ _ _ _ h))))))
theorem setE_cell {W : World} (hb : W.heap[g]? = (w.setCell ⟨g, 5, none⟩ u).heap[g]?) : ∀ j, j ≠ 5 → W.cell? ⟨g, j, none⟩ = w.cell? ⟨g, j, none⟩ := fun j h => (World.cell?_of_block (a := ⟨g, j, none⟩) hb).trans (setD_cell j h)
theorem setE_5 {W : World} (hb : W.heap[g]? = (w.setCell ⟨g, 5, none⟩ u).heap[g]?) {x : Value} (hx : w.cell? ⟨g, 5, none⟩ = some x) : W.cell? ⟨g, 5, none⟩ = some u := (World.cell?_of_block (a := ⟨g, 5, none⟩) hb).trans (setD_5 hx)
theorem setC_far : ∀ k, k ≠ g → k ≠ gk → ((((((((w.setCell ⟨g, 5, none⟩ u).setCell ⟨gk, o, none⟩ v0).setCell ⟨gk, o + 1, none⟩ v1).setCell ⟨gk, o + 2, none⟩ v2).setCell ⟨gk, o + 3, none⟩ v3).setCell ⟨gk, o + 4, none⟩ v4).setCell ⟨gk, o + 5, none⟩ v5).setCell ⟨gk, o + 6, none⟩ v6).heap[k]? = w.heap[k]? := fun k h1 h2 => (setC_blk k h2).trans (setD_far (gk := gk) k h1 h2)
theorem setC_cell (hgg : g ≠ gk) : ∀ j, j ≠ 5 → ((((((((w.setCell ⟨g, 5, none⟩ u).setCell ⟨gk, o, none⟩ v0).setCell ⟨gk, o + 1, none⟩ v1).setCell ⟨gk, o + 2, none⟩ v2).setCell ⟨gk, o + 3, none⟩ v3).setCell ⟨gk, o + 4, none⟩ v4).setCell ⟨gk, o + 5, none⟩ v5).setCell ⟨gk, o + 6, none⟩ v6).cell? ⟨g, j, none⟩ = w.cell? ⟨g, j, none⟩ := setE_cell (setC_blk g hgg)
theorem setC_5 (hgg : g ≠ gk) {x : Value} (hx : w.cell? ⟨g, 5, none⟩ = some x) : ((((((((w.setCell ⟨g, 5, none⟩ u).setCell ⟨gk, o, none⟩ v0).setCell ⟨gk, o + 1, none⟩ v1).setCell ⟨gk, o + 2, none⟩ v2).setCell ⟨gk, o + 3, none⟩ v3).setCell ⟨gk, o + 4, none⟩ v4).setCell ⟨gk, o + 5, none⟩ v5).setCell ⟨gk, o + 6, none⟩ v6).cell? ⟨g, 5, none⟩ = some u := setE_5 (setC_blk g hgg) hx
theorem setC_below {N : Nat} (h1 : N ≤ gk) (h2 : N ≤ g) : Below N w ((((((((w.setCell ⟨g, 5, none⟩ u).setCell ⟨gk, o, none⟩ v0).setCell ⟨gk, o + 1, none⟩ v1).setCell ⟨gk, o + 2, none⟩ v2).setCell ⟨gk, o + 3, none⟩ v3).setCell ⟨gk, o + 4, none⟩ v4).setCell ⟨gk, o + 5, none⟩ v5).setCell ⟨gk, o + 6, none⟩ v6) := (((((((setD_below (u := u) h2).setCell h1 _).setCell h1 _).setCell h1 _).setCell h1 _).setCell h1 _).setCell h1 _).setCell h1 _
end
theorem wp_of_below {w W0 : World} {P : Program} {c : Code} {a : Act} {Q : Exit → Act → World → Prop} (hb : Below w.heap.size w W0) (H : ∀ W, Below w.heap.size w W → Code.wp P c Q a W) : Code.wp P c Q a W0 := H W0 hb
/-- A statement of the law's has at most two kids. -/
theorem kids_le2 {d : Nat} {l : List EE} {k a n : Int} {s : ByteArray} {p : Int} {kids : List Ex} {body els : List St} (h : (stmtsT d l)[0]? = some (.mk k a n s p kids body els)) : kids.length ≤ 2 := by
  rw [stmtsT_eq] at h
  cases l with
  | nil => simp [stmtsK] at h
  | cons x r =>
    simp only [stmtsK, stmtT, List.getElem?_cons_zero, Option.some.injEq, St.mk.injEq] at h
    rw [← h.2.2.2.2.2.1, List.length_replicate]
    omega
/-- The first statement of the second program's body: its kids' row, and where it lies. -/
theorem Two.first {l : List EE} {W : World} {N1 ga gb : Nat} {at_ : Int} {P B P' : Option Addr} {cp cb cp' cb' : Nat} {g' : Nat} {bxs bxs' : List Value} (h : Two l W N1 ga gb at_ P cp B cb P' cp' (some ⟨g', 0, none⟩) cb' bxs bxs') (hpos : 0 < (bodyT l).length) :
    ∃ Ak n0 ck kxs, n0 ≤ 2 ∧ bxs'[5]? = some (.slice Ak n0 ck) ∧ W.ownsRow N1 40 7 (.slice Ak n0 ck) n0 kxs ∧ W.cell? ⟨g', 5, none⟩ = some (.slice Ak n0 ck) ∧ W.frozen? ⟨g', 5, none⟩ = false := by
  obtain ⟨e0, he0⟩ : ∃ e0, (bodyT l)[0]? = some e0 := ⟨_, List.getElem?_eq_getElem hpos⟩
  obtain ⟨hr, kv, n0, kxs, hkc, hko⟩ := h.rB' 0 e0 he0
  obtain ⟨Ak, ck, rfl⟩ := own_form hko
  have hk5 : bxs'[5]? = some (.slice Ak n0 ck) := hkc
  have hc5 := h.oB'.cellAt 5 (by omega)
  rw [hk5] at hc5
  refine ⟨Ak, n0, ck, kxs, ?_, hk5, hko, hc5, h.oB'.frozenAt 5⟩
  cases e0 with
  | mk k a n s p kids body els =>
    obtain ⟨K', ck', BB', cbb', EE'', ce', Y⟩ := eight hr
    have hvk := Y 5 _ rfl
    have e1 : 0 * 8 + 5 = 5 := rfl
    rw [e1, hk5] at hvk
    injection hvk with hvk
    injection hvk with h1 h2 h3
    have := kids_le2 (d := 2) (l := l.take (min l.length 8)) (by exact he0)
    omega
section
variable {w : World} {gp gb o j : Nat} {u v0 v1 v2 v3 v4 v5 v6 v7 : Value}
theorem setA_far : ∀ k, k ≠ gb → k ≠ gp → (((((((((w.setCell ⟨gp, o, none⟩ v0).setCell ⟨gp, o + 1, none⟩ v1).setCell ⟨gp, o + 2, none⟩ v2).setCell ⟨gp, o + 3, none⟩ v3).setCell ⟨gp, o + 4, none⟩ v4).setCell ⟨gp, o + 5, none⟩ v5).setCell ⟨gp, o + 6, none⟩ v6).setCell ⟨gp, o + 7, none⟩ v7).setCell ⟨gb, j, none⟩ u).heap[k]? = w.heap[k]? := fun k h1 h2 => (Below.heap_setCell _ _ _ _ h1).trans (put8_other (w := w) (b := gp) (o := o) h2 v0 v1 v2 v3 v4 v5 v6 v7)
theorem setB_far : ∀ k, k ≠ gb → k ≠ gp → (((((((((w.setCell ⟨gb, j, none⟩ u).setCell ⟨gp, o, none⟩ v0).setCell ⟨gp, o + 1, none⟩ v1).setCell ⟨gp, o + 2, none⟩ v2).setCell ⟨gp, o + 3, none⟩ v3).setCell ⟨gp, o + 4, none⟩ v4).setCell ⟨gp, o + 5, none⟩ v5).setCell ⟨gp, o + 6, none⟩ v6).setCell ⟨gp, o + 7, none⟩ v7).heap[k]? = w.heap[k]? := fun k h1 h2 => (put8_other (w := w.setCell ⟨gb, j, none⟩ u) (b := gp) (o := o) h2 v0 v1 v2 v3 v4 v5 v6 v7).trans (Below.heap_setCell _ _ _ _ h1)
theorem setA_at {T : TypeId} {fr : Nat × Nat} (hgg : gb ≠ gp) : ∀ cs, w.heap[gb]? = some (.cells cs T fr) → (((((((((w.setCell ⟨gp, o, none⟩ v0).setCell ⟨gp, o + 1, none⟩ v1).setCell ⟨gp, o + 2, none⟩ v2).setCell ⟨gp, o + 3, none⟩ v3).setCell ⟨gp, o + 4, none⟩ v4).setCell ⟨gp, o + 5, none⟩ v5).setCell ⟨gp, o + 6, none⟩ v6).setCell ⟨gp, o + 7, none⟩ v7).setCell ⟨gb, j, none⟩ u).heap[gb]? = some (.cells (cs.setIfInBounds j u) T fr) := fun cs h => heap_set ((put8_other (w := w) (b := gp) (o := o) hgg v0 v1 v2 v3 v4 v5 v6 v7).trans h) j u
theorem setB_at {T : TypeId} {fr : Nat × Nat} (hgg : gb ≠ gp) : ∀ cs, w.heap[gb]? = some (.cells cs T fr) → (((((((((w.setCell ⟨gb, j, none⟩ u).setCell ⟨gp, o, none⟩ v0).setCell ⟨gp, o + 1, none⟩ v1).setCell ⟨gp, o + 2, none⟩ v2).setCell ⟨gp, o + 3, none⟩ v3).setCell ⟨gp, o + 4, none⟩ v4).setCell ⟨gp, o + 5, none⟩ v5).setCell ⟨gp, o + 6, none⟩ v6).setCell ⟨gp, o + 7, none⟩ v7).heap[gb]? = some (.cells (cs.setIfInBounds j u) T fr) := fun cs h => (put8_other (w := w.setCell ⟨gb, j, none⟩ u) (b := gp) (o := o) hgg v0 v1 v2 v3 v4 v5 v6 v7).trans (heap_set h j u)
theorem setA_below {N : Nat} (h1 : N ≤ gp) (h2 : N ≤ gb) : Below N w (((((((((w.setCell ⟨gp, o, none⟩ v0).setCell ⟨gp, o + 1, none⟩ v1).setCell ⟨gp, o + 2, none⟩ v2).setCell ⟨gp, o + 3, none⟩ v3).setCell ⟨gp, o + 4, none⟩ v4).setCell ⟨gp, o + 5, none⟩ v5).setCell ⟨gp, o + 6, none⟩ v6).setCell ⟨gp, o + 7, none⟩ v7).setCell ⟨gb, j, none⟩ u) := (put8_below (w := w) (b := gp) (o := o) h1 v0 v1 v2 v3 v4 v5 v6 v7).setCell h2 u
theorem setB_below {N : Nat} (h1 : N ≤ gp) (h2 : N ≤ gb) : Below N w (((((((((w.setCell ⟨gb, j, none⟩ u).setCell ⟨gp, o, none⟩ v0).setCell ⟨gp, o + 1, none⟩ v1).setCell ⟨gp, o + 2, none⟩ v2).setCell ⟨gp, o + 3, none⟩ v3).setCell ⟨gp, o + 4, none⟩ v4).setCell ⟨gp, o + 5, none⟩ v5).setCell ⟨gp, o + 6, none⟩ v6).setCell ⟨gp, o + 7, none⟩ v7) := ((Below.refl N w).setCell (p := ⟨gb, j, none⟩) h2 u).trans (put8_below (w := w.setCell ⟨gb, j, none⟩ u) (b := gp) (o := o) h1 v0 v1 v2 v3 v4 v5 v6 v7)
end
/-- The cells of a row's last element, as it was appended. -/
theorem new8 {w6 : World} {N1 gp nb cap : Nat} {T : TypeId} {xs : List Value} {v0 v1 v2 v3 v4 v5 v6 v7 : Value} (hx : xs.length = nb * 8) (hown : w6.ownsRow N1 T 8 (.slice (some ⟨gp, 0, none⟩) (nb + 1) cap) (nb + 1) (xs ++ [v0, v1, v2, v3, v4, v5, v6, v7])) :
    w6.cell? ⟨gp, nb * 8, none⟩ = some v0 ∧ w6.cell? ⟨gp, nb * 8 + 1, none⟩ = some v1 ∧ w6.cell? ⟨gp, nb * 8 + 2, none⟩ = some v2 ∧ w6.cell? ⟨gp, nb * 8 + 3, none⟩ = some v3 ∧ w6.cell? ⟨gp, nb * 8 + 4, none⟩ = some v4 ∧ w6.cell? ⟨gp, nb * 8 + 5, none⟩ = some v5 ∧ w6.cell? ⟨gp, nb * 8 + 6, none⟩ = some v6 ∧ w6.cell? ⟨gp, nb * 8 + 7, none⟩ = some v7 := by
  have H : ∀ j, j < 8 → w6.cell? ⟨gp, nb * 8 + j, none⟩ = ([v0, v1, v2, v3, v4, v5, v6, v7] : List Value)[j]? := fun j hj => by
    rw [hown.cellAt (nb * 8 + j) (by omega), List.getElem?_append_right (by omega), hx, Nat.add_sub_cancel_left]
  exact ⟨H 0 (by omega), H 1 (by omega), H 2 (by omega), H 3 (by omega), H 4 (by omega), H 5 (by omega), H 6 (by omega), H 7 (by omega)⟩
theorem new7 {w6 : World} {N1 gp nb cap : Nat} {T : TypeId} {xs : List Value} {v0 v1 v2 v3 v4 v5 v6 : Value} (hx : xs.length = nb * 7) (hown : w6.ownsRow N1 T 7 (.slice (some ⟨gp, 0, none⟩) (nb + 1) cap) (nb + 1) (xs ++ [v0, v1, v2, v3, v4, v5, v6])) :
    w6.cell? ⟨gp, nb * 7, none⟩ = some v0 ∧ w6.cell? ⟨gp, nb * 7 + 1, none⟩ = some v1 ∧ w6.cell? ⟨gp, nb * 7 + 2, none⟩ = some v2 ∧ w6.cell? ⟨gp, nb * 7 + 3, none⟩ = some v3 ∧ w6.cell? ⟨gp, nb * 7 + 4, none⟩ = some v4 ∧ w6.cell? ⟨gp, nb * 7 + 5, none⟩ = some v5 ∧ w6.cell? ⟨gp, nb * 7 + 6, none⟩ = some v6 := by
  have H : ∀ j, j < 7 → w6.cell? ⟨gp, nb * 7 + j, none⟩ = ([v0, v1, v2, v3, v4, v5, v6] : List Value)[j]? := fun j hj => by
    rw [hown.cellAt (nb * 7 + j) (by omega), List.getElem?_append_right (by omega), hx, Nat.add_sub_cancel_left]
  exact ⟨H 0 (by omega), H 1 (by omega), H 2 (by omega), H 3 (by omega), H 4 (by omega), H 5 (by omega), H 6 (by omega)⟩
end Go.Proofs.Ytpnpjlggikdinaa
