/-
  sources: a block is entered; over plain data; what a way back gives.
-/
import Derived.Test.YtlejpoofgnenhaaGrM
namespace Go.Proofs.Ytlejpoofgnenhaa
open Go.RowKit
set_option linter.unusedVariables false
set_option linter.unusedSimpArgs false

def enterP (b : Nat) (s : List Bool × List Nat) : List Bool × List Nat := if s.1.getD b false then s else (s.1.set b true, b :: s.2)
/-- From which blocks one comes: what is shut, what is left to look at (the next one first), what was told. -/
def srcRun (bk : Nat → List Int) : Nat → List Bool → List Nat → List Nat → Option (List Bool × List Nat)
  | _, sh, [], o => some (sh, o)
  | 0, _, _ :: _, _ => none
  | k + 1, sh, b :: left, o => srcRun bk k ((bk b).foldl (fun s x => enterP x.toNat s) (sh, left)).1 ((bk b).foldl (fun s x => enterP x.toNat s) (sh, left)).2 (o ++ [b])
/-- The stack of blocks, and what is shut. -/
structure Ent (base bxs sb L n : Nat) (w : World) (shut : List Bool) (left : List Nat) (LV : Value) : Prop where
  bs : w.cell? ⟨bxs, 0, none⟩ = some (.slice (some ⟨sb, 0, none⟩) n n)
  sh : w.heap[sb]? = some (.cells (boolsV shut).toArray 4 (0, 0))
  bl : w.heap[L]? = some (.cells #[LV] 23 (0, 0))
  row : w.ownsRow base 3 1 LV left.length (natsV left.reverse)
  len : shut.length = n
  cnt : left.length + unseen shut ≤ n
  lt : bxs < base ∧ sb < base ∧ L < base
  ne : bxs ≠ sb ∧ bxs ≠ L ∧ sb ≠ L
  hb : base ≤ w.heap.size
  few : n ≤ 1048576
/-- What the iterator writes. -/
def FE (sb L : Nat) (LV : Value) : Nat → Prop := fun k => k = sb ∨ k = L ∨ LV.ownBlock = some k
theorem Ent.step {base bxs sb L n : Nat} {w w' : World} {shut : List Bool} {left : List Nat} {LV : Value} (h : Ent base bxs sb L n w shut left LV) (hb : StepOff (FE sb L LV) w w') (hx : w'.heap[bxs]? = w.heap[bxs]?) : Ent base bxs sb L n w' shut left LV := by
  have hr := h.row
  refine ⟨(World.cell?_of_block (a := ⟨bxs, 0, none⟩) hx).trans h.bs, (hb.block sb (.inl rfl)).trans h.sh, (hb.block L (.inr (.inl rfl))).trans h.bl, ?_, h.len, h.cnt, h.lt, h.ne, Nat.le_trans h.hb hb.size, h.few⟩
  refine ⟨hr.1, ?_⟩
  rcases hr.2 with h1 | ⟨g, cap, cur, hv, h2, h3, rest⟩
  · exact .inl h1
  · exact .inr ⟨g, cap, cur, hv, h2, (hb.block g (.inr (.inr (by rw [hv]; rfl)))).trans h3, rest⟩
theorem Ent.below {base bxs sb L n : Nat} {w w' : World} {shut : List Bool} {left : List Nat} {LV : Value} (h : Ent base bxs sb L n w shut left LV) (hb : Below w.heap.size w w') : Ent base bxs sb L n w' shut left LV :=
  ⟨(hb.cell (p := ⟨bxs, 0, none⟩) (by have := h.lt.1; have := h.hb; show bxs < w.heap.size; omega)).trans h.bs, (hb.block sb (by have := h.lt.2.1; have := h.hb; omega)).trans h.sh, (hb.block L (by have := h.lt.2.2; have := h.hb; omega)).trans h.bl, gr_up h.row hb, h.len, h.cnt, h.lt, h.ne, Nat.le_trans h.hb hb.size, h.few⟩
theorem FE.lt {base bxs sb L n : Nat} {w : World} {shut : List Bool} {left : List Nat} {LV : Value} (h : Ent base bxs sb L n w shut left LV) : ∀ k, FE sb L LV k → k < w.heap.size := fun k hk => by
  rcases hk with rfl | rfl | hk
  · have := h.lt.2.1; have := h.hb; omega
  · have := h.lt.2.2; have := h.hb; omega
  · exact (h.row.lt k hk).2
theorem StepOn.refl (F : Nat → Prop) (A : World) : StepOn F F A A := ⟨rfl, rfl, rfl, Nat.le_refl _, fun _ _ _ => rfl, fun _ h => .inl h⟩
theorem StepOn.trans {F F' F2 : Nat → Prop} {A B C : World} (h : StepOn F F' A B) (k : StepOn F' F2 B C) : StepOn F F2 A C :=
  ⟨k.os.trans h.os, k.tape.trans h.tape, k.output.trans h.output, Nat.le_trans h.size k.size, fun i hi hn => (k.block i (Nat.lt_of_lt_of_le hi h.size) (fun e => by
    rcases h.foot i e with q | q
    · exact hn q
    · omega)).trans (h.block i hi hn), fun i hi => by
    rcases k.foot i hi with q | q
    · exact h.foot i q
    · exact .inr (Nat.le_trans h.size q)⟩
theorem StepOn.below {F : Nat → Prop} {A B : World} (h : Below A.heap.size A B) : StepOn F F A B := ⟨h.os, h.tape, h.output, h.size, fun k hk _ => h.block k hk, fun _ h => .inl h⟩

set_option maxRecDepth 100000 in
set_option maxHeartbeats 8000000 in
theorem enter_g (base bxs sb L n b : Nat) (shut : List Bool) (left : List Nat) (LV : Value) (w : World) (h : Ent base bxs sb L n w shut left LV) (hb : b < n) :
    Calls Try.prog 45 #[.int .i64 (b : Int), .pointer (some ⟨bxs, 0, none⟩), .pointer (some ⟨L, 0, none⟩)] w fun e w' => (∃ v, e = .returned v) ∧ ∃ LV', Ent base bxs sb L n w' (enterP b (shut, left)).1 (enterP b (shut, left)).2 LV' ∧ StepOn (FE sb L LV) (FE sb L LV') w w' := by
  have c0 := h.bs
  have d0 : w.cell? ⟨sb, b, none⟩ = some (.bool (shut.getD b false)) := by
    rw [Lib.cell_of_heap h.sh b]
    have := boolsV_at shut b (by rw [h.len]; exact hb)
    simpa using this
  have df := Lib.frozen_of_heap h.sh b
  have H := Lib.hid h
  cases hq : shut.getD b false with
  | true =>
    have he : enterP b (shut, left) = (shut, left) := by unfold enterP; simp only [hq]; rfl
    rw [he]
    rw [hq] at d0
    clear hq he h
    go_enter Try.func45, Try.ntmps45
    go_wp2
    go_end0
    exact ⟨⟨_, rfl⟩, LV, H.out, StepOn.refl _ _⟩
  | false =>
    have he : enterP b (shut, left) = (shut.set b true, b :: left) := by unfold enterP; simp only [hq]; rfl
    rw [he]
    rw [hq] at d0
    have hun := unseen_set shut b (by rw [h.len]; exact hb) hq
    obtain ⟨W, hW⟩ : ∃ W, W = w.setCell ⟨sb, b, none⟩ (.bool true) := ⟨_, rfl⟩
    have hWsb : W.heap[sb]? = some (.cells (boolsV (shut.set b true)).toArray 4 (0, 0)) := by
      rw [hW, gr_put h.sh b]
      simp [boolsV, List.map_set]
    have hWo : ∀ k, k ≠ sb → W.heap[k]? = w.heap[k]? := fun k hk => by rw [hW]; exact Below.heap_setCell _ _ _ _ hk
    have hWz : W.heap.size = w.heap.size := by rw [hW]; simp [World.setCell]
    have hWbl : W.heap[L]? = some (.cells #[LV] 23 (0, 0)) := (hWo L (fun e => h.ne.2.2 e.symm)).trans h.bl
    have hWg : w.grownBy W (some sb) := ⟨by rw [hW]; rfl, by rw [hW]; rfl, by rw [hW]; rfl, by omega, fun k _ hk => hWo k (fun e => hk (by rw [e]))⟩
    have hWrow := h.row.kept hWg (by
      cases hv : LV.ownBlock with
      | none => exact .inl rfl
      | some g =>
        refine .inr (fun e => ?_)
        have := (h.row.lt g hv).1
        have := h.lt.2.1
        injection e with e
        omega)
    obtain ⟨A5, c5, hA5⟩ := gr_slice h.row
    obtain ⟨A2, hA2, hbA, hzA, h0A⟩ := gr_one W #[.int .i64 (b : Int)] 3
    have hAbl := (hbA.block L (gr_in hWbl)).trans hWbl
    obtain ⟨j1, hj1, jz0, jz1, jz2⟩ := info_parts infoIntG
    have Ji := Lib.hid hj1
    have Jz0 := Lib.hid jz0
    have Jz1 := Lib.hid jz1
    have Jz2 := Lib.hid jz2
    have HOW := Lib.hid (gr_up hWrow hbA)
    have HNW := Lib.hid (World.news_of_block h0A)
    have HOn : Hid (∀ u ∈ ([.int .i64 (b : Int)] : List Value), u.oneCell' = true) := Lib.hid (by intro u hu; simp at hu; subst hu; rfl)
    have hsz2 : base ≤ A2.heap.size := by have := h.hb; omega
    have hfew : left.length < 1048576 := by have := h.cnt; have := h.few; omega
    have l0 := Lib.cell_of_heap hWbl 0
    have HWg := Lib.hid hWg
    have HWsb := Lib.hid hWsb
    have HWbl := Lib.hid hWbl
    have HAbl := Lib.hid hAbl
    have HbA := Lib.hid hbA
    have HzA := Lib.hid hzA
    have HWz := Lib.hid hWz
    have HW := Lib.hid hW
    have HA5 := Lib.hid hA5
    have Hun := Lib.hid hun
    rw [hA5] at HOW l0
    rw [hA2] at HOW HNW hsz2
    have HA2 := Lib.hid hA2
    clear hq he h hW hWsb hWo hWz hWbl hWg hWrow hA5 hA2 hbA hzA h0A hAbl hj1 jz0 jz1 jz2 hun
    go_enter Try.func45, Try.ntmps45
    go_upto_region 2 with fail
    rw [← HW.out]
    clear c0 d0 df
    go_wp2_with (at_builtin; refine wpList_append_lies _ rfl (.tmp 12) (.tmp 14) 23 rfl base 3 j1 (.int .i64 0) 1 8 Try.underlying23 Ji.out Jz0.out Jz1.out Jz2.out rfl (by decide) (.slice A5 left.length c5) left.length (natsV left.reverse) rfl HOW.out ⟨W.heap.size, 0, none⟩ 1 1 [.int .i64 (b : Int)] rfl rfl HNW.out HOn.out (by decide) (by unfold maxLen; omega) (by omega) hsz2 _ rfl ?_)
    intro gp cp w5 hown5 hgrow hat hlt5
    rw [← HA2.out] at hgrow
    have hob : (Value.slice A5 left.length c5).ownBlock = LV.ownBlock := by rw [HA5.out]
    rw [hob] at hgrow hat
    have hLg : some L ≠ LV.ownBlock := fun e => by
      have := (H.out.row.lt L e.symm).1
      have := H.out.lt.2.2
      omega
    have hSg : some sb ≠ LV.ownBlock := fun e => by
      have := (H.out.row.lt sb e.symm).1
      have := H.out.lt.2.1
      omega
    have hBg : some bxs ≠ LV.ownBlock := fun e => by
      have := (H.out.row.lt bxs e.symm).1
      have := H.out.lt.1
      omega
    have hL5 : w5.heap[L]? = some (.cells #[LV] 23 (0, 0)) := (hgrow.block L (gr_in HAbl.out) hLg).trans HAbl.out
    have hlo : base ≤ w.heap.size := H.out.hb
    have hlb := H.out.lt
    have hgp : LV.ownBlock = some gp ∨ w.heap.size ≤ gp := by
      rcases hat with e | e
      · exact .inl e
      · right; have := HWz.out; omega
    have hgb : base ≤ gp := by
      rcases hgp with e | e
      · exact (H.out.row.lt gp e).1
      · omega
    have hfar : ∀ k, k < w.heap.size → k ≠ sb → some k ≠ LV.ownBlock → w5.heap[k]? = w.heap[k]? := fun k hk hs ho =>
      (hgrow.block k (by have := HbA.out.size; have := HWz.out; omega) ho).trans ((HbA.out.block k (by have := HWz.out; omega)).trans (HWg.out.block k hk (fun e => hs (by injection e))))
    have hsb5 : w5.heap[sb]? = some (.cells (boolsV (shut.set b true)).toArray 4 (0, 0)) := (hgrow.block sb (by have := HbA.out.size; have := HWz.out; omega) hSg).trans ((HbA.out.block sb (by have := HWz.out; omega)).trans HWsb.out)
    have e0 := Lib.cell_of_heap hL5 0
    have ef := Lib.frozen_of_heap hL5 0
    obtain ⟨Z, hZ⟩ : ∃ Z, Z = w5.setCell ⟨L, 0, none⟩ (.slice (some ⟨gp, 0, none⟩) (left.length + 1) cp) := ⟨_, rfl⟩
    have hZo : ∀ k, k ≠ L → Z.heap[k]? = w5.heap[k]? := fun k hk => by rw [hZ]; exact Below.heap_setCell _ _ _ _ hk
    have hZz : Z.heap.size = w5.heap.size := by rw [hZ]; simp [World.setCell]
    have hZL : Z.heap[L]? = some (.cells #[.slice (some ⟨gp, 0, none⟩) (left.length + 1) cp] 23 (0, 0)) := by rw [hZ, gr_put hL5 0]; rfl
    have hZrow : Z.ownsRow base 3 1 (.slice (some ⟨gp, 0, none⟩) (left.length + 1) cp) (left.length + 1) (natsV (b :: left).reverse) := by
      have hx : natsV (b :: left).reverse = natsV left.reverse ++ [Value.int .i64 (b : Int)] := by simp [natsV]
      rw [hx]
      exact hown5.kept (row := some L) ⟨by rw [hZ]; rfl, by rw [hZ]; rfl, by rw [hZ]; rfl, by omega, fun k _ hk => hZo k (fun e => hk (by rw [e]))⟩ (.inr (by simp [Value.ownBlock]; omega))
    have hsz5 : w.heap.size ≤ w5.heap.size := by have := hgrow.size; have := HbA.out.size; have := HWz.out; omega
    have hent : Ent base bxs sb L n Z (shut.set b true) (b :: left) (.slice (some ⟨gp, 0, none⟩) (left.length + 1) cp) :=
      ⟨(World.cell?_of_block (a := ⟨bxs, 0, none⟩) ((hZo bxs H.out.ne.2.1).trans (hfar bxs (by omega) H.out.ne.1 hBg))).trans H.out.bs, (hZo sb H.out.ne.2.2).trans hsb5, hZL, hZrow, by simpa using H.out.len, by have := H.out.cnt; have := Hun.out; simp; omega, H.out.lt, H.out.ne, by omega, H.out.few⟩
    have hon : StepOn (FE sb L LV) (FE sb L (.slice (some ⟨gp, 0, none⟩) (left.length + 1) cp)) w Z := by
      refine ⟨?_, ?_, ?_, by omega, fun k hk hn => ?_, fun k hk => ?_⟩
      · rw [hZ]; exact hgrow.os.trans (HbA.out.os.trans HWg.out.os)
      · rw [hZ]; exact hgrow.tape.trans (HbA.out.tape.trans HWg.out.tape)
      · rw [hZ]; exact hgrow.output.trans (HbA.out.output.trans HWg.out.output)
      · exact (hZo k (fun e => hn (.inr (.inl e)))).trans (hfar k hk (fun e => hn (.inl e)) (fun e => hn (.inr (.inr e.symm))))
      · rcases hk with h | h | h
        · exact .inl (.inl h)
        · exact .inl (.inr (.inl h))
        · simp only [Value.ownBlock, Option.some.injEq] at h
          subst h
          rcases hgp with e | e
          · exact .inl (.inr (.inr e))
          · exact .inr e
    have Hent := Lib.hid hent
    have Hon := Lib.hid hon
    have HZ := Lib.hid hZ
    rw [HA5.out] at e0
    clear hown5 hgrow hat hlt5 hL5 hlo hlb hgp hgb hfar hsb5 hZ hZo hZz hZL hZrow hsz5 hent hon hob hLg hSg hBg HOW HNW hsz2 l0
    go_wp2
    rw [← HZ.out]
    go_end0
    exact ⟨⟨_, rfl⟩, _, Hent.out, Hon.out⟩
end Go.Proofs.Ytlejpoofgnenhaa
