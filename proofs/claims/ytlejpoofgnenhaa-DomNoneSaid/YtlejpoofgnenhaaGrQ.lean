/-
  sources: the iterator, walked.
-/
import Derived.Test.YtlejpoofgnenhaaGrO
import Derived.Laws.EntriesVeiled
namespace Go.Proofs.Ytlejpoofgnenhaa
open Go.RowKit
set_option linter.unusedVariables false
set_option linter.unusedSimpArgs false

attribute [local go_sem] Oper.semAt_some

/-- What is known while sources goes on. -/
structure SrcB (W A : World) (bxs sb n : Nat) (J : List Nat → (Nat → Prop) → World → Prop) (F0 S : Nat → Prop) (ds : List Deferred) (shut : List Bool) (left o : List Nat) (LV : Value) (F : Nat → Prop) : Prop where
  ent : Ent (W.heap.size + 2) bxs sb W.heap.size n A shut left LV
  clo : A.cell? ⟨W.heap.size + 1, 0, none⟩ = some (.func (.func 45) #[] #[.pointer (some ⟨bxs, 0, none⟩), .pointer (some ⟨W.heap.size, 0, none⟩)])
  j : J o F A
  fr : Framed F0 F (fun k => k = sb) W A
  ap : ∀ k, S k ∨ FE sb W.heap.size LV k ∨ k = W.heap.size + 1 → ¬ F k
  mks : Mks W.heap.size A F ds
/-- Between two rounds of sources. -/
structure SrcS (W A : World) (bxs sb n : Nat) (bk : Nat → List Int) (J : List Nat → (Nat → Prop) → World → Prop) (F0 S : Nat → Prop) (shut' : List Bool) (xs : List Nat) (k : Nat) (ds : List Deferred) (shut : List Bool) (left o : List Nat) (LV : Value) (F : Nat → Prop) : Prop where
  b : SrcB W A bxs sb n J F0 S ds shut left o LV F
  run : srcRun bk k shut left o = some (shut', xs)
  lt : ∀ b ∈ left, b < n
/-- What sources knows of its rounds. -/
structure SrcH (W : World) (bxs sb : Nat) (J : List Nat → (Nat → Prop) → World → Prop) (F0 S : Nat → Prop) : Prop where
  off : ∀ pre F A B, J pre F A → StepOff F A B → J pre F B
  jlt : ∀ pre F A, J pre F A → ∀ k, F k → k < A.heap.size
  slt : ∀ k, S k → k < W.heap.size
  ss : S bxs ∧ S sb
  s0 : ∀ k, S k → ¬ F0 k
variable {W A B : World} {bxs sb n : Nat} {J : List Nat → (Nat → Prop) → World → Prop} {F0 S : Nat → Prop} {ds : List Deferred} {shut shut2 : List Bool} {left left2 o o2 : List Nat} {LV LV2 : Value} {F F2 : Nat → Prop}
theorem FE.cells {base bxs sb L n : Nat} {w : World} {shut : List Bool} {left : List Nat} {LV : Value} (h : Ent base bxs sb L n w shut left LV) {k : Nat} (hk : FE sb L LV k) : w.heap[k]? ≠ some (.deferred (some [])) := by
  rcases hk with rfl | rfl | hk
  · rw [h.sh]; simp
  · rw [h.bl]; simp
  · rcases h.row.2 with ⟨h1, _⟩ | ⟨g, cap, cur, hv, h2, h3, rest⟩
    · rw [h1] at hk; simp [Value.ownBlock] at hk
    · rw [hv] at hk
      simp [Value.ownBlock] at hk
      subst hk
      rw [h3]; simp
theorem SrcB.on (h : SrcB W A bxs sb n J F0 S ds shut left o LV F) (H : SrcH W bxs sb J F0 S) (hon : StepOn F F2 A B) (hj : J o2 F2 B) : SrcB W B bxs sb n J F0 S ds shut left o2 LV F2 := by
  have hWA := h.fr.size
  have hlt : ∀ k, S k ∨ FE sb W.heap.size LV k ∨ k = W.heap.size + 1 → k < A.heap.size := fun k hk => by
    rcases hk with hk | hk | hk
    · have := H.slt k hk; omega
    · exact FE.lt h.ent k hk
    · have := h.ent.hb; omega
  have hsame : ∀ k, S k ∨ FE sb W.heap.size LV k ∨ k = W.heap.size + 1 → B.heap[k]? = A.heap[k]? := fun k hk => hon.block k (hlt k hk) (h.ap k hk)
  refine ⟨h.ent.step ⟨hon.os, hon.tape, hon.output, hon.size, fun k hk => hsame k (.inr (.inl hk))⟩ (hsame bxs (.inl H.ss.1)), (World.cell?_of_block (a := ⟨W.heap.size + 1, 0, none⟩) (hsame _ (.inr (.inr rfl)))).trans h.clo, hj, h.fr.on hon, fun k hk e => ?_, h.mks.step (fun k h1 h2 h3 => ⟨(hon.block k (gr_in h3) h2).trans h3, fun e => ?_⟩)⟩
  · rcases hon.foot k e with q | q
    · exact h.ap k hk q
    · have := hlt k hk; omega
  · rcases hon.foot k e with q | q
    · exact h2 q
    · have := gr_in h3; omega
theorem SrcB.own (h : SrcB W A bxs sb n J F0 S ds shut left o LV F) (H : SrcH W bxs sb J F0 S) (he : Ent (W.heap.size + 2) bxs sb W.heap.size n B shut2 left2 LV2) (hon : StepOn (FE sb W.heap.size LV) (FE sb W.heap.size LV2) A B) : SrcB W B bxs sb n J F0 S ds shut2 left2 o LV2 F := by
  have hWA := h.fr.size
  have hsbl := H.slt sb H.ss.2
  have hno : ∀ k, k < W.heap.size + 2 → k ≠ sb → k ≠ W.heap.size → ¬ FE sb W.heap.size LV k := fun k hk h1 h2 e => by
    rcases e with e | e | e
    · exact h1 e
    · exact h2 e
    · have := (h.ent.row.lt k e).1; omega
  have hhb := h.ent.hb
  refine ⟨he, (World.cell?_of_block (a := ⟨W.heap.size + 1, 0, none⟩) (hon.block _ (by show W.heap.size + 1 < A.heap.size; omega) (hno (W.heap.size + 1) (by omega) (by omega) (by omega)))).trans h.clo, H.off _ _ _ _ h.j ⟨hon.os, hon.tape, hon.output, hon.size, fun k hk => hon.block k (H.jlt _ _ _ h.j k hk) (fun e => h.ap k (.inr (.inl e)) hk)⟩, ?_, fun k hk e => ?_, h.mks.step (fun k h1 h2 h3 => ⟨(hon.block k (gr_in h3) (fun e => FE.cells h.ent e h3)).trans h3, h2⟩)⟩
  · exact ⟨hon.os.trans h.fr.os, hon.tape.trans h.fr.tape, hon.output.trans h.fr.output, Nat.le_trans h.fr.size hon.size, fun k hk hn hw => (hon.block k (by omega) (hno k (by omega) hw (by omega))).trans (h.fr.block k hk hn hw), h.fr.foot⟩
  · rcases hk with hk | hk | hk
    · exact h.ap k (.inl hk) e
    · rcases hon.foot k hk with q | q
      · exact h.ap k (.inr (.inl q)) e
      · have := H.jlt _ _ _ h.j k e; omega
    · exact h.ap k (.inr (.inr hk)) e
theorem SrcB.below (h : SrcB W A bxs sb n J F0 S ds shut left o LV F) (H : SrcH W bxs sb J F0 S) (hb : Below A.heap.size A B) : SrcB W B bxs sb n J F0 S ds shut left o LV F :=
  h.on H ⟨hb.os, hb.tape, hb.output, hb.size, fun k hk _ => hb.block k hk, fun k hk => .inl hk⟩ (H.off _ _ _ _ h.j ⟨hb.os, hb.tape, hb.output, hb.size, fun k hk => hb.block k (H.jlt _ _ _ h.j k hk)⟩)

theorem foldl_enter_lt (n : Nat) : ∀ (l : List Int) (s : List Bool × List Nat), (∀ x ∈ l, 0 ≤ x ∧ x < n) → (∀ b ∈ s.2, b < n) → ∀ b ∈ (l.foldl (fun s x => enterP x.toNat s) s).2, b < n
  | [], s, _, h => h
  | x :: l, s, hl, h => by
    refine foldl_enter_lt n l (enterP x.toNat s) (fun y hy => hl y (List.mem_cons_of_mem _ hy)) ?_
    intro b hb
    unfold enterP at hb
    split at hb
    · exact h b hb
    · rcases List.mem_cons.1 hb with rfl | hb
      · have := hl x (by simp); omega
      · exact h b hb

set_option maxRecDepth 100000 in
set_option maxHeartbeats 32000000 in
theorem sources_sep (bxs bxt bxk sb n to_ j0 : Nat) (bv : Value) (bk : Nat → List Int) (shut shut' : List Bool) (xs : List Nat) (S0 S : Nat → Prop) (W : World)
    (hbs : W.cell? ⟨bxs, 0, none⟩ = some (.slice (some ⟨sb, 0, none⟩) n n)) (hsb : W.heap[sb]? = some (.cells (boolsV shut).toArray 4 (0, 0))) (hbt : W.cell? ⟨bxt, 0, none⟩ = some (.int .i64 (to_ : Int))) (hto : to_ < n) (hbk : W.cell? ⟨bxk, 0, none⟩ = some bv)
    (hB : BackAt Try.prog bv bk n S0 W) (hbin : ∀ b, b < n → ∀ x ∈ bk b, 0 ≤ x ∧ x < n) (hlen : shut.length = n) (hn : n ≤ 1048576)
    (hS0 : ∀ k, S0 k → S k) (hSx : S bxs ∧ S bxt ∧ S bxk ∧ S sb) (hSl : ∀ k, S k → k < W.heap.size) (hne : ¬ S0 bxs ∧ ¬ S0 sb ∧ bxs ≠ sb ∧ bxt ≠ sb ∧ bxk ≠ sb)
    (hrun : srcRun bk j0 (enterP to_ (shut, [])).1 (enterP to_ (shut, [])).2 [] = some (shut', xs)) :
    SepGives Try.prog 44 #[.pointer (some ⟨bxs, 0, none⟩), .pointer (some ⟨bxt, 0, none⟩), .pointer (some ⟨bxk, 0, none⟩)] (fun b : Nat => .int .i64 (b : Int)) xs S (fun k => k = sb) (fun W' => W'.heap[sb]? = some (.cells (boolsV shut').toArray 4 (0, 0))) W := by
  intro y J F0 hJoff hJlt hJ hF0 h0
  have hS0' : ∀ k, S k → ¬ F0 k := fun k hk e => hF0 k e hk
  have hsl := fun k hk => hSl k (hS0 k hk)
  -- two blocks: the stack's box, the closure's
  obtain ⟨Y1, hY1, hbY1, hzY1, h0Y1⟩ := gr_one W #[.slice none 0 0] 23
  obtain ⟨Y2, hY2, hbY2, hzY2, h0Y2⟩ := gr_one Y1 #[.func (.func 45) #[] #[.pointer (some ⟨bxs, 0, none⟩), .pointer (some ⟨W.heap.size, 0, none⟩)]] 68
  have hb2 : Below W.heap.size W Y2 := hbY1.trans (hbY2.mono (by omega))
  have hent0 : Ent (W.heap.size + 2) bxs sb W.heap.size n Y2 shut [] (.slice none 0 0) :=
    ⟨(hb2.cell (p := ⟨bxs, 0, none⟩) (hSl _ hSx.1)).trans hbs, (hb2.block sb (hSl _ hSx.2.2.2)).trans hsb, (hbY2.block _ (by omega)).trans h0Y1, World.ownsRow_nil _ _ _ _, hlen, by have := unseen_le shut; simp; omega, by have := hSl _ hSx.1; have := hSl _ hSx.2.2.2; omega, ⟨hne.2.2.1, by have := hSl _ hSx.1; omega, by have := hSl _ hSx.2.2.2; omega⟩, by omega, hn⟩
  have hE := enter_g _ bxs sb W.heap.size n to_ shut [] _ Y2 hent0 hto
  have hclo2 : Y2.cell? ⟨W.heap.size + 1, 0, none⟩ = some (.func (.func 45) #[] #[.pointer (some ⟨bxs, 0, none⟩), .pointer (some ⟨W.heap.size, 0, none⟩)]) := by rw [← hzY1]; exact Lib.cell_of_heap h0Y2 0
  have hbt2 : Y2.cell? ⟨bxt, 0, none⟩ = some (.int .i64 (to_ : Int)) := (hb2.cell (p := ⟨bxt, 0, none⟩) (hSl _ hSx.2.1)).trans hbt
  have HE := Lib.hid hE
  have Hent0 := Lib.hid hent0
  have HY1 := Lib.hid hY1
  have HY2 := Lib.hid hY2
  have Hb2 := Lib.hid hb2
  have HzY1 := Lib.hid hzY1
  have HzY2 := Lib.hid hzY2
  have HJ := Lib.hid hJ
  have HJlt := Lib.hid hJlt
  have HJoff := Lib.hid hJoff
  have HS0 := Lib.hid hS0'
  have HSl := Lib.hid hSl
  have HSx := Lib.hid hSx
  have HSS := Lib.hid hS0
  have Hne := Lib.hid hne
  have H0 := Lib.hid h0
  have HB := Lib.hid hB
  have Hbin := Lib.hid hbin
  have Hrun := Lib.hid hrun
  have Hbk := Lib.hid hbk
  have Hclo2 := Lib.hid hclo2
  obtain ⟨gf, lb, hbv, hgf, hBc⟩ := hB
  have HBc := Lib.hid hBc
  subst hbv
  have HH : Hid (SrcH W bxs sb J F0 S) := Lib.hid ⟨hJoff, hJlt, hSl, ⟨hSx.1, hSx.2.2.2⟩, hS0'⟩
  clear hE hent0 hY1 hY2 hb2 hzY1 hzY2 hJ hJlt hJoff hS0' hSl hSx hS0 hne h0 hbin hrun hbk hbs hsb hbt hbY1 hbY2 h0Y1 h0Y2 hF0 hsl hlen hBc
  change Calls _ _ #[.func (.yield y) #[] #[], .pointer (some ⟨bxs, 0, none⟩), .pointer (some ⟨bxt, 0, none⟩), .pointer (some ⟨bxk, 0, none⟩)] _ _
  refine calls_of_wp_marks Try.func44 rfl ?_
  simp only [Try.ntmps44, List.size_toArray, List.length_cons, List.length_nil, Nat.reduceAdd, Nat.reduceSub, Array.replicate_succ, Array.replicate_zero, List.push_toArray, List.append_toArray, List.nil_append, List.cons_append]
  go_upto_region 1 with fail
  rw [← HY1.out]
  go_upto_region 2 with fail
  rw [← HY2.out, HzY1.out]
  have hclo2 := Hclo2.out
  go_wp2_with (go_at_call 45; refine HE.out.mono ?_; rintro e A1 ⟨⟨v1, rfl⟩, LV1, hE1, hon1⟩; have HE1 := Lib.hid hE1; have Hon1 := Lib.hid hon1; clear hE1 hon1 HE)
  have hFEn : ∀ k, k < W.heap.size → FE sb W.heap.size (.slice none 0 0) k → k = sb := fun k hk h => by
    rcases h with h | h | h
    · exact h
    · omega
    · simp [Value.ownBlock] at h
  have hbW : ∀ k, k < W.heap.size → k ≠ sb → A1.heap[k]? = W.heap[k]? := fun k hk hs => (Hon1.out.block k (by have := Hb2.out.size; omega) (fun e => hs (hFEn k hk e))).trans (Hb2.out.block k hk)
  have hlt0 : ∀ k, F0 k → k < W.heap.size := HJlt.out _ _ _ H0.out
  have hsbF : ¬ F0 sb := HS0.out sb HSx.out.2.2.2
  have hsz1 : W.heap.size ≤ A1.heap.size := Nat.le_trans Hb2.out.size Hon1.out.size
  have hst0 : SrcS W A1 bxs sb n bk J F0 S shut' xs j0 [] (enterP to_ (shut, [])).1 (enterP to_ (shut, [])).2 [] LV1 F0 := by
    refine ⟨⟨HE1.out, ?_, ?_, ?_, ?_, Mks.nil _ _ _⟩, Hrun.out, ?_⟩
    · refine (World.cell?_of_block (a := ⟨W.heap.size + 1, 0, none⟩) (Hon1.out.block _ (by show W.heap.size + 1 < Y2.heap.size; have := HzY2.out; have := HzY1.out; omega) (fun e => ?_))).trans Hclo2.out
      have e : FE sb W.heap.size (.slice none 0 0) (W.heap.size + 1) := e
      rcases e with e | e | e
      · have := HSl.out _ HSx.out.2.2.2; omega
      · omega
      · simp [Value.ownBlock] at e
    · exact HJoff.out _ _ _ _ H0.out ⟨Hon1.out.os.trans Hb2.out.os, Hon1.out.tape.trans Hb2.out.tape, Hon1.out.output.trans Hb2.out.output, hsz1, fun k hk => hbW k (hlt0 k hk) (fun e => hsbF (e ▸ hk))⟩
    · exact ⟨Hon1.out.os.trans Hb2.out.os, Hon1.out.tape.trans Hb2.out.tape, Hon1.out.output.trans Hb2.out.output, hsz1, fun k hk _ hs => hbW k hk hs, fun k hk => .inl hk⟩
    · rintro k (h | h | h) e
      · exact HS0.out k h e
      · rcases h with h | h | h
        · exact hsbF (h ▸ e)
        · have := hlt0 k e; omega
        · have := (HE1.out.row.lt k h).1; have := hlt0 k e; omega
      · have := hlt0 k e; omega
    · intro b hb
      unfold enterP at hb
      split at hb
      · cases hb
      · rcases List.mem_cons.1 hb with rfl | hb
        · exact hto
        · cases hb
  have HST := Lib.hid hst0
  clear hFEn hbW hlt0 hsbF hsz1 hst0 hclo2 HE1 Hon1 Hent0 Hrun H0 HY2 HY1 Hb2 HzY1 HzY2 Hclo2 HB
  go_upto_region 3 with fail
  refine wp_loop_ghost_k (fun k a A => ∃ u7 u8 u9 u10 u11 u12 u13 u14 u15 u16 u17 u18 u19 u20 u21 u22 u23 u24 u25 u26 u27 u28 u29 u30 u31 u32 u33 u34 u35 u36 u37 : Value, ∃ (ds : List Deferred) (shutc : List Bool) (left o : List Nat) (LV : Value) (F : Nat → Prop), a = { tmps := #[.func (.yield y) #[] #[], .pointer (some ⟨bxs, 0, none⟩), .pointer (some ⟨bxt, 0, none⟩), .pointer (some ⟨bxk, 0, none⟩), undef, .pointer (some ⟨W.heap.size, 0, none⟩), .pointer (some ⟨W.heap.size + 1, 0, none⟩), u7, u8, u9, u10, u11, u12, u13, u14, u15, u16, u17, u18, u19, u20, u21, u22, u23, u24, u25, u26, u27, u28, u29, u30, u31, u32, u33, u34, u35, u36, u37], defers := ds } ∧ SrcS W A bxs sb n bk J F0 S shut' xs k ds shutc left o LV F) j0 ?_ ?_
  · exact ⟨_, _, _, _, _, _, _, _, _, _, _, _, _, _, _, _, _, _, _, _, _, _, _, _, _, _, _, _, _, _, _,  _, _, _, _, _, _, rfl, HST.out⟩
  · clear HST
    rintro k a A ⟨u7, u8, u9, u10, u11, u12, u13, u14, u15, u16, u17, u18, u19, u20, u21, u22, u23, u24, u25, u26, u27, u28, u29, u30, u31, u32, u33, u34, u35, u36, u37, ds, shutc, left, o, LV, F, rfl, hS⟩ J' K hJ' hK
    have HJ' := Lib.hid hJ'
    have HK := Lib.hid hK
    clear hJ' hK
    have hE0 := hS.b.ent
    have hbl := Lib.cell_of_heap hE0.bl 0
    have hbf := Lib.frozen_of_heap hE0.bl 0
    cases left with
    | nil =>
      obtain ⟨A5, c5, hA5⟩ := gr_slice hE0.row
      have hA5' : LV = .slice A5 0 c5 := hA5
      rw [hA5'] at hbl
      have HS := Lib.hid hS
      clear hS hE0 hA5 hA5' hbf
      go_wp2
      have hrun := HS.out.run
      have hres : (shutc, o) = (shut', xs) := by cases k <;> simpa [srcRun] using hrun
      injection hres with e1 e2
      subst e1 e2
      refine HS.out.b.mks.leave ds A (fun B hB => ⟨_, results_none rfl _ _ _, ⟨_, rfl⟩, F, ?_, ?_, ?_⟩)
      · exact HJoff.out _ _ _ _ HS.out.b.j ⟨hB.os, hB.tape, hB.output, by rw [hB.size]; exact Nat.le_refl _, fun k hk => hB.block k (.inr hk)⟩
      · exact (hB.block sb (.inl (HSl.out _ HSx.out.2.2.2))).trans HS.out.b.ent.sh
      · have hf := HS.out.b.fr
        exact ⟨hB.os.trans hf.os, hB.tape.trans hf.tape, hB.output.trans hf.output, by rw [hB.size]; exact hf.size, fun k hk hn hw => (hB.block k (.inl hk)).trans (hf.block k hk hn hw), hf.foot⟩
    | cons b left =>
      cases k with
      | zero => have := hS.run; simp [srcRun] at this
      | succ k =>
        have hbn : b < n := hS.lt b (by simp)
        obtain ⟨p, hp⟩ : ∃ p, p = left.length := ⟨_, rfl⟩
        have hpn : p < 1048576 := by have h1 := hE0.cnt; have h2 := hE0.few; simp only [List.length_cons] at h1; omega
        obtain ⟨A5, c5, hA5⟩ := gr_slice hE0.row
        subst hA5
        obtain ⟨g5, hg5, -, hgb5, hgl5⟩ := gr_some (n := (b :: left).length) hE0.row (Nat.succ_pos _)
        subst hg5
        have hl1 : (b :: left).length = p + 1 := by rw [hp]; rfl
        have hrow := hE0.row
        rw [hl1] at hbl hrow hE0 hS
        have hc5 := (gr_len hrow).1
        have hb5 : A.cell? ⟨g5, p, none⟩ = some (.int .i64 (b : Int)) := by
          rw [hrow.cellAt p (by omega)]
          simp [natsV, hp]
        have hcut := cut_int (g := g5) (c := c5) (n := p + 1) p (by omega) hc5
        rw [hp] at hE0
        obtain ⟨hE1, hon1⟩ := hE0.pop
        rw [← hp] at hE1 hon1
        obtain ⟨A1, hA1⟩ : ∃ A1, A1 = A.setCell ⟨W.heap.size, 0, none⟩ (.slice (some ⟨g5, 0, none⟩) p c5) := ⟨_, rfl⟩
        rw [← hA1] at hE1 hon1
        have HS := Lib.hid hS
        have hB1 := hS.b.own HH.out hE1 hon1
        have hrn := hS.run
        rw [srcRun] at hrn
        have hpre := srcRun_pre bk k _ _ _ _ _ hrn
        obtain ⟨fn, tmps, assign, body, hy, hR⟩ := HJ.out o b F A1 hB1.j hpre
        have HB1 := Lib.hid hB1
        have Hrn := Lib.hid hrn
        have HRR := Lib.hid hR
        have HA1 := Lib.hid hA1
        have Hp := Lib.hid hp
        clear hS hE0 hE1 hon1 hA1 hrow hl1 hp hc5 hB1 hrn hpre hR
        go_upto_region 6 with fail
        rw [← HA1.out]
        clear hbl hbf hb5 hcut
        refine (wpIn_wide (n := 0)).1 ?_
        gi_wp2
        refine ⟨rfl, HRR.out.mono ?_⟩
        rintro e A2 ⟨rfl, F2, hJ2, hon2⟩
        have hB2 := HB1.out.on HH.out hon2 hJ2
        have hcall := HBc.out A2 b hbn hB2.fr.size (fun k hk => hB2.fr.block k (HSl.out k (HSS.out k hk)) (HS0.out k (HSS.out k hk)) (fun e => Hne.out.2.1 (e ▸ hk)))
        have hbk2 : A2.cell? ⟨bxk, 0, none⟩ = some (.func (.func gf) #[] lb) := (World.cell?_of_block (a := ⟨bxk, 0, none⟩) (hB2.fr.block bxk (HSl.out _ HSx.out.2.2.1) (HS0.out _ HSx.out.2.2.1) Hne.out.2.2.2.2)).trans Hbk.out
        have HB2 := Lib.hid hB2
        have Hcall := Lib.hid hcall
        clear hJ2 hon2 hy HRR hB2 hcall HB1 HA1
        dsimp only
        gi_wp2
        go_wp2_with (fail)
        refine Hcall.out.mono ?_
        rintro e A3 ⟨hb3, g2, lb2, S2, rfl, hg2, hS2a, hS2b, hgive⟩
        have hB3 := HB2.out.below HH.out hb3
        have hent3 := hB3.ent
        have hA2s : W.heap.size ≤ A2.heap.size := HB2.out.fr.size
        have hF3 : ∀ k, (FE sb W.heap.size (.slice (some ⟨g5, 0, none⟩) p c5) k ∨ k = W.heap.size + 1 ∨ k = bxs) → ¬ S2 k := fun k hk e => by
          have hsb := HSl.out _ HSx.out.2.2.2
          have hbxs := HSl.out _ HSx.out.1
          have hL2 := HB2.out.ent.hb
          have h0 : ∀ k, S0 k → k < W.heap.size := fun k hk => HSl.out k (HSS.out k hk)
          rcases hk with (hk | hk | hk) | hk | hk
          · subst hk
            rcases hS2a _ e with q | q
            · exact Hne.out.2.1 q
            · omega
          · subst hk
            rcases hS2a _ e with q | q
            · have := h0 _ q; omega
            · omega
          · have h1 := HB2.out.ent.row.lt k hk
            rcases hS2a _ e with q | q
            · have := h0 _ q; omega
            · omega
          · subst hk
            rcases hS2a _ e with q | q
            · have := h0 _ q; omega
            · omega
          · subst hk
            rcases hS2a _ e with q | q
            · exact Hne.out.1 q
            · omega
        have HB3 := Lib.hid hB3
        have Hent3 := Lib.hid hent3
        have HF3 := Lib.hid hF3
        have HS2b := Lib.hid hS2b
        have Hgive := Lib.hid hgive
        have HA3s : Hid (W.heap.size ≤ A3.heap.size) := Lib.hid (Nat.le_trans hA2s hb3.size)
        clear hb3 hB3 hent3 hF3 hS2a hS2b hgive Hcall HB2 hA2s hbk2
        dsimp only
        go_wp2_with (fail)
        have hbd := Hbin.out b hbn
        refine wp_range_sep (lb := lb2) rfl hg2 (fun W1 h => Hgive.out W1 h) rfl (fun _ _ _ _ _ => trivial)
          (fun pre Fi A' => ∃ LV', (∀ k, Fi k ↔ (FE sb W.heap.size LV' k ∨ k = W.heap.size + 1 ∨ k = bxs)) ∧ Ent (W.heap.size + 2) bxs sb W.heap.size n A' (pre.foldl (fun s x => enterP x.toNat s) (shutc, left)).1 (pre.foldl (fun s x => enterP x.toNat s) (shutc, left)).2 LV' ∧ A'.heap[bxs]? = A3.heap[bxs]? ∧ A'.heap[W.heap.size + 1]? = A3.heap[W.heap.size + 1]?)
          (fun k => FE sb W.heap.size (.slice (some ⟨g5, 0, none⟩) p c5) k ∨ k = W.heap.size + 1 ∨ k = bxs) ?ioff ?ilt HF3.out HS2b.out ?i0
          (fun x => { tmps := #[.func (.yield y) #[] #[], .pointer (some ⟨bxs, 0, none⟩), .pointer (some ⟨bxt, 0, none⟩), .pointer (some ⟨bxk, 0, none⟩), undef, .pointer (some ⟨W.heap.size, 0, none⟩), .pointer (some ⟨W.heap.size + 1, 0, none⟩), .int .i64 (b : Int), .int .i64 x, u9, u10, u11, u12, .slice (some ⟨g5, 0, none⟩) (p + 1) c5, .int .i64 ((p : Int) + 1), .bool true, .slice (some ⟨g5, 0, none⟩) (p + 1) c5, .slice (some ⟨g5, 0, none⟩) (p + 1) c5, .int .i64 ((p : Int) + 1), .int .i64 (p : Int), .pointer (some ⟨g5, p, none⟩), .int .i64 (b : Int), .slice (some ⟨g5, 0, none⟩) (p + 1) c5, .slice (some ⟨g5, 0, none⟩) (p + 1) c5, .int .i64 ((p : Int) + 1), .int .i64 (p : Int), .slice (some ⟨g5, 0, none⟩) p c5, .func (.yield y) #[] #[], .int .i64 (b : Int), .bool true, .bool false, .func (.func gf) #[] lb, .int .i64 (b : Int), .func (.func g2) #[] lb2, .int .i64 x, u35, u36, u37], defers := [] }) ?assign ?body ?done
        case ioff =>
          rintro pre Fi A B ⟨LV', hF, he, h1, h2⟩ hst
          exact ⟨LV', hF, he.step ⟨hst.os, hst.tape, hst.output, hst.size, fun k hk => hst.block k ((hF k).2 (.inl hk))⟩ (hst.block bxs ((hF _).2 (.inr (.inr rfl)))), (hst.block bxs ((hF _).2 (.inr (.inr rfl)))).trans h1, (hst.block _ ((hF _).2 (.inr (.inl rfl)))).trans h2⟩
        case ilt =>
          rintro pre Fi A ⟨LV', hF, he, h1, h2⟩ k hk
          rcases (hF k).1 hk with h | h | h
          · exact FE.lt he k h
          · have := he.hb; omega
          · have := he.hb; have := he.lt.1; omega
        case i0 => exact ⟨_, fun _ => Iff.rfl, Hent3.out, rfl, rfl⟩
        case assign =>
          intro l x W' K' hK'
          gi_wp2
          exact hK'
        case body =>
          rintro l pre x Fi A4 ⟨LV', hF, he, h1, h2⟩ hpre
          have hxm : x ∈ bk b := hpre.subset (by simp)
          obtain ⟨x0, x1⟩ := hbd x hxm
          obtain ⟨t, rfl⟩ : ∃ t : Nat, x = t := ⟨x.toNat, by omega⟩
          have hE4 := enter_g _ bxs sb W.heap.size n t _ _ LV' A4 he (by omega)
          have hc4 : A4.cell? ⟨W.heap.size + 1, 0, none⟩ = some (.func (.func 45) #[] #[.pointer (some ⟨bxs, 0, none⟩), .pointer (some ⟨W.heap.size, 0, none⟩)]) := (World.cell?_of_block (a := ⟨W.heap.size + 1, 0, none⟩) h2).trans HB3.out.clo
          have HE4 := Lib.hid hE4
          have HF4 := Lib.hid hF
          have He4 := Lib.hid he
          have H1 := Lib.hid h1
          have H2 := Lib.hid h2
          clear hE4 hF he h1 h2 x0 x1 hxm hpre
          gi_wp2
          refine ⟨trivial, rfl, (CallsIn.inRound l (callsIn_wide.2 HE4.out)).mono ?_⟩
          rintro e A5 ⟨⟨v5, rfl⟩, LV5, hE5, hon5⟩
          have hfold : (pre ++ [(t : Int)]).foldl (fun s x => enterP x.toNat s) (shutc, left) = enterP t (pre.foldl (fun s x => enterP x.toNat s) (shutc, left)) := by
            rw [List.foldl_append]
            simp
          have hEN : ¬ FE sb W.heap.size LV' (W.heap.size + 1) := fun e => by
            have hsb := HSl.out _ HSx.out.2.2.2
            rcases e with e | e | e
            · omega
            · omega
            · have := (He4.out.row.lt _ e).1; omega
          have hBN : ¬ FE sb W.heap.size LV' bxs := fun e => by
            rcases e with e | e | e
            · exact He4.out.ne.1 e
            · exact He4.out.ne.2.1 e
            · have := (He4.out.row.lt _ e).1; have := He4.out.lt.1; omega
          have hhb := He4.out.hb
          have hlt4 := He4.out.lt.1
          have hfin : ∃ F', (∃ LV', (∀ k, F' k ↔ (FE sb W.heap.size LV' k ∨ k = W.heap.size + 1 ∨ k = bxs)) ∧ Ent (W.heap.size + 2) bxs sb W.heap.size n A5 ((pre ++ [(t : Int)]).foldl (fun s x => enterP x.toNat s) (shutc, left)).1 ((pre ++ [(t : Int)]).foldl (fun s x => enterP x.toNat s) (shutc, left)).2 LV' ∧ A5.heap[bxs]? = A3.heap[bxs]? ∧ A5.heap[W.heap.size + 1]? = A3.heap[W.heap.size + 1]?) ∧ StepOn Fi F' A4 A5 := by
            refine ⟨fun k => FE sb W.heap.size LV5 k ∨ k = W.heap.size + 1 ∨ k = bxs, ⟨LV5, fun _ => Iff.rfl, by rw [hfold]; exact hE5, (hon5.block bxs (by omega) hBN).trans H1.out, (hon5.block _ (by omega) hEN).trans H2.out⟩, ?_⟩
            refine ⟨hon5.os, hon5.tape, hon5.output, hon5.size, fun k hk hn => hon5.block k hk (fun e => hn ((HF4.out k).2 (.inl e))), fun k hk => ?_⟩
            rcases hk with h | h
            · rcases hon5.foot k h with q | q
              · exact .inl ((HF4.out k).2 (.inl q))
              · exact .inr q
            · exact .inl ((HF4.out k).2 (.inr h))
          rw [hfold] at hfin
          have Hfin := Lib.hid hfin
          clear hE5 hon5 hfold hEN hBN hhb hlt4 hfin HE4
          dsimp only
          gi_wp2
          exact Hfin.out
        case done =>
          rintro D F' W' ⟨LV', hF, he, h1, h2⟩ - hfr hD hDn hDF
          have hent3 := HB3.out.ent
          have hon : StepOn (FE sb W.heap.size (.slice (some ⟨g5, 0, none⟩) p c5)) (FE sb W.heap.size LV') A3 W' := by
            refine ⟨hfr.os, hfr.tape, hfr.output, hfr.size, fun k hk hn => ?_, fun k hk => ?_⟩
            · by_cases hkE : k = W.heap.size + 1
              · rw [hkE]; exact h2
              · by_cases hkB : k = bxs
                · rw [hkB]; exact h1
                · exact hfr.block k hk (fun e => by
                    rcases e with e | e | e
                    · exact hn e
                    · exact hkE e
                    · exact hkB e) (fun e => e)
            · rcases hfr.foot k ((hF k).2 (.inl hk)) with q | q
              · rcases q with q | q | q
                · exact .inl q
                · exfalso
                  subst q
                  rcases hk with e | e | e
                  · have := HSl.out _ HSx.out.2.2.2; omega
                  · omega
                  · have := (he.row.lt _ e).1; omega
                · exfalso
                  subst q
                  rcases hk with e | e | e
                  · exact he.ne.1 e
                  · exact he.ne.2.1 e
                  · have := (he.row.lt _ e).1; have := he.lt.1; omega
              · exact .inr q
          have hB4 := HB3.out.own HH.out he hon
          have hDlt := HB3.out.mks.lt hDn
          have hDF2 : ¬ F2 D := fun e => by have := HJlt.out _ _ _ HB3.out.j D e; omega
          have hmk := hB4.mks.cons hD (Nat.le_trans HA3s.out hDn) hDF2 hDlt
          have hB5 : SrcB W W' bxs sb n J F0 S ({ target := .collected D, args := #[] } :: ds) ((bk b).foldl (fun s x => enterP x.toNat s) (shutc, left)).1 ((bk b).foldl (fun s x => enterP x.toNat s) (shutc, left)).2 (o ++ [b]) LV' F2 := ⟨hB4.ent, hB4.clo, hB4.j, hB4.fr, hB4.ap, hmk⟩
          have hlt5 := foldl_enter_lt n (bk b) (shutc, left) hbd (fun b' hb' => HS.out.lt b' (List.mem_cons_of_mem _ hb'))
          have HS5 : Hid (SrcS W W' bxs sb n bk J F0 S shut' xs k ({ target := .collected D, args := #[] } :: ds) ((bk b).foldl (fun s x => enterP x.toNat s) (shutc, left)).1 ((bk b).foldl (fun s x => enterP x.toNat s) (shutc, left)).2 (o ++ [b]) LV' F2) := Lib.hid ⟨hB5, Hrn.out, hlt5⟩
          clear he h1 h2 hfr hD hDF hent3 hon hB4 hDlt hDF2 hmk hB5 hlt5 hF hDn
          go_wp2
          exact HK.out _ _ (Handed.intro k (Nat.lt_succ_self _) (HJ'.out _ _ _ ⟨_, _, _, _, _, _, _, _, _, _, _, _, _, _, _, _, _, _, _, _, _, _, _, _, _, _, _, _, _, _, _,  _, _, _, _, _, _, rfl, HS5.out⟩))
end Go.Proofs.Ytlejpoofgnenhaa
