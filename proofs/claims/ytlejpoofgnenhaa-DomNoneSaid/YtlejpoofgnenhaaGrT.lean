/-
  slices.AppendSeq and slices.Collect over an iterator that keeps a state of its own.
-/
import Derived.Test.YtlejpoofgnenhaaGrS
import Derived.Maps.OwnIn
namespace Go.Proofs.Ytlejpoofgnenhaa
open Go.RowKit Go.Shelf
set_option linter.unusedVariables false
set_option linter.unusedSimpArgs false

attribute [local go_sem] Oper.semAt_some

set_option maxRecDepth 100000 in
set_option maxHeartbeats 16000000 in
theorem appendSeq_g (gf : Nat) (lb : Array Value) (xs : List Nat) (S Wr : Nat → Prop) (Post : World → Prop) (w : World) (eg : ∀ args w, (callFunc gf args).run Try.prog w = .ok (.enter gf args) w)
    (hseq : ∀ W1, Below w.heap.size w W1 → SepGives Try.prog gf lb (fun b : Nat => .int .i64 (b : Int)) xs S Wr Post W1) (hS : ∀ k, S k → k < w.heap.size) (hlen : xs.length ≤ 1048576)
    (hPost : ∀ A B : World, Post A → A.heap.size ≤ B.heap.size → (∀ k, k < w.heap.size → B.heap[k]? = A.heap[k]?) → Post B) :
    Calls Try.prog 58 #[.slice none 0 0, .func (.func gf) #[] lb] w fun e w' => ∃ v, e = .returned v ∧ w'.ownsRow w.heap.size 3 1 v xs.length (natsV xs) ∧ Post w' ∧ w.heap.size ≤ w'.heap.size ∧ w'.os = w.os ∧ w'.tape = w.tape ∧ w'.output = w.output ∧ ∀ k, k < w.heap.size → ¬ Wr k → w'.heap[k]? = w.heap[k]? := by
  obtain ⟨Y, hY, hbY, hzY, h0Y⟩ := gr_one w #[.slice none 0 0] 23
  have hseq' := fun W1 (h : Below Y.heap.size Y W1) => hseq W1 (hbY.trans (h.mono (by omega)))
  obtain ⟨j1, hj1, jz0, jz1, jz2⟩ := info_parts infoIntG
  have Ji := Lib.hid hj1
  have Jz0 := Lib.hid jz0
  have Jz1 := Lib.hid jz1
  have Jz2 := Lib.hid jz2
  have Hseq := Lib.hid hseq'
  have HS := Lib.hid hS
  have HPost := Lib.hid hPost
  have HY := Lib.hid hY
  have HbY := Lib.hid hbY
  have HzY := Lib.hid hzY
  have H0Y := Lib.hid h0Y
  clear hseq hseq' hS hPost hY hbY hzY h0Y hj1 jz0 jz1 jz2
  refine calls_of_wp_marks Try.func58 rfl ?_
  simp only [Try.ntmps58, List.size_toArray, List.length_cons, List.length_nil, Nat.reduceAdd, Nat.reduceSub, Array.replicate_succ, Array.replicate_zero, List.push_toArray, List.append_toArray, List.nil_append, List.cons_append]
  go_upto_region 1 with fail
  rw [← HY.out]
  go_wp2_with (fail)
  refine wp_range_sep (lb := lb) rfl eg (fun W1 h => Hseq.out W1 h) rfl (fun A B h1 h2 h3 => HPost.out A B h1 h2 (fun k hk => h3 k (by have := HzY.out; omega)))
    (fun pre F A => ∃ v, (∀ k, F k ↔ (k = w.heap.size ∨ v.ownBlock = some k)) ∧ A.heap[w.heap.size]? = some (.cells #[v] 23 (0, 0)) ∧ A.ownsRow (w.heap.size + 1) 3 1 v pre.length (natsV pre) ∧ w.heap.size + 1 ≤ A.heap.size)
    (fun k => k = w.heap.size) ?ioff ?ilt ?f0 ?s ?i0 (fun x => { tmps := #[.slice none 0 0, .func (.func gf) #[] lb, .pointer (some ⟨w.heap.size, 0, none⟩), undef, .slice none 0 0, .int .i64 (x : Int), .func (.func gf) #[] lb, .int .i64 (x : Int), undef, undef, undef, undef, undef], defers := [] }) ?assign ?body ?done
  case ioff =>
    rintro pre F A B ⟨v, hF, h1, h2, h3⟩ hst
    refine ⟨v, hF, (hst.block _ ((hF _).2 (.inl rfl))).trans h1, ⟨h2.1, ?_⟩, Nat.le_trans h3 hst.size⟩
    rcases h2.2 with q | ⟨g, cap, cur, hv, q2, q3, rest⟩
    · exact .inl q
    · exact .inr ⟨g, cap, cur, hv, q2, (hst.block g ((hF g).2 (.inr (by rw [hv]; rfl)))).trans q3, rest⟩
  case ilt =>
    rintro pre F A ⟨v, hF, h1, h2, h3⟩ k hk
    rcases (hF k).1 hk with h | h
    · omega
    · exact (h2.lt k h).2
  case f0 =>
    intro k hk e
    have := HS.out k e
    omega
  case s =>
    intro k hk
    have := HS.out k hk
    have := HzY.out
    omega
  case i0 => exact ⟨.slice none 0 0, fun k => by simp [Value.ownBlock], H0Y.out, World.ownsRow_nil _ _ _ _, by have := HzY.out; omega⟩
  case assign =>
    intro l x W' K' hK'
    gi_wp2
    exact hK'
  case body =>
    rintro l pre x F A ⟨v, hF, h1, h2, h3⟩ hpre
    have hpl : pre.length < xs.length := by have := hpre.length_le; simp at this; omega
    have hpl2 : pre.length < 1048576 := by omega
    have c0 := Lib.cell_of_heap h1 0
    obtain ⟨Z, hZ, hbZ, hzZ, h0Z⟩ := gr_one A #[.int .i64 (x : Int)] 3
    have HOW := Lib.hid (gr_up h2 hbZ)
    have HNW := Lib.hid (World.news_of_block h0Z)
    have HOn : Hid (∀ u ∈ ([.int .i64 (x : Int)] : List Value), u.oneCell' = true) := Lib.hid (by intro u hu; simp at hu; subst hu; rfl)
    have hsz2 : w.heap.size + 1 ≤ Z.heap.size := by omega
    have HF := Lib.hid hF
    have H1 := Lib.hid h1
    have H2 := Lib.hid h2
    have HbZ := Lib.hid hbZ
    have HzZ := Lib.hid hzZ
    have h1Z := (hbZ.block _ (gr_in h1)).trans h1
    have H1Z := Lib.hid h1Z
    rw [hZ] at HOW HNW hsz2
    have HZ := Lib.hid hZ
    obtain ⟨VA, VC, hV⟩ := gr_slice h2
    subst hV
    clear hF h1 h2 hbZ hzZ h1Z hZ h0Z hpre
    gi_wp2_with (gi_at_builtin; refine wpListIn_append_own_at _ rfl (.tmp 8) (.tmp 10) 23 rfl (w.heap.size + 1) 3 j1 (.int .i64 0) 1 8 Try.underlying23 Ji.out Jz0.out Jz1.out Jz2.out rfl (by decide) (.slice VA pre.length VC) pre.length (natsV pre) rfl HOW.out ⟨A.heap.size, 0, none⟩ 1 1 [.int .i64 (x : Int)] rfl rfl HNW.out HOn.out (by unfold maxLen; omega) (by omega) hsz2 ?_)
    intro v5 w5 hown5 hgrow hnil hat
    obtain ⟨g5, cap5, rfl, hg5b, hg5l⟩ := hown5.form (by omega)
    rw [← HZ.out] at hgrow
    have hB1 : some w.heap.size ≠ (Value.slice VA pre.length VC).ownBlock := fun e => by
      have := (H2.out.lt w.heap.size e.symm).1
      omega
    have h15 : w5.heap[w.heap.size]? = some (.cells #[.slice VA pre.length VC] 23 (0, 0)) := (hgrow.block _ (gr_in H1Z.out) hB1).trans H1Z.out
    have e0 := Lib.cell_of_heap h15 0
    have ef := Lib.frozen_of_heap h15 0
    obtain ⟨B, hB⟩ : ∃ B, B = w5.setCell ⟨w.heap.size, 0, none⟩ (.slice (some ⟨g5, 0, none⟩) (pre.length + 1) cap5) := ⟨_, rfl⟩
    have hBo : ∀ k, k ≠ w.heap.size → B.heap[k]? = w5.heap[k]? := fun k hk => by rw [hB]; exact Below.heap_setCell _ _ _ _ hk
    have hBz : B.heap.size = w5.heap.size := by rw [hB]; simp [World.setCell]
    have hBL : B.heap[w.heap.size]? = some (.cells #[.slice (some ⟨g5, 0, none⟩) (pre.length + 1) cap5] 23 (0, 0)) := by rw [hB, gr_put h15 0]; rfl
    have hsz5 : A.heap.size ≤ w5.heap.size := by have := hgrow.size; have := HbZ.out.size; omega
    have hrow5 : B.ownsRow (w.heap.size + 1) 3 1 (.slice (some ⟨g5, 0, none⟩) (pre.length + 1) cap5) (pre ++ [x]).length (natsV (pre ++ [x])) := by
      have hx : natsV (pre ++ [x]) = natsV pre ++ [Value.int .i64 (x : Int)] := by simp [natsV]
      rw [hx, List.length_append]
      exact hown5.kept (row := some w.heap.size) ⟨by rw [hB]; rfl, by rw [hB]; rfl, by rw [hB]; rfl, by omega, fun k _ hk => hBo k (fun e => hk (by rw [e]))⟩ (.inr (by simp [Value.ownBlock]; omega))
    have hgp : (Value.slice VA pre.length VC).ownBlock = some g5 ∨ A.heap.size ≤ g5 := by
      rcases hat with e | e
      · exact .inl e.symm
      · right
        simp [Value.ownBlock] at e
        omega
    have hfin : ∃ F', (∃ v, (∀ k, F' k ↔ (k = w.heap.size ∨ v.ownBlock = some k)) ∧ B.heap[w.heap.size]? = some (.cells #[v] 23 (0, 0)) ∧ B.ownsRow (w.heap.size + 1) 3 1 v (pre ++ [x]).length (natsV (pre ++ [x])) ∧ w.heap.size + 1 ≤ B.heap.size) ∧ StepOn F F' A B := by
      refine ⟨fun k => k = w.heap.size ∨ (Value.slice (some ⟨g5, 0, none⟩) (pre.length + 1) cap5).ownBlock = some k, ⟨_, fun _ => Iff.rfl, hBL, hrow5, by omega⟩, ?_⟩
      refine ⟨by rw [hB]; exact hgrow.os.trans HbZ.out.os, by rw [hB]; exact hgrow.tape.trans HbZ.out.tape, by rw [hB]; exact hgrow.output.trans HbZ.out.output, by omega, fun k hk hn => ?_, fun k hk => ?_⟩
      · exact (hBo k (fun e => hn ((HF.out k).2 (.inl e)))).trans ((hgrow.block k (by have := HbZ.out.size; omega) (fun e => hn ((HF.out k).2 (.inr e.symm)))).trans (HbZ.out.block k hk))
      · rcases hk with h | h
        · exact .inl ((HF.out k).2 (.inl h))
        · simp only [Value.ownBlock, Option.some.injEq] at h
          subst h
          rcases hgp with e | e
          · exact .inl ((HF.out _).2 (.inr e))
          · exact .inr e
    rw [hBz] at hfin
    simp only [List.length_append, List.length_cons, List.length_nil, Nat.zero_add] at hfin
    have Hfin := Lib.hid hfin
    have HB := Lib.hid hB
    clear hown5 hgrow hnil hat hg5b hg5l hB1 h15 hB hBo hBz hBL hsz5 hrow5 hgp hfin HOW HNW hsz2 c0
    gi_wp2
    rw [← HB.out]
    exact Hfin.out
  case done =>
    rintro D F' W' ⟨v, hF, h1, h2, h3⟩ hP hfr hD hDn hDF
    have c0 := Lib.cell_of_heap h1 0
    obtain ⟨VA, VC, hV⟩ := gr_slice h2
    subst hV
    have hDz := HzY.out
    have hb2 : (W'.putObj D (.deferred none)).ownsRow w.heap.size 3 1 (.slice VA xs.length VC) xs.length (natsV xs) := by
      have h := gr_mono h2 (base' := w.heap.size) (by omega)
      refine ⟨h.1, ?_⟩
      rcases h.2 with q | ⟨g, cap, cur, hv, q2, q3, rest⟩
      · exact .inl q
      · exact .inr ⟨g, cap, cur, hv, q2, (World.putObj_heap_other (fun e => hDF ((hF D).2 (.inr (by rw [hv, ← e]; rfl))))).trans q3, rest⟩
    have hP2 : Post (W'.putObj D (.deferred none)) := HPost.out _ _ hP (by simp) (fun k hk => World.putObj_heap_other (by omega))
    have hfin : w.heap.size ≤ (W'.putObj D (.deferred none)).heap.size ∧ (W'.putObj D (.deferred none)).os = w.os ∧ (W'.putObj D (.deferred none)).tape = w.tape ∧ (W'.putObj D (.deferred none)).output = w.output ∧ ∀ k, k < w.heap.size → ¬ Wr k → (W'.putObj D (.deferred none)).heap[k]? = w.heap[k]? := by
      refine ⟨by simp; have := hfr.size; omega, hfr.os.trans HbY.out.os, hfr.tape.trans HbY.out.tape, hfr.output.trans HbY.out.output, fun k hk hw => ?_⟩
      exact (World.putObj_heap_other (by omega)).trans ((hfr.block k (by omega) (by omega) hw).trans (HbY.out.block k hk))
    have Hb2 := Lib.hid hb2
    have HP2 := Lib.hid hP2
    have Hfin := Lib.hid hfin
    have HD := Lib.hid hD
    clear hF h1 h2 h3 hP hfr hD hDF hb2 hP2 hfin hDz hDn
    go_wp2
    refine ⟨by simp, .inl ⟨D, _, rfl, run_takeDeferred HD.out, ?_⟩⟩
    exact ⟨_, results_tmp rfl _ _ _, .slice VA xs.length VC, rfl, Hb2.out, HP2.out, Hfin.out⟩

set_option maxRecDepth 100000 in
set_option maxHeartbeats 4000000 in
theorem collect_g (gf : Nat) (lb : Array Value) (xs : List Nat) (S Wr : Nat → Prop) (Post : World → Prop) (w : World) (eg : ∀ args w, (callFunc gf args).run Try.prog w = .ok (.enter gf args) w)
    (hseq : ∀ W1, Below w.heap.size w W1 → SepGives Try.prog gf lb (fun b : Nat => .int .i64 (b : Int)) xs S Wr Post W1) (hS : ∀ k, S k → k < w.heap.size) (hlen : xs.length ≤ 1048576)
    (hPost : ∀ A B : World, Post A → A.heap.size ≤ B.heap.size → (∀ k, k < w.heap.size → B.heap[k]? = A.heap[k]?) → Post B) :
    Calls Try.prog 43 #[.func (.func gf) #[] lb] w fun e w' => ∃ v, e = .returned v ∧ w'.ownsRow w.heap.size 3 1 v xs.length (natsV xs) ∧ Post w' ∧ w.heap.size ≤ w'.heap.size ∧ w'.os = w.os ∧ w'.tape = w.tape ∧ w'.output = w.output ∧ ∀ k, k < w.heap.size → ¬ Wr k → w'.heap[k]? = w.heap[k]? := by
  have hA := appendSeq_g gf lb xs S Wr Post w eg hseq hS hlen hPost
  clear hseq hS hPost
  go_enter Try.func43, Try.ntmps43
  go_wp2_with (go_at_call 58; refine hA.mono ?_; rintro e w1 ⟨v, rfl, h1⟩; have H1 := Lib.hid h1; clear h1 hA)
  go_ret
  exact ⟨_, rfl, H1.out⟩
end Go.Proofs.Ytlejpoofgnenhaa
