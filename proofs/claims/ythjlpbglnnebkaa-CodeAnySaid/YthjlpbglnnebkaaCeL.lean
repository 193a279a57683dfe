/-
  Programs as bytes: whatever bytes come.
-/
import Derived.Test.YthjlpbglnnebkaaCeH
import Derived.Test.YthjlpbglnnebkaaCeK
import Derived.Lib.MinMax
namespace Go.Proofs.Ythjlpbglnnebkaa
open Go.RowKit Go.Shelf
set_option linter.unusedVariables false
set_option linter.unusedSimpArgs false

theorem progF_more {mn : Int} {fs : List (List UInt8 × SF)} (h : ProgF mn fs) : (fs.length ≤ 1048576 ∧ ∀ d ∈ fs, FunL d.2) ∧ (∀ d ∈ fs, ∀ x ∈ d.2.ins, InG x.n) := by
  refine ⟨⟨by have := h.fns.1; omega, fun d hd => ?_⟩, fun d hd x hx => ((h.fns.2 d hd).ins.2 x hx).n⟩
  have f := h.fns.2 d hd
  refine ⟨⟨by have := f.params.1; omega, by have := f.ins.1; omega, by have := f.blocks.1; omega⟩, fun x hx => by have := (f.ins.2 x hx).args.1; omega, fun k hk => ?_⟩
  have b := f.blocks.2 k hk
  exact ⟨by have := b.list.1; omega, by have := b.preds.1; omega, by have := b.to_.1; omega⟩
theorem CFs.none (n0 : Nat) (w : World) : CFs n0 w (.slice none 0 0) [] := ⟨Option.none, 0, rfl, fun h => by simp at h⟩
set_option maxRecDepth 100000 in
set_option maxHeartbeats 16000000 in
theorem codeAny_any (s : ByteArray) (w : World) : Calls Try.prog 5 #[.string s] w fun e w' => e = .returned (.bool true) ∧ Below w.heap.size w w' := by
  obtain ⟨l, rfl⟩ : ∃ l : List UInt8, s = ⟨l.toArray⟩ := ⟨s.data.toList, by cases s; simp⟩
  have hsz : (⟨l.toArray⟩ : ByteArray).size = l.length := by simp [ByteArray.size]
  obtain ⟨m, hm⟩ : ∃ m : Nat, m = min l.length 2000 := ⟨_, rfl⟩
  have hmin : min (l.length : Int) 2000 = (m : Int) := by rw [hm]; omega
  have hml : m ≤ l.length := by omega
  have d1 : decide (l.length < m) = false := decide_eq_false (by omega)
  obtain ⟨t, ht⟩ : ∃ t, t = l.take m := ⟨_, rfl⟩
  have htl : t.length ≤ 2000 := by rw [ht, List.length_take]; omega
  have hD := decode_c t (by omega) w
  have hR := fun X => rdecode_r t (by omega) X
  have hA := fun X => awake12_any X
  have Ht := Lib.hid ht
  have htt : t.length ≤ 1098000000000 := by omega
  clear hm
  cases ho : decodeQ t with
  | none =>
    rw [ho] at hD hR
    have hD : Calls Try.prog 22 #[.string ⟨t.toArray⟩] w fun e w' => e = .returned (.tuple #[.agg #[.slice none 0 0, .int .i64 0], .bool false]) ∧ Below w.heap.size w w' := hD
    have hR : ∀ X, Calls Try.prog 25 #[.string ⟨t.toArray⟩] X fun e w' => e = .returned (.tuple #[.agg #[.slice none 0 0, .int .i64 0], .bool false]) ∧ Below X.heap.size X w' := hR
    have hS : ∀ X : World, Calls Try.prog 24 #[.agg #[.slice none 0 0, .int .i64 0], .agg #[.slice none 0 0, .int .i64 0]] X fun e w' => e = .returned (.bool true) ∧ Below X.heap.size X w' := fun X => sameProg_t 0 0 [] none none 0 0 X (CFs.none _ _) (CFs.none _ _) ⟨by decide, fun d hd => by cases hd⟩ (Nat.zero_le _)
    clear ho ht
    go_enter Try.func5, Try.ntmps5
    go_upto_region 2 with fail
    rw [ext_take, ← Ht.out]
    go_upto_region 3 with (go_at_call 22; refine hD.mono ?_; rintro e w1 ⟨rfl, hb⟩; have B1 := Lib.hid hb; clear hb hD)
    generalize hY : World.alloc _ _ = Y1
    have HY1 := Lib.hid (show Y1.heap[w1.heap.size]? = some (.cells #[.slice none 0 0, .int .i64 0] 36 (0, 0)) ∧ Below w.heap.size w Y1 from by
      rw [← hY]
      exact ⟨heap_alloc_new w1 _, B1.out.trans (((Below.refl w1.heap.size w1).alloc (Nat.le_refl _) _).mono B1.out.size)⟩)
    obtain ⟨pb, hpb⟩ : ∃ pb, pb = w1.heap.size := ⟨_, rfl⟩
    rw [← hpb] at HY1 ⊢
    clear hY B1 hpb
    go_upto_region 4 with (go_at_call 25; refine (hR _).mono ?_; rintro e w2 ⟨rfl, hb⟩; have B2 := Lib.hid hb; clear hb hR)
    generalize hY : World.alloc _ _ = Y2
    have hbY : Below w2.heap.size w2 Y2 := by rw [← hY]; exact (Below.refl _ _).alloc (Nat.le_refl _) _
    have hqY : Y2.heap[w2.heap.size]? = some (.cells #[.slice none 0 0, .int .i64 0] 36 (0, 0)) := by rw [← hY]; exact heap_alloc_new w2 _
    have hpY : Y2.heap[pb]? = some (.cells #[.slice none 0 0, .int .i64 0] 36 (0, 0)) := (hbY.block _ (Nat.lt_of_lt_of_le (gr_in HY1.out.1) B2.out.size)).trans ((B2.out.block _ (gr_in HY1.out.1)).trans HY1.out.1)
    have HB : Hid (Below w.heap.size w Y2) := Lib.hid ((HY1.out.2.trans (B2.out.mono HY1.out.2.size)).trans (hbY.mono (Nat.le_trans HY1.out.2.size B2.out.size)))
    obtain ⟨qb, hqb⟩ : ∃ qb, qb = w2.heap.size := ⟨_, rfl⟩
    rw [← hqb] at hqY ⊢
    have HC : Hid (∀ X, Below Y2.heap.size Y2 X → X.cell? ⟨pb, 0, none⟩ = some (.slice none 0 0) ∧ X.cell? ⟨pb, 1, none⟩ = some (.int .i64 0) ∧ X.cell? ⟨qb, 0, none⟩ = some (.slice none 0 0) ∧ X.cell? ⟨qb, 1, none⟩ = some (.int .i64 0)) := Lib.hid fun X hX => by
      have h0 := (hX.block _ (gr_in hpY)).trans hpY
      have h1 := (hX.block _ (gr_in hqY)).trans hqY
      exact ⟨Lib.cell_of_heap h0 0, Lib.cell_of_heap h0 1, Lib.cell_of_heap h1 0, Lib.cell_of_heap h1 1⟩
    clear hY hbY hqY hpY hqb B2 HY1
    go_wp2_with (first
      | (go_at_call 12; refine (hA _).mono ?_; rintro e w3 ⟨rfl, h3⟩; obtain ⟨x0, x1, y0, y1⟩ := HC.out w3 h3; have B3 := Lib.hid (HB.out.trans (h3.mono HB.out.size)); clear h3 hA)
      | (go_at_call 24; refine (hS _).mono ?_; rintro e w4 ⟨rfl, h4⟩; have B4 := Lib.hid (B3.out.trans (h4.mono B3.out.size)); clear h4 hS))
    go_ret
    exact ⟨rfl, B4.out⟩
  | some p =>
    obtain ⟨mn, fs⟩ := p
    rw [ho] at hD hR
    obtain ⟨hcd, hpf⟩ := decodeQ_inv ho
    obtain ⟨hl, hin⟩ := progF_more hpf
    have hS := fun (X : World) (A1 A2 : Option Addr) (c1 c2 : Nat) (h1 : CFs X.heap.size X (.slice A1 fs.length c1) fs) (h2 : CFs X.heap.size X (.slice A2 fs.length c2) fs) => sameProg_t X.heap.size mn fs A1 A2 c1 c2 X h1 h2 hl (Nat.le_refl _)
    have hE := fun (X : World) (A1 : Option Addr) (c1 : Nat) (h1 : CFs X.heap.size X (.slice A1 fs.length c1) fs) => rencode_w X.heap.size mn fs A1 c1 X h1 (Nat.le_refl _) hl hin (by rw [hcd]; exact htt)
    rw [hcd] at hE
    obtain ⟨fl, hfl⟩ : ∃ n : Nat, n = fs.length := ⟨_, rfl⟩
    rw [← hfl] at hS hE
    have Hfl := Lib.hid hfl
    obtain ⟨T, hT⟩ : ∃ T : ByteArray, T = ⟨t.toArray⟩ := ⟨_, rfl⟩
    rw [← hT] at hD hR hE
    have HT := Lib.hid hT
    clear ho ht hcd hpf hl hin hfl hT
    go_enter Try.func5, Try.ntmps5
    go_upto_region 2 with fail
    rw [ext_take, ← Ht.out, ← HT.out]
    go_upto_region 3 with (go_at_call 22; refine hD.mono ?_; rintro e w1 ⟨hd, hb⟩; obtain ⟨v1, rfl, hf1⟩ := hd; obtain ⟨A1, c1, hv1⟩ := hf1.slice; rw [← Hfl.out] at hv1; subst hv1; have F1 := Lib.hid hf1.cfs; have B1 := Lib.hid hb; clear hb hD hf1)
    generalize hY : World.alloc _ _ = Y1
    have HY1 := Lib.hid (show Y1.heap[w1.heap.size]? = some (.cells #[.slice A1 fl c1, .int .i64 mn] 36 (0, 0)) ∧ Below w.heap.size w Y1 ∧ CFs Y1.heap.size Y1 (.slice A1 fl c1) fs from by
      rw [← hY]
      exact ⟨heap_alloc_new w1 _, B1.out.trans (((Below.refl w1.heap.size w1).alloc (Nat.le_refl _) _).mono B1.out.size), (F1.out.keep ((Below.refl w1.heap.size w1).alloc (Nat.le_refl _) _)).mono (by simp)⟩)
    obtain ⟨pb, hpb⟩ : ∃ pb, pb = w1.heap.size := ⟨_, rfl⟩
    rw [← hpb] at HY1 ⊢
    clear hY B1 hpb F1
    go_upto_region 4 with (go_at_call 25; refine (hR _).mono ?_; rintro e w2 ⟨hd, hb⟩; obtain ⟨v2, rfl, hf2⟩ := hd; obtain ⟨A2, c2, hv2⟩ := hf2.slice; rw [← Hfl.out] at hv2; subst hv2; have F2 := Lib.hid hf2.cfs; have B2 := Lib.hid hb; clear hb hR hf2)
    generalize hY : World.alloc _ _ = Y2
    have hbY : Below w2.heap.size w2 Y2 := by rw [← hY]; exact (Below.refl _ _).alloc (Nat.le_refl _) _
    have hqY : Y2.heap[w2.heap.size]? = some (.cells #[.slice A2 fl c2, .int .i64 mn] 36 (0, 0)) := by rw [← hY]; exact heap_alloc_new w2 _
    have hpY : Y2.heap[pb]? = some (.cells #[.slice A1 fl c1, .int .i64 mn] 36 (0, 0)) := (hbY.block _ (Nat.lt_of_lt_of_le (gr_in HY1.out.1) B2.out.size)).trans ((B2.out.block _ (gr_in HY1.out.1)).trans HY1.out.1)
    have HB : Hid (Below w.heap.size w Y2) := Lib.hid ((HY1.out.2.1.trans (B2.out.mono HY1.out.2.1.size)).trans (hbY.mono (Nat.le_trans HY1.out.2.1.size B2.out.size)))
    have hg1 : CFs Y2.heap.size Y2 (.slice A1 fl c1) fs := ((HY1.out.2.2.keep B2.out).keep (hbY.mono B2.out.size)).mono (Nat.le_trans B2.out.size hbY.size)
    have hg2 : CFs Y2.heap.size Y2 (.slice A2 fl c2) fs := (F2.out.keep hbY).mono hbY.size
    obtain ⟨qb, hqb⟩ : ∃ qb, qb = w2.heap.size := ⟨_, rfl⟩
    rw [← hqb] at hqY ⊢
    have HC : Hid (∀ X, Below Y2.heap.size Y2 X → (X.cell? ⟨pb, 0, none⟩ = some (.slice A1 fl c1) ∧ X.cell? ⟨pb, 1, none⟩ = some (.int .i64 mn) ∧ X.cell? ⟨qb, 0, none⟩ = some (.slice A2 fl c2) ∧ X.cell? ⟨qb, 1, none⟩ = some (.int .i64 mn)) ∧ CFs X.heap.size X (.slice A1 fl c1) fs ∧ CFs X.heap.size X (.slice A2 fl c2) fs) := Lib.hid fun X hX => by
      have h0 := (hX.block _ (gr_in hpY)).trans hpY
      have h1 := (hX.block _ (gr_in hqY)).trans hqY
      exact ⟨⟨Lib.cell_of_heap h0 0, Lib.cell_of_heap h0 1, Lib.cell_of_heap h1 0, Lib.cell_of_heap h1 1⟩, (hg1.keep hX).mono hX.size, (hg2.keep hX).mono hX.size⟩
    clear hY hbY hqY hpY hqb B2 HY1 hg1 hg2 F2
    go_wp2_with (first
      | (go_at_call 12; refine (hA _).mono ?_; rintro e w3 ⟨rfl, h3⟩; obtain ⟨⟨x0, x1, y0, y1⟩, e1, e2⟩ := HC.out w3 h3; have hS1 := hS w3 A1 A2 c1 c2 e1 e2; have H3 := Lib.hid h3; clear h3 hA e1 e2 hS)
      | (go_at_call 24; refine hS1.mono ?_; rintro e w4 ⟨rfl, h4⟩; have H4 := Lib.hid (H3.out.trans (h4.mono H3.out.size)); clear x0 x1 y0 y1; obtain ⟨⟨x0, x1, y0, y1⟩, e1, e2⟩ := HC.out w4 H4.out; have hE1 := hE w4 A1 c1 e1; clear h4 hS1 e1 e2 hE)
      | (go_at_call 23; refine hE1.mono ?_; rintro e w5 ⟨rfl, h5⟩; have H5 := Lib.hid (H4.out.trans (h5.mono H4.out.size)); clear h5 hE1))
    go_ret
    exact ⟨by first | rfl | simp, HB.out.trans (H5.out.mono HB.out.size)⟩
end Go.Proofs.Ythjlpbglnnebkaa
