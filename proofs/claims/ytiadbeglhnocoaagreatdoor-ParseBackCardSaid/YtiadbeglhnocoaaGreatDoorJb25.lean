/-
  Parts with signs between them.
-/
import Derived.Test.YtiadbeglhnocoaaGreatDoorJb24
namespace Go.Proofs.YtiadbeglhnocoaaGreatDoor
set_option linter.unusedVariables false
set_option linter.unusedSimpArgs false
open Go.RowKit

theorem rankOf_bd (x : List UInt8) : 0 ≤ rankOf x ∧ rankOf x ≤ 8 := by
  unfold rankOf
  repeat' split
  all_goals omega
def BeC (k : Nat) : Prop := ∀ g least s r w, betwK k least s = some r → Ok k s → 0 ≤ least → least ≤ 100 → PAt w g s → Calls Tryz.prog 95 #[.pointer (some ⟨g, 0, none⟩), .int .i64 least] w (WholePost g NoB w r)
/-- What is there at the head of the loop: what is left to be read, what has been read, and where it lies. -/
structure Head (g : Nat) (w : World) (LB k : Nat) (least : Int) (r : Part × PS) (j : Nat) (sl : PS) (wr : World) : Prop where
  at_ : PAt wr g sl
  ok : Ok k sl
  but : But g w wr
  res : wr.heap[w.heap.size]? = some (.cells #[.int .i64 0, .int .i64 0, .int .i64 0, .int .i64 0, .int .i64 0, .string ⟨#[]⟩, .slice none 0 0, .int .i64 0] 124 (0, 0))
  left : ∃ qk qa qt qo qn qs qkids QK qc qd, loopK j least (.mk qk qa qt qo qn qs qkids, qd) sl = some r ∧ 0 ≤ qd ∧ qd ≤ mostD k + ((k : Int) - j) ∧ wr.heap[LB]? = some (.cells #[.int .i64 qk, .int .i64 qa, .int .i64 qt, .int .i64 qo, .int .i64 qn, .string qs, .slice QK qkids.length (qkids.length + qc), .int .i64 qd] 124 (0, 0)) ∧ RdEs wr (fun b => w.heap.size + 1 ≤ b ∧ b < wr.heap.size ∧ b ≠ LB) QK 0 qkids
  hj : j ≤ k
theorem mostD_mono {j k : Nat} (h : j ≤ k) : mostD j ≤ mostD k := by
  unfold mostD
  have := Nat.mul_le_mul h h
  omega
/-- Eight cells stored, by a name. -/
theorem eight_name {w : World} {R : Nat} {z0 z1 z2 z3 z4 z5 z6 z7 : Value} {T : TypeId} {fr : Nat × Nat} (h : w.heap[R]? = some (.cells #[z0, z1, z2, z3, z4, z5, z6, z7] T fr)) (v0 v1 v2 v3 v4 v5 v6 v7 : Value) : ∃ W, W = ((((((((w.setCell ⟨R, 0, none⟩ v0).setCell ⟨R, 1, none⟩ v1).setCell ⟨R, 2, none⟩ v2).setCell ⟨R, 3, none⟩ v3).setCell ⟨R, 4, none⟩ v4).setCell ⟨R, 5, none⟩ v5).setCell ⟨R, 6, none⟩ v6).setCell ⟨R, 7, none⟩ v7) ∧ W.heap[R]? = some (.cells #[v0, v1, v2, v3, v4, v5, v6, v7] T fr) ∧ (∀ b, b ≠ R → W.heap[b]? = w.heap[b]?) ∧ (∀ B, B ≤ R → Below B w W) ∧ W.heap.size = w.heap.size :=
  ⟨_, rfl, eight_at h v0 v1 v2 v3 v4 v5 v6 v7, fun b hb => eight_heap hb, fun B hB => eight_below hB, by simp⟩
/-- A row of two parts that was made for them. -/
theorem RdPs.two {w W : World} {S : Nat → Prop} {k a t o n k' a' t' o' n' : Int} {s s' : ByteArray} {kids kids' : List Ex} {K K' : Option Addr} {c c' : Nat} {d d' : Int} (hS : ∀ b, S b → b < w.heap.size) (hk : RdEs w S K 0 kids) (hk' : RdEs w S K' 0 kids') (hW : Below w.heap.size w W)
    (hb : W.heap[w.heap.size]? = some (.cells #[.int .i64 k, .int .i64 a, .int .i64 t, .int .i64 o, .int .i64 n, .string s, .slice K kids.length (kids.length + c), .int .i64 d, .int .i64 k', .int .i64 a', .int .i64 t', .int .i64 o', .int .i64 n', .string s', .slice K' kids'.length (kids'.length + c'), .int .i64 d'] 124 (0, 0))) :
    RdPs W (fun b => S b ∨ b = w.heap.size) (some ⟨w.heap.size, 0, none⟩) [(.mk k a t o n s kids, d), (.mk k' a' t' o' n' s' kids', d')] := fun _ => by
  refine ⟨w.heap.size, 0, rfl, Or.inr rfl, fun i p hp => ?_⟩
  have G : ∀ (K : Option Addr) (kids : List Ex), RdEs w S K 0 kids → RdEs W (fun b => S b ∨ b = w.heap.size) K 0 kids := fun K kids hk => RdEs.more (S' := fun b => S b ∨ b = w.heap.size) (fun b hb => Or.inl hb) _ _ _ (RdEs.keep (w' := W) (fun q hq => hW.cell (hS _ hq)) _ _ _ hk)
  match i, hp with
  | 0, hp =>
    simp at hp
    subst hp
    refine ⟨?_, Lib.cell_of_heap hb 7⟩
    unfold RdE
    simp only [Nat.zero_mul, Nat.zero_add]
    exact ⟨Lib.cell_of_heap hb 0, Lib.cell_of_heap hb 1, Lib.cell_of_heap hb 2, Lib.cell_of_heap hb 3, Lib.cell_of_heap hb 4, Lib.cell_of_heap hb 5, K, c, Lib.cell_of_heap hb 6, G _ _ hk⟩
  | 1, hp =>
    simp at hp
    subst hp
    refine ⟨?_, Lib.cell_of_heap hb 15⟩
    unfold RdE
    exact ⟨Lib.cell_of_heap hb 8, Lib.cell_of_heap hb 9, Lib.cell_of_heap hb 10, Lib.cell_of_heap hb 11, Lib.cell_of_heap hb 12, Lib.cell_of_heap hb 13, K', c', Lib.cell_of_heap hb 14, G _ _ hk'⟩
  | i + 2, hp => simp at hp
set_option maxRecDepth 100000 in
set_option maxHeartbeats 16000000 in
theorem between_any (k : Nat) (HAh : AhC k) (HBe : ∀ j, j < k → BeC j) (g : Nat) (least : Int) (s : PS) (r : Part × PS) (w : World) (hr : betwK (k + 1) least s = some r) (hok : Ok (k + 1) s) (_hl0 : 0 ≤ least) (_hl1 : least ≤ 100) (h : PAt w g s) :
    Calls Tryz.prog 95 #[.pointer (some ⟨g, 0, none⟩), .int .i64 least] w (WholePost g NoB w r) := by
  have hgl := h.lt
  simp only [betwK] at hr
  cases hf : aheadK k s with
  | none => rw [hf] at hr; cases hr
  | some q =>
    rw [hf] at hr
    obtain ⟨l, s1⟩ := q
    simp only at hr
    obtain ⟨hev, hd0, hd1⟩ := (pure_all k).ahead _ _ hf
    simp only at hev hd0 hd1
    obtain ⟨W, hW, hbW, hzW, hbR⟩ := one_al w #[.int .i64 0, .int .i64 0, .int .i64 0, .int .i64 0, .int .i64 0, .string ⟨#[]⟩, .slice none 0 0, .int .i64 0] 124
    have hA := HAh g s (l, s1) W hf (hok.less (Nat.le_succ k)) (h.keep hbW)
    have hok1 : Ok k s1 := (hok.even hev).less (Nat.le_succ k)
    have HbW := Lib.hid hbW
    have HbR := Lib.hid hbR
    have hN := fun w2 (hp2 : PAt w2 g s1) => now_any g s1 w2 hp2
    obtain ⟨t, hnow⟩ : ∃ t, t = s1.now := ⟨_, rfl⟩
    rw [← hnow] at hN
    obtain ⟨tk, ta, tn, tb⟩ := t
    unfold tkV at hN
    have f3 := tok_f3 tk ta tn ⟨tb.toArray⟩
    have hrk : rankOf s1.now.bytes = rankOf tb := by rw [← hnow]
    have hRk := rankOf_any tb
    obtain ⟨rk0, hrk0⟩ : ∃ rk0, rk0 = rankOf s1.now.bytes := ⟨_, rfl⟩
    rw [← hrk, ← hrk0] at hRk
    have Hrk0 := Lib.hid hrk0
    have Hr := Lib.hid hr
    have Hok1 := Lib.hid hok1
    rw [hW] at hA
    have hmk : mostD k + k ≤ 1125899906842624 := by
      have h1 := mostD_le hok.1
      have h2 := mostD_succ k
      omega
    clear hf hev hok hok1 h hbW hbR hnow hrk hrk0 hr HAh
    go_enter Tryz.func95, Tryz.ntmps95
    go_wp2_with (first
      | (go_at_call 106; refine hA.mono ?_; rintro e w1 ⟨v, rfl, hv, hp1, hb1⟩; rw [← hW] at hv hb1; obtain ⟨qk, qa, qt, qo, qn, qs, qkids, QK, qc, qd, hqe, rfl, hqk⟩ := hv; simp only at hqe hp1; obtain ⟨W1, hW1, hbW1, hzW1, hbL⟩ := one_al w1 #[.int .i64 qk, .int .i64 qa, .int .i64 qt, .int .i64 qo, .int .i64 qn, .string qs, .slice QK qkids.length (qkids.length + qc), .int .i64 qd] 124; have hN1 := hN W1 (hp1.keep hbW1); rw [hW1] at hN1; have hz1 : w.heap.size + 1 ≤ w1.heap.size := (by have := hb1.size; omega); have HbL := Lib.hid hbL; have HR1 := Lib.hid ((hbW1.block w.heap.size (by omega)).trans ((hb1.block w.heap.size (by omega) (by omega)).trans HbR.out)); have Hbut1 := Lib.hid ((But.of_below (g := g) HbW.out).trans (hb1.trans (But.of_below hbW1))); have Hp1 := Lib.hid (hp1.keep hbW1); have Hqk := Lib.hid (RdEs.more (S' := fun b => w.heap.size + 1 ≤ b ∧ b < W1.heap.size ∧ b ≠ w1.heap.size) (fun b hb => by rcases hb with hb | ⟨h1, h2⟩; exact absurd hb (by unfold NoB; simp); exact ⟨by omega, by omega, by omega⟩) _ _ _ (RdEs.keep (w' := W1) (fun q hq => hbW1.cell (by rcases hq with hb | ⟨h1, h2⟩; exact absurd hb (by unfold NoB; simp); exact h2)) _ _ _ hqk)); have Hqe := Lib.hid hqe; clear hp1 hb1 hbW1 hbL hqk hA hN hqe; unfold partV)
      | (go_at_call 18; refine hN1.mono ?_; rintro e w2 ⟨rfl, hb2⟩; rw [← hW1] at hb2; have Hb2 := Lib.hid hb2; clear hb2 hN1)
      | (go_at_call 107; refine (hRk _).mono ?_; rintro e w' ⟨rfl, rfl⟩))
    have hHead : Head g w w1.heap.size k least r k s1 w2 := by
      refine ⟨Hp1.out.keep Hb2.out, Hok1.out, Hbut1.out.trans (But.of_below Hb2.out), (Hb2.out.block _ (by omega)).trans HR1.out, ⟨qk, qa, qt, qo, qn, qs, qkids, QK, qc, qd, ?_, ?_, ?_, (Hb2.out.block _ (by omega)).trans HbL.out, ?_⟩, Nat.le_refl _⟩
      · rw [← Hqe.out]; exact Hr.out
      · have := Hqe.out; rw [this] at hd0; exact hd0
      · have := Hqe.out; rw [this] at hd1; simp only at hd1; omega
      · exact RdEs.more (fun b hb => ⟨hb.1, by have := Hb2.out.size; have := hb.2.1; omega, hb.2.2⟩) _ _ _ (RdEs.keep (w' := w2) (fun q hq => Hb2.out.cell hq.2.1) _ _ _ Hqk.out)
    have HHead := Lib.hid hHead
    have hL1 : w.heap.size + 1 ≤ w1.heap.size := hz1
    obtain ⟨LB, hLB⟩ : ∃ LB, LB = w1.heap.size := ⟨_, rfl⟩
    rw [← hLB] at HHead hL1 ⊢
    clear hHead Hr Hok1 hd0 hd1 Hp1 Hbut1 HR1 HbL Hqk Hqe Hb2 HbR hW hW1 hzW1 hz1 hzW f3 hRk hLB
    go_loopg [6] k (fun gk u wr => Hid (∃ sl, u = .int .i64 (rankOf sl.now.bytes) ∧ Head g w LB k least r gk sl wr))
    case atStart => exact Lib.hid ⟨s1, by rw [Hrk0.out], HHead.out⟩
    case round =>
      obtain ⟨sl, rfl, hd⟩ := hrel.out
      obtain ⟨hat, hokl, hbutl, hresl, ⟨qk, qa, qt, qo, qn, qs, qkids, QK, qc, qd, hlp, hq0, hq1, hLl, hql⟩, hjl⟩ := hd
      have hLB := heap_lt hLl
      obtain ⟨x0, x1, x2, x3, x4, x5, x6, x7, xf⟩ := cells8 hLl
      cases gk with
      | zero => simp [loopK] at hlp
      | succ j =>
        simp only [loopK] at hlp
        clear hrel HHead Hrk0
        by_cases hx : rankOf sl.now.bytes < least
        · rw [if_pos hx] at hlp
          simp only [Option.some.injEq] at hlp
          obtain ⟨r0, r1, r2, r3, r4, r5, r6, r7, rf⟩ := cells8 hresl
          have hrl := heap_lt hresl
          have hdx : decide (least ≤ rankOf sl.now.bytes) = false := by simpa using hx
          have Hat := Lib.hid hat
          have Hbutl := Lib.hid hbutl
          have Hv := Lib.hid (PartV.intro qk qa qt qo qn qs qkids QK qc qd rfl hql)
          have Hlp := Lib.hid hlp
          obtain ⟨rk, hrk⟩ : ∃ rk, rk = rankOf sl.now.bytes := ⟨_, rfl⟩
          rw [← hrk] at hdx ⊢
          clear hrk hx hat hokl hbutl hresl hql hLl hlp
          go_wp2
          refine bodyPost_ret (v := partV qk qa qt qo qn qs QK qkids.length (qkids.length + qc) qd) (by simp [results, Tryz.results95, go_sem, partV, r0, r1, r2, r3, r4, r5, r6, r7]) rfl ?_
          rw [← Hlp.out]
          refine own_end (N := 1) hgl (fun b hb => ⟨hb.1, hb.2.1⟩) Hv.out Hat.out Hbutl.out (fun b hb => eight_heap (by omega)) (eight_below (Nat.le_refl _))
        · rw [if_neg hx] at hlp
          cases hb : betwK j (rankOf sl.now.bytes + 1) sl.next with
          | none => rw [hb] at hlp; cases hlp
          | some q =>
            rw [hb] at hlp
            obtain ⟨rr, s2⟩ := q
            simp only at hlp
            have hrb := rankOf_bd sl.now.bytes
            obtain ⟨hev, hd0, hd1⟩ := (pure_all j).betw _ _ _ hb
            simp only at hev hd0 hd1
            have hjk : j < k := by omega
            have hN := next_any g sl wr hat
            have hokn : Ok k sl.next := hokl.even (even_next sl)
            have hBe := fun w2 (hp2 : PAt w2 g sl.next) => HBe j hjk g (rankOf sl.now.bytes + 1) sl.next (rr, s2) w2 hb (hokn.less (by omega)) (by omega) (by omega) hp2
            obtain ⟨t, hnow⟩ : ∃ t, t = sl.now := ⟨_, rfl⟩
            rw [← hnow] at hlp hN hrb hBe hx ⊢
            obtain ⟨s', hs'⟩ : ∃ s', s' = sl.next := ⟨_, rfl⟩
            rw [← hs'] at hN hBe
            obtain ⟨tk, ta, tn, tb⟩ := t
            unfold tkV at hN
            simp only at hlp hrb hBe hx ⊢
            have hdx : decide (least ≤ rankOf tb) = true := by simp; omega
            have hKi := kindOf_any (rankOf tb)
            have hOp := operation_any tb
            obtain ⟨rk, hrk⟩ : ∃ rk, rk = rankOf tb := ⟨_, rfl⟩
            rw [← hrk] at hlp hrb hBe hdx hKi ⊢
            obtain ⟨ki, hki⟩ : ∃ ki, ki = kindOf rk := ⟨_, rfl⟩
            obtain ⟨op, hop⟩ : ∃ op, op = opOf tb := ⟨_, rfl⟩
            rw [← hki] at hlp hKi
            rw [← hop] at hlp hOp
            have Hdep := Lib.hid (show (∀ p ∈ [((.mk qk qa qt qo qn qs qkids, qd) : Part), rr], 0 ≤ p.2 ∧ p.2 ≤ 1125899906842624) ∧ -1099511627776 ≤ s2.deep ∧ s2.deep ≤ 1099511627776 from by
              have hm := mostD_mono (Nat.le_of_lt hjk)
              have hok2 := hokn.even hev
              unfold Ok at hok2
              refine ⟨fun p hp => ?_, by omega, by omega⟩
              simp only [List.mem_cons, List.not_mem_nil, or_false] at hp
              rcases hp with rfl | rfl
              · exact ⟨hq0, by simp only; omega⟩
              · exact ⟨hd0, by omega⟩)
            have Hokn := Lib.hid (show Ok k s2 from hokn.even hev)
            have Hlp := Lib.hid hlp
            have Hbutl := Lib.hid hbutl
            have Hresl := Lib.hid hresl
            have HLl := Lib.hid hLl
            have Hql := Lib.hid hql
            clear hnow hs' hrk hki hop hlp hbutl hresl hLl hql hat hokl hokn hb hx HBe
            go_upto_region 6 with (go_at_call 58; refine hN.mono ?_; rintro e w4 ⟨rfl, hp4, hb4⟩; have Hp4 := Lib.hid hp4; have Hb4 := Lib.hid hb4; clear hp4 hb4 hN)
            obtain ⟨W4, hW4, hbW4, hzW4, hbT4⟩ := one_al w4 #[.int .i64 tk, .int .i64 ta, .int .i64 tn, .string ⟨tb.toArray⟩] 56
            rw [← hW4]
            clear hW4
            obtain ⟨t0, t1, t2, t3, tf⟩ := cells4 hbT4
            have s0 : W4.drew.cell? ⟨w4.heap.size, 1, none⟩ = some (.int .i64 ta) ∧ W4.drew.cell? ⟨w4.heap.size, 3, none⟩ = some (.string ⟨tb.toArray⟩) := ⟨t1, t3⟩
            go_region_held3 (fun w' => w'.cell? ⟨w4.heap.size, 1, none⟩ = some (.int .i64 ta) ∧ w'.cell? ⟨w4.heap.size, 3, none⟩ = some (.string ⟨tb.toArray⟩)) (first | with_reducible exact s0 | assumption | go_keep) (first
              | (go_at_call 108; refine (hKi _).mono ?_; rintro e w' ⟨rfl, rfl⟩)
              | (go_at_call 109; refine (hOp _).mono ?_; rintro e w' ⟨rfl, rfl⟩))
            all_goals (go_upto_region 7 with fail)
            all_goals
              have hX := fun (S : Nat → Prop) (A : Option Addr) w2 (hp2 : PAt w2 g s2) (hS : ∀ b, S b → g < b ∧ b < w2.heap.size) (hR : RdPs w2 S A [(.mk qk qa qt qo qn qs qkids, qd), rr]) => whole_any g s2 S ki ta op 0 ⟨#[]⟩ [(.mk qk qa qt qo qn qs qkids, qd), rr] A 2 w2 hp2 hS (by simp) hR Hdep.out.1 Hdep.out.2.1 Hdep.out.2.2
              obtain ⟨W5, hW5, hbW5, hzW5, hbE5⟩ := one_al W4 #[.int .i64 ki, .int .i64 ta, .int .i64 0, .int .i64 op, .int .i64 0, .string ⟨#[]⟩, .slice none 0 0] 96
              rw [← hW5]
              clear hW5
              rw [hzW4] at hbE5 hbW5
              have hz45 : wr.heap.size ≤ w4.heap.size := Hb4.out.size
              have hz5 : W5.drew.drew.heap.size = w4.heap.size + 2 := by have : W5.drew.drew.heap.size = W5.heap.size := rfl; omega
              have hbd : But g wr W5.drew.drew := ((Hb4.out.trans (But.of_below hbW4)).trans (But.of_below (by rw [hzW4]; exact hbW5))).drew.drew
              have hLd := (hbd.block LB hLB (by omega)).trans HLl.out
              have hEd : W5.drew.drew.heap[w4.heap.size + 1]? = some (.cells #[.int .i64 ki, .int .i64 ta, .int .i64 0, .int .i64 op, .int .i64 0, .string ⟨#[]⟩, .slice none 0 0] 96 (0, 0)) := hbE5
              have hpd : PAt W5.drew.drew g s' := Hp4.out.up (((hbW4.trans (hbW5.mono (by omega))).mono Hp4.out.lt).drew.drew)
              have hBe5 := hBe W5.drew.drew hpd
              have hwr : IntKind.i64.wrap (rk + 1) = rk + 1 := by simp [IntKind.wrap, IntKind.bits, IntKind.signed]; omega
              have b0 := cells7' hEd
              obtain ⟨x0', x1', x2', x3', x4', x5', x6', x7', _⟩ := cells8 hLd
              have HLd := Lib.hid hLd
              have HEd := Lib.hid hEd
              have Hbd := Lib.hid hbd
              clear hbE5 hbW5 hbW4 hbT4 hEd hLd hbd hpd hBe t0 t1 t2 t3 tf s0 x0 x1 x2 x3 x4 x5 x6 x7 xf
              refine wp_region_held_drew (S := fun w' => w'.cell? ⟨w4.heap.size + 1, 0, none⟩ = some (.int .i64 ki) ∧ w'.cell? ⟨w4.heap.size + 1, 1, none⟩ = some (.int .i64 ta) ∧ w'.cell? ⟨w4.heap.size + 1, 2, none⟩ = some (.int .i64 0) ∧ w'.cell? ⟨w4.heap.size + 1, 3, none⟩ = some (.int .i64 op) ∧ w'.cell? ⟨w4.heap.size + 1, 4, none⟩ = some (.int .i64 0) ∧ w'.cell? ⟨w4.heap.size + 1, 5, none⟩ = some (.string ⟨#[]⟩) ∧ w'.cell? ⟨w4.heap.size + 1, 6, none⟩ = some (.slice none 0 0)) (by kernel_rfl) b0 (fun hHeld => ?_)
              refine wpAnyH_take (i := 0) (v := ?_) rfl (by kernel_rfl) (by kernel_rfl) (by kernel_rfl) (fun _ _ _ h => h) (Or.inl ⟨by rfl, ?_⟩) (by assumption) ?_
              rotate_left
              · (intro w hSw; (try dsimp only at hSw); first | (go_simp; done) | (go_simp; with_reducible rfl))
              try simp only [Act.put, List.setIfInBounds_toArray, List.set_cons_zero, List.set_cons_succ]
              refine wpAnyH_take (i := 1) (v := ?_) rfl (by kernel_rfl) (by kernel_rfl) (by kernel_rfl) (fun _ _ _ h => h) (Or.inl ⟨by rfl, ?_⟩) (by assumption) ?_
              rotate_left
              · (intro w hSw; (try dsimp only at hSw); first | (go_simp; done) | (go_simp; with_reducible rfl))
              try simp only [Act.put, List.setIfInBounds_toArray, List.set_cons_zero, List.set_cons_succ]
              refine wpAnyH_take (i := 3) (v := ?_) rfl (by kernel_rfl) (by kernel_rfl) (by kernel_rfl) (fun _ _ _ h => h) (Or.inl ⟨by rfl, ?_⟩) (by assumption) ?_
              rotate_left
              · (intro w hSw; (try dsimp only at hSw); first | (go_simp; done) | (go_simp; with_reducible rfl))
              try simp only [Act.put, List.setIfInBounds_toArray, List.set_cons_zero, List.set_cons_succ]
              refine wpAnyH_take (i := 4) (v := ?_) rfl (by kernel_rfl) (by kernel_rfl) (by kernel_rfl) (fun _ _ _ h => h) (Or.inl ⟨by rfl, ?_⟩) (by assumption) ?_
              rotate_left
              · (intro w hSw; (try dsimp only at hSw); first | (go_simp; done) | (go_simp; with_reducible rfl))
              try simp only [Act.put, List.setIfInBounds_toArray, List.set_cons_zero, List.set_cons_succ]
              refine wpAnyH_take (i := 5) (v := ?_) rfl (by kernel_rfl) (by kernel_rfl) (by kernel_rfl) (fun _ _ _ h => h) (Or.inl ⟨by rfl, ?_⟩) (by assumption) ?_
              rotate_left
              · (intro w hSw; (try dsimp only at hSw); first | (go_simp; done) | (go_simp; with_reducible rfl))
              try simp only [Act.put, List.setIfInBounds_toArray, List.set_cons_zero, List.set_cons_succ]
              refine wpAnyH_ready (rs := [2, 6]) (by kernel_rfl) (by simp) ?_
              refine AllReadyH.cons rfl (fun K hK => ?_) (AllReadyH.cons rfl (fun K hK => ?_) (AllReadyH.nil))
              · go_simp
                refine hK.out _ _ ?_ (fun hHeld => ?_)
                · ((try dsimp only); first | with_reducible exact b0 | with_reducible exact sA | with_reducible exact sC | with_reducible exact sB | (simp only [eight_far (show LB ≠ w4.heap.size + 1 by omega)]; with_reducible exact sB))
                clear hK K
                try simp only [Act.put, List.setIfInBounds_toArray, List.set_cons_zero, List.set_cons_succ]
                refine wpAnyH_ready (rs := [6]) (by kernel_rfl) (by simp) ?_
                refine AllReadyH.cons rfl (fun K hK => ?_) (AllReadyH.nil)
                go_simp
                with_reducible refine hBe5.mono ?_
                rintro e w6 ⟨v6, rfl, hv6, hp6, hb6⟩
                obtain ⟨vk, va, vt, vo, vn, vs, vkids, VK, vc, vd, hve, rfl, hvk⟩ := hv6
                simp only at hve hp6
                have hz6 := hb6.size
                have hE6 := (hb6.block (w4.heap.size + 1) (by omega) (by omega)).trans HEd.out
                have hL6 := (hb6.block LB (by omega) (by omega)).trans HLd.out
                have sA := cells7' hE6
                obtain ⟨y0, y1, y2, y3, y4, y5, y6, y7, _⟩ := cells8 hL6
                obtain ⟨W7, hW7, hbW7, hzW7, hbP7⟩ := one_al w6 #[.int .i64 qk, .int .i64 qa, .int .i64 qt, .int .i64 qo, .int .i64 qn, .string qs, .slice QK qkids.length (qkids.length + qc), .int .i64 qd, .int .i64 vk, .int .i64 va, .int .i64 vt, .int .i64 vo, .int .i64 vn, .string vs, .slice VK vkids.length (vkids.length + vc), .int .i64 vd] 124
                have hE7 := (hbW7.block (w4.heap.size + 1) (by omega)).trans hE6
                have hL7 := (hbW7.block LB (by omega)).trans hL6
                have sC := cells7' hE7
                have hbr6 : But g wr w6 := Hbd.out.trans hb6
                have hq6 := RdEs.more (S' := fun b => w.heap.size + 1 ≤ b ∧ b < w6.heap.size ∧ b ≠ LB) (fun b hb => ⟨hb.1, by have := hb.2.1; omega, hb.2.2⟩) _ _ _ (RdEs.keep (w' := w6) (fun q hq => hbr6.cell hq.2.1 (by have := hq.1; omega)) _ _ _ Hql.out)
                have hv6 := RdEs.more (S' := fun b => w.heap.size + 1 ≤ b ∧ b < w6.heap.size ∧ b ≠ LB) (fun b hb => by rcases hb with hb | ⟨h1, h2⟩; exact absurd hb (by unfold NoB; simp); exact ⟨by omega, by omega, by omega⟩) _ _ _ hvk
                have hrow := RdPs.two (fun b hb => hb.2.1) hq6 hv6 hbW7 hbP7
                rw [← hve] at hrow
                have hX2 := hX _ _ W7 (hp6.keep hbW7) (fun b hb => by rcases hb with hb | hb; exact ⟨by have := hb.1; omega, by have := hb.2.1; omega⟩; exact ⟨by omega, by omega⟩) hrow
                have HW7 := Lib.hid hW7
                have Hb7 := Lib.hid (hbr6.trans (But.of_below hbW7))
                have hz7 : w6.heap.size + 1 = W7.heap.size := by omega
                rw [hW7] at sC hX2
                rw [show [((.mk qk qa qt qo qn qs qkids, qd) : Part), rr].length = 2 from rfl] at hX2
                have HE7 := Lib.hid hE7
                have HL7 := Lib.hid hL7
                clear hbW7 hbP7 hE7 hL7 hE6 hL6 hv6 hq6 hrow hvk hve hp6 hb6 hbr6 hW7 hBe5 hX
                unfold partV
                refine hK.out _ _ ?_ (fun hHeld => ?_)
                · ((try dsimp only); first | with_reducible exact b0 | with_reducible exact sA | with_reducible exact sC | with_reducible exact sB | (simp only [eight_far (show LB ≠ w4.heap.size + 1 by omega)]; with_reducible exact sB))
                clear hK K
                try simp only [Act.put, List.setIfInBounds_toArray, List.set_cons_zero, List.set_cons_succ]
                refine wpAnyH_ready (rs := [7]) (by kernel_rfl) (by simp) ?_
                refine AllReadyH.cons rfl (fun K hK => ?_) (AllReadyH.nil)
                go_simp
                refine hK.out _ _ ?_ (fun hHeld => ?_)
                · ((try dsimp only); first | with_reducible exact b0 | with_reducible exact sA | with_reducible exact sC | with_reducible exact sB | (simp only [eight_far (show LB ≠ w4.heap.size + 1 by omega)]; with_reducible exact sB))
                clear hK K
                try simp only [Act.put, List.setIfInBounds_toArray, List.set_cons_zero, List.set_cons_succ]
                refine wpAnyH_ready (rs := [8]) (by kernel_rfl) (by simp) ?_
                refine AllReadyH.cons rfl (fun K hK => ?_) (AllReadyH.nil)
                go_simp
                with_reducible refine hX2.mono ?_
                rintro e w8 ⟨v8, rfl, hv8, hp8, hb8⟩
                rw [← HW7.out] at hv8 hb8
                obtain ⟨ak, aa, aq, ao, an, az, akids, AK, ac, ad, hae, rfl, hak⟩ := hv8
                have hz8 := hb8.size
                have hE8 := (hb8.block (w4.heap.size + 1) (by omega) (by omega)).trans HE7.out
                have hLe := (hb8.block LB (by omega) (by omega)).trans HL7.out
                have sB := cells7' hE8
                obtain ⟨z0, z1, z2, z3, z4, z5, z6, z7, zf⟩ := cells8 hLe
                have HLe := Lib.hid hLe
                have Hae := Lib.hid hae
                have Hp8 := Lib.hid hp8
                have Hb8 := Lib.hid (Hb7.out.trans hb8)
                have Hak := Lib.hid (RdEs.more (S' := fun b => w.heap.size + 1 ≤ b ∧ b < w8.heap.size ∧ b ≠ LB) (fun b hb => by
                  rcases hb with (hb | hb) | ⟨h1, h2⟩
                  · exact ⟨hb.1, by have := hb.2.1; omega, hb.2.2⟩
                  · exact ⟨by omega, by omega, by omega⟩
                  · exact ⟨by omega, h2, by omega⟩) _ _ _ hak)
                clear hak hb8 hp8 hae hE8 hLe hX2
                unfold partV
                refine hK.out _ _ ?_ (fun hHeld => ?_)
                · ((try dsimp only); first | with_reducible exact b0 | with_reducible exact sA | with_reducible exact sC | with_reducible exact sB | (simp only [eight_far (show LB ≠ w4.heap.size + 1 by omega)]; with_reducible exact sB))
                clear hK K
                try simp only [Act.put, List.setIfInBounds_toArray, List.set_cons_zero, List.set_cons_succ]
                refine wpAnyH_ready (rs := [9]) (by kernel_rfl) (by simp) ?_
                refine AllReadyH.cons rfl (fun K hK => ?_) (AllReadyH.nil)
                go_simp
                refine hK.out _ _ ?_ (fun hHeld => ?_)
                · ((try dsimp only); first | with_reducible exact b0 | with_reducible exact sA | with_reducible exact sC | with_reducible exact sB | (simp only [eight_far (show LB ≠ w4.heap.size + 1 by omega)]; with_reducible exact sB))
                clear hK K
                try simp only [Act.put, List.setIfInBounds_toArray, List.set_cons_zero, List.set_cons_succ]
                refine wpAnyH_done (by kernel_rfl) ?_ _
                obtain ⟨W9, hW9, hL9, hfar9, hbl9, hz9⟩ := eight_name HLe.out (.int .i64 ak) (.int .i64 aa) (.int .i64 aq) (.int .i64 ao) (.int .i64 an) (.string az) (.slice AK akids.length (akids.length + ac)) (.int .i64 ad)
                rw [← hW9]
                have hz8' := Hb8.out.size
                have hdp := whole_deep s2 ki ta op 0 ⟨#[]⟩ [(.mk qk qa qt qo qn qs qkids, qd), rr] (mostD k + ((k : Int) - (j + 1))) (by have := mostD_nn k; omega) (fun p hp => by
                  have hm := mostD_mono (Nat.le_of_lt hjk)
                  simp only [List.mem_cons, List.not_mem_nil, or_false] at hp
                  rcases hp with rfl | rfl
                  · simp only; omega
                  · omega)
                have hevp := even_whole s2 ki ta op 0 ⟨#[]⟩ [(.mk qk qa qt qo qn qs qkids, qd), rr]
                obtain ⟨pp, hpp⟩ : ∃ pp, pp = wholeP s2 ki ta op 0 ⟨#[]⟩ [(.mk qk qa qt qo qn qs qkids, qd), rr] := ⟨_, rfl⟩
                have hlp9 := Hlp.out
                have hae9 := Hae.out
                have hp9 := Hp8.out.up (hbl9 (g + 1) (by omega))
                rw [← hpp] at hlp9 hae9 hp9 hdp hevp
                obtain ⟨p1, s3⟩ := pp
                simp only at hlp9 hae9 hp9 hdp hevp
                subst hae9
                simp only at hlp9 hdp
                have hok3 : Ok k s3 := Hokn.out.even hevp
                have hH : ∀ s4 wN, loopK j least (.mk ak aa aq ao an az akids, ad) s4 = some r → Even s3 s4 → PAt wN g s4 → But g W9 wN → Head g w LB k least r j s4 wN := fun s4 wN h1 h2 h3 h4 => by
                  have hbw : But g w W9 := (Hbutl.out.trans Hb8.out).up (hbl9 w.heap.size (by omega))
                  have hbs := h4.size
                  refine ⟨h3, hok3.even h2, hbw.trans h4, (h4.block _ (by omega) (by omega)).trans ((hfar9 _ (by omega)).trans ((Hb8.out.block _ (by omega) (by omega)).trans Hresl.out)), ⟨ak, aa, aq, ao, an, az, akids, AK, ac, ad, h1, hdp.1, by omega, (h4.block _ (by omega) (by omega)).trans hL9, ?_⟩, by omega⟩
                  exact RdEs.more (fun b hb => ⟨hb.1, by have := hb.2.1; omega, hb.2.2⟩) _ _ _ (RdEs.keep (w' := wN) (fun q hq => (h4.cell (by have := hq.2.1; omega) (by have := hq.1; omega)).trans (World.cell?_of_block (hfar9 _ hq.2.2))) _ _ _ Hak.out)
                have HH := Lib.hid hH
                have HP9 := Lib.hid hp9
                obtain ⟨t3, hnow3⟩ : ∃ t3, t3 = s3.now := ⟨_, rfl⟩
                have hN3 := fun w2 (hp2 : PAt w2 g s3) => now_any g s3 w2 hp2
                rw [← hnow3] at hN3 hlp9
                obtain ⟨tk3, ta3, tn3, tb3⟩ := t3
                unfold tkV at hN3
                simp only at hlp9 hN3
                have g3 := tok_f3 tk3 ta3 tn3 ⟨tb3.toArray⟩
                have hRk3 := rankOf_any tb3
                have hrn3 : rankOf s3.now.bytes = rankOf tb3 := by rw [← hnow3]
                have Hrn3 := Lib.hid hrn3
                obtain ⟨rk3, hrk3⟩ : ∃ rk3, rk3 = rankOf tb3 := ⟨_, rfl⟩
                rw [← hrk3] at hRk3 hlp9
                have Hrk3 := Lib.hid hrk3
                have hNa := hN3 W9 HP9.out
                clear hW9 z0 z1 z2 z3 z4 z5 z6 z7 zf sB sA sC b0 hHeld hdp hevp hpp hp9 hok3 hH hnow3 hrn3 hrk3 hL9 hfar9 hbl9 hz9 hz8' Hae Hp8 Hak HLe Hb7 HW7 HE7 HLd HEd Hbd Hdep Hql HLl Hresl Hlp hwr x0' x1' x2' x3' x4' x5' x6' x7' y0 y1 y2 y3 y4 y5 y6 y7
                by_cases h3 : rk = 3
                · by_cases h33 : rk3 = 3
                  · rw [if_pos ⟨h3, h33⟩] at hlp9
                    have hb3 : (rk == 3) = true := by simp [h3]
                    have hb33 : (rk3 == 3) = true := by simp [h33]
                    have hRf := fun w2 (hp2 : PAt w2 g s3) => refuse_any g s3 ⟨tk3, ta3, tn3, tb3⟩ w2 hp2
                    obtain ⟨s4, hs4⟩ : ∃ s4, s4 = s3.refuse ⟨tk3, ta3, tn3, tb3⟩ := ⟨_, rfl⟩
                    rw [← hs4] at hRf hlp9
                    have hev4 : Even s3 s4 := by rw [hs4]; exact even_refuse _ _
                    obtain ⟨t4, hnow4⟩ : ∃ t4, t4 = s4.now := ⟨_, rfl⟩
                    have hN4 := fun w2 (hp2 : PAt w2 g s4) => now_any g s4 w2 hp2
                    rw [← hnow4] at hN4
                    obtain ⟨tk4, ta4, tn4, tb4⟩ := t4
                    unfold tkV at hN4 hRf
                    simp only at hN4 hRf
                    have g4 := tok_f3 tk4 ta4 tn4 ⟨tb4.toArray⟩
                    have hRk4 := rankOf_any tb4
                    have Hrn4 := Lib.hid (show rankOf s4.now.bytes = rankOf tb4 by rw [← hnow4])
                    have Hev4 := Lib.hid hev4
                    have Hlp9 := Lib.hid hlp9
                    clear h3 h33 hlp9 hs4 hnow4 hev4
                    go_wp2_with (first
                      | (go_at_call 18; refine hNa.mono ?_; rintro e w10 ⟨rfl, hb10⟩; have hNb := hN3 w10 (HP9.out.keep hb10); have Hb10 := Lib.hid hb10; clear hb10 hNa)
                      | (go_at_call 18; refine hNb.mono ?_; rintro e w11 ⟨rfl, hb11⟩; have hRx := hRf w11 ((HP9.out.keep Hb10.out).keep hb11); have Hb11 := Lib.hid ((But.of_below (g := g) Hb10.out).trans (But.of_below hb11)); clear hb11 hNb)
                      | (go_at_call 57; refine hRx.mono ?_; rintro e w12 ⟨rfl, hp12, hb12⟩; have hNc := hN4 w12 hp12; have Hp12 := Lib.hid hp12; have Hb12 := Lib.hid (Hb11.out.trans hb12); clear hp12 hb12 hRx)
                      | (go_at_call 18; refine hNc.mono ?_; rintro e w13 ⟨rfl, hb13⟩; have HPz := Lib.hid (Hp12.out.keep hb13); have Hbz := Lib.hid (Hb12.out.trans (But.of_below hb13)); clear hb13 hNc)
                      | (go_at_call 107; with_reducible refine (hRk3 _).mono ?_; rintro e w' ⟨rfl, rfl⟩)
                      | (go_at_call 107; with_reducible refine (hRk4 _).mono ?_; rintro e w' ⟨rfl, rfl⟩))
                    go_roundg j
                    case rel => exact Lib.hid ⟨s4, by rw [Hrn4.out], HH.out s4 _ Hlp9.out Hev4.out HPz.out Hbz.out⟩
                    all_goals exact Nat.lt_succ_self _
                  · rw [if_neg (fun h => h33 h.2)] at hlp9
                    have hb3 : (rk == 3) = true := by simp [h3]
                    have hb33 : (rk3 == 3) = false := by simp [h33]
                    have Hlp9 := Lib.hid hlp9
                    clear h3 h33 hlp9
                    go_wp2_with (first
                      | (go_at_call 18; refine hNa.mono ?_; rintro e w10 ⟨rfl, hb10⟩; have hNb := hN3 w10 (HP9.out.keep hb10); have Hb10 := Lib.hid hb10; clear hb10 hNa)
                      | (go_at_call 18; refine hNb.mono ?_; rintro e w11 ⟨rfl, hb11⟩; have HPz := Lib.hid ((HP9.out.keep Hb10.out).keep hb11); have Hbz := Lib.hid ((But.of_below (g := g) Hb10.out).trans (But.of_below hb11)); clear hb11 hNb)
                      | (go_at_call 107; with_reducible refine (hRk3 _).mono ?_; rintro e w' ⟨rfl, rfl⟩))
                    go_roundg j
                    case rel => exact Lib.hid ⟨s3, by rw [Hrn3.out, Hrk3.out], HH.out s3 _ Hlp9.out (Even.refl s3) HPz.out Hbz.out⟩
                    all_goals exact Nat.lt_succ_self _
                · rw [if_neg (fun h => h3 h.1)] at hlp9
                  have hb3 : (rk == 3) = false := by simp [h3]
                  have Hlp9 := Lib.hid hlp9
                  clear h3 hlp9
                  go_wp2_with (first
                    | (go_at_call 18; refine hNa.mono ?_; rintro e w10 ⟨rfl, hb10⟩; have HPz := Lib.hid (HP9.out.keep hb10); have Hbz := Lib.hid (But.of_below (g := g) hb10); clear hb10 hNa)
                    | (go_at_call 107; with_reducible refine (hRk3 _).mono ?_; rintro e w' ⟨rfl, rfl⟩))
                  go_roundg j
                  case rel => exact Lib.hid ⟨s3, by rw [Hrn3.out, Hrk3.out], HH.out s3 _ Hlp9.out (Even.refl s3) HPz.out Hbz.out⟩
                  all_goals exact Nat.lt_succ_self _
              · go_simp
                with_reducible refine hBe5.mono ?_
                rintro e w6 ⟨v6, rfl, hv6, hp6, hb6⟩
                obtain ⟨vk, va, vt, vo, vn, vs, vkids, VK, vc, vd, hve, rfl, hvk⟩ := hv6
                simp only at hve hp6
                have hz6 := hb6.size
                have hE6 := (hb6.block (w4.heap.size + 1) (by omega) (by omega)).trans HEd.out
                have hL6 := (hb6.block LB (by omega) (by omega)).trans HLd.out
                have sA := cells7' hE6
                obtain ⟨y0, y1, y2, y3, y4, y5, y6, y7, _⟩ := cells8 hL6
                obtain ⟨W7, hW7, hbW7, hzW7, hbP7⟩ := one_al w6 #[.int .i64 qk, .int .i64 qa, .int .i64 qt, .int .i64 qo, .int .i64 qn, .string qs, .slice QK qkids.length (qkids.length + qc), .int .i64 qd, .int .i64 vk, .int .i64 va, .int .i64 vt, .int .i64 vo, .int .i64 vn, .string vs, .slice VK vkids.length (vkids.length + vc), .int .i64 vd] 124
                have hE7 := (hbW7.block (w4.heap.size + 1) (by omega)).trans hE6
                have hL7 := (hbW7.block LB (by omega)).trans hL6
                have sC := cells7' hE7
                have hbr6 : But g wr w6 := Hbd.out.trans hb6
                have hq6 := RdEs.more (S' := fun b => w.heap.size + 1 ≤ b ∧ b < w6.heap.size ∧ b ≠ LB) (fun b hb => ⟨hb.1, by have := hb.2.1; omega, hb.2.2⟩) _ _ _ (RdEs.keep (w' := w6) (fun q hq => hbr6.cell hq.2.1 (by have := hq.1; omega)) _ _ _ Hql.out)
                have hv6 := RdEs.more (S' := fun b => w.heap.size + 1 ≤ b ∧ b < w6.heap.size ∧ b ≠ LB) (fun b hb => by rcases hb with hb | ⟨h1, h2⟩; exact absurd hb (by unfold NoB; simp); exact ⟨by omega, by omega, by omega⟩) _ _ _ hvk
                have hrow := RdPs.two (fun b hb => hb.2.1) hq6 hv6 hbW7 hbP7
                rw [← hve] at hrow
                have hX2 := hX _ _ W7 (hp6.keep hbW7) (fun b hb => by rcases hb with hb | hb; exact ⟨by have := hb.1; omega, by have := hb.2.1; omega⟩; exact ⟨by omega, by omega⟩) hrow
                have HW7 := Lib.hid hW7
                have Hb7 := Lib.hid (hbr6.trans (But.of_below hbW7))
                have hz7 : w6.heap.size + 1 = W7.heap.size := by omega
                rw [hW7] at sC hX2
                rw [show [((.mk qk qa qt qo qn qs qkids, qd) : Part), rr].length = 2 from rfl] at hX2
                have HE7 := Lib.hid hE7
                have HL7 := Lib.hid hL7
                clear hbW7 hbP7 hE7 hL7 hE6 hL6 hv6 hq6 hrow hvk hve hp6 hb6 hbr6 hW7 hBe5 hX
                unfold partV
                refine hK.out _ _ ?_ (fun hHeld => ?_)
                · ((try dsimp only); first | with_reducible exact b0 | with_reducible exact sA | with_reducible exact sC | with_reducible exact sB | (simp only [eight_far (show LB ≠ w4.heap.size + 1 by omega)]; with_reducible exact sB))
                clear hK K
                try simp only [Act.put, List.setIfInBounds_toArray, List.set_cons_zero, List.set_cons_succ]
                refine wpAnyH_ready (rs := [2]) (by kernel_rfl) (by simp) ?_
                refine AllReadyH.cons rfl (fun K hK => ?_) (AllReadyH.nil)
                go_simp
                refine hK.out _ _ ?_ (fun hHeld => ?_)
                · ((try dsimp only); first | with_reducible exact b0 | with_reducible exact sA | with_reducible exact sC | with_reducible exact sB | (simp only [eight_far (show LB ≠ w4.heap.size + 1 by omega)]; with_reducible exact sB))
                clear hK K
                try simp only [Act.put, List.setIfInBounds_toArray, List.set_cons_zero, List.set_cons_succ]
                refine wpAnyH_ready (rs := [7]) (by kernel_rfl) (by simp) ?_
                refine AllReadyH.cons rfl (fun K hK => ?_) (AllReadyH.nil)
                go_simp
                refine hK.out _ _ ?_ (fun hHeld => ?_)
                · ((try dsimp only); first | with_reducible exact b0 | with_reducible exact sA | with_reducible exact sC | with_reducible exact sB | (simp only [eight_far (show LB ≠ w4.heap.size + 1 by omega)]; with_reducible exact sB))
                clear hK K
                try simp only [Act.put, List.setIfInBounds_toArray, List.set_cons_zero, List.set_cons_succ]
                refine wpAnyH_ready (rs := [8]) (by kernel_rfl) (by simp) ?_
                refine AllReadyH.cons rfl (fun K hK => ?_) (AllReadyH.nil)
                go_simp
                with_reducible refine hX2.mono ?_
                rintro e w8 ⟨v8, rfl, hv8, hp8, hb8⟩
                rw [← HW7.out] at hv8 hb8
                obtain ⟨ak, aa, aq, ao, an, az, akids, AK, ac, ad, hae, rfl, hak⟩ := hv8
                have hz8 := hb8.size
                have hE8 := (hb8.block (w4.heap.size + 1) (by omega) (by omega)).trans HE7.out
                have hLe := (hb8.block LB (by omega) (by omega)).trans HL7.out
                have sB := cells7' hE8
                obtain ⟨z0, z1, z2, z3, z4, z5, z6, z7, zf⟩ := cells8 hLe
                have HLe := Lib.hid hLe
                have Hae := Lib.hid hae
                have Hp8 := Lib.hid hp8
                have Hb8 := Lib.hid (Hb7.out.trans hb8)
                have Hak := Lib.hid (RdEs.more (S' := fun b => w.heap.size + 1 ≤ b ∧ b < w8.heap.size ∧ b ≠ LB) (fun b hb => by
                  rcases hb with (hb | hb) | ⟨h1, h2⟩
                  · exact ⟨hb.1, by have := hb.2.1; omega, hb.2.2⟩
                  · exact ⟨by omega, by omega, by omega⟩
                  · exact ⟨by omega, h2, by omega⟩) _ _ _ hak)
                clear hak hb8 hp8 hae hE8 hLe hX2
                unfold partV
                refine hK.out _ _ ?_ (fun hHeld => ?_)
                · ((try dsimp only); first | with_reducible exact b0 | with_reducible exact sA | with_reducible exact sC | with_reducible exact sB | (simp only [eight_far (show LB ≠ w4.heap.size + 1 by omega)]; with_reducible exact sB))
                clear hK K
                try simp only [Act.put, List.setIfInBounds_toArray, List.set_cons_zero, List.set_cons_succ]
                refine wpAnyH_ready (rs := [9]) (by kernel_rfl) (by simp) ?_
                refine AllReadyH.cons rfl (fun K hK => ?_) (AllReadyH.nil)
                go_simp
                refine hK.out _ _ ?_ (fun hHeld => ?_)
                · ((try dsimp only); first | with_reducible exact b0 | with_reducible exact sA | with_reducible exact sC | with_reducible exact sB | (simp only [eight_far (show LB ≠ w4.heap.size + 1 by omega)]; with_reducible exact sB))
                clear hK K
                try simp only [Act.put, List.setIfInBounds_toArray, List.set_cons_zero, List.set_cons_succ]
                refine wpAnyH_done (by kernel_rfl) ?_ _
                obtain ⟨W9, hW9, hL9, hfar9, hbl9, hz9⟩ := eight_name HLe.out (.int .i64 ak) (.int .i64 aa) (.int .i64 aq) (.int .i64 ao) (.int .i64 an) (.string az) (.slice AK akids.length (akids.length + ac)) (.int .i64 ad)
                rw [← hW9]
                have hz8' := Hb8.out.size
                have hdp := whole_deep s2 ki ta op 0 ⟨#[]⟩ [(.mk qk qa qt qo qn qs qkids, qd), rr] (mostD k + ((k : Int) - (j + 1))) (by have := mostD_nn k; omega) (fun p hp => by
                  have hm := mostD_mono (Nat.le_of_lt hjk)
                  simp only [List.mem_cons, List.not_mem_nil, or_false] at hp
                  rcases hp with rfl | rfl
                  · simp only; omega
                  · omega)
                have hevp := even_whole s2 ki ta op 0 ⟨#[]⟩ [(.mk qk qa qt qo qn qs qkids, qd), rr]
                obtain ⟨pp, hpp⟩ : ∃ pp, pp = wholeP s2 ki ta op 0 ⟨#[]⟩ [(.mk qk qa qt qo qn qs qkids, qd), rr] := ⟨_, rfl⟩
                have hlp9 := Hlp.out
                have hae9 := Hae.out
                have hp9 := Hp8.out.up (hbl9 (g + 1) (by omega))
                rw [← hpp] at hlp9 hae9 hp9 hdp hevp
                obtain ⟨p1, s3⟩ := pp
                simp only at hlp9 hae9 hp9 hdp hevp
                subst hae9
                simp only at hlp9 hdp
                have hok3 : Ok k s3 := Hokn.out.even hevp
                have hH : ∀ s4 wN, loopK j least (.mk ak aa aq ao an az akids, ad) s4 = some r → Even s3 s4 → PAt wN g s4 → But g W9 wN → Head g w LB k least r j s4 wN := fun s4 wN h1 h2 h3 h4 => by
                  have hbw : But g w W9 := (Hbutl.out.trans Hb8.out).up (hbl9 w.heap.size (by omega))
                  have hbs := h4.size
                  refine ⟨h3, hok3.even h2, hbw.trans h4, (h4.block _ (by omega) (by omega)).trans ((hfar9 _ (by omega)).trans ((Hb8.out.block _ (by omega) (by omega)).trans Hresl.out)), ⟨ak, aa, aq, ao, an, az, akids, AK, ac, ad, h1, hdp.1, by omega, (h4.block _ (by omega) (by omega)).trans hL9, ?_⟩, by omega⟩
                  exact RdEs.more (fun b hb => ⟨hb.1, by have := hb.2.1; omega, hb.2.2⟩) _ _ _ (RdEs.keep (w' := wN) (fun q hq => (h4.cell (by have := hq.2.1; omega) (by have := hq.1; omega)).trans (World.cell?_of_block (hfar9 _ hq.2.2))) _ _ _ Hak.out)
                have HH := Lib.hid hH
                have HP9 := Lib.hid hp9
                obtain ⟨t3, hnow3⟩ : ∃ t3, t3 = s3.now := ⟨_, rfl⟩
                have hN3 := fun w2 (hp2 : PAt w2 g s3) => now_any g s3 w2 hp2
                rw [← hnow3] at hN3 hlp9
                obtain ⟨tk3, ta3, tn3, tb3⟩ := t3
                unfold tkV at hN3
                simp only at hlp9 hN3
                have g3 := tok_f3 tk3 ta3 tn3 ⟨tb3.toArray⟩
                have hRk3 := rankOf_any tb3
                have hrn3 : rankOf s3.now.bytes = rankOf tb3 := by rw [← hnow3]
                have Hrn3 := Lib.hid hrn3
                obtain ⟨rk3, hrk3⟩ : ∃ rk3, rk3 = rankOf tb3 := ⟨_, rfl⟩
                rw [← hrk3] at hRk3 hlp9
                have Hrk3 := Lib.hid hrk3
                have hNa := hN3 W9 HP9.out
                clear hW9 z0 z1 z2 z3 z4 z5 z6 z7 zf sB sA sC b0 hHeld hdp hevp hpp hp9 hok3 hH hnow3 hrn3 hrk3 hL9 hfar9 hbl9 hz9 hz8' Hae Hp8 Hak HLe Hb7 HW7 HE7 HLd HEd Hbd Hdep Hql HLl Hresl Hlp hwr x0' x1' x2' x3' x4' x5' x6' x7' y0 y1 y2 y3 y4 y5 y6 y7
                by_cases h3 : rk = 3
                · by_cases h33 : rk3 = 3
                  · rw [if_pos ⟨h3, h33⟩] at hlp9
                    have hb3 : (rk == 3) = true := by simp [h3]
                    have hb33 : (rk3 == 3) = true := by simp [h33]
                    have hRf := fun w2 (hp2 : PAt w2 g s3) => refuse_any g s3 ⟨tk3, ta3, tn3, tb3⟩ w2 hp2
                    obtain ⟨s4, hs4⟩ : ∃ s4, s4 = s3.refuse ⟨tk3, ta3, tn3, tb3⟩ := ⟨_, rfl⟩
                    rw [← hs4] at hRf hlp9
                    have hev4 : Even s3 s4 := by rw [hs4]; exact even_refuse _ _
                    obtain ⟨t4, hnow4⟩ : ∃ t4, t4 = s4.now := ⟨_, rfl⟩
                    have hN4 := fun w2 (hp2 : PAt w2 g s4) => now_any g s4 w2 hp2
                    rw [← hnow4] at hN4
                    obtain ⟨tk4, ta4, tn4, tb4⟩ := t4
                    unfold tkV at hN4 hRf
                    simp only at hN4 hRf
                    have g4 := tok_f3 tk4 ta4 tn4 ⟨tb4.toArray⟩
                    have hRk4 := rankOf_any tb4
                    have Hrn4 := Lib.hid (show rankOf s4.now.bytes = rankOf tb4 by rw [← hnow4])
                    have Hev4 := Lib.hid hev4
                    have Hlp9 := Lib.hid hlp9
                    clear h3 h33 hlp9 hs4 hnow4 hev4
                    go_wp2_with (first
                      | (go_at_call 18; refine hNa.mono ?_; rintro e w10 ⟨rfl, hb10⟩; have hNb := hN3 w10 (HP9.out.keep hb10); have Hb10 := Lib.hid hb10; clear hb10 hNa)
                      | (go_at_call 18; refine hNb.mono ?_; rintro e w11 ⟨rfl, hb11⟩; have hRx := hRf w11 ((HP9.out.keep Hb10.out).keep hb11); have Hb11 := Lib.hid ((But.of_below (g := g) Hb10.out).trans (But.of_below hb11)); clear hb11 hNb)
                      | (go_at_call 57; refine hRx.mono ?_; rintro e w12 ⟨rfl, hp12, hb12⟩; have hNc := hN4 w12 hp12; have Hp12 := Lib.hid hp12; have Hb12 := Lib.hid (Hb11.out.trans hb12); clear hp12 hb12 hRx)
                      | (go_at_call 18; refine hNc.mono ?_; rintro e w13 ⟨rfl, hb13⟩; have HPz := Lib.hid (Hp12.out.keep hb13); have Hbz := Lib.hid (Hb12.out.trans (But.of_below hb13)); clear hb13 hNc)
                      | (go_at_call 107; with_reducible refine (hRk3 _).mono ?_; rintro e w' ⟨rfl, rfl⟩)
                      | (go_at_call 107; with_reducible refine (hRk4 _).mono ?_; rintro e w' ⟨rfl, rfl⟩))
                    go_roundg j
                    case rel => exact Lib.hid ⟨s4, by rw [Hrn4.out], HH.out s4 _ Hlp9.out Hev4.out HPz.out Hbz.out⟩
                    all_goals exact Nat.lt_succ_self _
                  · rw [if_neg (fun h => h33 h.2)] at hlp9
                    have hb3 : (rk == 3) = true := by simp [h3]
                    have hb33 : (rk3 == 3) = false := by simp [h33]
                    have Hlp9 := Lib.hid hlp9
                    clear h3 h33 hlp9
                    go_wp2_with (first
                      | (go_at_call 18; refine hNa.mono ?_; rintro e w10 ⟨rfl, hb10⟩; have hNb := hN3 w10 (HP9.out.keep hb10); have Hb10 := Lib.hid hb10; clear hb10 hNa)
                      | (go_at_call 18; refine hNb.mono ?_; rintro e w11 ⟨rfl, hb11⟩; have HPz := Lib.hid ((HP9.out.keep Hb10.out).keep hb11); have Hbz := Lib.hid ((But.of_below (g := g) Hb10.out).trans (But.of_below hb11)); clear hb11 hNb)
                      | (go_at_call 107; with_reducible refine (hRk3 _).mono ?_; rintro e w' ⟨rfl, rfl⟩))
                    go_roundg j
                    case rel => exact Lib.hid ⟨s3, by rw [Hrn3.out, Hrk3.out], HH.out s3 _ Hlp9.out (Even.refl s3) HPz.out Hbz.out⟩
                    all_goals exact Nat.lt_succ_self _
                · rw [if_neg (fun h => h3 h.1)] at hlp9
                  have hb3 : (rk == 3) = false := by simp [h3]
                  have Hlp9 := Lib.hid hlp9
                  clear h3 hlp9
                  go_wp2_with (first
                    | (go_at_call 18; refine hNa.mono ?_; rintro e w10 ⟨rfl, hb10⟩; have HPz := Lib.hid (HP9.out.keep hb10); have Hbz := Lib.hid (But.of_below (g := g) hb10); clear hb10 hNa)
                    | (go_at_call 107; with_reducible refine (hRk3 _).mono ?_; rintro e w' ⟨rfl, rfl⟩))
                  go_roundg j
                  case rel => exact Lib.hid ⟨s3, by rw [Hrn3.out, Hrk3.out], HH.out s3 _ Hlp9.out (Even.refl s3) HPz.out Hbz.out⟩
                  all_goals exact Nat.lt_succ_self _
end Go.Proofs.YtiadbeglhnocoaaGreatDoor
