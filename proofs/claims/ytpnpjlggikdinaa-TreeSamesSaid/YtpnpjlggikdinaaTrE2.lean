/-
  The law's expr, where the list is not empty.
-/
import Derived.Test.YtpnpjlggikdinaaTrE1
import Derived.Deep.DeepCutAuto
namespace Go.Proofs.Ytpnpjlggikdinaa
open Go.RowKit

set_option maxRecDepth 100000 in
set_option maxHeartbeats 8000000 in
theorem expr_cons (N d : Nat) (hd : d ≤ 5) (x : EE) (r : List EE) (A : Option Addr) (cap : Nat) (hl : r.length + 1 ≤ cap) (hc : cap ≤ maxLen) (hsm : SmallL (x :: r)) (w : World) (hN : N ≤ w.heap.size) (h : RdL w N A (x :: r))
    (IH : 0 < d → ExprAt N (d - 1)) :
    Calls Try.prog 11 #[.slice A (r.length + 1) cap, .int .i64 d] w (ExprPost w N (exprT d (x :: r))) := by
  have hxs : x.s.size ≤ maxLen := hsm x (List.mem_cons_self ..)
  have hsr := Lib.hid hsm.tail
  unfold maxLen at hc hxs
  obtain ⟨A1, hcut, hR1, hl1⟩ := h.cut_run (cap := cap) hl 1 (by simp)
  rw [List.length_cons] at hcut
  have hcut2 : ∀ W, (Instr.slice 22 (.slice A (r.length + 1) cap) (some (.int .i64 1)) none none).run Try.prog W = .ok (.slice A1 r.length (cap - 1)) W := hcut
  clear hcut
  have hR1' : RdL w N A1 r := hR1
  have hl1' : r.length ≤ cap - 1 := hl1
  clear hR1 hl1
  obtain ⟨g, o, rfl, hg, hx⟩ := h (by simp)
  obtain ⟨x0, x1, x2, x3, x4⟩ := hx 0 x rfl
  simp only [Nat.zero_mul, Nat.add_zero] at x0 x1 x2 x3 x4
  have hgw : g < w.heap.size := Nat.lt_of_lt_of_le hg hN
  obtain ⟨M, hM⟩ : ∃ M : Nat, bits .and .i64 x.many 3 = (M : Int) := ⟨(x.many % 4).toNat, by rw [and3]; omega⟩
  have HM : Hid (M = (x.many % 4).toNat) := Lib.hid (by rw [and3] at hM; omega)
  have hM3 : M ≤ 3 := by rw [and3] at hM; omega
  obtain ⟨p, hp⟩ : ∃ p : Nat, min (x.s.size : Int) 20 = (p : Int) := ⟨min x.s.size 20, by omega⟩
  have hps : p ≤ x.s.size := by omega
  have HC := Lib.hid (cut20_min x.s p hp)
  obtain ⟨i0, hi, hz0, hz1, hz2⟩ := info_parts infoEx
  have Hi := Lib.hid hi
  have Hz0 := Lib.hid hz0
  have Hz1 := Lib.hid hz1
  have Hz2 := Lib.hid hz2
  have HR1 := Lib.hid hR1'
  have HN := Lib.hid hN
  have HI := Lib.hid IH
  clear hi hz0 hz1 hz2 hx h hR1' hsm hN IH
  go_enter Try.func11, Try.ntmps11
  go_upto_region 3 with fail
  go_cut [6, 7] (fun s6 s7 wx => s6 = .pointer (some ⟨w.heap.size + 1, 0, none⟩) ∧ s7 = .slice A1 r.length (cap - 1) ∧ wx = ((w.alloc (.cells #[.int .i64 0, .int .i64 0, .int .i64 0, .int .i64 0, .int .i64 0, .string ⟨#[]⟩, .slice none 0 0] 40)).alloc (.cells #[.int .i64 x.kind, .int .i64 x.op, .int .i64 x.n, .string x.s, .int .i64 x.many] 44)).drew)
  case first =>
    go_region
    all_goals (go_wp2_with fail; go_meet; exact ⟨rfl, rfl, rfl⟩)
  case rest =>
  obtain ⟨rfl, rfl, rfl⟩ := hcut
  clear hcut2
  go_upto_region 4 with fail
  go_cut [8] (fun s8 wx => s8 = .pointer (some ⟨w.heap.size + 1 + 1, 0, none⟩) ∧ wx = (((w.alloc (.cells #[.int .i64 0, .int .i64 0, .int .i64 0, .int .i64 0, .int .i64 0, .string ⟨#[]⟩, .slice none 0 0] 40)).alloc (.cells #[.int .i64 x.kind, .int .i64 x.op, .int .i64 x.n, .string x.s, .int .i64 x.many] 44)).drew.alloc (.cells #[.int .i64 x.kind, .int .i64 0, .int .i64 0, .int .i64 x.op, .int .i64 x.n, .string (x.s.extract 0 p), .slice none 0 0] 40)).drew)
  case first =>
    go_region
    all_goals (go_wp2_with fail; go_meet; exact ⟨rfl, rfl⟩)
  case rest =>
  obtain ⟨rfl, rfl⟩ := hcut
  go_wp2
  obtain ⟨W, hW⟩ : ∃ W, W = (((w.alloc (.cells #[.int .i64 0, .int .i64 0, .int .i64 0, .int .i64 0, .int .i64 0, .string ⟨#[]⟩, .slice none 0 0] 40)).alloc (.cells #[.int .i64 x.kind, .int .i64 x.op, .int .i64 x.n, .string x.s, .int .i64 x.many] 44)).drew.alloc (.cells #[.int .i64 x.kind, .int .i64 0, .int .i64 0, .int .i64 x.op, .int .i64 x.n, .string (x.s.extract 0 p), .slice none 0 0] 40)).drew := ⟨_, rfl⟩
  rw [← hW]
  have hZ : W.heap[w.heap.size]? = some (.cells #[.int .i64 0, .int .i64 0, .int .i64 0, .int .i64 0, .int .i64 0, .string ⟨#[]⟩, .slice none 0 0] 40 (0, 0)) := by
    rw [hW]
    exact (Below.heap_alloc _ _ _ (by simp; omega)).trans ((Below.heap_alloc _ _ _ (by simp)).trans (heap_alloc_new w _))
  have hX : W.heap[w.heap.size + 1]? = some (.cells #[.int .i64 x.kind, .int .i64 x.op, .int .i64 x.n, .string x.s, .int .i64 x.many] 44 (0, 0)) := by
    rw [hW]
    refine (Below.heap_alloc _ _ _ (by simp)).trans ?_
    have h1 := heap_alloc_new (w.alloc (.cells #[.int .i64 0, .int .i64 0, .int .i64 0, .int .i64 0, .int .i64 0, .string ⟨#[]⟩, .slice none 0 0] 40)) (.cells #[.int .i64 x.kind, .int .i64 x.op, .int .i64 x.n, .string x.s, .int .i64 x.many] 44)
    rw [show (w.alloc (.cells #[.int .i64 0, .int .i64 0, .int .i64 0, .int .i64 0, .int .i64 0, .string ⟨#[]⟩, .slice none 0 0] 40)).heap.size = w.heap.size + 1 by simp] at h1
    exact h1
  have hEb : W.heap[w.heap.size + 1 + 1]? = some (.cells #[.int .i64 x.kind, .int .i64 0, .int .i64 0, .int .i64 x.op, .int .i64 x.n, .string (x.s.extract 0 p), .slice none 0 0] 40 (0, 0)) := by
    rw [hW]
    have h1 := heap_alloc_new ((w.alloc (.cells #[.int .i64 0, .int .i64 0, .int .i64 0, .int .i64 0, .int .i64 0, .string ⟨#[]⟩, .slice none 0 0] 40)).alloc (.cells #[.int .i64 x.kind, .int .i64 x.op, .int .i64 x.n, .string x.s, .int .i64 x.many] 44)).drew (.cells #[.int .i64 x.kind, .int .i64 0, .int .i64 0, .int .i64 x.op, .int .i64 x.n, .string (x.s.extract 0 p), .slice none 0 0] 40)
    rw [show ((w.alloc (.cells #[.int .i64 0, .int .i64 0, .int .i64 0, .int .i64 0, .int .i64 0, .string ⟨#[]⟩, .slice none 0 0] 40)).alloc (.cells #[.int .i64 x.kind, .int .i64 x.op, .int .i64 x.n, .string x.s, .int .i64 x.many] 44)).drew.heap.size = w.heap.size + 1 + 1 by simp] at h1
    exact h1
  have hbW : Below w.heap.size w W := by
    rw [hW]; exact (((((Below.refl _ _).alloc (Nat.le_refl _) _).alloc (by simp) _).drew).alloc (by simp; omega) _).drew
  have hzW : w.heap.size + 1 + 1 < W.heap.size := by rw [hW]; simp
  clear hW
  rw [HC.out] at hEb
  obtain ⟨ct, hct⟩ : ∃ ct, ct = cut20 x.s := ⟨_, rfl⟩
  rw [← hct] at hEb
  replace hZ := Lib.hid hZ
  replace hX := Lib.hid hX
  replace hEb := Lib.hid hEb
  have hRW := Lib.hid (HR1.out.keep (hbW.mono HN.out))
  have Hct := Lib.hid hct
  clear hct HC x0 x1 x2 x3 x4 hp hps HR1
  have hT := Lib.hid (exprT_eq d x r M HM.out)
  go_loopw [7, 9] (fun v u wr => ∃ (i : Nat) (ks : List Ex) (xs : List Value) (rl : List EE) (A : Option Addr) (c2 : Nat) (V : Value), i ≤ M ∧ u = .int .i64 i ∧ v = .slice A rl.length c2 ∧ rl.length ≤ c2 ∧ c2 ≤ 9223372036854775807 ∧ Hid (RdL wr N A rl) ∧ Hid (SmallL rl) ∧ Hid (ks.length = i) ∧ i ≤ kidsM d M ∧ Hid ((ks ++ (kidsT (exprT (d - 1)) (kidsM d M - i) rl).1, (kidsT (exprT (d - 1)) (kidsM d M - i) rl).2) = kidsT (exprT (d - 1)) (kidsM d M) r) ∧ Hid (Kids 40 wr (w.heap.size + 3) V xs ks) ∧
    Hid (wr.heap[w.heap.size]? = some (.cells #[.int .i64 0, .int .i64 0, .int .i64 0, .int .i64 0, .int .i64 0, .string ⟨#[]⟩, .slice none 0 0] 40 (0, 0))) ∧ Hid (wr.heap[w.heap.size + 1]? = some (.cells #[.int .i64 x.kind, .int .i64 x.op, .int .i64 x.n, .string x.s, .int .i64 x.many] 44 (0, 0))) ∧ Hid (wr.heap[w.heap.size + 1 + 1]? = some (.cells #[.int .i64 x.kind, .int .i64 0, .int .i64 0, .int .i64 x.op, .int .i64 x.n, .string ct, V] 40 (0, 0))) ∧ Hid (Below w.heap.size w wr) ∧ w.heap.size + 1 + 1 < wr.heap.size) (fun _ u _ => M - (intOf u).toNat)
  case atStart => exact ⟨0, [], [], r, _, _, _, Nat.zero_le _, rfl, rfl, by omega, by omega, hRW, hsr, rfl, Nat.zero_le _, rfl, Kids.none_ _ _ _, hZ, hX, hEb, hbW, hzW⟩
  case round =>
    obtain ⟨i, ks, xs, rl, A, c2, V, hi, rfl, rfl, hlc, hc2, hR, hys, hks, hiM, hK, hKids, hZ', hX', hE', hb, hz⟩ := hrel
    have y4 : wr.cell? ⟨w.heap.size + 1, 4, none⟩ = some (.int .i64 x.many) := by rw [Lib.cell_of_heap hX'.out]; rfl
    by_cases hgo : i < kidsM d M
    · have hd0 : 0 < d := by
        unfold kidsM at hgo
        split at hgo <;> omega
      have hiM' : i < M := by
        unfold kidsM at hgo
        split at hgo <;> omega
      have Hih := HI.out hd0 rl A c2 wr hR.out hlc (by unfold maxLen; omega) (Nat.le_trans HN.out hb.out.size) hys.out
      have hdc : ((d - 1 : Nat) : Int) = (d : Int) - 1 := by omega
      rw [hdc] at Hih
      have Hgo := Lib.hid hgo
      clear hdc hgo
      go_wp2_with (go_at_call 11; refine (Hih).mono ?_)
      rintro e w1 ⟨k, a, t, q, n, s, A', c1, m, A2, c3, rfl, he, hl2, hlc2, hc3, hb1⟩
      have hz1 : wr.heap.size ≤ w1.heap.size := hb1.size
      have hE1 := (hb1.block (w.heap.size + 1 + 1) hz).trans hE'.out
      have e6 : w1.cell? ⟨w.heap.size + 1 + 1, 6, none⟩ = some V := by rw [Lib.cell_of_heap hE1]; rfl
      have hlt1 : w.heap.size + 1 + 1 < w1.heap.size := by omega
      have HE1 := Lib.hid hE1
      have He := Lib.hid he
      have Hl2 := Lib.hid hl2
      have Hb1 := Lib.hid hb1
      have hKm : Below wr.heap.size wr ((w1.alloc (.cells #[.int .i64 k, .int .i64 a, .int .i64 t, .int .i64 q, .int .i64 n, .string s, .slice A' m c1] 40)).alloc (.cells #[.int .i64 k, .int .i64 a, .int .i64 t, .int .i64 q, .int .i64 n, .string s, .slice A' m c1] 40)) := (hb1.alloc hz1 _).alloc (by simp; omega) _
      have HK2 := Lib.hid (hKids.out.keep hKm)
      have HKm := Lib.hid hKm
      have hks3 : ks.length ≤ 3 := by have := hks.out; omega
      have hnb := heap_alloc_new (w1.alloc (.cells #[.int .i64 k, .int .i64 a, .int .i64 t, .int .i64 q, .int .i64 n, .string s, .slice A' m c1] 40)) (.cells #[.int .i64 k, .int .i64 a, .int .i64 t, .int .i64 q, .int .i64 n, .string s, .slice A' m c1] 40)
      rw [show (w1.alloc (.cells #[.int .i64 k, .int .i64 a, .int .i64 t, .int .i64 q, .int .i64 n, .string s, .slice A' m c1] 40)).heap.size = w1.heap.size + 1 by simp] at hnb
      have HN2 := Lib.hid (World.news_of_block hnb)
      have HO : Hid (∀ u ∈ ([.int .i64 k, .int .i64 a, .int .i64 t, .int .i64 q, .int .i64 n, .string s, .slice A' m c1] : List Value), u.oneCell' = true) := Lib.hid (by intro u hu; simp only [List.mem_cons, List.not_mem_nil, or_false] at hu; rcases hu with rfl | rfl | rfl | rfl | rfl | rfl | rfl <;> rfl)
      have hsz2 : w.heap.size + 3 ≤ ((w1.alloc (.cells #[.int .i64 k, .int .i64 a, .int .i64 t, .int .i64 q, .int .i64 n, .string s, .slice A' m c1] 40)).alloc (.cells #[.int .i64 k, .int .i64 a, .int .i64 t, .int .i64 q, .int .i64 n, .string s, .slice A' m c1] 40)).heap.size := by simp; omega
      clear hE1 he hl2 hb1 hKm Hih y4 hnb
      go_wp2_with (at_builtin; refine wpList_append_lies _ rfl (.tmp 55) (.tmp 57) 36 rfl (w.heap.size + 3) 40 i0 (.agg #[.int .i64 0, .int .i64 0, .int .i64 0, .int .i64 0, .int .i64 0, .string ⟨#[]⟩, .slice none 0 0]) 7 80 Try.underlying36 Hi.out Hz0.out Hz1.out Hz2.out rfl (by decide) V ks.length xs rfl HK2.out.1 ⟨w1.heap.size + 1, 0, none⟩ 1 1 [.int .i64 k, .int .i64 a, .int .i64 t, .int .i64 q, .int .i64 n, .string s, .slice A' m c1] rfl rfl HN2.out HO.out (by decide) (by unfold maxLen; omega) (by omega) hsz2 _ rfl ?_)
      intro gn cn w2 hown hgrow hat hlt
      have old : ∀ b o, b < w.heap.size + 3 → wr.heap[b]? = some o → w2.heap[b]? = some o := fun b o hb3 hh =>
        (hgrow.block b (Nat.lt_of_lt_of_le (by omega) HKm.out.size) (own_ne HK2.out.1 hb3)).trans ((HKm.out.block b (by omega)).trans hh)
      have hZ2 := Lib.hid (old _ _ (by omega) hZ'.out)
      have hX2 := Lib.hid (old _ _ (by omega) hX'.out)
      have hE2 := old _ _ (by omega) hE'.out
      have e7 : w2.cell? ⟨w.heap.size + 1 + 1, 6, none⟩ = some V := by rw [Lib.cell_of_heap hE2]; rfl
      have f7 : w2.frozen? ⟨w.heap.size + 1 + 1, 6, none⟩ = false := Lib.frozen_of_heap hE2 6
      have HE2 := Lib.hid (heap_set hE2 6 (.slice (some ⟨gn, 0, none⟩) (ks.length + 1) cn))
      have hbm : Below w.heap.size w2 (w2.setCell ⟨w.heap.size + 1 + 1, 6, none⟩ (.slice (some ⟨gn, 0, none⟩) (ks.length + 1) cn)) := (Below.refl _ _).setCell (by simp; omega) _
      have hb2 := ((hb.out.trans (HKm.out.mono (by omega))).grown hgrow (by simp; omega) (fun k hk => by have := (HK2.out.1.lt k hk).1; omega)).trans hbm
      have HB2 := Lib.hid hb2
      have hvr : ∀ k, V.ownBlock = some k → k < wr.heap.size := fun k hk => (hKids.out.1.lt k hk).2
      have HS := Lib.hid ((HK2.out.snoc (lo := wr.heap.size) (He.out.up ((((Below.refl _ _).alloc (Nat.le_refl _) _).alloc (by simp) _))) (by omega) hvr hown hgrow (by
        rcases hat with h1 | h1
        · exact Or.inl h1.symm
        · exact Or.inr ⟨gn, rfl, by simp; omega⟩)).set (p := ⟨w.heap.size + 1 + 1, 6, none⟩) (by simp) (.slice (some ⟨gn, 0, none⟩) (ks.length + 1) cn))
      have hw13 : Below w.heap.size w1 (w2.setCell ⟨w.heap.size + 1 + 1, 6, none⟩ (.slice (some ⟨gn, 0, none⟩) (ks.length + 1) cn)) := ((((Below.refl w.heap.size w1).alloc (by omega) _).alloc (by simp; omega) _).grown hgrow (by simp; omega) (fun k hk => by have := (HK2.out.1.lt k hk).1; omega)).setCell (by simp; omega) _
      have hRd := Lib.hid (Hl2.out.keep (hw13.mono HN.out))
      have hzz : w.heap.size + 1 + 1 < w2.heap.size := by
        have := hgrow.size
        simp at this
        omega
      clear old hE2 hbm hb2 hvr hat hown hgrow hw13
      have hkid : kidsM d M - i = kidsM d M - (i + 1) + 1 := by have := Hgo.out; omega
      have hK2 : Hid (((ks ++ [(exprT (d - 1) rl).1]) ++ (kidsT (exprT (d - 1)) (kidsM d M - (i + 1)) (exprT (d - 1) rl).2).1, (kidsT (exprT (d - 1)) (kidsM d M - (i + 1)) (exprT (d - 1) rl).2).2) = kidsT (exprT (d - 1)) (kidsM d M) r) := by
        refine Lib.hid (kidsT_snoc _ _ _ _ _ ?_)
        have := hK.out
        rw [hkid] at this
        exact this
      have hsub : Hid (SmallL (exprT (d - 1) rl).2) := Lib.hid (fun y hy => hys.out y (exprT_sub _ _ y hy))
      have hlen2 : Hid ((ks ++ [(exprT (d - 1) rl).1]).length = i + 1) := Lib.hid (by have := hks.out; simp; omega)
      have hiM2 : i + 1 ≤ kidsM d M := Hgo.out
      clear hkid
      go_wp2
      go_roundw
      case rel => exact ⟨i + 1, ks ++ [(exprT (d - 1) rl).1], _, (exprT (d - 1) rl).2, A2, c3, _, by omega, by go_num, rfl, hlc2, by unfold maxLen at hc3; omega, hRd, hsub, hlen2, hiM2, hK2, HS, Lib.hid (((Below.heap_setCell _ _ _ _ (by simp; omega))).trans hZ2.out), Lib.hid (((Below.heap_setCell _ _ _ _ (by simp))).trans hX2.out), HE2, HB2, by simp; omega⟩
      case measure => simp [intOf]; omega
    · have hie : i = kidsM d M := by omega
      obtain ⟨Av, cv, rfl⟩ := own_form hKids.out.1
      have Z0 := fun j => Lib.cell_of_heap hZ'.out j
      have zf : ∀ j, wr.frozen? ⟨w.heap.size, j, none⟩ = false := fun j => Lib.frozen_of_heap hZ'.out j
      have z0 := Z0 0
      have z1 := Z0 1
      have z2 := Z0 2
      have z3 := Z0 3
      have z4 := Z0 4
      have z5 := Z0 5
      have z6 := Z0 6
      simp at z0 z1 z2 z3 z4 z5 z6
      have E0 := fun j => Lib.cell_of_heap hE'.out j
      have e0 := E0 0
      have e1 := E0 1
      have e2 := E0 2
      have e3 := E0 3
      have e4 := E0 4
      have e5 := E0 5
      have e6 := E0 6
      simp at e0 e1 e2 e3 e4 e5 e6
      clear Z0 E0
      have hcond : (decide ((i : Int) < (M : Int)) && decide ((0 : Int) < (d : Int))) = false := by
        unfold kidsM at hie
        split at hie
        · subst hie; simp; omega
        · subst hie; simp
      have hend := expr_end Hct.out hT.out hlc hc2 hR.out hie hK.out hKids.out hb.out hz HN.out
      have hF := put7_heap hZ'.out (.int .i64 x.kind) (.int .i64 0) (.int .i64 0) (.int .i64 x.op) (.int .i64 x.n) (.string ct) (.slice Av ks.length cv)
      have Hend := Lib.hid hend
      have HF := Lib.hid hF
      clear hend hF
      by_cases hd1 : i < M
      · have hd2 : d = 0 := by
          unfold kidsM at hie
          split at hie <;> omega
        clear hcond hie hgo
        subst hd2
        go_wp2
        obtain ⟨Wf, hWf⟩ : ∃ Wf, Wf = put7 wr w.heap.size (.int .i64 x.kind) (.int .i64 0) (.int .i64 0) (.int .i64 x.op) (.int .i64 x.n) (.string ct) (.slice Av ks.length cv) := ⟨_, rfl⟩
        show bodyPost _ _ _ _ _ (put7 wr w.heap.size (.int .i64 x.kind) (.int .i64 0) (.int .i64 0) (.int .i64 x.op) (.int .i64 x.n) (.string ct) (.slice Av ks.length cv))
        have hend := Hend.out
        have hF := HF.out
        rw [← hWf] at hend hF ⊢
        clear hWf
        have F0 := fun j => Lib.cell_of_heap hF j
        have f0 := F0 0
        have f1 := F0 1
        have f2 := F0 2
        have f3 := F0 3
        have f4 := F0 4
        have f5 := F0 5
        have f6 := F0 6
        simp at f0 f1 f2 f3 f4 f5 f6
        clear F0
        refine bodyPost_ret (v := .tuple #[.agg #[.int .i64 x.kind, .int .i64 0, .int .i64 0, .int .i64 x.op, .int .i64 x.n, .string ct, .slice Av ks.length cv], .slice A rl.length c2]) (by simp [results, Try.results11, go_sem, f0, f1, f2, f3, f4, f5, f6]) rfl hend
      · clear hcond hgo hie
        go_wp2
        obtain ⟨Wf, hWf⟩ : ∃ Wf, Wf = put7 wr w.heap.size (.int .i64 x.kind) (.int .i64 0) (.int .i64 0) (.int .i64 x.op) (.int .i64 x.n) (.string ct) (.slice Av ks.length cv) := ⟨_, rfl⟩
        show bodyPost _ _ _ _ _ (put7 wr w.heap.size (.int .i64 x.kind) (.int .i64 0) (.int .i64 0) (.int .i64 x.op) (.int .i64 x.n) (.string ct) (.slice Av ks.length cv))
        have hend := Hend.out
        have hF := HF.out
        rw [← hWf] at hend hF ⊢
        clear hWf
        have F0 := fun j => Lib.cell_of_heap hF j
        have f0 := F0 0
        have f1 := F0 1
        have f2 := F0 2
        have f3 := F0 3
        have f4 := F0 4
        have f5 := F0 5
        have f6 := F0 6
        simp at f0 f1 f2 f3 f4 f5 f6
        clear F0
        refine bodyPost_ret (v := .tuple #[.agg #[.int .i64 x.kind, .int .i64 0, .int .i64 0, .int .i64 x.op, .int .i64 x.n, .string ct, .slice Av ks.length cv], .slice A rl.length c2]) (by simp [results, Try.results11, go_sem, f0, f1, f2, f3, f4, f5, f6]) rfl hend
end Go.Proofs.Ytpnpjlggikdinaa
