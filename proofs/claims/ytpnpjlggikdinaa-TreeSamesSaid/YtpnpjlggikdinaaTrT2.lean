/-
  The law's stmts: the statements of a list.
-/
import Derived.Test.YtpnpjlggikdinaaTrT1
import Derived.Deep.DeepCutAuto
namespace Go.Proofs.Ytpnpjlggikdinaa
open Go.RowKit

set_option maxRecDepth 100000 in
set_option maxHeartbeats 8000000 in
theorem stmts_walk (N d : Nat) (hd : d ≤ 5) (l : List EE) (A : Option Addr) (cap : Nat) (hl : l.length ≤ cap) (hc : cap ≤ maxLen) (hsm : SmallL l) (w : World) (hN : N ≤ w.heap.size) (h : RdL w N A l)
    (IH : ∀ d', d = d' + 1 → StmtsAt N d') :
    Calls Try.prog 7 #[.slice A l.length cap, .int .i64 d] w (StmtsPost w (stmtsT d l)) := by
  unfold maxLen at hc
  obtain ⟨n, hn⟩ : ∃ n, n = l.length := ⟨_, rfl⟩
  have Hn := Lib.hid hn
  rw [← hn] at hl ⊢
  have HN := Lib.hid hN
  have HI := Lib.hid IH
  have HR := Lib.hid h
  have HS := Lib.hid hsm
  obtain ⟨i0, hi, hz0, hz1, hz2⟩ := info_parts infoSt
  have Hi := Lib.hid hi
  have Hz0 := Lib.hid hz0
  have Hz1 := Lib.hid hz1
  have Hz2 := Lib.hid hz2
  obtain ⟨j0, ji, jz0, jz1, jz2⟩ := info_parts infoEx
  have Ji := Lib.hid ji
  have Jz0 := Lib.hid jz0
  have Jz1 := Lib.hid jz1
  have Jz2 := Lib.hid jz2
  clear hn hN IH h hsm hi hz0 hz1 hz2 ji jz0 jz1 jz2
  go_enter Try.func7, Try.ntmps7
  go_wp2
  go_loopg [5, 6] n (fun gk V u wr => ∃ (i : Nat) (ss : List St) (xs : List Value), gk = n - i ∧ i ≤ n ∧ i ≤ 12 ∧ u = .int .i64 i ∧ Hid (ss.length = i) ∧ Hid (ss ++ stmtsK (subT d) d (12 - i) (l.drop i) = stmtsT d l) ∧ Hid (Stms 38 40 wr w.heap.size V xs ss) ∧ Hid (Below w.heap.size w wr))
  case atStart =>
    refine ⟨0, [], [], rfl, Nat.zero_le _, by omega, rfl, Lib.hid rfl, Lib.hid ?_, Lib.hid (Stms.none_ (heap_alloc_new w _) (Nat.le_refl _)), Lib.hid ((Below.refl _ _).alloc (Nat.le_refl _) _)⟩
    rw [stmtsT_eq]
    rfl
  case round =>
    obtain ⟨i, ss, xs, rfl, hin, hi12, rfl, hss, hK, hSt, hb⟩ := hrel
    by_cases hgo : i < n ∧ i < 12
    · obtain ⟨hlt, hlt12⟩ := hgo
      have hil : i < l.length := by have := Hn.out; omega
      obtain ⟨g, o, hA, hg, hx⟩ := HR.out (by omega)
      obtain ⟨x, hxe⟩ : ∃ x, l[i]? = some x := ⟨_, List.getElem?_eq_getElem hil⟩
      obtain ⟨x0, x1, x2, x3, x4⟩ := hx i x hxe
      have hxs : x.s.size ≤ maxLen := HS.out x (List.mem_of_getElem? hxe)
      unfold maxLen at hxs
      subst hA
      have hgr : g < wr.heap.size := Nat.lt_of_lt_of_le hg (Nat.le_trans HN.out hb.out.size)
      have cc1 : ∀ j v, w.cell? ⟨g, j, none⟩ = some v → wr.cell? ⟨g, j, none⟩ = some v := fun j v e => (hb.out.cell (p := ⟨g, j, none⟩) (Nat.lt_of_lt_of_le hg HN.out)).trans e
      replace x0 := cc1 _ _ x0
      replace x1 := cc1 _ _ x1
      replace x2 := cc1 _ _ x2
      replace x3 := cc1 _ _ x3
      replace x4 := cc1 _ _ x4
      obtain ⟨p, hp⟩ : ∃ p : Nat, min (x.s.size : Int) 20 = (p : Int) := ⟨min x.s.size 20, by omega⟩
      have hps : p ≤ x.s.size := by omega
      have HC := Lib.hid (cut20_min x.s p hp)
      have Hxe := Lib.hid hxe
      obtain ⟨wo, hwo⟩ : ∃ wo : World, wo = wr := ⟨_, rfl⟩
      subst hwo
      clear cc1 hx hxe hil
      go_upto_region 6 with fail
      go_cut [7, 8] (fun s7 s8 wx => s7 = .pointer (some ⟨wo.heap.size, 0, none⟩) ∧ s8 = .pointer (some ⟨wo.heap.size + 1, 0, none⟩) ∧ wx = ((wo.alloc (.cells #[.int .i64 x.kind, .int .i64 x.op, .int .i64 x.n, .string x.s, .int .i64 x.many] 44)).alloc (.cells #[.int .i64 x.kind, .int .i64 0, .int .i64 0, .string (x.s.extract 0 p), .int .i64 x.n, .slice none 0 0, .slice none 0 0, .slice none 0 0] 38)).drew)
      case first =>
        go_region
        all_goals (go_wp2_with fail; go_meet; exact ⟨rfl, rfl, rfl⟩)
      case rest =>
      obtain ⟨rfl, rfl, rfl⟩ := hcut
      go_wp2
      obtain ⟨W, hW, hbW, hzW, hX, hS⟩ := two_drew wo #[.int .i64 x.kind, .int .i64 x.op, .int .i64 x.n, .string x.s, .int .i64 x.many] #[.int .i64 x.kind, .int .i64 0, .int .i64 0, .string (x.s.extract 0 p), .int .i64 x.n, .slice none 0 0, .slice none 0 0, .slice none 0 0] 44 38
      rw [← hW]
      clear hW x0 x1 x2 x3 x4
      rw [HC.out] at hS
      obtain ⟨ct, hct⟩ : ∃ ct, ct = cut20 x.s := ⟨_, rfl⟩
      rw [← hct] at hS
      have Hct := Lib.hid hct
      replace hbW := Lib.hid hbW
      replace hX := Lib.hid hX
      replace hS := Lib.hid hS
      obtain ⟨M, hM⟩ : ∃ M : Nat, bits .and .i64 x.many 1 = (M : Int) := ⟨(x.many % 2).toNat, by rw [and1]; omega⟩
      have HM : Hid (M = (x.many % 2).toNat) := Lib.hid (by rw [and1] at hM; omega)
      have hM1 : M ≤ 1 := by rw [and1] at hM; omega
      clear hct hp hps HC
      obtain ⟨A1, hcut, hR1, hl1⟩ := HR.out.cut_run (cap := cap) (by rw [← Hn.out]; exact hl) i (by rw [← Hn.out]; exact hin)
      rw [← Hn.out] at hcut
      have HR1 := Lib.hid hR1
      have HS1 := Lib.hid (HS.out.drop i)
      obtain ⟨ex, hex⟩ : ∃ ex, ex = exprT 2 (l.drop i) := ⟨_, rfl⟩
      have Hex := Lib.hid hex
      have HE := expr_at N 2 (by omega) (l.drop i) A1 (cap - i)
      rw [← hex] at HE
      clear hR1 hex
      obtain ⟨l1, hl1e⟩ : ∃ l1, l1 = (l.drop i).length := ⟨_, rfl⟩
      rw [← hl1e] at hcut hl1 HE
      have HEh := Lib.hid HE
      clear HE hl1e
      go_loopg [9] (M + 1) (fun ik v wk => ∃ (k : Nat) (kxs : List Value) (KV : Value), ik = M + 1 - k ∧ k ≤ M + 1 ∧ v = .int .i64 k ∧ Hid (Kids 40 wk (wo.heap.size + 2) KV kxs (List.replicate k ex.1)) ∧ Hid (wk.heap[wo.heap.size]? = some (.cells #[.int .i64 x.kind, .int .i64 x.op, .int .i64 x.n, .string x.s, .int .i64 x.many] 44 (0, 0))) ∧ Hid (wk.heap[wo.heap.size + 1]? = some (.cells #[.int .i64 x.kind, .int .i64 0, .int .i64 0, .string ct, .int .i64 x.n, KV, .slice none 0 0, .slice none 0 0] 38 (0, 0))) ∧ Hid (Below wo.heap.size wo wk) ∧ wo.heap.size + 1 < wk.heap.size)
      case atStart => exact ⟨0, [], _, rfl, Nat.zero_le _, rfl, Lib.hid (Kids.none_ _ _ _), hX, hS, hbW, hzW⟩
      case round =>
        obtain ⟨k, kxs, KV, rfl, hk, rfl, hKids, hX', hS', hbk, hzk⟩ := hrel
        have y4 : wr.cell? ⟨wo.heap.size, 4, none⟩ = some (.int .i64 x.many) := by rw [Lib.cell_of_heap hX'.out]; rfl
        by_cases hkm : k < M + 1
        · have hbw : Below w.heap.size w wr := hb.out.trans (hbk.out.mono hb.out.size)
          have Hih := HEh.out wr (HR1.out.keep (hbw.mono HN.out)) hl1 (by unfold maxLen; omega) (Nat.le_trans HN.out hbw.size) HS1.out
          have Hih2 : Calls Try.prog 11 #[.slice A1 l1 (cap - i), .int .i64 2] wr (ExprPost wr N ex) := Hih
          clear Hih hbw
          go_wp2_with (go_at_call 11; refine (Hih2).mono ?_)
          rintro e w1 ⟨k', a, t, q, n', s, A', c1, m, A2, c3, rfl, he, hl2, hlc2, hc3, hb1⟩
          have hz1 : wr.heap.size ≤ w1.heap.size := hb1.size
          have hE1 := (hb1.block (wo.heap.size + 1) hzk).trans hS'.out
          have e5 : w1.cell? ⟨wo.heap.size + 1, 5, none⟩ = some KV := by rw [Lib.cell_of_heap hE1]; rfl
          have hlt1 : wo.heap.size + 1 < w1.heap.size := by omega
          have He := Lib.hid he
          have hKm : Below wr.heap.size wr ((w1.alloc (.cells #[.int .i64 k', .int .i64 a, .int .i64 t, .int .i64 q, .int .i64 n', .string s, .slice A' m c1] 40)).alloc (.cells #[.int .i64 k', .int .i64 a, .int .i64 t, .int .i64 q, .int .i64 n', .string s, .slice A' m c1] 40)) := (hb1.alloc hz1 _).alloc (by simp; omega) _
          have HK2 := Lib.hid (hKids.out.keep hKm)
          have HKm := Lib.hid hKm
          have hks3 : (List.replicate k ex.1).length ≤ 2 := by rw [List.length_replicate]; omega
          have hnb := heap_alloc_new (w1.alloc (.cells #[.int .i64 k', .int .i64 a, .int .i64 t, .int .i64 q, .int .i64 n', .string s, .slice A' m c1] 40)) (.cells #[.int .i64 k', .int .i64 a, .int .i64 t, .int .i64 q, .int .i64 n', .string s, .slice A' m c1] 40)
          rw [show (w1.alloc (.cells #[.int .i64 k', .int .i64 a, .int .i64 t, .int .i64 q, .int .i64 n', .string s, .slice A' m c1] 40)).heap.size = w1.heap.size + 1 by simp] at hnb
          have HN2 := Lib.hid (World.news_of_block hnb)
          have HO : Hid (∀ u ∈ ([.int .i64 k', .int .i64 a, .int .i64 t, .int .i64 q, .int .i64 n', .string s, .slice A' m c1] : List Value), u.oneCell' = true) := Lib.hid (by intro u hu; simp only [List.mem_cons, List.not_mem_nil, or_false] at hu; rcases hu with rfl | rfl | rfl | rfl | rfl | rfl | rfl <;> rfl)
          have hsz2 : wo.heap.size + 2 ≤ ((w1.alloc (.cells #[.int .i64 k', .int .i64 a, .int .i64 t, .int .i64 q, .int .i64 n', .string s, .slice A' m c1] 40)).alloc (.cells #[.int .i64 k', .int .i64 a, .int .i64 t, .int .i64 q, .int .i64 n', .string s, .slice A' m c1] 40)).heap.size := by simp; omega
          clear hE1 he hl2 hb1 hKm Hih2 y4 hnb
          go_wp2_with (at_builtin; refine wpList_append_lies _ rfl (.tmp 55) (.tmp 57) 36 rfl (wo.heap.size + 2) 40 j0 (.agg #[.int .i64 0, .int .i64 0, .int .i64 0, .int .i64 0, .int .i64 0, .string ⟨#[]⟩, .slice none 0 0]) 7 80 Try.underlying36 Ji.out Jz0.out Jz1.out Jz2.out rfl (by decide) KV (List.replicate k ex.1).length kxs rfl HK2.out.1 ⟨w1.heap.size + 1, 0, none⟩ 1 1 [.int .i64 k', .int .i64 a, .int .i64 t, .int .i64 q, .int .i64 n', .string s, .slice A' m c1] rfl rfl HN2.out HO.out (by decide) (by unfold maxLen; omega) (by omega) hsz2 _ rfl ?_)
          intro gn cn w2 hown hgrow hat hlt2
          have old : ∀ b o, b < wo.heap.size + 2 → wr.heap[b]? = some o → w2.heap[b]? = some o := fun b o hb3 hh =>
            (hgrow.block b (Nat.lt_of_lt_of_le (by omega) HKm.out.size) (own_ne HK2.out.1 hb3)).trans ((HKm.out.block b (by omega)).trans hh)
          have hX2 := Lib.hid (old _ _ (by omega) hX'.out)
          have hE2 := old _ _ (by omega) hS'.out
          have e7 : w2.cell? ⟨wo.heap.size + 1, 5, none⟩ = some KV := by rw [Lib.cell_of_heap hE2]; rfl
          have f7 : w2.frozen? ⟨wo.heap.size + 1, 5, none⟩ = false := Lib.frozen_of_heap hE2 5
          have HE2 := Lib.hid (heap_set hE2 5 (.slice (some ⟨gn, 0, none⟩) (k + 1) cn))
          have hbm : Below wo.heap.size w2 (w2.setCell ⟨wo.heap.size + 1, 5, none⟩ (.slice (some ⟨gn, 0, none⟩) (k + 1) cn)) := (Below.refl _ _).setCell (by simp) _
          have HB2 := Lib.hid (((hbk.out.trans (HKm.out.mono (by omega))).grown hgrow (by simp; omega) (fun k hk => by have := (HK2.out.1.lt k hk).1; omega)).trans hbm)
          have hvr : ∀ k, KV.ownBlock = some k → k < wr.heap.size := fun k hk => (hKids.out.1.lt k hk).2
          have hown' : w2.ownsRow (wo.heap.size + 2) 40 7 (.slice (some ⟨gn, 0, none⟩) (k + 1) cn) ((List.replicate k ex.1).length + 1) (kxs ++ [.int .i64 k', .int .i64 a, .int .i64 t, .int .i64 q, .int .i64 n', .string s, .slice A' m c1]) := by rw [List.length_replicate]; exact hown
          have hSn := (HK2.out.snoc (lo := wr.heap.size) (He.out.up ((((Below.refl _ _).alloc (Nat.le_refl _) _).alloc (by simp) _))) (by omega) hvr hown' hgrow (by
            rcases hat with h1 | h1
            · exact Or.inl h1.symm
            · exact Or.inr ⟨gn, rfl, by simp; omega⟩)).set (p := ⟨wo.heap.size + 1, 5, none⟩) (by simp) (.slice (some ⟨gn, 0, none⟩) (k + 1) cn)
          rw [replicate_snoc] at hSn
          have HSn := Lib.hid hSn
          have hzz : wo.heap.size + 1 < w2.heap.size := by
            have := hgrow.size
            simp at this
            omega
          clear old hE2 hbm hvr hat hown hown' hgrow hSn
          go_wp2
          go_roundg (M + 1 - (k + 1))
          case rel => exact ⟨k + 1, _, _, rfl, by omega, by go_num, HSn, Lib.hid ((Below.heap_setCell _ _ _ _ (by simp)).trans hX2.out), HE2, HB2, by simp; omega⟩
          case measure => omega
        · have hke : k = M + 1 := by omega
          subst hke
          clear hkm
          obtain ⟨AK, cK, kxsK, rfl, hrK, hoK⟩ := hKids.out.kidV
          have HKv : Hid (KidV wr (wo.heap.size + 2) (.slice AK (M + 1) cK) (List.replicate (M + 1) ex.1)) := Lib.hid ⟨AK, cK, kxsK, by rw [List.length_replicate], hrK, by rw [List.length_replicate] at hoK ⊢; exact hoK⟩
          rw [List.length_replicate] at hS'
          clear hKids hrK hoK

          have Hx2 := hX'
          have Hs2 := hS'
          have Hw2 := hbk
          have hz2 := hzk
          have Hk2 := HKv
          obtain ⟨W2, hW2⟩ : ∃ W2, W2 = wr := ⟨_, rfl⟩
          subst hW2
          have ey2 : W2.cell? ⟨wo.heap.size, 4, none⟩ = some (.int .i64 x.many) := by rw [Lib.cell_of_heap Hx2.out]; rfl
          rcases Nat.eq_zero_or_pos d with hd0 | hd0
          · subst hd0
            go_upto_region 14 with fail
            have Hs3 := Hs2
            have Hx3 := Hx2
            have Hw3 := Hw2
            have hz3 := hz2
            have Hk3 := Hk2
            obtain ⟨W3, hW3⟩ : ∃ W, W = W2 := ⟨_, rfl⟩
            subst hW3
            have Hb3 : Hid (RdV W3 (wo.heap.size + 2) (.slice none 0 0) []) := Lib.hid (RdV.nil _ _)
            go_upto_region 16 with fail
            have Hs4 := Hs3
            have Hx4 := Hx3
            have Hw4 := Hw3
            have hz4 := hz3
            have Hk4 := Hk3
            obtain ⟨W4, hW4⟩ : ∃ W, W = W3 := ⟨_, rfl⟩
            subst hW4
            have Hb4 := Hb3
            have He4 : Hid (RdV W4 (wo.heap.size + 2) (.slice none 0 0) []) := Lib.hid (RdV.nil _ _)

            obtain ⟨c0, c1, c2, c3, c4, c5, c6, c7⟩ := st8 Hs4.out
            have hKs := hK.out
            rw [stmtT_mk (bl := []) (el := []) hlt12 Hn.out Hxe.out HM.out Hex.out Hct.out (by first | rw [if_pos ⟨by omega, by assumption⟩] | rw [if_neg (by omega)]) (by first | rw [if_pos ⟨by omega, by assumption⟩] | rw [if_neg (by omega)])] at hKs
            have hKs2 := Lib.hid hKs
            have hRS := rdS_mk (k := x.kind) (n := 0) (p := x.n) (s := ct) Hk4.out Hb4.out He4.out
            have hup : Below W4.heap.size W4 (W4.alloc (.cells #[.int .i64 x.kind, .int .i64 0, .int .i64 0, .string ct, .int .i64 x.n, .slice AK (M + 1) cK, .slice none 0 0, .slice none 0 0] 38)) := (Below.refl _ _).alloc (Nat.le_refl _) _
            have HRS := Lib.hid (And.intro (hRS.1.up hup) (hRS.2.keep hup))
            have HStm := Lib.hid (hSt.out.keep (Hw4.out.alloc (by omega) (.cells #[.int .i64 x.kind, .int .i64 0, .int .i64 0, .string ct, .int .i64 x.n, .slice AK (M + 1) cK, .slice none 0 0, .slice none 0 0] 38)))
            have HN5 := Lib.hid (World.news_of_block (heap_alloc_new W4 (.cells #[.int .i64 x.kind, .int .i64 0, .int .i64 0, .string ct, .int .i64 x.n, .slice AK (M + 1) cK, .slice none 0 0, .slice none 0 0] 38)))
            have HO5 : Hid (∀ u ∈ ([.int .i64 x.kind, .int .i64 0, .int .i64 0, .string ct, .int .i64 x.n, .slice AK (M + 1) cK, .slice none 0 0, .slice none 0 0] : List Value), u.oneCell' = true) := Lib.hid (by intro u hu; simp only [List.mem_cons, List.not_mem_nil, or_false] at hu; rcases hu with rfl | rfl | rfl | rfl | rfl | rfl | rfl | rfl <;> rfl)
            have hsl : ss.length ≤ 12 := by rw [hss.out]; omega
            have hw4 : w.heap.size ≤ W4.heap.size := Nat.le_trans hb.out.size Hw4.out.size
            have hsz5 : w.heap.size ≤ (W4.alloc (.cells #[.int .i64 x.kind, .int .i64 0, .int .i64 0, .string ct, .int .i64 x.n, .slice AK (M + 1) cK, .slice none 0 0, .slice none 0 0] 38)).heap.size := by simp; omega
            have Hup := Lib.hid hup
            clear hKs hRS hup
            go_wp2_with (at_builtin; refine wpList_append_lies _ rfl (.tmp 95) (.tmp 97) 29 rfl w.heap.size 38 i0 (.agg #[.int .i64 0, .int .i64 0, .int .i64 0, .string ⟨#[]⟩, .int .i64 0, .slice none 0 0, .slice none 0 0, .slice none 0 0]) 8 120 Try.underlying29 Hi.out Hz0.out Hz1.out Hz2.out rfl (by decide) u5 ss.length xs rfl HStm.out.1 ⟨W4.heap.size, 0, none⟩ 1 1 [.int .i64 x.kind, .int .i64 0, .int .i64 0, .string ct, .int .i64 x.n, .slice AK (M + 1) cK, .slice none 0 0, .slice none 0 0] rfl rfl HN5.out HO5.out (by decide) (by unfold maxLen; omega) (by omega) hsz5 _ rfl ?_)
            intro gm cm w5 hown5 hgrow5 hat5 hlt5
            have hvr5 : ∀ k, u5.ownBlock = some k → k < wo.heap.size + 2 := fun k hk => by have := (hSt.out.1.lt k hk).2; omega
            have HSn5 := Lib.hid (HStm.out.snoc (by decide) HRS.out.1 HRS.out.2 (by have := hb.out.size; omega) hvr5 hown5 hgrow5 (by
              rcases hat5 with h1 | h1
              · exact Or.inl h1.symm
              · exact Or.inr ⟨gm, rfl, by simp; omega⟩))
            have HB5 := Lib.hid (((hb.out.trans (Hw4.out.mono hb.out.size)).trans (Hup.out.mono hw4)).grown hgrow5 hsz5 (fun k hk => (HStm.out.1.lt k hk).1))
            clear hvr5 hown5 hgrow5 hat5 hlt5
            go_wp2
            go_roundg (n - (i + 1))
            case rel => exact ⟨i + 1, ss ++ [.mk x.kind 0 0 ct x.n (List.replicate (M + 1) ex.1) [] []], _, rfl, by omega, by omega, by go_num, Lib.hid (by have := hss.out; simp; omega), Lib.hid (by rw [List.append_assoc]; exact hKs2.out), HSn5, HB5⟩
            case measure => omega
          · by_cases hq2 : x.many / 2 % 2 = 1
            · have g2 : bits .and .i64 x.many 2 = 2 := by rw [and2, hq2]; rfl
              obtain ⟨A3, hcut3, hR3, hl3⟩ := HR.out.cut_run (cap := cap) (by rw [← Hn.out]; exact hl) (i + 1) (by rw [← Hn.out]; omega)
              rw [← Hn.out, show ((i + 1 : Nat) : Int) = (i : Int) + 1 by omega] at hcut3
              have hbw3 : Below w.heap.size w W2 := hb.out.trans (Hw2.out.mono hb.out.size)
              have Hst3 := HI.out (d - 1) (by omega) (l.drop (i + 1)) A3 (cap - (i + 1)) W2 (hR3.keep (hbw3.mono HN.out)) hl3 (by unfold maxLen; omega) (Nat.le_trans HN.out hbw3.size) (HS.out.drop _)
              rw [show ((d - 1 : Nat) : Int) = (d : Int) - 1 by omega] at Hst3
              obtain ⟨L3, hL3⟩ : ∃ L3, L3 = (l.drop (i + 1)).length := ⟨_, rfl⟩
              rw [← hL3] at hcut3 Hst3
              clear hL3 hl3 hbw3 hR3
              go_upto_region 14 with (go_at_call 7; refine (Hst3).mono ?_)
              rintro e w3 ⟨v3, bxs3, rfl, hSb3, hbb3⟩
              obtain ⟨Ab3, cb3, rfl⟩ := own_form hSb3.1
              have hs3 := (hbb3.block (wo.heap.size + 1) hz2).trans Hs2.out
              have hx3 := Lib.hid ((hbb3.block wo.heap.size (Nat.lt_of_succ_lt hz2)).trans Hx2.out)
              have ec3 : w3.cell? ⟨wo.heap.size + 1, 6, none⟩ = some (.slice none 0 0) := by rw [Lib.cell_of_heap hs3]; rfl
              have fc3 : w3.frozen? ⟨wo.heap.size + 1, 6, none⟩ = false := Lib.frozen_of_heap hs3 6
              have ey3 : w3.cell? ⟨wo.heap.size, 4, none⟩ = some (.int .i64 x.many) := by rw [Lib.cell_of_heap hx3.out]; rfl
              have Hss3 := Lib.hid (heap_set hs3 6 (.slice Ab3 ((stmtsT (d - 1) (l.drop (i + 1)))).length cb3))
              have HSb3 := Lib.hid hSb3
              have Hbb3 := Lib.hid hbb3
              clear hSb3 hbb3 hs3 hcut3 Hst3
              go_upto_region 14 with fail
              obtain ⟨W3, hW3⟩ : ∃ W, W = w3.setCell ⟨wo.heap.size + 1, 6, none⟩ (.slice Ab3 ((stmtsT (d - 1) (l.drop (i + 1)))).length cb3) := ⟨_, rfl⟩

              rw [← hW3]
              have Hs3 : Hid (W3.heap[wo.heap.size + 1]? = some (.cells #[.int .i64 x.kind, .int .i64 0, .int .i64 0, .string ct, .int .i64 x.n, .slice AK (M + 1) cK, .slice Ab3 (stmtsT (d - 1) (l.drop (i + 1))).length cb3, .slice none 0 0] 38 (0, 0))) := Lib.hid (by rw [hW3]; exact Hss3.out)
              have Hx3 : Hid (W3.heap[wo.heap.size]? = some (.cells #[.int .i64 x.kind, .int .i64 x.op, .int .i64 x.n, .string x.s, .int .i64 x.many] 44 (0, 0))) := Lib.hid (by rw [hW3]; exact (Below.heap_setCell _ _ _ _ (by simp)).trans hx3.out)
              have Hw3 : Hid (Below wo.heap.size wo W3) := Lib.hid (by rw [hW3]; exact (Hw2.out.trans (Hbb3.out.mono (by omega))).setCell (by simp) _)
              have hz3 : wo.heap.size + 1 < W3.heap.size := by have := Hbb3.out.size; rw [hW3]; simp; omega
              have Hk3 : Hid (KidV W3 (wo.heap.size + 2) (.slice AK (M + 1) cK) (List.replicate (M + 1) ex.1)) := Lib.hid (by rw [hW3]; exact (Hk2.out.up Hbb3.out).set (p := ⟨wo.heap.size + 1, 6, none⟩) (by simp) _)
              have Hb3 : Hid (RdV W3 (wo.heap.size + 2) (.slice Ab3 (stmtsT (d - 1) (l.drop (i + 1))).length cb3) (stmtsT (d - 1) (l.drop (i + 1)))) := Lib.hid (by rw [hW3]; exact (HSb3.out.rdV (by omega)).set (p := ⟨wo.heap.size + 1, 6, none⟩) (by simp) _)
              clear hW3 ec3 fc3 ey3 Hss3 HSb3 Hbb3 hx3
              by_cases hq4 : x.many / 4 % 2 = 1
              · have g4 : bits .and .i64 x.many 4 = 4 := by rw [and4, hq4]; rfl
                have ey3 : W3.cell? ⟨wo.heap.size, 4, none⟩ = some (.int .i64 x.many) := by rw [Lib.cell_of_heap Hx3.out]; rfl
                have hmn : min (n : Int) ((i : Int) + 2) = ((min n (i + 2) : Nat) : Int) := by omega

                obtain ⟨A4, hcut4, hR4, hl4⟩ := HR.out.cut_run (cap := cap) (by rw [← Hn.out]; exact hl) (min n (i + 2)) (by rw [← Hn.out]; omega)
                rw [← Hn.out] at hcut4
                have hbw4 : Below w.heap.size w W3 := hb.out.trans (Hw3.out.mono hb.out.size)
                have Hst4 := HI.out (d - 1) (by omega) (l.drop (min n (i + 2))) A4 (cap - (min n (i + 2))) W3 (hR4.keep (hbw4.mono HN.out)) hl4 (by unfold maxLen; omega) (Nat.le_trans HN.out hbw4.size) (HS.out.drop _)
                rw [show ((d - 1 : Nat) : Int) = (d : Int) - 1 by omega] at Hst4
                obtain ⟨L4, hL4⟩ : ∃ L4, L4 = (l.drop (min n (i + 2))).length := ⟨_, rfl⟩
                rw [← hL4] at hcut4 Hst4
                clear hL4 hl4 hbw4 hR4
                go_upto_region 16 with (go_at_call 7; refine (Hst4).mono ?_)
                rintro e w4 ⟨v4, bxs4, rfl, hSb4, hbb4⟩
                obtain ⟨Ab4, cb4, rfl⟩ := own_form hSb4.1
                have hs4 := (hbb4.block (wo.heap.size + 1) hz3).trans Hs3.out
                have hx4 := Lib.hid ((hbb4.block wo.heap.size (Nat.lt_of_succ_lt hz3)).trans Hx3.out)
                have ec4 : w4.cell? ⟨wo.heap.size + 1, 7, none⟩ = some (.slice none 0 0) := by rw [Lib.cell_of_heap hs4]; rfl
                have fc4 : w4.frozen? ⟨wo.heap.size + 1, 7, none⟩ = false := Lib.frozen_of_heap hs4 7
                have ey4 : w4.cell? ⟨wo.heap.size, 4, none⟩ = some (.int .i64 x.many) := by rw [Lib.cell_of_heap hx4.out]; rfl
                have Hss4 := Lib.hid (heap_set hs4 7 (.slice Ab4 ((stmtsT (d - 1) (l.drop (min n (i + 2))))).length cb4))
                have HSb4 := Lib.hid hSb4
                have Hbb4 := Lib.hid hbb4
                clear hSb4 hbb4 hs4 hcut4 Hst4
                go_upto_region 16 with fail
                obtain ⟨W4, hW4⟩ : ∃ W, W = w4.setCell ⟨wo.heap.size + 1, 7, none⟩ (.slice Ab4 ((stmtsT (d - 1) (l.drop (min n (i + 2))))).length cb4) := ⟨_, rfl⟩

                rw [← hW4]
                have Hs4 : Hid (W4.heap[wo.heap.size + 1]? = some (.cells #[.int .i64 x.kind, .int .i64 0, .int .i64 0, .string ct, .int .i64 x.n, .slice AK (M + 1) cK, .slice Ab3 (stmtsT (d - 1) (l.drop (i + 1))).length cb3, .slice Ab4 (stmtsT (d - 1) (l.drop (min n (i + 2)))).length cb4] 38 (0, 0))) := Lib.hid (by rw [hW4]; exact Hss4.out)
                have Hx4 : Hid (W4.heap[wo.heap.size]? = some (.cells #[.int .i64 x.kind, .int .i64 x.op, .int .i64 x.n, .string x.s, .int .i64 x.many] 44 (0, 0))) := Lib.hid (by rw [hW4]; exact (Below.heap_setCell _ _ _ _ (by simp)).trans hx4.out)
                have Hw4 : Hid (Below wo.heap.size wo W4) := Lib.hid (by rw [hW4]; exact (Hw3.out.trans (Hbb4.out.mono (by omega))).setCell (by simp) _)
                have hz4 : wo.heap.size + 1 < W4.heap.size := by have := Hbb4.out.size; rw [hW4]; simp; omega
                have Hk4 : Hid (KidV W4 (wo.heap.size + 2) (.slice AK (M + 1) cK) (List.replicate (M + 1) ex.1)) := Lib.hid (by rw [hW4]; exact (Hk3.out.up Hbb4.out).set (p := ⟨wo.heap.size + 1, 7, none⟩) (by simp) _)
                have Hb4 : Hid (RdV W4 (wo.heap.size + 2) (.slice Ab3 (stmtsT (d - 1) (l.drop (i + 1))).length cb3) (stmtsT (d - 1) (l.drop (i + 1)))) := Lib.hid (by rw [hW4]; exact (Hb3.out.up Hbb4.out).set (p := ⟨wo.heap.size + 1, 7, none⟩) (by simp) _)
                have He4 : Hid (RdV W4 (wo.heap.size + 2) (.slice Ab4 (stmtsT (d - 1) (l.drop (min n (i + 2)))).length cb4) (stmtsT (d - 1) (l.drop (min n (i + 2))))) := Lib.hid (by rw [hW4]; exact (HSb4.out.rdV (by omega)).set (p := ⟨wo.heap.size + 1, 7, none⟩) (by simp) _)
                clear hW4 ec4 fc4 ey4 Hss4 HSb4 Hbb4 hx4

                obtain ⟨c0, c1, c2, c3, c4, c5, c6, c7⟩ := st8 Hs4.out
                have hKs := hK.out
                rw [stmtT_mk (bl := (stmtsT (d - 1) (l.drop (i + 1)))) (el := (stmtsT (d - 1) (l.drop (min n (i + 2))))) hlt12 Hn.out Hxe.out HM.out Hex.out Hct.out (by first | rw [if_pos ⟨by omega, by assumption⟩] | rw [if_neg (by omega)]) (by first | rw [if_pos ⟨by omega, by assumption⟩] | rw [if_neg (by omega)])] at hKs
                have hKs2 := Lib.hid hKs
                have hRS := rdS_mk (k := x.kind) (n := 0) (p := x.n) (s := ct) Hk4.out Hb4.out He4.out
                have hup : Below W4.heap.size W4 (W4.alloc (.cells #[.int .i64 x.kind, .int .i64 0, .int .i64 0, .string ct, .int .i64 x.n, .slice AK (M + 1) cK, .slice Ab3 (stmtsT (d - 1) (l.drop (i + 1))).length cb3, .slice Ab4 (stmtsT (d - 1) (l.drop (min n (i + 2)))).length cb4] 38)) := (Below.refl _ _).alloc (Nat.le_refl _) _
                have HRS := Lib.hid (And.intro (hRS.1.up hup) (hRS.2.keep hup))
                have HStm := Lib.hid (hSt.out.keep (Hw4.out.alloc (by omega) (.cells #[.int .i64 x.kind, .int .i64 0, .int .i64 0, .string ct, .int .i64 x.n, .slice AK (M + 1) cK, .slice Ab3 (stmtsT (d - 1) (l.drop (i + 1))).length cb3, .slice Ab4 (stmtsT (d - 1) (l.drop (min n (i + 2)))).length cb4] 38)))
                have HN5 := Lib.hid (World.news_of_block (heap_alloc_new W4 (.cells #[.int .i64 x.kind, .int .i64 0, .int .i64 0, .string ct, .int .i64 x.n, .slice AK (M + 1) cK, .slice Ab3 (stmtsT (d - 1) (l.drop (i + 1))).length cb3, .slice Ab4 (stmtsT (d - 1) (l.drop (min n (i + 2)))).length cb4] 38)))
                have HO5 : Hid (∀ u ∈ ([.int .i64 x.kind, .int .i64 0, .int .i64 0, .string ct, .int .i64 x.n, .slice AK (M + 1) cK, .slice Ab3 (stmtsT (d - 1) (l.drop (i + 1))).length cb3, .slice Ab4 (stmtsT (d - 1) (l.drop (min n (i + 2)))).length cb4] : List Value), u.oneCell' = true) := Lib.hid (by intro u hu; simp only [List.mem_cons, List.not_mem_nil, or_false] at hu; rcases hu with rfl | rfl | rfl | rfl | rfl | rfl | rfl | rfl <;> rfl)
                have hsl : ss.length ≤ 12 := by rw [hss.out]; omega
                have hw4 : w.heap.size ≤ W4.heap.size := Nat.le_trans hb.out.size Hw4.out.size
                have hsz5 : w.heap.size ≤ (W4.alloc (.cells #[.int .i64 x.kind, .int .i64 0, .int .i64 0, .string ct, .int .i64 x.n, .slice AK (M + 1) cK, .slice Ab3 (stmtsT (d - 1) (l.drop (i + 1))).length cb3, .slice Ab4 (stmtsT (d - 1) (l.drop (min n (i + 2)))).length cb4] 38)).heap.size := by simp; omega
                have Hup := Lib.hid hup
                clear hKs hRS hup
                go_wp2_with (at_builtin; refine wpList_append_lies _ rfl (.tmp 95) (.tmp 97) 29 rfl w.heap.size 38 i0 (.agg #[.int .i64 0, .int .i64 0, .int .i64 0, .string ⟨#[]⟩, .int .i64 0, .slice none 0 0, .slice none 0 0, .slice none 0 0]) 8 120 Try.underlying29 Hi.out Hz0.out Hz1.out Hz2.out rfl (by decide) u5 ss.length xs rfl HStm.out.1 ⟨W4.heap.size, 0, none⟩ 1 1 [.int .i64 x.kind, .int .i64 0, .int .i64 0, .string ct, .int .i64 x.n, .slice AK (M + 1) cK, .slice Ab3 (stmtsT (d - 1) (l.drop (i + 1))).length cb3, .slice Ab4 (stmtsT (d - 1) (l.drop (min n (i + 2)))).length cb4] rfl rfl HN5.out HO5.out (by decide) (by unfold maxLen; omega) (by omega) hsz5 _ rfl ?_)
                intro gm cm w5 hown5 hgrow5 hat5 hlt5
                have hvr5 : ∀ k, u5.ownBlock = some k → k < wo.heap.size + 2 := fun k hk => by have := (hSt.out.1.lt k hk).2; omega
                have HSn5 := Lib.hid (HStm.out.snoc (by decide) HRS.out.1 HRS.out.2 (by have := hb.out.size; omega) hvr5 hown5 hgrow5 (by
                  rcases hat5 with h1 | h1
                  · exact Or.inl h1.symm
                  · exact Or.inr ⟨gm, rfl, by simp; omega⟩))
                have HB5 := Lib.hid (((hb.out.trans (Hw4.out.mono hb.out.size)).trans (Hup.out.mono hw4)).grown hgrow5 hsz5 (fun k hk => (HStm.out.1.lt k hk).1))
                clear hvr5 hown5 hgrow5 hat5 hlt5
                go_wp2
                go_roundg (n - (i + 1))
                case rel => exact ⟨i + 1, ss ++ [.mk x.kind 0 0 ct x.n (List.replicate (M + 1) ex.1) (stmtsT (d - 1) (l.drop (i + 1))) (stmtsT (d - 1) (l.drop (min n (i + 2))))], _, rfl, by omega, by omega, by go_num, Lib.hid (by have := hss.out; simp; omega), Lib.hid (by rw [List.append_assoc]; exact hKs2.out), HSn5, HB5⟩
                case measure => omega
              · have g4 : bits .and .i64 x.many 4 = 0 := by rw [and4]; omega
                have ey3 : W3.cell? ⟨wo.heap.size, 4, none⟩ = some (.int .i64 x.many) := by rw [Lib.cell_of_heap Hx3.out]; rfl
                go_upto_region 16 with fail
                have Hs4 := Hs3
                have Hx4 := Hx3
                have Hw4 := Hw3
                have hz4 := hz3
                have Hk4 := Hk3
                obtain ⟨W4, hW4⟩ : ∃ W, W = W3 := ⟨_, rfl⟩
                subst hW4
                have Hb4 := Hb3
                have He4 : Hid (RdV W4 (wo.heap.size + 2) (.slice none 0 0) []) := Lib.hid (RdV.nil _ _)

                obtain ⟨c0, c1, c2, c3, c4, c5, c6, c7⟩ := st8 Hs4.out
                have hKs := hK.out
                rw [stmtT_mk (bl := (stmtsT (d - 1) (l.drop (i + 1)))) (el := []) hlt12 Hn.out Hxe.out HM.out Hex.out Hct.out (by first | rw [if_pos ⟨by omega, by assumption⟩] | rw [if_neg (by omega)]) (by first | rw [if_pos ⟨by omega, by assumption⟩] | rw [if_neg (by omega)])] at hKs
                have hKs2 := Lib.hid hKs
                have hRS := rdS_mk (k := x.kind) (n := 0) (p := x.n) (s := ct) Hk4.out Hb4.out He4.out
                have hup : Below W4.heap.size W4 (W4.alloc (.cells #[.int .i64 x.kind, .int .i64 0, .int .i64 0, .string ct, .int .i64 x.n, .slice AK (M + 1) cK, .slice Ab3 (stmtsT (d - 1) (l.drop (i + 1))).length cb3, .slice none 0 0] 38)) := (Below.refl _ _).alloc (Nat.le_refl _) _
                have HRS := Lib.hid (And.intro (hRS.1.up hup) (hRS.2.keep hup))
                have HStm := Lib.hid (hSt.out.keep (Hw4.out.alloc (by omega) (.cells #[.int .i64 x.kind, .int .i64 0, .int .i64 0, .string ct, .int .i64 x.n, .slice AK (M + 1) cK, .slice Ab3 (stmtsT (d - 1) (l.drop (i + 1))).length cb3, .slice none 0 0] 38)))
                have HN5 := Lib.hid (World.news_of_block (heap_alloc_new W4 (.cells #[.int .i64 x.kind, .int .i64 0, .int .i64 0, .string ct, .int .i64 x.n, .slice AK (M + 1) cK, .slice Ab3 (stmtsT (d - 1) (l.drop (i + 1))).length cb3, .slice none 0 0] 38)))
                have HO5 : Hid (∀ u ∈ ([.int .i64 x.kind, .int .i64 0, .int .i64 0, .string ct, .int .i64 x.n, .slice AK (M + 1) cK, .slice Ab3 (stmtsT (d - 1) (l.drop (i + 1))).length cb3, .slice none 0 0] : List Value), u.oneCell' = true) := Lib.hid (by intro u hu; simp only [List.mem_cons, List.not_mem_nil, or_false] at hu; rcases hu with rfl | rfl | rfl | rfl | rfl | rfl | rfl | rfl <;> rfl)
                have hsl : ss.length ≤ 12 := by rw [hss.out]; omega
                have hw4 : w.heap.size ≤ W4.heap.size := Nat.le_trans hb.out.size Hw4.out.size
                have hsz5 : w.heap.size ≤ (W4.alloc (.cells #[.int .i64 x.kind, .int .i64 0, .int .i64 0, .string ct, .int .i64 x.n, .slice AK (M + 1) cK, .slice Ab3 (stmtsT (d - 1) (l.drop (i + 1))).length cb3, .slice none 0 0] 38)).heap.size := by simp; omega
                have Hup := Lib.hid hup
                clear hKs hRS hup
                go_wp2_with (at_builtin; refine wpList_append_lies _ rfl (.tmp 95) (.tmp 97) 29 rfl w.heap.size 38 i0 (.agg #[.int .i64 0, .int .i64 0, .int .i64 0, .string ⟨#[]⟩, .int .i64 0, .slice none 0 0, .slice none 0 0, .slice none 0 0]) 8 120 Try.underlying29 Hi.out Hz0.out Hz1.out Hz2.out rfl (by decide) u5 ss.length xs rfl HStm.out.1 ⟨W4.heap.size, 0, none⟩ 1 1 [.int .i64 x.kind, .int .i64 0, .int .i64 0, .string ct, .int .i64 x.n, .slice AK (M + 1) cK, .slice Ab3 (stmtsT (d - 1) (l.drop (i + 1))).length cb3, .slice none 0 0] rfl rfl HN5.out HO5.out (by decide) (by unfold maxLen; omega) (by omega) hsz5 _ rfl ?_)
                intro gm cm w5 hown5 hgrow5 hat5 hlt5
                have hvr5 : ∀ k, u5.ownBlock = some k → k < wo.heap.size + 2 := fun k hk => by have := (hSt.out.1.lt k hk).2; omega
                have HSn5 := Lib.hid (HStm.out.snoc (by decide) HRS.out.1 HRS.out.2 (by have := hb.out.size; omega) hvr5 hown5 hgrow5 (by
                  rcases hat5 with h1 | h1
                  · exact Or.inl h1.symm
                  · exact Or.inr ⟨gm, rfl, by simp; omega⟩))
                have HB5 := Lib.hid (((hb.out.trans (Hw4.out.mono hb.out.size)).trans (Hup.out.mono hw4)).grown hgrow5 hsz5 (fun k hk => (HStm.out.1.lt k hk).1))
                clear hvr5 hown5 hgrow5 hat5 hlt5
                go_wp2
                go_roundg (n - (i + 1))
                case rel => exact ⟨i + 1, ss ++ [.mk x.kind 0 0 ct x.n (List.replicate (M + 1) ex.1) (stmtsT (d - 1) (l.drop (i + 1))) []], _, rfl, by omega, by omega, by go_num, Lib.hid (by have := hss.out; simp; omega), Lib.hid (by rw [List.append_assoc]; exact hKs2.out), HSn5, HB5⟩
                case measure => omega
            · have g2 : bits .and .i64 x.many 2 = 0 := by rw [and2]; omega
              go_upto_region 14 with fail
              have Hs3 := Hs2
              have Hx3 := Hx2
              have Hw3 := Hw2
              have hz3 := hz2
              have Hk3 := Hk2
              obtain ⟨W3, hW3⟩ : ∃ W, W = W2 := ⟨_, rfl⟩
              subst hW3
              have Hb3 : Hid (RdV W3 (wo.heap.size + 2) (.slice none 0 0) []) := Lib.hid (RdV.nil _ _)
              by_cases hq4 : x.many / 4 % 2 = 1
              · have g4 : bits .and .i64 x.many 4 = 4 := by rw [and4, hq4]; rfl
                have ey3 : W3.cell? ⟨wo.heap.size, 4, none⟩ = some (.int .i64 x.many) := by rw [Lib.cell_of_heap Hx3.out]; rfl
                have hmn : min (n : Int) ((i : Int) + 2) = ((min n (i + 2) : Nat) : Int) := by omega

                obtain ⟨A4, hcut4, hR4, hl4⟩ := HR.out.cut_run (cap := cap) (by rw [← Hn.out]; exact hl) (min n (i + 2)) (by rw [← Hn.out]; omega)
                rw [← Hn.out] at hcut4
                have hbw4 : Below w.heap.size w W3 := hb.out.trans (Hw3.out.mono hb.out.size)
                have Hst4 := HI.out (d - 1) (by omega) (l.drop (min n (i + 2))) A4 (cap - (min n (i + 2))) W3 (hR4.keep (hbw4.mono HN.out)) hl4 (by unfold maxLen; omega) (Nat.le_trans HN.out hbw4.size) (HS.out.drop _)
                rw [show ((d - 1 : Nat) : Int) = (d : Int) - 1 by omega] at Hst4
                obtain ⟨L4, hL4⟩ : ∃ L4, L4 = (l.drop (min n (i + 2))).length := ⟨_, rfl⟩
                rw [← hL4] at hcut4 Hst4
                clear hL4 hl4 hbw4 hR4
                go_upto_region 16 with (go_at_call 7; refine (Hst4).mono ?_)
                rintro e w4 ⟨v4, bxs4, rfl, hSb4, hbb4⟩
                obtain ⟨Ab4, cb4, rfl⟩ := own_form hSb4.1
                have hs4 := (hbb4.block (wo.heap.size + 1) hz3).trans Hs3.out
                have hx4 := Lib.hid ((hbb4.block wo.heap.size (Nat.lt_of_succ_lt hz3)).trans Hx3.out)
                have ec4 : w4.cell? ⟨wo.heap.size + 1, 7, none⟩ = some (.slice none 0 0) := by rw [Lib.cell_of_heap hs4]; rfl
                have fc4 : w4.frozen? ⟨wo.heap.size + 1, 7, none⟩ = false := Lib.frozen_of_heap hs4 7
                have ey4 : w4.cell? ⟨wo.heap.size, 4, none⟩ = some (.int .i64 x.many) := by rw [Lib.cell_of_heap hx4.out]; rfl
                have Hss4 := Lib.hid (heap_set hs4 7 (.slice Ab4 ((stmtsT (d - 1) (l.drop (min n (i + 2))))).length cb4))
                have HSb4 := Lib.hid hSb4
                have Hbb4 := Lib.hid hbb4
                clear hSb4 hbb4 hs4 hcut4 Hst4
                go_upto_region 16 with fail
                obtain ⟨W4, hW4⟩ : ∃ W, W = w4.setCell ⟨wo.heap.size + 1, 7, none⟩ (.slice Ab4 ((stmtsT (d - 1) (l.drop (min n (i + 2))))).length cb4) := ⟨_, rfl⟩

                rw [← hW4]
                have Hs4 : Hid (W4.heap[wo.heap.size + 1]? = some (.cells #[.int .i64 x.kind, .int .i64 0, .int .i64 0, .string ct, .int .i64 x.n, .slice AK (M + 1) cK, .slice none 0 0, .slice Ab4 (stmtsT (d - 1) (l.drop (min n (i + 2)))).length cb4] 38 (0, 0))) := Lib.hid (by rw [hW4]; exact Hss4.out)
                have Hx4 : Hid (W4.heap[wo.heap.size]? = some (.cells #[.int .i64 x.kind, .int .i64 x.op, .int .i64 x.n, .string x.s, .int .i64 x.many] 44 (0, 0))) := Lib.hid (by rw [hW4]; exact (Below.heap_setCell _ _ _ _ (by simp)).trans hx4.out)
                have Hw4 : Hid (Below wo.heap.size wo W4) := Lib.hid (by rw [hW4]; exact (Hw3.out.trans (Hbb4.out.mono (by omega))).setCell (by simp) _)
                have hz4 : wo.heap.size + 1 < W4.heap.size := by have := Hbb4.out.size; rw [hW4]; simp; omega
                have Hk4 : Hid (KidV W4 (wo.heap.size + 2) (.slice AK (M + 1) cK) (List.replicate (M + 1) ex.1)) := Lib.hid (by rw [hW4]; exact (Hk3.out.up Hbb4.out).set (p := ⟨wo.heap.size + 1, 7, none⟩) (by simp) _)
                have Hb4 : Hid (RdV W4 (wo.heap.size + 2) (.slice none 0 0) []) := Lib.hid (by rw [hW4]; exact (Hb3.out.up Hbb4.out).set (p := ⟨wo.heap.size + 1, 7, none⟩) (by simp) _)
                have He4 : Hid (RdV W4 (wo.heap.size + 2) (.slice Ab4 (stmtsT (d - 1) (l.drop (min n (i + 2)))).length cb4) (stmtsT (d - 1) (l.drop (min n (i + 2))))) := Lib.hid (by rw [hW4]; exact (HSb4.out.rdV (by omega)).set (p := ⟨wo.heap.size + 1, 7, none⟩) (by simp) _)
                clear hW4 ec4 fc4 ey4 Hss4 HSb4 Hbb4 hx4

                obtain ⟨c0, c1, c2, c3, c4, c5, c6, c7⟩ := st8 Hs4.out
                have hKs := hK.out
                rw [stmtT_mk (bl := []) (el := (stmtsT (d - 1) (l.drop (min n (i + 2))))) hlt12 Hn.out Hxe.out HM.out Hex.out Hct.out (by first | rw [if_pos ⟨by omega, by assumption⟩] | rw [if_neg (by omega)]) (by first | rw [if_pos ⟨by omega, by assumption⟩] | rw [if_neg (by omega)])] at hKs
                have hKs2 := Lib.hid hKs
                have hRS := rdS_mk (k := x.kind) (n := 0) (p := x.n) (s := ct) Hk4.out Hb4.out He4.out
                have hup : Below W4.heap.size W4 (W4.alloc (.cells #[.int .i64 x.kind, .int .i64 0, .int .i64 0, .string ct, .int .i64 x.n, .slice AK (M + 1) cK, .slice none 0 0, .slice Ab4 (stmtsT (d - 1) (l.drop (min n (i + 2)))).length cb4] 38)) := (Below.refl _ _).alloc (Nat.le_refl _) _
                have HRS := Lib.hid (And.intro (hRS.1.up hup) (hRS.2.keep hup))
                have HStm := Lib.hid (hSt.out.keep (Hw4.out.alloc (by omega) (.cells #[.int .i64 x.kind, .int .i64 0, .int .i64 0, .string ct, .int .i64 x.n, .slice AK (M + 1) cK, .slice none 0 0, .slice Ab4 (stmtsT (d - 1) (l.drop (min n (i + 2)))).length cb4] 38)))
                have HN5 := Lib.hid (World.news_of_block (heap_alloc_new W4 (.cells #[.int .i64 x.kind, .int .i64 0, .int .i64 0, .string ct, .int .i64 x.n, .slice AK (M + 1) cK, .slice none 0 0, .slice Ab4 (stmtsT (d - 1) (l.drop (min n (i + 2)))).length cb4] 38)))
                have HO5 : Hid (∀ u ∈ ([.int .i64 x.kind, .int .i64 0, .int .i64 0, .string ct, .int .i64 x.n, .slice AK (M + 1) cK, .slice none 0 0, .slice Ab4 (stmtsT (d - 1) (l.drop (min n (i + 2)))).length cb4] : List Value), u.oneCell' = true) := Lib.hid (by intro u hu; simp only [List.mem_cons, List.not_mem_nil, or_false] at hu; rcases hu with rfl | rfl | rfl | rfl | rfl | rfl | rfl | rfl <;> rfl)
                have hsl : ss.length ≤ 12 := by rw [hss.out]; omega
                have hw4 : w.heap.size ≤ W4.heap.size := Nat.le_trans hb.out.size Hw4.out.size
                have hsz5 : w.heap.size ≤ (W4.alloc (.cells #[.int .i64 x.kind, .int .i64 0, .int .i64 0, .string ct, .int .i64 x.n, .slice AK (M + 1) cK, .slice none 0 0, .slice Ab4 (stmtsT (d - 1) (l.drop (min n (i + 2)))).length cb4] 38)).heap.size := by simp; omega
                have Hup := Lib.hid hup
                clear hKs hRS hup
                go_wp2_with (at_builtin; refine wpList_append_lies _ rfl (.tmp 95) (.tmp 97) 29 rfl w.heap.size 38 i0 (.agg #[.int .i64 0, .int .i64 0, .int .i64 0, .string ⟨#[]⟩, .int .i64 0, .slice none 0 0, .slice none 0 0, .slice none 0 0]) 8 120 Try.underlying29 Hi.out Hz0.out Hz1.out Hz2.out rfl (by decide) u5 ss.length xs rfl HStm.out.1 ⟨W4.heap.size, 0, none⟩ 1 1 [.int .i64 x.kind, .int .i64 0, .int .i64 0, .string ct, .int .i64 x.n, .slice AK (M + 1) cK, .slice none 0 0, .slice Ab4 (stmtsT (d - 1) (l.drop (min n (i + 2)))).length cb4] rfl rfl HN5.out HO5.out (by decide) (by unfold maxLen; omega) (by omega) hsz5 _ rfl ?_)
                intro gm cm w5 hown5 hgrow5 hat5 hlt5
                have hvr5 : ∀ k, u5.ownBlock = some k → k < wo.heap.size + 2 := fun k hk => by have := (hSt.out.1.lt k hk).2; omega
                have HSn5 := Lib.hid (HStm.out.snoc (by decide) HRS.out.1 HRS.out.2 (by have := hb.out.size; omega) hvr5 hown5 hgrow5 (by
                  rcases hat5 with h1 | h1
                  · exact Or.inl h1.symm
                  · exact Or.inr ⟨gm, rfl, by simp; omega⟩))
                have HB5 := Lib.hid (((hb.out.trans (Hw4.out.mono hb.out.size)).trans (Hup.out.mono hw4)).grown hgrow5 hsz5 (fun k hk => (HStm.out.1.lt k hk).1))
                clear hvr5 hown5 hgrow5 hat5 hlt5
                go_wp2
                go_roundg (n - (i + 1))
                case rel => exact ⟨i + 1, ss ++ [.mk x.kind 0 0 ct x.n (List.replicate (M + 1) ex.1) [] (stmtsT (d - 1) (l.drop (min n (i + 2))))], _, rfl, by omega, by omega, by go_num, Lib.hid (by have := hss.out; simp; omega), Lib.hid (by rw [List.append_assoc]; exact hKs2.out), HSn5, HB5⟩
                case measure => omega
              · have g4 : bits .and .i64 x.many 4 = 0 := by rw [and4]; omega
                have ey3 : W3.cell? ⟨wo.heap.size, 4, none⟩ = some (.int .i64 x.many) := by rw [Lib.cell_of_heap Hx3.out]; rfl
                go_upto_region 16 with fail
                have Hs4 := Hs3
                have Hx4 := Hx3
                have Hw4 := Hw3
                have hz4 := hz3
                have Hk4 := Hk3
                obtain ⟨W4, hW4⟩ : ∃ W, W = W3 := ⟨_, rfl⟩
                subst hW4
                have Hb4 := Hb3
                have He4 : Hid (RdV W4 (wo.heap.size + 2) (.slice none 0 0) []) := Lib.hid (RdV.nil _ _)

                obtain ⟨c0, c1, c2, c3, c4, c5, c6, c7⟩ := st8 Hs4.out
                have hKs := hK.out
                rw [stmtT_mk (bl := []) (el := []) hlt12 Hn.out Hxe.out HM.out Hex.out Hct.out (by first | rw [if_pos ⟨by omega, by assumption⟩] | rw [if_neg (by omega)]) (by first | rw [if_pos ⟨by omega, by assumption⟩] | rw [if_neg (by omega)])] at hKs
                have hKs2 := Lib.hid hKs
                have hRS := rdS_mk (k := x.kind) (n := 0) (p := x.n) (s := ct) Hk4.out Hb4.out He4.out
                have hup : Below W4.heap.size W4 (W4.alloc (.cells #[.int .i64 x.kind, .int .i64 0, .int .i64 0, .string ct, .int .i64 x.n, .slice AK (M + 1) cK, .slice none 0 0, .slice none 0 0] 38)) := (Below.refl _ _).alloc (Nat.le_refl _) _
                have HRS := Lib.hid (And.intro (hRS.1.up hup) (hRS.2.keep hup))
                have HStm := Lib.hid (hSt.out.keep (Hw4.out.alloc (by omega) (.cells #[.int .i64 x.kind, .int .i64 0, .int .i64 0, .string ct, .int .i64 x.n, .slice AK (M + 1) cK, .slice none 0 0, .slice none 0 0] 38)))
                have HN5 := Lib.hid (World.news_of_block (heap_alloc_new W4 (.cells #[.int .i64 x.kind, .int .i64 0, .int .i64 0, .string ct, .int .i64 x.n, .slice AK (M + 1) cK, .slice none 0 0, .slice none 0 0] 38)))
                have HO5 : Hid (∀ u ∈ ([.int .i64 x.kind, .int .i64 0, .int .i64 0, .string ct, .int .i64 x.n, .slice AK (M + 1) cK, .slice none 0 0, .slice none 0 0] : List Value), u.oneCell' = true) := Lib.hid (by intro u hu; simp only [List.mem_cons, List.not_mem_nil, or_false] at hu; rcases hu with rfl | rfl | rfl | rfl | rfl | rfl | rfl | rfl <;> rfl)
                have hsl : ss.length ≤ 12 := by rw [hss.out]; omega
                have hw4 : w.heap.size ≤ W4.heap.size := Nat.le_trans hb.out.size Hw4.out.size
                have hsz5 : w.heap.size ≤ (W4.alloc (.cells #[.int .i64 x.kind, .int .i64 0, .int .i64 0, .string ct, .int .i64 x.n, .slice AK (M + 1) cK, .slice none 0 0, .slice none 0 0] 38)).heap.size := by simp; omega
                have Hup := Lib.hid hup
                clear hKs hRS hup
                go_wp2_with (at_builtin; refine wpList_append_lies _ rfl (.tmp 95) (.tmp 97) 29 rfl w.heap.size 38 i0 (.agg #[.int .i64 0, .int .i64 0, .int .i64 0, .string ⟨#[]⟩, .int .i64 0, .slice none 0 0, .slice none 0 0, .slice none 0 0]) 8 120 Try.underlying29 Hi.out Hz0.out Hz1.out Hz2.out rfl (by decide) u5 ss.length xs rfl HStm.out.1 ⟨W4.heap.size, 0, none⟩ 1 1 [.int .i64 x.kind, .int .i64 0, .int .i64 0, .string ct, .int .i64 x.n, .slice AK (M + 1) cK, .slice none 0 0, .slice none 0 0] rfl rfl HN5.out HO5.out (by decide) (by unfold maxLen; omega) (by omega) hsz5 _ rfl ?_)
                intro gm cm w5 hown5 hgrow5 hat5 hlt5
                have hvr5 : ∀ k, u5.ownBlock = some k → k < wo.heap.size + 2 := fun k hk => by have := (hSt.out.1.lt k hk).2; omega
                have HSn5 := Lib.hid (HStm.out.snoc (by decide) HRS.out.1 HRS.out.2 (by have := hb.out.size; omega) hvr5 hown5 hgrow5 (by
                  rcases hat5 with h1 | h1
                  · exact Or.inl h1.symm
                  · exact Or.inr ⟨gm, rfl, by simp; omega⟩))
                have HB5 := Lib.hid (((hb.out.trans (Hw4.out.mono hb.out.size)).trans (Hup.out.mono hw4)).grown hgrow5 hsz5 (fun k hk => (HStm.out.1.lt k hk).1))
                clear hvr5 hown5 hgrow5 hat5 hlt5
                go_wp2
                go_roundg (n - (i + 1))
                case rel => exact ⟨i + 1, ss ++ [.mk x.kind 0 0 ct x.n (List.replicate (M + 1) ex.1) [] []], _, rfl, by omega, by omega, by go_num, Lib.hid (by have := hss.out; simp; omega), Lib.hid (by rw [List.append_assoc]; exact hKs2.out), HSn5, HB5⟩
                case measure => omega
    · have hend : ss = stmtsT d l := by
        have h := hK.out
        rw [show stmtsK (subT d) d (12 - i) (l.drop i) = [] from ?_, List.append_nil] at h
        · exact h
        · apply List.eq_nil_of_length_eq_zero
          rw [stmtsK_len, List.length_drop]
          have := Hn.out
          omega
      have HSe : Hid (StmtsPost w (stmtsT d l) (.returned u5) wr) := Lib.hid ⟨u5, xs, rfl, by rw [← hend]; exact hSt.out, hb.out⟩
      by_cases hlt : i < n
      · obtain rfl : i = 12 := by omega
        clear hgo hend
        go_wp2
        go_ret
        exact HSe.out
      · obtain rfl : i = n := by omega
        clear hgo hend
        go_wp2
        go_ret
        exact HSe.out
end Go.Proofs.Ytpnpjlggikdinaa
