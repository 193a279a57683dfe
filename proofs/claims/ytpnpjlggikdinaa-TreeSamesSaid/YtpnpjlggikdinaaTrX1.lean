/-
  The law TreeSames' walk, up to its six ways.
-/
import Derived.Test.YtpnpjlggikdinaaTrX2
namespace Go.Proofs.Ytpnpjlggikdinaa
open Go.RowKit

theorem tmod6 (z : Int) : -6 < z.tmod 6 ∧ z.tmod 6 < 6 := by
  refine ⟨?_, Int.tmod_lt_of_pos z (by omega)⟩
  rcases Int.le_total 0 z with h | h
  · have := Int.tmod_nonneg 6 h; omega
  · have := Int.tmod_lt_of_pos (-z) (show (0:Int) < 6 by omega)
    rw [Int.neg_tmod] at this
    omega

set_option maxRecDepth 100000 in
set_option maxHeartbeats 8000000 in
theorem law_walk (l : List EE) (A : Option Addr) (cap : Nat) (at_ what : Int) (hl : l.length ≤ cap) (hc : cap ≤ maxLen) (hsm : SmallL l) (w : World) (h : RdL w w.heap.size A l) :
    Calls Try.prog 3 #[.slice A l.length cap, .int .i64 at_, .int .i64 what] w fun e w' => e = .returned (.bool true) ∧ Below w.heap.size w w' := by
  have HT1 := tree_walk w.heap.size ⟨#[102]⟩ (by decide) l A cap hl hc hsm w (Nat.le_refl _) h
  have HT2 : ∀ w1, Below w.heap.size w w1 → Calls Try.prog 4 #[.slice A l.length cap, .string ⟨#[102]⟩] w1 (TreePost ⟨#[102]⟩ l w1) := fun w1 hb => tree_walk w.heap.size ⟨#[102]⟩ (by decide) l A cap hl hc hsm w1 hb.size (h.keep hb)
  obtain ⟨n, hn⟩ : ∃ n, n = l.length := ⟨_, rfl⟩
  rw [← hn] at HT1 HT2 ⊢
  clear hsm h hn hl
  go_enter Try.func3, Try.ntmps3
  go_wp2_with (go_at_call 4; refine HT1.mono ?_)
  rintro e w1 ⟨ga, P, cp, B, cb, bxs, rfl, hga, hgl, hPo, hBo, hBr, hb1⟩
  replace hga := Lib.hid hga
  replace hPo := Lib.hid hPo
  replace hBo := Lib.hid hBo
  replace hBr := Lib.hid hBr
  have hT := HT2 w1 hb1
  replace hb1 := Lib.hid hb1
  clear HT1 HT2
  go_wp2_with (go_at_call 4; refine hT.mono ?_)
  rintro e w2 ⟨gb, P', cp', B', cb', bxs', rfl, hgb, hgl', hPo', hBo', hBr', hb2⟩
  have hgbl : gb < w2.heap.size := by
    rcases Nat.lt_or_ge gb w2.heap.size with h' | h'
    · exact h'
    · rw [Array.getElem?_eq_none h'] at hgb; cases hgb
  have y1 : w2.cell? ⟨gb, 1, none⟩ = some (.int .i64 0) := by rw [Lib.cell_of_heap hgb]; rfl
  have y5 : w2.cell? ⟨gb, 5, none⟩ = some (.int .i64 0) := by rw [Lib.cell_of_heap hgb]; rfl
  have yf : ∀ j, w2.frozen? ⟨gb, j, none⟩ = false := fun j => Lib.frozen_of_heap hgb j
  replace hgb := Lib.hid hgb
  replace hPo' := Lib.hid hPo'
  replace hBo' := Lib.hid hBo'
  replace hBr' := Lib.hid hBr'
  replace hb2 := Lib.hid hb2
  clear hT
  go_upto_region 4 with fail
  have hTw := two_mk (at_ := at_) hga.out hPo.out hBo.out (fun k e he => hBr.out k e he) hgb.out hgl' hPo'.out hBo'.out (fun k e he => hBr'.out k e he) hb2.out
  obtain ⟨W2, hW2⟩ : ∃ W2, W2 = (w2.setCell ⟨gb, 1, none⟩ (.int .i64 at_)).setCell ⟨gb, 5, none⟩ (.int .i64 at_) := ⟨_, rfl⟩
  have hs2 : W2.heap.size = w2.heap.size := by rw [hW2]; simp
  have hbW2 : Below w.heap.size w W2 := by
    rw [hW2]
    have h1 : w.heap.size ≤ gb := Nat.le_trans hb1.out.size hgl'
    exact ((hb1.out.trans (hb2.out.mono hb1.out.size)).setCell h1 _).setCell h1 _
  rw [← hW2] at hTw ⊢
  obtain ⟨W3, hW3, hb3, hz3, hba, hbb⟩ := two_blocks W2 #[.slice (some ⟨ga, 0, none⟩) 2 2] #[.slice (some ⟨gb, 0, none⟩) 2 2] 25
  rw [← hW3, ← hs2]
  have hT3 := hTw.keep hb3
  have hbW3 : Below w.heap.size w W3 := hbW2.trans (hb3.mono hbW2.size)
  have hb2N : w1.heap.size ≤ W2.heap.size := hTw.hN
  have hw1 : w.heap.size ≤ w1.heap.size := hb1.out.size
  clear hTw hW2 hW3 hbW2 y1 y5 yf hga hgb hPo hPo' hBo hBo' hBr hBr' hb1 hb2 hs2 hb3 hgbl hgl hgl'
  obtain ⟨N1, hN1⟩ : ∃ N1, N1 = w1.heap.size := ⟨_, rfl⟩
  rw [← hN1] at hT3 hb2N hw1
  obtain ⟨ba, hbae⟩ : ∃ ba, ba = W2.heap.size := ⟨_, rfl⟩
  rw [← hbae] at hba hbb hz3 hb2N ⊢
  clear hN1 hbae
  have a0 : W3.cell? ⟨ba, 0, none⟩ = some (.slice (some ⟨ga, 0, none⟩) 2 2) := by rw [Lib.cell_of_heap hba]; rfl
  have b0 : W3.cell? ⟨ba + 1, 0, none⟩ = some (.slice (some ⟨gb, 0, none⟩) 2 2) := by rw [Lib.cell_of_heap hbb]; rfl
  replace hba := Lib.hid hba
  replace hbb := Lib.hid hbb
  replace hbW3 := Lib.hid hbW3
  replace hT3 := Lib.hid hT3
  obtain ⟨m, hm⟩ : ∃ m, what.tmod 6 = m := ⟨_, rfl⟩
  have hm1 := (tmod6 what).1
  have hm2 := (tmod6 what).2
  rw [hm] at hm1 hm2
  obtain ⟨v, hv⟩ : ∃ v, (m + 6) % 6 = v := ⟨_, rfl⟩
  have hv0 : 0 ≤ v := by omega
  have hv6 : v < 6 := by omega
  go_wp2_with (go_at_call 5; refine (awake_any _).mono ?_)
  rintro e w4 ⟨rfl, hb4⟩
  have hba4 := (hb4.block ba (Nat.lt_of_succ_lt hz3)).trans hba.out
  have hbb4 := (hb4.block (ba + 1) hz3).trans hbb.out
  have hz4 := Nat.lt_of_lt_of_le hz3 hb4.size
  have hT4 := Lib.hid (hT3.out.keep hb4)
  have hbW4 := Lib.hid (hbW3.out.trans (hb4.mono hbW3.out.size))
  have a1 : w4.cell? ⟨ba, 0, none⟩ = some (.slice (some ⟨ga, 0, none⟩) 2 2) := by rw [Lib.cell_of_heap hba4]; rfl
  have b1 : w4.cell? ⟨ba + 1, 0, none⟩ = some (.slice (some ⟨gb, 0, none⟩) 2 2) := by rw [Lib.cell_of_heap hbb4]; rfl
  replace hba4 := Lib.hid hba4
  replace hbb4 := Lib.hid hbb4
  clear hb4 hT3 hbW3 hba hbb a0 b0 hz3
  go_wp2_with (go_at_call 6; refine (hT4.out.same 2 2).mono ?_)
  rintro e w5 ⟨rfl, hb5⟩
  have hba5 := (hb5.block ba (Nat.lt_of_succ_lt hz4)).trans hba4.out
  have hbb5 := (hb5.block (ba + 1) hz4).trans hbb4.out
  have hz5 := Nat.lt_of_lt_of_le hz4 hb5.size
  have hT5 := Lib.hid (hT4.out.keep hb5)
  have hbW5 := Lib.hid (hbW4.out.trans (hb5.mono hbW4.out.size))
  replace hba5 := Lib.hid hba5
  replace hbb5 := Lib.hid hbb5
  clear hb5 hT4 hbW4 hba4 hbb4 a1 b1 hz4
  go_upto_region 13 with fail
  rw [hv]
  clear hv hm hm1 hm2
  obtain rfl | rfl | rfl | rfl | rfl | rfl : v = 0 ∨ v = 1 ∨ v = 2 ∨ v = 3 ∨ v = 4 ∨ v = 5 := by omega
  · clear hv0 hv6
    have hpb := hT5.out.pb
    unfold Prg at hpb
    have y : w5.cell? ⟨gb, 0, none⟩ = some (.string ⟨#[102]⟩) := by rw [Lib.cell_of_heap hpb]; rfl
    have yf : w5.frozen? ⟨gb, 0, none⟩ = false := Lib.frozen_of_heap hpb 0
    replace hpb := Lib.hid hpb
    go_upto_region 23 with fail
    have hne : ga ≠ gb := by have := hT5.out.la; have := hT5.out.lb; omega
    have hgbl := hT5.out.pb.lt
    have hgb1 : N1 ≤ gb := hT5.out.lb
    obtain ⟨W6, hW6⟩ : ∃ W6, W6 = w5.setCell ⟨gb, 0, none⟩ (.string (⟨#[102]⟩ ++ ⟨#[120]⟩)) := ⟨_, rfl⟩
    rw [← hW6]
    have hgba : gb ≠ ba ∧ gb ≠ ba + 1 := by
      have h1 := hpb.out
      refine ⟨fun e => ?_, fun e => ?_⟩
      · rw [e, hba5.out] at h1; simp at h1
      · rw [e, hbb5.out] at h1; simp at h1
    have hpA : Prg W6 ga ⟨#[102]⟩ 0 P (paramsT l).length cp ((l.length : Int) % 5) B (bodyT l).length cb 0 := by
      rw [hW6]; exact (Below.heap_setCell _ _ _ _ hne).trans hT5.out.pa
    have hpB := heap_set hpb.out 0 (.string (⟨#[102]⟩ ++ ⟨#[120]⟩))
    rw [← hW6] at hpB
    have hba6 : W6.heap[ba]? = some (.cells #[.slice (some ⟨ga, 0, none⟩) 2 2] 25 (0, 0)) := by
      rw [hW6]; exact (Below.heap_setCell _ _ _ _ (Ne.symm hgba.1)).trans hba5.out
    have hbb6 : W6.heap[ba + 1]? = some (.cells #[.slice (some ⟨gb, 0, none⟩) 2 2] 25 (0, 0)) := by
      rw [hW6]; exact (Below.heap_setCell _ _ _ _ (Ne.symm hgba.2)).trans hbb5.out
    have hz6 : ba + 1 < W6.heap.size := by rw [hW6]; simpa using hz5
    have hbW6 : Below w.heap.size w W6 := by rw [hW6]; exact hbW5.out.setCell (Nat.le_trans hw1 hgb1) _
    have hpB' : Prg W6 gb (⟨#[102]⟩ ++ ⟨#[120]⟩) at_ P' (paramsT l).length cp' ((l.length : Int) % 5) B' (bodyT l).length cb' at_ := hpB
    have hS1 : ∀ W', Below W6.heap.size W6 W' → Calls Try.prog 6 #[.agg #[.slice (some ⟨ga, 0, none⟩) 2 2], .agg #[.slice (some ⟨gb, 0, none⟩) 2 2]] W' fun e w' => e = .returned (.bool false) ∧ Below W'.heap.size W' w' := fun W' hb => Prg.name 2 2 (hpA.keep hb) (Prg.keep hpB' hb) (by decide +kernel)
    have hS2 : ∀ W', Below W6.heap.size W6 W' → Calls Try.prog 6 #[.agg #[.slice (some ⟨gb, 0, none⟩) 2 2], .agg #[.slice (some ⟨ga, 0, none⟩) 2 2]] W' fun e w' => e = .returned (.bool false) ∧ Below W'.heap.size W' w' := fun W' hb => Prg.name 2 2 (Prg.keep hpB' hb) (hpA.keep hb) (by decide +kernel)
    clear hpB'
    clear hpb y yf hW6 hpA hpB hgba hne hgbl hgb1

    have a6 : W6.cell? ⟨ba, 0, none⟩ = some (.slice (some ⟨ga, 0, none⟩) 2 2) := by rw [Lib.cell_of_heap hba6]; rfl
    have b6 : W6.cell? ⟨ba + 1, 0, none⟩ = some (.slice (some ⟨gb, 0, none⟩) 2 2) := by rw [Lib.cell_of_heap hbb6]; rfl
    have HS1 := Lib.hid hS1
    have HS2 := Lib.hid hS2
    have Hba6 := Lib.hid hba6
    have Hbb6 := Lib.hid hbb6
    have HbW6 := Lib.hid hbW6
    clear hS1 hS2 hba6 hbb6 hbW6
    go_wp2_with (go_at_call 6; refine (HS1.out _ (Below.refl _ _)).mono ?_)
    rintro e w7 ⟨rfl, hb7⟩
    have a7 : w7.cell? ⟨ba, 0, none⟩ = some (.slice (some ⟨ga, 0, none⟩) 2 2) := by rw [Lib.cell_of_heap ((hb7.block ba (Nat.lt_of_succ_lt hz6)).trans Hba6.out)]; rfl
    have b7 : w7.cell? ⟨ba + 1, 0, none⟩ = some (.slice (some ⟨gb, 0, none⟩) 2 2) := by rw [Lib.cell_of_heap ((hb7.block (ba + 1) hz6).trans Hbb6.out)]; rfl
    have Hb7 := Lib.hid hb7
    have HS3 := HS2.out _ hb7
    clear hb7
    go_wp2_with (go_at_call 6; refine HS3.mono ?_)
    rintro e w8 ⟨rfl, hb8⟩
    have Hb8 := Lib.hid ((HbW6.out.trans (Hb7.out.mono HbW6.out.size)).trans (hb8.mono (Nat.le_trans HbW6.out.size Hb7.out.size)))
    clear hb8
    go_wp2
    go_ret
    exact ⟨rfl, Hb8.out⟩
  · clear hv0 hv6
    have hpb := hT5.out.pb
    unfold Prg at hpb
    have y : w5.cell? ⟨gb, 3, none⟩ = some (.int .i64 ((l.length : Int) % 5)) := by rw [Lib.cell_of_heap hpb]; rfl
    have yf : w5.frozen? ⟨gb, 3, none⟩ = false := Lib.frozen_of_heap hpb 3
    replace hpb := Lib.hid hpb
    go_upto_region 23 with fail
    have hne : ga ≠ gb := by have := hT5.out.la; have := hT5.out.lb; omega
    have hgbl := hT5.out.pb.lt
    have hgb1 : N1 ≤ gb := hT5.out.lb
    obtain ⟨W6, hW6⟩ : ∃ W6, W6 = w5.setCell ⟨gb, 3, none⟩ (.int .i64 ((l.length : Int) % 5 + 1)) := ⟨_, rfl⟩
    rw [← hW6]
    have hgba : gb ≠ ba ∧ gb ≠ ba + 1 := by
      have h1 := hpb.out
      refine ⟨fun e => ?_, fun e => ?_⟩
      · rw [e, hba5.out] at h1; simp at h1
      · rw [e, hbb5.out] at h1; simp at h1
    have hpA : Prg W6 ga ⟨#[102]⟩ 0 P (paramsT l).length cp ((l.length : Int) % 5) B (bodyT l).length cb 0 := by
      rw [hW6]; exact (Below.heap_setCell _ _ _ _ hne).trans hT5.out.pa
    have hpB := heap_set hpb.out 3 (.int .i64 ((l.length : Int) % 5 + 1))
    rw [← hW6] at hpB
    have hba6 : W6.heap[ba]? = some (.cells #[.slice (some ⟨ga, 0, none⟩) 2 2] 25 (0, 0)) := by
      rw [hW6]; exact (Below.heap_setCell _ _ _ _ (Ne.symm hgba.1)).trans hba5.out
    have hbb6 : W6.heap[ba + 1]? = some (.cells #[.slice (some ⟨gb, 0, none⟩) 2 2] 25 (0, 0)) := by
      rw [hW6]; exact (Below.heap_setCell _ _ _ _ (Ne.symm hgba.2)).trans hbb5.out
    have hz6 : ba + 1 < W6.heap.size := by rw [hW6]; simpa using hz5
    have hbW6 : Below w.heap.size w W6 := by rw [hW6]; exact hbW5.out.setCell (Nat.le_trans hw1 hgb1) _
    have hpB' : Prg W6 gb ⟨#[102]⟩ at_ P' (paramsT l).length cp' ((l.length : Int) % 5 + 1) B' (bodyT l).length cb' at_ := hpB
    have hS1 : ∀ W', Below W6.heap.size W6 W' → Calls Try.prog 6 #[.agg #[.slice (some ⟨ga, 0, none⟩) 2 2], .agg #[.slice (some ⟨gb, 0, none⟩) 2 2]] W' fun e w' => e = .returned (.bool false) ∧ Below W'.heap.size W' w' := fun W' hb => Prg.ret 2 2 (hpA.keep hb) (Prg.keep hpB' hb) (by simp; omega)
    have hS2 : ∀ W', Below W6.heap.size W6 W' → Calls Try.prog 6 #[.agg #[.slice (some ⟨gb, 0, none⟩) 2 2], .agg #[.slice (some ⟨ga, 0, none⟩) 2 2]] W' fun e w' => e = .returned (.bool false) ∧ Below W'.heap.size W' w' := fun W' hb => Prg.ret 2 2 (Prg.keep hpB' hb) (hpA.keep hb) (by simp; omega)
    clear hpB'
    clear hpb y yf hW6 hpA hpB hgba hne hgbl hgb1

    have a6 : W6.cell? ⟨ba, 0, none⟩ = some (.slice (some ⟨ga, 0, none⟩) 2 2) := by rw [Lib.cell_of_heap hba6]; rfl
    have b6 : W6.cell? ⟨ba + 1, 0, none⟩ = some (.slice (some ⟨gb, 0, none⟩) 2 2) := by rw [Lib.cell_of_heap hbb6]; rfl
    have HS1 := Lib.hid hS1
    have HS2 := Lib.hid hS2
    have Hba6 := Lib.hid hba6
    have Hbb6 := Lib.hid hbb6
    have HbW6 := Lib.hid hbW6
    clear hS1 hS2 hba6 hbb6 hbW6
    go_wp2_with (go_at_call 6; refine (HS1.out _ (Below.refl _ _)).mono ?_)
    rintro e w7 ⟨rfl, hb7⟩
    have a7 : w7.cell? ⟨ba, 0, none⟩ = some (.slice (some ⟨ga, 0, none⟩) 2 2) := by rw [Lib.cell_of_heap ((hb7.block ba (Nat.lt_of_succ_lt hz6)).trans Hba6.out)]; rfl
    have b7 : w7.cell? ⟨ba + 1, 0, none⟩ = some (.slice (some ⟨gb, 0, none⟩) 2 2) := by rw [Lib.cell_of_heap ((hb7.block (ba + 1) hz6).trans Hbb6.out)]; rfl
    have Hb7 := Lib.hid hb7
    have HS3 := HS2.out _ hb7
    clear hb7
    go_wp2_with (go_at_call 6; refine HS3.mono ?_)
    rintro e w8 ⟨rfl, hb8⟩
    have Hb8 := Lib.hid ((HbW6.out.trans (Hb7.out.mono HbW6.out.size)).trans (hb8.mono (Nat.le_trans HbW6.out.size Hb7.out.size)))
    clear hb8
    go_wp2
    go_ret
    exact ⟨rfl, Hb8.out⟩
  · clear hv0 hv6
    have hpb := hT5.out.pb
    unfold Prg at hpb
    have y : w5.cell? ⟨gb, 2, none⟩ = some (.slice P' (paramsT l).length cp') := by rw [Lib.cell_of_heap hpb]; rfl
    have hgbl := hT5.out.pb.lt
    obtain ⟨i0, hi, hz0, hz1, hz2⟩ := info_parts infoPa
    have Hi := Lib.hid hi
    have Hz0 := Lib.hid hz0
    have Hz1 := Lib.hid hz1
    have Hz2 := Lib.hid hz2
    have hnp : (paramsT l).length ≤ 2 := by rw [paramsT_len]; omega
    have hmid : Below w5.heap.size w5 (w5.alloc (.cells #[.string ⟨#[112]⟩, .int .i64 0] 35)) := (Below.refl _ _).alloc (Nat.le_refl _) _
    have HOW := Lib.hid (own_keep hT5.out.oP' hmid)
    have HNW := Lib.hid (World.news_of_block (heap_alloc_new w5 (.cells #[.string ⟨#[112]⟩, .int .i64 0] 35)))
    have HOC : Hid (∀ u ∈ ([.string ⟨#[112]⟩, .int .i64 0] : List Value), u.oneCell' = true) := Lib.hid (by intro u hu; simp only [List.mem_cons, List.not_mem_nil, or_false] at hu; rcases hu with rfl | rfl <;> rfl)
    have hszP : N1 ≤ (w5.alloc (.cells #[.string ⟨#[112]⟩, .int .i64 0] 35)).heap.size := by have := hT5.out.hN; simp; omega
    replace hpb := Lib.hid hpb
    obtain ⟨np, hnpe⟩ : ∃ np, np = (paramsT l).length := ⟨_, rfl⟩
    have Hnp := Lib.hid hnpe
    rw [← hnpe] at y hnp HOW
    clear hi hz0 hz1 hz2 hmid hnpe
    go_wp2_with (at_builtin; refine wpList_append_lies _ rfl (.tmp 99) (.tmp 101) 28 rfl N1 35 i0 (.agg #[.string ⟨#[]⟩, .int .i64 0]) 2 24 Try.underlying28 Hi.out Hz0.out Hz1.out Hz2.out rfl (by decide) (.slice P' np cp') np (paCells (paramsT l)) rfl HOW.out ⟨w5.heap.size, 0, none⟩ 1 1 [.string ⟨#[112]⟩, .int .i64 0] rfl rfl HNW.out HOC.out (by decide) (by unfold maxLen; omega) (by omega) hszP _ rfl ?_)
    intro gp cp2 w6 hown hgrow hat hlt
    have old : ∀ (k : Nat) (cs : Array Value) (T : TypeId) (fr : Nat × Nat), w5.heap[k]? = some (.cells cs T fr) → (T ≠ 35 ∨ k < N1) → w6.heap[k]? = some (.cells cs T fr) := fun k cs T fr hk hor => by
      have hkl : k < w5.heap.size := by
        rcases Nat.lt_or_ge k w5.heap.size with h' | h'
        · exact h'
        · rw [Array.getElem?_eq_none h'] at hk; cases hk
      have hk2 : (w5.alloc (.cells #[.string ⟨#[112]⟩, .int .i64 0] 35)).heap[k]? = some (.cells cs T fr) := (Below.heap_alloc _ _ _ hkl).trans hk
      refine (hgrow.block k (by simp; omega) ?_).trans hk2
      rcases hor with hT | hlt
      · exact fun e => own_type HOW.out hk2 (Ne.symm hT) e.symm
      · exact own_ne HOW.out hlt
    have hpb6 := old _ _ _ _ hpb.out (Or.inl (by decide))
    have hpa6 := old _ _ _ _ hT5.out.pa (Or.inl (by decide))
    have hA6 := old _ _ _ _ hba5.out (Or.inl (by decide))
    have hB6 := old _ _ _ _ hbb5.out (Or.inl (by decide))
    have z2 : w6.cell? ⟨gb, 2, none⟩ = some (.slice P' (paramsT l).length cp') := by rw [Lib.cell_of_heap hpb6]; rfl
    have zf : w6.frozen? ⟨gb, 2, none⟩ = false := Lib.frozen_of_heap hpb6 2
    have hgs : w5.heap.size < w6.heap.size := by have := hgrow.size; simp at this; omega
    have hb56 : Below w.heap.size w w6 := (hbW5.out.alloc hbW5.out.size _).grown hgrow (by have := hbW5.out.size; simp; omega) (fun k hk => Nat.le_trans hw1 (HOW.out.lt k hk).1)
    replace hpb6 := Lib.hid hpb6
    replace hpa6 := Lib.hid hpa6
    replace hA6 := Lib.hid hA6
    replace hB6 := Lib.hid hB6
    replace hb56 := Lib.hid hb56
    clear old hown hgrow hat hlt
    go_upto_region 23 with fail
    have hne : ga ≠ gb := by have := hT5.out.la; have := hT5.out.lb; omega
    have hgb1 : N1 ≤ gb := hT5.out.lb
    obtain ⟨W6, hW6⟩ : ∃ W6, W6 = w6.setCell ⟨gb, 2, none⟩ (.slice (some ⟨gp, 0, none⟩) (np + 1) cp2) := ⟨_, rfl⟩
    rw [← hW6]
    have hgba : gb ≠ ba ∧ gb ≠ ba + 1 := by
      have h1 := hpb.out
      refine ⟨fun e => ?_, fun e => ?_⟩
      · rw [e, hba5.out] at h1; simp at h1
      · rw [e, hbb5.out] at h1; simp at h1
    have hpA : Prg W6 ga ⟨#[102]⟩ 0 P (paramsT l).length cp ((l.length : Int) % 5) B (bodyT l).length cb 0 := by
      rw [hW6]; exact (Below.heap_setCell _ _ _ _ hne).trans hpa6.out
    have hpB := heap_set hpb6.out 2 (.slice (some ⟨gp, 0, none⟩) (np + 1) cp2)
    rw [← hW6] at hpB
    have hpB' : Prg W6 gb ⟨#[102]⟩ at_ (some ⟨gp, 0, none⟩) (np + 1) cp2 ((l.length : Int) % 5) B' (bodyT l).length cb' at_ := hpB
    have hba6 : W6.heap[ba]? = some (.cells #[.slice (some ⟨ga, 0, none⟩) 2 2] 25 (0, 0)) := by
      rw [hW6]; exact (Below.heap_setCell _ _ _ _ (Ne.symm hgba.1)).trans hA6.out
    have hbb6 : W6.heap[ba + 1]? = some (.cells #[.slice (some ⟨gb, 0, none⟩) 2 2] 25 (0, 0)) := by
      rw [hW6]; exact (Below.heap_setCell _ _ _ _ (Ne.symm hgba.2)).trans hB6.out
    have hz6 : ba + 1 < W6.heap.size := by rw [hW6]; simp; omega
    have hbW6 : Below w.heap.size w W6 := by rw [hW6]; exact hb56.out.setCell (Nat.le_trans hw1 hgb1) _
    have hnn : (paramsT l).length ≠ np + 1 := by have := Hnp.out; omega
    have hS1 : ∀ W', Below W6.heap.size W6 W' → Calls Try.prog 6 #[.agg #[.slice (some ⟨ga, 0, none⟩) 2 2], .agg #[.slice (some ⟨gb, 0, none⟩) 2 2]] W' fun e w' => e = .returned (.bool false) ∧ Below W'.heap.size W' w' := fun W' hb => Prg.params 2 2 (hpA.keep hb) (Prg.keep hpB' hb) hnn
    have hS2 : ∀ W', Below W6.heap.size W6 W' → Calls Try.prog 6 #[.agg #[.slice (some ⟨gb, 0, none⟩) 2 2], .agg #[.slice (some ⟨ga, 0, none⟩) 2 2]] W' fun e w' => e = .returned (.bool false) ∧ Below W'.heap.size W' w' := fun W' hb => Prg.params 2 2 (Prg.keep hpB' hb) (hpA.keep hb) (Ne.symm hnn)
    clear hpB'
    clear hpb y z2 zf hW6 hpA hpB hgba hne hgbl hgb1 hnn

    have a6 : W6.cell? ⟨ba, 0, none⟩ = some (.slice (some ⟨ga, 0, none⟩) 2 2) := by rw [Lib.cell_of_heap hba6]; rfl
    have b6 : W6.cell? ⟨ba + 1, 0, none⟩ = some (.slice (some ⟨gb, 0, none⟩) 2 2) := by rw [Lib.cell_of_heap hbb6]; rfl
    have HS1 := Lib.hid hS1
    have HS2 := Lib.hid hS2
    have Hba6 := Lib.hid hba6
    have Hbb6 := Lib.hid hbb6
    have HbW6 := Lib.hid hbW6
    clear hS1 hS2 hba6 hbb6 hbW6
    go_wp2_with (go_at_call 6; refine (HS1.out _ (Below.refl _ _)).mono ?_)
    rintro e w7 ⟨rfl, hb7⟩
    have a7 : w7.cell? ⟨ba, 0, none⟩ = some (.slice (some ⟨ga, 0, none⟩) 2 2) := by rw [Lib.cell_of_heap ((hb7.block ba (Nat.lt_of_succ_lt hz6)).trans Hba6.out)]; rfl
    have b7 : w7.cell? ⟨ba + 1, 0, none⟩ = some (.slice (some ⟨gb, 0, none⟩) 2 2) := by rw [Lib.cell_of_heap ((hb7.block (ba + 1) hz6).trans Hbb6.out)]; rfl
    have Hb7 := Lib.hid hb7
    have HS3 := HS2.out _ hb7
    clear hb7
    go_wp2_with (go_at_call 6; refine HS3.mono ?_)
    rintro e w8 ⟨rfl, hb8⟩
    have Hb8 := Lib.hid ((HbW6.out.trans (Hb7.out.mono HbW6.out.size)).trans (hb8.mono (Nat.le_trans HbW6.out.size Hb7.out.size)))
    clear hb8
    go_wp2
    go_ret
    exact ⟨rfl, Hb8.out⟩
  · clear hv0 hv6
    have hpb := hT5.out.pb
    unfold Prg at hpb
    have y : w5.cell? ⟨gb, 4, none⟩ = some (.slice B' (bodyT l).length cb') := by rw [Lib.cell_of_heap hpb]; rfl
    have yf : w5.frozen? ⟨gb, 4, none⟩ = false := Lib.frozen_of_heap hpb 4
    have hgbl := hT5.out.pb.lt
    obtain ⟨i0, hi, hz0, hz1, hz2⟩ := info_parts infoSt
    have Hi := Lib.hid hi
    have Hz0 := Lib.hid hz0
    have Hz1 := Lib.hid hz1
    have Hz2 := Lib.hid hz2
    have hnb : (bodyT l).length ≤ 12 := (stmtsT_fine 2 (l.take (min l.length 8))).1
    have hmid : Below w5.heap.size w5 (w5.alloc (.cells #[.int .i64 0, .int .i64 0, .int .i64 0, .string ⟨#[]⟩, .int .i64 0, .slice none 0 0, .slice none 0 0, .slice none 0 0] 38)).drew := ((Below.refl _ _).alloc (Nat.le_refl _) _).drew
    have HOW := Lib.hid (own_keep hT5.out.oB' hmid)
    have HNW : Hid (∀ j u, ([.int .i64 0, .int .i64 0, .int .i64 0, .string ⟨#[]⟩, .int .i64 0, .slice none 0 0, .slice none 0 0, .slice none 0 0] : List Value)[j]? = some u → (w5.alloc (.cells #[.int .i64 0, .int .i64 0, .int .i64 0, .string ⟨#[]⟩, .int .i64 0, .slice none 0 0, .slice none 0 0, .slice none 0 0] 38)).drew.cell? ((⟨w5.heap.size, 0, none⟩ : Addr).add j) = some u) := Lib.hid (World.news_of_block (w := (w5.alloc (.cells #[.int .i64 0, .int .i64 0, .int .i64 0, .string ⟨#[]⟩, .int .i64 0, .slice none 0 0, .slice none 0 0, .slice none 0 0] 38)).drew) (heap_alloc_new w5 (.cells #[.int .i64 0, .int .i64 0, .int .i64 0, .string ⟨#[]⟩, .int .i64 0, .slice none 0 0, .slice none 0 0, .slice none 0 0] 38)))
    have HOC : Hid (∀ u ∈ ([.int .i64 0, .int .i64 0, .int .i64 0, .string ⟨#[]⟩, .int .i64 0, .slice none 0 0, .slice none 0 0, .slice none 0 0] : List Value), u.oneCell' = true) := Lib.hid (by intro u hu; simp only [List.mem_cons, List.not_mem_nil, or_false] at hu; rcases hu with rfl | rfl | rfl | rfl | rfl | rfl | rfl | rfl <;> rfl)
    have hsz : N1 ≤ (w5.alloc (.cells #[.int .i64 0, .int .i64 0, .int .i64 0, .string ⟨#[]⟩, .int .i64 0, .slice none 0 0, .slice none 0 0, .slice none 0 0] 38)).drew.heap.size := by have := hT5.out.hN; simp; omega
    have hxl : bxs'.length = (bodyT l).length * 8 := hT5.out.oB'.1
    have hgbN : N1 ≤ gb := hT5.out.lb
    replace hpb := Lib.hid hpb
    obtain ⟨nb, hnbe⟩ : ∃ nb, nb = (bodyT l).length := ⟨_, rfl⟩
    have Hnb := Lib.hid hnbe
    rw [← hnbe] at y hnb HOW hxl
    have Hxl := Lib.hid hxl
    have Hmid := Lib.hid hmid
    clear hi hz0 hz1 hz2 hmid hnbe hxl
    have k1 : (0 : Int) ≤ (nb : Int) := by omega
    have k2 : (nb : Int) < (nb : Int) + 1 := by omega
    have k3 : nb < nb + 1 := by omega
    go_upto_region 20 with fail
    go_region_law (first | (refine step_append_lies _ rfl (.tmp 110) (.tmp 113) 29 rfl N1 38 i0 (.agg #[.int .i64 0, .int .i64 0, .int .i64 0, .string ⟨#[]⟩, .int .i64 0, .slice none 0 0, .slice none 0 0, .slice none 0 0]) 8 120 Try.underlying29 Hi.out Hz0.out Hz1.out Hz2.out rfl (by decide) (.slice B' nb cb') nb bxs' (by simp [Act.eval, Act.put]) HOW.out ⟨w5.heap.size, 0, none⟩ 1 1 [.int .i64 0, .int .i64 0, .int .i64 0, .string ⟨#[]⟩, .int .i64 0, .slice none 0 0, .slice none 0 0, .slice none 0 0] (by simp [Act.eval, Act.put]) rfl HNW.out HOC.out (by decide) (by unfold maxLen; omega) (by omega) hsz _ rfl ?_; intro gp cb2 w6 hown hgrow hat hlt; have hpb6 := old_far Hmid.out HOW.out hgrow hpb.out (Or.inl (by decide)); have z4 : w6.cell? ⟨gb, 4, none⟩ = some (.slice B' (bodyT l).length cb') := (Lib.cell_of_heap hpb6 4).trans rfl; have zf : w6.frozen? ⟨gb, 4, none⟩ = false := Lib.frozen_of_heap hpb6 4; obtain ⟨c0, c1, c2, c3, c4, c5, c6, c7⟩ := new8 Hxl.out hown; have cf : ∀ j, w6.frozen? ⟨gp, j, none⟩ = false := fun j => hown.frozenAt j; have hgg : gb ≠ gp := own_ap hown hpb6 (by decide); have hgg' : gp ≠ gb := Ne.symm hgg; have Hown := Lib.hid hown; have Hgrow := Lib.hid hgrow; have hgpN := (hown.lt gp rfl).1; clear hown hgrow hat hlt hpb6))
    all_goals (go_upto_region 23 with fail)
    all_goals trace "A"
    all_goals
      refine wp_of_done (w := w) (ga := ga) (gb := gb) (ba := ba) ?_ ?_
      · refine done3 (gp := gp) (n := nb + 1) (cap := cb2) hT5.out hba5.out hbb5.out hbW5.out hw1 Hmid.out HOW.out Hgrow.out Hown.out (by rw [Hnb.out]) ?_ ?_ ?_
        · with_reducible first | exact setA_far | exact setB_far
        · with_reducible first | exact setA_at hgg | exact setB_at hgg
        · with_reducible first | exact setA_below hgpN hgbN | exact setB_below hgpN hgbN
      intro W hcut
      clear hgg hgg' c0 c1 c2 c3 c4 c5 c6 c7 cf z4 zf
      have a6 : W.cell? ⟨ba, 0, none⟩ = some (.slice (some ⟨ga, 0, none⟩) 2 2) := by rw [Lib.cell_of_heap hcut.hba]; rfl
      have b6 : W.cell? ⟨ba + 1, 0, none⟩ = some (.slice (some ⟨gb, 0, none⟩) 2 2) := by rw [Lib.cell_of_heap hcut.hbb]; rfl
      have hz6 := hcut.hz
      have hD := Lib.hid hcut
      clear hcut
      go_wp2_with (go_at_call 6; refine (hD.out.s1 _ (Below.refl _ _)).mono ?_)
      rintro e w7 ⟨rfl, hb7⟩
      have a7 : w7.cell? ⟨ba, 0, none⟩ = some (.slice (some ⟨ga, 0, none⟩) 2 2) := by rw [Lib.cell_of_heap ((hb7.block ba (Nat.lt_of_succ_lt hz6)).trans hD.out.hba)]; rfl
      have b7 : w7.cell? ⟨ba + 1, 0, none⟩ = some (.slice (some ⟨gb, 0, none⟩) 2 2) := by rw [Lib.cell_of_heap ((hb7.block (ba + 1) hz6).trans hD.out.hbb)]; rfl
      have Hb7 := Lib.hid hb7
      have HS3 := hD.out.s2 _ hb7
      clear hb7
      go_wp2_with (go_at_call 6; refine HS3.mono ?_)
      rintro e w8 ⟨rfl, hb8⟩
      have Hb8 := Lib.hid ((hD.out.hbW.trans (Hb7.out.mono hD.out.hbW.size)).trans (hb8.mono (Nat.le_trans hD.out.hbW.size Hb7.out.size)))
      clear hb8
      go_wp2
      go_ret
      exact ⟨rfl, Hb8.out⟩
  · clear hv0 hv6
    have b5 : w5.cell? ⟨ba + 1, 0, none⟩ = some (.slice (some ⟨gb, 0, none⟩) 2 2) := by rw [Lib.cell_of_heap hbb5.out]; rfl
    have bf : w5.frozen? ⟨ba + 1, 0, none⟩ = false := Lib.frozen_of_heap hbb5.out 0
    go_upto_region 23 with fail
    obtain ⟨W6, hW6⟩ : ∃ W6, W6 = w5.setCell ⟨ba + 1, 0, none⟩ (.slice (some ⟨gb, 0, none⟩) 1 2) := ⟨_, rfl⟩
    rw [← hW6]
    have hba6 : W6.heap[ba]? = some (.cells #[.slice (some ⟨ga, 0, none⟩) 2 2] 25 (0, 0)) := by
      rw [hW6]; exact (Below.heap_setCell _ _ _ _ (by simp)).trans hba5.out
    have hbb6 : W6.heap[ba + 1]? = some (.cells #[.slice (some ⟨gb, 0, none⟩) 1 2] 25 (0, 0)) := by
      rw [hW6]; exact heap_set hbb5.out 0 _
    have hz6 : ba + 1 < W6.heap.size := by rw [hW6]; simpa using hz5
    have hbW6 : Below w.heap.size w W6 := by rw [hW6]; exact hbW5.out.setCell (by simp; omega) _
    have hS1 : ∀ W', Below W6.heap.size W6 W' → Calls Try.prog 6 #[.agg #[.slice (some ⟨ga, 0, none⟩) 2 2], .agg #[.slice (some ⟨gb, 0, none⟩) 1 2]] W' fun e w' => e = .returned (.bool false) ∧ Below W'.heap.size W' w' := fun W' _ => same_len _ _ 2 1 2 2 (by omega) W'
    have hS2 : ∀ W', Below W6.heap.size W6 W' → Calls Try.prog 6 #[.agg #[.slice (some ⟨gb, 0, none⟩) 1 2], .agg #[.slice (some ⟨ga, 0, none⟩) 2 2]] W' fun e w' => e = .returned (.bool false) ∧ Below W'.heap.size W' w' := fun W' _ => same_len _ _ 1 2 2 2 (by omega) W'
    clear b5 bf hW6

    have a6 : W6.cell? ⟨ba, 0, none⟩ = some (.slice (some ⟨ga, 0, none⟩) 2 2) := by rw [Lib.cell_of_heap hba6]; rfl
    have b6 : W6.cell? ⟨ba + 1, 0, none⟩ = some (.slice (some ⟨gb, 0, none⟩) 1 2) := by rw [Lib.cell_of_heap hbb6]; rfl
    have HS1 := Lib.hid hS1
    have HS2 := Lib.hid hS2
    have Hba6 := Lib.hid hba6
    have Hbb6 := Lib.hid hbb6
    have HbW6 := Lib.hid hbW6
    clear hS1 hS2 hba6 hbb6 hbW6
    go_wp2_with (go_at_call 6; refine (HS1.out _ (Below.refl _ _)).mono ?_)
    rintro e w7 ⟨rfl, hb7⟩
    have a7 : w7.cell? ⟨ba, 0, none⟩ = some (.slice (some ⟨ga, 0, none⟩) 2 2) := by rw [Lib.cell_of_heap ((hb7.block ba (Nat.lt_of_succ_lt hz6)).trans Hba6.out)]; rfl
    have b7 : w7.cell? ⟨ba + 1, 0, none⟩ = some (.slice (some ⟨gb, 0, none⟩) 1 2) := by rw [Lib.cell_of_heap ((hb7.block (ba + 1) hz6).trans Hbb6.out)]; rfl
    have Hb7 := Lib.hid hb7
    have HS3 := HS2.out _ hb7
    clear hb7
    go_wp2_with (go_at_call 6; refine HS3.mono ?_)
    rintro e w8 ⟨rfl, hb8⟩
    have Hb8 := Lib.hid ((HbW6.out.trans (Hb7.out.mono HbW6.out.size)).trans (hb8.mono (Nat.le_trans HbW6.out.size Hb7.out.size)))
    clear hb8
    go_wp2
    go_ret
    exact ⟨rfl, Hb8.out⟩
  · clear hv0 hv6
    have hpb := hT5.out.pb
    unfold Prg at hpb
    have y : w5.cell? ⟨gb, 4, none⟩ = some (.slice B' (bodyT l).length cb') := by rw [Lib.cell_of_heap hpb]; rfl
    have yf : w5.frozen? ⟨gb, 4, none⟩ = false := Lib.frozen_of_heap hpb 4
    have hgbl := hT5.out.pb.lt
    have hnb : (bodyT l).length ≤ 12 := (stmtsT_fine 2 (l.take (min l.length 8))).1
    obtain ⟨nb, hnbe⟩ : ∃ nb, nb = (bodyT l).length := ⟨_, rfl⟩
    have Hnb := Lib.hid hnbe
    rw [← hnbe] at y hnb
    clear hnbe
    replace hpb := Lib.hid hpb
    by_cases hz : nb = 0
    · subst hz
      clear hnb yf
      go_wp2
      go_ret
      exact ⟨rfl, hbW5.out⟩
    have hpos : 0 < (bodyT l).length := by have := Hnb.out; omega
    obtain ⟨g', c', hv', hgN', hgl'⟩ := hT5.out.oB'.form hpos
    injection hv' with hB1 hB2 hB3
    have HB' := Lib.hid hB1
    rw [hB1] at y
    have hnz : ((nb : Int) == 0) = false := by simpa using hz
    replace hgN' := Lib.hid hgN'
    replace hgl' := Lib.hid hgl'
    replace hpos := Lib.hid hpos
    clear hB1 hB2 hB3 hz
    go_upto_region 9 with fail
    go_region
    all_goals (go_upto_region 10 with fail)
    all_goals
      refine wp_of_below (w := w5) (((Below.refl _ _).alloc (Nat.le_refl _) _).drew) ?_
      intro w6 hb6
      have hT6 := hT5.out.keep hb6
      have hba6 := (hb6.block ba (Nat.lt_of_succ_lt hz5)).trans hba5.out
      have hbb6 := (hb6.block (ba + 1) hz5).trans hbb5.out
      have hbW6 := hbW5.out.trans (hb6.mono hbW5.out.size)
      have y6 := (hb6.cell (p := ⟨gb, 4, none⟩) hgbl).trans y
      have hgbl6 := Nat.lt_of_lt_of_le hgbl hb6.size
      rw [HB'.out] at hT6
      obtain ⟨Ak, n0, ck, kxs, hn0, hk5, hko, x5, xf⟩ := hT6.first hpos.out
      have hgg' : gb ≠ g' := fun e => by
        have h1 := hT6.pb
        unfold Prg at h1
        obtain ⟨cur, h2⟩ := own_at hT6.oB' (g := g') rfl
        rw [e, h2] at h1
        simp at h1
      have hg'N : N1 ≤ g' := hgN'.out
      have hg'l : g' < w6.heap.size := Nat.lt_of_lt_of_le hgl'.out hb6.size
      have hxl : kxs.length = n0 * 7 := hko.1
      have HT6 := Lib.hid hT6
      have Hba6 := Lib.hid hba6
      have Hbb6 := Lib.hid hbb6
      have HbW6 := Lib.hid hbW6
      have Hk5 := Lib.hid hk5
      have Hxl := Lib.hid hxl
      have hsz6 : N1 ≤ w6.heap.size := hT6.hN
      clear hT6 hba6 hbb6 hbW6 hk5 hxl hb6 y hnz hgbl
      obtain ⟨i0, hi, hz0, hz1, hz2⟩ := info_parts infoEx
      have Hi := Lib.hid hi
      have Hz0 := Lib.hid hz0
      have Hz1 := Lib.hid hz1
      have Hz2 := Lib.hid hz2
      clear hi hz0 hz1 hz2
      have k1 : (0 : Int) ≤ (n0 : Int) := by omega
      have k2 : (n0 : Int) < (n0 : Int) + 1 := by omega
      have k3 : n0 < n0 + 1 := by omega
      have k4 : (0 : Int) < (nb : Int) := by have := Hnb.out; have := hpos.out; omega
      have k5 : 0 < nb := by omega
    · have hmid : Below w6.heap.size w6 (w6.alloc (.cells #[.int .i64 14, .int .i64 0, .int .i64 0, .int .i64 0, .int .i64 0, .string ⟨#[]⟩, .slice none 0 0] 40)).drew := ((Below.refl _ _).alloc (Nat.le_refl _) _).drew
      have HOW := Lib.hid (own_keep hko hmid)
      have HNW : Hid (∀ j u, ([.int .i64 14, .int .i64 0, .int .i64 0, .int .i64 0, .int .i64 0, .string ⟨#[]⟩, .slice none 0 0] : List Value)[j]? = some u → (w6.alloc (.cells #[.int .i64 14, .int .i64 0, .int .i64 0, .int .i64 0, .int .i64 0, .string ⟨#[]⟩, .slice none 0 0] 40)).drew.cell? ((⟨w6.heap.size, 0, none⟩ : Addr).add j) = some u) := Lib.hid (World.news_of_block (w := (w6.alloc (.cells #[.int .i64 14, .int .i64 0, .int .i64 0, .int .i64 0, .int .i64 0, .string ⟨#[]⟩, .slice none 0 0] 40)).drew) (heap_alloc_new w6 (.cells #[.int .i64 14, .int .i64 0, .int .i64 0, .int .i64 0, .int .i64 0, .string ⟨#[]⟩, .slice none 0 0] 40)))
      have HOC : Hid (∀ u ∈ ([.int .i64 14, .int .i64 0, .int .i64 0, .int .i64 0, .int .i64 0, .string ⟨#[]⟩, .slice none 0 0] : List Value), u.oneCell' = true) := Lib.hid (by intro u hu; simp only [List.mem_cons, List.not_mem_nil, or_false] at hu; rcases hu with rfl | rfl | rfl | rfl | rfl | rfl | rfl <;> rfl)
      have hsz : N1 ≤ (w6.alloc (.cells #[.int .i64 14, .int .i64 0, .int .i64 0, .int .i64 0, .int .i64 0, .string ⟨#[]⟩, .slice none 0 0] 40)).drew.heap.size := by simp; omega
      have Hmid := Lib.hid hmid
      clear hko hmid
      go_region_law (first | (refine step_append_lies _ rfl (.tmp 69) (.tmp 71) 36 rfl N1 40 i0 (.agg #[.int .i64 0, .int .i64 0, .int .i64 0, .int .i64 0, .int .i64 0, .string ⟨#[]⟩, .slice none 0 0]) 7 80 Try.underlying36 Hi.out Hz0.out Hz1.out Hz2.out rfl (by decide) (.slice Ak n0 ck) n0 kxs (by simp [Act.eval, Act.put]) HOW.out ⟨w6.heap.size, 0, none⟩ 1 1 [.int .i64 14, .int .i64 0, .int .i64 0, .int .i64 0, .int .i64 0, .string ⟨#[]⟩, .slice none 0 0] (by simp [Act.eval, Act.put]) rfl HNW.out HOC.out (by decide) (by unfold maxLen; omega) (by omega) hsz _ rfl ?_; intro gp cb2 w7 hown hgrow hat hlt; have z4 : w7.cell? ⟨gb, 4, none⟩ = some (.slice (some ⟨g', 0, none⟩) nb cb') := (World.cell?_of_block ((old_far Hmid.out HOW.out hgrow HT6.out.pb (Or.inl (by decide))).trans HT6.out.pb.symm)).trans y6; have z5 : w7.cell? ⟨g', 5, none⟩ = some (.slice Ak n0 ck) := (World.cell?_of_block (old_blk (own_at HT6.out.oB' (g := g') rfl) (by decide) Hmid.out HOW.out hgrow)).trans x5; have zf : w7.frozen? ⟨g', 5, none⟩ = false := (World.frozen?_of_block (old_blk (own_at HT6.out.oB' (g := g') rfl) (by decide) Hmid.out HOW.out hgrow)).trans xf; have Hown := Lib.hid hown; have Hgrow := Lib.hid hgrow; have hgpN := (hown.lt gp rfl).1; clear hown hgrow hat hlt))
      all_goals (go_upto_region 23 with fail)
      all_goals
        refine wp_of_done (w := w) (ga := ga) (gb := gb) (ba := ba) ?_ ?_
        · refine done5 (gp := gp) (cap := cb2) (g' := g') (n0 := n0) HT6.out rfl hpos.out Hba6.out Hbb6.out HbW6.out hw1 Hmid.out Hk5.out HOW.out Hgrow.out Hown.out ?_ ?_ ?_ ?_
          · with_reducible exact setD_far
          · with_reducible exact setD_cell
          · with_reducible exact setD_5 z5
          · with_reducible exact setD_below hg'N
        intro W hcut
        clear z4 z5 zf y6 x5 xf
        have a6 : W.cell? ⟨ba, 0, none⟩ = some (.slice (some ⟨ga, 0, none⟩) 2 2) := by rw [Lib.cell_of_heap hcut.hba]; rfl
        have b6 : W.cell? ⟨ba + 1, 0, none⟩ = some (.slice (some ⟨gb, 0, none⟩) 2 2) := by rw [Lib.cell_of_heap hcut.hbb]; rfl
        have hz6 := hcut.hz
        have hD := Lib.hid hcut
        clear hcut
        go_wp2_with (go_at_call 6; refine (hD.out.s1 _ (Below.refl _ _)).mono ?_)
        rintro e w7 ⟨rfl, hb7⟩
        have a7 : w7.cell? ⟨ba, 0, none⟩ = some (.slice (some ⟨ga, 0, none⟩) 2 2) := by rw [Lib.cell_of_heap ((hb7.block ba (Nat.lt_of_succ_lt hz6)).trans hD.out.hba)]; rfl
        have b7 : w7.cell? ⟨ba + 1, 0, none⟩ = some (.slice (some ⟨gb, 0, none⟩) 2 2) := by rw [Lib.cell_of_heap ((hb7.block (ba + 1) hz6).trans hD.out.hbb)]; rfl
        have Hb7 := Lib.hid hb7
        have HS3 := hD.out.s2 _ hb7
        clear hb7
        go_wp2_with (go_at_call 6; refine HS3.mono ?_)
        rintro e w8 ⟨rfl, hb8⟩
        have Hb8 := Lib.hid ((hD.out.hbW.trans (Hb7.out.mono hD.out.hbW.size)).trans (hb8.mono (Nat.le_trans hD.out.hbW.size Hb7.out.size)))
        clear hb8
        go_wp2
        go_ret
        exact ⟨rfl, Hb8.out⟩
    · have hmid : Below w6.heap.size w6 (w6.alloc (.cells #[.int .i64 0, .int .i64 0, .int .i64 0, .int .i64 0, .int .i64 0, .string ⟨#[]⟩, .slice none 0 0] 40)) := (Below.refl _ _).alloc (Nat.le_refl _) _
      have HOW := Lib.hid (own_keep hko hmid)
      have HNW : Hid (∀ j u, ([.int .i64 0, .int .i64 0, .int .i64 0, .int .i64 0, .int .i64 0, .string ⟨#[]⟩, .slice none 0 0] : List Value)[j]? = some u → (w6.alloc (.cells #[.int .i64 0, .int .i64 0, .int .i64 0, .int .i64 0, .int .i64 0, .string ⟨#[]⟩, .slice none 0 0] 40)).cell? ((⟨w6.heap.size, 0, none⟩ : Addr).add j) = some u) := Lib.hid (World.news_of_block (w := w6.alloc (.cells #[.int .i64 0, .int .i64 0, .int .i64 0, .int .i64 0, .int .i64 0, .string ⟨#[]⟩, .slice none 0 0] 40)) (heap_alloc_new w6 (.cells #[.int .i64 0, .int .i64 0, .int .i64 0, .int .i64 0, .int .i64 0, .string ⟨#[]⟩, .slice none 0 0] 40)))
      have HOC : Hid (∀ u ∈ ([.int .i64 0, .int .i64 0, .int .i64 0, .int .i64 0, .int .i64 0, .string ⟨#[]⟩, .slice none 0 0] : List Value), u.oneCell' = true) := Lib.hid (by intro u hu; simp only [List.mem_cons, List.not_mem_nil, or_false] at hu; rcases hu with rfl | rfl | rfl | rfl | rfl | rfl | rfl <;> rfl)
      have hsz : N1 ≤ (w6.alloc (.cells #[.int .i64 0, .int .i64 0, .int .i64 0, .int .i64 0, .int .i64 0, .string ⟨#[]⟩, .slice none 0 0] 40)).heap.size := by simp; omega
      have Hmid := Lib.hid hmid
      clear hko hmid
      go_wp2_with (at_builtin; refine wpList_append_lies _ rfl (.tmp 51) (.tmp 54) 36 rfl N1 40 i0 (.agg #[.int .i64 0, .int .i64 0, .int .i64 0, .int .i64 0, .int .i64 0, .string ⟨#[]⟩, .slice none 0 0]) 7 80 Try.underlying36 Hi.out Hz0.out Hz1.out Hz2.out rfl (by decide) (.slice Ak n0 ck) n0 kxs rfl HOW.out ⟨w6.heap.size, 0, none⟩ 1 1 [.int .i64 0, .int .i64 0, .int .i64 0, .int .i64 0, .int .i64 0, .string ⟨#[]⟩, .slice none 0 0] rfl rfl HNW.out HOC.out (by decide) (by unfold maxLen; omega) (by omega) hsz _ rfl ?_)
      intro gp cb2 w7 hown hgrow hat hlt
      have z5 : w7.cell? ⟨g', 5, none⟩ = some (.slice Ak n0 ck) := (World.cell?_of_block (old_blk (own_at HT6.out.oB' (g := g') rfl) (by decide) Hmid.out HOW.out hgrow)).trans x5
      have zf : w7.frozen? ⟨g', 5, none⟩ = false := (World.frozen?_of_block (old_blk (own_at HT6.out.oB' (g := g') rfl) (by decide) Hmid.out HOW.out hgrow)).trans xf
      have hgp : g' ≠ gp := by
        obtain ⟨cur, h2⟩ := own_at HT6.out.oB' (g := g') rfl
        exact own_ap hown (old_far Hmid.out HOW.out hgrow h2 (Or.inl (by decide))) (by decide)
      have hgp' : gp ≠ g' := Ne.symm hgp
      obtain ⟨c0, c1, c2, c3, c4, c5, c6⟩ := new7 Hxl.out hown
      have cf : ∀ j, w7.frozen? ⟨gp, j, none⟩ = false := fun j => hown.frozenAt j
      have Hown := Lib.hid hown
      have Hgrow := Lib.hid hgrow
      have hgpN := (hown.lt gp rfl).1
      clear hown hgrow hat hlt
      go_upto_region 23 with fail
      refine wp_of_done (w := w) (ga := ga) (gb := gb) (ba := ba) ?_ ?_
      · refine done5 (gp := gp) (cap := cb2) (g' := g') (n0 := n0) HT6.out rfl hpos.out Hba6.out Hbb6.out HbW6.out hw1 Hmid.out Hk5.out HOW.out Hgrow.out Hown.out ?_ ?_ ?_ ?_
        · with_reducible exact setC_far
        · with_reducible exact setC_cell hgp
        · with_reducible exact setC_5 hgp z5
        · with_reducible exact setC_below hgpN hg'N
      intro W hcut
      clear z5 zf y6 x5 xf c0 c1 c2 c3 c4 c5 c6 cf
      have a6 : W.cell? ⟨ba, 0, none⟩ = some (.slice (some ⟨ga, 0, none⟩) 2 2) := by rw [Lib.cell_of_heap hcut.hba]; rfl
      have b6 : W.cell? ⟨ba + 1, 0, none⟩ = some (.slice (some ⟨gb, 0, none⟩) 2 2) := by rw [Lib.cell_of_heap hcut.hbb]; rfl
      have hz6 := hcut.hz
      have hD := Lib.hid hcut
      clear hcut
      go_wp2_with (go_at_call 6; refine (hD.out.s1 _ (Below.refl _ _)).mono ?_)
      rintro e w7 ⟨rfl, hb7⟩
      have a7 : w7.cell? ⟨ba, 0, none⟩ = some (.slice (some ⟨ga, 0, none⟩) 2 2) := by rw [Lib.cell_of_heap ((hb7.block ba (Nat.lt_of_succ_lt hz6)).trans hD.out.hba)]; rfl
      have b7 : w7.cell? ⟨ba + 1, 0, none⟩ = some (.slice (some ⟨gb, 0, none⟩) 2 2) := by rw [Lib.cell_of_heap ((hb7.block (ba + 1) hz6).trans hD.out.hbb)]; rfl
      have Hb7 := Lib.hid hb7
      have HS3 := hD.out.s2 _ hb7
      clear hb7
      go_wp2_with (go_at_call 6; refine HS3.mono ?_)
      rintro e w8 ⟨rfl, hb8⟩
      have Hb8 := Lib.hid ((hD.out.hbW.trans (Hb7.out.mono hD.out.hbW.size)).trans (hb8.mono (Nat.le_trans hD.out.hbW.size Hb7.out.size)))
      clear hb8
      go_wp2
      go_ret
      exact ⟨rfl, Hb8.out⟩
end Go.Proofs.Ytpnpjlggikdinaa
