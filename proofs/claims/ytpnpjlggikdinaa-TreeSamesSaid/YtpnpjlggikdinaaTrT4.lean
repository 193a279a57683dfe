/-
  The law's Tree: a program of a list.
-/
import Derived.Test.YtpnpjlggikdinaaTrT3
import Derived.Deep.RegionLaw
import Derived.Deep.RegionHeld3
namespace Go.Proofs.Ytpnpjlggikdinaa
open Go.RowKit

set_option maxRecDepth 100000 in
set_option maxHeartbeats 8000000 in
theorem tree_walk (N : Nat) (nm : ByteArray) (hnm : nm.size ≤ 20) (l : List EE) (A : Option Addr) (cap : Nat) (hl : l.length ≤ cap) (hc : cap ≤ maxLen) (hsm : SmallL l) (w : World) (hN : N ≤ w.heap.size) (h : RdL w N A l) :
    Calls Try.prog 4 #[.slice A l.length cap, .string nm] w (TreePost nm l w) := by
  obtain ⟨A1, hcut, hR1⟩ := h.head_run hl (min l.length 8) (by omega)
  have hl1 : (l.take (min l.length 8)).length ≤ cap := by rw [List.length_take]; omega
  unfold maxLen at hc
  obtain ⟨n, hn⟩ : ∃ n, n = l.length := ⟨_, rfl⟩
  have Hn := Lib.hid hn
  rw [← hn] at hl hcut ⊢
  have HN := Lib.hid hN
  have HR := Lib.hid h
  have HR1 := Lib.hid hR1
  have HS := Lib.hid hsm
  have hminn : min (nm.size : Int) 20 = (nm.size : Int) := by omega
  have hext : nm.extract 0 nm.size = nm := by simp
  rw [← hn] at hl1
  have Hst : ∀ W : World, Below w.heap.size w W → w.heap.size ≤ W.heap.size → Calls Try.prog 7 #[.slice A1 (l.take (min n 8)).length cap, .int .i64 2] W (StmtsPost W (bodyT l)) := fun W hb hz => by
    have := stmts_at N 2 (by omega) (l.take (min l.length 8)) A1 cap W (HR1.out.keep (hb.mono HN.out)) (by rw [← Hn.out]; exact hl1) (by unfold maxLen; omega) (Nat.le_trans HN.out hz) (fun y hy => HS.out y (List.mem_of_mem_take hy))
    rw [Hn.out]
    exact this
  obtain ⟨m8, hm8⟩ : ∃ m8, m8 = min n 8 := ⟨_, rfl⟩
  have hmin : min (n : Int) 8 = (m8 : Int) := by omega
  rw [← hm8] at hcut
  obtain ⟨n8, hn8⟩ : ∃ n8, n8 = (l.take m8).length := ⟨_, rfl⟩
  rw [← hm8] at hl1 Hst
  rw [← hn8] at hcut Hst hl1
  have HA : ∀ o, Calls Try.prog 7 #[.slice A1 n8 cap, .int .i64 2] (w.alloc o).drew (StmtsPost (w.alloc o).drew (bodyT l)) := fun o => Hst _ (((Below.refl _ _).alloc (Nat.le_refl _) _).drew) (by simp)
  have HB : ∀ o, Calls Try.prog 7 #[.slice A1 n8 cap, .int .i64 2] ((w.alloc o).alloc (.cells #[.string ⟨#[]⟩, .int .i64 0, .slice none 0 0, .int .i64 0, .slice none 0 0, .int .i64 0] 31)).drew fun e w1 => StmtsPost ((w.alloc o).alloc (.cells #[.string ⟨#[]⟩, .int .i64 0, .slice none 0 0, .int .i64 0, .slice none 0 0, .int .i64 0] 31)).drew (bodyT l) e w1 ∧ w1.heap[w.heap.size + 1]? = some (.cells #[.string ⟨#[]⟩, .int .i64 0, .slice none 0 0, .int .i64 0, .slice none 0 0, .int .i64 0] 31 (0, 0)) := fun o => by
    refine (Hst _ ((((Below.refl _ _).alloc (Nat.le_refl _) _).alloc (by simp) _).drew) (by simp; omega)).mono ?_
    intro e w1 hp
    refine ⟨hp, ?_⟩
    obtain ⟨v, xs, _, _, hb⟩ := hp
    refine (hb.block (w.heap.size + 1) (by simp)).trans ?_
    have h1 := heap_alloc_new (w.alloc o) (.cells #[.string ⟨#[]⟩, .int .i64 0, .slice none 0 0, .int .i64 0, .slice none 0 0, .int .i64 0] 31)
    rw [show (w.alloc o).heap.size = w.heap.size + 1 by simp] at h1
    exact h1
  replace hm8 := Lib.hid hm8
  clear hn hN h hR1 hsm hn8 Hst
  go_enter Try.func4, Try.ntmps4
  go_upto_region 1 with fail
  go_cut [5] (fun s5 wx => MidT nm l ((n : Int).tmod 5) w s5 wx)
  case first =>
    go_region_with (first
      | (go_at_call 7; (with_reducible refine (HA _).mono ?_); rintro e w1 ⟨v, bxs, rfl, hSt, hb⟩; obtain ⟨B, cb, rfl⟩ := own_form hSt.1; have HSt := Lib.hid hSt; have Hb := Lib.hid hb; clear hSt hb; have tokA : True := trivial)
      | (go_at_call 7; (with_reducible refine (HB _).mono ?_); rintro e w1 ⟨⟨v, bxs, rfl, hSt, hb⟩, hz⟩; obtain ⟨z0, z1, z2, z3, z4, z5⟩ := fn6 hz; have zf : ∀ j, w1.frozen? ⟨w.heap.size + 1, j, none⟩ = false := fun j => Lib.frozen_of_heap hz j; have Hz := Lib.hid hz; clear hz; obtain ⟨B, cb, rfl⟩ := own_form hSt.1; have HSt := Lib.hid hSt; have Hb := Lib.hid hb; clear hSt hb; have tokB : True := trivial))
    all_goals (go_wp2_with fail; go_meet; first | exact mid_A HSt.out Hb.out | exact mid_B HSt.out Hb.out Hz.out)
  case rest =>
  rw [Int.tmod_eq_emod_of_nonneg (by omega)] at hcut
  obtain ⟨W, hW⟩ : ∃ W, W = wc := ⟨_, rfl⟩
  subst hW
  obtain ⟨bf, B, cb, bxs, lo, w1, rfl, hF, hT0, hSt, hlo, hbf, hbl, hfz, hbW, hwW, hb⟩ := hcut
  replace hF := Lib.hid hF
  replace hT0 := Lib.hid hT0
  have HSt := Lib.hid hSt
  have Hbl := Lib.hid hbl
  replace hfz := Lib.hid hfz
  replace hb := Lib.hid hb
  obtain ⟨i0, hi, hz0, hz1, hz2⟩ := info_parts infoPa
  have Hi := Lib.hid hi
  have Hz0 := Lib.hid hz0
  have Hz1 := Lib.hid hz1
  have Hz2 := Lib.hid hz2
  have hsW : w.heap.size ≤ W.heap.size := hb.out.size
  have hmod : (n : Int) % 3 = ((n % 3 : Nat) : Int) := by omega
  obtain ⟨q, hq⟩ : ∃ q, q = n % 3 := ⟨_, rfl⟩
  rw [← hq] at hmod
  have hqn : q ≤ n := by omega
  have hq3 : q ≤ 2 := by omega
  have Hq := Lib.hid hq
  clear hSt hbl hi hz0 hz1 hz2 hq HA HB hminn hext hmin
  go_wp2
  go_loopw [6] (fun u wr => ∃ (i : Nat) (P : Option Addr) (cp : Nat), i ≤ q ∧ u = .int .i64 i ∧ Hid (wr.ownsRow W.heap.size 35 2 (.slice P i cp) i (paCells ((paramsT l).take i))) ∧ Hid (wr.heap[bf]? = some (.cells #[.string nm, .int .i64 0, .slice P i cp, .int .i64 ((n : Int) % 5), .slice B (bodyT l).length cb, .int .i64 0] 31 (0, 0))) ∧ Hid (wr.heap[w.heap.size]? = some (.cells #[.slice none 0 0] 25 (0, 0))) ∧ Hid (∀ k, lo ≤ k → k < w1.heap.size → wr.heap[k]? = w1.heap[k]?) ∧ Hid (Below w.heap.size w wr) ∧ W.heap.size ≤ wr.heap.size) (fun u _ => q - (intOf u).toNat)
  case atStart => exact ⟨0, none, 0, Nat.zero_le _, rfl, Lib.hid (by simpa [paCells] using World.ownsRow_nil W W.heap.size 35 2), hF, hT0, hfz, hb, Nat.le_refl _⟩
  case round =>
    obtain ⟨i, P, cp, hi, rfl, hP, hF', hT', hfz', hb', hz'⟩ := hrel
    by_cases hlt : i < q
    · have hin : i < l.length := by have := Hn.out; omega
      obtain ⟨g, o, rfl, hg, hx⟩ := HR.out (by omega)
      obtain ⟨x, hxe⟩ : ∃ x, l[i]? = some x := ⟨_, List.getElem?_eq_getElem hin⟩
      obtain ⟨x0, _, _, x3, _⟩ := hx i x hxe
      have hxs : x.s.size ≤ maxLen := HS.out x (List.mem_of_getElem? hxe)
      unfold maxLen at hxs
      have cc1 : ∀ j v, w.cell? ⟨g, j, none⟩ = some v → wr.cell? ⟨g, j, none⟩ = some v := fun j v e => (hb'.out.cell (p := ⟨g, j, none⟩) (Nat.lt_of_lt_of_le hg HN.out)).trans e
      replace x0 := cc1 _ _ x0
      replace x3 := cc1 _ _ x3
      have hgr : g < wr.heap.size := Nat.lt_of_lt_of_le hg (Nat.le_trans HN.out hb'.out.size)
      obtain ⟨p, hp⟩ : ∃ p : Nat, min (x.s.size : Int) 20 = (p : Int) := ⟨min x.s.size 20, by omega⟩
      have hps : p ≤ x.s.size := by omega
      have HC := Lib.hid (cut20_min x.s p hp)
      have hk3 := and3 x.kind
      have f2 : wr.cell? ⟨bf, 2, none⟩ = some (.slice P i cp) := by rw [Lib.cell_of_heap hF'.out]; rfl
      have hbr : bf < wr.heap.size := by omega
      have Hxe := Lib.hid hxe
      have hmid : Below wr.heap.size wr (wr.alloc (.cells #[.string (x.s.extract 0 p), .int .i64 (x.kind % 4)] 35)).drew := ((Below.refl _ _).alloc (Nat.le_refl _) _).drew
      have HOW := Lib.hid (own_keep hP.out hmid)
      have HNW : Hid (∀ j u, ([.string (x.s.extract 0 p), .int .i64 (x.kind % 4)] : List Value)[j]? = some u → (wr.alloc (.cells #[.string (x.s.extract 0 p), .int .i64 (x.kind % 4)] 35)).drew.cell? ((⟨wr.heap.size, 0, none⟩ : Addr).add j) = some u) := Lib.hid (World.news_of_block (w := (wr.alloc (.cells #[.string (x.s.extract 0 p), .int .i64 (x.kind % 4)] 35)).drew) (heap_alloc_new wr (.cells #[.string (x.s.extract 0 p), .int .i64 (x.kind % 4)] 35)))
      have HOC : Hid (∀ u ∈ ([.string (x.s.extract 0 p), .int .i64 (x.kind % 4)] : List Value), u.oneCell' = true) := Lib.hid (by intro u hu; simp only [List.mem_cons, List.not_mem_nil, or_false] at hu; rcases hu with rfl | rfl <;> rfl)
      have hszP : W.heap.size ≤ (wr.alloc (.cells #[.string (x.s.extract 0 p), .int .i64 (x.kind % 4)] 35)).drew.heap.size := by simp; omega
      have hin2 : i < n := by omega
      have hgW : g < W.heap.size := Nat.lt_of_lt_of_le hg (Nat.le_trans HN.out hsW)
      have hgb : g ≠ bf := by have := HN.out; omega
      clear cc1 hx hxe hin hmid
      go_wp2
      refine wp_region_noPanic ?_
      refine wp_region_held_drew (S := fun w' => w'.cell? ⟨g, o + i * 5, none⟩ = some (.int .i64 x.kind) ∧ w'.cell? ⟨g, o + i * 5 + 3, none⟩ = some (.string x.s)) (by kernel_rfl) ⟨x0, x3⟩ (fun hHeld => ?_)
      refine wpAnyH_take (i := 0) (v := ?_) rfl (by kernel_rfl) (by kernel_rfl) (by kernel_rfl) (fun _ _ _ h => h) (Or.inl ⟨by rfl, ?_⟩) (by assumption) ?_
      rotate_left
      · (intro w hSw; (try dsimp only at hSw); first | (go_simp; done) | (go_simp; with_reducible rfl))
      try simp only [Act.put, List.setIfInBounds_toArray, List.set_cons_zero, List.set_cons_succ]
      refine wpAnyH_take (i := 2) (v := ?_) rfl (by kernel_rfl) (by kernel_rfl) (by kernel_rfl) (fun _ _ _ h => h) (Or.inl ⟨by rfl, ?_⟩) (by assumption) ?_
      rotate_left
      · (intro w hSw; (try dsimp only at hSw); first | (go_simp; done) | (go_simp; with_reducible rfl))
      try simp only [Act.put, List.setIfInBounds_toArray, List.set_cons_zero, List.set_cons_succ]
      refine wpAnyH_take (i := 3) (v := ?_) rfl (by kernel_rfl) (by kernel_rfl) (by kernel_rfl) (fun _ _ _ h => h) (Or.inl ⟨by rfl, ?_⟩) (by assumption) ?_
      rotate_left
      · (intro w hSw; (try dsimp only at hSw); first | (go_simp; done) | (go_simp; with_reducible rfl))
      try simp only [Act.put, List.setIfInBounds_toArray, List.set_cons_zero, List.set_cons_succ]
      refine wpAnyH_take (i := 4) (v := ?_) rfl (by kernel_rfl) (by kernel_rfl) (by kernel_rfl) (fun _ _ _ h => h) (Or.inl ⟨by rfl, ?_⟩) (by assumption) ?_
      rotate_left
      · (intro w hSw; (try dsimp only at hSw); first | (go_simp; done) | (go_simp; with_reducible rfl))
      try simp only [Act.put, List.setIfInBounds_toArray, List.set_cons_zero, List.set_cons_succ]
      refine wpAnyH_take (i := 5) (v := ?_) rfl (by kernel_rfl) (by kernel_rfl) (by kernel_rfl) (fun _ _ _ h => h) (Or.inl ⟨by rfl, ?_⟩) (by assumption) ?_
      rotate_left
      · (intro w hSw; (try dsimp only at hSw); first | (go_simp; done) | (go_simp; with_reducible rfl))
      try simp only [Act.put, List.setIfInBounds_toArray, List.set_cons_zero, List.set_cons_succ]
      refine wpAnyH_take (i := 6) (v := ?_) rfl (by kernel_rfl) (by kernel_rfl) (by kernel_rfl) (fun _ _ _ h => h) (Or.inl ⟨by rfl, ?_⟩) (by assumption) ?_
      rotate_left
      · (intro w hSw; (try dsimp only at hSw); first | (go_simp; done) | (go_simp; with_reducible rfl))
      try simp only [Act.put, List.setIfInBounds_toArray, List.set_cons_zero, List.set_cons_succ]
      refine wpAnyH_take (i := 7) (v := ?_) rfl (by kernel_rfl) (by kernel_rfl) (by kernel_rfl) (fun _ _ _ h => h) (Or.inl ⟨by rfl, ?_⟩) (by assumption) ?_
      rotate_left
      · (intro w hSw; (try dsimp only at hSw); first | (go_simp; done) | (go_simp; with_reducible rfl))
      try simp only [Act.put, List.setIfInBounds_toArray, List.set_cons_zero, List.set_cons_succ]
      refine wpAnyH_take (i := 8) (v := ?_) rfl (by kernel_rfl) (by kernel_rfl) (by kernel_rfl) (fun _ _ _ h => h) (Or.inl ⟨by rfl, ?_⟩) (by assumption) ?_
      rotate_left
      · (intro w hSw; (try dsimp only at hSw); first | (go_simp; done) | (go_simp; with_reducible rfl))
      try simp only [Act.put, List.setIfInBounds_toArray, List.set_cons_zero, List.set_cons_succ]
      refine wpAnyH_take (i := 9) (v := ?_) rfl (by kernel_rfl) (by kernel_rfl) (by kernel_rfl) (fun _ _ _ h => h) (Or.inl ⟨by rfl, ?_⟩) (by assumption) ?_
      rotate_left
      · (intro w hSw; (try dsimp only at hSw); first | (go_simp; done) | (go_simp; with_reducible rfl))
      try simp only [Act.put, List.setIfInBounds_toArray, List.set_cons_zero, List.set_cons_succ]
      refine wpAnyH_take (i := 10) (v := ?_) rfl (by kernel_rfl) (by kernel_rfl) (by kernel_rfl) (fun _ _ _ h => h) (Or.inl ⟨by rfl, ?_⟩) (by assumption) ?_
      rotate_left
      · (intro w hSw; (try dsimp only at hSw); first | (go_simp; done) | (go_simp; with_reducible rfl))
      try simp only [Act.put, List.setIfInBounds_toArray, List.set_cons_zero, List.set_cons_succ]
      refine wpAnyH_take (i := 11) (v := ?_) rfl (by kernel_rfl) (by kernel_rfl) (by kernel_rfl) (fun _ _ _ h => h) (Or.inl ⟨by rfl, ?_⟩) (by assumption) ?_
      rotate_left
      · (intro w hSw; (try dsimp only at hSw); first | (go_simp; done) | (go_simp; with_reducible rfl))
      try simp only [Act.put, List.setIfInBounds_toArray, List.set_cons_zero, List.set_cons_succ]
      refine wpAnyH_take (i := 12) (v := ?_) rfl (by kernel_rfl) (by kernel_rfl) (by kernel_rfl) (fun _ _ _ h => h) (Or.inl ⟨by rfl, ?_⟩) (by assumption) ?_
      rotate_left
      · (intro w hSw; (try dsimp only at hSw); first | (go_simp; done) | (go_simp; with_reducible rfl))
      try simp only [Act.put, List.setIfInBounds_toArray, List.set_cons_zero, List.set_cons_succ]
      refine wpAnyH_take (i := 13) (v := ?_) rfl (by kernel_rfl) (by kernel_rfl) (by kernel_rfl) (fun _ _ _ h => h) (Or.inl ⟨by rfl, ?_⟩) (by assumption) ?_
      rotate_left
      · (intro w hSw; (try dsimp only at hSw); first | (go_simp; done) | (go_simp; with_reducible rfl))
      try simp only [Act.put, List.setIfInBounds_toArray, List.set_cons_zero, List.set_cons_succ]
      refine wpAnyH_take (i := 14) (v := ?_) rfl (by kernel_rfl) (by kernel_rfl) (by kernel_rfl) (fun _ _ _ h => h) (Or.inl ⟨by rfl, ?_⟩) (by assumption) ?_
      rotate_left
      · (intro w hSw; (try dsimp only at hSw); first | (go_simp; done) | (go_simp; with_reducible rfl))
      try simp only [Act.put, List.setIfInBounds_toArray, List.set_cons_zero, List.set_cons_succ]
      refine wpAnyH_take (i := 15) (v := ?_) rfl (by kernel_rfl) (by kernel_rfl) (by kernel_rfl) (fun _ _ _ h => h) (Or.inl ⟨by rfl, ?_⟩) (by assumption) ?_
      rotate_left
      · (intro w hSw; (try dsimp only at hSw); first | (go_simp; done) | (go_simp; with_reducible rfl))
      try simp only [Act.put, List.setIfInBounds_toArray, List.set_cons_zero, List.set_cons_succ]
      refine wpAnyH_take (i := 16) (v := ?_) rfl (by kernel_rfl) (by kernel_rfl) (by kernel_rfl) (fun _ _ _ h => h) (Or.inl ⟨by rfl, ?_⟩) (by assumption) ?_
      rotate_left
      · (intro w hSw; (try dsimp only at hSw); first | (go_simp; done) | (go_simp; with_reducible rfl))
      try simp only [Act.put, List.setIfInBounds_toArray, List.set_cons_zero, List.set_cons_succ]
      refine wpAnyH_take (i := 17) (v := ?_) rfl (by kernel_rfl) (by kernel_rfl) (by kernel_rfl) (fun _ _ _ h => h) (Or.inl ⟨by rfl, ?_⟩) (by assumption) ?_
      rotate_left
      · (intro w hSw; (try dsimp only at hSw); first | (go_simp; done) | (go_simp; with_reducible rfl))
      try simp only [Act.put, List.setIfInBounds_toArray, List.set_cons_zero, List.set_cons_succ]
      refine wpAnyH_take (i := 18) (v := ?_) rfl (by kernel_rfl) (by kernel_rfl) (by kernel_rfl) (fun _ _ _ h => h) (Or.inl ⟨by rfl, ?_⟩) (by assumption) ?_
      rotate_left
      · (intro w hSw; (try dsimp only at hSw); first | (go_simp; done) | (go_simp; with_reducible rfl))
      try simp only [Act.put, List.setIfInBounds_toArray, List.set_cons_zero, List.set_cons_succ]
      refine wpAnyH_take (i := 19) (v := ?_) rfl (by kernel_rfl) (by kernel_rfl) (by kernel_rfl) (fun _ _ _ h => h) (Or.inl ⟨by rfl, ?_⟩) (by assumption) ?_
      rotate_left
      · (intro w hSw; (try dsimp only at hSw); first | (go_simp; done) | (go_simp; with_reducible rfl))
      try simp only [Act.put, List.setIfInBounds_toArray, List.set_cons_zero, List.set_cons_succ]
      refine wpAnyH_take (i := 20) (v := ?_) rfl (by kernel_rfl) (by kernel_rfl) (by kernel_rfl) (fun _ _ _ h => h) (Or.inl ⟨by rfl, ?_⟩) (by assumption) ?_
      rotate_left
      · (intro w hSw; (try dsimp only at hSw); first | (go_simp; done) | (go_simp; with_reducible rfl))
      try simp only [Act.put, List.setIfInBounds_toArray, List.set_cons_zero, List.set_cons_succ]
      refine wpAnyH_take (i := 21) (v := ?_) rfl (by kernel_rfl) (by kernel_rfl) (by kernel_rfl) (fun _ _ _ h => h) (Or.inl ⟨by rfl, ?_⟩) (by assumption) ?_
      rotate_left
      · (intro w hSw; (try dsimp only at hSw); first | (go_simp; done) | (go_simp; with_reducible rfl))
      try simp only [Act.put, List.setIfInBounds_toArray, List.set_cons_zero, List.set_cons_succ]
      refine wpAnyH_ready (rs := [1, 22]) (by kernel_rfl) (by simp) ?_
      refine AllReadyH.cons rfl (fun K hK => ?_) (AllReadyH.cons rfl (fun K hK => ?_) AllReadyH.nil)
      go_simp
      refine hK.out _ _ ?_ (fun hHeld => ?_)
      · ((try dsimp only); (first | exact ⟨x0, x3⟩ | exact s5 | exact ⟨(World.cell?_setCell_other _ _ _ _ (by first | (simp [hgb]; done) | (simp [Ne.symm hgb]; done))).trans s5.1, (World.cell?_setCell_other _ _ _ _ (by first | (simp [hgb]; done) | (simp [Ne.symm hgb]; done))).trans s5.2⟩ | go_keep))
      clear hK K
      try simp only [Act.put, List.setIfInBounds_toArray, List.set_cons_zero, List.set_cons_succ]
      refine wpAnyH_ready (rs := [22]) (by kernel_rfl) (by simp) ?_
      refine AllReadyH.cons rfl (fun K hK => ?_) AllReadyH.nil
      go_simp
      refine hK.out _ _ ?_ (fun hHeld => ?_)
      · ((try dsimp only); (first | exact ⟨x0, x3⟩ | exact s5 | exact ⟨(World.cell?_setCell_other _ _ _ _ (by first | (simp [hgb]; done) | (simp [Ne.symm hgb]; done))).trans s5.1, (World.cell?_setCell_other _ _ _ _ (by first | (simp [hgb]; done) | (simp [Ne.symm hgb]; done))).trans s5.2⟩ | go_keep))
      clear hK K
      try simp only [Act.put, List.setIfInBounds_toArray, List.set_cons_zero, List.set_cons_succ]
      refine wpAnyH_ready (rs := [23]) (by kernel_rfl) (by simp) ?_
      refine AllReadyH.cons rfl (fun K hK => ?_) AllReadyH.nil
      refine step_append_lies _ rfl (.tmp 30) (.tmp 51) 28 rfl W.heap.size 35 i0 (.agg #[.string ⟨#[]⟩, .int .i64 0]) 2 24 Try.underlying28 Hi.out Hz0.out Hz1.out Hz2.out rfl (by decide) (.slice P i cp) i (paCells ((paramsT l).take i)) (by simp [Act.eval, Act.put]) HOW.out ⟨wr.heap.size, 0, none⟩ 1 1 [.string (x.s.extract 0 p), .int .i64 (x.kind % 4)] (by simp [Act.eval, Act.put]) rfl HNW.out HOC.out (by decide) (by unfold maxLen; omega) (by omega) hszP _ rfl ?_; intro gp cp2 w5 hown5 hgrow5 hat5 hlt5; have hF5 := (hgrow5.block bf (by simp; omega) (own_ne HOW.out hbW)).trans ((Below.heap_alloc _ _ _ hbr).trans hF'.out); have e5 : w5.cell? ⟨bf, 2, none⟩ = some (.slice P i cp) := (Lib.cell_of_heap hF5 2).trans rfl; have f5 := Lib.frozen_of_heap hF5 2; replace hF5 := Lib.hid hF5; have Hown5 := Lib.hid hown5; have Hgrow5 := Lib.hid hgrow5; have s5 : w5.cell? ⟨g, o + i * 5, none⟩ = some (.int .i64 x.kind) ∧ w5.cell? ⟨g, o + i * 5 + 3, none⟩ = some (.string x.s) := ⟨((hgrow5.cell_far _ (by simp; omega) (own_ne HOW.out hgW)).trans ((World.cell?_of_block (Below.heap_alloc _ _ _ hgr)).trans x0)), ((hgrow5.cell_far _ (by simp; omega) (own_ne HOW.out hgW)).trans ((World.cell?_of_block (Below.heap_alloc _ _ _ hgr)).trans x3))⟩; clear hown5 hgrow5 hat5 hlt5
      refine hK.out _ _ ?_ (fun hHeld => ?_)
      · ((try dsimp only); (first | exact ⟨x0, x3⟩ | exact s5 | exact ⟨(World.cell?_setCell_other _ _ _ _ (by first | (simp [hgb]; done) | (simp [Ne.symm hgb]; done))).trans s5.1, (World.cell?_setCell_other _ _ _ _ (by first | (simp [hgb]; done) | (simp [Ne.symm hgb]; done))).trans s5.2⟩ | go_keep))
      clear hK K
      try simp only [Act.put, List.setIfInBounds_toArray, List.set_cons_zero, List.set_cons_succ]
      refine wpAnyH_take (i := 24) (v := ?_) rfl (by kernel_rfl) (by kernel_rfl) (by kernel_rfl) (fun _ _ _ h => h) (Or.inl ⟨by rfl, ?_⟩) (by assumption) ?_
      rotate_left
      · (intro w hSw; (try dsimp only at hSw); first | (go_simp; done) | (go_simp; with_reducible rfl))
      try simp only [Act.put, List.setIfInBounds_toArray, List.set_cons_zero, List.set_cons_succ]
      refine wpAnyH_ready (rs := [25]) (by kernel_rfl) (by simp) ?_
      refine AllReadyH.cons rfl (fun K hK => ?_) AllReadyH.nil
      go_simp
      refine hK.out _ _ ?_ (fun hHeld => ?_)
      · ((try dsimp only); (first | exact ⟨x0, x3⟩ | exact s5 | exact ⟨(World.cell?_setCell_other _ _ _ _ (by first | (simp [hgb]; done) | (simp [Ne.symm hgb]; done))).trans s5.1, (World.cell?_setCell_other _ _ _ _ (by first | (simp [hgb]; done) | (simp [Ne.symm hgb]; done))).trans s5.2⟩ | go_keep))
      clear hK K
      try simp only [Act.put, List.setIfInBounds_toArray, List.set_cons_zero, List.set_cons_succ]
      refine wpAnyH_done (by kernel_rfl) ?_ _
      refine NoPanic.normal ?_
      rotate_left
      go_simp
      refine hK.out _ _ ?_ (fun hHeld => ?_)
      · ((try dsimp only); (first | exact ⟨x0, x3⟩ | exact s5 | exact ⟨(World.cell?_setCell_other _ _ _ _ (by first | (simp [hgb]; done) | (simp [Ne.symm hgb]; done))).trans s5.1, (World.cell?_setCell_other _ _ _ _ (by first | (simp [hgb]; done) | (simp [Ne.symm hgb]; done))).trans s5.2⟩ | go_keep))
      clear hK K
      try simp only [Act.put, List.setIfInBounds_toArray, List.set_cons_zero, List.set_cons_succ]
      refine wpAnyH_ready (rs := [1]) (by kernel_rfl) (by simp) ?_
      refine AllReadyH.cons rfl (fun K hK => ?_) AllReadyH.nil
      go_simp
      refine hK.out _ _ ?_ (fun hHeld => ?_)
      · ((try dsimp only); (first | exact ⟨x0, x3⟩ | exact s5 | exact ⟨(World.cell?_setCell_other _ _ _ _ (by first | (simp [hgb]; done) | (simp [Ne.symm hgb]; done))).trans s5.1, (World.cell?_setCell_other _ _ _ _ (by first | (simp [hgb]; done) | (simp [Ne.symm hgb]; done))).trans s5.2⟩ | go_keep))
      clear hK K
      try simp only [Act.put, List.setIfInBounds_toArray, List.set_cons_zero, List.set_cons_succ]
      refine wpAnyH_ready (rs := [23]) (by kernel_rfl) (by simp) ?_
      refine AllReadyH.cons rfl (fun K hK => ?_) AllReadyH.nil
      refine step_append_lies _ rfl (.tmp 30) (.tmp 51) 28 rfl W.heap.size 35 i0 (.agg #[.string ⟨#[]⟩, .int .i64 0]) 2 24 Try.underlying28 Hi.out Hz0.out Hz1.out Hz2.out rfl (by decide) (.slice P i cp) i (paCells ((paramsT l).take i)) (by simp [Act.eval, Act.put]) HOW.out ⟨wr.heap.size, 0, none⟩ 1 1 [.string (x.s.extract 0 p), .int .i64 (x.kind % 4)] (by simp [Act.eval, Act.put]) rfl HNW.out HOC.out (by decide) (by unfold maxLen; omega) (by omega) hszP _ rfl ?_; intro gp cp2 w5 hown5 hgrow5 hat5 hlt5; have hF5 := (hgrow5.block bf (by simp; omega) (own_ne HOW.out hbW)).trans ((Below.heap_alloc _ _ _ hbr).trans hF'.out); have e5 : w5.cell? ⟨bf, 2, none⟩ = some (.slice P i cp) := (Lib.cell_of_heap hF5 2).trans rfl; have f5 := Lib.frozen_of_heap hF5 2; replace hF5 := Lib.hid hF5; have Hown5 := Lib.hid hown5; have Hgrow5 := Lib.hid hgrow5; have s5 : w5.cell? ⟨g, o + i * 5, none⟩ = some (.int .i64 x.kind) ∧ w5.cell? ⟨g, o + i * 5 + 3, none⟩ = some (.string x.s) := ⟨((hgrow5.cell_far _ (by simp; omega) (own_ne HOW.out hgW)).trans ((World.cell?_of_block (Below.heap_alloc _ _ _ hgr)).trans x0)), ((hgrow5.cell_far _ (by simp; omega) (own_ne HOW.out hgW)).trans ((World.cell?_of_block (Below.heap_alloc _ _ _ hgr)).trans x3))⟩; clear hown5 hgrow5 hat5 hlt5
      refine hK.out _ _ ?_ (fun hHeld => ?_)
      · ((try dsimp only); (first | exact ⟨x0, x3⟩ | exact s5 | exact ⟨(World.cell?_setCell_other _ _ _ _ (by first | (simp [hgb]; done) | (simp [Ne.symm hgb]; done))).trans s5.1, (World.cell?_setCell_other _ _ _ _ (by first | (simp [hgb]; done) | (simp [Ne.symm hgb]; done))).trans s5.2⟩ | go_keep))
      clear hK K
      try simp only [Act.put, List.setIfInBounds_toArray, List.set_cons_zero, List.set_cons_succ]
      refine wpAnyH_take (i := 24) (v := ?_) rfl (by kernel_rfl) (by kernel_rfl) (by kernel_rfl) (fun _ _ _ h => h) (Or.inl ⟨by rfl, ?_⟩) (by assumption) ?_
      rotate_left
      · (intro w hSw; (try dsimp only at hSw); first | (go_simp; done) | (go_simp; with_reducible rfl))
      try simp only [Act.put, List.setIfInBounds_toArray, List.set_cons_zero, List.set_cons_succ]
      refine wpAnyH_ready (rs := [25]) (by kernel_rfl) (by simp) ?_
      refine AllReadyH.cons rfl (fun K hK => ?_) AllReadyH.nil
      go_simp
      refine hK.out _ _ ?_ (fun hHeld => ?_)
      · ((try dsimp only); (first | exact ⟨x0, x3⟩ | exact s5 | exact ⟨(World.cell?_setCell_other _ _ _ _ (by first | (simp [hgb]; done) | (simp [Ne.symm hgb]; done))).trans s5.1, (World.cell?_setCell_other _ _ _ _ (by first | (simp [hgb]; done) | (simp [Ne.symm hgb]; done))).trans s5.2⟩ | go_keep))
      clear hK K
      try simp only [Act.put, List.setIfInBounds_toArray, List.set_cons_zero, List.set_cons_succ]
      refine wpAnyH_done (by kernel_rfl) ?_ _
      refine NoPanic.normal ?_
      rotate_left
      all_goals
        have hown6 := ownsRow_setCell_below Hown5.out (a := ⟨bf, 2, none⟩) hbW (.slice (some ⟨gp, 0, none⟩) (i + 1) cp2)
        have hpc : paCells ((paramsT l).take i) ++ [.string (x.s.extract 0 p), .int .i64 (x.kind % 4)] = paCells ((paramsT l).take (i + 1)) := by
          rw [HC.out]
          exact (paCells_snoc (by rw [← Hn.out, ← Hq.out]; exact hlt) Hxe.out).symm
        rw [hpc] at hown6
        have Hown6 := Lib.hid hown6
        have HF6 := Lib.hid (heap_set hF5.out 2 (.slice (some ⟨gp, 0, none⟩) (i + 1) cp2))
        have hold : ∀ k, k < W.heap.size → k ≠ bf → (w5.setCell ⟨bf, 2, none⟩ (.slice (some ⟨gp, 0, none⟩) (i + 1) cp2)).heap[k]? = wr.heap[k]? := fun k h1 h2 =>
          (Below.heap_setCell _ _ _ _ h2).trans ((Hgrow5.out.block k (by simp; omega) (own_ne HOW.out h1)).trans (Below.heap_alloc _ _ _ (by omega)))
        have HT6 := Lib.hid ((hold w.heap.size (by omega) (by omega)).trans hT'.out)
        have Hfz6 : Hid (∀ k, lo ≤ k → k < w1.heap.size → (w5.setCell ⟨bf, 2, none⟩ (.slice (some ⟨gp, 0, none⟩) (i + 1) cp2)).heap[k]? = w1.heap[k]?) := Lib.hid (fun k h1 h2 => (hold k (by omega) (by have := Hbl.out; omega)).trans (hfz'.out k h1 h2))
        have Hb6 := Lib.hid (((hb'.out.alloc hb'.out.size (.cells #[.string (x.s.extract 0 p), .int .i64 (x.kind % 4)] 35)).drew.grown Hgrow5.out (by have := hb'.out.size; simp; omega) (fun k hk => Nat.le_trans hsW (HOW.out.lt k hk).1)).setCell (p := ⟨bf, 2, none⟩) (by simp; omega) (.slice (some ⟨gp, 0, none⟩) (i + 1) cp2))
        have hz6 : W.heap.size ≤ (w5.setCell ⟨bf, 2, none⟩ (.slice (some ⟨gp, 0, none⟩) (i + 1) cp2)).heap.size := by
          have := Hgrow5.out.size
          simp at this ⊢
          omega
        clear hown6 hpc hold s5 e5 f5 x0 x3 f2
        go_wp2
        go_roundw
        case rel => exact ⟨i + 1, _, _, by omega, by go_num, Hown6, HF6, HT6, Hfz6, Hb6, hz6⟩
        case measure => simp [intOf]; omega
    · obtain rfl : i = q := by omega
      obtain ⟨f0, f1, f2, f3, f4, f5⟩ := fn6 hF'.out
      have t0 : wr.cell? ⟨w.heap.size, 0, none⟩ = some (.slice none 0 0) := by rw [Lib.cell_of_heap hT'.out]; rfl
      have tf : wr.frozen? ⟨w.heap.size, 0, none⟩ = false := Lib.frozen_of_heap hT'.out 0
      have hlw : w.heap.size < wr.heap.size := by omega
      have Hend := Lib.hid (tree_end (B := B) (cb := cb) (nm := nm) Hn.out Hq.out HSt.out hP.out hT'.out hfz'.out hb'.out hlo hwW hz' (by omega))
      clear hlt
      go_wp2
      refine bodyPost_ret (v := .agg #[.slice (some ⟨wr.heap.size, 0, none⟩) 2 2]) ?_ rfl Hend.out
      simp [results, Try.results4, go_sem, t0, hlw]
end Go.Proofs.Ytpnpjlggikdinaa
