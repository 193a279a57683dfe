/-
  Programs as bytes: instructions and blocks are read.
  Programs as bytes: a function, read.
  Programs as bytes: functions are read.
  Programs as bytes, over plain data: what is written is read again, and what is read has just these bytes.
-/
import Derived.Test.YthhjhdmdfneegaaJc13
namespace Go.Proofs.Ythhjhdmdfneegaa
set_option linter.unusedVariables false
set_option linter.unusedSimpArgs false
open Go.RowKit Go.Shelf

set_option maxRecDepth 100000 in
set_option maxHeartbeats 8000000 in
theorem items_ins (E most : Nat) (hm : most ≤ 1048576) (s : Option (List UInt8)) (w : World) (h : RdAt E s w) (hl : (s.getD []).length ≤ 1099511627776) : Calls Try.prog 41 #[.pointer (some ⟨E, 0, none⟩), .int .u64 (most : Int), .func (.func 42) #[] #[]] w fun e w' => ∃ v, e = .returned v ∧ InsO w.heap.size w' v (itemsQ most insQ s).1 ∧ RdAt E (itemsQ most insQ s).2 w' ∧ GBu E w w' := by
  have hN := num_r E most s w h hl
  have hle := numS_le most s
  have hsl := numS_len most s
  have hQ : itemsQ most insQ s = manyQ insQ (numS most s).1 [] (numS most s).2 := rfl
  obtain ⟨R, hR⟩ : ∃ R, R = itemsQ most insQ s := ⟨_, rfl⟩
  rw [← hR] at hQ ⊢
  obtain ⟨n, hn⟩ : ∃ n, n = (numS most s).1 := ⟨_, rfl⟩
  obtain ⟨s1, hs1⟩ : ∃ s1, s1 = (numS most s).2 := ⟨_, rfl⟩
  rw [← hn, ← hs1] at hN hQ
  rw [← hn] at hle
  rw [← hs1] at hsl
  have HQ := Lib.hid hQ
  have Hs1 : Hid ((s1.getD []).length ≤ 1099511627776) := Lib.hid (Nat.le_trans hsl hl)
  have hnb : n ≤ 1048576 := Nat.le_trans hle hm
  clear h hl hn hs1 hQ hsl hle hR
  go_enter Try.func41, Try.ntmps41
  go_wp2_with (go_at_call 38; refine hN.mono ?_; rintro e w1 ⟨rfl, h1, h2⟩; have H1 := Lib.hid h1; have H2 := Lib.hid h2; clear h1 h2 hN)
  go_loopw [11, 7] (fun u11 u7 wr => ∃ (i : Nat) (acc : List SIn) (s2 : Option (List UInt8)), i ≤ n ∧ u11 = .int .u64 (i : Int) ∧ Hid (InsO w.heap.size wr u7 acc) ∧ Hid (RdAt E s2 wr ∧ GBu E w wr ∧ (s2.getD []).length ≤ 1099511627776 ∧ acc.length ≤ i) ∧ Hid (manyQ insQ (n - i) acc s2 = R)) (fun u11 _ _ => n - (intOf u11).toNat)
  case atStart => exact ⟨0, [], s1, Nat.zero_le _, rfl, Lib.hid (InsO.nil _ _), Lib.hid ⟨H1.out, H2.out, Hs1.out, Nat.le_refl _⟩, Lib.hid (by rw [HQ.out]; rfl)⟩
  case round =>
    clear H1 H2
    obtain ⟨i, acc, s2, hi, rfl, HO, HR, HM⟩ := hrel
    obtain ⟨wo, hwo⟩ : ∃ x, x = wr := ⟨_, rfl⟩
    rw [← hwo] at HO HR ⊢
    clear hwo
    by_cases hlt : i < n
    · have hO := ok_r E s2 wo HR.out.1
      cases s2 with
      | none =>
        have hq : R = ([], none) := by rw [← HM.out, show n - i = (n - i - 1) + 1 by omega]; rfl
        have Hq := Lib.hid hq
        clear hq
        go_wp2_with (go_at_call 20; refine hO.mono ?_; rintro e w2 ⟨rfl, rfl⟩; clear hO)
        go_ret
        rw [Hq.out]
        exact ⟨_, rfl, InsO.nil _ _, HR.out.1, HR.out.2.1⟩
      | some l =>
        have hI := ins_r E (some l) wo HR.out.1 HR.out.2.2.1
        have hM2 : manyQ insQ (n - (i + 1)) (acc ++ [(insQ (some l)).1]) (insQ (some l)).2 = R := by rw [← HM.out, show n - i = (n - (i + 1)) + 1 by omega]; rfl
        have hlen := insQ_left (some l)
        obtain ⟨d, hd⟩ : ∃ d, d = (insQ (some l)).1 := ⟨_, rfl⟩
        obtain ⟨s3, hs3⟩ : ∃ s3, s3 = (insQ (some l)).2 := ⟨_, rfl⟩
        rw [← hd, ← hs3] at hI hM2
        rw [← hs3] at hlen
        have HM2 := Lib.hid hM2
        have Hlen : Hid ((s3.getD []).length ≤ 1099511627776) := Lib.hid (Nat.le_trans hlen HR.out.2.2.1)
        have hB : w.heap.size ≤ wo.heap.size := HR.out.2.1.size
        have HB := Lib.hid hB
        obtain ⟨a, ha, ho, hin⟩ := HO.out
        obtain ⟨A0, c0, rfl⟩ := gr_slice ho
        have Hal : Hid (a.length ≤ 1048576) := Lib.hid (by have h1 := HR.out.2.2.2; have h2 : acc.length = a.length := (by rw [ha]; simp); omega)
        have Ho := Lib.hid ho
        have Hin := Lib.hid hin
        have Ha := Lib.hid ha
        clear hM2 hlen hd hs3 ho hin ha hB
        go_wp2_with (first
          | (go_at_call 20; refine hO.mono ?_; rintro e w2 ⟨rfl, rfl⟩; clear hO)
          | (go_at_call 42; refine hI.mono ?_; rintro e w3 ⟨vA, rfl, oA, h3, g3⟩; have H3 := Lib.hid h3; have G3 := Lib.hid (HR.out.2.1.trans g3); have K3 := Lib.hid (Kp.of_reader (base := w.heap.size) HR.out.1 g3); obtain ⟨aA, cA, rfl⟩ := gr_slice oA; have OA := Lib.hid oA; clear oA; have O3 := Lib.hid (own_kp Ho.out K3.out (by decide)); clear h3 g3 hI)
          | (at_builtin; refine app_five infoInsQ rfl (by decide) rfl rfl (.tmp 16) (.tmp 20) rfl w.heap.size _ a.length (insRow a) rfl (gr_up O3.out ((Below.refl _ _).alloc (Nat.le_refl _) _)) _ [.int .i64 d.op, .int .i64 d.ty, .slice aA d.args.length cA, .int .i64 d.n, .int .i64 d.to_] rfl rfl (World.news_of_block (heap_alloc_new w3 _)) (by intro y hy; simp at hy; rcases hy with rfl | rfl | rfl | rfl | rfl <;> rfl) Hal.out (by have := G3.out.size; simp; omega) ?_; intro v' w5 ho5 hg5; have KK := Lib.hid ((Kp.of_below (base := w.heap.size) 46 ((Below.refl w3.heap.size w3).alloc (Nat.le_refl _) _)).trans (Kp.of_grown (gr_up O3.out ((Below.refl _ _).alloc (Nat.le_refl _) _)) hg5)); have O5 := Lib.hid (InsO.snoc ho5 (fun p hp => own_kp (Hin.out p hp) K3.out (by decide)) OA.out HB.out KK.out); have R5 := Lib.hid ((H3.out.keep ((Below.refl _ _).alloc (Nat.le_refl _) _)).grown (gr_up O3.out ((Below.refl _ _).alloc (Nat.le_refl _) _)) (by decide) hg5); have G5 := Lib.hid ((G3.out.trans (GBu.of_below ((Below.refl _ _).alloc (Nat.le_refl _) _))).of_grown (gr_up O3.out ((Below.refl _ _).alloc (Nat.le_refl _) _)) (Nat.le_refl _) hg5); clear ho5 hg5))
        go_roundw
        case rel => exact ⟨i + 1, acc ++ [d], s3, by omega, by go_num, by rw [Ha.out]; exact O5, Lib.hid ⟨R5.out, G5.out, Hlen.out, by have := HR.out.2.2.2; simp; omega⟩, HM2⟩
        case measure => simp [intOf]; omega
    · have hq : R = (acc, s2) := by rw [← HM.out, show n - i = 0 by omega]; rfl
      have Hq := Lib.hid hq
      obtain ⟨A0, c0, rfl⟩ := HO.out.slice
      clear hq
      go_wp2_with fail
      go_ret
      rw [Hq.out]
      exact ⟨_, rfl, HO.out, HR.out.1, HR.out.2.1⟩
set_option maxRecDepth 100000 in
set_option maxHeartbeats 8000000 in
theorem items_blk (E most : Nat) (hm : most ≤ 1048576) (s : Option (List UInt8)) (w : World) (h : RdAt E s w) (hl : (s.getD []).length ≤ 1099511627776) : Calls Try.prog 43 #[.pointer (some ⟨E, 0, none⟩), .int .u64 (most : Int), .func (.func 44) #[] #[]] w fun e w' => ∃ v, e = .returned v ∧ BlkO w.heap.size w' v (itemsQ most blockQ s).1 ∧ RdAt E (itemsQ most blockQ s).2 w' ∧ GBu E w w' := by
  have hN := num_r E most s w h hl
  have hle := numS_le most s
  have hsl := numS_len most s
  have hQ : itemsQ most blockQ s = manyQ blockQ (numS most s).1 [] (numS most s).2 := rfl
  obtain ⟨R, hR⟩ : ∃ R, R = itemsQ most blockQ s := ⟨_, rfl⟩
  rw [← hR] at hQ ⊢
  obtain ⟨n, hn⟩ : ∃ n, n = (numS most s).1 := ⟨_, rfl⟩
  obtain ⟨s1, hs1⟩ : ∃ s1, s1 = (numS most s).2 := ⟨_, rfl⟩
  rw [← hn, ← hs1] at hN hQ
  rw [← hn] at hle
  rw [← hs1] at hsl
  have HQ := Lib.hid hQ
  have Hs1 : Hid ((s1.getD []).length ≤ 1099511627776) := Lib.hid (Nat.le_trans hsl hl)
  have hnb : n ≤ 1048576 := Nat.le_trans hle hm
  clear h hl hn hs1 hQ hsl hle hR
  go_enter Try.func43, Try.ntmps43
  go_wp2_with (go_at_call 38; refine hN.mono ?_; rintro e w1 ⟨rfl, h1, h2⟩; have H1 := Lib.hid h1; have H2 := Lib.hid h2; clear h1 h2 hN)
  go_loopw [11, 7] (fun u11 u7 wr => ∃ (i : Nat) (acc : List SB) (s2 : Option (List UInt8)), i ≤ n ∧ u11 = .int .u64 (i : Int) ∧ Hid (BlkO w.heap.size wr u7 acc) ∧ Hid (RdAt E s2 wr ∧ GBu E w wr ∧ (s2.getD []).length ≤ 1099511627776 ∧ acc.length ≤ i) ∧ Hid (manyQ blockQ (n - i) acc s2 = R)) (fun u11 _ _ => n - (intOf u11).toNat)
  case atStart => exact ⟨0, [], s1, Nat.zero_le _, rfl, Lib.hid (BlkO.nil _ _), Lib.hid ⟨H1.out, H2.out, Hs1.out, Nat.le_refl _⟩, Lib.hid (by rw [HQ.out]; rfl)⟩
  case round =>
    clear H1 H2
    obtain ⟨i, acc, s2, hi, rfl, HO, HR, HM⟩ := hrel
    obtain ⟨wo, hwo⟩ : ∃ x, x = wr := ⟨_, rfl⟩
    rw [← hwo] at HO HR ⊢
    clear hwo
    by_cases hlt : i < n
    · have hO := ok_r E s2 wo HR.out.1
      cases s2 with
      | none =>
        have hq : R = ([], none) := by rw [← HM.out, show n - i = (n - i - 1) + 1 by omega]; rfl
        have Hq := Lib.hid hq
        clear hq
        go_wp2_with (go_at_call 20; refine hO.mono ?_; rintro e w2 ⟨rfl, rfl⟩; clear hO)
        go_ret
        rw [Hq.out]
        exact ⟨_, rfl, BlkO.nil _ _, HR.out.1, HR.out.2.1⟩
      | some l =>
        have hI := block_r E (some l) wo HR.out.1 HR.out.2.2.1
        have hM2 : manyQ blockQ (n - (i + 1)) (acc ++ [(blockQ (some l)).1]) (blockQ (some l)).2 = R := by rw [← HM.out, show n - i = (n - (i + 1)) + 1 by omega]; rfl
        have hlen := blockQ_left (some l)
        obtain ⟨d, hd⟩ : ∃ d, d = (blockQ (some l)).1 := ⟨_, rfl⟩
        obtain ⟨s3, hs3⟩ : ∃ s3, s3 = (blockQ (some l)).2 := ⟨_, rfl⟩
        rw [← hd, ← hs3] at hI hM2
        rw [← hs3] at hlen
        have HM2 := Lib.hid hM2
        have Hlen : Hid ((s3.getD []).length ≤ 1099511627776) := Lib.hid (Nat.le_trans hlen HR.out.2.2.1)
        have hB : w.heap.size ≤ wo.heap.size := HR.out.2.1.size
        have HB := Lib.hid hB
        obtain ⟨a, ha, ho, hin⟩ := HO.out
        obtain ⟨A0, c0, rfl⟩ := gr_slice ho
        have Hal : Hid (a.length ≤ 1048576) := Lib.hid (by have h1 := HR.out.2.2.2; have h2 : acc.length = a.length := (by rw [ha]; simp); omega)
        have Ho := Lib.hid ho
        have Hin := Lib.hid hin
        have Ha := Lib.hid ha
        clear hM2 hlen hd hs3 ho hin ha hB
        go_wp2_with (first
          | (go_at_call 20; refine hO.mono ?_; rintro e w2 ⟨rfl, rfl⟩; clear hO)
          | (go_at_call 44; refine hI.mono ?_; rintro e w3 ⟨v1, v2, v3, rfl, o1, o2, o3, h3, g3⟩; have H3 := Lib.hid h3; have G3 := Lib.hid (HR.out.2.1.trans g3); have K3 := Lib.hid (Kp.of_reader (base := w.heap.size) HR.out.1 g3); obtain ⟨a1, c1, rfl⟩ := gr_slice o1; obtain ⟨a2, c2, rfl⟩ := gr_slice o2; obtain ⟨a3, c3, rfl⟩ := gr_slice o3; have O123 := Lib.hid (And.intro o1 (And.intro o2 o3)); clear o1 o2 o3; have O3 := Lib.hid (own_kp Ho.out K3.out (by decide)); clear h3 g3 hI)
          | (at_builtin; refine app_five infoBlkQ rfl (by decide) rfl rfl (.tmp 16) (.tmp 20) rfl w.heap.size _ a.length (blkRow a) rfl (gr_up O3.out ((Below.refl _ _).alloc (Nat.le_refl _) _)) _ [.slice a1 d.list.length c1, .slice a2 d.preds.length c2, .int .i64 d.kind, .int .i64 d.arg, .slice a3 d.to_.length c3] rfl rfl (World.news_of_block (heap_alloc_new w3 _)) (by intro y hy; simp at hy; rcases hy with rfl | rfl | rfl | rfl | rfl <;> rfl) Hal.out (by have := G3.out.size; simp; omega) ?_; intro v' w5 ho5 hg5; have KK := Lib.hid ((Kp.of_below (base := w.heap.size) 51 ((Below.refl w3.heap.size w3).alloc (Nat.le_refl _) _)).trans (Kp.of_grown (gr_up O3.out ((Below.refl _ _).alloc (Nat.le_refl _) _)) hg5)); have O5 := Lib.hid (BlkO.snoc ho5 (fun p hp => ⟨own_kp (Hin.out p hp).1 K3.out (by decide), own_kp (Hin.out p hp).2.1 K3.out (by decide), own_kp (Hin.out p hp).2.2 K3.out (by decide)⟩) O123.out HB.out KK.out); have R5 := Lib.hid ((H3.out.keep ((Below.refl _ _).alloc (Nat.le_refl _) _)).grown (gr_up O3.out ((Below.refl _ _).alloc (Nat.le_refl _) _)) (by decide) hg5); have G5 := Lib.hid ((G3.out.trans (GBu.of_below ((Below.refl _ _).alloc (Nat.le_refl _) _))).of_grown (gr_up O3.out ((Below.refl _ _).alloc (Nat.le_refl _) _)) (Nat.le_refl _) hg5); clear ho5 hg5))
        go_roundw
        case rel => exact ⟨i + 1, acc ++ [d], s3, by omega, by go_num, by rw [Ha.out]; exact O5, Lib.hid ⟨R5.out, G5.out, Hlen.out, by have := HR.out.2.2.2; simp; omega⟩, HM2⟩
        case measure => simp [intOf]; omega
    · have hq : R = (acc, s2) := by rw [← HM.out, show n - i = 0 by omega]; rfl
      have Hq := Lib.hid hq
      obtain ⟨A0, c0, rfl⟩ := HO.out.slice
      clear hq
      go_wp2_with fail
      go_ret
      rw [Hq.out]
      exact ⟨_, rfl, HO.out, HR.out.1, HR.out.2.1⟩
end Go.Proofs.Ythhjhdmdfneegaa
namespace Go.Proofs.Ythhjhdmdfneegaa
set_option linter.unusedVariables false
set_option linter.unusedSimpArgs false
open Go.RowKit Go.Shelf

theorem textS_left (n : Int) (s : Option (List UInt8)) : ((textS n s).2.getD []).length ≤ (s.getD []).length := by
  cases s with
  | none => simp [textS]
  | some l =>
    show ((if n < 0 ∨ (l.length : Int) < n then (([] : List UInt8), (none : Option (List UInt8))) else (l.take n.toNat, some (l.drop n.toNat))).2.getD []).length ≤ _
    by_cases h : n < 0 ∨ (l.length : Int) < n
    · rw [if_pos h]; exact Nat.zero_le _
    · rw [if_neg h]; simp
def funQ (s : Option (List UInt8)) : (List UInt8 × SF) × Option (List UInt8) :=
  let a := numS 1048576 s
  let b := textS a.1 a.2
  let c := rowQ 16 b.2
  let d := numS 4 c.2
  let e := itemsQ 131072 insQ d.2
  let f := itemsQ 65536 blockQ e.2
  ((b.1, ⟨c.1, d.1, e.1, f.1⟩), f.2)
theorem funQ_left (s : Option (List UInt8)) : ((funQ s).2.getD []).length ≤ (s.getD []).length :=
  Nat.le_trans (itemsQ_left blockQ_left _ _) (Nat.le_trans (itemsQ_left insQ_left _ _) (Nat.le_trans (numS_len _ _) (Nat.le_trans (rowQ_left _ _) (Nat.le_trans (textS_left _ _) (numS_len _ _)))))
set_option maxRecDepth 100000 in
set_option maxHeartbeats 4000000 in
theorem fun_r (E : Nat) (s : Option (List UInt8)) (w : World) (h : RdAt E s w) (hl : (s.getD []).length ≤ 1099511627776) : Calls Try.prog 19 #[.pointer (some ⟨E, 0, none⟩)] w fun e w' => ∃ v1 v2 v3, e = .returned (.agg #[.string ⟨(funQ s).1.1.toArray⟩, v1, .int .i64 (funQ s).1.2.ret, v2, v3]) ∧ w'.ownsRow w.heap.size 3 1 v1 (funQ s).1.2.params.length (intsV (funQ s).1.2.params) ∧ InsO w.heap.size w' v2 (funQ s).1.2.ins ∧ BlkO w.heap.size w' v3 (funQ s).1.2.blocks ∧ RdAt E (funQ s).2 w' ∧ GBu E w w' := by
  obtain ⟨W, hW, hbW, hzW, h0W⟩ := gr_one w #[.string ⟨#[]⟩, .slice none 0 0, .int .i64 0, .slice none 0 0, .slice none 0 0] 43
  have hR0 := h.keep hbW
  unfold funQ
  have hU1 : ∀ w2, RdAt E s w2 → Calls Try.prog 17 #[.pointer (some ⟨E, 0, none⟩), .int .u64 1048576] w2 fun e w' => e = .returned (.int .i64 ((numS 1048576 s).1 : Int)) ∧ RdAt E (numS 1048576 s).2 w' ∧ GBu E w2 w' := fun w2 h2 => up_r E 1048576 (by decide) s w2 h2 hl
  have hl1 := Nat.le_trans (numS_len 1048576 s) hl
  obtain ⟨k1, hk1⟩ : ∃ k1, k1 = (numS 1048576 s).1 := ⟨_, rfl⟩
  obtain ⟨s1, hs1⟩ : ∃ s1, s1 = (numS 1048576 s).2 := ⟨_, rfl⟩
  rw [← hs1] at hl1
  rw [← hk1, ← hs1] at hU1
  simp only [← hk1, ← hs1]
  have hT := fun w2 (h2 : RdAt E s1 w2) => text_r E (k1 : Int) s1 w2 h2 hl1
  have hl2 := Nat.le_trans (textS_left (k1 : Int) s1) hl1
  obtain ⟨nm, hnm⟩ : ∃ nm, nm = (textS (k1 : Int) s1).1 := ⟨_, rfl⟩
  obtain ⟨s2, hs2⟩ : ∃ s2, s2 = (textS (k1 : Int) s1).2 := ⟨_, rfl⟩
  rw [← hs2] at hl2
  rw [← hnm, ← hs2] at hT
  simp only [← hnm, ← hs2]
  have hA : ∀ w2, RdAt E s2 w2 → Calls Try.prog 40 #[.pointer (some ⟨E, 0, none⟩), .int .u64 16] w2 fun e w' => ∃ v, e = .returned v ∧ w'.ownsRow w2.heap.size 3 1 v (rowQ 16 s2).1.length (intsV (rowQ 16 s2).1) ∧ RdAt E (rowQ 16 s2).2 w' ∧ GBu E w2 w' := fun w2 h2 => row_r E 16 (by decide) s2 w2 h2 hl2
  have hl3 := Nat.le_trans (rowQ_left 16 s2) hl2
  obtain ⟨xs, hxs⟩ : ∃ xs, xs = (rowQ 16 s2).1 := ⟨_, rfl⟩
  obtain ⟨s3, hs3⟩ : ∃ s3, s3 = (rowQ 16 s2).2 := ⟨_, rfl⟩
  rw [← hs3] at hl3
  rw [← hxs, ← hs3] at hA
  simp only [← hxs, ← hs3]
  have hU4 : ∀ w2, RdAt E s3 w2 → Calls Try.prog 17 #[.pointer (some ⟨E, 0, none⟩), .int .u64 4] w2 fun e w' => e = .returned (.int .i64 ((numS 4 s3).1 : Int)) ∧ RdAt E (numS 4 s3).2 w' ∧ GBu E w2 w' := fun w2 h2 => up_r E 4 (by decide) s3 w2 h2 hl3
  have hl4 := Nat.le_trans (numS_len 4 s3) hl3
  obtain ⟨k4, hk4⟩ : ∃ k4, k4 = (numS 4 s3).1 := ⟨_, rfl⟩
  obtain ⟨s4, hs4⟩ : ∃ s4, s4 = (numS 4 s3).2 := ⟨_, rfl⟩
  rw [← hs4] at hl4
  rw [← hk4, ← hs4] at hU4
  simp only [← hk4, ← hs4]
  have hI : ∀ w2, RdAt E s4 w2 → Calls Try.prog 41 #[.pointer (some ⟨E, 0, none⟩), .int .u64 131072, .func (.func 42) #[] #[]] w2 fun e w' => ∃ v, e = .returned v ∧ InsO w2.heap.size w' v (itemsQ 131072 insQ s4).1 ∧ RdAt E (itemsQ 131072 insQ s4).2 w' ∧ GBu E w2 w' := fun w2 h2 => items_ins E 131072 (by decide) s4 w2 h2 hl4
  have hl5 := Nat.le_trans (itemsQ_left insQ_left 131072 s4) hl4
  obtain ⟨qi, hqi⟩ : ∃ qi, qi = (itemsQ 131072 insQ s4).1 := ⟨_, rfl⟩
  obtain ⟨s5, hs5⟩ : ∃ s5, s5 = (itemsQ 131072 insQ s4).2 := ⟨_, rfl⟩
  rw [← hs5] at hl5
  rw [← hqi, ← hs5] at hI
  simp only [← hqi, ← hs5]
  have hB : ∀ w2, RdAt E s5 w2 → Calls Try.prog 43 #[.pointer (some ⟨E, 0, none⟩), .int .u64 65536, .func (.func 44) #[] #[]] w2 fun e w' => ∃ v, e = .returned v ∧ BlkO w2.heap.size w' v (itemsQ 65536 blockQ s5).1 ∧ RdAt E (itemsQ 65536 blockQ s5).2 w' ∧ GBu E w2 w' := fun w2 h2 => items_blk E 65536 (by decide) s5 w2 h2 hl5
  have hl6 := Nat.le_trans (itemsQ_left blockQ_left 65536 s5) hl5
  obtain ⟨qb, hqb⟩ : ∃ qb, qb = (itemsQ 65536 blockQ s5).1 := ⟨_, rfl⟩
  obtain ⟨s6, hs6⟩ : ∃ s6, s6 = (itemsQ 65536 blockQ s5).2 := ⟨_, rfl⟩
  rw [← hs6] at hl6
  rw [← hqb, ← hs6] at hB
  simp only [← hqb, ← hs6]
  have hEw : E < w.heap.size := gr_in h
  have HE := Lib.hid hEw
  have HW := Lib.hid hW
  have HbW := Lib.hid hbW
  have HzW := Lib.hid hzW
  have H0 := Lib.hid h0W
  have HR0 := Lib.hid hR0
  clear h hl hk1 hs1 hnm hs2 hxs hs3 hk4 hs4 hqi hs5 hqb hs6 hl1 hl2 hl3 hl4 hl5 hl6 hW hbW hzW h0W hEw hR0
  go_enter Try.func19, Try.ntmps19
  go_upto_region 1 with fail
  rw [← HW.out]
  go_wp2_with (first
    | (go_at_call 17; first
        | (refine (hU1 _ HR0.out).mono ?_; rintro e w1 ⟨rfl, h1, g1⟩; have H1 := Lib.hid h1; have G1 := Lib.hid g1; clear h1 g1 hU1)
        | (refine (hU4 _ H3.out).mono ?_; rintro e w4 ⟨rfl, h4, g4⟩; have H4 := Lib.hid h4; have G4 := Lib.hid (G3.out.trans g4); have P3 := Lib.hid (own_kp O3.out (Kp.of_reader H3.out g4) (by decide)); clear h4 g4 hU4))
    | (go_at_call 39; refine (hT _ H1.out).mono ?_; rintro e w2 ⟨rfl, h2, g2⟩; have H2 := Lib.hid h2; have G2 := Lib.hid (G1.out.trans g2); clear h2 g2 hT)
    | (go_at_call 40; refine (hA _ H2.out).mono ?_; rintro e w3 ⟨v, rfl, o3, h3, g3⟩; have H3 := Lib.hid h3; have G3 := Lib.hid (G2.out.trans g3); obtain ⟨A3, c3, rfl⟩ := gr_slice o3; have O3 := Lib.hid o3; clear h3 g3 o3 hA)
    | (go_at_call 41; refine (hI _ H4.out).mono ?_; rintro e w5 ⟨v, rfl, o5, h5, g5⟩; have H5 := Lib.hid h5; have G5 := Lib.hid (G4.out.trans g5); obtain ⟨A5, c5, rfl⟩ := o5.slice; have O5 := Lib.hid o5; have Q3 := Lib.hid (own_kp P3.out (Kp.of_reader H4.out g5) (by decide)); clear h5 g5 o5 hI)
    | (go_at_call 43; refine (hB _ H5.out).mono ?_; rintro e w6 ⟨v, rfl, o6, h6, g6⟩; have H6 := Lib.hid h6; have G6 := Lib.hid (G5.out.trans g6); obtain ⟨A6, c6, rfl⟩ := o6.slice; have O6 := Lib.hid o6; have R3 := Lib.hid (own_kp Q3.out (Kp.of_reader H5.out g6) (by decide)); have Q5 := Lib.hid (O5.out.kp (Kp.of_reader H5.out g6) (by decide) (by decide)); have h03 := (G6.out.block w.heap.size (gr_in H0.out) (Nat.ne_of_gt HE.out)).trans H0.out; have t0 := Lib.cell_of_heap h03 0; have t1 := Lib.cell_of_heap h03 1; have t2 := Lib.cell_of_heap h03 2; have t3 := Lib.cell_of_heap h03 3; have t4 := Lib.cell_of_heap h03 4; have tf0 := Lib.frozen_of_heap h03 0; have tf1 := Lib.frozen_of_heap h03 1; have tf2 := Lib.frozen_of_heap h03 2; have tf3 := Lib.frozen_of_heap h03 3; have tf4 := Lib.frozen_of_heap h03 4; have HH := Lib.hid h03; clear h6 g6 o6 hB h03))
  obtain ⟨Z, hZ⟩ : ∃ Z, Z = ((((w6.setCell ⟨w.heap.size, 0, none⟩ (.string ⟨nm.toArray⟩)).setCell ⟨w.heap.size, 1, none⟩ (.slice A3 xs.length c3)).setCell ⟨w.heap.size, 2, none⟩ (.int .i64 (k4 : Int))).setCell ⟨w.heap.size, 3, none⟩ (.slice A5 qi.length c5)).setCell ⟨w.heap.size, 4, none⟩ (.slice A6 qb.length c6) := ⟨_, rfl⟩
  have hqZ : Z.heap[w.heap.size]? = some (.cells #[.string ⟨nm.toArray⟩, .slice A3 xs.length c3, .int .i64 (k4 : Int), .slice A5 qi.length c5, .slice A6 qb.length c6] 43 (0, 0)) := by
    rw [hZ]
    exact gr_put (gr_put (gr_put (gr_put (gr_put HH.out 0 _) 1 _) 2 _) 3 _) 4 _
  have hbZ : Below w.heap.size w6 Z := by
    rw [hZ]
    exact (((((Below.refl _ _).setCell (p := ⟨w.heap.size, 0, none⟩) (Nat.le_refl _) _).setCell (p := ⟨w.heap.size, 1, none⟩) (Nat.le_refl _) _).setCell (p := ⟨w.heap.size, 2, none⟩) (Nat.le_refl _) _).setCell (p := ⟨w.heap.size, 3, none⟩) (Nat.le_refl _) _).setCell (p := ⟨w.heap.size, 4, none⟩) (Nat.le_refl _) _
  have hlt2 : w.heap.size < w2.heap.size := by have := G2.out.size; have := HzW.out; omega
  have hlt4 : w.heap.size < w4.heap.size := by have := G4.out.size; have := HzW.out; omega
  have hlt5 : w.heap.size < w5.heap.size := by have := G5.out.size; have := HzW.out; omega
  have hkZ : ∀ B, w.heap.size < B → Kp B 78 w6 Z := by
    intro B hB
    rw [hZ]
    exact ((((Kp.of_lay _ hB).trans (Kp.of_lay _ hB)).trans (Kp.of_lay _ hB)).trans (Kp.of_lay _ hB)).trans (Kp.of_lay _ hB)
  rw [← hZ]
  refine bodyPost_ret (results_cell_row rfl _ _ w.heap.size _ _ _ _ rfl hqZ Try.underlying43 rfl (by kernel_rfl)) rfl ?_
  exact ⟨_, _, _, rfl, own_low (own_kp R3.out (hkZ _ hlt2) (by decide)) (Nat.le_of_lt hlt2), (Q5.out.kp (hkZ _ hlt4) (by decide) (by decide)).low (Nat.le_of_lt hlt4), (O6.out.kp (hkZ _ hlt5) (by decide) (by decide)).low (Nat.le_of_lt hlt5), (hbZ.block _ HE.out).trans H6.out, ((GBu.of_below HbW.out).trans G6.out).then_new hbZ⟩
end Go.Proofs.Ythhjhdmdfneegaa
namespace Go.Proofs.Ythhjhdmdfneegaa
set_option linter.unusedVariables false
set_option linter.unusedSimpArgs false
open Go.RowKit Go.Shelf

set_option maxRecDepth 100000 in
set_option maxHeartbeats 8000000 in
theorem items_fns (E most : Nat) (hm : most ≤ 1048576) (s : Option (List UInt8)) (w : World) (h : RdAt E s w) (hl : (s.getD []).length ≤ 1099511627776) : Calls Try.prog 18 #[.pointer (some ⟨E, 0, none⟩), .int .u64 (most : Int), .func (.func 19) #[] #[]] w fun e w' => ∃ v, e = .returned v ∧ FnsO w.heap.size w' v (itemsQ most funQ s).1 ∧ RdAt E (itemsQ most funQ s).2 w' ∧ GBu E w w' := by
  have hN := num_r E most s w h hl
  have hle := numS_le most s
  have hsl := numS_len most s
  have hQ : itemsQ most funQ s = manyQ funQ (numS most s).1 [] (numS most s).2 := rfl
  obtain ⟨R, hR⟩ : ∃ R, R = itemsQ most funQ s := ⟨_, rfl⟩
  rw [← hR] at hQ ⊢
  obtain ⟨n, hn⟩ : ∃ n, n = (numS most s).1 := ⟨_, rfl⟩
  obtain ⟨s1, hs1⟩ : ∃ s1, s1 = (numS most s).2 := ⟨_, rfl⟩
  rw [← hn, ← hs1] at hN hQ
  rw [← hn] at hle
  rw [← hs1] at hsl
  have HQ := Lib.hid hQ
  have Hs1 : Hid ((s1.getD []).length ≤ 1099511627776) := Lib.hid (Nat.le_trans hsl hl)
  have hnb : n ≤ 1048576 := Nat.le_trans hle hm
  clear h hl hn hs1 hQ hsl hle hR
  go_enter Try.func18, Try.ntmps18
  go_wp2_with (go_at_call 38; refine hN.mono ?_; rintro e w1 ⟨rfl, h1, h2⟩; have H1 := Lib.hid h1; have H2 := Lib.hid h2; clear h1 h2 hN)
  go_loopw [11, 7] (fun u11 u7 wr => ∃ (i : Nat) (acc : List (List UInt8 × SF)) (s2 : Option (List UInt8)), i ≤ n ∧ u11 = .int .u64 (i : Int) ∧ Hid (FnsO w.heap.size wr u7 acc) ∧ Hid (RdAt E s2 wr ∧ GBu E w wr ∧ (s2.getD []).length ≤ 1099511627776 ∧ acc.length ≤ i) ∧ Hid (manyQ funQ (n - i) acc s2 = R)) (fun u11 _ _ => n - (intOf u11).toNat)
  case atStart => exact ⟨0, [], s1, Nat.zero_le _, rfl, Lib.hid (FnsO.nil _ _), Lib.hid ⟨H1.out, H2.out, Hs1.out, Nat.le_refl _⟩, Lib.hid (by rw [HQ.out]; rfl)⟩
  case round =>
    clear H1 H2
    obtain ⟨i, acc, s2, hi, rfl, HO, HR, HM⟩ := hrel
    obtain ⟨wo, hwo⟩ : ∃ x, x = wr := ⟨_, rfl⟩
    rw [← hwo] at HO HR ⊢
    clear hwo
    by_cases hlt : i < n
    · have hO := ok_r E s2 wo HR.out.1
      cases s2 with
      | none =>
        have hq : R = ([], none) := by rw [← HM.out, show n - i = (n - i - 1) + 1 by omega]; rfl
        have Hq := Lib.hid hq
        clear hq
        go_wp2_with (go_at_call 20; refine hO.mono ?_; rintro e w2 ⟨rfl, rfl⟩; clear hO)
        go_ret
        rw [Hq.out]
        exact ⟨_, rfl, FnsO.nil _ _, HR.out.1, HR.out.2.1⟩
      | some l =>
        have hI := fun_r E (some l) wo HR.out.1 HR.out.2.2.1
        have hM2 : manyQ funQ (n - (i + 1)) (acc ++ [(funQ (some l)).1]) (funQ (some l)).2 = R := by rw [← HM.out, show n - i = (n - (i + 1)) + 1 by omega]; rfl
        have hlen := funQ_left (some l)
        obtain ⟨d, hd⟩ : ∃ d, d = (funQ (some l)).1 := ⟨_, rfl⟩
        obtain ⟨s3, hs3⟩ : ∃ s3, s3 = (funQ (some l)).2 := ⟨_, rfl⟩
        rw [← hd, ← hs3] at hI hM2
        rw [← hs3] at hlen
        have HM2 := Lib.hid hM2
        have Hlen : Hid ((s3.getD []).length ≤ 1099511627776) := Lib.hid (Nat.le_trans hlen HR.out.2.2.1)
        have hB : w.heap.size ≤ wo.heap.size := HR.out.2.1.size
        have HB := Lib.hid hB
        obtain ⟨a, ha, ho, hin⟩ := HO.out
        obtain ⟨A0, c0, rfl⟩ := gr_slice ho
        have Hal : Hid (a.length ≤ 1048576) := Lib.hid (by have h1 := HR.out.2.2.2; have h2 : acc.length = a.length := (by rw [ha]; simp); omega)
        have Ho := Lib.hid ho
        have Hin := Lib.hid hin
        have Ha := Lib.hid ha
        clear hM2 hlen hd hs3 ho hin ha hB
        go_wp2_with (first
          | (go_at_call 20; refine hO.mono ?_; rintro e w2 ⟨rfl, rfl⟩; clear hO)
          | (go_at_call 19; refine hI.mono ?_; rintro e w3 ⟨v1, v2, v3, rfl, o1, o2, o3, h3, g3⟩; have H3 := Lib.hid h3; have G3 := Lib.hid (HR.out.2.1.trans g3); have K3 := Lib.hid (Kp.of_reader (base := w.heap.size) HR.out.1 g3); obtain ⟨a1, c1, rfl⟩ := gr_slice o1; obtain ⟨a2, c2, rfl⟩ := o2.slice; obtain ⟨a3, c3, rfl⟩ := o3.slice; have O123 := Lib.hid (And.intro o1 (And.intro o2 o3)); clear o1 o2 o3; have O3 := Lib.hid (own_kp Ho.out K3.out (by decide)); clear h3 g3 hI)
          | (at_builtin; refine app_five infoFnQ rfl (by decide) rfl rfl (.tmp 16) (.tmp 20) rfl w.heap.size _ a.length (fnsRow a) rfl (gr_up O3.out ((Below.refl _ _).alloc (Nat.le_refl _) _)) _ [.string ⟨d.1.toArray⟩, .slice a1 d.2.params.length c1, .int .i64 d.2.ret, .slice a2 d.2.ins.length c2, .slice a3 d.2.blocks.length c3] rfl rfl (World.news_of_block (heap_alloc_new w3 _)) (by intro y hy; simp at hy; rcases hy with rfl | rfl | rfl | rfl | rfl <;> rfl) Hal.out (by have := G3.out.size; simp; omega) ?_; intro v' w5 ho5 hg5; have KK := Lib.hid ((Kp.of_below (base := w.heap.size) 43 ((Below.refl w3.heap.size w3).alloc (Nat.le_refl _) _)).trans (Kp.of_grown (gr_up O3.out ((Below.refl _ _).alloc (Nat.le_refl _) _)) hg5)); have O5 := Lib.hid (FnsO.snoc ho5 (fun p hp => ⟨own_kp (Hin.out p hp).1 K3.out (by decide), (Hin.out p hp).2.1.kp K3.out (by decide) (by decide), (Hin.out p hp).2.2.kp K3.out (by decide) (by decide)⟩) O123.out HB.out KK.out); have R5 := Lib.hid ((H3.out.keep ((Below.refl _ _).alloc (Nat.le_refl _) _)).grown (gr_up O3.out ((Below.refl _ _).alloc (Nat.le_refl _) _)) (by decide) hg5); have G5 := Lib.hid ((G3.out.trans (GBu.of_below ((Below.refl _ _).alloc (Nat.le_refl _) _))).of_grown (gr_up O3.out ((Below.refl _ _).alloc (Nat.le_refl _) _)) (Nat.le_refl _) hg5); clear ho5 hg5))
        go_roundw
        case rel => exact ⟨i + 1, acc ++ [d], s3, by omega, by go_num, by rw [Ha.out]; exact O5, Lib.hid ⟨R5.out, G5.out, Hlen.out, by have := HR.out.2.2.2; simp; omega⟩, HM2⟩
        case measure => simp [intOf]; omega
    · have hq : R = (acc, s2) := by rw [← HM.out, show n - i = 0 by omega]; rfl
      have Hq := Lib.hid hq
      obtain ⟨A0, c0, rfl⟩ := HO.out.slice
      clear hq
      go_wp2_with fail
      go_ret
      rw [Hq.out]
      exact ⟨_, rfl, HO.out, HR.out.1, HR.out.2.1⟩
end Go.Proofs.Ythhjhdmdfneegaa
namespace Go.Proofs.Ythhjhdmdfneegaa
set_option linter.unusedVariables false
set_option linter.unusedSimpArgs false
open Go.RowKit Go.Shelf

theorem cdN_pos (n : Nat) : 0 < (cdN n).length := by
  unfold cdN cdF
  split <;> simp
theorem numS_back (most n : Nat) (r : List UInt8) (h : n ≤ most) (h64 : n < 18446744073709551616) : numS most (some (cdN n ++ r)) = (n, some r) := by
  have hp := cdN_pos n
  have hq : numQ (cdN n ++ r) = (n, (cdN n).length) := by
    unfold numQ
    rw [cdN_read n r h64]
    simp
  show (if (numQ (cdN n ++ r)).2 = 0 ∨ most < (numQ (cdN n ++ r)).1 then ((0 : Nat), (none : Option (List UInt8))) else ((numQ (cdN n ++ r)).1, some ((cdN n ++ r).drop (numQ (cdN n ++ r)).2))) = _
  rw [hq, if_neg (by show ¬ ((cdN n).length = 0 ∨ most < n); omega)]
  simp
theorem numS_inv {most n : Nat} {s : Option (List UInt8)} {r : List UInt8} (h : numS most s = (n, some r)) : s = some (cdN n ++ r) ∧ n ≤ most ∧ n < 18446744073709551616 := by
  cases s with
  | none => cases h
  | some l =>
    have h : (if (numQ l).2 = 0 ∨ most < (numQ l).1 then ((0 : Nat), (none : Option (List UInt8))) else ((numQ l).1, some (l.drop (numQ l).2))) = (n, some r) := h
    by_cases hc : (numQ l).2 = 0 ∨ most < (numQ l).1
    · rw [if_pos hc] at h
      cases h
    · rw [if_neg hc] at h
      injection h with h1 h2
      injection h2 with h2
      unfold numQ at hc h1 h2
      cases hr : cdRd 10 0 l with
      | none => rw [hr] at hc; exact absurd (.inl rfl) hc
      | some p =>
        obtain ⟨m, q⟩ := p
        rw [hr] at hc h1 h2
        simp only at hc h1 h2
        obtain ⟨e, hlt⟩ := read_cdN hr
        subst h1
        have e2 : l.drop (l.length - q.length) = q := by
          rw [e]
          simp
        rw [e2] at h2
        subst h2
        exact ⟨by rw [← e], by omega, hlt⟩
theorem sign_uns (k : Nat) (h : k < 18446744073709551616) : signQ (unsQ k) = k ∧ InG (unsQ k) := by
  unfold signQ unsQ InG
  split <;> split <;> omega
def OneF (x : Int) : Prop := -1 ≤ x ∧ x ≤ 131071
theorem oneQ_back (x : Int) (r : List UInt8) (h : OneF x) : oneQ (some (cdN (u64Q (x + 1)) ++ r)) = (x, some r) := by
  have hu : u64Q (x + 1) ≤ 131072 ∧ ((u64Q (x + 1) : Nat) : Int) = x + 1 := by
    obtain ⟨h1, h2⟩ := h
    unfold u64Q
    omega
  unfold oneQ
  rw [numS_back 131072 _ r hu.1 (by omega)]
  simp only
  rw [hu.2]
  congr 1
  omega
theorem oneQ_inv {s : Option (List UInt8)} {x : Int} {r : List UInt8} (h : oneQ s = (x, some r)) : s = some (cdN (u64Q (x + 1)) ++ r) ∧ OneF x := by
  unfold oneQ at h
  obtain ⟨k, hk⟩ : ∃ k, k = (numS 131072 s).1 := ⟨_, rfl⟩
  injection h with h1 h2
  rw [← hk] at h1
  obtain ⟨e, hm, h64⟩ := numS_inv (n := k) (r := r) (by rw [hk, ← h2])
  have hu : u64Q (x + 1) = k := by subst h1; unfold u64Q; omega
  refine ⟨by rw [hu]; exact e, ?_⟩
  subst h1
  unfold OneF
  omega
theorem manyQ_back {α : Type} {item : Option (List UInt8) → α × Option (List UInt8)} {enc : α → List UInt8} (r : List UInt8) : ∀ (l acc : List α), (∀ x ∈ l, ∀ q, item (some (enc x ++ q)) = (x, some q)) → manyQ item l.length acc (some (l.flatMap enc ++ r)) = (acc ++ l, some r)
  | [], acc, _ => by simp [manyQ]
  | x :: l, acc, h => by
    have hx := h x (List.mem_cons_self ..) (l.flatMap enc ++ r)
    rw [List.flatMap_cons, List.append_assoc]
    show manyQ item l.length (acc ++ [(item (some (enc x ++ (l.flatMap enc ++ r)))).1]) (item (some (enc x ++ (l.flatMap enc ++ r)))).2 = _
    rw [hx]
    simp only
    rw [manyQ_back r l (acc ++ [x]) (fun y hy => h y (List.mem_cons_of_mem _ hy))]
    simp
theorem manyQ_inv {α : Type} {item : Option (List UInt8) → α × Option (List UInt8)} {enc : α → List UInt8} {P : α → Prop} (hi : ∀ s x q, item s = (x, some q) → s = some (enc x ++ q) ∧ P x) : ∀ (k : Nat) (acc l : List α) (s : Option (List UInt8)) (r : List UInt8), manyQ item k acc s = (l, some r) → ∃ l', l = acc ++ l' ∧ l'.length = k ∧ s = some (l'.flatMap enc ++ r) ∧ ∀ x ∈ l', P x
  | 0, acc, l, s, r, h => by
    unfold manyQ at h
    injection h with h1 h2
    exact ⟨[], by simp [h1], rfl, by simp [h2], fun _ h => by cases h⟩
  | k + 1, acc, l, none, r, h => by cases h
  | k + 1, acc, l, some t, r, h => by
    unfold manyQ at h
    obtain ⟨x, hx⟩ : ∃ x, x = (item (some t)).1 := ⟨_, rfl⟩
    rw [← hx] at h
    obtain ⟨l', h1, h2, h3, h4⟩ := manyQ_inv hi k _ _ _ _ h
    obtain ⟨e, hp⟩ := hi (some t) x (l'.flatMap enc ++ r) (by rw [hx, ← h3])
    refine ⟨x :: l', by rw [h1]; simp, by simp [h2], by rw [e]; simp, fun y hy => ?_⟩
    rcases List.mem_cons.mp hy with rfl | hy
    · exact hp
    · exact h4 y hy
theorem itemsQ_back {α : Type} {item : Option (List UInt8) → α × Option (List UInt8)} {enc : α → List UInt8} (most : Nat) (l : List α) (r : List UInt8) (h : ∀ x ∈ l, ∀ q, item (some (enc x ++ q)) = (x, some q)) (hl : l.length ≤ most) (h64 : most < 18446744073709551616) : itemsQ most item (some (cdN l.length ++ (l.flatMap enc ++ r))) = (l, some r) := by
  unfold itemsQ
  rw [numS_back most l.length _ hl (by omega)]
  simp only
  rw [manyQ_back r l [] h]
  rfl
theorem itemsQ_inv {α : Type} {item : Option (List UInt8) → α × Option (List UInt8)} {enc : α → List UInt8} {P : α → Prop} (hi : ∀ s x q, item s = (x, some q) → s = some (enc x ++ q) ∧ P x) {most : Nat} {s : Option (List UInt8)} {l : List α} {r : List UInt8} (h : itemsQ most item s = (l, some r)) : s = some (cdN l.length ++ (l.flatMap enc ++ r)) ∧ l.length ≤ most ∧ ∀ x ∈ l, P x := by
  unfold itemsQ at h
  obtain ⟨k, hk⟩ : ∃ k, k = (numS most s).1 := ⟨_, rfl⟩
  rw [← hk] at h
  obtain ⟨l', h1, h2, h3, h4⟩ := manyQ_inv hi _ _ _ _ _ h
  rw [List.nil_append] at h1
  subst h1
  obtain ⟨e, hm, -⟩ := numS_inv (n := k) (r := l.flatMap enc ++ r) (s := s) (most := most) (by rw [hk, ← h3])
  exact ⟨by rw [h2]; exact e, by omega, h4⟩
def RowF (most : Nat) (l : List Int) : Prop := l.length ≤ most ∧ ∀ x ∈ l, OneF x
theorem rowQ_back (most : Nat) (l : List Int) (r : List UInt8) (h : RowF most l) (h64 : most < 18446744073709551616) : rowQ most (some (cdRow l ++ r)) = (l, some r) := by
  unfold rowQ cdRow cdOnes
  rw [List.append_assoc]
  exact itemsQ_back most l r (fun x hx q => oneQ_back x q (h.2 x hx)) h.1 h64
theorem rowQ_inv {most : Nat} {s : Option (List UInt8)} {l : List Int} {r : List UInt8} (h : rowQ most s = (l, some r)) : s = some (cdRow l ++ r) ∧ RowF most l := by
  unfold rowQ at h
  obtain ⟨e, h1, h2⟩ := itemsQ_inv (enc := fun x => cdN (u64Q (x + 1))) (P := OneF) (fun s x q h => oneQ_inv h) h
  refine ⟨?_, h1, h2⟩
  unfold cdRow cdOnes
  rw [List.append_assoc]
  exact e
def BtF (most : Nat) (x : Int) : Prop := 0 ≤ x ∧ x ≤ most
theorem u64Q_bt {most : Nat} {x : Int} (h : BtF most x) (h64 : most < 18446744073709551616) : u64Q x ≤ most ∧ ((u64Q x : Nat) : Int) = x := by
  obtain ⟨h1, h2⟩ := h
  unfold u64Q
  omega
theorem numS_bt (most : Nat) (x : Int) (r : List UInt8) (h : BtF most x) (h64 : most < 18446744073709551616) : ((numS most (some (cdN (u64Q x) ++ r))).1 : Int) = x ∧ (numS most (some (cdN (u64Q x) ++ r))).2 = some r := by
  obtain ⟨h1, h2⟩ := u64Q_bt h h64
  rw [numS_back most _ r h1 (by omega)]
  exact ⟨h2, rfl⟩
theorem numS_btI {most : Nat} {s : Option (List UInt8)} {r : List UInt8} (h : (numS most s).2 = some r) : s = some (cdN (u64Q ((numS most s).1 : Int)) ++ r) ∧ BtF most ((numS most s).1 : Int) := by
  obtain ⟨e, hm, h64⟩ := numS_inv (n := (numS most s).1) (r := r) (s := s) (most := most) (by rw [← h])
  refine ⟨by rw [u64Q_nat _ h64]; exact e, ?_⟩
  unfold BtF
  omega
structure InsF (x : SIn) : Prop where
  op : BtF 36 x.op
  ty : BtF 4 x.ty
  args : RowF 65536 x.args
  n : InG x.n
  to_ : BtF 256 x.to_
structure BlkF (k : SB) : Prop where
  list : RowF 131072 k.list
  preds : RowF 65536 k.preds
  kind : BtF 3 k.kind
  arg : OneF k.arg
  to_ : RowF 2 k.to_
structure FunF (f : List UInt8 × SF) : Prop where
  name : f.1.length ≤ 1048576
  params : RowF 16 f.2.params
  ret : BtF 4 f.2.ret
  ins : f.2.ins.length ≤ 131072 ∧ ∀ x ∈ f.2.ins, InsF x
  blocks : f.2.blocks.length ≤ 65536 ∧ ∀ k ∈ f.2.blocks, BlkF k
structure ProgF (mn : Int) (fs : List (List UInt8 × SF)) : Prop where
  main : BtF 256 mn
  fns : fs.length ≤ 256 ∧ ∀ f ∈ fs, FunF f
theorem insQ_back (x : SIn) (r : List UInt8) (h : InsF x) : insQ (some (cdIns x ++ r)) = (x, some r) := by
  obtain ⟨a1, a2⟩ := numS_bt 36 x.op (cdN (u64Q x.ty) ++ (cdRow x.args ++ (cdN (signQ x.n) ++ (cdN (u64Q x.to_) ++ r)))) h.op (by decide)
  obtain ⟨b1, b2⟩ := numS_bt 4 x.ty (cdRow x.args ++ (cdN (signQ x.n) ++ (cdN (u64Q x.to_) ++ r))) h.ty (by decide)
  have c := rowQ_back 65536 x.args (cdN (signQ x.n) ++ (cdN (u64Q x.to_) ++ r)) h.args (by decide)
  have d := numS_back 18446744073709551615 (signQ x.n) (cdN (u64Q x.to_) ++ r) (by have := signQ_lt x.n h.n; omega) (signQ_lt x.n h.n)
  obtain ⟨e1, e2⟩ := numS_bt 256 x.to_ r h.to_ (by decide)
  have e : cdIns x ++ r = cdN (u64Q x.op) ++ (cdN (u64Q x.ty) ++ (cdRow x.args ++ (cdN (signQ x.n) ++ (cdN (u64Q x.to_) ++ r)))) := by unfold cdIns; simp only [List.append_assoc]
  rw [e]
  unfold insQ
  simp only [a2, b2, c, d, e2, a1, b1, e1, uns_sign]
theorem insQ_inv {s : Option (List UInt8)} {x : SIn} {r : List UInt8} (h : insQ s = (x, some r)) : s = some (cdIns x ++ r) ∧ InsF x := by
  unfold insQ at h
  simp only at h
  injection h with h1 h2
  obtain ⟨e5, f5⟩ := numS_btI h2
  obtain ⟨k4, hk4⟩ : ∃ k, k = (numS 18446744073709551615 (rowQ 65536 (numS 4 (numS 36 s).2).2).2).1 := ⟨_, rfl⟩
  obtain ⟨e4, f4, g4⟩ := numS_inv (n := k4) (by rw [hk4, ← e5])
  obtain ⟨l3, hl3⟩ : ∃ l, l = (rowQ 65536 (numS 4 (numS 36 s).2).2).1 := ⟨_, rfl⟩
  obtain ⟨e3, f3⟩ := rowQ_inv (l := l3) (by rw [hl3, ← e4])
  obtain ⟨e2, f2⟩ := numS_btI e3
  obtain ⟨e1, f1⟩ := numS_btI e2
  have hs := sign_uns k4 g4
  subst h1
  rw [← hk4, ← hl3]
  refine ⟨?_, ⟨f1, f2, f3, hs.2, f5⟩⟩
  unfold cdIns
  simp only [List.append_assoc, hs.1]
  exact e1
theorem blockQ_back (k : SB) (r : List UInt8) (h : BlkF k) : blockQ (some (cdBlk k ++ r)) = (k, some r) := by
  have a := rowQ_back 131072 k.list (cdRow k.preds ++ (cdN (u64Q k.kind) ++ (cdN (u64Q (k.arg + 1)) ++ (cdRow k.to_ ++ r)))) h.list (by decide)
  have b := rowQ_back 65536 k.preds (cdN (u64Q k.kind) ++ (cdN (u64Q (k.arg + 1)) ++ (cdRow k.to_ ++ r))) h.preds (by decide)
  obtain ⟨c1, c2⟩ := numS_bt 3 k.kind (cdN (u64Q (k.arg + 1)) ++ (cdRow k.to_ ++ r)) h.kind (by decide)
  have d := oneQ_back k.arg (cdRow k.to_ ++ r) h.arg
  have e := rowQ_back 2 k.to_ r h.to_ (by decide)
  have q : cdBlk k ++ r = cdRow k.list ++ (cdRow k.preds ++ (cdN (u64Q k.kind) ++ (cdN (u64Q (k.arg + 1)) ++ (cdRow k.to_ ++ r)))) := by unfold cdBlk; simp only [List.append_assoc]
  rw [q]
  unfold blockQ endQ
  simp only [a, b, c2, d, e, c1]
theorem blockQ_inv {s : Option (List UInt8)} {k : SB} {r : List UInt8} (h : blockQ s = (k, some r)) : s = some (cdBlk k ++ r) ∧ BlkF k := by
  unfold blockQ endQ at h
  simp only at h
  injection h with h1 h2
  obtain ⟨l5, hl5⟩ : ∃ l, l = (rowQ 2 (oneQ (numS 3 (rowQ 65536 (rowQ 131072 s).2).2).2).2).1 := ⟨_, rfl⟩
  obtain ⟨e5, f5⟩ := rowQ_inv (l := l5) (by rw [hl5, ← h2])
  obtain ⟨x4, hx4⟩ : ∃ x, x = (oneQ (numS 3 (rowQ 65536 (rowQ 131072 s).2).2).2).1 := ⟨_, rfl⟩
  obtain ⟨e4, f4⟩ := oneQ_inv (x := x4) (by rw [hx4, ← e5])
  obtain ⟨e3, f3⟩ := numS_btI e4
  obtain ⟨l2, hl2⟩ : ∃ l, l = (rowQ 65536 (rowQ 131072 s).2).1 := ⟨_, rfl⟩
  obtain ⟨e2, f2⟩ := rowQ_inv (l := l2) (by rw [hl2, ← e3])
  obtain ⟨l1, hl1⟩ : ∃ l, l = (rowQ 131072 s).1 := ⟨_, rfl⟩
  obtain ⟨e1, f1⟩ := rowQ_inv (l := l1) (by rw [hl1, ← e2])
  subst h1
  rw [← hl5, ← hx4, ← hl2, ← hl1]
  refine ⟨?_, ⟨f1, f2, f3, f4, f5⟩⟩
  unfold cdBlk
  simp only [List.append_assoc]
  exact e1
theorem textS_back (l r : List UInt8) : textS (l.length : Int) (some (l ++ r)) = (l, some r) := by
  show (if (l.length : Int) < 0 ∨ ((l ++ r).length : Int) < (l.length : Int) then (([] : List UInt8), (none : Option (List UInt8))) else ((l ++ r).take (l.length : Int).toNat, some ((l ++ r).drop (l.length : Int).toNat))) = _
  rw [if_neg (by simp; omega)]
  simp
theorem textS_inv {n : Int} {s : Option (List UInt8)} {l r : List UInt8} (h : textS n s = (l, some r)) : s = some (l ++ r) ∧ (l.length : Int) = n := by
  cases s with
  | none => cases h
  | some t =>
    have h : (if n < 0 ∨ (t.length : Int) < n then (([] : List UInt8), (none : Option (List UInt8))) else (t.take n.toNat, some (t.drop n.toNat))) = (l, some r) := h
    by_cases hc : n < 0 ∨ (t.length : Int) < n
    · rw [if_pos hc] at h
      cases h
    · rw [if_neg hc] at h
      injection h with h1 h2
      injection h2 with h2
      subst h1
      subst h2
      refine ⟨by rw [List.take_append_drop], ?_⟩
      rw [List.length_take]
      omega
theorem funQ_back (f : List UInt8 × SF) (r : List UInt8) (h : FunF f) : funQ (some (cdFn f.1 f.2 ++ r)) = (f, some r) := by
  have a := numS_back 1048576 f.1.length (f.1 ++ (cdRow f.2.params ++ (cdN (u64Q f.2.ret) ++ (cdN f.2.ins.length ++ (cdInss f.2.ins ++ (cdN f.2.blocks.length ++ (cdBlks f.2.blocks ++ r))))))) h.name (by have := h.name; omega)
  have b := textS_back f.1 (cdRow f.2.params ++ (cdN (u64Q f.2.ret) ++ (cdN f.2.ins.length ++ (cdInss f.2.ins ++ (cdN f.2.blocks.length ++ (cdBlks f.2.blocks ++ r))))))
  have c := rowQ_back 16 f.2.params (cdN (u64Q f.2.ret) ++ (cdN f.2.ins.length ++ (cdInss f.2.ins ++ (cdN f.2.blocks.length ++ (cdBlks f.2.blocks ++ r))))) h.params (by decide)
  obtain ⟨d1, d2⟩ := numS_bt 4 f.2.ret (cdN f.2.ins.length ++ (cdInss f.2.ins ++ (cdN f.2.blocks.length ++ (cdBlks f.2.blocks ++ r)))) h.ret (by decide)
  have e := itemsQ_back (item := insQ) (enc := cdIns) 131072 f.2.ins (cdN f.2.blocks.length ++ (cdBlks f.2.blocks ++ r)) (fun x hx q => insQ_back x q (h.ins.2 x hx)) h.ins.1 (by decide)
  have g := itemsQ_back (item := blockQ) (enc := cdBlk) 65536 f.2.blocks r (fun x hx q => blockQ_back x q (h.blocks.2 x hx)) h.blocks.1 (by decide)
  have q : cdFn f.1 f.2 ++ r = cdN f.1.length ++ (f.1 ++ (cdRow f.2.params ++ (cdN (u64Q f.2.ret) ++ (cdN f.2.ins.length ++ (cdInss f.2.ins ++ (cdN f.2.blocks.length ++ (cdBlks f.2.blocks ++ r))))))) := by unfold cdFn; simp only [List.append_assoc]
  rw [q]
  unfold cdInss cdBlks at *
  unfold funQ
  simp only [a, b, c, d2, e, g, d1]
theorem funQ_inv {s : Option (List UInt8)} {f : List UInt8 × SF} {r : List UInt8} (h : funQ s = (f, some r)) : s = some (cdFn f.1 f.2 ++ r) ∧ FunF f := by
  unfold funQ at h
  simp only at h
  injection h with h1 h2
  obtain ⟨a, ha⟩ : ∃ a, a = numS 1048576 s := ⟨_, rfl⟩
  rw [← ha] at h1 h2
  obtain ⟨b, hb⟩ : ∃ b, b = textS (a.1 : Int) a.2 := ⟨_, rfl⟩
  rw [← hb] at h1 h2
  obtain ⟨c, hc⟩ : ∃ c, c = rowQ 16 b.2 := ⟨_, rfl⟩
  rw [← hc] at h1 h2
  obtain ⟨d, hd⟩ : ∃ d, d = numS 4 c.2 := ⟨_, rfl⟩
  rw [← hd] at h1 h2
  obtain ⟨e, he⟩ : ∃ e, e = itemsQ 131072 insQ d.2 := ⟨_, rfl⟩
  rw [← he] at h1 h2
  obtain ⟨g, hg⟩ : ∃ g, g = itemsQ 65536 blockQ e.2 := ⟨_, rfl⟩
  rw [← hg] at h1 h2
  obtain ⟨e6, m6, f6⟩ := itemsQ_inv (enc := cdBlk) (P := BlkF) (fun s x q h => blockQ_inv h) (l := g.1) (r := r) (s := e.2) (most := 65536) (by rw [← hg, ← h2])
  obtain ⟨e5, m5, f5⟩ := itemsQ_inv (enc := cdIns) (P := InsF) (fun s x q h => insQ_inv h) (l := e.1) (s := d.2) (most := 131072) (by rw [← he, ← e6])
  have h4 : (numS 4 c.2).2 = some (cdN e.1.length ++ (e.1.flatMap cdIns ++ (cdN g.1.length ++ (g.1.flatMap cdBlk ++ r)))) := by rw [← hd]; exact e5
  obtain ⟨e4, f4⟩ := numS_btI h4
  rw [← hd] at e4 f4
  obtain ⟨e3, f3⟩ := rowQ_inv (l := c.1) (s := b.2) (most := 16) (by rw [← hc, ← e4])
  obtain ⟨e2, f2⟩ := textS_inv (l := b.1) (n := (a.1 : Int)) (s := a.2) (by rw [← hb, ← e3])
  obtain ⟨e1, m1, f1⟩ := numS_inv (n := a.1) (s := s) (most := 1048576) (by rw [← ha, ← e2])
  subst h1
  have hbl : b.1.length = a.1 := by omega
  refine ⟨?_, ⟨by rw [hbl]; exact m1, f3, f4, ⟨m5, f5⟩, ⟨m6, f6⟩⟩⟩
  unfold cdFn cdInss cdBlks
  simp only [List.append_assoc, hbl]
  exact e1
/-- The program that bytes say, or none. -/
def decodeQ (l : List UInt8) : Option (Int × List (List UInt8 × SF)) :=
  if 1048576 < l.length then none else
    let a := numS 256 (some l)
    let b := itemsQ 256 funQ a.2
    if b.2 = some [] then some (a.1, b.1) else none
theorem decodeQ_back (mn : Int) (fs : List (List UInt8 × SF)) (h : ProgF mn fs) (hl : (cdProg mn fs).length ≤ 1048576) : decodeQ (cdProg mn fs) = some (mn, fs) := by
  obtain ⟨a1, a2⟩ := numS_bt 256 mn (cdN fs.length ++ cdFns fs) h.main (by decide)
  have b := itemsQ_back (item := funQ) (enc := fun d => cdFn d.1 d.2) 256 fs [] (fun x hx q => funQ_back x q (h.fns.2 x hx)) h.fns.1 (by decide)
  rw [List.append_nil] at b
  unfold decodeQ
  rw [if_neg (by omega)]
  unfold cdProg
  unfold cdFns at *
  simp only [a2, b, a1, if_true]
theorem decodeQ_inv {l : List UInt8} {mn : Int} {fs : List (List UInt8 × SF)} (h : decodeQ l = some (mn, fs)) : cdProg mn fs = l ∧ ProgF mn fs := by
  unfold decodeQ at h
  by_cases hl : 1048576 < l.length
  · rw [if_pos hl] at h
    cases h
  · rw [if_neg hl] at h
    simp only at h
    obtain ⟨b, hb⟩ : ∃ b, b = itemsQ 256 funQ (numS 256 (some l)).2 := ⟨_, rfl⟩
    rw [← hb] at h
    by_cases hc : b.2 = some []
    · rw [if_pos hc] at h
      injection h with h
      injection h with h1 h2
      obtain ⟨e2, m2, f2⟩ := itemsQ_inv (enc := fun d => cdFn d.1 d.2) (P := FunF) (fun s x q h => funQ_inv h) (l := b.1) (r := []) (s := (numS 256 (some l)).2) (most := 256) (by rw [← hb, ← hc])
      obtain ⟨e1, f1⟩ := numS_btI e2
      subst h1
      subst h2
      refine ⟨?_, ⟨f1, m2, f2⟩⟩
      injection e1 with e1
      unfold cdProg cdFns
      refine Eq.trans ?_ e1.symm
      simp
    · rw [if_neg hc] at h
      cases h
end Go.Proofs.Ythhjhdmdfneegaa
