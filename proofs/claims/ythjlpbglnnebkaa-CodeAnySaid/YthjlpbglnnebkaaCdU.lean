/-
  Programs as bytes: functions are read.
-/
import Derived.Test.YthjlpbglnnebkaaCdT
namespace Go.Proofs.Ythjlpbglnnebkaa
open Go.RowKit Go.Shelf
set_option linter.unusedVariables false
set_option linter.unusedSimpArgs false

set_option maxRecDepth 100000 in
set_option maxHeartbeats 8000000 in
theorem items_fns (E most : Nat) (hm : most ≤ 1048576) (s : Option (List UInt8)) (w : World) (h : RdAt E s w) (hl : (s.getD []).length ≤ 1099511627776) : Calls Try.prog 36 #[.pointer (some ⟨E, 0, none⟩), .int .u64 (most : Int), .func (.func 37) #[] #[]] w fun e w' => ∃ v, e = .returned v ∧ FnsO w.heap.size w' v (itemsQ most funQ s).1 ∧ RdAt E (itemsQ most funQ s).2 w' ∧ GBu E w w' := by
  have hN := num_r E most s w h hl
  have hle := numS_le most s
  have hsl := numS_len most s
  have hQ : itemsQ most funQ s = manyQ funQ (numS most s).1 [] (numS most s).2 := rfl
  obtain ⟨R, hR⟩ : ∃ R, R = itemsQ most funQ s := ⟨_, rfl⟩
  rw [← hR] at hQ ⊢
  obtain ⟨n, hn⟩ : ∃ n, n = (numS most s).1 := ⟨_, rfl⟩
  obtain ⟨s1, hs1⟩ : ∃ s1, s1 = (numS most s).2 := ⟨_, rfl⟩
  rw [← hn, ← hs1] at hN hQ
  rw [← hn] at hle
  rw [← hs1] at hsl
  have HQ := Lib.hid hQ
  have Hs1 : Hid ((s1.getD []).length ≤ 1099511627776) := Lib.hid (Nat.le_trans hsl hl)
  have hnb : n ≤ 1048576 := Nat.le_trans hle hm
  clear h hl hn hs1 hQ hsl hle hR
  go_enter Try.func36, Try.ntmps36
  go_wp2_with (go_at_call 10; refine hN.mono ?_; rintro e w1 ⟨rfl, h1, h2⟩; have H1 := Lib.hid h1; have H2 := Lib.hid h2; clear h1 h2 hN)
  go_loopw [11, 7] (fun u11 u7 wr => ∃ (i : Nat) (acc : List (List UInt8 × SF)) (s2 : Option (List UInt8)), i ≤ n ∧ u11 = .int .u64 (i : Int) ∧ Hid (FnsO w.heap.size wr u7 acc) ∧ Hid (RdAt E s2 wr ∧ GBu E w wr ∧ (s2.getD []).length ≤ 1099511627776 ∧ acc.length ≤ i) ∧ Hid (manyQ funQ (n - i) acc s2 = R)) (fun u11 _ _ => n - (intOf u11).toNat)
  case atStart => exact ⟨0, [], s1, Nat.zero_le _, rfl, Lib.hid (FnsO.nil _ _), Lib.hid ⟨H1.out, H2.out, Hs1.out, Nat.le_refl _⟩, Lib.hid (by rw [HQ.out]; rfl)⟩
  case round =>
    clear H1 H2
    obtain ⟨i, acc, s2, hi, rfl, HO, HR, HM⟩ := hrel
    obtain ⟨wo, hwo⟩ : ∃ x, x = wr := ⟨_, rfl⟩
    rw [← hwo] at HO HR ⊢
    clear hwo
    by_cases hlt : i < n
    · have hO := ok_r E s2 wo HR.out.1
      cases s2 with
      | none =>
        have hq : R = ([], none) := by rw [← HM.out, show n - i = (n - i - 1) + 1 by omega]; rfl
        have Hq := Lib.hid hq
        clear hq
        go_wp2_with (go_at_call 14; refine hO.mono ?_; rintro e w2 ⟨rfl, rfl⟩; clear hO)
        go_ret
        rw [Hq.out]
        exact ⟨_, rfl, FnsO.nil _ _, HR.out.1, HR.out.2.1⟩
      | some l =>
        have hI := fun_r E (some l) wo HR.out.1 HR.out.2.2.1
        have hM2 : manyQ funQ (n - (i + 1)) (acc ++ [(funQ (some l)).1]) (funQ (some l)).2 = R := by rw [← HM.out, show n - i = (n - (i + 1)) + 1 by omega]; rfl
        have hlen := funQ_left (some l)
        obtain ⟨d, hd⟩ : ∃ d, d = (funQ (some l)).1 := ⟨_, rfl⟩
        obtain ⟨s3, hs3⟩ : ∃ s3, s3 = (funQ (some l)).2 := ⟨_, rfl⟩
        rw [← hd, ← hs3] at hI hM2
        rw [← hs3] at hlen
        have HM2 := Lib.hid hM2
        have Hlen : Hid ((s3.getD []).length ≤ 1099511627776) := Lib.hid (Nat.le_trans hlen HR.out.2.2.1)
        have hB : w.heap.size ≤ wo.heap.size := HR.out.2.1.size
        have HB := Lib.hid hB
        obtain ⟨a, ha, ho, hin⟩ := HO.out
        obtain ⟨A0, c0, rfl⟩ := gr_slice ho
        have Hal : Hid (a.length ≤ 1048576) := Lib.hid (by have h1 := HR.out.2.2.2; have h2 : acc.length = a.length := (by rw [ha]; simp); omega)
        have Ho := Lib.hid ho
        have Hin := Lib.hid hin
        have Ha := Lib.hid ha
        clear hM2 hlen hd hs3 ho hin ha hB
        go_wp2_with (first
          | (go_at_call 14; refine hO.mono ?_; rintro e w2 ⟨rfl, rfl⟩; clear hO)
          | (go_at_call 37; refine hI.mono ?_; rintro e w3 ⟨v1, v2, v3, rfl, o1, o2, o3, h3, g3⟩; have H3 := Lib.hid h3; have G3 := Lib.hid (HR.out.2.1.trans g3); have K3 := Lib.hid (Kp.of_reader (base := w.heap.size) HR.out.1 g3); obtain ⟨a1, c1, rfl⟩ := gr_slice o1; obtain ⟨a2, c2, rfl⟩ := o2.slice; obtain ⟨a3, c3, rfl⟩ := o3.slice; have O123 := Lib.hid (And.intro o1 (And.intro o2 o3)); clear o1 o2 o3; have O3 := Lib.hid (own_kp Ho.out K3.out (by decide)); clear h3 g3 hI)
          | (at_builtin; refine app_five infoFnQ rfl (by decide) rfl rfl (.tmp 16) (.tmp 20) rfl w.heap.size _ a.length (fnsRow a) rfl (gr_up O3.out ((Below.refl _ _).alloc (Nat.le_refl _) _)) _ [.string ⟨d.1.toArray⟩, .slice a1 d.2.params.length c1, .int .i64 d.2.ret, .slice a2 d.2.ins.length c2, .slice a3 d.2.blocks.length c3] rfl rfl (World.news_of_block (heap_alloc_new w3 _)) (by intro y hy; simp at hy; rcases hy with rfl | rfl | rfl | rfl | rfl <;> rfl) Hal.out (by have := G3.out.size; simp; omega) ?_; intro v' w5 ho5 hg5; have KK := Lib.hid ((Kp.of_below (base := w.heap.size) 63 ((Below.refl w3.heap.size w3).alloc (Nat.le_refl _) _)).trans (Kp.of_grown (gr_up O3.out ((Below.refl _ _).alloc (Nat.le_refl _) _)) hg5)); have O5 := Lib.hid (FnsO.snoc ho5 (fun p hp => ⟨own_kp (Hin.out p hp).1 K3.out (by decide), (Hin.out p hp).2.1.kp K3.out (by decide) (by decide), (Hin.out p hp).2.2.kp K3.out (by decide) (by decide)⟩) O123.out HB.out KK.out); have R5 := Lib.hid ((H3.out.keep ((Below.refl _ _).alloc (Nat.le_refl _) _)).grown (gr_up O3.out ((Below.refl _ _).alloc (Nat.le_refl _) _)) (by decide) hg5); have G5 := Lib.hid ((G3.out.trans (GBu.of_below ((Below.refl _ _).alloc (Nat.le_refl _) _))).of_grown (gr_up O3.out ((Below.refl _ _).alloc (Nat.le_refl _) _)) (Nat.le_refl _) hg5); clear ho5 hg5))
        go_roundw
        case rel => exact ⟨i + 1, acc ++ [d], s3, by omega, by go_num, by rw [Ha.out]; exact O5, Lib.hid ⟨R5.out, G5.out, Hlen.out, by have := HR.out.2.2.2; simp; omega⟩, HM2⟩
        case measure => simp [intOf]; omega
    · have hq : R = (acc, s2) := by rw [← HM.out, show n - i = 0 by omega]; rfl
      have Hq := Lib.hid hq
      obtain ⟨A0, c0, rfl⟩ := HO.out.slice
      clear hq
      go_wp2_with fail
      go_ret
      rw [Hq.out]
      exact ⟨_, rfl, HO.out, HR.out.1, HR.out.2.1⟩
end Go.Proofs.Ythjlpbglnnebkaa
