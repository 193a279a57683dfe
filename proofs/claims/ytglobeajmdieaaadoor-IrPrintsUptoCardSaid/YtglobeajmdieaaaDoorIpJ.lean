/-
  IrPrints, whole: its own walk.
-/
import Derived.Test.YtglobeajmdieaaaDoorIpI
namespace Go.Proofs.YtglobeajmdieaaaDoor
open Go.RowKit Go.Sort
set_option linter.unusedVariables false
set_option linter.unusedSimpArgs false

set_option maxRecDepth 100000 in
set_option maxHeartbeats 8000000 in
theorem irPrints_any (s : ByteArray) (PA : Option Addr) (pn pc : Nat) (r : Int) (IA : Option Addr) (n ic : Nat) (BA : Option Addr) (m bc : Nat) (ps : List Int) (is : List InD) (bs : List BkD) (w : World) (hri : RdI w.heap.size w (.slice IA n ic) is) (hrb : RdB w.heap.size w (.slice BA m bc) bs) (hic : n ≤ ic) (hbc : m ≤ bc)
    (hio : ∀ d ∈ is, d.ok ∧ d.args.length ≤ 1048576) (hbo : ∀ d ∈ bs, d.ok) (hp : RdN w.heap.size w (.slice PA pn pc) ps) (hpl : Short ps) (hr : InR r) (hs : s.size ≤ 1048576) (hlen : (blocksP (is.take 60) (bs.take 30) 0).length ≤ 100000000000000) (htab : Lib.TabBelow Tryd.prog w.heap.size w "internal/strconv.uint64pow10" .u64 Lib.pow10Tab) :
    Calls Tryd.prog 3 #[fnV s (.slice PA pn pc) r (.slice IA n ic) (.slice BA m bc)] w fun e w' => e = .returned (.bool true) ∧ Below w.heap.size w w' := by
  obtain ⟨W, hW, hbW, hzW, h0W⟩ := r_one_al w #[.string s, .slice PA pn pc, .int .i64 r, .slice IA n ic, .slice BA m bc] 26
  have hS := small_any s PA pn pc r IA n ic BA m bc is bs W ((hri.keep hbW (kept_below hbW)).mono (by omega)) ((hrb.keep hbW (kept_below hbW)).mono (by omega)) hic hbc
  obtain ⟨x0, x1, x2, x3, x4, -⟩ := cells5 h0W
  obtain ⟨S, hSe⟩ : ∃ S, S = (⟨(rHead s.data.toList ps r ++ rBlocks (is.take 60) (bs.take 30) 0).toArray⟩ : ByteArray) := ⟨_, rfl⟩
  have hbl : (blocksP (is.take 60) (bs.take 30) 0).length = (rBlocks (is.take 60) (bs.take 30) 0).length := by
    have := congrArg List.length (blocks_eq (is.take 60) (bs.take 30) 0)
    simp only [List.length_append, List.length_cons, List.length_nil] at this
    omega
  have hhd : (rHead s.data.toList ps r).length ≤ 1048576 + 22 * 1048576 + 100 := by
    have h1 := rowP_len ps hpl.2
    have h2 := Lib.itoa_length_le r hr.1 hr.2
    have h3 : s.data.toList.length = s.size := by rw [Array.length_toList]; rfl
    have := hpl.1
    unfold rHead
    simp only [List.length_append, List.length_cons, List.length_nil]
    omega
  have HP : Hid (∀ (A : World) (iv bv : Value), Below w.heap.size w A → RdI A.heap.size A iv (is.take 60) → RdB A.heap.size A bv (bs.take 30) →
      (Calls Tryd.prog 6 #[fnV s (.slice PA pn pc) r iv bv] A fun e w' => e = .returned (.string S) ∧ Below A.heap.size A w') ∧
      (Calls Tryd.prog 7 #[fnV s (.slice PA pn pc) r iv bv] A fun e w' => e = .returned (.string S) ∧ Below A.heap.size A w')) := Lib.hid fun A iv bv hA hi hb => by
    have ht : Lib.TabBelow Tryd.prog A.heap.size A "internal/strconv.uint64pow10" .u64 Lib.pow10Tab := Lib.tabBelow_of_tabIs (htab.on hA).here
    have hpA : RdN A.heap.size A (.slice PA pn pc) ps := (hp.keep hA (kept_below hA)).mono hA.size
    have hio' : ∀ d ∈ is.take 60, d.ok ∧ d.args.length ≤ 1048576 := fun d hd => hio d (List.mem_of_mem_take hd)
    have hbo' : ∀ d ∈ bs.take 30, d.ok := fun d hd => hbo d (List.mem_of_mem_take hd)
    refine ⟨?_, ?_⟩
    · have h := print_any s ps r (.slice PA pn pc) iv bv _ _ A (by have := hpl.1; omega) hi hb hio' hbo' hpA hpl.2 hr ht
      rw [texts_eq, ← hSe] at h
      exact h
    · have h := refPrint_any s ps r (.slice PA pn pc) iv bv _ _ A hi hb hio' hbo' hpA hpl hr (by omega) (by omega) ht
      rw [← hSe] at h
      exact h
  have HbW := Lib.hid hbW
  have HW := Lib.hid hW
  have Hz : Hid (W.heap.size = w.heap.size + 1) := Lib.hid hzW
  clear hSe hbl hhd hri hrb hio hbo hp hpl hr hs hlen htab hic hbc hW hbW hzW h0W
  unfold fnV at hS HP ⊢
  go_enter Tryd.func3, Tryd.ntmps3
  go_upto_region 1 with fail
  rw [← HW.out]
  go_upto_region 2 with (go_at_call 4; refine hS.mono ?_; rintro e w1 ⟨iv, bv, rfl, hi, hb, hb1⟩; obtain ⟨IA', ic', e1, -⟩ := id hi; obtain ⟨BA', bc', e2, -⟩ := id hb; generalize (is.take 60).length = n1 at e1; generalize (bs.take 30).length = m1 at e2; subst e1; subst e2; have Hi := Lib.hid hi; have Hb := Lib.hid hb; have Hb1 := Lib.hid hb1; clear hi hb hb1 hS)
  obtain ⟨V, hV, hbV, hzV, h0V⟩ := r_one_al w1 #[.string s, .slice PA pn pc, .int .i64 r, .slice IA' n1 ic', .slice BA' m1 bc'] 26
  rw [← hV]
  have hVw : Below w.heap.size w V := HbW.out.trans ((Hb1.out.trans (hbV.mono Hb1.out.size)).mono HbW.out.size)
  have hA := ip_call V fun A _ => awake7_any A
  have hP1 := ip_call V fun A hA => (HP.out A _ _ (hVw.trans (hA.mono hVw.size)) ((Hi.out.keep (hbV.trans (hA.mono hbV.size)) (kept_below (hbV.trans (hA.mono hbV.size)))).mono (hbV.trans (hA.mono hbV.size)).size) ((Hb.out.keep (hbV.trans (hA.mono hbV.size)) (kept_below (hbV.trans (hA.mono hbV.size)))).mono (hbV.trans (hA.mono hbV.size)).size)).1
  have hP2 := ip_call V fun A hA => (HP.out A _ _ (hVw.trans (hA.mono hVw.size)) ((Hi.out.keep (hbV.trans (hA.mono hbV.size)) (kept_below (hbV.trans (hA.mono hbV.size)))).mono (hbV.trans (hA.mono hbV.size)).size) ((Hb.out.keep (hbV.trans (hA.mono hbV.size)) (kept_below (hbV.trans (hA.mono hbV.size)))).mono (hbV.trans (hA.mono hbV.size)).size)).2
  have z0 := cell_regrown (Lib.cell_of_heap h0V 0)
  have z1 := cell_regrown (Lib.cell_of_heap h0V 1)
  have z2 := cell_regrown (Lib.cell_of_heap h0V 2)
  have z3 := cell_regrown (Lib.cell_of_heap h0V 3)
  have z4 := cell_regrown (Lib.cell_of_heap h0V 4)
  have HVw := Lib.hid hVw
  clear hV hbV hzV h0V hVw x0 x1 x2 x3 x4
  refine wp_region_quiet_below (by kernel_rfl) (by kernel_rfl) ?_
  repeat (go_big_quiet_step (first | exact hA _ | exact hP1 _ | exact hP2 _))
  refine wpQuiet_nil ?_
  intro X2 hw'
  obtain ⟨⟨dq2, osq2⟩, hw''⟩ := hw'
  have HX2 : Hid (Below w.heap.size w X2) := Lib.hid (by rw [hw'']; exact HVw.out.trans ((below_regrown V dq2 osq2).mono HVw.out.size))
  clear hw'' hA hP1 hP2 z0 z1 z2 z3 z4
  go_wp2
  go_ret
  exact ⟨rfl, HX2.out⟩
end Go.Proofs.YtglobeajmdieaaaDoor
