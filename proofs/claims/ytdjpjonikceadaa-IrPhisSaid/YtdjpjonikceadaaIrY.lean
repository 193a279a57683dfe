/-
  A block is not come to from another one any more.
-/
import Derived.Test.YtdjpjonikceadaaIrX
namespace Go.Proofs.Ytdjpjonikceadaa
open Go.RowKit
set_option linter.unusedVariables false
set_option linter.unusedSimpArgs false

def ints (l : List Int) : List Value := l.map (fun x => Value.int .i64 x)
def rowI (v : Value) (l : List Int) : Rw := ⟨3, 1, v, l.length, ints l⟩

set_option maxRecDepth 100000 in
set_option maxHeartbeats 16000000 in
theorem lose_any (kp kl : Nat) (hkp : 2 < kp) (hkl : 2 < kl) (E base N n g c gi ci gl cl : Nat) (pred kd ar : Int) (ps args : List Int) (PV QV TV : Value) (bs : List Value) (F : Nat → Rw) (w : World) (hE : EdC w E (.slice (some ⟨gi, 0, none⟩) 1 ci) (.slice (some ⟨g, 0, none⟩) N c)) (hF : Fam w base E F)
    (h0 : F 0 = ⟨46, 5, .slice (some ⟨g, 0, none⟩) N c, N, bs⟩) (h1 : F 1 = ⟨38, 5, .slice (some ⟨gi, 0, none⟩) 1 ci, 1, [.int .i64 3, .int .i64 0, QV, .int .i64 0, .int .i64 0]⟩) (h2 : F 2 = rowI QV args) (hP : F kp = rowI PV ps) (hL : F kl = rowI (.slice (some ⟨gl, 0, none⟩) 1 cl) [0])
    (hn : n < N) (b0 : bs[n * 5]? = some (.slice (some ⟨gl, 0, none⟩) 1 cl)) (b1 : bs[n * 5 + 1]? = some PV) (b2 : bs[n * 5 + 2]? = some (.int .i64 kd)) (b3 : bs[n * 5 + 3]? = some (.int .i64 ar)) (b4 : bs[n * 5 + 4]? = some TV)
    (hb : base ≤ w.heap.size) (hm : ps.length ≤ 1000) (hlen : args.length = ps.length) (hx : pred ∈ ps) :
    Calls Try.prog 28 #[.pointer (some ⟨E, 0, none⟩), .int .i64 n, .int .i64 pred] w fun e w' => e = .returned (.tuple #[]) ∧ Bd E base w w' ∧ EdC w' E (.slice (some ⟨gi, 0, none⟩) 1 ci) (.slice (some ⟨g, 0, none⟩) N c) ∧ ∃ P' Q', Fam w' base E (upR (upR (upR (upR F kp (rowI P' (woA ps ps pred ps.length))) 0 ⟨46, 5, .slice (some ⟨g, 0, none⟩) N c, N, bs.set (n * 5 + 1) P'⟩) 2 (rowI Q' (woA ps args pred args.length))) 1 ⟨38, 5, .slice (some ⟨gi, 0, none⟩) 1 ci, 1, [.int .i64 3, .int .i64 0, Q', .int .i64 0, .int .i64 0]⟩) := by
  have hmf : ∀ (fn : Fn) (first cap : Array Value) (w : World), (Instr.makeFunc fn first cap).run Try.prog w = .ok (.func fn first cap) w := fun _ _ _ _ => rfl
  obtain ⟨W, hW, hbW, hzW, hX⟩ := r_one_al w #[.int .i64 pred] 3
  have hEW : EdC W E (.slice (some ⟨gi, 0, none⟩) 1 ci) (.slice (some ⟨g, 0, none⟩) N c) := (hbW.block E hF.el).trans hE
  have hFW := hF.keep hbW
  have hBo : W.ownsRow base 46 5 (.slice (some ⟨g, 0, none⟩) N c) N bs := hFW.at h0
  have hPo : W.ownsRow base 3 1 PV ps.length (ints ps) := hFW.at hP
  have hQo : W.ownsRow base 3 1 QV args.length (ints args) := hFW.at h2
  obtain ⟨QA, QC, rfl⟩ := own_slice hQo
  have hB := block_ptr E n N g c _ W hEW hn
  have hRI : RI W W.heap.size PV ps := RI.of_own hPo
  obtain ⟨PA, oc, rfl, hr⟩ := hRI
  have hps : 0 < ps.length := List.length_pos_of_mem hx
  obtain ⟨ob, rfl, hob, hoc⟩ := hr hps
  have hRI : RI W W.heap.size (.slice (some ⟨ob, 0, none⟩) ps.length oc) ps := ⟨_, oc, rfl, fun _ => ⟨ob, rfl, hob, hoc⟩⟩
  have hCq : ∀ w', RI w' W.heap.size (.slice (some ⟨ob, 0, none⟩) ps.length oc) ps → Calls Try.prog 24 #[.slice (some ⟨ob, 0, none⟩) ps.length oc, .int .i64 pred] w' fun e w2 => e = .returned (.bool true) ∧ ∃ n, w2 = w'.drewN n := fun w' h => (contains_yes W.heap.size _ ps pred w' h hm hx).mono (fun e w2 ⟨he, hw⟩ => ⟨he, 0, by rw [hw]; rfl⟩)
  have p1 : W.cell? ⟨g, n * 5 + 1, none⟩ = some (.slice (some ⟨ob, 0, none⟩) ps.length oc) := (hBo.cellAt (n * 5 + 1) (by omega)).trans b1
  have x0 : W.cell? ⟨w.heap.size, 0, none⟩ = some (.int .i64 pred) := Lib.cell_of_heap hX 0
  have Hob := Lib.hid hob
  have Hoc := Lib.hid hoc
  have Hgw := Lib.hid ((hF.at h0).lt g rfl).2
  have HW := Lib.hid hW
  have HbW := Lib.hid hbW
  have HzW := Lib.hid hzW
  have HX := Lib.hid hX
  have HEW := Lib.hid hEW
  have HFW := Lib.hid hFW
  have H0 := Lib.hid h0
  have H1 := Lib.hid h1
  have H2 := Lib.hid h2
  have HP := Lib.hid hP
  have HL := Lib.hid hL
  have HB0 := Lib.hid b0
  have HB2 := Lib.hid b2
  have HB3 := Lib.hid b3
  have HB4 := Lib.hid b4
  have HRI := Lib.hid hRI
  have Hlen := Lib.hid hlen
  have HbaW : Hid (base ≤ W.heap.size) := Lib.hid (by omega)
  have Hm := Lib.hid hm
  have Hps := Lib.hid hps
  clear hE hF h0 h1 h2 hP hL b0 b2 b3 b4 hW hbW hzW hX hEW hFW hBo hPo hRI hm hx hlen hps b1 hr hob hoc hQo
  go_enter Try.func28, Try.ntmps28
  go_upto_region 1 with fail
  rw [← HW.out]
  go_upto_region 2 with (go_at_call 22; refine hB.mono ?_; rintro e w1 ⟨rfl, rfl⟩)
  go_quiet (first | (go_at_call 24; refine Calls.quiet_of (hCq _ ?_); exact HRI.out.keep ⟨rfl, rfl, rfl, Nat.le_refl _, fun _ _ => rfl⟩))
  obtain ⟨D, hD⟩ : ∃ D, D = w1.drewN nq := ⟨_, rfl⟩
  rw [← hD]
  have hbD : Below w1.heap.size w1 D := by rw [hD]; exact ⟨rfl, rfl, rfl, Nat.le_refl _, fun _ _ => rfl⟩
  have hzD : D.heap.size = w1.heap.size := by rw [hD]; rfl
  have p1D : D.cell? ⟨g, n * 5 + 1, none⟩ = some (.slice (some ⟨ob, 0, none⟩) ps.length oc) := by rw [hD]; exact p1
  obtain ⟨V1, hV1, hbV1, hzV1, h07⟩ := r_one_al D #[.slice (some ⟨ob, 0, none⟩) ps.length oc] 26
  obtain ⟨a7, ha7⟩ : ∃ a7, a7 = D.heap.size := ⟨_, rfl⟩
  have hzW := HzW.out
  have hb1 : Below w1.heap.size w1 V1 := hbD.trans (hbV1.mono (by omega))
  have hF1 := HFW.out.keep hb1
  have hE1 : EdC V1 E (.slice (some ⟨gi, 0, none⟩) 1 ci) (.slice (some ⟨g, 0, none⟩) N c) := (hb1.block E HFW.out.el).trans HEW.out
  have hX1 := (hb1.block _ (heap_in HX.out)).trans HX.out
  have x5 : V1.cell? ⟨w.heap.size, 0, none⟩ = some (.int .i64 pred) := Lib.cell_of_heap hX1 0
  have c7 : V1.cell? ⟨a7, 0, none⟩ = some (.slice (some ⟨ob, 0, none⟩) ps.length oc) := by rw [ha7]; exact Lib.cell_of_heap h07 0
  have hRI1 : RI V1 V1.heap.size (.slice (some ⟨ob, 0, none⟩) ps.length oc) ps := ⟨_, oc, rfl, fun _ => ⟨ob, rfl, by have := Hob.out; omega, fun j x hj => (hb1.cell (p := ⟨ob, j, none⟩) Hob.out).trans (Hoc.out j x hj)⟩⟩
  have hW1 := without_lose a7 w.heap.size ob oc ps ps pred (.slice (some ⟨ob, 0, none⟩) ps.length oc) V1 hRI1 Hm.out c7 (by omega) x5 (by omega) (by have := Hob.out; omega) (fun j x hj => (hb1.cell (p := ⟨ob, j, none⟩) Hob.out).trans (Hoc.out j x hj)) (Nat.le_refl _)
  rw [← ha7] at h07
  have HV1 := Lib.hid hV1
  have Hb1 := Lib.hid hb1
  have HF1 := Lib.hid hF1
  have HE1 := Lib.hid hE1
  have HX1 := Lib.hid hX1
  have H7 := Lib.hid h07
  have Ha7 := Lib.hid ha7
  have HzV1 : Hid (V1.heap.size = w1.heap.size + 1 ∧ a7 = w1.heap.size) := Lib.hid ⟨by omega, by omega⟩
  clear hD hbD hzD hV1 hbV1 hzV1 h07 ha7 hzW hb1 hF1 hE1 hX1 x5 c7 hRI1 p1 x0 hB hCq
  go_upto_region 4 with fail
  rw [← HV1.out, ← Ha7.out]
  have c7 : V1.cell? ⟨a7, 0, none⟩ = some (.slice (some ⟨ob, 0, none⟩) ps.length oc) := Lib.cell_of_heap H7.out 0
  go_upto_region 6 with (go_at_call 43; refine hW1.mono ?_; rintro e V2 ⟨PZ, rfl, hb2, ho2⟩; obtain ⟨PA2, PC2, rfl⟩ := own_slice ho2; obtain ⟨u1, q1⟩ := own_some (own_up (HF1.out.at H0.out) hb2) (n * 5 + 1) (by show n * 5 + 1 < N * 5; omega); have f1 := (own_up (HF1.out.at H0.out) hb2).frozenAt (n * 5 + 1); have Hb2 := Lib.hid hb2; have Ho2 := Lib.hid ho2; clear hb2 ho2 hW1)
  obtain ⟨V3, hV3⟩ : ∃ V3, V3 = V2.setCell ⟨g, n * 5 + 1, none⟩ (.slice PA2 (woA ps ps pred ps.length).length PC2) := ⟨_, rfl⟩
  rw [← hV3]
  have hgr : V1.grownBy V2 (F kp).v.ownBlock := ⟨Hb2.out.os, Hb2.out.tape, Hb2.out.output, Hb2.out.size, fun k hk _ => Hb2.out.block k hk⟩
  have hbaV1 : base ≤ V1.heap.size := Nat.le_trans HbaW.out Hb1.out.size
  have hF2 := HF1.out.grown kp hgr (rowI (.slice PA2 (woA ps ps pred ps.length).length PC2) (woA ps ps pred ps.length)) (own_mono Ho2.out hbaV1) (fun g' e => .inr (Ho2.out.lt g' e).1)
  have hk0 : upR F kp (rowI (.slice PA2 (woA ps ps pred ps.length).length PC2) (woA ps ps pred ps.length)) 0 = ⟨46, 5, (.slice (some ⟨g, 0, none⟩) N c), N, bs⟩ := by rw [upR_off _ _ _ _ (by omega)]; exact H0.out
  obtain ⟨hF3, hg3⟩ := hF2.put hk0 (n * 5 + 1) (.slice PA2 (woA ps ps pred ps.length).length PC2)
  rw [← hV3] at hF3 hg3
  have hEg : E ≠ g := by intro e; have := HF1.out.av 0; rw [H0.out] at this; exact this (by rw [e]; rfl)
  have hs2 := Hb2.out.size
  have hE3 : EdC V3 E (.slice (some ⟨gi, 0, none⟩) 1 ci) (.slice (some ⟨g, 0, none⟩) N c) := (hg3.block E (by have := HF1.out.el; omega) (fun e => hEg (by injection e))).trans ((Hb2.out.block E HF1.out.el).trans HE1.out)
  have hgi : gi < V1.heap.size := ((HF1.out.at H1.out).lt gi rfl).2
  have hgl : gl < V1.heap.size := ((HF1.out.at HL.out).lt gl rfl).2
  have hgg : base ≤ g ∧ g < V1.heap.size := (HF1.out.at H0.out).lt g rfl
  have hbs : bs.length = N * 5 := (HF1.out.at H0.out).1
  have hB3 := hF3.at (upR_at _ _ _)
  have k0 : V3.cell? ⟨g, n * 5, none⟩ = some (.slice (some ⟨gl, 0, none⟩) 1 cl) := (hB3.cellAt (n * 5) (by show n * 5 < N * 5; omega)).trans ((set_away (by omega)).trans HB0.out)
  have k1 : V3.cell? ⟨g, n * 5 + 1, none⟩ = some (.slice PA2 (woA ps ps pred ps.length).length PC2) := (hB3.cellAt (n * 5 + 1) (by show n * 5 + 1 < N * 5; omega)).trans (List.getElem?_set_self (by omega))
  have k2 : V3.cell? ⟨g, n * 5 + 2, none⟩ = some (.int .i64 kd) := (hB3.cellAt (n * 5 + 2) (by show n * 5 + 2 < N * 5; omega)).trans ((set_away (by omega)).trans HB2.out)
  have k3 : V3.cell? ⟨g, n * 5 + 3, none⟩ = some (.int .i64 ar) := (hB3.cellAt (n * 5 + 3) (by show n * 5 + 3 < N * 5; omega)).trans ((set_away (by omega)).trans HB3.out)
  have k4 : V3.cell? ⟨g, n * 5 + 4, none⟩ = some TV := (hB3.cellAt (n * 5 + 4) (by show n * 5 + 4 < N * 5; omega)).trans ((set_away (by omega)).trans HB4.out)
  have hK1 : (upR (upR F kp (rowI (.slice PA2 (woA ps ps pred ps.length).length PC2) (woA ps ps pred ps.length))) 0 ⟨46, 5, (.slice (some ⟨g, 0, none⟩) N c), N, bs.set (n * 5 + 1) (.slice PA2 (woA ps ps pred ps.length).length PC2)⟩) 1 = ⟨38, 5, (.slice (some ⟨gi, 0, none⟩) 1 ci), 1, [.int .i64 3, .int .i64 0, (.slice QA args.length QC), .int .i64 0, .int .i64 0]⟩ := by rw [upR_off _ _ _ _ (by decide), upR_off _ _ _ _ (by omega)]; exact H1.out
  have hI3 := hF3.at hK1
  have o3 : V3.cell? ⟨gi, 0, none⟩ = some (.int .i64 3) := hI3.cellAt 0 (by show 0 < 1 * 5; decide)
  have hLg : gl ≠ g := fun e => by have := HF1.out.apart (k := kl) (l := 0) (by omega) HL.out H0.out (g := g) rfl; exact this (by rw [← e]; rfl)
  have l3 : V3.cell? ⟨gl, 0, none⟩ = some (.int .i64 0) := (hg3.cell_far ⟨gl, 0, none⟩ (by show gl < V2.heap.size; omega) (fun e => hLg (by injection e))).trans ((Hb2.out.cell (p := ⟨gl, 0, none⟩) hgl).trans ((HF1.out.at HL.out).cellAt 0 (by show 0 < 1 * 1; decide)))
  have hs3 := hg3.size
  have hPh := phis_first E gi ci gl cl (.slice PA2 (woA ps ps pred ps.length).length PC2) TV kd ar V3 (Lib.cell_of_heap hE3 3) o3 l3 (by have := HF1.out.el; omega) (by omega) (by omega)
  have hX3 : V3.heap[w.heap.size]? = _ := (hg3.block _ (by have := heap_in HX1.out; omega) (fun e => by injection e with e; have := Hgw.out; omega)).trans ((Hb2.out.block _ (heap_in HX1.out)).trans HX1.out)
  have hPo1 : w1.ownsRow base 3 1 (.slice (some ⟨ob, 0, none⟩) ps.length oc) ps.length (ints ps) := HFW.out.at HP.out
  have hog : ob ≠ g := fun e => by have := HFW.out.apart (k := kp) (l := 0) (by omega) HP.out H0.out (g := g) rfl; exact this (by rw [← e]; rfl)
  have hold3 : ∀ j x, ps[j]? = some x → V3.cell? ⟨ob, j, none⟩ = some (.int .i64 x) := fun j x hj => (hg3.cell_far ⟨ob, j, none⟩ (by have := Hob.out; have := Hb1.out.size; show ob < V2.heap.size; omega) (fun e => hog (by injection e))).trans ((Hb2.out.cell (p := ⟨ob, j, none⟩) (by have := Hob.out; have := Hb1.out.size; show ob < V1.heap.size; omega)).trans ((Hb1.out.cell (p := ⟨ob, j, none⟩) Hob.out).trans (Hoc.out j x hj)))
  have hzz := HzV1.out
  have hzW := HzW.out
  have h73 : V3.heap[a7]? = _ := (hg3.block a7 (by have := heap_in H7.out; omega) (fun e => by injection e with e; have := Hgw.out; omega)).trans ((Hb2.out.block _ (heap_in H7.out)).trans H7.out)
  have hd3 : Bd E base w V3 := (((Bd.of_below HbW.out hb).trans (Bd.of_below Hb1.out HbaW.out)).trans (Bd.of_below Hb2.out hbaV1)).trans (Bd.of_grown hg3 (fun g' e => by injection e with e; omega) (by omega))
  have hgig : gi ≠ g := fun e => by have := HF1.out.apart (k := 1) (l := 0) (by decide) H1.out H0.out (g := g) rfl; exact this (by rw [← e]; rfl)
  have hEgi : E ≠ gi := by intro e; have := HF1.out.av 1; rw [H1.out] at this; exact this (by rw [e]; rfl)
  have HF3 := Lib.hid hF3
  have HE3 := Lib.hid hE3
  have HX3 := Lib.hid hX3
  have H73 := Lib.hid h73
  have Hold3 := Lib.hid hold3
  have HK1 := Lib.hid hK1
  have Hd3 := Lib.hid hd3
  have HEgi := Lib.hid hEgi
  have Hs3 : Hid (V1.heap.size ≤ V3.heap.size) := Lib.hid (by omega)
  have Hgi := Lib.hid hgi
  have HbaV1 := Lib.hid hbaV1
  have Hgg := Lib.hid hgg
  clear hV3 hgr hbaV1 hF2 hk0 hF3 hg3 hEg hs2 hE3 hgi hgl hgg hbs hB3 hK1 hI3 o3 hLg l3 hs3 hX3 hPo1 hog hold3 hzz hzW h73 hd3 hgig hEgi c7 q1 f1
  go_upto_region 7 with (go_at_call 44; refine hPh.mono ?_; rintro e V4 ⟨g0, c0, rfl, hb4, hc4, hlo4⟩; have Hb4 := Lib.hid hb4; clear hb4 hPh)
  have hF4 := HF3.out.keep Hb4.out
  have hE4 : EdC V4 E (.slice (some ⟨gi, 0, none⟩) 1 ci) (.slice (some ⟨g, 0, none⟩) N c) := (Hb4.out.block E HF3.out.el).trans HE3.out
  have h74 := (Hb4.out.block _ (heap_in H73.out)).trans H73.out
  have hX4 := (Hb4.out.block _ (heap_in HX3.out)).trans HX3.out
  have hK2 : (upR (upR F kp (rowI (.slice PA2 (woA ps ps pred ps.length).length PC2) (woA ps ps pred ps.length))) 0 ⟨46, 5, (.slice (some ⟨g, 0, none⟩) N c), N, bs.set (n * 5 + 1) (.slice PA2 (woA ps ps pred ps.length).length PC2)⟩) 2 = rowI (.slice QA args.length QC) args := by rw [upR_off _ _ _ _ (by decide), upR_off _ _ _ _ (by omega)]; exact H2.out
  have hQ4 : V4.ownsRow base 3 1 (.slice QA args.length QC) args.length (ints args) := hF4.at hK2
  have hRQ : RI V4.drew V4.drew.heap.size (.slice QA args.length QC) args := RI.of_own (w := V4.drew) hQ4
  have hs4 := Hb4.out.size
  have hs3 := Hs3.out
  have hb1s := Hb1.out.size
  have hob := Hob.out
  have hW2 := without_lose a7 w.heap.size ob oc ps args pred (.slice QA args.length QC) V4.drew hRQ (by rw [Hlen.out]; exact Hm.out) (Lib.cell_of_heap (w := V4.drew) h74 0) (heap_in h74) (Lib.cell_of_heap (w := V4.drew) hX4 0) (heap_in hX4) (by show ob < V4.heap.size; omega) (fun j x hj => (Hb4.out.cell (p := ⟨ob, j, none⟩) (by show ob < V3.heap.size; omega)).trans (Hold3.out j x hj)) (by rw [Hlen.out]; exact Nat.le_refl _)
  have gd : V4.drew.cell? ⟨E, 3, none⟩ = some (.slice (some ⟨gi, 0, none⟩) 1 ci) := Lib.cell_of_heap (w := V4.drew) hE4 3
  have hI4 := hF4.at HK1.out
  have o4 : V4.drew.cell? ⟨gi, 2, none⟩ = some (.slice QA args.length QC) := hI4.cellAt (w := V4.drew) 2 (by show 2 < 1 * 5; decide)
  have HF4 := Lib.hid hF4
  have HE4 := Lib.hid hE4
  have HK2 := Lib.hid hK2
  have Hs4 : Hid (V1.heap.size ≤ V4.heap.size) := Lib.hid (by omega)
  clear hF4 hE4 h74 hX4 hK2 hQ4 hRQ hs4 hs3 hb1s hob hI4
  refine wp_loop_rounds 2 ?_
  rw [rounds_succ]
  go_upto_region 9 with fail
  refine wp_region_noPanic ?_
  refine wp_region_held_drew (S := fun w' => w'.cell? ⟨E, 3, none⟩ = some (.slice (some ⟨gi, 0, none⟩) 1 ci)) (by kernel_rfl) gd (fun hHeld => ?_)
  refine wpAnyH_take (i := 0) (v := ?_) rfl (by kernel_rfl) (by kernel_rfl) (by kernel_rfl) (fun _ _ _ h => h) (Or.inl ⟨by rfl, ?_⟩) (by assumption) ?_
  rotate_left
  · (intro w hSw; (try dsimp only at hSw); first | (go_simp; done) | (go_simp; with_reducible rfl))
  try simp only [Act.put, List.setIfInBounds_toArray, List.set_cons_zero, List.set_cons_succ]
  refine wpAnyH_take (i := 1) (v := ?_) rfl (by kernel_rfl) (by kernel_rfl) (by kernel_rfl) (fun _ _ _ h => h) (Or.inl ⟨by rfl, ?_⟩) (by assumption) ?_
  rotate_left
  · (intro w hSw; (try dsimp only at hSw); first | (go_simp; done) | (go_simp; with_reducible rfl))
  try simp only [Act.put, List.setIfInBounds_toArray, List.set_cons_zero, List.set_cons_succ]
  refine wpAnyH_take (i := 2) (v := ?_) rfl (by kernel_rfl) (by kernel_rfl) (by kernel_rfl) (fun _ _ _ h => h) (Or.inl ⟨by rfl, ?_⟩) (by assumption) ?_
  rotate_left
  · (intro w hSw; (try dsimp only at hSw); first | (go_simp; done) | (go_simp; with_reducible rfl))
  try simp only [Act.put, List.setIfInBounds_toArray, List.set_cons_zero, List.set_cons_succ]
  refine wpAnyH_take (i := 3) (v := ?_) rfl (by kernel_rfl) (by kernel_rfl) (by kernel_rfl) (fun _ _ _ h => h) (Or.inl ⟨by rfl, ?_⟩) (by assumption) ?_
  rotate_left
  · (intro w hSw; (try dsimp only at hSw); first | (go_simp; done) | (go_simp; with_reducible rfl))
  try simp only [Act.put, List.setIfInBounds_toArray, List.set_cons_zero, List.set_cons_succ]
  refine wpAnyH_take (i := 4) (v := ?_) rfl (by kernel_rfl) (by kernel_rfl) (by kernel_rfl) (fun _ _ _ h => h) (Or.inl ⟨by rfl, ?_⟩) (by assumption) ?_
  rotate_left
  · (intro w hSw; (try dsimp only at hSw); first | (go_simp; done) | (go_simp; with_reducible rfl))
  try simp only [Act.put, List.setIfInBounds_toArray, List.set_cons_zero, List.set_cons_succ]
  refine wpAnyH_take (i := 5) (v := ?_) rfl (by kernel_rfl) (by kernel_rfl) (by kernel_rfl) (fun _ _ _ h => h) (Or.inl ⟨by rfl, ?_⟩) (by assumption) ?_
  rotate_left
  · (intro w hSw; (try dsimp only at hSw); first | (go_simp; done) | (go_simp; with_reducible rfl))
  try simp only [Act.put, List.setIfInBounds_toArray, List.set_cons_zero, List.set_cons_succ]
  refine wpAnyH_take (i := 6) (v := ?_) rfl (by kernel_rfl) (by kernel_rfl) (by kernel_rfl) (fun _ _ _ h => h) (Or.inl ⟨by rfl, ?_⟩) (by assumption) ?_
  rotate_left
  · (intro w hSw; (try dsimp only at hSw); first | (go_simp; done) | (go_simp; with_reducible rfl))
  try simp only [Act.put, List.setIfInBounds_toArray, List.set_cons_zero, List.set_cons_succ]
  refine wpAnyH_take (i := 7) (v := ?_) rfl (by kernel_rfl) (by kernel_rfl) (by kernel_rfl) (fun _ _ _ h => h) (Or.inl ⟨by rfl, ?_⟩) (by assumption) ?_
  rotate_left
  · (intro w hSw; (try dsimp only at hSw); first | (go_simp; done) | (go_simp; with_reducible rfl))
  try simp only [Act.put, List.setIfInBounds_toArray, List.set_cons_zero, List.set_cons_succ]
  refine wpAnyH_take (i := 8) (v := ?_) rfl (by kernel_rfl) (by kernel_rfl) (by kernel_rfl) (fun _ _ _ h => h) (Or.inl ⟨by rfl, ?_⟩) (by assumption) ?_
  rotate_left
  · (intro w hSw; (try dsimp only at hSw); first | (go_simp; done) | (go_simp; with_reducible rfl))
  try simp only [Act.put, List.setIfInBounds_toArray, List.set_cons_zero, List.set_cons_succ]
  refine wpAnyH_take (i := 9) (v := ?_) rfl (by kernel_rfl) (by kernel_rfl) (by kernel_rfl) (fun _ _ _ h => h) (Or.inl ⟨by rfl, ?_⟩) (by assumption) ?_
  rotate_left
  · (intro w hSw; (try dsimp only at hSw); first | (go_simp; done) | (go_simp; with_reducible rfl))
  try simp only [Act.put, List.setIfInBounds_toArray, List.set_cons_zero, List.set_cons_succ]
  refine wpAnyH_take (i := 10) (v := ?_) rfl (by kernel_rfl) (by kernel_rfl) (by kernel_rfl) (fun _ _ _ h => h) (Or.inl ⟨by rfl, ?_⟩) (by assumption) ?_
  rotate_left
  · (intro w hSw; (try dsimp only at hSw); first | (go_simp; done) | (go_simp; with_reducible rfl))
  try simp only [Act.put, List.setIfInBounds_toArray, List.set_cons_zero, List.set_cons_succ]
  refine wpAnyH_take (i := 11) (v := ?_) rfl (by kernel_rfl) (by kernel_rfl) (by kernel_rfl) (fun _ _ _ h => h) (Or.inl ⟨by rfl, ?_⟩) (by assumption) ?_
  rotate_left
  · (intro w hSw; (try dsimp only at hSw); first | (go_simp; done) | (go_simp; with_reducible rfl))
  try simp only [Act.put, List.setIfInBounds_toArray, List.set_cons_zero, List.set_cons_succ]
  refine wpAnyH_take (i := 12) (v := ?_) rfl (by kernel_rfl) (by kernel_rfl) (by kernel_rfl) (fun _ _ _ h => h) (Or.inl ⟨by rfl, ?_⟩) (by assumption) ?_
  rotate_left
  · (intro w hSw; (try dsimp only at hSw); first | (go_simp; done) | (go_simp; with_reducible rfl))
  try simp only [Act.put, List.setIfInBounds_toArray, List.set_cons_zero, List.set_cons_succ]
  refine wpAnyH_take (i := 13) (v := ?_) rfl (by kernel_rfl) (by kernel_rfl) (by kernel_rfl) (fun _ _ _ h => h) (Or.inl ⟨by rfl, ?_⟩) (by assumption) ?_
  rotate_left
  · (intro w hSw; (try dsimp only at hSw); first | (go_simp; done) | (go_simp; with_reducible rfl))
  try simp only [Act.put, List.setIfInBounds_toArray, List.set_cons_zero, List.set_cons_succ]
  refine wpAnyH_take (i := 15) (v := ?_) rfl (by kernel_rfl) (by kernel_rfl) (by kernel_rfl) (fun _ _ _ h => h) (Or.inl ⟨by rfl, ?_⟩) (by assumption) ?_
  rotate_left
  · (intro w hSw; (try dsimp only at hSw); first | (go_simp; done) | (go_simp; with_reducible rfl))
  try simp only [Act.put, List.setIfInBounds_toArray, List.set_cons_zero, List.set_cons_succ]
  refine wpAnyH_ready (rs := [14]) (by kernel_rfl) (by simp) ?_
  refine AllReadyH.cons rfl (fun K hK => ?_) (AllReadyH.nil)
  go_simp
  refine hK.out _ _ ?_ (fun hHeld => ?_)
  · ((try dsimp only); first | with_reducible exact gd | with_reducible exact g5 | exact (set_off HEgi.out).trans g5)
  clear hK K
  try simp only [Act.put, List.setIfInBounds_toArray, List.set_cons_zero, List.set_cons_succ]
  refine wpAnyH_ready (rs := [16]) (by kernel_rfl) (by simp) ?_
  refine AllReadyH.cons rfl (fun K hK => ?_) (AllReadyH.nil)
  go_simp
  refine hW2.mono ?_
  rintro e V5 ⟨QZ, rfl, hb5, ho5⟩
  obtain ⟨QA2, QC2, rfl⟩ := own_slice ho5
  have hbd : Below V4.heap.size V4 V5 := ⟨hb5.os, hb5.tape, hb5.output, hb5.size, hb5.block⟩
  have hgr5 : V4.grownBy V5 ((upR (upR F kp (rowI (.slice PA2 (woA ps ps pred ps.length).length PC2) (woA ps ps pred ps.length))) 0 ⟨46, 5, (.slice (some ⟨g, 0, none⟩) N c), N, bs.set (n * 5 + 1) (.slice PA2 (woA ps ps pred ps.length).length PC2)⟩) 2).v.ownBlock := ⟨hb5.os, hb5.tape, hb5.output, hb5.size, fun k hk _ => hb5.block k hk⟩
  have hbaV4 : base ≤ V4.heap.size := Nat.le_trans HbaV1.out Hs4.out
  have hF5 := HF4.out.grown 2 hgr5 (rowI (.slice QA2 (woA ps args pred args.length).length QC2) (woA ps args pred args.length)) (own_mono ho5 hbaV4) (fun g' e => .inr (ho5.lt g' e).1)
  have hk1 : upR (upR (upR F kp (rowI (.slice PA2 (woA ps ps pred ps.length).length PC2) (woA ps ps pred ps.length))) 0 ⟨46, 5, (.slice (some ⟨g, 0, none⟩) N c), N, bs.set (n * 5 + 1) (.slice PA2 (woA ps ps pred ps.length).length PC2)⟩) 2 (rowI (.slice QA2 (woA ps args pred args.length).length QC2) (woA ps args pred args.length)) 1 = ⟨38, 5, (.slice (some ⟨gi, 0, none⟩) 1 ci), 1, [.int .i64 3, .int .i64 0, (.slice QA args.length QC), .int .i64 0, .int .i64 0]⟩ := by rw [upR_off _ _ _ _ (by decide)]; exact HK1.out
  have hE5 : EdC V5 E (.slice (some ⟨gi, 0, none⟩) 1 ci) (.slice (some ⟨g, 0, none⟩) N c) := (hbd.block E HF4.out.el).trans HE4.out
  have g5 : V5.cell? ⟨E, 3, none⟩ = some (.slice (some ⟨gi, 0, none⟩) 1 ci) := Lib.cell_of_heap hE5 3
  have hI5 := hF5.at hk1
  have o5 : V5.cell? ⟨gi, 2, none⟩ = some (.slice QA args.length QC) := hI5.cellAt 2 (by show 2 < 1 * 5; decide)
  have of5 : V5.frozen? ⟨gi, 2, none⟩ = false := hI5.frozenAt 2
  obtain ⟨hF6, hg6⟩ := hF5.put hk1 2 (.slice QA2 (woA ps args pred args.length).length QC2)
  have hE6 : EdC (V5.setCell ⟨gi, 2, none⟩ (.slice QA2 (woA ps args pred args.length).length QC2)) E (.slice (some ⟨gi, 0, none⟩) 1 ci) (.slice (some ⟨g, 0, none⟩) N c) := (Below.heap_setCell _ _ _ _ HEgi.out).trans hE5
  have hgib : base ≤ gi := (hI5.lt gi rfl).1
  have hd6 : Bd E base w (V5.setCell ⟨gi, 2, none⟩ (.slice QA2 (woA ps args pred args.length).length QC2)) := ((Hd3.out.trans (Bd.of_below Hb4.out (by have := HbaV1.out; have := Hs3.out; omega))).trans (Bd.of_below hbd hbaV4)).trans (Bd.of_grown hg6 (fun g' e => by injection e with e; omega) (Nat.le_trans hbaV4 hbd.size))
  have Hend := Lib.hid (And.intro hd6 (And.intro hE6 hF6))
  clear hW2 hb5 ho5 hbd hgr5 hbaV4 hF5 hk1 hE5 hI5 hF6 hg6 hE6 hgib hd6
  refine hK.out _ _ ?_ (fun hHeld => ?_)
  · ((try dsimp only); first | with_reducible exact gd | with_reducible exact g5 | exact (set_off HEgi.out).trans g5)
  clear hK K
  try simp only [Act.put, List.setIfInBounds_toArray, List.set_cons_zero, List.set_cons_succ]
  refine wpAnyH_take (i := 17) (v := ?_) rfl (by kernel_rfl) (by kernel_rfl) (by kernel_rfl) (fun _ _ _ h => h) (Or.inl ⟨by rfl, ?_⟩) (by assumption) ?_
  rotate_left
  · (intro w hSw; (try dsimp only at hSw); first | (go_simp; done) | (go_simp; with_reducible rfl))
  try simp only [Act.put, List.setIfInBounds_toArray, List.set_cons_zero, List.set_cons_succ]
  refine wpAnyH_take (i := 18) (v := ?_) rfl (by kernel_rfl) (by kernel_rfl) (by kernel_rfl) (fun _ _ _ h => h) (Or.inl ⟨by rfl, ?_⟩) (by assumption) ?_
  rotate_left
  · (intro w hSw; (try dsimp only at hSw); first | (go_simp; done) | (go_simp; with_reducible rfl))
  try simp only [Act.put, List.setIfInBounds_toArray, List.set_cons_zero, List.set_cons_succ]
  refine wpAnyH_ready (rs := [19]) (by kernel_rfl) (by simp) ?_
  refine AllReadyH.cons rfl (fun K hK => ?_) (AllReadyH.nil)
  go_simp
  refine hK.out _ _ ?_ (fun hHeld => ?_)
  · ((try dsimp only); first | with_reducible exact gd | with_reducible exact g5 | exact (set_off HEgi.out).trans g5)
  clear hK K
  try simp only [Act.put, List.setIfInBounds_toArray, List.set_cons_zero, List.set_cons_succ]
  refine wpAnyH_done (by kernel_rfl) ?_ _
  refine NoPanic.normal ?_
  clear gd g5 o4 o5 of5
  go_wp2
  rw [rounds_succ]
  go_wp2
  go_end0
  exact ⟨rfl, Hend.out.1, Hend.out.2.1, _, _, Hend.out.2.2⟩
end Go.Proofs.Ytdjpjonikceadaa
