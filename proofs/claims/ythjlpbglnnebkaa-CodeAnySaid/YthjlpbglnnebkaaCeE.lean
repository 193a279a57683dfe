/-
  Programs as bytes: the reference's rows, read.
-/
import Derived.Test.YthjlpbglnnebkaaCeD
namespace Go.Proofs.Ythjlpbglnnebkaa
open Go.RowKit Go.Shelf
set_option linter.unusedVariables false
set_option linter.unusedSimpArgs false

theorem Kp.of_set {base c j : Nat} {T : TypeId} {w : World} {cs : Array Value} {fr : Nat × Nat} (x : Value) (h : w.heap[c]? = some (.cells cs T fr)) : Kp base T w (w.setCell ⟨c, j, none⟩ x) := fun g cs' T' fr' hb hh hT => by
  refine (Below.heap_setCell _ _ _ _ (fun e => ?_)).trans hh
  have e : g = c := e
  subst e
  rw [h] at hh
  injection hh with hh
  injection hh with _ hh _
  exact hT hh.symm
theorem below_grown {B base n z : Nat} {T : TypeId} {w0 w w' : World} {v : Value} {xs : List Value} (hb : Below B w0 w) (ho : w.ownsRow base T z v n xs) (hB : B ≤ base) (hBw : B ≤ w0.heap.size) (hg : w.grownBy w' v.ownBlock) : Below B w0 w' :=
  hb.trans ⟨hg.os, hg.tape, hg.output, hg.size, fun k hk => hg.block k (Nat.lt_of_lt_of_le hk (Nat.le_trans hBw hb.size)) (fun e => by have := (ho.lt k e.symm).1; omega)⟩
theorem manyQ_none {α : Type} {item : Option (List UInt8) → α × Option (List UInt8)} : ∀ (k : Nat) (acc : List α), (manyQ item k acc none).2 = none
  | 0, _ => rfl
  | _ + 1, _ => rfl
/-- The reference's reader as it lies. -/
def RBx (B : Nat) (l : List UInt8) (b : Bool) (w : World) : Prop := w.heap[B]? = some (.cells #[.string ⟨l.toArray⟩, .bool b] 85 (0, 0))
theorem RBx.set {B : Nat} {l l' : List UInt8} {b b' : Bool} {w : World} (h : RBx B l b w) : RBx B l' b' ((w.setCell ⟨B, 0, none⟩ (.string ⟨l'.toArray⟩)).setCell ⟨B, 1, none⟩ (.bool b')) := gr_put (gr_put h 0 _) 1 _
theorem RBx.kp {base B : Nat} {T : TypeId} {l : List UInt8} {b : Bool} {w w' : World} (h : RBx B l b w) (k : Kp base T w w') (hB : base ≤ B) (hT : 85 ≠ T) : RBx B l b w' := k _ _ _ _ hB h hT
theorem RBx.set_kp {base B : Nat} {l l' : List UInt8} {b b' : Bool} {w : World} (h : RBx B l b w) : Kp base 85 w ((w.setCell ⟨B, 0, none⟩ (.string ⟨l'.toArray⟩)).setCell ⟨B, 1, none⟩ (.bool b')) :=
  (Kp.of_set _ h).trans (Kp.of_set _ (gr_put h 0 _))
theorem RBx.set_below {B0 B : Nat} {l' : List UInt8} {b' : Bool} {w0 w : World} (hb : Below B0 w0 w) (hB : B0 ≤ B) : Below B0 w0 ((w.setCell ⟨B, 0, none⟩ (.string ⟨l'.toArray⟩)).setCell ⟨B, 1, none⟩ (.bool b')) :=
  (hb.setCell (p := ⟨B, 0, none⟩) hB _).setCell (p := ⟨B, 1, none⟩) hB _
theorem RBx.off {B C : Nat} {l l' : List UInt8} {b b' : Bool} {w : World} (h : RBx C l b w) (hne : C ≠ B) : RBx C l b ((w.setCell ⟨B, 0, none⟩ (.string ⟨l'.toArray⟩)).setCell ⟨B, 1, none⟩ (.bool b')) :=
  (Below.heap_setCell _ _ _ _ hne).trans ((Below.heap_setCell _ _ _ _ hne).trans h)
theorem RBx.cells {B : Nat} {l : List UInt8} {b : Bool} {w : World} (h : RBx B l b w) : w.cell? ⟨B, 0, none⟩ = some (.string ⟨l.toArray⟩) ∧ w.cell? ⟨B, 1, none⟩ = some (.bool b) ∧ w.frozen? ⟨B, 0, none⟩ = false ∧ w.frozen? ⟨B, 1, none⟩ = false :=
  ⟨Lib.cell_of_heap h 0, Lib.cell_of_heap h 1, Lib.frozen_of_heap h 0, Lib.frozen_of_heap h 1⟩
set_option maxRecDepth 100000 in
set_option maxHeartbeats 16000000 in
theorem rrow_r (l : List UInt8) (b : Bool) (most : Nat) (hm : most ≤ 131072) (hl : l.length ≤ 1099511627776) (w : World) : Calls Try.prog 66 #[.agg #[.string ⟨l.toArray⟩, .bool b], .int .u64 (most : Int)] w fun e w' => ∃ (l' : List UInt8) (b' : Bool) (v : Value) (xs : List Int), e = .returned (.tuple #[.agg #[.string ⟨l'.toArray⟩, .bool b'], v]) ∧ rR l' b' = (rowQ most (rR l b)).2 ∧ l'.length ≤ l.length ∧ w'.ownsRow w.heap.size 3 1 v xs.length (intsV xs) ∧ ((rowQ most (rR l b)).2 ≠ none → xs = (rowQ most (rR l b)).1) ∧ Below w.heap.size w w' := by
  obtain ⟨W1, hW1, hbW1, hzW1, h0W1⟩ := gr_one w #[.string ⟨l.toArray⟩, .bool b] 85
  obtain ⟨W2, hW2, hbW2, hzW2, h0W2⟩ := gr_one W1 #[.string ⟨#[]⟩, .bool false] 85
  obtain ⟨W3, hW3, hbW3, hzW3, h0W3⟩ := gr_one W2 #[] 3
  have hz3 : W3.heap.size = w.heap.size + 3 := by omega
  rw [hzW1] at h0W2
  have r3 : RBx w.heap.size l b W3 := (hbW3.block w.heap.size (by omega)).trans ((hbW2.block w.heap.size (by omega)).trans h0W1)
  have q3 : RBx (w.heap.size + 1) [] false W3 := (hbW3.block (w.heap.size + 1) (by omega)).trans h0W2
  have hb3 : Below w.heap.size w W3 := (hbW1.trans (hbW2.mono (by omega))).trans (hbW3.mono (by omega))
  have o3 : W3.ownsRow w.heap.size 3 1 (.slice (some ⟨w.heap.size + 2, 0, none⟩) 0 0) 0 (intsV []) := by
    rw [hW3]
    have := World.ownsRow_made (w := W2) (base := w.heap.size) (e := 3) (size := 1) #[] 0 (by omega) (by decide) rfl
    rwa [show W2.heap.size = w.heap.size + 2 by omega] at this
  obtain ⟨T, hT⟩ : ∃ T, T = rowQ most (rR l b) := ⟨_, rfl⟩
  have hT2 : T = manyQ oneQ (numS most (rR l b)).1 [] (numS most (rR l b)).2 := hT
  rw [← hT]
  have hle := numS_le most (rR l b)
  have hN := rnum_r l b most (by omega) hl
  obtain ⟨o, ho⟩ : ∃ o, o = numS most (rR l b) := ⟨_, rfl⟩
  rw [← ho] at hT2 hle hN
  obtain ⟨n, hn⟩ : ∃ n, n = o.1 := ⟨_, rfl⟩
  rw [← hn] at hT2 hle
  have HT := Lib.hid hT2
  have Hn := Lib.hid hn
  have HW1 := Lib.hid hW1
  have HW2 := Lib.hid hW2
  have HW3 := Lib.hid (show W3 = W2.alloc (.cells #[] 3) from hW3)
  have Hr3 := Lib.hid r3
  have Hq3 := Lib.hid q3
  have Hb3 := Lib.hid hb3
  have Ho3 := Lib.hid o3
  have Hz3 := Lib.hid hz3
  have Hl := Lib.hid hl
  obtain ⟨i0, hi0, hz0, hz1, hz2⟩ := info_parts infoIntQ
  have Ji := Lib.hid hi0
  have Jz0 := Lib.hid hz0
  have Jz1 := Lib.hid hz1
  have Jz2 := Lib.hid hz2
  have x0 := r3.cells.1
  have x1 := r3.cells.2.1
  have e2 : W2.heap.size = w.heap.size + 2 := by omega
  clear hW1 hW2 hW3 hbW1 hbW2 hbW3 hzW1 hzW2 hzW3 h0W1 h0W2 h0W3 r3 q3 hb3 o3 hT hT2 ho hn hl hi0 hz0 hz1 hz2 hz3
  go_enter Try.func66, Try.ntmps66
  go_upto_region 1 with fail
  rw [← HW1.out, ← HW2.out]
  go_upto_region 2 with fail
  rw [← HW3.out]
  clear e2
  go_upto_region 3 with (go_at_call 41; refine (hN _).mono ?_; rintro e w4 ⟨l1, b1, rfl, h1, h2, h3⟩; have R4 := Lib.hid ((h3.block w.heap.size (by have := Hz3.out; omega)).trans Hr3.out); have R4' : RBx w.heap.size l b w4 := R4.out; obtain ⟨y0, y1, f0, f1⟩ := R4'.cells; have Q4 : Hid (RBx (w.heap.size + 1) [] false w4) := Lib.hid ((h3.block (w.heap.size + 1) (by have := Hz3.out; omega)).trans Hq3.out); have O4 := Lib.hid (gr_up Ho3.out h3); have B4 := Lib.hid (Hb3.out.trans (h3.mono (by have := Hz3.out; omega))); have HS1 := Lib.hid h1; have Hl1 := Lib.hid h2; clear h1 h2 h3 hN x0 x1 R4')
  rw [← Hn.out]
  clear y0 y1 f0 f1
  generalize hY5 : World.setCell _ _ _ = Y5
  have H5 : Hid (RBx w.heap.size l1 b1 Y5 ∧ RBx (w.heap.size + 1) [] false Y5 ∧ Y5.ownsRow w.heap.size 3 1 (.slice (some ⟨w.heap.size + 2, 0, none⟩) 0 0) 0 (intsV []) ∧ Below w.heap.size w Y5) := Lib.hid (by
    rw [← hY5]
    exact ⟨RBx.set (l := l) (b := b) R4.out, Q4.out.off (by omega), own_kp O4.out (RBx.set_kp (l := l) (b := b) R4.out) (by decide), RBx.set_below B4.out (Nat.le_refl _)⟩)
  clear hY5 R4 Q4 O4 B4
  go_wp2_with fail
  go_loopw [6, 8] (fun u6 u8 wr => ∃ (i : Nat) (acc : List Int) (l2 : List UInt8) (b2 : Bool), i ≤ n ∧ u8 = .int .u64 (i : Int) ∧ Hid (RBx w.heap.size l2 b2 wr ∧ RBx (w.heap.size + 1) [] false wr ∧ wr.ownsRow w.heap.size 3 1 u6 acc.length (intsV acc) ∧ Below w.heap.size w wr) ∧ Hid (l2.length ≤ l.length ∧ acc.length ≤ i) ∧ Hid (manyQ oneQ (n - i) acc (rR l2 b2) = T)) (fun _ u8 _ => n - (intOf u8).toNat)
  case atStart => exact ⟨0, [], l1, b1, Nat.zero_le _, rfl, H5, Lib.hid ⟨Hl1.out, Nat.le_refl _⟩, Lib.hid (by rw [HT.out, HS1.out]; rfl)⟩
  case round =>
    clear H5
    obtain ⟨i, acc, l2, b2, hi, rfl, HH, HL, HM⟩ := hrel
    obtain ⟨wo, hwo⟩ : ∃ x, x = wr := ⟨_, rfl⟩
    rw [← hwo] at HH ⊢
    clear hwo
    obtain ⟨x0, x1, f0, f1⟩ := HH.out.1.cells
    obtain ⟨q0, q1, qf0, qf1⟩ := HH.out.2.1.cells
    obtain ⟨A0, c0, rfl⟩ := gr_slice HH.out.2.2.1
    have HEnd : ∀ (l' : List UInt8) (b' : Bool), ∃ Z, Z = (wo.setCell ⟨w.heap.size + 1, 0, none⟩ (.string ⟨l'.toArray⟩)).setCell ⟨w.heap.size + 1, 1, none⟩ (.bool b') ∧ RBx (w.heap.size + 1) l' b' Z ∧ Z.ownsRow w.heap.size 3 1 (.slice A0 acc.length c0) acc.length (intsV acc) ∧ Below w.heap.size w Z := fun l' b' => ⟨_, rfl, HH.out.2.1.set, own_kp HH.out.2.2.1 (RBx.set_kp HH.out.2.1) (by decide), RBx.set_below HH.out.2.2.2 (by omega)⟩
    by_cases hlt : i < n ∧ b2 = false
    · obtain ⟨hlt, rfl⟩ := hlt
      clear HEnd q0 q1 qf0 qf1
      have hN2 : Calls Try.prog 41 #[.agg #[.string ⟨l2.toArray⟩, .bool false], .int .u64 131072] wo (RNP l2 (numS 131072 (some l2)) wo) := rnum_r l2 false 131072 (by decide) (Nat.le_trans HL.out.1 Hl.out) wo
      have hk := numS_le 131072 (some l2)
      have hM2 : manyQ oneQ (n - (i + 1)) (acc ++ [(oneQ (some l2)).1]) (oneQ (some l2)).2 = T := by rw [← HM.out, show n - i = (n - (i + 1)) + 1 by omega]; rfl
      have hone : oneQ (some l2) = (((numS 131072 (some l2)).1 : Int) - 1, (numS 131072 (some l2)).2) := rfl
      rw [hone] at hM2
      obtain ⟨o2, ho2⟩ : ∃ o2, o2 = numS 131072 (some l2) := ⟨_, rfl⟩
      rw [← ho2] at hN2 hk hM2
      obtain ⟨k, hkd⟩ : ∃ k, k = o2.1 := ⟨_, rfl⟩
      rw [← hkd] at hk hM2
      have Hk := Lib.hid hkd
      have HM2 := Lib.hid hM2
      have hcw : IntKind.i64.wrap (k : Int) = (k : Int) := by rw [IntKind.wrap_i64]; omega
      have hsw : wrap64 ((k : Int) - 1) = (k : Int) - 1 := IntWalk.wrap64_in _ (by omega)
      have hsw2 : IntKind.i64.wrap ((k : Int) - 1) = (k : Int) - 1 := by rw [IntKind.wrap_i64]; omega
      have hacc : acc.length ≤ 131072 := by have := HL.out.2; omega
      clear ho2 hM2 hkd hone
      go_upto_region 7 with (go_at_call 41; refine hN2.mono ?_; rintro e w6 ⟨l3, b3, rfl, h1, h2, h3⟩; have R6 := Lib.hid ((h3.block w.heap.size (gr_in HH.out.1)).trans HH.out.1); have Q6 := Lib.hid ((h3.block (w.heap.size + 1) (gr_in HH.out.2.1)).trans HH.out.2.1); have O6 := Lib.hid (gr_up HH.out.2.2.1 h3); have B6 := Lib.hid (HH.out.2.2.2.trans (h3.mono HH.out.2.2.2.size)); have HS3 := Lib.hid h1; have Hl3 := Lib.hid (Nat.le_trans h2 HL.out.1); clear h1 h2 h3 hN2)
      rw [← Hk.out]
      generalize hY : World.alloc _ _ = Y
      have hbY : Below w6.heap.size w6 Y := by rw [← hY]; exact (Below.refl _ _).alloc (Nat.le_refl _) _
      have hqY : RBx w6.heap.size l3 b3 Y := by rw [← hY]; exact heap_alloc_new w6 _
      have hrY : RBx w.heap.size l2 false Y := (hbY.block _ (gr_in R6.out)).trans R6.out
      have hpY : RBx (w.heap.size + 1) [] false Y := (hbY.block _ (gr_in Q6.out)).trans Q6.out
      have hoY := gr_up O6.out hbY
      have hBY : Below w.heap.size w Y := B6.out.trans (hbY.mono B6.out.size)
      have hne : w6.heap.size ≠ w.heap.size := by have := gr_in R6.out; omega
      obtain ⟨qb, hqb⟩ : ∃ qb, qb = w6.heap.size := ⟨_, rfl⟩
      rw [← hqb] at hqY hne ⊢
      clear hY hbY hqb R6 Q6 O6 B6
      obtain ⟨X, hX⟩ : ∃ X, X = (Y.alloc (.cells #[.int .i64 ((k : Int) - 1)] 3)).drew := ⟨_, rfl⟩
      have hbX : Below Y.heap.size Y X := by rw [hX]; exact below_dr ((Below.refl Y.heap.size Y).alloc (Nat.le_refl _) (.cells #[.int .i64 ((k : Int) - 1)] 3)) 1
      have hnX : ∀ j y, ([.int .i64 ((k : Int) - 1)] : List Value)[j]? = some y → X.cell? ((⟨Y.heap.size, 0, none⟩ : Addr).add j) = some y := by rw [hX]; exact World.news_of_block (w := (Y.alloc (.cells #[.int .i64 ((k : Int) - 1)] 3)).drew) (heap_alloc_new Y _)
      have hoX := gr_up hoY hbX
      have HX := Lib.hid hX
      have hrX : RBx w.heap.size l2 false X := (hbX.block _ (gr_in hrY)).trans hrY
      have hpX : RBx (w.heap.size + 1) [] false X := (hbX.block _ (gr_in hpY)).trans hpY
      have hqX : RBx qb l3 b3 X := (hbX.block _ (gr_in hqY)).trans hqY
      have hBX : Below w.heap.size w X := hBY.trans (hbX.mono hBY.size)
      have s0 : Y.drew.cell? ⟨qb, 0, none⟩ = some (.string ⟨l3.toArray⟩) ∧ Y.drew.cell? ⟨qb, 1, none⟩ = some (.bool b3) := ⟨hqY.cells.1, hqY.cells.2.1⟩
      have s1 : X.cell? ⟨qb, 0, none⟩ = some (.string ⟨l3.toArray⟩) ∧ X.cell? ⟨qb, 1, none⟩ = some (.bool b3) := ⟨hqX.cells.1, hqX.cells.2.1⟩
      have hqc : Y.cell? ⟨qb, 0, none⟩ = some (.string ⟨l3.toArray⟩) := hqY.cells.1
      have hqc1 : Y.cell? ⟨qb, 1, none⟩ = some (.bool b3) := hqY.cells.2.1
      have HnX := Lib.hid hnX
      have HoX := Lib.hid hoX
      have HrX := Lib.hid hrX
      have HpX := Lib.hid hpX
      have HqX := Lib.hid hqX
      have HBX := Lib.hid hBX
      have Hne := Lib.hid hne
      have HbS : Hid (w.heap.size ≤ X.heap.size) := Lib.hid (by have := hBX.size; omega)
      rw [hX] at s1
      clear hX hbX hnX hoX hrX hpX hqX hBX hne hqY hrY hpY hoY hBY x0 x1 f0 f1
      refine wp_region_held_drew (S := fun w' => w'.cell? ⟨qb, 0, none⟩ = some (.string ⟨l3.toArray⟩) ∧ w'.cell? ⟨qb, 1, none⟩ = some (.bool b3)) (by kernel_rfl) s0 (fun hHeld => ?_)
      refine wpAnyH_take (i := 0) (v := ?_) rfl (by kernel_rfl) (by kernel_rfl) (by kernel_rfl) (fun _ _ _ h => h) (Or.inl ⟨by rfl, ?_⟩) (by assumption) ?_
      rotate_left
      · (intro w hSw; (try dsimp only at hSw); first | (go_simp; done) | (go_simp; with_reducible rfl))
      try simp only [Act.put, List.setIfInBounds_toArray, List.set_cons_zero, List.set_cons_succ]
      refine wpAnyH_take (i := 1) (v := ?_) rfl (by kernel_rfl) (by kernel_rfl) (by kernel_rfl) (fun _ _ _ h => h) (Or.inl ⟨by rfl, ?_⟩) (by assumption) ?_
      rotate_left
      · (intro w hSw; (try dsimp only at hSw); first | (go_simp; done) | (go_simp; with_reducible rfl))
      try simp only [Act.put, List.setIfInBounds_toArray, List.set_cons_zero, List.set_cons_succ]
      refine wpAnyH_take (i := 2) (v := ?_) rfl (by kernel_rfl) (by kernel_rfl) (by kernel_rfl) (fun _ _ _ h => h) (Or.inl ⟨by rfl, ?_⟩) (by assumption) ?_
      rotate_left
      · (intro w hSw; (try dsimp only at hSw); first | (go_simp; done) | (go_simp; with_reducible rfl))
      try simp only [Act.put, List.setIfInBounds_toArray, List.set_cons_zero, List.set_cons_succ]
      refine wpAnyH_take (i := 3) (v := ?_) rfl (by kernel_rfl) (by kernel_rfl) (by kernel_rfl) (fun _ _ _ h => h) (Or.inl ⟨by rfl, ?_⟩) (by assumption) ?_
      rotate_left
      · (intro w hSw; (try dsimp only at hSw); first | (go_simp; done) | (go_simp; with_reducible rfl))
      try simp only [Act.put, List.setIfInBounds_toArray, List.set_cons_zero, List.set_cons_succ]
      refine wpAnyH_take (i := 4) (v := ?_) rfl (by kernel_rfl) (by kernel_rfl) (by kernel_rfl) (fun _ _ _ h => h) (Or.inl ⟨by rfl, ?_⟩) (by assumption) ?_
      rotate_left
      · (intro w hSw; (try dsimp only at hSw); first | (go_simp; done) | (go_simp; with_reducible rfl))
      try simp only [Act.put, List.setIfInBounds_toArray, List.set_cons_zero, List.set_cons_succ]
      refine wpAnyH_ready (rs := [5]) (by kernel_rfl) (by simp) ?_
      refine AllReadyH.cons rfl (fun K hK => ?_) (AllReadyH.nil)
      go_simp
      refine hK.out _ _ ?_ (fun hHeld => ?_)
      · ((try dsimp only); first | with_reducible exact s0 | with_reducible exact s1 | with_reducible exact s2 | with_reducible exact s3)
      clear hK K
      try simp only [Act.put, List.setIfInBounds_toArray, List.set_cons_zero, List.set_cons_succ]
      refine wpAnyH_ready (rs := [6]) (by kernel_rfl) (by simp) ?_
      refine AllReadyH.cons rfl (fun K hK => ?_) (AllReadyH.nil)
      rw [← HX.out]
      refine step_append_lies _ rfl (.tmp 34) (.tmp 38) 59 rfl w.heap.size 3 i0 (.int .i64 0) 1 8 Try.underlying59 Ji.out Jz0.out Jz1.out Jz2.out rfl (by decide) (.slice A0 acc.length c0) acc.length (intsV acc) (by simp [Act.eval, Act.put]) HoX.out ⟨Y.heap.size, 0, none⟩ 1 1 [.int .i64 ((k : Int) - 1)] (by simp [Act.eval, Act.put]) rfl HnX.out (by intro u hu; simp at hu; subst hu; rfl) (by decide) (by unfold maxLen; omega) (by omega) HbS.out _ rfl ?_
      intro g cap w7 hown hgrow hat hlt7
      have kp := Kp.of_grown (base := 0) HoX.out hgrow
      have r7 := HrX.out.kp kp (Nat.zero_le _) (by decide)
      have p7 := HpX.out.kp kp (Nat.zero_le _) (by decide)
      have q7 := HqX.out.kp kp (Nat.zero_le _) (by decide)
      have hb7 := below_grown HBX.out HoX.out (Nat.le_refl _) (Nat.le_refl _) hgrow
      obtain ⟨x0, x1, f0, f1⟩ := r7.cells
      have s2 : w7.cell? ⟨qb, 0, none⟩ = some (.string ⟨l3.toArray⟩) ∧ w7.cell? ⟨qb, 1, none⟩ = some (.bool b3) := ⟨q7.cells.1, q7.cells.2.1⟩
      have q8 : RBx qb l3 b3 ((w7.setCell ⟨w.heap.size, 0, none⟩ (.string ⟨l3.toArray⟩)).setCell ⟨w.heap.size, 1, none⟩ (.bool b3)) := q7.off Hne.out
      have s3 := And.intro q8.cells.1 q8.cells.2.1
      have H8 : Hid (RBx w.heap.size l3 b3 ((w7.setCell ⟨w.heap.size, 0, none⟩ (.string ⟨l3.toArray⟩)).setCell ⟨w.heap.size, 1, none⟩ (.bool b3)) ∧ RBx (w.heap.size + 1) [] false ((w7.setCell ⟨w.heap.size, 0, none⟩ (.string ⟨l3.toArray⟩)).setCell ⟨w.heap.size, 1, none⟩ (.bool b3)) ∧ ((w7.setCell ⟨w.heap.size, 0, none⟩ (.string ⟨l3.toArray⟩)).setCell ⟨w.heap.size, 1, none⟩ (.bool b3)).ownsRow w.heap.size 3 1 (.slice (some ⟨g, 0, none⟩) (acc.length + 1) cap) (acc ++ [(k : Int) - 1]).length (intsV (acc ++ [(k : Int) - 1])) ∧ Below w.heap.size w ((w7.setCell ⟨w.heap.size, 0, none⟩ (.string ⟨l3.toArray⟩)).setCell ⟨w.heap.size, 1, none⟩ (.bool b3))) := Lib.hid ⟨r7.set, p7.off (by omega), own_kp (by rw [List.length_append]; have e : intsV (acc ++ [(k : Int) - 1]) = intsV acc ++ [.int .i64 ((k : Int) - 1)] := (by simp [intsV]); rw [e]; exact hown) r7.set_kp (by decide), RBx.set_below hb7 (Nat.le_refl _)⟩
      clear hown hgrow hat hlt7 kp r7 p7 q7 q8 hb7
      refine hK.out _ _ ?_ (fun hHeld => ?_)
      · ((try dsimp only); first | with_reducible exact s0 | with_reducible exact s1 | with_reducible exact s2 | with_reducible exact s3)
      clear hK K
      try simp only [Act.put, List.setIfInBounds_toArray, List.set_cons_zero, List.set_cons_succ]
      refine wpAnyH_ready (rs := [7]) (by kernel_rfl) (by simp) ?_
      refine AllReadyH.cons rfl (fun K hK => ?_) (AllReadyH.nil)
      go_simp
      refine hK.out _ _ ?_ (fun hHeld => ?_)
      · ((try dsimp only); first | with_reducible exact s0 | with_reducible exact s1 | with_reducible exact s2 | with_reducible exact s3)
      clear hK K
      try simp only [Act.put, List.setIfInBounds_toArray, List.set_cons_zero, List.set_cons_succ]
      refine wpAnyH_ready (rs := [8]) (by kernel_rfl) (by simp) ?_
      refine AllReadyH.cons rfl (fun K hK => ?_) (AllReadyH.nil)
      go_simp
      refine hK.out _ _ ?_ (fun hHeld => ?_)
      · ((try dsimp only); first | with_reducible exact s0 | with_reducible exact s1 | with_reducible exact s2 | with_reducible exact s3)
      clear hK K
      try simp only [Act.put, List.setIfInBounds_toArray, List.set_cons_zero, List.set_cons_succ]
      refine wpAnyH_done (by kernel_rfl) ?_ _
      clear x0 x1 f0 f1 s0 s1 s2 s3
      generalize hY8 : World.setCell _ _ _ = Y8
      rw [hY8] at H8
      clear hY8
      go_wp2
      go_roundw
      case rel => exact ⟨i + 1, acc ++ [(k : Int) - 1], l3, b3, by omega, by go_num, H8, Lib.hid ⟨Hl3.out, by have := HL.out.2; simp; omega⟩, Lib.hid (by rw [HS3.out]; exact HM2.out)⟩
      case measure => simp [intOf]; omega
    · have hdone : (b2 = true) ∨ (b2 = false ∧ i = n) := by
        cases b2 with
        | true => exact .inl rfl
        | false => exact .inr ⟨rfl, by have : ¬ i < n := fun h => hlt ⟨h, rfl⟩; omega⟩
      have HX2 : Hid (rR l2 b2 = T.2 ∧ (T.2 ≠ none → acc = T.1)) := Lib.hid (by
        rcases hdone with rfl | ⟨rfl, rfl⟩
        · have : T.2 = none := by rw [← HM.out]; exact manyQ_none _ _
          exact ⟨this.symm, fun h => absurd this h⟩
        · have : T = (acc, some l2) := by rw [← HM.out, Nat.sub_self]; rfl
          rw [this]
          exact ⟨rfl, fun _ => rfl⟩)
      by_cases hin : i < n
      · have hb : b2 = true := by rcases hdone with h | ⟨_, h⟩ <;> first | exact h | omega
        subst hb
        clear hdone hlt
        obtain ⟨Z, hZe, hZq, hZo, hZb⟩ := HEnd l2 true
        have HZe := Lib.hid hZe
        have HZq := Lib.hid hZq
        have HZo := Lib.hid hZo
        have HZb := Lib.hid hZb
        clear hZe hZq hZo hZb HEnd
        go_wp2_with fail
        rw [← HZe.out]
        try simp only [Exit.inBlock, Exit.then]
        refine bodyPost_ret (results_cell_row2 rfl _ _ (w.heap.size + 1) _ rfl (run_loadVar_row _ (w.heap.size + 1) _ _ _ _ _ HZq.out Try.underlying85 rfl (by kernel_rfl))) rfl ?_
        exact ⟨l2, true, _, acc, rfl, HX2.out.1, HL.out.1, HZo.out, HX2.out.2, HZb.out⟩
      · clear hdone hlt
        obtain ⟨Z, hZe, hZq, hZo, hZb⟩ := HEnd l2 b2
        have HZe := Lib.hid hZe
        have HZq := Lib.hid hZq
        have HZo := Lib.hid hZo
        have HZb := Lib.hid hZb
        clear hZe hZq hZo hZb HEnd
        go_wp2_with fail
        rw [← HZe.out]
        try simp only [Exit.inBlock, Exit.then]
        refine bodyPost_ret (results_cell_row2 rfl _ _ (w.heap.size + 1) _ rfl (run_loadVar_row _ (w.heap.size + 1) _ _ _ _ _ HZq.out Try.underlying85 rfl (by kernel_rfl))) rfl ?_
        exact ⟨l2, b2, _, acc, rfl, HX2.out.1, HL.out.1, HZo.out, HX2.out.2, HZb.out⟩
end Go.Proofs.Ythjlpbglnnebkaa
