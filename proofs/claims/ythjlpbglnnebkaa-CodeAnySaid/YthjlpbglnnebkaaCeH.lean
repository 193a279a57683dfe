/-
  Programs as bytes: the reference's programs, read.
-/
import Derived.Test.YthjlpbglnnebkaaCeG
namespace Go.Proofs.Ythjlpbglnnebkaa
open Go.RowKit Go.Shelf
set_option linter.unusedVariables false
set_option linter.unusedSimpArgs false

theorem toList_loop_len (bs : ByteArray) : ∀ (k i : Nat) (r : List UInt8), bs.size - i = k → (ByteArray.toList.loop bs i r).length = r.length + k
  | 0, i, r, h => by
    rw [ByteArray.toList.loop, if_neg (by omega)]
    simp
  | k + 1, i, r, h => by
    rw [ByteArray.toList.loop, if_pos (by omega), toList_loop_len bs k (i + 1) _ (by omega)]
    simp
    omega
theorem toList_len (bs : ByteArray) : bs.toList.length = bs.size := by
  unfold ByteArray.toList
  rw [toList_loop_len bs bs.size 0 [] (by omega)]
  simp
theorem toList_some {bs : ByteArray} (h : 0 < bs.size) : bs.toList.isEmpty = false := by
  have := toList_len bs
  cases e : bs.toList with
  | nil => rw [e] at this; simp at this; omega
  | cons _ _ => rfl
theorem toList_none {bs : ByteArray} (h : bs.size = 0) : bs.toList.isEmpty = true := by
  have := toList_len bs
  cases e : bs.toList with
  | nil => rfl
  | cons _ _ => rw [e] at this; simp at this; omega
structure DS (w wr : World) (RB PB : Nat) (l : List UInt8) (b : Bool) (mn : Int) (v : Value) (acc : List (List UInt8 × SF)) : Prop where
  r : RBx RB l b wr
  z : wr.heap[w.heap.size]? = some (.cells #[.slice none 0 0, .int .i64 0] 36 (0, 0))
  p : wr.heap[PB]? = some (.cells #[v, .int .i64 mn] 36 (0, 0))
  o : FnsO (PB + 1) wr v acc
  b : Below w.heap.size w wr
  h1 : w.heap.size < RB
  h2 : RB < PB
  h3 : PB + 1 ≤ wr.heap.size
section
variable {w wr w' : World} {RB PB : Nat} {l l' : List UInt8} {b b' : Bool} {mn : Int} {v : Value} {acc : List (List UInt8 × SF)}
theorem DS.keep (h : DS w wr RB PB l b mn v acc) (hb : Below wr.heap.size wr w') : DS w w' RB PB l b mn v acc :=
  have up : ∀ k o, wr.heap[k]? = some o → w'.heap[k]? = some o := fun k o hk => (hb.block k (gr_in hk)).trans hk
  ⟨up _ _ h.r, up _ _ h.z, up _ _ h.p, h.o.kp (Kp.of_below 50 hb) (by decide) (by decide) (by decide) (by decide), h.b.trans (hb.mono (by have := h.h1; have := h.h2; have := h.h3; omega)), h.h1, h.h2, Nat.le_trans h.h3 hb.size⟩
theorem DS.setR (h : DS w wr RB PB l b mn v acc) : DS w ((wr.setCell ⟨RB, 0, none⟩ (.string ⟨l'.toArray⟩)).setCell ⟨RB, 1, none⟩ (.bool b')) RB PB l' b' mn v acc :=
  have off : ∀ j, j ≠ RB → ((wr.setCell ⟨RB, 0, none⟩ (.string ⟨l'.toArray⟩)).setCell ⟨RB, 1, none⟩ (.bool b')).heap[j]? = wr.heap[j]? := fun j hj => (Below.heap_setCell _ _ _ _ hj).trans (Below.heap_setCell _ _ _ _ hj)
  ⟨h.r.set, (off _ (by have := h.h1; omega)).trans h.z, (off _ (by have := h.h2; omega)).trans h.p, h.o.kp (RBx.set_kp h.r) (by decide) (by decide) (by decide) (by decide), RBx.set_below h.b (Nat.le_of_lt h.h1), h.h1, h.h2, by simp [World.setCell]; exact h.h3⟩
theorem DS.zc (h : DS w wr RB PB l b mn v acc) : wr.cell? ⟨w.heap.size, 0, none⟩ = some (.slice none 0 0) ∧ wr.cell? ⟨w.heap.size, 1, none⟩ = some (.int .i64 0) ∧ wr.frozen? ⟨w.heap.size, 0, none⟩ = false ∧ wr.frozen? ⟨w.heap.size, 1, none⟩ = false :=
  ⟨Lib.cell_of_heap h.z 0, Lib.cell_of_heap h.z 1, Lib.frozen_of_heap h.z 0, Lib.frozen_of_heap h.z 1⟩
theorem DS.pc (h : DS w wr RB PB l b mn v acc) : wr.cell? ⟨PB, 0, none⟩ = some v ∧ wr.cell? ⟨PB, 1, none⟩ = some (.int .i64 mn) ∧ wr.frozen? ⟨PB, 0, none⟩ = false ∧ wr.frozen? ⟨PB, 1, none⟩ = false :=
  ⟨Lib.cell_of_heap h.p 0, Lib.cell_of_heap h.p 1, Lib.frozen_of_heap h.p 0, Lib.frozen_of_heap h.p 1⟩
/-- What a result says. -/
theorem DS.res (h : DS w wr RB PB l b mn v acc) (x y : Value) : ∃ Z, Z = (wr.setCell ⟨w.heap.size, 0, none⟩ x).setCell ⟨w.heap.size, 1, none⟩ y ∧ Z.heap[w.heap.size]? = some (.cells #[x, y] 36 (0, 0)) ∧ FnsO w.heap.size Z v acc ∧ Below w.heap.size w Z :=
  ⟨_, rfl, gr_put (gr_put h.z 0 _) 1 _, (h.o.kp ((Kp.of_lay 50 (by have := h.h1; have := h.h2; omega)).trans (Kp.of_lay _ (by have := h.h1; have := h.h2; omega))) (by decide) (by decide) (by decide) (by decide)).low (by have := h.h1; have := h.h2; omega), (h.b.setCell (p := ⟨w.heap.size, 0, none⟩) (Nat.le_refl _) _).setCell (p := ⟨w.heap.size, 1, none⟩) (Nat.le_refl _) _⟩
end
set_option maxRecDepth 100000 in
set_option maxHeartbeats 32000000 in
theorem rdecode_r (l : List UInt8) (hl : l.length ≤ 1099511627776) (w : World) : Calls Try.prog 25 #[.string ⟨l.toArray⟩] w fun e w' => DecP w.heap.size (decodeQ l) e w' ∧ Below w.heap.size w w' := by
  have hsz : (⟨l.toArray⟩ : ByteArray).size = l.length := by simp [ByteArray.size]
  obtain ⟨W, hW, hbW, hzW, h0W⟩ := gr_one w #[.slice none 0 0, .int .i64 0] 36
  have x0 := Lib.cell_of_heap h0W 0
  have x1 := Lib.cell_of_heap h0W 1
  have f0 := Lib.frozen_of_heap h0W 0
  have f1 := Lib.frozen_of_heap h0W 1
  by_cases hlong : 1048576 < l.length
  · have hq : decodeQ l = none := by unfold decodeQ; rw [if_pos hlong]
    rw [hq]
    have d1 : decide ((l.length : Int) > 1048576) = true := decide_eq_true (by omega)
    obtain ⟨Z, hZ⟩ : ∃ Z, Z = (W.setCell ⟨w.heap.size, 0, none⟩ (.slice none 0 0)).setCell ⟨w.heap.size, 1, none⟩ (.int .i64 0) := ⟨_, rfl⟩
    have hqZ : Z.heap[w.heap.size]? = some (.cells #[.slice none 0 0, .int .i64 0] 36 (0, 0)) := by
      rw [hZ]
      exact gr_put (gr_put h0W 0 _) 1 _
    have hbZ : Below w.heap.size w Z := by
      rw [hZ]
      exact (hbW.setCell (p := ⟨w.heap.size, 0, none⟩) (Nat.le_refl _) _).setCell (p := ⟨w.heap.size, 1, none⟩) (Nat.le_refl _) _
    have HW := Lib.hid hW
    have HqZ := Lib.hid hqZ
    have HbZ := Lib.hid hbZ
    have HZ := Lib.hid hZ
    clear hW hbW hzW h0W hq hlong hqZ hbZ hZ
    go_enter Try.func25, Try.ntmps25
    go_upto_region 1 with fail
    rw [← HW.out]
    go_wp2_with fail
    rw [← HZ.out]
    try simp only [Exit.inBlock, Exit.then]
    refine bodyPost_ret (results_cell_row2 rfl _ _ w.heap.size _ rfl (run_loadVar_row _ w.heap.size _ _ _ _ _ HqZ.out Try.underlying36 rfl (by kernel_rfl))) rfl ?_
    exact ⟨rfl, HbZ.out⟩
  · have d1 : decide ((l.length : Int) > 1048576) = false := decide_eq_false (by omega)
    obtain ⟨⟨an, aq⟩, hA⟩ : ∃ a, a = numS 256 (rR l false) := ⟨_, rfl⟩
    obtain ⟨⟨n1, es0⟩, hM1⟩ : ∃ a, a = numS 256 aq := ⟨_, rfl⟩
    obtain ⟨⟨en, es⟩, hE⟩ : ∃ a, a = manyQ funQ n1 [] es0 := ⟨_, rfl⟩
    have hq : decodeQ l = if es = some [] then some ((an : Int), en) else none := by
      unfold decodeQ
      rw [if_neg hlong]
      have h1 : numS 256 (some l) = (an, aq) := hA.symm
      have h2 : itemsQ 256 funQ aq = (en, es) := by unfold itemsQ; rw [← hM1]; exact hE.symm
      simp only [h1, h2]
    have ban : an ≤ 256 := by have := numS_le 256 (rR l false); rw [← hA] at this; exact this
    have bn1 : n1 ≤ 256 := by have := numS_le 256 aq; rw [← hM1] at this; exact this
    obtain ⟨o, ho⟩ : ∃ o, o = decodeQ l := ⟨_, rfl⟩
    rw [← ho] at hq ⊢
    have HO := Lib.hid hq
    clear ho hq
    have A : ∀ (l1 : List UInt8) (b1 : Bool) (X : World), rR l1 b1 = rR l false → l1.length ≤ l.length → Calls Try.prog 41 #[.agg #[.string ⟨l1.toArray⟩, .bool b1], .int .u64 256] X fun e w' => ∃ (l' : List UInt8) (b' : Bool), e = .returned (.tuple #[.agg #[.string ⟨l'.toArray⟩, .bool b'], .int .u64 (an : Int)]) ∧ rR l' b' = aq ∧ l'.length ≤ l.length ∧ Below X.heap.size X w' := fun l1 b1 X hs h1 => by
      have h := rnum_r l1 b1 256 (by decide) (Nat.le_trans h1 hl) X
      rw [hs, ← hA] at h
      refine h.mono ?_
      rintro e w' ⟨l', b', q1, q2, q3, q4⟩
      exact ⟨l', b', q1, q2, Nat.le_trans q3 h1, q4⟩
    have M1 : ∀ (l1 : List UInt8) (b1 : Bool) (X : World), rR l1 b1 = aq → l1.length ≤ l.length → Calls Try.prog 41 #[.agg #[.string ⟨l1.toArray⟩, .bool b1], .int .u64 256] X fun e w' => ∃ (l' : List UInt8) (b' : Bool), e = .returned (.tuple #[.agg #[.string ⟨l'.toArray⟩, .bool b'], .int .u64 (n1 : Int)]) ∧ rR l' b' = es0 ∧ l'.length ≤ l.length ∧ Below X.heap.size X w' := fun l1 b1 X hs h1 => by
      have h := rnum_r l1 b1 256 (by decide) (Nat.le_trans h1 hl) X
      rw [hs, ← hM1] at h
      refine h.mono ?_
      rintro e w' ⟨l', b', q1, q2, q3, q4⟩
      exact ⟨l', b', q1, q2, Nat.le_trans q3 h1, q4⟩
    have hE0 : es0 = none → es = none := by
      rintro rfl
      rw [← show (en, es).2 = es from rfl, hE]
      exact manyQ_none _ _
    have hK : ∀ (l1 : List UInt8) (b1 : Bool) (X : World), l1.length ≤ l.length → Calls Try.prog 42 #[.agg #[.string ⟨l1.toArray⟩, .bool b1]] X (TakeP l1 (funQ (rR l1 b1)) X) := fun l1 b1 X h => rtake_r l1 b1 (Nat.le_trans h hl) X
    have HE := Lib.hid hE
    have HE0 := Lib.hid hE0
    have HW := Lib.hid hW
    have HbW := Lib.hid hbW
    have HzW := Lib.hid hzW
    have H0 := Lib.hid h0W
    have Hl := Lib.hid hl
    obtain ⟨i0, hi0, hz0, hz1, hz2⟩ := info_parts infoFnQ
    have Ji := Lib.hid hi0
    have Jz0 := Lib.hid hz0
    have Jz1 := Lib.hid hz1
    have Jz2 := Lib.hid hz2
    have hwa : IntKind.i64.wrap (an : Int) = (an : Int) := by rw [IntKind.wrap_i64]; omega
    clear hW hbW hzW h0W hE hE0 hA hM1 hlong hi0 hz0 hz1 hz2 x0 x1 f0 f1
    go_enter Try.func25, Try.ntmps25
    go_upto_region 1 with fail
    rw [← HW.out]
    go_upto_region 4 with (go_at_call 41; refine (A l false _ rfl (Nat.le_refl _)).mono ?_; rintro e u0 ⟨l1, b1, rfl, h1, h2, h3⟩; have hst1 := h1; have HL1 := Lib.hid h2; have B0 := Lib.hid h3; clear h1 h2 h3 A)
    generalize hY : World.alloc _ _ = Y1
    have hb1 : Below u0.heap.size u0 Y1 := by rw [← hY]; exact (Below.refl _ _).alloc (Nat.le_refl _) _
    have hr1 : RBx u0.heap.size l1 b1 Y1 := by rw [← hY]; exact heap_alloc_new u0 _
    have hz1 : Y1.heap.size = u0.heap.size + 1 := by rw [← hY]; simp
    have hW0 : w.heap.size < u0.heap.size := by have := B0.out.size; have := HzW.out; omega
    obtain ⟨RB, hRB⟩ : ∃ RB, RB = u0.heap.size := ⟨_, rfl⟩
    have HR1 := Lib.hid (show RBx RB l1 b1 Y1 ∧ Y1.heap.size = RB + 1 ∧ w.heap.size < RB ∧ Y1.heap[w.heap.size]? = some (.cells #[.slice none 0 0, .int .i64 0] 36 (0, 0)) ∧ Below w.heap.size w Y1 from by
      rw [hRB]
      exact ⟨hr1, hz1, hW0, (hb1.block _ hW0).trans ((B0.out.block _ (by have := HzW.out; omega)).trans H0.out), (HbW.out.trans (B0.out.mono (by have := HzW.out; omega))).trans (hb1.mono (Nat.le_of_lt hW0))⟩)
    rw [← hRB]
    clear hY hb1 hr1 hz1 hW0 hRB B0
    go_upto_region 5 with fail
    generalize hY : World.alloc _ _ = Y2
    obtain ⟨PB, hPB⟩ : ∃ PB, PB = Y1.heap.size := ⟨_, rfl⟩
    have HS1 := Lib.hid (show DS w Y2 RB PB l1 b1 (an : Int) (.slice none 0 0) [] from by
      have hb : Below Y1.heap.size Y1 Y2 := by rw [← hY]; exact (Below.refl _ _).alloc (Nat.le_refl _) _
      have hp : Y2.heap[Y1.heap.size]? = some (.cells #[.slice none 0 0, .int .i64 (an : Int)] 36 (0, 0)) := by rw [← hY]; exact heap_alloc_new Y1 _
      obtain ⟨q1, q2, q3, q4, q5⟩ := HR1.out
      rw [hPB]
      exact ⟨(hb.block _ (by omega)).trans q1, (hb.block _ (by omega)).trans q4, hp, FnsO.nil _ _, q5.trans (hb.mono (by omega)), q3, by omega, gr_in hp⟩)
    rw [← hPB]
    clear hY hPB HR1
    obtain ⟨x0, x1, f0, f1⟩ := HS1.out.r.cells
    go_upto_region 6 with (go_at_call 41; refine (M1 l1 b1 _ hst1 HL1.out).mono ?_; rintro e u1 ⟨l2, b2, rfl, h1, h2, h3⟩; have HT1 := Lib.hid (HS1.out.keep h3); obtain ⟨y0, y1, g0, g1⟩ := HT1.out.r.cells; have hst2 := h1; have HL2 := Lib.hid h2; clear h1 h2 h3 x0 x1 f0 f1)
    clear y0 y1 g0 g1
    generalize hY : World.setCell _ _ _ = X2
    have HS2 := Lib.hid (show DS w X2 RB PB l2 b2 (an : Int) (.slice none 0 0) [] from by
      rw [← hY]
      exact HT1.out.setR (l' := l2) (b' := b2))
    clear hY HT1 HS1 HL1 hst1
    go_upto_block 0 with fail
    go_cut [8] (fun u8 wx => ∃ (l3 : List UInt8) (b3 : Bool) (v : Value) (acc : List (List UInt8 × SF)), Hid (DS w wx RB PB l3 b3 (an : Int) v acc) ∧ Hid (l3.length ≤ l.length) ∧ rR l3 b3 = es ∧ Hid (es ≠ none → acc = en))
    case first =>
      have H0 : Hid (∃ (v : Value) (acc : List (List UInt8 × SF)), DS w X2 RB PB l2 b2 (an : Int) v acc ∧ acc.length ≤ 0 ∧ ((rR l2 b2 ≠ none → manyQ funQ (n1 - 0) acc (rR l2 b2) = (en, es)) ∧ (rR l2 b2 = none → es = none))) := Lib.hid ⟨_, [], HS2.out, Nat.le_refl _, fun _ => by rw [hst2]; exact HE.out.symm, fun h => HE0.out (by rw [← hst2]; exact h)⟩
      clear HS2 hst2
      go_wp2_with fail
      go_loopw [8] (fun u8 wr => ∃ (i : Nat) (acc : List (List UInt8 × SF)) (l3 : List UInt8) (b3 : Bool) (v : Value), i ≤ n1 ∧ u8 = .int .u64 (i : Int) ∧ Hid (DS w wr RB PB l3 b3 (an : Int) v acc) ∧ Hid (l3.length ≤ l.length ∧ acc.length ≤ i) ∧ Hid ((rR l3 b3 ≠ none → manyQ funQ (n1 - i) acc (rR l3 b3) = (en, es)) ∧ (rR l3 b3 = none → es = none))) (fun u8 _ => n1 - (intOf u8).toNat)
      case atStart =>
        obtain ⟨v, acc, q1, q2, q3⟩ := H0.out
        exact ⟨0, acc, l2, b2, v, Nat.zero_le _, rfl, Lib.hid q1, Lib.hid ⟨HL2.out, q2⟩, Lib.hid q3⟩
      case round =>
        clear H0 HL2
        obtain ⟨i, acc, l3, b3, v, hi, rfl, HS, HL, HM⟩ := hrel
        obtain ⟨wo, hwo⟩ : ∃ x, x = wr := ⟨_, rfl⟩
        rw [← hwo] at HS ⊢
        clear hwo
        obtain ⟨x0, x1, f0, f1⟩ := HS.out.r.cells
        by_cases hlt : i < n1 ∧ b3 = false
        · obtain ⟨hlt, rfl⟩ := hlt
          obtain ⟨A2, cp2, rfl⟩ := HS.out.o.slice
          have HA2 := Lib.hid (show ∀ k, (Value.slice A2 acc.length cp2).ownBlock = some k → k < wo.heap.size from by
            obtain ⟨q, _, ho', _⟩ := HS.out.o
            exact fun k hk => (ho'.lt k hk).2)
          obtain ⟨⟨dd, dq⟩, hF⟩ : ∃ a, a = funQ (rR l3 false) := ⟨_, rfl⟩
          have hK2 := hK l3 false wo HL.out.1
          rw [← hF] at hK2
          have HN : Hid (∀ x : List UInt8 × SF, (dq ≠ none → x = dd) → (dq ≠ none → manyQ funQ (n1 - (i + 1)) (acc ++ [x]) dq = (en, es)) ∧ (dq = none → es = none)) := Lib.hid (by
            have h := HM.out.1 (by simp [rR])
            rw [show n1 - i = (n1 - (i + 1)) + 1 by omega] at h
            have h : manyQ funQ (n1 - (i + 1)) (acc ++ [(funQ (rR l3 false)).1]) (funQ (rR l3 false)).2 = (en, es) := h
            rw [← hF] at h
            intro x hx
            refine ⟨fun q => by rw [hx q]; exact h, fun q => ?_⟩
            have h : manyQ funQ (n1 - (i + 1)) (acc ++ [dd]) dq = (en, es) := h
            rw [q] at h
            rw [← show (en, es).2 = es from rfl, ← h]
            exact manyQ_none _ _)
          clear hF HM
          go_upto_region 10 with (go_at_call 42; refine hK2.mono ?_; rintro e u3 ⟨m1, c1, v1, v2, v3, d, rfl, h1, h2, ⟨k1, k2, k3⟩, h4, h3⟩; have HT := Lib.hid (HS.out.keep h3); have HQ1 := Lib.hid (show rR m1 c1 = dq from h1); have HR1 := Lib.hid (Nat.le_trans h2 HL.out.1); have HD := Lib.hid (show dq ≠ none → d = dd from h4); obtain ⟨a1, cp1, rfl⟩ := gr_slice k1; obtain ⟨a2, cq2, rfl⟩ := k2.slice; obtain ⟨a3, cp3, rfl⟩ := k3.slice; have HO3 := Lib.hid (And.intro k1 (And.intro k2 k3)); have HW3 := Lib.hid h3.size; clear h1 h2 h3 h4 k1 k2 k3 x0 x1 f0 f1)
          generalize hY : World.alloc _ _ = Y
          have HY : Hid (DS w Y RB PB l3 false (an : Int) (.slice A2 acc.length cp2) acc ∧ RBx u3.heap.size m1 c1 Y ∧ Y.heap[u3.heap.size + 1]? = some (.cells #[.string ⟨d.1.toArray⟩, .slice a1 d.2.params.length cp1, .int .i64 d.2.ret, .slice a2 d.2.ins.length cq2, .slice a3 d.2.blocks.length cp3] 63 (0, 0)) ∧ (Y.ownsRow wo.heap.size 3 1 (.slice a1 d.2.params.length cp1) d.2.params.length (intsV d.2.params) ∧ InsO wo.heap.size Y (.slice a2 d.2.ins.length cq2) d.2.ins ∧ BlkO wo.heap.size Y (.slice a3 d.2.blocks.length cp3) d.2.blocks) ∧ PB + 1 ≤ u3.heap.size) := Lib.hid (by
            obtain ⟨V, hV, hbV, hzV, h0V⟩ := gr_one u3 #[.string ⟨m1.toArray⟩, .bool c1] 85
            obtain ⟨V2, hV2, hbV2, hzV2, h0V2⟩ := gr_one V #[.string ⟨d.1.toArray⟩, .slice a1 d.2.params.length cp1, .int .i64 d.2.ret, .slice a2 d.2.ins.length cq2, .slice a3 d.2.blocks.length cp3] 63
            have e : Y = V2 := by rw [← hY, hV2, hV]
            have hb : Below u3.heap.size u3 V2 := hbV.trans (hbV2.mono (by omega))
            rw [e]
            exact ⟨HT.out.keep hb, (hbV2.block _ (by omega)).trans h0V, by rw [← hzV]; exact h0V2, ⟨gr_up HO3.out.1 hb, HO3.out.2.1.kp (Kp.of_below 50 hb) (by decide) (by decide), HO3.out.2.2.kp (Kp.of_below 50 hb) (by decide) (by decide)⟩, HT.out.h3⟩)
          obtain ⟨QB, hQB⟩ : ∃ QB, QB = u3.heap.size := ⟨_, rfl⟩
          rw [← hQB] at HY HW3 ⊢
          have HPQ : Hid (PB + 1 ≤ wo.heap.size) := Lib.hid HS.out.h3
          clear hY hQB HT HO3
          obtain ⟨nm, hnm⟩ : ∃ nm, nm = d.1 := ⟨_, rfl⟩
          obtain ⟨f, hf⟩ : ∃ f, f = d.2 := ⟨_, rfl⟩
          have Hdd : Hid (d = (nm, f)) := Lib.hid (by rw [hnm, hf])
          rw [← hnm, ← hf] at HY
          rw [← hnm, ← hf]
          clear hnm hf
          obtain ⟨aa, ha2, ho2, hin2⟩ := HY.out.1.o
          have hal : acc.length = aa.length := by rw [ha2]; simp
          have hla := HL.out.2
          obtain ⟨X, hX⟩ : ∃ X, X = (Y.alloc (.cells #[.string ⟨nm.toArray⟩, .slice a1 f.params.length cp1, .int .i64 f.ret, .slice a2 f.ins.length cq2, .slice a3 f.blocks.length cp3] 63)).drew := ⟨_, rfl⟩
          have hbX : Below Y.heap.size Y X := by rw [hX]; exact below_dr ((Below.refl Y.heap.size Y).alloc (Nat.le_refl _) (.cells #[.string ⟨nm.toArray⟩, .slice a1 f.params.length cp1, .int .i64 f.ret, .slice a2 f.ins.length cq2, .slice a3 f.blocks.length cp3] 63)) 1
          have hnX : ∀ j y, ([.string ⟨nm.toArray⟩, .slice a1 f.params.length cp1, .int .i64 f.ret, .slice a2 f.ins.length cq2, .slice a3 f.blocks.length cp3] : List Value)[j]? = some y → X.cell? ((⟨Y.heap.size, 0, none⟩ : Addr).add j) = some y := by rw [hX]; exact World.news_of_block (w := (Y.alloc (.cells #[.string ⟨nm.toArray⟩, .slice a1 f.params.length cp1, .int .i64 f.ret, .slice a2 f.ins.length cq2, .slice a3 f.blocks.length cp3] 63)).drew) (heap_alloc_new Y _)
          have hqX : RBx QB m1 c1 X := (hbX.block _ (gr_in HY.out.2.1)).trans HY.out.2.1
          have hfX := (hbX.block _ (gr_in HY.out.2.2.1)).trans HY.out.2.2.1
          have HTX := Lib.hid (HY.out.1.keep hbX)
          have HoX := Lib.hid (gr_up ho2 hbX)
          have HinX := Lib.hid (show ∀ p ∈ aa, X.ownsRow (PB + 1) 3 1 p.2.p p.1.2.params.length (intsV p.1.2.params) ∧ InsO (PB + 1) X p.2.i p.1.2.ins ∧ BlkO (PB + 1) X p.2.b p.1.2.blocks from fun p hp => ⟨gr_up (hin2 p hp).1 hbX, (hin2 p hp).2.1.kp (Kp.of_below 50 hbX) (by decide) (by decide), (hin2 p hp).2.2.kp (Kp.of_below 50 hbX) (by decide) (by decide)⟩)
          have HnX := Lib.hid hnX
          have HqX := Lib.hid hqX
          have HfX := Lib.hid hfX
          have HX := Lib.hid hX
          have Ha2 := Lib.hid ha2
          have Hal := Lib.hid hal
          have HOX := Lib.hid (And.intro (gr_up HY.out.2.2.2.1.1 hbX) (And.intro (HY.out.2.2.2.1.2.1.kp (Kp.of_below 50 hbX) (by decide) (by decide)) (HY.out.2.2.2.1.2.2.kp (Kp.of_below 50 hbX) (by decide) (by decide))))
          have Hone : Hid (∀ y ∈ ([.string ⟨nm.toArray⟩, .slice a1 f.params.length cp1, .int .i64 f.ret, .slice a2 f.ins.length cq2, .slice a3 f.blocks.length cp3] : List Value), y.oneCell' = true) := Lib.hid (by intro y hy; simp at hy; rcases hy with rfl | rfl | rfl | rfl | rfl <;> rfl)
          have HbS : Hid (PB + 1 ≤ X.heap.size ∧ aa.length ≤ 131072 ∧ PB + 1 ≤ QB ∧ w.heap.size < RB ∧ RB < PB) := Lib.hid ⟨HTX.out.h3, by omega, HY.out.2.2.2.2, HTX.out.h1, HTX.out.h2⟩
          have s0 : Y.drew.cell? ⟨QB, 0, none⟩ = some (.string ⟨m1.toArray⟩) ∧ Y.drew.cell? ⟨QB, 1, none⟩ = some (.bool c1) ∧ Y.drew.cell? ⟨QB + 1, 0, none⟩ = some (.string ⟨nm.toArray⟩) ∧ Y.drew.cell? ⟨QB + 1, 1, none⟩ = some (.slice a1 f.params.length cp1) ∧ Y.drew.cell? ⟨QB + 1, 2, none⟩ = some (.int .i64 f.ret) ∧ Y.drew.cell? ⟨QB + 1, 3, none⟩ = some (.slice a2 f.ins.length cq2) ∧ Y.drew.cell? ⟨QB + 1, 4, none⟩ = some (.slice a3 f.blocks.length cp3) := ⟨HY.out.2.1.cells.1, HY.out.2.1.cells.2.1, Lib.cell_of_heap HY.out.2.2.1 0, Lib.cell_of_heap HY.out.2.2.1 1, Lib.cell_of_heap HY.out.2.2.1 2, Lib.cell_of_heap HY.out.2.2.1 3, Lib.cell_of_heap HY.out.2.2.1 4⟩
          have s1 : X.cell? ⟨QB, 0, none⟩ = some (.string ⟨m1.toArray⟩) ∧ X.cell? ⟨QB, 1, none⟩ = some (.bool c1) ∧ X.cell? ⟨QB + 1, 0, none⟩ = some (.string ⟨nm.toArray⟩) ∧ X.cell? ⟨QB + 1, 1, none⟩ = some (.slice a1 f.params.length cp1) ∧ X.cell? ⟨QB + 1, 2, none⟩ = some (.int .i64 f.ret) ∧ X.cell? ⟨QB + 1, 3, none⟩ = some (.slice a2 f.ins.length cq2) ∧ X.cell? ⟨QB + 1, 4, none⟩ = some (.slice a3 f.blocks.length cp3) := ⟨hqX.cells.1, hqX.cells.2.1, Lib.cell_of_heap hfX 0, Lib.cell_of_heap hfX 1, Lib.cell_of_heap hfX 2, Lib.cell_of_heap hfX 3, Lib.cell_of_heap hfX 4⟩
          have s0' := s0
          obtain ⟨n0, n1', n2, n3, n4, n5, n6⟩ : Y.cell? ⟨QB, 0, none⟩ = some (.string ⟨m1.toArray⟩) ∧ Y.cell? ⟨QB, 1, none⟩ = some (.bool c1) ∧ Y.cell? ⟨QB + 1, 0, none⟩ = some (.string ⟨nm.toArray⟩) ∧ Y.cell? ⟨QB + 1, 1, none⟩ = some (.slice a1 f.params.length cp1) ∧ Y.cell? ⟨QB + 1, 2, none⟩ = some (.int .i64 f.ret) ∧ Y.cell? ⟨QB + 1, 3, none⟩ = some (.slice a2 f.ins.length cq2) ∧ Y.cell? ⟨QB + 1, 4, none⟩ = some (.slice a3 f.blocks.length cp3) := s0'
          obtain ⟨pc0, -, -, -⟩ := HY.out.1.pc
          have xcX : X.cell? ⟨PB, 0, none⟩ = some (.slice A2 acc.length cp2) := HTX.out.pc.1
          rw [hX] at s1 xcX
          clear hX hbX hnX hqX hfX ha2 ho2 hin2 hal hla
          refine wp_region_held_drew (S := fun w' : World => w'.cell? ⟨QB, 0, none⟩ = some (.string ⟨m1.toArray⟩) ∧ w'.cell? ⟨QB, 1, none⟩ = some (.bool c1) ∧ w'.cell? ⟨QB + 1, 0, none⟩ = some (.string ⟨nm.toArray⟩) ∧ w'.cell? ⟨QB + 1, 1, none⟩ = some (.slice a1 f.params.length cp1) ∧ w'.cell? ⟨QB + 1, 2, none⟩ = some (.int .i64 f.ret) ∧ w'.cell? ⟨QB + 1, 3, none⟩ = some (.slice a2 f.ins.length cq2) ∧ w'.cell? ⟨QB + 1, 4, none⟩ = some (.slice a3 f.blocks.length cp3)) (by kernel_rfl) s0 (fun hHeld => ?_)
          refine wpAnyH_take (i := 0) (v := ?_) rfl (by kernel_rfl) (by kernel_rfl) (by kernel_rfl) (fun _ _ _ h => h) (Or.inl ⟨by rfl, ?_⟩) (by assumption) ?_
          rotate_left
          · (intro w hSw; (try dsimp only at hSw); first | (go_simp; done) | (go_simp; with_reducible rfl))
          try simp only [Act.put, List.setIfInBounds_toArray, List.set_cons_zero, List.set_cons_succ]
          refine wpAnyH_take (i := 1) (v := ?_) rfl (by kernel_rfl) (by kernel_rfl) (by kernel_rfl) (fun _ _ _ h => h) (Or.inl ⟨by rfl, ?_⟩) (by assumption) ?_
          rotate_left
          · (intro w hSw; (try dsimp only at hSw); first | (go_simp; done) | (go_simp; with_reducible rfl))
          try simp only [Act.put, List.setIfInBounds_toArray, List.set_cons_zero, List.set_cons_succ]
          refine wpAnyH_take (i := 3) (v := ?_) rfl (by kernel_rfl) (by kernel_rfl) (by kernel_rfl) (fun _ _ _ h => h) (Or.inl ⟨by rfl, ?_⟩) (by assumption) ?_
          rotate_left
          · (intro w hSw; (try dsimp only at hSw); first | (go_simp; done) | (go_simp; with_reducible rfl))
          try simp only [Act.put, List.setIfInBounds_toArray, List.set_cons_zero, List.set_cons_succ]
          refine wpAnyH_ready (rs := [2, 4]) (by kernel_rfl) (by simp) ?_
          refine AllReadyH.cons rfl (fun K hK => ?_) (AllReadyH.cons rfl (fun K hK => ?_) (AllReadyH.nil))
          · go_simp
            refine hK.out _ _ ?_ (fun hHeld => ?_)
            · ((try dsimp only); first | with_reducible exact s0 | with_reducible exact s1 | with_reducible exact s2 | with_reducible exact s3 | with_reducible exact s4)
            clear hK K
            try simp only [Act.put, List.setIfInBounds_toArray, List.set_cons_zero, List.set_cons_succ]
            refine wpAnyH_ready (rs := [4]) (by kernel_rfl) (by simp) ?_
            refine AllReadyH.cons rfl (fun K hK => ?_) (AllReadyH.nil)
            go_simp
            refine hK.out _ _ ?_ (fun hHeld => ?_)
            · ((try dsimp only); first | with_reducible exact s0 | with_reducible exact s1 | with_reducible exact s2 | with_reducible exact s3 | with_reducible exact s4)
            clear hK K
            try simp only [Act.put, List.setIfInBounds_toArray, List.set_cons_zero, List.set_cons_succ]
            refine wpAnyH_ready (rs := [5]) (by kernel_rfl) (by simp) ?_
            refine AllReadyH.cons rfl (fun K hK => ?_) (AllReadyH.nil)
            rw [← HX.out]
            refine step_append_lies _ rfl (.tmp 46) (.tmp 48) 34 rfl (PB + 1) 63 i0 (.agg #[.string ⟨#[]⟩, .slice none 0 0, .int .i64 0, .slice none 0 0, .slice none 0 0]) 5 96 Try.underlying34 Ji.out Jz0.out Jz1.out Jz2.out rfl (by decide) (.slice A2 acc.length cp2) aa.length (fnsRow aa) (by simp [Act.eval, Act.put]) HoX.out ⟨Y.heap.size, 0, none⟩ 1 1 [.string ⟨nm.toArray⟩, .slice a1 f.params.length cp1, .int .i64 f.ret, .slice a2 f.ins.length cq2, .slice a3 f.blocks.length cp3] (by simp [Act.eval, Act.put]) rfl HnX.out Hone.out (by decide) (by unfold maxLen; have := HbS.out.2.1; omega) (by have := HbS.out.2.1; omega) HbS.out.1 _ rfl ?_
            intro g cap w7 hown hgrow hat hlt7
            have kp : Kp (PB + 1) 63 X w7 := Kp.of_grown HoX.out hgrow
            have hlow : ∀ j, j < PB + 1 → w7.heap[j]? = X.heap[j]? := fun j hj => hgrow.block j (Nat.lt_of_lt_of_le hj HbS.out.1) (fun e => by have := (HoX.out.lt j e.symm).1; omega)
            have hbel : Below w.heap.size w w7 := below_grown HTX.out.b HoX.out (by have := HbS.out; omega) (Nat.le_refl _) hgrow
            obtain ⟨-, -, hPQ, hwR, hRP⟩ := HbS.out
            have ho5 : FnsO (PB + 1) w7 (.slice (some ⟨g, 0, none⟩) (aa.length + 1) cap) (acc ++ [(nm, f)]) := by
              rw [Ha2.out]
              exact FnsO.snoc (d := (nm, f)) hown HinX.out HOX.out HPQ.out kp
            have hr7 : RBx RB l3 false w7 := (hlow _ (by omega)).trans HTX.out.r
            have hp7 := (hlow PB (by omega)).trans HTX.out.p
            have k2 : Kp (PB + 1) 85 w7 ((w7.setCell ⟨RB, 0, none⟩ (.string ⟨m1.toArray⟩)).setCell ⟨RB, 1, none⟩ (.bool c1)) := RBx.set_kp hr7
            have hpR : ((w7.setCell ⟨RB, 0, none⟩ (.string ⟨m1.toArray⟩)).setCell ⟨RB, 1, none⟩ (.bool c1)).heap[PB]? = _ := (Below.heap_setCell _ _ _ _ (by show PB ≠ RB; omega)).trans ((Below.heap_setCell _ _ _ _ (by show PB ≠ RB; omega)).trans hp7)
            have k3 : Kp (PB + 1) 36 ((w7.setCell ⟨RB, 0, none⟩ (.string ⟨m1.toArray⟩)).setCell ⟨RB, 1, none⟩ (.bool c1)) (((w7.setCell ⟨RB, 0, none⟩ (.string ⟨m1.toArray⟩)).setCell ⟨RB, 1, none⟩ (.bool c1)).setCell ⟨PB, 0, none⟩ (.slice (some ⟨g, 0, none⟩) (aa.length + 1) cap)) := Kp.of_set _ hpR
            have T8 : DS w (((w7.setCell ⟨RB, 0, none⟩ (.string ⟨m1.toArray⟩)).setCell ⟨RB, 1, none⟩ (.bool c1)).setCell ⟨PB, 0, none⟩ (.slice (some ⟨g, 0, none⟩) (aa.length + 1) cap)) RB PB m1 c1 (an : Int) (.slice (some ⟨g, 0, none⟩) (aa.length + 1) cap) (acc ++ [(nm, f)]) :=
              ⟨(Below.heap_setCell _ _ _ _ (by show RB ≠ PB; omega)).trans hr7.set, (Below.heap_setCell _ _ _ _ (by show w.heap.size ≠ PB; omega)).trans ((Below.heap_setCell _ _ _ _ (by show w.heap.size ≠ RB; omega)).trans ((Below.heap_setCell _ _ _ _ (by show w.heap.size ≠ RB; omega)).trans ((hlow _ (by omega)).trans HTX.out.z))), gr_put hpR 0 _,
                (ho5.kp k2 (by decide) (by decide) (by decide) (by decide)).kp k3 (by decide) (by decide) (by decide) (by decide), (RBx.set_below hbel (by omega)).setCell (p := ⟨PB, 0, none⟩) (by show w.heap.size ≤ PB; omega) _, hwR, hRP, by simp [World.setCell]; exact Nat.le_trans HbS.out.1 hgrow.size⟩
            have H8 := Lib.hid T8
            have q7 : RBx QB m1 c1 w7 := kp _ _ _ _ hPQ HqX.out (by decide)
            have qf7 : w7.heap[QB + 1]? = _ := (hgrow.block (QB + 1) (gr_in HfX.out) (fun e => by have := HA2.out _ e.symm; have := HW3.out; omega)).trans HfX.out
            have s2 : w7.cell? ⟨QB, 0, none⟩ = some (.string ⟨m1.toArray⟩) ∧ w7.cell? ⟨QB, 1, none⟩ = some (.bool c1) ∧ w7.cell? ⟨QB + 1, 0, none⟩ = some (.string ⟨nm.toArray⟩) ∧ w7.cell? ⟨QB + 1, 1, none⟩ = some (.slice a1 f.params.length cp1) ∧ w7.cell? ⟨QB + 1, 2, none⟩ = some (.int .i64 f.ret) ∧ w7.cell? ⟨QB + 1, 3, none⟩ = some (.slice a2 f.ins.length cq2) ∧ w7.cell? ⟨QB + 1, 4, none⟩ = some (.slice a3 f.blocks.length cp3) := ⟨q7.cells.1, q7.cells.2.1, Lib.cell_of_heap qf7 0, Lib.cell_of_heap qf7 1, Lib.cell_of_heap qf7 2, Lib.cell_of_heap qf7 3, Lib.cell_of_heap qf7 4⟩
            obtain ⟨x0, x1, f0, f1⟩ := hr7.cells
            have hPR1 : ¬ PB = RB := by omega
            have hPR2 : ¬ RB = PB := by omega
            have z3 := Lib.cell_of_heap hp7 0
            have zf3 := Lib.frozen_of_heap hp7 0
            have q8 : RBx QB m1 c1 ((w7.setCell ⟨RB, 0, none⟩ (.string ⟨m1.toArray⟩)).setCell ⟨RB, 1, none⟩ (.bool c1)) := q7.off (by omega)
            have qf8 : ((w7.setCell ⟨RB, 0, none⟩ (.string ⟨m1.toArray⟩)).setCell ⟨RB, 1, none⟩ (.bool c1)).heap[QB + 1]? = _ := (Below.heap_setCell _ _ _ _ (by show QB + 1 ≠ RB; omega)).trans ((Below.heap_setCell _ _ _ _ (by show QB + 1 ≠ RB; omega)).trans qf7)
            have s3 : ((w7.setCell ⟨RB, 0, none⟩ (.string ⟨m1.toArray⟩)).setCell ⟨RB, 1, none⟩ (.bool c1)).cell? ⟨QB, 0, none⟩ = some (.string ⟨m1.toArray⟩) ∧ ((w7.setCell ⟨RB, 0, none⟩ (.string ⟨m1.toArray⟩)).setCell ⟨RB, 1, none⟩ (.bool c1)).cell? ⟨QB, 1, none⟩ = some (.bool c1) ∧ ((w7.setCell ⟨RB, 0, none⟩ (.string ⟨m1.toArray⟩)).setCell ⟨RB, 1, none⟩ (.bool c1)).cell? ⟨QB + 1, 0, none⟩ = some (.string ⟨nm.toArray⟩) ∧ ((w7.setCell ⟨RB, 0, none⟩ (.string ⟨m1.toArray⟩)).setCell ⟨RB, 1, none⟩ (.bool c1)).cell? ⟨QB + 1, 1, none⟩ = some (.slice a1 f.params.length cp1) ∧ ((w7.setCell ⟨RB, 0, none⟩ (.string ⟨m1.toArray⟩)).setCell ⟨RB, 1, none⟩ (.bool c1)).cell? ⟨QB + 1, 2, none⟩ = some (.int .i64 f.ret) ∧ ((w7.setCell ⟨RB, 0, none⟩ (.string ⟨m1.toArray⟩)).setCell ⟨RB, 1, none⟩ (.bool c1)).cell? ⟨QB + 1, 3, none⟩ = some (.slice a2 f.ins.length cq2) ∧ ((w7.setCell ⟨RB, 0, none⟩ (.string ⟨m1.toArray⟩)).setCell ⟨RB, 1, none⟩ (.bool c1)).cell? ⟨QB + 1, 4, none⟩ = some (.slice a3 f.blocks.length cp3) := ⟨q8.cells.1, q8.cells.2.1, Lib.cell_of_heap qf8 0, Lib.cell_of_heap qf8 1, Lib.cell_of_heap qf8 2, Lib.cell_of_heap qf8 3, Lib.cell_of_heap qf8 4⟩
            have q9 : RBx QB m1 c1 (((w7.setCell ⟨RB, 0, none⟩ (.string ⟨m1.toArray⟩)).setCell ⟨RB, 1, none⟩ (.bool c1)).setCell ⟨PB, 0, none⟩ (.slice (some ⟨g, 0, none⟩) (aa.length + 1) cap)) := (Below.heap_setCell _ _ _ _ (by show QB ≠ PB; omega)).trans q8
            have qf9 : (((w7.setCell ⟨RB, 0, none⟩ (.string ⟨m1.toArray⟩)).setCell ⟨RB, 1, none⟩ (.bool c1)).setCell ⟨PB, 0, none⟩ (.slice (some ⟨g, 0, none⟩) (aa.length + 1) cap)).heap[QB + 1]? = _ := (Below.heap_setCell _ _ _ _ (by show QB + 1 ≠ PB; omega)).trans qf8
            have s4 : (((w7.setCell ⟨RB, 0, none⟩ (.string ⟨m1.toArray⟩)).setCell ⟨RB, 1, none⟩ (.bool c1)).setCell ⟨PB, 0, none⟩ (.slice (some ⟨g, 0, none⟩) (aa.length + 1) cap)).cell? ⟨QB, 0, none⟩ = some (.string ⟨m1.toArray⟩) ∧ (((w7.setCell ⟨RB, 0, none⟩ (.string ⟨m1.toArray⟩)).setCell ⟨RB, 1, none⟩ (.bool c1)).setCell ⟨PB, 0, none⟩ (.slice (some ⟨g, 0, none⟩) (aa.length + 1) cap)).cell? ⟨QB, 1, none⟩ = some (.bool c1) ∧ (((w7.setCell ⟨RB, 0, none⟩ (.string ⟨m1.toArray⟩)).setCell ⟨RB, 1, none⟩ (.bool c1)).setCell ⟨PB, 0, none⟩ (.slice (some ⟨g, 0, none⟩) (aa.length + 1) cap)).cell? ⟨QB + 1, 0, none⟩ = some (.string ⟨nm.toArray⟩) ∧ (((w7.setCell ⟨RB, 0, none⟩ (.string ⟨m1.toArray⟩)).setCell ⟨RB, 1, none⟩ (.bool c1)).setCell ⟨PB, 0, none⟩ (.slice (some ⟨g, 0, none⟩) (aa.length + 1) cap)).cell? ⟨QB + 1, 1, none⟩ = some (.slice a1 f.params.length cp1) ∧ (((w7.setCell ⟨RB, 0, none⟩ (.string ⟨m1.toArray⟩)).setCell ⟨RB, 1, none⟩ (.bool c1)).setCell ⟨PB, 0, none⟩ (.slice (some ⟨g, 0, none⟩) (aa.length + 1) cap)).cell? ⟨QB + 1, 2, none⟩ = some (.int .i64 f.ret) ∧ (((w7.setCell ⟨RB, 0, none⟩ (.string ⟨m1.toArray⟩)).setCell ⟨RB, 1, none⟩ (.bool c1)).setCell ⟨PB, 0, none⟩ (.slice (some ⟨g, 0, none⟩) (aa.length + 1) cap)).cell? ⟨QB + 1, 3, none⟩ = some (.slice a2 f.ins.length cq2) ∧ (((w7.setCell ⟨RB, 0, none⟩ (.string ⟨m1.toArray⟩)).setCell ⟨RB, 1, none⟩ (.bool c1)).setCell ⟨PB, 0, none⟩ (.slice (some ⟨g, 0, none⟩) (aa.length + 1) cap)).cell? ⟨QB + 1, 4, none⟩ = some (.slice a3 f.blocks.length cp3) := ⟨q9.cells.1, q9.cells.2.1, Lib.cell_of_heap qf9 0, Lib.cell_of_heap qf9 1, Lib.cell_of_heap qf9 2, Lib.cell_of_heap qf9 3, Lib.cell_of_heap qf9 4⟩
            clear hown hgrow hat hlt7 kp hlow hbel hPQ hwR hRP ho5 hr7 hp7 k2 hpR k3 T8 q7 qf7 q8 qf8 q9 qf9
            refine hK.out _ _ ?_ (fun hHeld => ?_)
            · ((try dsimp only); first | with_reducible exact s0 | with_reducible exact s1 | with_reducible exact s2 | with_reducible exact s3 | with_reducible exact s4)
            clear hK K
            try simp only [Act.put, List.setIfInBounds_toArray, List.set_cons_zero, List.set_cons_succ]
            refine wpAnyH_ready (rs := [6]) (by kernel_rfl) (by simp) ?_
            refine AllReadyH.cons rfl (fun K hK => ?_) (AllReadyH.nil)
            go_simp
            refine hK.out _ _ ?_ (fun hHeld => ?_)
            · ((try dsimp only); first | with_reducible exact s0 | with_reducible exact s1 | with_reducible exact s2 | with_reducible exact s3 | with_reducible exact s4)
            clear hK K
            try simp only [Act.put, List.setIfInBounds_toArray, List.set_cons_zero, List.set_cons_succ]
            refine wpAnyH_take (i := 7) (v := ?_) rfl (by kernel_rfl) (by kernel_rfl) (by kernel_rfl) (fun _ _ _ h => h) (Or.inl ⟨by rfl, ?_⟩) (by assumption) ?_
            rotate_left
            · (intro w hSw; (try dsimp only at hSw); first | (go_simp; done) | (go_simp; with_reducible rfl))
            try simp only [Act.put, List.setIfInBounds_toArray, List.set_cons_zero, List.set_cons_succ]
            refine wpAnyH_ready (rs := [8]) (by kernel_rfl) (by simp) ?_
            refine AllReadyH.cons rfl (fun K hK => ?_) (AllReadyH.nil)
            go_simp
            refine hK.out _ _ ?_ (fun hHeld => ?_)
            · ((try dsimp only); first | with_reducible exact s0 | with_reducible exact s1 | with_reducible exact s2 | with_reducible exact s3 | with_reducible exact s4)
            clear hK K
            try simp only [Act.put, List.setIfInBounds_toArray, List.set_cons_zero, List.set_cons_succ]
            refine wpAnyH_done (by kernel_rfl) ?_ _
            clear x0 x1 f0 f1 s0 s1 s2 s3 s4 z3 zf3 n0 n1' n2 n3 n4 n5 n6 pc0 xcX
            generalize hY8 : World.setCell _ _ _ = Y8
            rw [hY8] at H8
            clear hY8
            go_wp2
            go_roundw
            case rel => exact ⟨i + 1, _, m1, c1, _, by omega, by go_num, H8, Lib.hid ⟨HR1.out, by have := HL.out.2; simp; omega⟩, Lib.hid (by rw [HQ1.out]; exact HN.out (nm, f) (fun q => by rw [← Hdd.out]; exact HD.out q))⟩
            case measure => simp [intOf]; omega
          · go_simp
            refine hK.out _ _ ?_ (fun hHeld => ?_)
            · ((try dsimp only); first | with_reducible exact s0 | with_reducible exact s1 | with_reducible exact s2 | with_reducible exact s3 | with_reducible exact s4)
            clear hK K
            try simp only [Act.put, List.setIfInBounds_toArray, List.set_cons_zero, List.set_cons_succ]
            refine wpAnyH_ready (rs := [2]) (by kernel_rfl) (by simp) ?_
            refine AllReadyH.cons rfl (fun K hK => ?_) (AllReadyH.nil)
            go_simp
            refine hK.out _ _ ?_ (fun hHeld => ?_)
            · ((try dsimp only); first | with_reducible exact s0 | with_reducible exact s1 | with_reducible exact s2 | with_reducible exact s3 | with_reducible exact s4)
            clear hK K
            try simp only [Act.put, List.setIfInBounds_toArray, List.set_cons_zero, List.set_cons_succ]
            refine wpAnyH_ready (rs := [5]) (by kernel_rfl) (by simp) ?_
            refine AllReadyH.cons rfl (fun K hK => ?_) (AllReadyH.nil)
            rw [← HX.out]
            refine step_append_lies _ rfl (.tmp 46) (.tmp 48) 34 rfl (PB + 1) 63 i0 (.agg #[.string ⟨#[]⟩, .slice none 0 0, .int .i64 0, .slice none 0 0, .slice none 0 0]) 5 96 Try.underlying34 Ji.out Jz0.out Jz1.out Jz2.out rfl (by decide) (.slice A2 acc.length cp2) aa.length (fnsRow aa) (by simp [Act.eval, Act.put]) HoX.out ⟨Y.heap.size, 0, none⟩ 1 1 [.string ⟨nm.toArray⟩, .slice a1 f.params.length cp1, .int .i64 f.ret, .slice a2 f.ins.length cq2, .slice a3 f.blocks.length cp3] (by simp [Act.eval, Act.put]) rfl HnX.out Hone.out (by decide) (by unfold maxLen; have := HbS.out.2.1; omega) (by have := HbS.out.2.1; omega) HbS.out.1 _ rfl ?_
            intro g cap w7 hown hgrow hat hlt7
            have kp : Kp (PB + 1) 63 X w7 := Kp.of_grown HoX.out hgrow
            have hlow : ∀ j, j < PB + 1 → w7.heap[j]? = X.heap[j]? := fun j hj => hgrow.block j (Nat.lt_of_lt_of_le hj HbS.out.1) (fun e => by have := (HoX.out.lt j e.symm).1; omega)
            have hbel : Below w.heap.size w w7 := below_grown HTX.out.b HoX.out (by have := HbS.out; omega) (Nat.le_refl _) hgrow
            obtain ⟨-, -, hPQ, hwR, hRP⟩ := HbS.out
            have ho5 : FnsO (PB + 1) w7 (.slice (some ⟨g, 0, none⟩) (aa.length + 1) cap) (acc ++ [(nm, f)]) := by
              rw [Ha2.out]
              exact FnsO.snoc (d := (nm, f)) hown HinX.out HOX.out HPQ.out kp
            have hr7 : RBx RB l3 false w7 := (hlow _ (by omega)).trans HTX.out.r
            have hp7 := (hlow PB (by omega)).trans HTX.out.p
            have k2 : Kp (PB + 1) 85 w7 ((w7.setCell ⟨RB, 0, none⟩ (.string ⟨m1.toArray⟩)).setCell ⟨RB, 1, none⟩ (.bool c1)) := RBx.set_kp hr7
            have hpR : ((w7.setCell ⟨RB, 0, none⟩ (.string ⟨m1.toArray⟩)).setCell ⟨RB, 1, none⟩ (.bool c1)).heap[PB]? = _ := (Below.heap_setCell _ _ _ _ (by show PB ≠ RB; omega)).trans ((Below.heap_setCell _ _ _ _ (by show PB ≠ RB; omega)).trans hp7)
            have k3 : Kp (PB + 1) 36 ((w7.setCell ⟨RB, 0, none⟩ (.string ⟨m1.toArray⟩)).setCell ⟨RB, 1, none⟩ (.bool c1)) (((w7.setCell ⟨RB, 0, none⟩ (.string ⟨m1.toArray⟩)).setCell ⟨RB, 1, none⟩ (.bool c1)).setCell ⟨PB, 0, none⟩ (.slice (some ⟨g, 0, none⟩) (aa.length + 1) cap)) := Kp.of_set _ hpR
            have T8 : DS w (((w7.setCell ⟨RB, 0, none⟩ (.string ⟨m1.toArray⟩)).setCell ⟨RB, 1, none⟩ (.bool c1)).setCell ⟨PB, 0, none⟩ (.slice (some ⟨g, 0, none⟩) (aa.length + 1) cap)) RB PB m1 c1 (an : Int) (.slice (some ⟨g, 0, none⟩) (aa.length + 1) cap) (acc ++ [(nm, f)]) :=
              ⟨(Below.heap_setCell _ _ _ _ (by show RB ≠ PB; omega)).trans hr7.set, (Below.heap_setCell _ _ _ _ (by show w.heap.size ≠ PB; omega)).trans ((Below.heap_setCell _ _ _ _ (by show w.heap.size ≠ RB; omega)).trans ((Below.heap_setCell _ _ _ _ (by show w.heap.size ≠ RB; omega)).trans ((hlow _ (by omega)).trans HTX.out.z))), gr_put hpR 0 _,
                (ho5.kp k2 (by decide) (by decide) (by decide) (by decide)).kp k3 (by decide) (by decide) (by decide) (by decide), (RBx.set_below hbel (by omega)).setCell (p := ⟨PB, 0, none⟩) (by show w.heap.size ≤ PB; omega) _, hwR, hRP, by simp [World.setCell]; exact Nat.le_trans HbS.out.1 hgrow.size⟩
            have H8 := Lib.hid T8
            have q7 : RBx QB m1 c1 w7 := kp _ _ _ _ hPQ HqX.out (by decide)
            have qf7 : w7.heap[QB + 1]? = _ := (hgrow.block (QB + 1) (gr_in HfX.out) (fun e => by have := HA2.out _ e.symm; have := HW3.out; omega)).trans HfX.out
            have s2 : w7.cell? ⟨QB, 0, none⟩ = some (.string ⟨m1.toArray⟩) ∧ w7.cell? ⟨QB, 1, none⟩ = some (.bool c1) ∧ w7.cell? ⟨QB + 1, 0, none⟩ = some (.string ⟨nm.toArray⟩) ∧ w7.cell? ⟨QB + 1, 1, none⟩ = some (.slice a1 f.params.length cp1) ∧ w7.cell? ⟨QB + 1, 2, none⟩ = some (.int .i64 f.ret) ∧ w7.cell? ⟨QB + 1, 3, none⟩ = some (.slice a2 f.ins.length cq2) ∧ w7.cell? ⟨QB + 1, 4, none⟩ = some (.slice a3 f.blocks.length cp3) := ⟨q7.cells.1, q7.cells.2.1, Lib.cell_of_heap qf7 0, Lib.cell_of_heap qf7 1, Lib.cell_of_heap qf7 2, Lib.cell_of_heap qf7 3, Lib.cell_of_heap qf7 4⟩
            obtain ⟨x0, x1, f0, f1⟩ := hr7.cells
            have hPR1 : ¬ PB = RB := by omega
            have hPR2 : ¬ RB = PB := by omega
            have z3 := Lib.cell_of_heap hp7 0
            have zf3 := Lib.frozen_of_heap hp7 0
            have q8 : RBx QB m1 c1 ((w7.setCell ⟨RB, 0, none⟩ (.string ⟨m1.toArray⟩)).setCell ⟨RB, 1, none⟩ (.bool c1)) := q7.off (by omega)
            have qf8 : ((w7.setCell ⟨RB, 0, none⟩ (.string ⟨m1.toArray⟩)).setCell ⟨RB, 1, none⟩ (.bool c1)).heap[QB + 1]? = _ := (Below.heap_setCell _ _ _ _ (by show QB + 1 ≠ RB; omega)).trans ((Below.heap_setCell _ _ _ _ (by show QB + 1 ≠ RB; omega)).trans qf7)
            have s3 : ((w7.setCell ⟨RB, 0, none⟩ (.string ⟨m1.toArray⟩)).setCell ⟨RB, 1, none⟩ (.bool c1)).cell? ⟨QB, 0, none⟩ = some (.string ⟨m1.toArray⟩) ∧ ((w7.setCell ⟨RB, 0, none⟩ (.string ⟨m1.toArray⟩)).setCell ⟨RB, 1, none⟩ (.bool c1)).cell? ⟨QB, 1, none⟩ = some (.bool c1) ∧ ((w7.setCell ⟨RB, 0, none⟩ (.string ⟨m1.toArray⟩)).setCell ⟨RB, 1, none⟩ (.bool c1)).cell? ⟨QB + 1, 0, none⟩ = some (.string ⟨nm.toArray⟩) ∧ ((w7.setCell ⟨RB, 0, none⟩ (.string ⟨m1.toArray⟩)).setCell ⟨RB, 1, none⟩ (.bool c1)).cell? ⟨QB + 1, 1, none⟩ = some (.slice a1 f.params.length cp1) ∧ ((w7.setCell ⟨RB, 0, none⟩ (.string ⟨m1.toArray⟩)).setCell ⟨RB, 1, none⟩ (.bool c1)).cell? ⟨QB + 1, 2, none⟩ = some (.int .i64 f.ret) ∧ ((w7.setCell ⟨RB, 0, none⟩ (.string ⟨m1.toArray⟩)).setCell ⟨RB, 1, none⟩ (.bool c1)).cell? ⟨QB + 1, 3, none⟩ = some (.slice a2 f.ins.length cq2) ∧ ((w7.setCell ⟨RB, 0, none⟩ (.string ⟨m1.toArray⟩)).setCell ⟨RB, 1, none⟩ (.bool c1)).cell? ⟨QB + 1, 4, none⟩ = some (.slice a3 f.blocks.length cp3) := ⟨q8.cells.1, q8.cells.2.1, Lib.cell_of_heap qf8 0, Lib.cell_of_heap qf8 1, Lib.cell_of_heap qf8 2, Lib.cell_of_heap qf8 3, Lib.cell_of_heap qf8 4⟩
            have q9 : RBx QB m1 c1 (((w7.setCell ⟨RB, 0, none⟩ (.string ⟨m1.toArray⟩)).setCell ⟨RB, 1, none⟩ (.bool c1)).setCell ⟨PB, 0, none⟩ (.slice (some ⟨g, 0, none⟩) (aa.length + 1) cap)) := (Below.heap_setCell _ _ _ _ (by show QB ≠ PB; omega)).trans q8
            have qf9 : (((w7.setCell ⟨RB, 0, none⟩ (.string ⟨m1.toArray⟩)).setCell ⟨RB, 1, none⟩ (.bool c1)).setCell ⟨PB, 0, none⟩ (.slice (some ⟨g, 0, none⟩) (aa.length + 1) cap)).heap[QB + 1]? = _ := (Below.heap_setCell _ _ _ _ (by show QB + 1 ≠ PB; omega)).trans qf8
            have s4 : (((w7.setCell ⟨RB, 0, none⟩ (.string ⟨m1.toArray⟩)).setCell ⟨RB, 1, none⟩ (.bool c1)).setCell ⟨PB, 0, none⟩ (.slice (some ⟨g, 0, none⟩) (aa.length + 1) cap)).cell? ⟨QB, 0, none⟩ = some (.string ⟨m1.toArray⟩) ∧ (((w7.setCell ⟨RB, 0, none⟩ (.string ⟨m1.toArray⟩)).setCell ⟨RB, 1, none⟩ (.bool c1)).setCell ⟨PB, 0, none⟩ (.slice (some ⟨g, 0, none⟩) (aa.length + 1) cap)).cell? ⟨QB, 1, none⟩ = some (.bool c1) ∧ (((w7.setCell ⟨RB, 0, none⟩ (.string ⟨m1.toArray⟩)).setCell ⟨RB, 1, none⟩ (.bool c1)).setCell ⟨PB, 0, none⟩ (.slice (some ⟨g, 0, none⟩) (aa.length + 1) cap)).cell? ⟨QB + 1, 0, none⟩ = some (.string ⟨nm.toArray⟩) ∧ (((w7.setCell ⟨RB, 0, none⟩ (.string ⟨m1.toArray⟩)).setCell ⟨RB, 1, none⟩ (.bool c1)).setCell ⟨PB, 0, none⟩ (.slice (some ⟨g, 0, none⟩) (aa.length + 1) cap)).cell? ⟨QB + 1, 1, none⟩ = some (.slice a1 f.params.length cp1) ∧ (((w7.setCell ⟨RB, 0, none⟩ (.string ⟨m1.toArray⟩)).setCell ⟨RB, 1, none⟩ (.bool c1)).setCell ⟨PB, 0, none⟩ (.slice (some ⟨g, 0, none⟩) (aa.length + 1) cap)).cell? ⟨QB + 1, 2, none⟩ = some (.int .i64 f.ret) ∧ (((w7.setCell ⟨RB, 0, none⟩ (.string ⟨m1.toArray⟩)).setCell ⟨RB, 1, none⟩ (.bool c1)).setCell ⟨PB, 0, none⟩ (.slice (some ⟨g, 0, none⟩) (aa.length + 1) cap)).cell? ⟨QB + 1, 3, none⟩ = some (.slice a2 f.ins.length cq2) ∧ (((w7.setCell ⟨RB, 0, none⟩ (.string ⟨m1.toArray⟩)).setCell ⟨RB, 1, none⟩ (.bool c1)).setCell ⟨PB, 0, none⟩ (.slice (some ⟨g, 0, none⟩) (aa.length + 1) cap)).cell? ⟨QB + 1, 4, none⟩ = some (.slice a3 f.blocks.length cp3) := ⟨q9.cells.1, q9.cells.2.1, Lib.cell_of_heap qf9 0, Lib.cell_of_heap qf9 1, Lib.cell_of_heap qf9 2, Lib.cell_of_heap qf9 3, Lib.cell_of_heap qf9 4⟩
            clear hown hgrow hat hlt7 kp hlow hbel hPQ hwR hRP ho5 hr7 hp7 k2 hpR k3 T8 q7 qf7 q8 qf8 q9 qf9
            refine hK.out _ _ ?_ (fun hHeld => ?_)
            · ((try dsimp only); first | with_reducible exact s0 | with_reducible exact s1 | with_reducible exact s2 | with_reducible exact s3 | with_reducible exact s4)
            clear hK K
            try simp only [Act.put, List.setIfInBounds_toArray, List.set_cons_zero, List.set_cons_succ]
            refine wpAnyH_ready (rs := [6]) (by kernel_rfl) (by simp) ?_
            refine AllReadyH.cons rfl (fun K hK => ?_) (AllReadyH.nil)
            go_simp
            refine hK.out _ _ ?_ (fun hHeld => ?_)
            · ((try dsimp only); first | with_reducible exact s0 | with_reducible exact s1 | with_reducible exact s2 | with_reducible exact s3 | with_reducible exact s4)
            clear hK K
            try simp only [Act.put, List.setIfInBounds_toArray, List.set_cons_zero, List.set_cons_succ]
            refine wpAnyH_take (i := 7) (v := ?_) rfl (by kernel_rfl) (by kernel_rfl) (by kernel_rfl) (fun _ _ _ h => h) (Or.inl ⟨by rfl, ?_⟩) (by assumption) ?_
            rotate_left
            · (intro w hSw; (try dsimp only at hSw); first | (go_simp; done) | (go_simp; with_reducible rfl))
            try simp only [Act.put, List.setIfInBounds_toArray, List.set_cons_zero, List.set_cons_succ]
            refine wpAnyH_ready (rs := [8]) (by kernel_rfl) (by simp) ?_
            refine AllReadyH.cons rfl (fun K hK => ?_) (AllReadyH.nil)
            go_simp
            refine hK.out _ _ ?_ (fun hHeld => ?_)
            · ((try dsimp only); first | with_reducible exact s0 | with_reducible exact s1 | with_reducible exact s2 | with_reducible exact s3 | with_reducible exact s4)
            clear hK K
            try simp only [Act.put, List.setIfInBounds_toArray, List.set_cons_zero, List.set_cons_succ]
            refine wpAnyH_done (by kernel_rfl) ?_ _
            clear x0 x1 f0 f1 s0 s1 s2 s3 s4 z3 zf3 n0 n1' n2 n3 n4 n5 n6 pc0 xcX
            generalize hY8 : World.setCell _ _ _ = Y8
            rw [hY8] at H8
            clear hY8
            go_wp2
            go_roundw
            case rel => exact ⟨i + 1, _, m1, c1, _, by omega, by go_num, H8, Lib.hid ⟨HR1.out, by have := HL.out.2; simp; omega⟩, Lib.hid (by rw [HQ1.out]; exact HN.out (nm, f) (fun q => by rw [← Hdd.out]; exact HD.out q))⟩
            case measure => simp [intOf]; omega
        · have HD : Hid (rR l3 b3 = es ∧ (es ≠ none → acc = en)) := Lib.hid (by
            cases b3 with
            | true =>
              have h := HM.out.2 rfl
              exact ⟨h.symm, fun q => absurd h q⟩
            | false =>
              have hin : i = n1 := by have : ¬ i < n1 := fun h => hlt ⟨h, rfl⟩; omega
              have h := HM.out.1 (by simp [rR])
              rw [hin, Nat.sub_self] at h
              injection h with h1 h2
              exact ⟨h2, fun _ => h1⟩)
          by_cases hin : i < n1
          · have hb : b3 = true := by cases b3 with | true => rfl | false => exact absurd ⟨hin, rfl⟩ hlt
            subst hb
            clear hlt
            go_wp2_with fail
            go_meet
            exact ⟨l3, true, _, acc, HS, Lib.hid HL.out.1, HD.out.1, Lib.hid HD.out.2⟩
          · clear hlt
            go_wp2_with fail
            go_meet
            exact ⟨l3, b3, _, acc, HS, Lib.hid HL.out.1, HD.out.1, Lib.hid HD.out.2⟩
    case rest =>
      obtain ⟨l9, b9, v9, acc9, HS9, HL9, hst9, HEN⟩ := hcut
      obtain ⟨A9, cp9, rfl⟩ := HS9.out.o.slice
      obtain ⟨x0, x1, -, -⟩ := HS9.out.r.cells
      obtain ⟨z0, z1, zf0, zf1⟩ := HS9.out.zc
      obtain ⟨p0, p1, -, -⟩ := HS9.out.pc
      rcases b9 with _ | _
      · have hes : es = some l9 := hst9.symm
        rcases l9 with _ | ⟨c, r⟩
        · have HO1 : Hid (o = some ((an : Int), en)) := Lib.hid (by rw [HO.out, if_pos hes])
          have HA : Hid (acc9 = en) := Lib.hid (HEN.out (by rw [hes]; simp))
          obtain ⟨Z, hZe, hZ1, hZ2, hZb⟩ := HS9.out.res (.slice A9 acc9.length cp9) (.int .i64 (an : Int))
          have HZe := Lib.hid hZe
          have HZ1 := Lib.hid hZ1
          have HZ2 := Lib.hid hZ2
          have HZb := Lib.hid hZb
          have x0 : wc.cell? ⟨RB, 0, none⟩ = some (.string ⟨#[]⟩) := x0
          obtain ⟨S, hS⟩ : ∃ S : ByteArray, S = ⟨#[]⟩ := ⟨_, rfl⟩
          have hS1 : S.toList.isEmpty = true := toList_none (by rw [hS]; rfl)
          rw [← hS] at x0
          clear hZe hZ1 hZ2 hZb HS9 hes hst9 hS
          go_wp2_with fail
          rw [← HZe.out]
          try simp only [Exit.inBlock, Exit.then]
          refine bodyPost_ret (results_cell_row2 rfl _ _ w.heap.size _ rfl (run_loadVar_row _ w.heap.size _ _ _ _ _ HZ1.out Try.underlying36 rfl (by kernel_rfl))) rfl ?_
          rw [HO1.out]
          refine ⟨⟨_, rfl, ?_⟩, HZb.out⟩
          have h := HZ2.out
          rw [HA.out] at h ⊢
          exact h
        · have HO1 : Hid (o = none) := Lib.hid (by rw [HO.out, if_neg (by rw [hes]; simp)])
          obtain ⟨Z, hZe, hZ1, -, hZb⟩ := HS9.out.res (.slice none 0 0) (.int .i64 0)
          have HZe := Lib.hid hZe
          have HZ1 := Lib.hid hZ1
          have HZb := Lib.hid hZb
          obtain ⟨S, hS⟩ : ∃ S : ByteArray, S = ⟨(c :: r).toArray⟩ := ⟨_, rfl⟩
          have hS1 : S.toList.isEmpty = false := toList_some (by rw [hS]; simp [ByteArray.size])
          rw [← hS] at x0
          clear hZe hZ1 hZb HS9 hes hst9 hS
          go_wp2_with fail
          rw [← HZe.out]
          try simp only [Exit.inBlock, Exit.then]
          refine bodyPost_ret (results_cell_row2 rfl _ _ w.heap.size _ rfl (run_loadVar_row _ w.heap.size _ _ _ _ _ HZ1.out Try.underlying36 rfl (by kernel_rfl))) rfl ?_
          rw [HO1.out]
          exact ⟨rfl, HZb.out⟩
      · have hes : es = none := hst9.symm
        have HO1 : Hid (o = none) := Lib.hid (by rw [HO.out, if_neg (by rw [hes]; simp)])
        obtain ⟨Z, hZe, hZ1, -, hZb⟩ := HS9.out.res (.slice none 0 0) (.int .i64 0)
        have HZe := Lib.hid hZe
        have HZ1 := Lib.hid hZ1
        have HZb := Lib.hid hZb
        clear hZe hZ1 hZb HS9 hes hst9
        go_wp2_with fail
        rw [← HZe.out]
        try simp only [Exit.inBlock, Exit.then]
        refine bodyPost_ret (results_cell_row2 rfl _ _ w.heap.size _ rfl (run_loadVar_row _ w.heap.size _ _ _ _ _ HZ1.out Try.underlying36 rfl (by kernel_rfl))) rfl ?_
        rw [HO1.out]
        exact ⟨rfl, HZb.out⟩
end Go.Proofs.Ythjlpbglnnebkaa
