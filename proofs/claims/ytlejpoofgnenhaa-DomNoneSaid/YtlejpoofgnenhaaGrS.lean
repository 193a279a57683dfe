/-
  Ways back among some blocks, as their ends go.
-/
import Derived.Test.YtlejpoofgnenhaaGrR
namespace Go.Proofs.Ytlejpoofgnenhaa
open Go.RowKit Go.Shelf
set_option linter.unusedVariables false
set_option linter.unusedSimpArgs false

theorem infoRowsG : (Try.prog.info? 23).map (fun i => (i.zero, i.size, i.bytes)) = some (some (.slice none 0 0), 1, 24) := by kernel_rfl
/-- The rows of blocks from which one comes. -/
def famE (RV : Value) (rs : List (Value × List Int)) : Nat → GRw
  | 0 => ⟨23, 1, RV, rs.length, rs.map (·.1)⟩
  | k + 1 => match rs[k]? with
    | none => rowNo
    | some r => ⟨3, 1, r.1, r.2.length, intsV r.2⟩
theorem famE_succ (RV : Value) (rs : List (Value × List Int)) (k : Nat) : famE RV rs (k + 1) = match rs[k]? with
    | none => rowNo
    | some r => ⟨3, 1, r.1, r.2.length, intsV r.2⟩ := rfl
theorem famE_row (RV : Value) (rs : List (Value × List Int)) (j : Nat) (r : Value × List Int) (h : rs[j]? = some r) : famE RV rs (j + 1) = ⟨3, 1, r.1, r.2.length, intsV r.2⟩ := by
  rw [famE_succ, h]
theorem famE_set (RV : Value) (rs : List (Value × List Int)) (j : Nat) (r r2 : Value × List Int) (h : rs[j]? = some r) :
    upG (upG (famE RV rs) (j + 1) ⟨3, 1, r2.1, r2.2.length, intsV r2.2⟩) 0 ⟨23, 1, RV, rs.length, (rs.map (·.1)).set j r2.1⟩ = famE RV (rs.set j r2) := by
  have hj : j < rs.length := (List.getElem?_eq_some_iff.1 h).1
  funext k
  cases k with
  | zero => rw [upG_at]; simp [famE, List.map_set]
  | succ k =>
    rw [upG_off _ _ _ _ (by omega)]
    by_cases hk : k = j
    · subst hk
      rw [upG_at, famE_row _ _ _ r2 (by simp [hj])]
    · rw [upG_off _ _ _ _ (by omega), famE_succ, famE_succ]
      rw [List.getElem?_set_ne (fun e => hk e.symm)]
theorem GNs_same {n0 : Nat} {w w' : World} {v : Value} {l : List Int} (h : GNs n0 w v l) (hb : ∀ k, k < n0 → w'.heap[k]? = w.heap[k]?) : GNs n0 w' v l := by
  obtain ⟨A, c, hv, hr⟩ := h
  refine ⟨A, c, hv, fun hp => ?_⟩
  obtain ⟨b, o, hA, hbn, hc⟩ := hr hp
  exact ⟨b, o, hA, hbn, fun j x hx => (World.cell?_of_block (a := ⟨b, o + j, none⟩) (hb b hbn)).trans (hc j x hx)⟩
/-- The edges of blocks, in the order of the blocks. -/
def edgesOf (g : List GB) (l : List Nat) : List (Nat × Int) := l.flatMap fun b => (tosG g b).map fun x => (b, x)
theorem edgesOf_snoc (g : List GB) (l : List Nat) (b : Nat) : edgesOf g (l ++ [b]) = edgesOf g l ++ (tosG g b).map fun x => (b, x) := by simp [edgesOf]
/-- The rows, with so many edges entered. -/
structure EMk (base E n : Nat) (w0 w : World) (RV : Value) (rs : List (Value × List Int)) (Ed : List (Nat × Int)) : Prop where
  box : w.heap[E]? = some (.cells #[RV] 29 (0, 0))
  fam : GFam w base E (famE RV rs)
  bd : GBd E base w0 w
  hb : base ≤ w.heap.size
  len : rs.length = n
  is : ∀ j r, rs[j]? = some r → r.2 = predsG Ed j
theorem EMk.keep {base E n : Nat} {w0 w w' : World} {RV : Value} {rs : List (Value × List Int)} {Ed : List (Nat × Int)} (h : EMk base E n w0 w RV rs Ed) (hb : Below w.heap.size w w') : EMk base E n w0 w' RV rs Ed :=
  ⟨(hb.block E h.fam.el).trans h.box, h.fam.keep hb, h.bd.trans (GBd.of_below hb h.hb), Nat.le_trans h.hb hb.size, h.len, h.is⟩
/-- One more edge. -/
theorem EMk.edge {base E n : Nat} {w0 w w2 : World} {gb m c g c2 b t q : Nat} {rs : List (Value × List Int)} {Ed : List (Nat × Int)} {r : Value × List Int} (h : EMk base E n w0 w (.slice (some ⟨gb, 0, none⟩) m c) rs Ed) (hr : rs[t]? = some r)
    (hg : w.grownBy w2 r.1.ownBlock) (ho : w2.ownsRow base 3 1 (.slice (some ⟨g, 0, none⟩) q c2) q (intsV r.2 ++ [.int .i64 (b : Int)])) (hq : q = r.2.length + 1) (hat : r.1.ownBlock = some g ∨ w.heap.size ≤ g) :
    EMk base E n w0 (w2.setCell ⟨gb, t, none⟩ (.slice (some ⟨g, 0, none⟩) q c2)) (.slice (some ⟨gb, 0, none⟩) m c) (rs.set t (.slice (some ⟨g, 0, none⟩) q c2, r.2 ++ [(b : Int)])) (Ed ++ [(b, (t : Int))]) := by
  subst hq
  have hEl := h.fam.el
  have ht : t < rs.length := (List.getElem?_eq_some_iff.1 hr).1
  have hfp := famE_row (.slice (some ⟨gb, 0, none⟩) m c) rs t r hr
  have hg0 : w.grownBy w2 ((famE (.slice (some ⟨gb, 0, none⟩) m c) rs) (t + 1)).v.ownBlock := by rw [hfp]; exact hg
  have hx : intsV r.2 ++ [Value.int .i64 (b : Int)] = intsV (r.2 ++ [(b : Int)]) := by simp [intsV]
  rw [hx] at ho
  have f1 := h.fam.grown (t + 1) hg0 ⟨3, 1, .slice (some ⟨g, 0, none⟩) (r.2.length + 1) c2, (r.2 ++ [(b : Int)]).length, intsV (r.2 ++ [(b : Int)])⟩ (by simpa using ho) (fun g' e => by
    simp only [Value.ownBlock, Option.some.injEq] at e
    subst e
    rw [hfp]
    exact hat)
  have hn : m = rs.length := (gr_len (h.fam.own 0)).2
  obtain ⟨f3, g3⟩ := (f1.put (k := 0) (T := 23) (z := 1) (g := gb) (n := m) (c := c) (xs := rs.map (·.1)) (by rw [upG_off _ _ _ _ (by omega), hn]; rfl) t (.slice (some ⟨g, 0, none⟩) (r.2.length + 1) c2))
  rw [hn] at f3
  rw [famE_set _ _ _ r (.slice (some ⟨g, 0, none⟩) (r.2.length + 1) c2, r.2 ++ [(b : Int)]) hr] at f3
  have hav := h.fam.av (t + 1)
  have hav0 := h.fam.av 0
  rw [hfp] at hav
  have hne : E ≠ gb := fun e => hav0 (by rw [e]; rfl)
  have hE2 := (hg.block E hEl (fun e => hav e.symm)).trans h.box
  have hE3 := (Below.heap_setCell w2 ⟨gb, t, none⟩ (.slice (some ⟨g, 0, none⟩) (r.2.length + 1) c2) E hne).trans hE2
  have hlt := fun k e => ((h.fam.own (t + 1)).lt k e).1
  rw [hfp] at hlt
  have hlt0 := ((h.fam.own 0).lt gb rfl).1
  have hb2 : base ≤ w2.heap.size := Nat.le_trans h.hb hg.size
  subst hn
  refine ⟨hE3, f3, (h.bd.trans (GBd.of_grown hg hlt h.hb)).trans (GBd.of_grown g3 (fun k e => by cases e; exact hlt0) hb2), Nat.le_trans hb2 g3.size, by simpa using h.len, fun j s hs => ?_⟩
  rw [predsG_app]
  by_cases hj : t = j
  · subst hj
    rw [List.getElem?_set_self ht] at hs
    injection hs with hs
    rw [← hs, if_pos rfl, ← h.is t r hr]
  · rw [List.getElem?_set_ne hj] at hs
    rw [if_neg (by omega)]
    exact h.is j s hs
theorem EMk.row {base E n : Nat} {w0 w : World} {gb m c : Nat} {rs : List (Value × List Int)} {Ed : List (Nat × Int)} (h : EMk base E n w0 w (.slice (some ⟨gb, 0, none⟩) m c) rs Ed) : w.ownsRow base 23 1 (.slice (some ⟨gb, 0, none⟩) m c) m (rs.map (·.1)) := by
  have h1 := h.fam.own 0
  have hn : m = rs.length := (gr_len h1).2
  rw [hn]
  rw [hn] at h1
  exact h1

set_option maxRecDepth 100000 in
set_option maxHeartbeats 2000000 in
/-- The way back from one block. -/
theorem byEnds1_g (F gb n c b : Nat) (rs : List (Value × List Int)) (r : Value × List Int) (A : Option Addr) (q d : Nat) (w : World) (hF : w.cell? ⟨F, 0, none⟩ = some (.slice (some ⟨gb, 0, none⟩) n c)) (hr : w.cell? ⟨gb, b, none⟩ = some (.slice A q d)) (hb : b < n) (hn : n ≤ 1048576) :
    Calls Try.prog 41 #[.int .i64 (b : Int), .pointer (some ⟨F, 0, none⟩)] w fun e w' => e = .returned (.func (.func 57) #[] #[.pointer (some ⟨w.heap.size, 0, none⟩)]) ∧ Below w.heap.size w w' ∧ w'.heap.size = w.heap.size + 1 ∧ w'.heap[w.heap.size]? = some (.cells #[.slice A q d] 23 (0, 0)) := by
  have hV := values_g A q d w
  go_enter Try.func41, Try.ntmps41
  go_wp2_with (go_at_call 42; refine hV.mono ?_; rintro e w1 ⟨rfl, h1⟩; have H1 := Lib.hid h1; clear h1 hV)
  go_ret
  exact ⟨rfl, H1.out⟩

set_option maxRecDepth 100000 in
set_option maxHeartbeats 16000000 in
theorem byEnds_g (n0 : Nat) (f v : Value) (g : List GB) (l : List Nat) (w : World) (hf : GF n0 w f g) (hn : n0 ≤ w.heap.size) (hall : ∀ (j : Nat) (d : GB), j ∈ l → g[j]? = some d → ∀ t ∈ d.to_, 0 ≤ t ∧ t < g.length) (hv : GNs w.heap.size w v (l.map fun (b : Nat) => (b : Int))) (hl : ∀ b ∈ l, b < g.length) (hll : l.length ≤ g.length) (hlim : (edgesOf g l).length ≤ 1048576) :
    Calls Try.prog 27 #[f, v] w fun e w' => Below w.heap.size w w' ∧ ∃ lb, e = .returned (.func (.func 41) #[] lb) ∧ BackAt Try.prog (.func (.func 41) #[] lb) (fun b => predsG (edgesOf g l) b) g.length (fun k => k < w'.heap.size) w' := by
  obtain ⟨s, pA, pn, pc, r, iA, in_, ic, bA, bn, bc, rfl, hG, hbn⟩ := hf
  obtain ⟨lA, lc, rfl, -⟩ := id hv
  obtain ⟨W, hW, hbW, hzW, h0W⟩ := gr_one w #[.string s, .slice pA pn pc, .int .i64 r, .slice iA in_ ic, .slice bA bn bc] 27
  obtain ⟨x0, x1, x2, x3, x4, -⟩ := gr_five h0W
  have hlen : bn ≤ 1048576 := by rw [hbn]; obtain ⟨_, _, _, h, _⟩ := hG; exact h
  obtain ⟨ml, hml⟩ : ∃ ml, ml = l.length := ⟨_, rfl⟩
  rw [List.length_map, ← hml] at hv ⊢
  have hmf : ∀ (fn : Fn) (first cap : Array Value) (w : World), (Instr.makeFunc fn first cap).run Try.prog w = .ok (.func fn first cap) w := fun _ _ _ _ => rfl
  have Hall := Lib.hid hall
  have HG := Lib.hid (hG.keep (hbW.mono hn))
  have Hbn := Lib.hid hbn
  have Hv := Lib.hid (hv.keep hbW)
  have Hml := Lib.hid hml
  have Hl := Lib.hid hl
  have HbW := Lib.hid hbW
  have HW := Lib.hid hW
  have HzW := Lib.hid hzW
  have H0W := Lib.hid h0W
  have Hlim := Lib.hid hlim
  have hmlb : ml ≤ 1048576 := by rw [hml]; rw [← hbn] at hll; omega
  obtain ⟨i0, hi0, hz0, hz1, hz2⟩ := info_parts infoRowsG
  have Hi := Lib.hid hi0
  have Hz0 := Lib.hid hz0
  have Hz1 := Lib.hid hz1
  have Hz2 := Lib.hid hz2
  obtain ⟨j1, hj1, jz0, jz1, jz2⟩ := info_parts infoIntG
  have Ji := Lib.hid hj1
  have Jz0 := Lib.hid jz0
  have Jz1 := Lib.hid jz1
  have Jz2 := Lib.hid jz2
  clear hbW hW hzW h0W hG hbn hv hml hl hall hi0 hz0 hz1 hz2 hj1 jz0 jz1 jz2 hlim hll
  go_enter Try.func27, Try.ntmps27
  go_upto_region 1 with fail
  rw [← HW.out]
  go_wp2_with (at_make; refine wpList_make_full _ rfl (.tmp 12) (.tmp 12) 29 rfl W.heap.size 23 i0 (.slice none 0 0) 1 Try.underlying29 Hi.out Hz0.out Hz1.out _ _ _ _ bn rfl rfl rfl rfl (by rw [Hz2.out]; omega) (by unfold maxLen; omega) (Nat.le_refl _) ?_)
  intro w2 ho2 hg2
  have hb2 : Below W.heap.size W w2 := (Below.refl _ _).grown hg2 (Nat.le_refl _) (fun k e => by cases e)
  rw [toList_madeCells_one] at ho2
  obtain ⟨Z, hZ, hbZ, hzZ, h0Z⟩ := gr_one w2 #[.slice (some ⟨W.heap.size, 0, none⟩) bn bn] 29
  have hE0 : EMk W.heap.size w2.heap.size bn W Z (.slice (some ⟨W.heap.size, 0, none⟩) bn bn) (List.replicate bn (.slice none 0 0, [])) [] := by
    refine ⟨h0Z, ⟨by omega, fun k => ?_, fun k => ?_, fun k j hkj => ?_⟩, GBd.of_below (hb2.trans (hbZ.mono hb2.size)) (Nat.le_refl _), by have := hb2.size; omega, by simp, fun j r hr => ?_⟩
    · cases k with
      | zero =>
        intro e
        have h1 := (ho2.lt W.heap.size rfl).2
        simp [famE, Value.ownBlock] at e
        omega
      | succ k =>
        rw [famE_succ]
        cases hq : (List.replicate bn ((Value.slice none 0 0), ([] : List Int)))[k]? with
        | none => simp [rowNo, Value.ownBlock]
        | some r =>
          have := List.eq_of_mem_replicate (List.mem_of_getElem? hq)
          simp [this, Value.ownBlock]
    · cases k with
      | zero =>
        have := gr_up ho2 hbZ
        simpa [famE] using this
      | succ k =>
        rw [famE_succ]
        cases hq : (List.replicate bn ((Value.slice none 0 0), ([] : List Int)))[k]? with
        | none => exact World.ownsRow_nil _ _ _ _
        | some r =>
          have := List.eq_of_mem_replicate (List.mem_of_getElem? hq)
          subst this
          exact World.ownsRow_nil _ _ _ _
    · cases k with
      | zero =>
        cases j with
        | zero => omega
        | succ j =>
          right
          rw [famE_succ]
          cases hq : (List.replicate bn ((Value.slice none 0 0), ([] : List Int)))[j]? with
          | none => simp [famE, rowNo, Value.ownBlock]
          | some r =>
            have := List.eq_of_mem_replicate (List.mem_of_getElem? hq)
            simp [famE, this, Value.ownBlock]
      | succ k =>
        left
        rw [famE_succ]
        cases hq : (List.replicate bn ((Value.slice none 0 0), ([] : List Int)))[k]? with
        | none => simp [rowNo, Value.ownBlock]
        | some r =>
          have := List.eq_of_mem_replicate (List.mem_of_getElem? hq)
          simp [this, Value.ownBlock]
    · have := List.eq_of_mem_replicate (List.mem_of_getElem? hr)
      simp [this, predsG]
  obtain ⟨F, hFF⟩ : ∃ F, F = w2.heap.size := ⟨_, rfl⟩
  have HE0 := Lib.hid hE0
  have HZ := Lib.hid hZ
  rw [← hFF] at HE0
  have hFW : W.heap.size < F := by rw [hFF]; exact (ho2.lt _ rfl).2
  clear hE0 hZ hbZ hzZ h0Z ho2 hg2 hb2 x0 x1 x2 x3 x4
  go_upto_region 3 with fail
  rw [← HZ.out, ← hFF]
  clear hFF HZ
  go_loopw [16] (fun u16 wr => ∃ (i : Nat) (rs : List (Value × List Int)), i ≤ ml ∧ u16 = .int .i64 i ∧ Hid (EMk W.heap.size F bn W wr (.slice (some ⟨W.heap.size, 0, none⟩) bn bn) rs (edgesOf g (l.take i)))) (fun u16 _ => ml - (intOf u16).toNat)
  case atStart => exact ⟨0, _, Nat.zero_le _, rfl, by simpa [edgesOf] using HE0⟩
  case round =>
    clear HE0
    obtain ⟨i, rs, hi, rfl, HE⟩ := hrel
    have hbel : Below W.heap.size W wr := HE.out.bd.below (Below.refl _ _) (Nat.le_of_lt hFW) (Nat.le_refl _)
    have hbw : Below w.heap.size w wr := HbW.out.trans (hbel.mono (by have := HzW.out; omega))
    by_cases hlt : i < ml
    · have hil : i < l.length := by rw [← Hml.out]; exact hlt
      obtain ⟨vb, vo, rfl, hvb, hvc⟩ := (Hv.out.keep (hbel.mono (by have := HzW.out; omega))).at (j := i) (by simpa using hil)
      rw [List.getElem_map] at hvc
      have hbl := Hl.out _ (List.getElem_mem hil)
      have hbm := List.getElem_mem hil
      have htk : l.take (i + 1) = l.take i ++ [l[i]] := List.take_succ_eq_append_getElem hil
      obtain ⟨b, hbb⟩ : ∃ b, b = l[i] := ⟨_, rfl⟩
      rw [← hbb] at hvc hbl htk hbm
      have h0r := (hbel.block w.heap.size (by have := HzW.out; omega)).trans H0W.out
      obtain ⟨x0, x1, x2, x3, x4, -⟩ := gr_five h0r
      obtain ⟨q, o, qA, qc, tA, tc, lA2, ln, lc2, rfl, hq0, d0, d1, d2, d3, d4W, rp, rt, hok⟩ := HG.out.at hbl
      have d4 := (hbel.cell (p := ⟨q, _, none⟩) (by have := HzW.out; show q < W.heap.size; omega)).trans d4W
      clear d4W
      have hto : tosG g b = g[b].to_ := tosG_at hbl
      have hga : g[b]? = some g[b] := List.getElem?_eq_getElem hbl
      have hmem : ∀ t ∈ g[b].to_, 0 ≤ t ∧ t < (bn : Int) := fun t ht => by rw [Hbn.out]; exact Hall.out b _ hbm hga t ht
      obtain ⟨to_, hto_⟩ : ∃ l, l = g[b].to_ := ⟨_, rfl⟩
      obtain ⟨m, hm⟩ : ∃ m, m = to_.length := ⟨_, rfl⟩
      have hmb : m ≤ 1048576 := by rw [hm, hto_]; exact hok.2.2.1
      rw [← hto_] at hto d4 rt hmem
      rw [← hm] at d4 rt
      have hbbn : b < bn := by rw [Hbn.out]; exact hbl
      have htot : (edgesOf g (l.take i)).length + m ≤ (edgesOf g l).length := by
        have h1 : edgesOf g l = edgesOf g (l.take (i + 1)) ++ edgesOf g (l.drop (i + 1)) := by
          unfold edgesOf
          rw [← List.flatMap_append, List.take_append_drop]
        rw [h1, htk, edgesOf_snoc, List.length_append, List.length_append, List.length_map, hto, hm]
        omega
      have Hto := Lib.hid hto
      have Hm := Lib.hid hm
      have Hrt := Lib.hid rt
      have Hmem := Lib.hid hmem
      have Htk := Lib.hid htk
      have Htot := Lib.hid htot
      clear hto hm rt hmem htk htot hbb hga hok rp d0 d1 d2 d3 hq0 hvb hbel hbw hto_ h0r hbl hbm
      go_upto_region 6 with fail
      clear x0 x1 x2 x3 x4 d4 hvc
      go_loopw [28] (fun u28 wr => ∃ (k : Nat) (rs : List (Value × List Int)), k ≤ m ∧ u28 = .int .i64 k ∧ Hid (EMk W.heap.size F bn W wr (.slice (some ⟨W.heap.size, 0, none⟩) bn bn) rs (edgesOf g (l.take i) ++ (to_.take k).map fun x => (b, x)))) (fun u28 _ => m - (intOf u28).toNat)
      case atStart => exact ⟨0, _, Nat.zero_le _, rfl, by simpa using HE⟩
      case round =>
        have Hrt0 := Hrt
        clear HE
        obtain ⟨k, rs, hk, rfl, HE⟩ := hrel
        have hbel : Below W.heap.size W wr := HE.out.bd.below (Below.refl _ _) (Nat.le_of_lt hFW) (Nat.le_refl _)
        by_cases hltk : k < m
        · have hkl : k < to_.length := by rw [← Hm.out]; exact hltk
          obtain ⟨b2, o2, rfl, hb2, hc2⟩ := (Hrt0.out.keep (hbel.mono (by have := HzW.out; omega))).at hkl
          have hx0 : to_[k]? = some to_[k] := List.getElem?_eq_getElem hkl
          have hst : to_.take (k + 1) = to_.take k ++ [to_[k]] := List.take_succ_eq_append_getElem hkl
          obtain ⟨t0, t1⟩ := Hmem.out to_[k] (List.getElem_mem hkl)
          obtain ⟨t, ht⟩ : ∃ t : Nat, (t : Int) = to_[k] := ⟨to_[k].toNat, by omega⟩
          rw [← ht] at hc2 t0 t1 hst
          have htn : t < bn := by omega
          obtain ⟨r, hr⟩ : ∃ r, rs[t]? = some r := ⟨_, List.getElem?_eq_getElem (by rw [HE.out.len]; exact htn)⟩
          have hrow := HE.out.row
          have hP : wr.ownsRow W.heap.size 3 1 r.1 r.2.length (intsV r.2) := by
            have h := HE.out.fam.own (t + 1)
            rw [famE_row _ _ _ _ hr] at h
            exact h
          have hfew : r.2.length ≤ 1048576 := by
            rw [HE.out.is t r hr]
            unfold predsG
            rw [List.length_map]
            have h1 := List.length_filter_le (fun e : Nat × Int => e.2 == (t : Int)) (edgesOf g (l.take i) ++ (to_.take k).map fun x => (b, x))
            have h2 := Htot.out
            have h3 := Hlim.out
            rw [List.length_append, List.length_map, List.length_take] at h1
            omega
          obtain ⟨PA, PC, hPV⟩ := gr_slice hP
          have c0 := Lib.cell_of_heap HE.out.box 0
          have p1 : wr.cell? ⟨W.heap.size, t, none⟩ = some (.slice PA r.2.length PC) := by
            rw [hrow.cellAt t (by omega), List.getElem?_map, hr, ← hPV]
            rfl
          have HEgb : Hid ((⟨F, 0, none⟩ : Addr).block ≠ W.heap.size) := Lib.hid (by show F ≠ W.heap.size; omega)
          obtain ⟨Y, hY, hbY, hzY, h0Y⟩ := gr_one wr #[.int .i64 (b : Int)] 3
          have hbD : Below wr.heap.size wr Y.drew := hbY.drew
          have hP2 := hP
          rw [hPV] at hP2
          have HOW := Lib.hid (gr_up hP2 hbD)
          have HNW := Lib.hid (World.news_of_block (w := Y.drew) h0Y)
          have HOn : Hid (∀ u ∈ ([.int .i64 (b : Int)] : List Value), u.oneCell' = true) := Lib.hid (by intro u hu; simp at hu; subst hu; rfl)
          have hsz2 : W.heap.size ≤ Y.drew.heap.size := Nat.le_trans HE.out.hb hbD.size
          have gd : wr.drew.cell? ⟨F, 0, none⟩ = some (.slice (some ⟨W.heap.size, 0, none⟩) bn bn) := c0
          have ga : Y.drew.cell? ⟨F, 0, none⟩ = some (.slice (some ⟨W.heap.size, 0, none⟩) bn bn) := (hbD.cell (p := ⟨F, 0, none⟩) HE.out.fam.el).trans c0
          have pa : Y.drew.cell? ⟨W.heap.size, t, none⟩ = some (.slice PA r.2.length PC) := (hbD.cell (p := ⟨W.heap.size, t, none⟩) (hrow.lt W.heap.size rfl).2).trans p1
          have HTY := Lib.hid (HE.out.keep hbD)
          rw [hY] at HOW HNW hsz2 ga pa
          have HY := Lib.hid (show Y.drew = (wr.alloc (.cells #[.int .i64 (b : Int)] 3)).drew by rw [hY])
          have Hr := Lib.hid hr
          have HPV := Lib.hid hPV
          have Hst := Lib.hid hst
          clear hx0 ht t0 t1 hr hP hPV hb2 hkl hY hbY hzY h0Y hP2 hbD hrow hbel hst
          go_upto_region 8 with fail
          clear hc2 c0
          refine wp_region_noPanic ?_
          refine wp_region_held_drew (S := fun w' => w'.cell? ⟨F, 0, none⟩ = some (.slice (some ⟨W.heap.size, 0, none⟩) bn bn)) (by kernel_rfl) gd (fun hHeld => ?_)
          refine wpAnyH_take (i := 0) (v := ?_) rfl (by kernel_rfl) (by kernel_rfl) (by kernel_rfl) (fun _ _ _ h => h) (Or.inl ⟨by rfl, ?_⟩) (by assumption) ?_
          rotate_left
          · (intro w hSw; (try dsimp only at hSw); first | (go_simp; done) | (go_simp; with_reducible rfl))
          try simp only [Act.put, List.setIfInBounds_toArray, List.set_cons_zero, List.set_cons_succ]
          refine wpAnyH_take (i := 1) (v := ?_) rfl (by kernel_rfl) (by kernel_rfl) (by kernel_rfl) (fun _ _ _ h => h) (Or.inl ⟨by rfl, ?_⟩) (by assumption) ?_
          rotate_left
          · (intro w hSw; (try dsimp only at hSw); first | (go_simp; done) | (go_simp; with_reducible rfl))
          try simp only [Act.put, List.setIfInBounds_toArray, List.set_cons_zero, List.set_cons_succ]
          refine wpAnyH_take (i := 2) (v := ?_) rfl (by kernel_rfl) (by kernel_rfl) (by kernel_rfl) (fun _ _ _ h => h) (Or.inl ⟨by rfl, ?_⟩) (by assumption) ?_
          rotate_left
          · (intro w hSw; (try dsimp only at hSw); first | (go_simp; done) | (go_simp; with_reducible rfl))
          try simp only [Act.put, List.setIfInBounds_toArray, List.set_cons_zero, List.set_cons_succ]
          refine wpAnyH_take (i := 3) (v := ?_) rfl (by kernel_rfl) (by kernel_rfl) (by kernel_rfl) (fun _ _ _ h => h) (Or.inl ⟨by rfl, ?_⟩) (by assumption) ?_
          rotate_left
          · (intro w hSw; (try dsimp only at hSw); first | (go_simp; done) | (go_simp; with_reducible rfl))
          try simp only [Act.put, List.setIfInBounds_toArray, List.set_cons_zero, List.set_cons_succ]
          refine wpAnyH_take (i := 4) (v := ?_) rfl (by kernel_rfl) (by kernel_rfl) (by kernel_rfl) (fun _ _ _ h => h) (Or.inl ⟨by rfl, ?_⟩) (by assumption) ?_
          rotate_left
          · (intro w hSw; (try dsimp only at hSw); first | (go_simp; done) | (go_simp; with_reducible rfl))
          try simp only [Act.put, List.setIfInBounds_toArray, List.set_cons_zero, List.set_cons_succ]
          refine wpAnyH_take (i := 6) (v := ?_) rfl (by kernel_rfl) (by kernel_rfl) (by kernel_rfl) (fun _ _ _ h => h) (Or.inl ⟨by rfl, ?_⟩) (by assumption) ?_
          rotate_left
          · (intro w hSw; (try dsimp only at hSw); first | (go_simp; done) | (go_simp; with_reducible rfl))
          try simp only [Act.put, List.setIfInBounds_toArray, List.set_cons_zero, List.set_cons_succ]
          refine wpAnyH_ready (rs := [5, 7]) (by kernel_rfl) (by simp) ?_
          refine AllReadyH.cons rfl (fun K hK => ?_) (AllReadyH.cons rfl (fun K hK => ?_) (AllReadyH.nil))
          · go_simp
            refine hK.out _ _ ?_ (fun hHeld => ?_)
            · ((try dsimp only); first | with_reducible exact gd | with_reducible exact ga | with_reducible exact g5 | exact (gr_setoff HEgb.out).trans g5)
            clear hK K
            try simp only [Act.put, List.setIfInBounds_toArray, List.set_cons_zero, List.set_cons_succ]
            refine wpAnyH_ready (rs := [7]) (by kernel_rfl) (by simp) ?_
            refine AllReadyH.cons rfl (fun K hK => ?_) (AllReadyH.nil)
            go_simp
            refine hK.out _ _ ?_ (fun hHeld => ?_)
            · ((try dsimp only); first | with_reducible exact gd | with_reducible exact ga | with_reducible exact g5 | exact (gr_setoff HEgb.out).trans g5)
            clear hK K
            try simp only [Act.put, List.setIfInBounds_toArray, List.set_cons_zero, List.set_cons_succ]
            refine wpAnyH_ready (rs := [8]) (by kernel_rfl) (by simp) ?_
            refine AllReadyH.cons rfl (fun K hK => ?_) (AllReadyH.nil)
            skip
            refine step_append_lies _ rfl (.tmp 37) (.tmp 39) 23 rfl W.heap.size 3 j1 (.int .i64 0) 1 8 Try.underlying23 Ji.out Jz0.out Jz1.out Jz2.out rfl (by decide) (.slice PA r.2.length PC) r.2.length (intsV r.2) (by simp [Act.eval, Act.put]) HOW.out ⟨wr.heap.size, 0, none⟩ 1 1 [.int .i64 (b : Int)] (by simp [Act.eval, Act.put]) rfl HNW.out HOn.out (by decide) (by unfold maxLen; omega) (by omega) hsz2 _ rfl ?_
            intro gp cp w5 hown5 hgrow hat hlt5
            rw [← HY.out] at hgrow hat
            rw [← HPV.out] at hgrow hat
            have hS5 := HTY.out.edge Hr.out (b := b) hgrow hown5 rfl (by rcases hat with h | h; exact .inl h; exact .inr (by rw [h]; exact Nat.le_refl _))
            have hfam := HTY.out.fam
            have hfp := famE_row (.slice (some ⟨W.heap.size, 0, none⟩) bn bn) rs t r Hr.out
            have hav := hfam.av (t + 1)
            rw [hfp] at hav
            have hne := hfam.ne 0 (t + 1) (by omega)
            rw [hfp] at hne
            have hE5 := (hgrow.block F hfam.el (fun e => hav e.symm)).trans HTY.out.box
            have hr5 : w5.ownsRow W.heap.size 23 1 (.slice (some ⟨W.heap.size, 0, none⟩) bn bn) bn (rs.map (·.1)) := HTY.out.row.kept hgrow hne
            have g5 : w5.cell? ⟨F, 0, none⟩ = some (.slice (some ⟨W.heap.size, 0, none⟩) bn bn) := Lib.cell_of_heap hE5 0
            have p5 : w5.cell? ⟨W.heap.size, t, none⟩ = some (.slice PA r.2.length PC) := by
              rw [hr5.cellAt t (by omega), List.getElem?_map, Hr.out, ← HPV.out]
              rfl
            have pf5 := hr5.frozenAt t
            have hEd : (edgesOf g (l.take i) ++ (to_.take k).map fun x => (b, x)) ++ [(b, (t : Int))] = edgesOf g (l.take i) ++ (to_.take (k + 1)).map fun x => (b, x) := by
              rw [Hst.out, List.map_append, List.append_assoc]
              rfl
            rw [hEd] at hS5
            have HS5 := Lib.hid hS5
            clear hown5 hgrow hat hlt5 hS5 hfam hfp hav hne hE5 hr5 HOW HNW hsz2 HY HTY hEd
            refine hK.out _ _ ?_ (fun hHeld => ?_)
            · ((try dsimp only); first | with_reducible exact gd | with_reducible exact ga | with_reducible exact g5 | exact (gr_setoff HEgb.out).trans g5)
            clear hK K
            try simp only [Act.put, List.setIfInBounds_toArray, List.set_cons_zero, List.set_cons_succ]
            refine wpAnyH_take (i := 9) (v := ?_) rfl (by kernel_rfl) (by kernel_rfl) (by kernel_rfl) (fun _ _ _ h => h) (Or.inl ⟨by rfl, ?_⟩) (by assumption) ?_
            rotate_left
            · (intro w hSw; (try dsimp only at hSw); first | (go_simp; done) | (go_simp; with_reducible rfl))
            try simp only [Act.put, List.setIfInBounds_toArray, List.set_cons_zero, List.set_cons_succ]
            refine wpAnyH_ready (rs := [10]) (by kernel_rfl) (by simp) ?_
            refine AllReadyH.cons rfl (fun K hK => ?_) (AllReadyH.nil)
            go_simp
            refine hK.out _ _ ?_ (fun hHeld => ?_)
            · ((try dsimp only); first | with_reducible exact gd | with_reducible exact ga | with_reducible exact g5 | exact (gr_setoff HEgb.out).trans g5)
            clear hK K
            try simp only [Act.put, List.setIfInBounds_toArray, List.set_cons_zero, List.set_cons_succ]
            refine wpAnyH_done (by kernel_rfl) ?_ _
            refine NoPanic.normal ?_
            clear gd ga pa p1 g5 p5 pf5
            go_wp2
            go_roundw
            case rel => exact ⟨k + 1, _, by omega, by go_num, HS5⟩
            case measure => simp [intOf]; omega
          · go_simp
            refine hK.out _ _ ?_ (fun hHeld => ?_)
            · ((try dsimp only); first | with_reducible exact gd | with_reducible exact ga | with_reducible exact g5 | exact (gr_setoff HEgb.out).trans g5)
            clear hK K
            try simp only [Act.put, List.setIfInBounds_toArray, List.set_cons_zero, List.set_cons_succ]
            refine wpAnyH_ready (rs := [5]) (by kernel_rfl) (by simp) ?_
            refine AllReadyH.cons rfl (fun K hK => ?_) (AllReadyH.nil)
            go_simp
            refine hK.out _ _ ?_ (fun hHeld => ?_)
            · ((try dsimp only); first | with_reducible exact gd | with_reducible exact ga | with_reducible exact g5 | exact (gr_setoff HEgb.out).trans g5)
            clear hK K
            try simp only [Act.put, List.setIfInBounds_toArray, List.set_cons_zero, List.set_cons_succ]
            refine wpAnyH_ready (rs := [8]) (by kernel_rfl) (by simp) ?_
            refine AllReadyH.cons rfl (fun K hK => ?_) (AllReadyH.nil)
            skip
            refine step_append_lies _ rfl (.tmp 37) (.tmp 39) 23 rfl W.heap.size 3 j1 (.int .i64 0) 1 8 Try.underlying23 Ji.out Jz0.out Jz1.out Jz2.out rfl (by decide) (.slice PA r.2.length PC) r.2.length (intsV r.2) (by simp [Act.eval, Act.put]) HOW.out ⟨wr.heap.size, 0, none⟩ 1 1 [.int .i64 (b : Int)] (by simp [Act.eval, Act.put]) rfl HNW.out HOn.out (by decide) (by unfold maxLen; omega) (by omega) hsz2 _ rfl ?_
            intro gp cp w5 hown5 hgrow hat hlt5
            rw [← HY.out] at hgrow hat
            rw [← HPV.out] at hgrow hat
            have hS5 := HTY.out.edge Hr.out (b := b) hgrow hown5 rfl (by rcases hat with h | h; exact .inl h; exact .inr (by rw [h]; exact Nat.le_refl _))
            have hfam := HTY.out.fam
            have hfp := famE_row (.slice (some ⟨W.heap.size, 0, none⟩) bn bn) rs t r Hr.out
            have hav := hfam.av (t + 1)
            rw [hfp] at hav
            have hne := hfam.ne 0 (t + 1) (by omega)
            rw [hfp] at hne
            have hE5 := (hgrow.block F hfam.el (fun e => hav e.symm)).trans HTY.out.box
            have hr5 : w5.ownsRow W.heap.size 23 1 (.slice (some ⟨W.heap.size, 0, none⟩) bn bn) bn (rs.map (·.1)) := HTY.out.row.kept hgrow hne
            have g5 : w5.cell? ⟨F, 0, none⟩ = some (.slice (some ⟨W.heap.size, 0, none⟩) bn bn) := Lib.cell_of_heap hE5 0
            have p5 : w5.cell? ⟨W.heap.size, t, none⟩ = some (.slice PA r.2.length PC) := by
              rw [hr5.cellAt t (by omega), List.getElem?_map, Hr.out, ← HPV.out]
              rfl
            have pf5 := hr5.frozenAt t
            have hEd : (edgesOf g (l.take i) ++ (to_.take k).map fun x => (b, x)) ++ [(b, (t : Int))] = edgesOf g (l.take i) ++ (to_.take (k + 1)).map fun x => (b, x) := by
              rw [Hst.out, List.map_append, List.append_assoc]
              rfl
            rw [hEd] at hS5
            have HS5 := Lib.hid hS5
            clear hown5 hgrow hat hlt5 hS5 hfam hfp hav hne hE5 hr5 HOW HNW hsz2 HY HTY hEd
            refine hK.out _ _ ?_ (fun hHeld => ?_)
            · ((try dsimp only); first | with_reducible exact gd | with_reducible exact ga | with_reducible exact g5 | exact (gr_setoff HEgb.out).trans g5)
            clear hK K
            try simp only [Act.put, List.setIfInBounds_toArray, List.set_cons_zero, List.set_cons_succ]
            refine wpAnyH_take (i := 9) (v := ?_) rfl (by kernel_rfl) (by kernel_rfl) (by kernel_rfl) (fun _ _ _ h => h) (Or.inl ⟨by rfl, ?_⟩) (by assumption) ?_
            rotate_left
            · (intro w hSw; (try dsimp only at hSw); first | (go_simp; done) | (go_simp; with_reducible rfl))
            try simp only [Act.put, List.setIfInBounds_toArray, List.set_cons_zero, List.set_cons_succ]
            refine wpAnyH_ready (rs := [10]) (by kernel_rfl) (by simp) ?_
            refine AllReadyH.cons rfl (fun K hK => ?_) (AllReadyH.nil)
            go_simp
            refine hK.out _ _ ?_ (fun hHeld => ?_)
            · ((try dsimp only); first | with_reducible exact gd | with_reducible exact ga | with_reducible exact g5 | exact (gr_setoff HEgb.out).trans g5)
            clear hK K
            try simp only [Act.put, List.setIfInBounds_toArray, List.set_cons_zero, List.set_cons_succ]
            refine wpAnyH_done (by kernel_rfl) ?_ _
            refine NoPanic.normal ?_
            clear gd ga pa p1 g5 p5 pf5
            go_wp2
            go_roundw
            case rel => exact ⟨k + 1, _, by omega, by go_num, HS5⟩
            case measure => simp [intOf]; omega
        · obtain rfl : k = m := by omega
          have hN : EMk W.heap.size F bn W wr (.slice (some ⟨W.heap.size, 0, none⟩) bn bn) rs (edgesOf g (l.take (i + 1))) := by
            rw [Htk.out, edgesOf_snoc, Hto.out]
            have := HE.out
            rw [Hm.out, List.take_length] at this
            exact this
          have HN := Lib.hid hN
          clear hN hbel
          go_wp2
          go_roundw
          case rel => exact ⟨i + 1, _, by omega, by go_num, HN⟩
          case measure => simp [intOf]; omega
    · obtain rfl : i = ml := by omega
      have hEd : edgesOf g (l.take i) = edgesOf g l := by rw [Hml.out, List.take_length]
      rw [hEd] at HE
      have Hbw := Lib.hid hbw
      clear hbel hbw hEd
      go_wp2
      go_ret
      refine ⟨Hbw.out, _, rfl, 41, _, rfl, enters_byEnds, fun W1 b hb hsz hsame => ?_⟩
      obtain ⟨r, hr⟩ : ∃ r, rs[b]? = some r := ⟨_, List.getElem?_eq_getElem (by rw [HE.out.len, Hbn.out]; exact hb)⟩
      have hrow := HE.out.row
      have hP : wr.ownsRow W.heap.size 3 1 r.1 r.2.length (intsV r.2) := by
        have h := HE.out.fam.own (b + 1)
        rw [famE_row _ _ _ _ hr] at h
        exact h
      have his := HE.out.is b r hr
      have hfew : r.2.length ≤ 1048576 := by
        rw [his]
        unfold predsG
        rw [List.length_map]
        have h1 := List.length_filter_le (fun e : Nat × Int => e.2 == (b : Int)) (edgesOf g l)
        have h2 := Hlim.out
        omega
      obtain ⟨PA, PC, hPV⟩ := gr_slice hP
      have hbbn : b < bn := by rw [Hbn.out]; exact hb
      have hFl : F < wr.heap.size := HE.out.fam.el
      have hWl : W.heap.size < wr.heap.size := (hrow.lt W.heap.size rfl).2
      have c0 : W1.cell? ⟨F, 0, none⟩ = some (.slice (some ⟨W.heap.size, 0, none⟩) bn bn) := (World.cell?_of_block (a := ⟨F, 0, none⟩) (hsame F hFl)).trans (Lib.cell_of_heap HE.out.box 0)
      have p1 : W1.cell? ⟨W.heap.size, b, none⟩ = some (.slice PA r.2.length PC) := by
        refine (World.cell?_of_block (a := ⟨W.heap.size, b, none⟩) (hsame _ hWl)).trans ?_
        rw [hrow.cellAt b (by omega), List.getElem?_map, hr, ← hPV]
        rfl
      refine (byEnds1_g F W.heap.size bn bn b rs r PA r.2.length PC W1 c0 p1 hbbn hlen).mono ?_
      rintro e W2 ⟨rfl, hb2, hz2, h02⟩
      refine ⟨hb2, 57, _, fun k => k < wr.heap.size ∨ k = W1.heap.size, rfl, enters_values, fun k hk => ?_, fun k hk => ?_, fun W3 hb3 => ?_⟩
      · rcases hk with h | h
        · exact .inl h
        · exact .inr (by omega)
      · rcases hk with h | h <;> omega
      · have hsm : ∀ k, k < wr.heap.size → W3.heap[k]? = wr.heap[k]? := fun k hk => ((hb3.block k (by omega)).trans (hb2.block k (by omega))).trans (hsame k hk)
        have hN : GNs wr.heap.size W3 (.slice PA r.2.length PC) r.2 := GNs_same (by rw [← hPV]; exact GNs.of_own hP) hsm
        dsimp only
        rw [← his]
        exact values_sep wr.heap.size W1.heap.size _ r.2 _ W3 (Lib.cell_of_heap ((hb3.block _ (by omega)).trans h02) 0) hN hfew (fun k hk => .inl hk) (.inr rfl) (fun k hk => by have := hb3.size; rcases hk with h | h <;> omega)

end Go.Proofs.Ytlejpoofgnenhaa
