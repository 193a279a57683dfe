/-
  A program.
-/
import Derived.Test.YtiadbeglhnocoaaGreatDoorJb32
namespace Go.Proofs.YtiadbeglhnocoaaGreatDoor
set_option linter.unusedVariables false
set_option linter.unusedSimpArgs false
open Go.RowKit

theorem infoFn : (Tryz.prog.info? 49).map (fun i => (i.zero, i.size, i.bytes)) = some (some (.agg #[.string ⟨#[]⟩, .int .i64 0, .slice none 0 0, .int .i64 0, .slice none 0 0, .int .i64 0]), 6, 88) := by kernel_rfl
theorem six_one (a : ByteArray) (b : Int) (A : Option Addr) (m c : Nat) (d : Int) (B : Option Addr) (bm bc : Nat) (v : Int) : ∀ u ∈ ([.string a, .int .i64 b, .slice A m c, .int .i64 d, .slice B bm bc, .int .i64 v] : List Value), u.oneCell' = true := by
  intro u hu
  simp only [List.mem_cons, List.not_mem_nil, or_false] at hu
  rcases hu with rfl | rfl | rfl | rfl | rfl | rfl <;> rfl
/-- A row of functions of the call's own. -/
def FrC (w : World) (base : Nat) (v : Value) (xs : List Value) (l : List Fu) : Prop :=
  w.ownsRow base 49 6 v l.length xs ∧ ∀ i f, l[i]? = some f → RdF w (fun b => base ≤ b ∧ b < w.heap.size ∧ some b ≠ v.ownBlock) (fun j => xs[i * 6 + j]?) f
theorem FrC.nil (w : World) (base : Nat) : FrC w base (.slice none 0 0) [] [] := ⟨World.ownsRow_nil _ _ _ _, fun i p h => by simp at h⟩
theorem FrC.but {w w' : World} {g base : Nat} {v : Value} {xs : List Value} {l : List Fu} (h : FrC w base v xs l) (hb : But g w w') (hg : g < base) : FrC w' base v xs l :=
  ⟨own_but h.1 hb hg, fun i p hp => RdF.more (fun _ hS => ⟨hS.1, Nat.lt_of_lt_of_le hS.2.1 hb.size, hS.2.2⟩) (RdF.keep (w' := w') (fun q hq => hb.cell hq.2.1 (by have := hq.1; omega)) (h.2 i p hp))⟩
theorem FrC.set {w : World} {base : Nat} {v : Value} {xs : List Value} {l : List Fu} (h : FrC w base v xs l) {a : Addr} (ha : a.block < base) (u : Value) : FrC (w.setCell a u) base v xs l :=
  ⟨ownsRow_setCell_below h.1 ha u, fun i p hp => RdF.more (fun _ hS => ⟨hS.1, by simpa [World.setCell] using hS.2.1, hS.2.2⟩) (RdF.keep (w' := w.setCell a u) (fun q hq => World.cell?_setCell_other w a q u (fun e => by subst e; have := hq.1; omega)) (h.2 i p hp))⟩
theorem FrC.snoc {w1 w2 : World} {base lo : Nat} {v v' : Value} {xs : List Value} {l : List Fu} {zn : ByteArray} {za : Int} {ps : List Pa} {zr : Int} {zb : List St} {PA : Option Addr} {pc : Nat} {B : Option Addr} {bc : Nat} (h : FrC w1 base v xs l)
    (hA : RdAs w1 (From lo w1) PA ps) (hB : RdSs w1 (From lo w1) B 0 zb)
    (hlo : base ≤ lo) (hv : ∀ b, v.ownBlock = some b → b < lo) (hg : w1.grownBy w2 v.ownBlock) (hat : v'.ownBlock = v.ownBlock ∨ ∃ b, v'.ownBlock = some b ∧ w1.heap.size ≤ b)
    (ho : w2.ownsRow base 49 6 v' (l.length + 1) (xs ++ [.string zn, .int .i64 za, .slice PA ps.length pc, .int .i64 zr, .slice B zb.length bc, .int .i64 0])) :
    FrC w2 base v' (xs ++ [.string zn, .int .i64 za, .slice PA ps.length pc, .int .i64 zr, .slice B zb.length bc, .int .i64 0]) (l ++ [⟨zn, za, ps, zr, zb, 0⟩]) := by
  refine ⟨by rw [List.length_append, List.length_singleton]; exact ho, fun i u hu => ?_⟩
  have hx : xs.length = l.length * 6 := h.1.1
  have hcell : ∀ q : Addr, q.block < w1.heap.size → some q.block ≠ v.ownBlock → w2.cell? q = w1.cell? q := fun q h1 h2 => hg.cell_far q h1 h2
  have hne : ∀ b, b < w1.heap.size → some b ≠ v.ownBlock → some b ≠ v'.ownBlock := fun b h1 h2 => by
    rcases hat with e | ⟨b', e, hge⟩
    · rw [e]; exact h2
    · rw [e]; intro e2; injection e2 with e2; omega
  by_cases hi : i < l.length
  · rw [List.getElem?_append_left hi] at hu
    have h1 := RdF.keep (w' := w2) (fun q hq => hcell q hq.2.1 hq.2.2) (h.2 i u hu)
    have h2 := RdF.more (S' := fun b => base ≤ b ∧ b < w2.heap.size ∧ some b ≠ v'.ownBlock) (fun b hS => ⟨hS.1, Nat.lt_of_lt_of_le hS.2.1 hg.size, hne b hS.2.1 hS.2.2⟩) h1
    exact h2.cells (fun j hj => by rw [List.getElem?_append_left (by omega)])
  · have hl : i < (l ++ [(⟨zn, za, ps, zr, zb, 0⟩ : Fu)]).length := (List.getElem?_eq_some_iff.mp hu).1
    rw [List.length_append, List.length_singleton] at hl
    obtain rfl : i = l.length := by omega
    have hpe : u = ⟨zn, za, ps, zr, zb, 0⟩ := by simpa using hu.symm
    subst hpe
    have hvb : ∀ b, lo ≤ b → some b ≠ v.ownBlock := fun b h1 h2 => by have := hv b h2.symm; omega
    have hm : ∀ b, From lo w1 b → base ≤ b ∧ b < w2.heap.size ∧ some b ≠ v'.ownBlock := fun b hS => ⟨Nat.le_trans hlo hS.1, Nat.lt_of_lt_of_le hS.2 hg.size, hne b hS.2 (hvb b hS.1)⟩
    have hA2 := RdAs.more hm (RdAs.keep (w' := w2) (fun q hq => hcell q hq.2 (hvb _ hq.1)) hA)
    have hB2 := RdSs.more hm _ _ _ (RdSs.keep (w' := w2) (fun q hq => hcell q hq.2 (hvb _ hq.1)) _ _ _ hB)
    have h3 : RdF w2 (fun b => base ≤ b ∧ b < w2.heap.size ∧ some b ≠ v'.ownBlock) (fun j => ([.string zn, .int .i64 za, .slice PA ps.length pc, .int .i64 zr, .slice B zb.length bc, .int .i64 0] : List Value)[j]?) ⟨zn, za, ps, zr, zb, 0⟩ := ⟨rfl, rfl, ⟨PA, pc, rfl, hA2⟩, rfl, ⟨B, bc, rfl, hB2⟩, rfl⟩
    exact h3.cells (fun j hj => by rw [List.getElem?_append_right (by omega), hx, Nat.add_sub_cancel_left])
theorem FrC.reads {w : World} {base : Nat} {v : Value} {xs : List Value} {l : List Fu} (h : FrC w base v xs l) : ∃ A c, v = .slice A l.length c ∧ RdFs w (From base w) A l := by
  rcases h.1.2 with ⟨hv, h0⟩ | ⟨g, c, cur, hv, _⟩
  · have hl : l = [] := List.length_eq_zero_iff.mp h0
    subst hl
    exact ⟨none, 0, hv, fun h => by simp at h⟩
  · subst hv
    have hlt := h.1.lt g rfl
    refine ⟨_, c, rfl, fun _ => ⟨g, 0, rfl, hlt, fun i f hf => ?_⟩⟩
    have h1 := RdF.more (S' := From base w) (fun b hS => ⟨hS.1, hS.2.1⟩) (h.2 i f hf)
    have hi : i < l.length := (List.getElem?_eq_some_iff.mp hf).1
    exact h1.cells (fun j hj => by rw [Nat.zero_add]; exact h.1.cellAt (i * 6 + j) (by omega))
/-- What reading a program comes to. -/
def PrP (g : Nat) (w : World) (r : List Fu × PS) (e : Ending) (w' : World) : Prop := ∃ A c, e = .returned (.agg #[.slice A r.1.length c]) ∧ RdFs w' (From w.heap.size w') A r.1 ∧ PAt w' g r.2 ∧ But g w w'
/-- At the head of the loop over functions. -/
def HeadQ (g : Nat) (w : World) (k : Nat) (r : List Fu × PS) (j : Nat) (wr : World) : Prop := ∃ v xs l sl, progK j l sl = some r ∧ Ok k sl ∧ PAt wr g sl ∧ wr.heap[w.heap.size]? = some (.cells #[.slice none 0 0] 24 (0, 0)) ∧ wr.heap[w.heap.size + 1]? = some (.cells #[v] 24 (0, 0)) ∧ FrC wr (w.heap.size + 2) v xs l ∧ But g w wr ∧ l.length + j ≤ k
theorem even_fn {k : Nat} {s : PS} {f : Fu} {s1 : PS} (h : fnK k s = some (f, s1)) : Even s s1 := by
  unfold fnK at h
  simp only at h
  cases hpk : paramsK k (s.need1 ([102, 110] : List UInt8)).nameP with
  | none => rw [hpk] at h; cases h
  | some y =>
    rw [hpk] at h
    obtain ⟨l, s2⟩ := y
    have hevp : Even (s.need1 ([102, 110] : List UInt8)).nameP s2 := by
      unfold paramsK at hpk
      split at hpk
      · simp only [Option.some.injEq, Prod.mk.injEq] at hpk
        obtain ⟨_, rfl⟩ := hpk
        exact (even_need1 _ _).trans (even_in (even_need1 _ _))
      · split at hpk
        · cases hpk
        · rename_i l' s' ha
          simp only [Option.some.injEq, Prod.mk.injEq] at hpk
          obtain ⟨_, rfl⟩ := hpk
          exact (even_need1 _ _).trans (even_in ((even_args _ _ _ _ ha).1.trans (even_need1 _ _)))
    have h0 : Even s s2 := ((even_need1 _ _).trans (even_name _)).trans hevp
    simp only at h
    by_cases hc : s2.isB ([58] : List UInt8) = true
    · rw [if_pos hc] at h
      cases hb : blockK k (typeP s2.next).2 with
      | none => rw [hb] at h; cases h
      | some z =>
        rw [hb] at h
        obtain ⟨b, s3⟩ := z
        simp only [Option.some.injEq, Prod.mk.injEq] at h
        obtain ⟨_, rfl⟩ := h
        exact ((h0.trans (even_next s2)).trans (even_type _).1).trans ((pureS_all k).block _ _ hb)
    · rw [if_neg hc] at h
      cases hb : blockK k s2 with
      | none => simp only [hb] at h; cases h
      | some z =>
        obtain ⟨b, s3⟩ := z
        simp only [hb, Option.some.injEq, Prod.mk.injEq] at h
        obtain ⟨_, rfl⟩ := h
        exact h0.trans ((pureS_all k).block _ _ hb)
set_option maxRecDepth 100000 in
set_option maxHeartbeats 8000000 in
theorem program_any (k : Nat) (g : Nat) (s : PS) (r : List Fu × PS) (w : World) (hr : progK k [] s = some r) (hok : Ok k s) (h : PAt w g s) :
    Calls Tryz.prog 10 #[.pointer (some ⟨g, 0, none⟩)] w (PrP g w r) := by
  have hgl := h.lt
  obtain ⟨W, hW, hbW, hzW, hbR, hbT⟩ := two_al w #[.slice none 0 0] #[.slice none 0 0] 24 24
  have HHead : Hid (HeadQ g w k r k W) := Lib.hid ⟨.slice none 0 0, [], [], s, hr, hok, h.keep hbW, hbR, hbT, FrC.nil _ _, But.of_below hbW, by simp⟩
  have hk25 := hok.1
  obtain ⟨i0, hi, hz0, hz1, hz2⟩ := info_parts infoFn
  have Hi := Lib.hid hi
  have Hz0 := Lib.hid hz0
  have Hz1 := Lib.hid hz1
  have Hz2 := Lib.hid hz2
  clear hr hok h hbR hbT hbW hzW hi hz0 hz1 hz2
  go_enter Tryz.func10, Tryz.ntmps10
  go_wp2
  rw [← hW]
  clear hW
  go_loopg [] k (fun gk wr => Hid (HeadQ g w k r gk wr))
  case atStart => exact HHead
  case round =>
    obtain ⟨v, xs, l, sl, hst, hokl, hat, hrs, hbt, hfr, hbut, hlk⟩ := hrel.out
    clear hrel HHead
    obtain ⟨V, C, rfl⟩ := own_form hfr.1
    have htz := heap_lt hbt
    have l0 : wr.cell? ⟨w.heap.size + 1, 0, none⟩ = some (.slice V l.length C) := Lib.cell_of_heap hbt 0
    cases gk with
    | zero => simp [progK] at hst
    | succ j =>
      simp only [progK] at hst
      have hN := now_any g sl wr hat
      obtain ⟨t, ht⟩ : ∃ t, t = sl.now := ⟨_, rfl⟩
      rw [← ht] at hN hst
      obtain ⟨tk, ta, tn, tb⟩ := t
      have hNa := fun w' (hp : PAt w' g sl) => now_any g sl w' hp
      rw [← ht] at hNa
      unfold tkV at hN hNa
      simp only at hN hst hNa
      have f0 := tok_f0 tk ta tn ⟨tb.toArray⟩
      have f1 := tok_f1 tk ta tn ⟨tb.toArray⟩
      by_cases hk0 : tk = 0
      · rw [if_pos hk0] at hst
        simp only [Option.some.injEq] at hst
        subst hst
        have hkb : (tk != 0) = false := by simp [hk0]
        have Hat := Lib.hid hat
        have Hfr := Lib.hid hfr
        have Hbut := Lib.hid hbut
        have Hbt := Lib.hid hbt
        have Hrs := Lib.hid hrs
        clear hk0 hat hfr hbut hbt hrs hokl ht hNa l0
        go_wp2_with (go_at_call 18; refine hN.mono ?_; rintro e w2 ⟨rfl, hb⟩; have hbt2 := (hb.block _ htz).trans Hbt.out; have hrs2 := (hb.block _ (heap_lt Hrs.out)).trans Hrs.out; have l0 := Lib.cell_of_heap hbt2 0; have r0 := Lib.cell_of_heap hrs2 0; have rf := fun j => Lib.frozen_of_heap hrs2 j; have hrz := heap_lt hrs2; have Hb := Lib.hid hb; clear hb hN hbt2 hrs2)
        have HF := (Hfr.out.but (But.of_below (g := g) Hb.out) (by omega)).reads
        obtain ⟨A', c', hv, hrd⟩ := HF
        injection hv with e1 e2 e3
        subst e1 e3
        refine bodyPost_ret (v := .agg #[.slice V l.length C]) (by simp [results, Tryz.results10, go_sem, r0]) rfl ?_
        refine ⟨V, C, rfl, RdFs.more (fun b hb => ⟨by have := hb.1; omega, by simpa [World.setCell] using hb.2⟩) (RdFs.keep (fun q hq => World.cell?_of_block (Below.heap_setCell _ _ _ _ (by have := hq.1; simp; omega))) hrd), (Hat.out.keep Hb.out).up ((Below.refl _ _).setCell (by simp; omega) _), (Hbut.out.trans (But.of_below Hb.out)).up ((Below.refl _ _).setCell (by simp) _)⟩
      · rw [if_neg hk0] at hst
        have hkb : (tk != 0) = true := by simp [hk0]
        obtain ⟨sx, hsx⟩ : ∃ sx, sx = (if l.length = 256 then sl.fail 4 ta else sl) := ⟨_, rfl⟩
        rw [← hsx] at hst
        cases hf : fnK j sx with
        | none => rw [hf] at hst; cases hst
        | some y =>
          rw [hf] at hst
          obtain ⟨f, s1⟩ := y
          simp only at hst
          have hevx : Even sl sx := by
            rw [hsx]
            split
            · exact even_fail _ _ _
            · exact Even.refl _
          have hokx : Ok k sx := hokl.even hevx
          have hX := fun w' (hp : PAt w' g sx) => fn_any j g w'.heap.size sx (f, s1) w' hf (hokx.less (by omega)) hp (Nat.le_refl _)
          have hok1 : Ok k s1 := hokx.even (even_fn hf)
          have Hst := Lib.hid hst
          have Hok1 := Lib.hid hok1
          obtain ⟨n, hn⟩ : ∃ n, n = l.length := ⟨_, rfl⟩
          have Hn := Lib.hid hn
          have hlb : n + j < k := by omega
          rw [← hn] at l0 hsx hbt
          have Hat := Lib.hid hat
          have Hfr := Lib.hid hfr
          have Hbut := Lib.hid hbut
          have Hbt := Lib.hid hbt
          have Hrs := Lib.hid hrs
          clear hk0 hat hfr hbut hbt hrs hokl ht hf hevx hokx hok1 hst hlk hn
          by_cases hfull : n = 256
          · rw [if_pos hfull] at hsx
            have hF := fun w' (hp : PAt w' g sl) => fail_any g sl 4 ta w' hp
            rw [← hsx] at hF
            have hfi : ((n : Int) == 256) = true := by simp [hfull]
            clear hsx hfull
            go_upto_region 3 with (go_at_call 18; refine hN.mono ?_; rintro e w2 ⟨rfl, hb⟩; have Hb2 := Lib.hid (But.of_below (g := g) hb); have Hp2 := Lib.hid (Hat.out.keep hb); have l2 := (hb.cell (p := ⟨w.heap.size + 1, 0, none⟩) (by simp; omega)).trans l0; clear hb hN)
            go_upto_region 5 with (first
              | (go_at_call 18; refine (hNa w2 Hp2.out).mono ?_; rintro e w3 ⟨rfl, hb⟩; have hF3 := hF w3 (Hp2.out.keep hb); have Hb3 := Lib.hid (Hb2.out.trans (But.of_below (g := g) hb)); clear hb hNa)
              | (go_at_call 19; refine hF3.mono ?_; rintro e wq ⟨rfl, hp, hb⟩; have Hpq := Lib.hid hp; have Hbq := Lib.hid (Hb3.out.trans hb); clear hp hb hF3 hF))
            clear l2
            have hbtq := (Hbq.out.block (w.heap.size + 1) (by omega) (by omega)).trans Hbt.out
            have hrsq := (Hbq.out.block w.heap.size (by omega) (by omega)).trans Hrs.out
            have hfrq := Hfr.out.but Hbq.out (by omega)
            have hbutq := Hbut.out.trans Hbq.out
            clear Hbt Hrs Hfr Hbut l0 htz
            have l0 : wq.cell? ⟨w.heap.size + 1, 0, none⟩ = some (.slice V n C) := Lib.cell_of_heap hbtq 0
            have htz := heap_lt hbtq
            have Hbt := Lib.hid hbtq
            have Hrs := Lib.hid hrsq
            have Hfr := Lib.hid hfrq
            have Hbut := Lib.hid hbutq
            clear hbtq hrsq hfrq hbutq
            have HD := Lib.hid (Hpq.out.up (Below.refl (g + 1) wq).drew)
            refine wp_region_held_drew (S := (fun _ => True)) (by kernel_rfl) trivial (fun hHeld => ?_)
            refine wpAnyH_take (i := 0) (v := ?_) rfl (by kernel_rfl) (by kernel_rfl) (by kernel_rfl) (fun _ _ _ h => h) (Or.inl ⟨by rfl, ?_⟩) (by assumption) ?_
            rotate_left
            · (intro w hSw; (try dsimp only at hSw); first | (go_simp; done) | (go_simp; with_reducible rfl))
            try simp only [Act.put, List.setIfInBounds_toArray, List.set_cons_zero, List.set_cons_succ]
            refine wpAnyH_take (i := 2) (v := ?_) rfl (by kernel_rfl) (by kernel_rfl) (by kernel_rfl) (fun _ _ _ h => h) (Or.inl ⟨by rfl, ?_⟩) (by assumption) ?_
            rotate_left
            · (intro w hSw; (try dsimp only at hSw); first | (go_simp; done) | (go_simp; with_reducible rfl))
            try simp only [Act.put, List.setIfInBounds_toArray, List.set_cons_zero, List.set_cons_succ]
            refine wpAnyH_ready (rs := [1, 3]) (by kernel_rfl) (by simp) ?_
            refine AllReadyH.cons rfl (fun K hK => ?_) (AllReadyH.cons rfl (fun K hK => ?_) (AllReadyH.nil))
            · go_simp
              refine hK.out _ _ ?_ (fun hHeld => ?_)
              · ((try dsimp only); all_goals trivial)
              clear hK K
              try simp only [Act.put, List.setIfInBounds_toArray, List.set_cons_zero, List.set_cons_succ]
              refine wpAnyH_ready (rs := [3]) (by kernel_rfl) (by simp) ?_
              refine AllReadyH.cons rfl (fun K hK => ?_) (AllReadyH.nil)
              go_simp
              refine (hX _ HD.out).mono ?_
              rintro e w1 ⟨zn, za, ps, zr, zb, PA, pc, B, bc, rfl, hxe, hA, hB, hp1, hb1⟩
              have hbd : But g wq w1 := ((But.refl g wq).drew).trans hb1
              have z1 : w.heap.size + 1 < w1.heap.size := by have := hbd.size; omega
              have l1 := (hbd.cell (p := ⟨w.heap.size + 1, 0, none⟩) (by simp; omega) (by simp; omega)).trans l0
              obtain ⟨wA, hwA, hbwA, hzA, hbA⟩ := one_al w1 #[.string zn, .int .i64 za, .slice PA ps.length pc, .int .i64 zr, .slice B zb.length bc, .int .i64 0] 49
              have HOW := Lib.hid ((Hfr.out.but hbd (by omega)).but (But.of_below (g := g) hbwA) (by omega))
              have HNW := Lib.hid (World.news_of_block hbA)
              have HOC := Lib.hid (six_one zn za PA ps.length pc zr B zb.length bc 0)
              have HA := Lib.hid (RdAs.more (S' := From wq.heap.size wA) (fun _ hS => From.up hbwA.size hS) (RdAs.keep (fun q hq => hbwA.cell hq.2) hA))
              have HB := Lib.hid (RdSs.more (S' := From wq.heap.size wA) (fun _ hS => From.up hbwA.size hS) _ _ _ (RdSs.keep (fun q hq => hbwA.cell hq.2) _ _ _ hB))
              have hsz : w.heap.size + 2 ≤ wA.heap.size := by omega
              have lA := (hbwA.cell (p := ⟨w.heap.size + 1, 0, none⟩) (by simp; omega)).trans l1
              rw [hwA] at lA
              have Hp1 := Lib.hid (hp1.keep hbwA)
              have Hbd := Lib.hid (hbd.trans (But.of_below hbwA))
              have HwA := Lib.hid hwA
              have Hxe := Lib.hid hxe
              clear hp1 hb1 hbd hbwA hbA hwA hA hB hxe hX
              refine hK.out _ _ ?_ (fun hHeld => ?_)
              · ((try dsimp only); all_goals trivial)
              clear hK K
              try simp only [Act.put, List.setIfInBounds_toArray, List.set_cons_zero, List.set_cons_succ]
              refine wpAnyH_ready (rs := [4]) (by kernel_rfl) (by simp) ?_
              refine AllReadyH.cons rfl (fun K hK => ?_) (AllReadyH.nil)
              go_simp
              refine hK.out _ _ ?_ (fun hHeld => ?_)
              · ((try dsimp only); all_goals trivial)
              clear hK K
              try simp only [Act.put, List.setIfInBounds_toArray, List.set_cons_zero, List.set_cons_succ]
              refine wpAnyH_ready (rs := [5]) (by kernel_rfl) (by simp) ?_
              refine AllReadyH.cons rfl (fun K hK => ?_) (AllReadyH.nil)
              rw [← HwA.out]
              refine step_append_lies _ rfl (.tmp 18) (.tmp 21) 22 rfl (w.heap.size + 2) 49 i0 (.agg #[.string ⟨#[]⟩, .int .i64 0, .slice none 0 0, .int .i64 0, .slice none 0 0, .int .i64 0]) 6 88 Tryz.underlying22 Hi.out Hz0.out Hz1.out Hz2.out rfl (by decide) (.slice V n C) n xs (by simp [Act.eval, Act.put]) (by rw [Hn.out]; exact HOW.out.1) ⟨w1.heap.size, 0, none⟩ 1 1 [.string zn, .int .i64 za, .slice PA ps.length pc, .int .i64 zr, .slice B zb.length bc, .int .i64 0] (by simp [Act.eval, Act.put]) rfl HNW.out HOC.out (by decide) (by unfold maxLen; omega) (by omega) hsz _ rfl ?_
              intro gp cp2 w2 hown2 hgrow hat hlt
              have hgpf : w.heap.size + 2 ≤ gp := (hown2.lt gp rfl).1
              have hfar : ∀ k, k < w.heap.size + 2 → w2.heap[k]? = wA.heap[k]? := fun k hk => hgrow.block k (by omega) (fun e => by have := (HOW.out.1.lt k (by rw [← Hn.out]; exact e.symm)).1; omega)
              have l2 : w2.cell? ⟨w.heap.size + 1, 0, none⟩ = some (.slice V n C) := by rw [World.cell?_of_block (a := ⟨w.heap.size + 1, 0, none⟩) (hfar (w.heap.size + 1) (by omega)), HwA.out]; exact lA
              have hbt2 : w2.heap[w.heap.size + 1]? = some (.cells #[.slice V n C] 24 (0, 0)) := by rw [hfar _ (by omega), Hbd.out.block _ (by omega) (by omega)]; exact Hbt.out
              have lf2 : w2.frozen? ⟨w.heap.size + 1, 0, none⟩ = false := Lib.frozen_of_heap hbt2 0
              have hrs2 : w2.heap[w.heap.size]? = some (.cells #[.slice none 0 0] 24 (0, 0)) := by rw [hfar _ (by omega), Hbd.out.block _ (by omega) (by omega)]; exact Hrs.out
              have hfr2 := FrC.snoc (lo := wq.heap.size) (v' := .slice (some ⟨gp, 0, none⟩) (n + 1) cp2) HOW.out HA.out HB.out (by omega) (fun b hb => (Hfr.out.1.lt b hb).2) (by rw [← Hn.out]; exact hgrow) (by rw [← Hn.out]; rcases hat with h1 | h1; exact Or.inl (by rw [h1]; rfl); exact Or.inr ⟨gp, rfl, by omega⟩) (by rw [← Hn.out]; exact hown2)
              have hbut2 : But g w w2 := ⟨hgrow.os.trans (Hbut.out.trans Hbd.out).os, hgrow.tape.trans (Hbut.out.trans Hbd.out).tape, hgrow.output.trans (Hbut.out.trans Hbd.out).output, Nat.le_trans (Hbut.out.trans Hbd.out).size hgrow.size, fun k hk hg => (hfar k (by omega)).trans ((Hbut.out.trans Hbd.out).block k hk hg)⟩
              have hp2 : PAt w2 g s1 := Hp1.out.up ⟨hgrow.os, hgrow.tape, hgrow.output, hgrow.size, fun k hk => hfar k (by omega)⟩
              have Hbt2 := Lib.hid hbt2
              have Hrs2 := Lib.hid hrs2
              have Hfr2 := Lib.hid hfr2
              have Hbut2 := Lib.hid hbut2
              have Hp2 := Lib.hid hp2
              clear hown2 hgrow hat hlt hfar hbt2 hrs2 hfr2 hbut2 hp2
              refine hK.out _ _ ?_ (fun hHeld => ?_)
              · ((try dsimp only); all_goals trivial)
              clear hK K
              try simp only [Act.put, List.setIfInBounds_toArray, List.set_cons_zero, List.set_cons_succ]
              refine wpAnyH_take (i := 6) (v := ?_) rfl (by kernel_rfl) (by kernel_rfl) (by kernel_rfl) (fun _ _ _ h => h) (Or.inl ⟨by rfl, ?_⟩) (by assumption) ?_
              rotate_left
              · (intro w hSw; (try dsimp only at hSw); first | (go_simp; done) | (go_simp; with_reducible rfl))
              try simp only [Act.put, List.setIfInBounds_toArray, List.set_cons_zero, List.set_cons_succ]
              refine wpAnyH_ready (rs := [7]) (by kernel_rfl) (by simp) ?_
              refine AllReadyH.cons rfl (fun K hK => ?_) (AllReadyH.nil)
              go_simp
              refine hK.out _ _ ?_ (fun hHeld => ?_)
              · ((try dsimp only); all_goals trivial)
              clear hK K
              try simp only [Act.put, List.setIfInBounds_toArray, List.set_cons_zero, List.set_cons_succ]
              refine wpAnyH_done (by kernel_rfl) ?_ _
              go_wp2
              go_roundg j
              case rel =>
                have hst := Hst.out
                have hxe := Hxe.out
                (try simp only at hxe)
                subst hxe
                refine Lib.hid ⟨.slice (some ⟨gp, 0, none⟩) (n + 1) cp2, _, _, s1, hst, Hok1.out, Hp2.out.up ((Below.refl _ _).setCell (by simp; omega) _), (Below.heap_setCell _ _ _ _ (by simp)).trans Hrs2.out, ?_, Hfr2.out.set (by simp) _, Hbut2.out.up ((Below.refl _ _).setCell (by simp) _), by have := Hn.out; simp; omega⟩
                have := heap_set Hbt2.out 0 (.slice (some ⟨gp, 0, none⟩) (n + 1) cp2)
                simp only [List.setIfInBounds_toArray, List.set_cons_zero] at this
                exact this
              all_goals exact Nat.lt_succ_self _
            · go_simp
              refine (hX _ HD.out).mono ?_
              rintro e w1 ⟨zn, za, ps, zr, zb, PA, pc, B, bc, rfl, hxe, hA, hB, hp1, hb1⟩
              have hbd : But g wq w1 := ((But.refl g wq).drew).trans hb1
              have z1 : w.heap.size + 1 < w1.heap.size := by have := hbd.size; omega
              have l1 := (hbd.cell (p := ⟨w.heap.size + 1, 0, none⟩) (by simp; omega) (by simp; omega)).trans l0
              obtain ⟨wA, hwA, hbwA, hzA, hbA⟩ := one_al w1 #[.string zn, .int .i64 za, .slice PA ps.length pc, .int .i64 zr, .slice B zb.length bc, .int .i64 0] 49
              have HOW := Lib.hid ((Hfr.out.but hbd (by omega)).but (But.of_below (g := g) hbwA) (by omega))
              have HNW := Lib.hid (World.news_of_block hbA)
              have HOC := Lib.hid (six_one zn za PA ps.length pc zr B zb.length bc 0)
              have HA := Lib.hid (RdAs.more (S' := From wq.heap.size wA) (fun _ hS => From.up hbwA.size hS) (RdAs.keep (fun q hq => hbwA.cell hq.2) hA))
              have HB := Lib.hid (RdSs.more (S' := From wq.heap.size wA) (fun _ hS => From.up hbwA.size hS) _ _ _ (RdSs.keep (fun q hq => hbwA.cell hq.2) _ _ _ hB))
              have hsz : w.heap.size + 2 ≤ wA.heap.size := by omega
              have lA := (hbwA.cell (p := ⟨w.heap.size + 1, 0, none⟩) (by simp; omega)).trans l1
              rw [hwA] at lA
              have Hp1 := Lib.hid (hp1.keep hbwA)
              have Hbd := Lib.hid (hbd.trans (But.of_below hbwA))
              have HwA := Lib.hid hwA
              have Hxe := Lib.hid hxe
              clear hp1 hb1 hbd hbwA hbA hwA hA hB hxe hX
              refine hK.out _ _ ?_ (fun hHeld => ?_)
              · ((try dsimp only); all_goals trivial)
              clear hK K
              try simp only [Act.put, List.setIfInBounds_toArray, List.set_cons_zero, List.set_cons_succ]
              refine wpAnyH_ready (rs := [1, 4]) (by kernel_rfl) (by simp) ?_
              refine AllReadyH.cons rfl (fun K hK => ?_) (AllReadyH.cons rfl (fun K hK => ?_) (AllReadyH.nil))
              · go_simp
                refine hK.out _ _ ?_ (fun hHeld => ?_)
                · ((try dsimp only); all_goals trivial)
                clear hK K
                try simp only [Act.put, List.setIfInBounds_toArray, List.set_cons_zero, List.set_cons_succ]
                refine wpAnyH_ready (rs := [4]) (by kernel_rfl) (by simp) ?_
                refine AllReadyH.cons rfl (fun K hK => ?_) (AllReadyH.nil)
                go_simp
                refine hK.out _ _ ?_ (fun hHeld => ?_)
                · ((try dsimp only); all_goals trivial)
                clear hK K
                try simp only [Act.put, List.setIfInBounds_toArray, List.set_cons_zero, List.set_cons_succ]
                refine wpAnyH_ready (rs := [5]) (by kernel_rfl) (by simp) ?_
                refine AllReadyH.cons rfl (fun K hK => ?_) (AllReadyH.nil)
                rw [← HwA.out]
                refine step_append_lies _ rfl (.tmp 18) (.tmp 21) 22 rfl (w.heap.size + 2) 49 i0 (.agg #[.string ⟨#[]⟩, .int .i64 0, .slice none 0 0, .int .i64 0, .slice none 0 0, .int .i64 0]) 6 88 Tryz.underlying22 Hi.out Hz0.out Hz1.out Hz2.out rfl (by decide) (.slice V n C) n xs (by simp [Act.eval, Act.put]) (by rw [Hn.out]; exact HOW.out.1) ⟨w1.heap.size, 0, none⟩ 1 1 [.string zn, .int .i64 za, .slice PA ps.length pc, .int .i64 zr, .slice B zb.length bc, .int .i64 0] (by simp [Act.eval, Act.put]) rfl HNW.out HOC.out (by decide) (by unfold maxLen; omega) (by omega) hsz _ rfl ?_
                intro gp cp2 w2 hown2 hgrow hat hlt
                have hgpf : w.heap.size + 2 ≤ gp := (hown2.lt gp rfl).1
                have hfar : ∀ k, k < w.heap.size + 2 → w2.heap[k]? = wA.heap[k]? := fun k hk => hgrow.block k (by omega) (fun e => by have := (HOW.out.1.lt k (by rw [← Hn.out]; exact e.symm)).1; omega)
                have l2 : w2.cell? ⟨w.heap.size + 1, 0, none⟩ = some (.slice V n C) := by rw [World.cell?_of_block (a := ⟨w.heap.size + 1, 0, none⟩) (hfar (w.heap.size + 1) (by omega)), HwA.out]; exact lA
                have hbt2 : w2.heap[w.heap.size + 1]? = some (.cells #[.slice V n C] 24 (0, 0)) := by rw [hfar _ (by omega), Hbd.out.block _ (by omega) (by omega)]; exact Hbt.out
                have lf2 : w2.frozen? ⟨w.heap.size + 1, 0, none⟩ = false := Lib.frozen_of_heap hbt2 0
                have hrs2 : w2.heap[w.heap.size]? = some (.cells #[.slice none 0 0] 24 (0, 0)) := by rw [hfar _ (by omega), Hbd.out.block _ (by omega) (by omega)]; exact Hrs.out
                have hfr2 := FrC.snoc (lo := wq.heap.size) (v' := .slice (some ⟨gp, 0, none⟩) (n + 1) cp2) HOW.out HA.out HB.out (by omega) (fun b hb => (Hfr.out.1.lt b hb).2) (by rw [← Hn.out]; exact hgrow) (by rw [← Hn.out]; rcases hat with h1 | h1; exact Or.inl (by rw [h1]; rfl); exact Or.inr ⟨gp, rfl, by omega⟩) (by rw [← Hn.out]; exact hown2)
                have hbut2 : But g w w2 := ⟨hgrow.os.trans (Hbut.out.trans Hbd.out).os, hgrow.tape.trans (Hbut.out.trans Hbd.out).tape, hgrow.output.trans (Hbut.out.trans Hbd.out).output, Nat.le_trans (Hbut.out.trans Hbd.out).size hgrow.size, fun k hk hg => (hfar k (by omega)).trans ((Hbut.out.trans Hbd.out).block k hk hg)⟩
                have hp2 : PAt w2 g s1 := Hp1.out.up ⟨hgrow.os, hgrow.tape, hgrow.output, hgrow.size, fun k hk => hfar k (by omega)⟩
                have Hbt2 := Lib.hid hbt2
                have Hrs2 := Lib.hid hrs2
                have Hfr2 := Lib.hid hfr2
                have Hbut2 := Lib.hid hbut2
                have Hp2 := Lib.hid hp2
                clear hown2 hgrow hat hlt hfar hbt2 hrs2 hfr2 hbut2 hp2
                refine hK.out _ _ ?_ (fun hHeld => ?_)
                · ((try dsimp only); all_goals trivial)
                clear hK K
                try simp only [Act.put, List.setIfInBounds_toArray, List.set_cons_zero, List.set_cons_succ]
                refine wpAnyH_take (i := 6) (v := ?_) rfl (by kernel_rfl) (by kernel_rfl) (by kernel_rfl) (fun _ _ _ h => h) (Or.inl ⟨by rfl, ?_⟩) (by assumption) ?_
                rotate_left
                · (intro w hSw; (try dsimp only at hSw); first | (go_simp; done) | (go_simp; with_reducible rfl))
                try simp only [Act.put, List.setIfInBounds_toArray, List.set_cons_zero, List.set_cons_succ]
                refine wpAnyH_ready (rs := [7]) (by kernel_rfl) (by simp) ?_
                refine AllReadyH.cons rfl (fun K hK => ?_) (AllReadyH.nil)
                go_simp
                refine hK.out _ _ ?_ (fun hHeld => ?_)
                · ((try dsimp only); all_goals trivial)
                clear hK K
                try simp only [Act.put, List.setIfInBounds_toArray, List.set_cons_zero, List.set_cons_succ]
                refine wpAnyH_done (by kernel_rfl) ?_ _
                go_wp2
                go_roundg j
                case rel =>
                  have hst := Hst.out
                  have hxe := Hxe.out
                  (try simp only at hxe)
                  subst hxe
                  refine Lib.hid ⟨.slice (some ⟨gp, 0, none⟩) (n + 1) cp2, _, _, s1, hst, Hok1.out, Hp2.out.up ((Below.refl _ _).setCell (by simp; omega) _), (Below.heap_setCell _ _ _ _ (by simp)).trans Hrs2.out, ?_, Hfr2.out.set (by simp) _, Hbut2.out.up ((Below.refl _ _).setCell (by simp) _), by have := Hn.out; simp; omega⟩
                  have := heap_set Hbt2.out 0 (.slice (some ⟨gp, 0, none⟩) (n + 1) cp2)
                  simp only [List.setIfInBounds_toArray, List.set_cons_zero] at this
                  exact this
                all_goals exact Nat.lt_succ_self _
              · go_simp
                refine hK.out _ _ ?_ (fun hHeld => ?_)
                · ((try dsimp only); all_goals trivial)
                clear hK K
                try simp only [Act.put, List.setIfInBounds_toArray, List.set_cons_zero, List.set_cons_succ]
                refine wpAnyH_ready (rs := [1]) (by kernel_rfl) (by simp) ?_
                refine AllReadyH.cons rfl (fun K hK => ?_) (AllReadyH.nil)
                go_simp
                refine hK.out _ _ ?_ (fun hHeld => ?_)
                · ((try dsimp only); all_goals trivial)
                clear hK K
                try simp only [Act.put, List.setIfInBounds_toArray, List.set_cons_zero, List.set_cons_succ]
                refine wpAnyH_ready (rs := [5]) (by kernel_rfl) (by simp) ?_
                refine AllReadyH.cons rfl (fun K hK => ?_) (AllReadyH.nil)
                rw [← HwA.out]
                refine step_append_lies _ rfl (.tmp 18) (.tmp 21) 22 rfl (w.heap.size + 2) 49 i0 (.agg #[.string ⟨#[]⟩, .int .i64 0, .slice none 0 0, .int .i64 0, .slice none 0 0, .int .i64 0]) 6 88 Tryz.underlying22 Hi.out Hz0.out Hz1.out Hz2.out rfl (by decide) (.slice V n C) n xs (by simp [Act.eval, Act.put]) (by rw [Hn.out]; exact HOW.out.1) ⟨w1.heap.size, 0, none⟩ 1 1 [.string zn, .int .i64 za, .slice PA ps.length pc, .int .i64 zr, .slice B zb.length bc, .int .i64 0] (by simp [Act.eval, Act.put]) rfl HNW.out HOC.out (by decide) (by unfold maxLen; omega) (by omega) hsz _ rfl ?_
                intro gp cp2 w2 hown2 hgrow hat hlt
                have hgpf : w.heap.size + 2 ≤ gp := (hown2.lt gp rfl).1
                have hfar : ∀ k, k < w.heap.size + 2 → w2.heap[k]? = wA.heap[k]? := fun k hk => hgrow.block k (by omega) (fun e => by have := (HOW.out.1.lt k (by rw [← Hn.out]; exact e.symm)).1; omega)
                have l2 : w2.cell? ⟨w.heap.size + 1, 0, none⟩ = some (.slice V n C) := by rw [World.cell?_of_block (a := ⟨w.heap.size + 1, 0, none⟩) (hfar (w.heap.size + 1) (by omega)), HwA.out]; exact lA
                have hbt2 : w2.heap[w.heap.size + 1]? = some (.cells #[.slice V n C] 24 (0, 0)) := by rw [hfar _ (by omega), Hbd.out.block _ (by omega) (by omega)]; exact Hbt.out
                have lf2 : w2.frozen? ⟨w.heap.size + 1, 0, none⟩ = false := Lib.frozen_of_heap hbt2 0
                have hrs2 : w2.heap[w.heap.size]? = some (.cells #[.slice none 0 0] 24 (0, 0)) := by rw [hfar _ (by omega), Hbd.out.block _ (by omega) (by omega)]; exact Hrs.out
                have hfr2 := FrC.snoc (lo := wq.heap.size) (v' := .slice (some ⟨gp, 0, none⟩) (n + 1) cp2) HOW.out HA.out HB.out (by omega) (fun b hb => (Hfr.out.1.lt b hb).2) (by rw [← Hn.out]; exact hgrow) (by rw [← Hn.out]; rcases hat with h1 | h1; exact Or.inl (by rw [h1]; rfl); exact Or.inr ⟨gp, rfl, by omega⟩) (by rw [← Hn.out]; exact hown2)
                have hbut2 : But g w w2 := ⟨hgrow.os.trans (Hbut.out.trans Hbd.out).os, hgrow.tape.trans (Hbut.out.trans Hbd.out).tape, hgrow.output.trans (Hbut.out.trans Hbd.out).output, Nat.le_trans (Hbut.out.trans Hbd.out).size hgrow.size, fun k hk hg => (hfar k (by omega)).trans ((Hbut.out.trans Hbd.out).block k hk hg)⟩
                have hp2 : PAt w2 g s1 := Hp1.out.up ⟨hgrow.os, hgrow.tape, hgrow.output, hgrow.size, fun k hk => hfar k (by omega)⟩
                have Hbt2 := Lib.hid hbt2
                have Hrs2 := Lib.hid hrs2
                have Hfr2 := Lib.hid hfr2
                have Hbut2 := Lib.hid hbut2
                have Hp2 := Lib.hid hp2
                clear hown2 hgrow hat hlt hfar hbt2 hrs2 hfr2 hbut2 hp2
                refine hK.out _ _ ?_ (fun hHeld => ?_)
                · ((try dsimp only); all_goals trivial)
                clear hK K
                try simp only [Act.put, List.setIfInBounds_toArray, List.set_cons_zero, List.set_cons_succ]
                refine wpAnyH_take (i := 6) (v := ?_) rfl (by kernel_rfl) (by kernel_rfl) (by kernel_rfl) (fun _ _ _ h => h) (Or.inl ⟨by rfl, ?_⟩) (by assumption) ?_
                rotate_left
                · (intro w hSw; (try dsimp only at hSw); first | (go_simp; done) | (go_simp; with_reducible rfl))
                try simp only [Act.put, List.setIfInBounds_toArray, List.set_cons_zero, List.set_cons_succ]
                refine wpAnyH_ready (rs := [7]) (by kernel_rfl) (by simp) ?_
                refine AllReadyH.cons rfl (fun K hK => ?_) (AllReadyH.nil)
                go_simp
                refine hK.out _ _ ?_ (fun hHeld => ?_)
                · ((try dsimp only); all_goals trivial)
                clear hK K
                try simp only [Act.put, List.setIfInBounds_toArray, List.set_cons_zero, List.set_cons_succ]
                refine wpAnyH_done (by kernel_rfl) ?_ _
                go_wp2
                go_roundg j
                case rel =>
                  have hst := Hst.out
                  have hxe := Hxe.out
                  (try simp only at hxe)
                  subst hxe
                  refine Lib.hid ⟨.slice (some ⟨gp, 0, none⟩) (n + 1) cp2, _, _, s1, hst, Hok1.out, Hp2.out.up ((Below.refl _ _).setCell (by simp; omega) _), (Below.heap_setCell _ _ _ _ (by simp)).trans Hrs2.out, ?_, Hfr2.out.set (by simp) _, Hbut2.out.up ((Below.refl _ _).setCell (by simp) _), by have := Hn.out; simp; omega⟩
                  have := heap_set Hbt2.out 0 (.slice (some ⟨gp, 0, none⟩) (n + 1) cp2)
                  simp only [List.setIfInBounds_toArray, List.set_cons_zero] at this
                  exact this
                all_goals exact Nat.lt_succ_self _
          · rw [if_neg hfull] at hsx
            subst hsx
            have hfi : ((n : Int) == 256) = false := beq_eq_false_iff_ne.mpr (by omega)
            clear hfull hNa
            go_upto_region 3 with (go_at_call 18; refine hN.mono ?_; rintro e w2 ⟨rfl, hb⟩; have Hb2 := Lib.hid (But.of_below (g := g) hb); have Hp2 := Lib.hid (Hat.out.keep hb); have l2 := (hb.cell (p := ⟨w.heap.size + 1, 0, none⟩) (by simp; omega)).trans l0; clear hb hN)
            go_upto_region 5 with fail
            clear l2
            obtain ⟨wq, hwq⟩ : ∃ wq, wq = w2 := ⟨_, rfl⟩
            rw [← hwq] at Hp2 Hb2 ⊢
            have Hpq := Hp2
            have Hbq := Hb2
            clear hwq
            have hbtq := (Hbq.out.block (w.heap.size + 1) (by omega) (by omega)).trans Hbt.out
            have hrsq := (Hbq.out.block w.heap.size (by omega) (by omega)).trans Hrs.out
            have hfrq := Hfr.out.but Hbq.out (by omega)
            have hbutq := Hbut.out.trans Hbq.out
            clear Hbt Hrs Hfr Hbut l0 htz
            have l0 : wq.cell? ⟨w.heap.size + 1, 0, none⟩ = some (.slice V n C) := Lib.cell_of_heap hbtq 0
            have htz := heap_lt hbtq
            have Hbt := Lib.hid hbtq
            have Hrs := Lib.hid hrsq
            have Hfr := Lib.hid hfrq
            have Hbut := Lib.hid hbutq
            clear hbtq hrsq hfrq hbutq
            have HD := Lib.hid (Hpq.out.up (Below.refl (g + 1) wq).drew)
            refine wp_region_held_drew (S := (fun _ => True)) (by kernel_rfl) trivial (fun hHeld => ?_)
            refine wpAnyH_take (i := 0) (v := ?_) rfl (by kernel_rfl) (by kernel_rfl) (by kernel_rfl) (fun _ _ _ h => h) (Or.inl ⟨by rfl, ?_⟩) (by assumption) ?_
            rotate_left
            · (intro w hSw; (try dsimp only at hSw); first | (go_simp; done) | (go_simp; with_reducible rfl))
            try simp only [Act.put, List.setIfInBounds_toArray, List.set_cons_zero, List.set_cons_succ]
            refine wpAnyH_take (i := 2) (v := ?_) rfl (by kernel_rfl) (by kernel_rfl) (by kernel_rfl) (fun _ _ _ h => h) (Or.inl ⟨by rfl, ?_⟩) (by assumption) ?_
            rotate_left
            · (intro w hSw; (try dsimp only at hSw); first | (go_simp; done) | (go_simp; with_reducible rfl))
            try simp only [Act.put, List.setIfInBounds_toArray, List.set_cons_zero, List.set_cons_succ]
            refine wpAnyH_ready (rs := [1, 3]) (by kernel_rfl) (by simp) ?_
            refine AllReadyH.cons rfl (fun K hK => ?_) (AllReadyH.cons rfl (fun K hK => ?_) (AllReadyH.nil))
            · go_simp
              refine hK.out _ _ ?_ (fun hHeld => ?_)
              · ((try dsimp only); all_goals trivial)
              clear hK K
              try simp only [Act.put, List.setIfInBounds_toArray, List.set_cons_zero, List.set_cons_succ]
              refine wpAnyH_ready (rs := [3]) (by kernel_rfl) (by simp) ?_
              refine AllReadyH.cons rfl (fun K hK => ?_) (AllReadyH.nil)
              go_simp
              refine (hX _ HD.out).mono ?_
              rintro e w1 ⟨zn, za, ps, zr, zb, PA, pc, B, bc, rfl, hxe, hA, hB, hp1, hb1⟩
              have hbd : But g wq w1 := ((But.refl g wq).drew).trans hb1
              have z1 : w.heap.size + 1 < w1.heap.size := by have := hbd.size; omega
              have l1 := (hbd.cell (p := ⟨w.heap.size + 1, 0, none⟩) (by simp; omega) (by simp; omega)).trans l0
              obtain ⟨wA, hwA, hbwA, hzA, hbA⟩ := one_al w1 #[.string zn, .int .i64 za, .slice PA ps.length pc, .int .i64 zr, .slice B zb.length bc, .int .i64 0] 49
              have HOW := Lib.hid ((Hfr.out.but hbd (by omega)).but (But.of_below (g := g) hbwA) (by omega))
              have HNW := Lib.hid (World.news_of_block hbA)
              have HOC := Lib.hid (six_one zn za PA ps.length pc zr B zb.length bc 0)
              have HA := Lib.hid (RdAs.more (S' := From wq.heap.size wA) (fun _ hS => From.up hbwA.size hS) (RdAs.keep (fun q hq => hbwA.cell hq.2) hA))
              have HB := Lib.hid (RdSs.more (S' := From wq.heap.size wA) (fun _ hS => From.up hbwA.size hS) _ _ _ (RdSs.keep (fun q hq => hbwA.cell hq.2) _ _ _ hB))
              have hsz : w.heap.size + 2 ≤ wA.heap.size := by omega
              have lA := (hbwA.cell (p := ⟨w.heap.size + 1, 0, none⟩) (by simp; omega)).trans l1
              rw [hwA] at lA
              have Hp1 := Lib.hid (hp1.keep hbwA)
              have Hbd := Lib.hid (hbd.trans (But.of_below hbwA))
              have HwA := Lib.hid hwA
              have Hxe := Lib.hid hxe
              clear hp1 hb1 hbd hbwA hbA hwA hA hB hxe hX
              refine hK.out _ _ ?_ (fun hHeld => ?_)
              · ((try dsimp only); all_goals trivial)
              clear hK K
              try simp only [Act.put, List.setIfInBounds_toArray, List.set_cons_zero, List.set_cons_succ]
              refine wpAnyH_ready (rs := [4]) (by kernel_rfl) (by simp) ?_
              refine AllReadyH.cons rfl (fun K hK => ?_) (AllReadyH.nil)
              go_simp
              refine hK.out _ _ ?_ (fun hHeld => ?_)
              · ((try dsimp only); all_goals trivial)
              clear hK K
              try simp only [Act.put, List.setIfInBounds_toArray, List.set_cons_zero, List.set_cons_succ]
              refine wpAnyH_ready (rs := [5]) (by kernel_rfl) (by simp) ?_
              refine AllReadyH.cons rfl (fun K hK => ?_) (AllReadyH.nil)
              rw [← HwA.out]
              refine step_append_lies _ rfl (.tmp 18) (.tmp 21) 22 rfl (w.heap.size + 2) 49 i0 (.agg #[.string ⟨#[]⟩, .int .i64 0, .slice none 0 0, .int .i64 0, .slice none 0 0, .int .i64 0]) 6 88 Tryz.underlying22 Hi.out Hz0.out Hz1.out Hz2.out rfl (by decide) (.slice V n C) n xs (by simp [Act.eval, Act.put]) (by rw [Hn.out]; exact HOW.out.1) ⟨w1.heap.size, 0, none⟩ 1 1 [.string zn, .int .i64 za, .slice PA ps.length pc, .int .i64 zr, .slice B zb.length bc, .int .i64 0] (by simp [Act.eval, Act.put]) rfl HNW.out HOC.out (by decide) (by unfold maxLen; omega) (by omega) hsz _ rfl ?_
              intro gp cp2 w2 hown2 hgrow hat hlt
              have hgpf : w.heap.size + 2 ≤ gp := (hown2.lt gp rfl).1
              have hfar : ∀ k, k < w.heap.size + 2 → w2.heap[k]? = wA.heap[k]? := fun k hk => hgrow.block k (by omega) (fun e => by have := (HOW.out.1.lt k (by rw [← Hn.out]; exact e.symm)).1; omega)
              have l2 : w2.cell? ⟨w.heap.size + 1, 0, none⟩ = some (.slice V n C) := by rw [World.cell?_of_block (a := ⟨w.heap.size + 1, 0, none⟩) (hfar (w.heap.size + 1) (by omega)), HwA.out]; exact lA
              have hbt2 : w2.heap[w.heap.size + 1]? = some (.cells #[.slice V n C] 24 (0, 0)) := by rw [hfar _ (by omega), Hbd.out.block _ (by omega) (by omega)]; exact Hbt.out
              have lf2 : w2.frozen? ⟨w.heap.size + 1, 0, none⟩ = false := Lib.frozen_of_heap hbt2 0
              have hrs2 : w2.heap[w.heap.size]? = some (.cells #[.slice none 0 0] 24 (0, 0)) := by rw [hfar _ (by omega), Hbd.out.block _ (by omega) (by omega)]; exact Hrs.out
              have hfr2 := FrC.snoc (lo := wq.heap.size) (v' := .slice (some ⟨gp, 0, none⟩) (n + 1) cp2) HOW.out HA.out HB.out (by omega) (fun b hb => (Hfr.out.1.lt b hb).2) (by rw [← Hn.out]; exact hgrow) (by rw [← Hn.out]; rcases hat with h1 | h1; exact Or.inl (by rw [h1]; rfl); exact Or.inr ⟨gp, rfl, by omega⟩) (by rw [← Hn.out]; exact hown2)
              have hbut2 : But g w w2 := ⟨hgrow.os.trans (Hbut.out.trans Hbd.out).os, hgrow.tape.trans (Hbut.out.trans Hbd.out).tape, hgrow.output.trans (Hbut.out.trans Hbd.out).output, Nat.le_trans (Hbut.out.trans Hbd.out).size hgrow.size, fun k hk hg => (hfar k (by omega)).trans ((Hbut.out.trans Hbd.out).block k hk hg)⟩
              have hp2 : PAt w2 g s1 := Hp1.out.up ⟨hgrow.os, hgrow.tape, hgrow.output, hgrow.size, fun k hk => hfar k (by omega)⟩
              have Hbt2 := Lib.hid hbt2
              have Hrs2 := Lib.hid hrs2
              have Hfr2 := Lib.hid hfr2
              have Hbut2 := Lib.hid hbut2
              have Hp2 := Lib.hid hp2
              clear hown2 hgrow hat hlt hfar hbt2 hrs2 hfr2 hbut2 hp2
              refine hK.out _ _ ?_ (fun hHeld => ?_)
              · ((try dsimp only); all_goals trivial)
              clear hK K
              try simp only [Act.put, List.setIfInBounds_toArray, List.set_cons_zero, List.set_cons_succ]
              refine wpAnyH_take (i := 6) (v := ?_) rfl (by kernel_rfl) (by kernel_rfl) (by kernel_rfl) (fun _ _ _ h => h) (Or.inl ⟨by rfl, ?_⟩) (by assumption) ?_
              rotate_left
              · (intro w hSw; (try dsimp only at hSw); first | (go_simp; done) | (go_simp; with_reducible rfl))
              try simp only [Act.put, List.setIfInBounds_toArray, List.set_cons_zero, List.set_cons_succ]
              refine wpAnyH_ready (rs := [7]) (by kernel_rfl) (by simp) ?_
              refine AllReadyH.cons rfl (fun K hK => ?_) (AllReadyH.nil)
              go_simp
              refine hK.out _ _ ?_ (fun hHeld => ?_)
              · ((try dsimp only); all_goals trivial)
              clear hK K
              try simp only [Act.put, List.setIfInBounds_toArray, List.set_cons_zero, List.set_cons_succ]
              refine wpAnyH_done (by kernel_rfl) ?_ _
              go_wp2
              go_roundg j
              case rel =>
                have hst := Hst.out
                have hxe := Hxe.out
                (try simp only at hxe)
                subst hxe
                refine Lib.hid ⟨.slice (some ⟨gp, 0, none⟩) (n + 1) cp2, _, _, s1, hst, Hok1.out, Hp2.out.up ((Below.refl _ _).setCell (by simp; omega) _), (Below.heap_setCell _ _ _ _ (by simp)).trans Hrs2.out, ?_, Hfr2.out.set (by simp) _, Hbut2.out.up ((Below.refl _ _).setCell (by simp) _), by have := Hn.out; simp; omega⟩
                have := heap_set Hbt2.out 0 (.slice (some ⟨gp, 0, none⟩) (n + 1) cp2)
                simp only [List.setIfInBounds_toArray, List.set_cons_zero] at this
                exact this
              all_goals exact Nat.lt_succ_self _
            · go_simp
              refine (hX _ HD.out).mono ?_
              rintro e w1 ⟨zn, za, ps, zr, zb, PA, pc, B, bc, rfl, hxe, hA, hB, hp1, hb1⟩
              have hbd : But g wq w1 := ((But.refl g wq).drew).trans hb1
              have z1 : w.heap.size + 1 < w1.heap.size := by have := hbd.size; omega
              have l1 := (hbd.cell (p := ⟨w.heap.size + 1, 0, none⟩) (by simp; omega) (by simp; omega)).trans l0
              obtain ⟨wA, hwA, hbwA, hzA, hbA⟩ := one_al w1 #[.string zn, .int .i64 za, .slice PA ps.length pc, .int .i64 zr, .slice B zb.length bc, .int .i64 0] 49
              have HOW := Lib.hid ((Hfr.out.but hbd (by omega)).but (But.of_below (g := g) hbwA) (by omega))
              have HNW := Lib.hid (World.news_of_block hbA)
              have HOC := Lib.hid (six_one zn za PA ps.length pc zr B zb.length bc 0)
              have HA := Lib.hid (RdAs.more (S' := From wq.heap.size wA) (fun _ hS => From.up hbwA.size hS) (RdAs.keep (fun q hq => hbwA.cell hq.2) hA))
              have HB := Lib.hid (RdSs.more (S' := From wq.heap.size wA) (fun _ hS => From.up hbwA.size hS) _ _ _ (RdSs.keep (fun q hq => hbwA.cell hq.2) _ _ _ hB))
              have hsz : w.heap.size + 2 ≤ wA.heap.size := by omega
              have lA := (hbwA.cell (p := ⟨w.heap.size + 1, 0, none⟩) (by simp; omega)).trans l1
              rw [hwA] at lA
              have Hp1 := Lib.hid (hp1.keep hbwA)
              have Hbd := Lib.hid (hbd.trans (But.of_below hbwA))
              have HwA := Lib.hid hwA
              have Hxe := Lib.hid hxe
              clear hp1 hb1 hbd hbwA hbA hwA hA hB hxe hX
              refine hK.out _ _ ?_ (fun hHeld => ?_)
              · ((try dsimp only); all_goals trivial)
              clear hK K
              try simp only [Act.put, List.setIfInBounds_toArray, List.set_cons_zero, List.set_cons_succ]
              refine wpAnyH_ready (rs := [1, 4]) (by kernel_rfl) (by simp) ?_
              refine AllReadyH.cons rfl (fun K hK => ?_) (AllReadyH.cons rfl (fun K hK => ?_) (AllReadyH.nil))
              · go_simp
                refine hK.out _ _ ?_ (fun hHeld => ?_)
                · ((try dsimp only); all_goals trivial)
                clear hK K
                try simp only [Act.put, List.setIfInBounds_toArray, List.set_cons_zero, List.set_cons_succ]
                refine wpAnyH_ready (rs := [4]) (by kernel_rfl) (by simp) ?_
                refine AllReadyH.cons rfl (fun K hK => ?_) (AllReadyH.nil)
                go_simp
                refine hK.out _ _ ?_ (fun hHeld => ?_)
                · ((try dsimp only); all_goals trivial)
                clear hK K
                try simp only [Act.put, List.setIfInBounds_toArray, List.set_cons_zero, List.set_cons_succ]
                refine wpAnyH_ready (rs := [5]) (by kernel_rfl) (by simp) ?_
                refine AllReadyH.cons rfl (fun K hK => ?_) (AllReadyH.nil)
                rw [← HwA.out]
                refine step_append_lies _ rfl (.tmp 18) (.tmp 21) 22 rfl (w.heap.size + 2) 49 i0 (.agg #[.string ⟨#[]⟩, .int .i64 0, .slice none 0 0, .int .i64 0, .slice none 0 0, .int .i64 0]) 6 88 Tryz.underlying22 Hi.out Hz0.out Hz1.out Hz2.out rfl (by decide) (.slice V n C) n xs (by simp [Act.eval, Act.put]) (by rw [Hn.out]; exact HOW.out.1) ⟨w1.heap.size, 0, none⟩ 1 1 [.string zn, .int .i64 za, .slice PA ps.length pc, .int .i64 zr, .slice B zb.length bc, .int .i64 0] (by simp [Act.eval, Act.put]) rfl HNW.out HOC.out (by decide) (by unfold maxLen; omega) (by omega) hsz _ rfl ?_
                intro gp cp2 w2 hown2 hgrow hat hlt
                have hgpf : w.heap.size + 2 ≤ gp := (hown2.lt gp rfl).1
                have hfar : ∀ k, k < w.heap.size + 2 → w2.heap[k]? = wA.heap[k]? := fun k hk => hgrow.block k (by omega) (fun e => by have := (HOW.out.1.lt k (by rw [← Hn.out]; exact e.symm)).1; omega)
                have l2 : w2.cell? ⟨w.heap.size + 1, 0, none⟩ = some (.slice V n C) := by rw [World.cell?_of_block (a := ⟨w.heap.size + 1, 0, none⟩) (hfar (w.heap.size + 1) (by omega)), HwA.out]; exact lA
                have hbt2 : w2.heap[w.heap.size + 1]? = some (.cells #[.slice V n C] 24 (0, 0)) := by rw [hfar _ (by omega), Hbd.out.block _ (by omega) (by omega)]; exact Hbt.out
                have lf2 : w2.frozen? ⟨w.heap.size + 1, 0, none⟩ = false := Lib.frozen_of_heap hbt2 0
                have hrs2 : w2.heap[w.heap.size]? = some (.cells #[.slice none 0 0] 24 (0, 0)) := by rw [hfar _ (by omega), Hbd.out.block _ (by omega) (by omega)]; exact Hrs.out
                have hfr2 := FrC.snoc (lo := wq.heap.size) (v' := .slice (some ⟨gp, 0, none⟩) (n + 1) cp2) HOW.out HA.out HB.out (by omega) (fun b hb => (Hfr.out.1.lt b hb).2) (by rw [← Hn.out]; exact hgrow) (by rw [← Hn.out]; rcases hat with h1 | h1; exact Or.inl (by rw [h1]; rfl); exact Or.inr ⟨gp, rfl, by omega⟩) (by rw [← Hn.out]; exact hown2)
                have hbut2 : But g w w2 := ⟨hgrow.os.trans (Hbut.out.trans Hbd.out).os, hgrow.tape.trans (Hbut.out.trans Hbd.out).tape, hgrow.output.trans (Hbut.out.trans Hbd.out).output, Nat.le_trans (Hbut.out.trans Hbd.out).size hgrow.size, fun k hk hg => (hfar k (by omega)).trans ((Hbut.out.trans Hbd.out).block k hk hg)⟩
                have hp2 : PAt w2 g s1 := Hp1.out.up ⟨hgrow.os, hgrow.tape, hgrow.output, hgrow.size, fun k hk => hfar k (by omega)⟩
                have Hbt2 := Lib.hid hbt2
                have Hrs2 := Lib.hid hrs2
                have Hfr2 := Lib.hid hfr2
                have Hbut2 := Lib.hid hbut2
                have Hp2 := Lib.hid hp2
                clear hown2 hgrow hat hlt hfar hbt2 hrs2 hfr2 hbut2 hp2
                refine hK.out _ _ ?_ (fun hHeld => ?_)
                · ((try dsimp only); all_goals trivial)
                clear hK K
                try simp only [Act.put, List.setIfInBounds_toArray, List.set_cons_zero, List.set_cons_succ]
                refine wpAnyH_take (i := 6) (v := ?_) rfl (by kernel_rfl) (by kernel_rfl) (by kernel_rfl) (fun _ _ _ h => h) (Or.inl ⟨by rfl, ?_⟩) (by assumption) ?_
                rotate_left
                · (intro w hSw; (try dsimp only at hSw); first | (go_simp; done) | (go_simp; with_reducible rfl))
                try simp only [Act.put, List.setIfInBounds_toArray, List.set_cons_zero, List.set_cons_succ]
                refine wpAnyH_ready (rs := [7]) (by kernel_rfl) (by simp) ?_
                refine AllReadyH.cons rfl (fun K hK => ?_) (AllReadyH.nil)
                go_simp
                refine hK.out _ _ ?_ (fun hHeld => ?_)
                · ((try dsimp only); all_goals trivial)
                clear hK K
                try simp only [Act.put, List.setIfInBounds_toArray, List.set_cons_zero, List.set_cons_succ]
                refine wpAnyH_done (by kernel_rfl) ?_ _
                go_wp2
                go_roundg j
                case rel =>
                  have hst := Hst.out
                  have hxe := Hxe.out
                  (try simp only at hxe)
                  subst hxe
                  refine Lib.hid ⟨.slice (some ⟨gp, 0, none⟩) (n + 1) cp2, _, _, s1, hst, Hok1.out, Hp2.out.up ((Below.refl _ _).setCell (by simp; omega) _), (Below.heap_setCell _ _ _ _ (by simp)).trans Hrs2.out, ?_, Hfr2.out.set (by simp) _, Hbut2.out.up ((Below.refl _ _).setCell (by simp) _), by have := Hn.out; simp; omega⟩
                  have := heap_set Hbt2.out 0 (.slice (some ⟨gp, 0, none⟩) (n + 1) cp2)
                  simp only [List.setIfInBounds_toArray, List.set_cons_zero] at this
                  exact this
                all_goals exact Nat.lt_succ_self _
              · go_simp
                refine hK.out _ _ ?_ (fun hHeld => ?_)
                · ((try dsimp only); all_goals trivial)
                clear hK K
                try simp only [Act.put, List.setIfInBounds_toArray, List.set_cons_zero, List.set_cons_succ]
                refine wpAnyH_ready (rs := [1]) (by kernel_rfl) (by simp) ?_
                refine AllReadyH.cons rfl (fun K hK => ?_) (AllReadyH.nil)
                go_simp
                refine hK.out _ _ ?_ (fun hHeld => ?_)
                · ((try dsimp only); all_goals trivial)
                clear hK K
                try simp only [Act.put, List.setIfInBounds_toArray, List.set_cons_zero, List.set_cons_succ]
                refine wpAnyH_ready (rs := [5]) (by kernel_rfl) (by simp) ?_
                refine AllReadyH.cons rfl (fun K hK => ?_) (AllReadyH.nil)
                rw [← HwA.out]
                refine step_append_lies _ rfl (.tmp 18) (.tmp 21) 22 rfl (w.heap.size + 2) 49 i0 (.agg #[.string ⟨#[]⟩, .int .i64 0, .slice none 0 0, .int .i64 0, .slice none 0 0, .int .i64 0]) 6 88 Tryz.underlying22 Hi.out Hz0.out Hz1.out Hz2.out rfl (by decide) (.slice V n C) n xs (by simp [Act.eval, Act.put]) (by rw [Hn.out]; exact HOW.out.1) ⟨w1.heap.size, 0, none⟩ 1 1 [.string zn, .int .i64 za, .slice PA ps.length pc, .int .i64 zr, .slice B zb.length bc, .int .i64 0] (by simp [Act.eval, Act.put]) rfl HNW.out HOC.out (by decide) (by unfold maxLen; omega) (by omega) hsz _ rfl ?_
                intro gp cp2 w2 hown2 hgrow hat hlt
                have hgpf : w.heap.size + 2 ≤ gp := (hown2.lt gp rfl).1
                have hfar : ∀ k, k < w.heap.size + 2 → w2.heap[k]? = wA.heap[k]? := fun k hk => hgrow.block k (by omega) (fun e => by have := (HOW.out.1.lt k (by rw [← Hn.out]; exact e.symm)).1; omega)
                have l2 : w2.cell? ⟨w.heap.size + 1, 0, none⟩ = some (.slice V n C) := by rw [World.cell?_of_block (a := ⟨w.heap.size + 1, 0, none⟩) (hfar (w.heap.size + 1) (by omega)), HwA.out]; exact lA
                have hbt2 : w2.heap[w.heap.size + 1]? = some (.cells #[.slice V n C] 24 (0, 0)) := by rw [hfar _ (by omega), Hbd.out.block _ (by omega) (by omega)]; exact Hbt.out
                have lf2 : w2.frozen? ⟨w.heap.size + 1, 0, none⟩ = false := Lib.frozen_of_heap hbt2 0
                have hrs2 : w2.heap[w.heap.size]? = some (.cells #[.slice none 0 0] 24 (0, 0)) := by rw [hfar _ (by omega), Hbd.out.block _ (by omega) (by omega)]; exact Hrs.out
                have hfr2 := FrC.snoc (lo := wq.heap.size) (v' := .slice (some ⟨gp, 0, none⟩) (n + 1) cp2) HOW.out HA.out HB.out (by omega) (fun b hb => (Hfr.out.1.lt b hb).2) (by rw [← Hn.out]; exact hgrow) (by rw [← Hn.out]; rcases hat with h1 | h1; exact Or.inl (by rw [h1]; rfl); exact Or.inr ⟨gp, rfl, by omega⟩) (by rw [← Hn.out]; exact hown2)
                have hbut2 : But g w w2 := ⟨hgrow.os.trans (Hbut.out.trans Hbd.out).os, hgrow.tape.trans (Hbut.out.trans Hbd.out).tape, hgrow.output.trans (Hbut.out.trans Hbd.out).output, Nat.le_trans (Hbut.out.trans Hbd.out).size hgrow.size, fun k hk hg => (hfar k (by omega)).trans ((Hbut.out.trans Hbd.out).block k hk hg)⟩
                have hp2 : PAt w2 g s1 := Hp1.out.up ⟨hgrow.os, hgrow.tape, hgrow.output, hgrow.size, fun k hk => hfar k (by omega)⟩
                have Hbt2 := Lib.hid hbt2
                have Hrs2 := Lib.hid hrs2
                have Hfr2 := Lib.hid hfr2
                have Hbut2 := Lib.hid hbut2
                have Hp2 := Lib.hid hp2
                clear hown2 hgrow hat hlt hfar hbt2 hrs2 hfr2 hbut2 hp2
                refine hK.out _ _ ?_ (fun hHeld => ?_)
                · ((try dsimp only); all_goals trivial)
                clear hK K
                try simp only [Act.put, List.setIfInBounds_toArray, List.set_cons_zero, List.set_cons_succ]
                refine wpAnyH_take (i := 6) (v := ?_) rfl (by kernel_rfl) (by kernel_rfl) (by kernel_rfl) (fun _ _ _ h => h) (Or.inl ⟨by rfl, ?_⟩) (by assumption) ?_
                rotate_left
                · (intro w hSw; (try dsimp only at hSw); first | (go_simp; done) | (go_simp; with_reducible rfl))
                try simp only [Act.put, List.setIfInBounds_toArray, List.set_cons_zero, List.set_cons_succ]
                refine wpAnyH_ready (rs := [7]) (by kernel_rfl) (by simp) ?_
                refine AllReadyH.cons rfl (fun K hK => ?_) (AllReadyH.nil)
                go_simp
                refine hK.out _ _ ?_ (fun hHeld => ?_)
                · ((try dsimp only); all_goals trivial)
                clear hK K
                try simp only [Act.put, List.setIfInBounds_toArray, List.set_cons_zero, List.set_cons_succ]
                refine wpAnyH_done (by kernel_rfl) ?_ _
                go_wp2
                go_roundg j
                case rel =>
                  have hst := Hst.out
                  have hxe := Hxe.out
                  (try simp only at hxe)
                  subst hxe
                  refine Lib.hid ⟨.slice (some ⟨gp, 0, none⟩) (n + 1) cp2, _, _, s1, hst, Hok1.out, Hp2.out.up ((Below.refl _ _).setCell (by simp; omega) _), (Below.heap_setCell _ _ _ _ (by simp)).trans Hrs2.out, ?_, Hfr2.out.set (by simp) _, Hbut2.out.up ((Below.refl _ _).setCell (by simp) _), by have := Hn.out; simp; omega⟩
                  have := heap_set Hbt2.out 0 (.slice (some ⟨gp, 0, none⟩) (n + 1) cp2)
                  simp only [List.setIfInBounds_toArray, List.set_cons_zero] at this
                  exact this
                all_goals exact Nat.lt_succ_self _
theorem parse_dummy : True := trivial
end Go.Proofs.YtiadbeglhnocoaaGreatDoor
