/-
  Arguments of a function, one by one.
-/
import Derived.Test.YtiadbeglhnocoaaGreatDoorJb30
namespace Go.Proofs.YtiadbeglhnocoaaGreatDoor
set_option linter.unusedVariables false
set_option linter.unusedSimpArgs false
open Go.RowKit

theorem infoParam : (Tryz.prog.info? 66).map (fun i => (i.zero, i.size, i.bytes)) = some (some (.agg #[.string ⟨#[]⟩, .int .i64 0]), 2, 24) := by kernel_rfl
def paC (p : Pa) : List Value := [.string p.name, .int .i64 p.type]
theorem paC_len (l : List Pa) : (l.flatMap paC).length = l.length * 2 := by
  induction l with
  | nil => rfl
  | cons p r ih => simp only [List.flatMap_cons, List.length_append, ih, List.length_cons]; unfold paC; simp; omega
/-- The function that is being made, its arguments in a row of its own. -/
def JF (g bf bp : Nat) (W0 : World) (nm : ByteArray) (at_ : Int) (l : List Pa) (w : World) : Prop := ∃ v, w.heap[bp]? = some (.cells #[.pointer (some ⟨g, 0, none⟩)] 59 (0, 0)) ∧ w.heap[bf]? = some (.cells #[.string nm, .int .i64 at_, v, .int .i64 0, .slice none 0 0, .int .i64 0] 49 (0, 0)) ∧ w.ownsRow (bf + 1) 66 2 v l.length (l.flatMap paC) ∧ But g W0 w ∧ w.heap[bp + 1]? = some (.cells #[.string ⟨#[]⟩, .int .i64 0, .slice none 0 0, .int .i64 0, .slice none 0 0, .int .i64 0] 49 (0, 0))
theorem JF.but {g bf bp : Nat} {W0 : World} {nm : ByteArray} {at_ : Int} {l : List Pa} {w w' : World} (h : JF g bf bp W0 nm at_ l w) (hb : But g w w') (h1 : g < bp) (h2 : bp + 1 < bf) : JF g bf bp W0 nm at_ l w' := by
  obtain ⟨v, hp, hf, ho, hw, hq⟩ := h
  exact ⟨v, (hb.block _ (heap_lt hp) (by omega)).trans hp, (hb.block _ (heap_lt hf) (by omega)).trans hf, own_but ho hb (by omega), hw.trans hb, (hb.block _ (heap_lt hq) (by omega)).trans hq⟩
theorem two_one (a : ByteArray) (b : Int) : ∀ u ∈ ([.string a, .int .i64 b] : List Value), u.oneCell' = true := by
  intro u hu
  simp only [List.mem_cons, List.not_mem_nil, or_false] at hu
  rcases hu with rfl | rfl <;> rfl
set_option maxRecDepth 100000 in
set_option maxHeartbeats 8000000 in
theorem fnF_room (g bf bp : Nat) (W0 : World) (nm : ByteArray) (at_ : Int) (hg : g < bp) (hpf : bp + 1 < bf) (hW : W0.heap.size ≤ bp) (l : List Pa) (s sx s1 : PS) (nmp : ByteArray) (typ : Int) (w : World) (hfull : (l.length == 16) = false) (hsx : sx = s) (hpa : paramP sx = (⟨nmp, typ⟩, s1)) (hl : l.length ≤ 33554432) (h : PAt w g s) (hj : JF g bf bp W0 nm at_ l w) :
    Calls Tryz.prog 41 #[.pointer (some ⟨bf, 0, none⟩), .pointer (some ⟨bp, 0, none⟩)] w fun e w' => e = .returned (.tuple #[]) ∧ PAt w' g s1 ∧ JF g bf bp W0 nm at_ (l ++ [⟨nmp, typ⟩]) w' := by
  have hX := fun w' (hp : PAt w' g sx) => param_any g sx w' hp
  rw [hpa] at hX
  simp only at hX
  obtain ⟨i0, hi, hz0, hz1, hz2⟩ := info_parts infoParam
  have Hi := Lib.hid hi
  have Hz0 := Lib.hid hz0
  have Hz1 := Lib.hid hz1
  have Hz2 := Lib.hid hz2
  obtain ⟨v0, hbp, hbf, hown, hbut, hres⟩ := hj
  have Hres := Lib.hid hres
  obtain ⟨V, C, rfl⟩ := own_form hown
  have b0 : w.cell? ⟨bp, 0, none⟩ = some (.pointer (some ⟨g, 0, none⟩)) := Lib.cell_of_heap hbp 0
  have l0 : w.cell? ⟨bf, 2, none⟩ = some (.slice V l.length C) := Lib.cell_of_heap hbf 2
  have hbfz := heap_lt hbf
  obtain ⟨n, hn⟩ : ∃ n, n = l.length := ⟨_, rfl⟩
  have Hn := Lib.hid hn
  rw [← hn] at hl l0 hfull hbf
  have H := Lib.hid h
  have Hbp := Lib.hid hbp
  have Hbf := Lib.hid hbf
  have Hown := Lib.hid hown
  have Hbut := Lib.hid hbut
  have hfi : ((n : Int) == 16) = false := by exact beq_eq_false_iff_ne.mpr (by have h16 : n ≠ 16 := (by simpa using hfull); omega)
  subst hsx
  clear hres hpa hn hi hz0 hz1 hz2 hbp hbf hown hbut h hfull
  go_enter Tryz.func41, Tryz.ntmps41
  go_upto_region 2 with fail
  obtain ⟨wr, hwr⟩ : ∃ wr, wr = w := ⟨_, rfl⟩
  rw [← hwr] at H ⊢
  have Hpr := H
  have Hbr : Hid (But g w wr) := by rw [hwr]; exact Lib.hid (But.refl g w)
  rw [← hwr] at l0
  clear hwr
  have b0' := (Hbr.out.cell (p := ⟨bp, 0, none⟩) (by simp; omega) (by simp; omega)).trans b0
  clear b0
  have hbpr := (Hbr.out.block bp (by omega) (by omega)).trans Hbp.out
  have hbfr := (Hbr.out.block bf (by omega) (by omega)).trans Hbf.out
  have hownr := own_but Hown.out Hbr.out (by omega)
  have hbutr := Hbut.out.trans Hbr.out
  have hresr := (Hbr.out.block (bp + 1) (by omega) (by omega)).trans Hres.out
  clear Hbp Hbf Hown Hbut Hres
  have Hbp := Lib.hid hbpr
  have Hbf := Lib.hid hbfr
  have Hown := Lib.hid hownr
  have Hbut := Lib.hid hbutr
  have Hres := Lib.hid hresr
  replace hbfz := heap_lt hbfr
  clear hbpr hbfr hownr hbutr hresr
  have b0 : wr.drew.cell? ⟨bp, 0, none⟩ = some (.pointer (some ⟨g, 0, none⟩)) := b0'
  obtain ⟨D, hD⟩ : ∃ D, D = wr.drew := ⟨_, rfl⟩
  have hpD : PAt D g sx := by rw [hD]; exact Hpr.out.up (Below.refl (g + 1) wr).drew
  have hbD : But g wr D := by rw [hD]; exact (But.refl g wr).drew
  have l0' : D.cell? ⟨bf, 2, none⟩ = some (.slice V n C) := by rw [hD]; exact l0
  have HD := Lib.hid hpD
  have HbD := Lib.hid hbD
  rw [hD] at HD
  clear hpD hbD hD
  refine wp_region_held_drew (S := (fun w' => w'.cell? ⟨bp, 0, none⟩ = some (.pointer (some ⟨g, 0, none⟩)))) (by kernel_rfl) b0 (fun hHeld => ?_)
  refine wpAnyH_take (i := 0) (v := ?_) rfl (by kernel_rfl) (by kernel_rfl) (by kernel_rfl) (fun _ _ _ h => h) (Or.inl ⟨by rfl, ?_⟩) (by assumption) ?_
  rotate_left
  · (intro w hSw; (try dsimp only at hSw); first | (go_simp; done) | (go_simp; with_reducible rfl))
  try simp only [Act.put, List.setIfInBounds_toArray, List.set_cons_zero, List.set_cons_succ]
  refine wpAnyH_take (i := 2) (v := ?_) rfl (by kernel_rfl) (by kernel_rfl) (by kernel_rfl) (fun _ _ _ h => h) (Or.inl ⟨by rfl, ?_⟩) (by assumption) ?_
  rotate_left
  · (intro w hSw; (try dsimp only at hSw); first | (go_simp; done) | (go_simp; with_reducible rfl))
  try simp only [Act.put, List.setIfInBounds_toArray, List.set_cons_zero, List.set_cons_succ]
  refine wpAnyH_ready (rs := [1, 3]) (by kernel_rfl) (by simp) ?_
  refine AllReadyH.cons rfl (fun K hK => ?_) (AllReadyH.cons rfl (fun K hK => ?_) (AllReadyH.nil))
  · go_simp
    refine hK.out _ _ ?_ (fun hHeld => ?_)
    · ((try dsimp only); first | assumption | exact b0 | exact b1 | exact bA | exact b2 | exact (World.cell?_setCell_far _ _ _ _ (by simp; omega)).trans b2 | (simp [*]; done))
    clear hK K
    try simp only [Act.put, List.setIfInBounds_toArray, List.set_cons_zero, List.set_cons_succ]
    refine wpAnyH_ready (rs := [3]) (by kernel_rfl) (by simp) ?_
    refine AllReadyH.cons rfl (fun K hK => ?_) (AllReadyH.nil)
    go_simp
    refine (hX _ HD.out).mono ?_
    rintro e w1 ⟨rfl, hp1, hb1⟩
    have hbd : But g wr w1 := ((But.refl g wr).drew).trans hb1
    have z1 : bf < w1.heap.size := by have := hbd.size; omega
    have b1 := (hbd.cell (p := ⟨bp, 0, none⟩) (by simp; omega) (by simp; omega)).trans b0'
    have l1 := (hbd.cell (p := ⟨bf, 2, none⟩) (by simp; omega) (by simp; omega)).trans l0
    obtain ⟨wA, hwA, hbwA, hzA, hbA⟩ := one_al w1 #[.string nmp, .int .i64 typ] 66
    have HOW := Lib.hid (own_but (own_but Hown.out hbd (by omega)) (But.of_below (g := g) hbwA) (by omega))
    have HNW := Lib.hid (World.news_of_block hbA)
    have HOC := Lib.hid (two_one nmp typ)
    have hsz : bf + 1 ≤ wA.heap.size := by omega
    have bA := (hbwA.cell (p := ⟨bp, 0, none⟩) (by simp; omega)).trans b1
    have lA := (hbwA.cell (p := ⟨bf, 2, none⟩) (by simp; omega)).trans l1
    rw [hwA] at bA lA
    have Hp1 := Lib.hid (hp1.keep hbwA)
    have Hbd := Lib.hid (hbd.trans (But.of_below hbwA))
    have HwA := Lib.hid hwA
    clear hp1 hb1 hbd hbwA hbA hwA
    refine hK.out _ _ ?_ (fun hHeld => ?_)
    · ((try dsimp only); first | assumption | exact b0 | exact b1 | exact bA | exact b2 | exact (World.cell?_setCell_far _ _ _ _ (by simp; omega)).trans b2 | (simp [*]; done))
    clear hK K
    try simp only [Act.put, List.setIfInBounds_toArray, List.set_cons_zero, List.set_cons_succ]
    refine wpAnyH_ready (rs := [4]) (by kernel_rfl) (by simp) ?_
    refine AllReadyH.cons rfl (fun K hK => ?_) (AllReadyH.nil)
    go_simp
    refine hK.out _ _ ?_ (fun hHeld => ?_)
    · ((try dsimp only); first | assumption | exact b0 | exact b1 | exact bA | exact b2 | exact (World.cell?_setCell_far _ _ _ _ (by simp; omega)).trans b2 | (simp [*]; done))
    clear hK K
    try simp only [Act.put, List.setIfInBounds_toArray, List.set_cons_zero, List.set_cons_succ]
    refine wpAnyH_ready (rs := [5]) (by kernel_rfl) (by simp) ?_
    refine AllReadyH.cons rfl (fun K hK => ?_) (AllReadyH.nil)
    rw [← HwA.out]
    refine step_append_lies _ rfl (.tmp 12) (.tmp 15) 46 rfl (bf + 1) 66 i0 (.agg #[.string ⟨#[]⟩, .int .i64 0]) 2 24 Tryz.underlying46 Hi.out Hz0.out Hz1.out Hz2.out rfl (by decide) (.slice V n C) n (l.flatMap paC) (by simp [Act.eval, Act.put]) (by rw [Hn.out]; exact HOW.out) ⟨w1.heap.size, 0, none⟩ 1 1 [.string nmp, .int .i64 typ] (by simp [Act.eval, Act.put]) rfl HNW.out HOC.out (by decide) (by unfold maxLen; omega) (by omega) hsz _ rfl ?_
    intro gp cp2 w2 hown2 hgrow hat hlt
    have hgpf : bf + 1 ≤ gp := (hown2.lt gp rfl).1
    have hfar : ∀ k, k < bf + 1 → w2.heap[k]? = wA.heap[k]? := fun k hk => hgrow.block k (by omega) (fun e => by have := (HOW.out.lt k (by rw [← Hn.out]; exact e.symm)).1; omega)
    have b2 : w2.cell? ⟨bp, 0, none⟩ = some (.pointer (some ⟨g, 0, none⟩)) := by rw [World.cell?_of_block (a := ⟨bp, 0, none⟩) (hfar bp (by omega)), HwA.out]; exact bA
    have l2 : w2.cell? ⟨bf, 2, none⟩ = some (.slice V n C) := by rw [World.cell?_of_block (a := ⟨bf, 2, none⟩) (hfar bf (by omega)), HwA.out]; exact lA
    have hbf2 : w2.heap[bf]? = some (.cells #[.string nm, .int .i64 at_, .slice V n C, .int .i64 0, .slice none 0 0, .int .i64 0] 49 (0, 0)) := by rw [hfar bf (by omega), Hbd.out.block bf (by omega) (by omega)]; exact Hbf.out
    have lf2 : w2.frozen? ⟨bf, 2, none⟩ = false := Lib.frozen_of_heap hbf2 2
    have hbp2 : w2.heap[bp]? = some (.cells #[.pointer (some ⟨g, 0, none⟩)] 59 (0, 0)) := by rw [hfar bp (by omega), Hbd.out.block bp (by omega) (by omega)]; exact Hbp.out
    have hbut2 : But g W0 w2 := ⟨hgrow.os.trans (Hbut.out.trans Hbd.out).os, hgrow.tape.trans (Hbut.out.trans Hbd.out).tape, hgrow.output.trans (Hbut.out.trans Hbd.out).output, Nat.le_trans (Hbut.out.trans Hbd.out).size hgrow.size, fun k hk hg => (hfar k (by omega)).trans ((Hbut.out.trans Hbd.out).block k hk hg)⟩
    have hp2 : PAt w2 g s1 := Hp1.out.up ⟨hgrow.os, hgrow.tape, hgrow.output, hgrow.size, fun k hk => hfar k (by omega)⟩
    have Hbf2 := Lib.hid hbf2
    have Hbp2 := Lib.hid hbp2
    have Hbut2 := Lib.hid hbut2
    have Hres2 : Hid (w2.heap[bp + 1]? = some (.cells #[.string ⟨#[]⟩, .int .i64 0, .slice none 0 0, .int .i64 0, .slice none 0 0, .int .i64 0] 49 (0, 0))) := Lib.hid (by rw [hfar (bp + 1) (by omega), Hbd.out.block (bp + 1) (by omega) (by omega)]; exact Hres.out)
    have Hp2 := Lib.hid hp2
    have Hown2 := Lib.hid hown2
    clear hown2 hgrow hat hlt hfar hbf2 hbp2 hbut2 hp2
    refine hK.out _ _ ?_ (fun hHeld => ?_)
    · ((try dsimp only); first | assumption | exact b0 | exact b1 | exact bA | exact b2 | exact (World.cell?_setCell_far _ _ _ _ (by simp; omega)).trans b2 | (simp [*]; done))
    clear hK K
    try simp only [Act.put, List.setIfInBounds_toArray, List.set_cons_zero, List.set_cons_succ]
    refine wpAnyH_take (i := 6) (v := ?_) rfl (by kernel_rfl) (by kernel_rfl) (by kernel_rfl) (fun _ _ _ h => h) (Or.inl ⟨by rfl, ?_⟩) (by assumption) ?_
    rotate_left
    · (intro w hSw; (try dsimp only at hSw); first | (go_simp; done) | (go_simp; with_reducible rfl))
    try simp only [Act.put, List.setIfInBounds_toArray, List.set_cons_zero, List.set_cons_succ]
    refine wpAnyH_ready (rs := [7]) (by kernel_rfl) (by simp) ?_
    refine AllReadyH.cons rfl (fun K hK => ?_) (AllReadyH.nil)
    go_simp
    refine hK.out _ _ ?_ (fun hHeld => ?_)
    · ((try dsimp only); first | assumption | exact b0 | exact b1 | exact bA | exact b2 | exact (World.cell?_setCell_far _ _ _ _ (by simp; omega)).trans b2 | (simp [*]; done))
    clear hK K
    try simp only [Act.put, List.setIfInBounds_toArray, List.set_cons_zero, List.set_cons_succ]
    refine wpAnyH_done (by kernel_rfl) ?_ _
    go_wp2
    go_end0
    refine ⟨rfl, Hp2.out.up ((Below.refl _ _).setCell (by simp; omega) _), .slice (some ⟨gp, 0, none⟩) (n + 1) cp2, (Below.heap_setCell _ _ _ _ (by simp; omega)).trans Hbp2.out, ?_, ?_, Hbut2.out.up ((Below.refl _ _).setCell (by simp; omega) _), (Below.heap_setCell _ _ _ _ (by simp; omega)).trans Hres2.out⟩
    · have := heap_set Hbf2.out 2 (.slice (some ⟨gp, 0, none⟩) (n + 1) cp2)
      simp only [List.setIfInBounds_toArray, List.set_cons_zero, List.set_cons_succ] at this
      exact this
    · have := ownsRow_setCell_below Hown2.out (a := ⟨bf, 2, none⟩) (by simp) (.slice (some ⟨gp, 0, none⟩) (n + 1) cp2)
      rw [Hn.out] at this ⊢
      rw [List.length_append, List.length_singleton, List.flatMap_append]
      exact this
  · go_simp
    refine (hX _ HD.out).mono ?_
    rintro e w1 ⟨rfl, hp1, hb1⟩
    have hbd : But g wr w1 := ((But.refl g wr).drew).trans hb1
    have z1 : bf < w1.heap.size := by have := hbd.size; omega
    have b1 := (hbd.cell (p := ⟨bp, 0, none⟩) (by simp; omega) (by simp; omega)).trans b0'
    have l1 := (hbd.cell (p := ⟨bf, 2, none⟩) (by simp; omega) (by simp; omega)).trans l0
    obtain ⟨wA, hwA, hbwA, hzA, hbA⟩ := one_al w1 #[.string nmp, .int .i64 typ] 66
    have HOW := Lib.hid (own_but (own_but Hown.out hbd (by omega)) (But.of_below (g := g) hbwA) (by omega))
    have HNW := Lib.hid (World.news_of_block hbA)
    have HOC := Lib.hid (two_one nmp typ)
    have hsz : bf + 1 ≤ wA.heap.size := by omega
    have bA := (hbwA.cell (p := ⟨bp, 0, none⟩) (by simp; omega)).trans b1
    have lA := (hbwA.cell (p := ⟨bf, 2, none⟩) (by simp; omega)).trans l1
    rw [hwA] at bA lA
    have Hp1 := Lib.hid (hp1.keep hbwA)
    have Hbd := Lib.hid (hbd.trans (But.of_below hbwA))
    have HwA := Lib.hid hwA
    clear hp1 hb1 hbd hbwA hbA hwA
    refine hK.out _ _ ?_ (fun hHeld => ?_)
    · ((try dsimp only); first | assumption | exact b0 | exact b1 | exact bA | exact b2 | exact (World.cell?_setCell_far _ _ _ _ (by simp; omega)).trans b2 | (simp [*]; done))
    clear hK K
    try simp only [Act.put, List.setIfInBounds_toArray, List.set_cons_zero, List.set_cons_succ]
    refine wpAnyH_ready (rs := [1, 4]) (by kernel_rfl) (by simp) ?_
    refine AllReadyH.cons rfl (fun K hK => ?_) (AllReadyH.cons rfl (fun K hK => ?_) (AllReadyH.nil))
    · go_simp
      refine hK.out _ _ ?_ (fun hHeld => ?_)
      · ((try dsimp only); first | assumption | exact b0 | exact b1 | exact bA | exact b2 | exact (World.cell?_setCell_far _ _ _ _ (by simp; omega)).trans b2 | (simp [*]; done))
      clear hK K
      try simp only [Act.put, List.setIfInBounds_toArray, List.set_cons_zero, List.set_cons_succ]
      refine wpAnyH_ready (rs := [4]) (by kernel_rfl) (by simp) ?_
      refine AllReadyH.cons rfl (fun K hK => ?_) (AllReadyH.nil)
      go_simp
      refine hK.out _ _ ?_ (fun hHeld => ?_)
      · ((try dsimp only); first | assumption | exact b0 | exact b1 | exact bA | exact b2 | exact (World.cell?_setCell_far _ _ _ _ (by simp; omega)).trans b2 | (simp [*]; done))
      clear hK K
      try simp only [Act.put, List.setIfInBounds_toArray, List.set_cons_zero, List.set_cons_succ]
      refine wpAnyH_ready (rs := [5]) (by kernel_rfl) (by simp) ?_
      refine AllReadyH.cons rfl (fun K hK => ?_) (AllReadyH.nil)
      rw [← HwA.out]
      refine step_append_lies _ rfl (.tmp 12) (.tmp 15) 46 rfl (bf + 1) 66 i0 (.agg #[.string ⟨#[]⟩, .int .i64 0]) 2 24 Tryz.underlying46 Hi.out Hz0.out Hz1.out Hz2.out rfl (by decide) (.slice V n C) n (l.flatMap paC) (by simp [Act.eval, Act.put]) (by rw [Hn.out]; exact HOW.out) ⟨w1.heap.size, 0, none⟩ 1 1 [.string nmp, .int .i64 typ] (by simp [Act.eval, Act.put]) rfl HNW.out HOC.out (by decide) (by unfold maxLen; omega) (by omega) hsz _ rfl ?_
      intro gp cp2 w2 hown2 hgrow hat hlt
      have hgpf : bf + 1 ≤ gp := (hown2.lt gp rfl).1
      have hfar : ∀ k, k < bf + 1 → w2.heap[k]? = wA.heap[k]? := fun k hk => hgrow.block k (by omega) (fun e => by have := (HOW.out.lt k (by rw [← Hn.out]; exact e.symm)).1; omega)
      have b2 : w2.cell? ⟨bp, 0, none⟩ = some (.pointer (some ⟨g, 0, none⟩)) := by rw [World.cell?_of_block (a := ⟨bp, 0, none⟩) (hfar bp (by omega)), HwA.out]; exact bA
      have l2 : w2.cell? ⟨bf, 2, none⟩ = some (.slice V n C) := by rw [World.cell?_of_block (a := ⟨bf, 2, none⟩) (hfar bf (by omega)), HwA.out]; exact lA
      have hbf2 : w2.heap[bf]? = some (.cells #[.string nm, .int .i64 at_, .slice V n C, .int .i64 0, .slice none 0 0, .int .i64 0] 49 (0, 0)) := by rw [hfar bf (by omega), Hbd.out.block bf (by omega) (by omega)]; exact Hbf.out
      have lf2 : w2.frozen? ⟨bf, 2, none⟩ = false := Lib.frozen_of_heap hbf2 2
      have hbp2 : w2.heap[bp]? = some (.cells #[.pointer (some ⟨g, 0, none⟩)] 59 (0, 0)) := by rw [hfar bp (by omega), Hbd.out.block bp (by omega) (by omega)]; exact Hbp.out
      have hbut2 : But g W0 w2 := ⟨hgrow.os.trans (Hbut.out.trans Hbd.out).os, hgrow.tape.trans (Hbut.out.trans Hbd.out).tape, hgrow.output.trans (Hbut.out.trans Hbd.out).output, Nat.le_trans (Hbut.out.trans Hbd.out).size hgrow.size, fun k hk hg => (hfar k (by omega)).trans ((Hbut.out.trans Hbd.out).block k hk hg)⟩
      have hp2 : PAt w2 g s1 := Hp1.out.up ⟨hgrow.os, hgrow.tape, hgrow.output, hgrow.size, fun k hk => hfar k (by omega)⟩
      have Hbf2 := Lib.hid hbf2
      have Hbp2 := Lib.hid hbp2
      have Hbut2 := Lib.hid hbut2
      have Hres2 : Hid (w2.heap[bp + 1]? = some (.cells #[.string ⟨#[]⟩, .int .i64 0, .slice none 0 0, .int .i64 0, .slice none 0 0, .int .i64 0] 49 (0, 0))) := Lib.hid (by rw [hfar (bp + 1) (by omega), Hbd.out.block (bp + 1) (by omega) (by omega)]; exact Hres.out)
      have Hp2 := Lib.hid hp2
      have Hown2 := Lib.hid hown2
      clear hown2 hgrow hat hlt hfar hbf2 hbp2 hbut2 hp2
      refine hK.out _ _ ?_ (fun hHeld => ?_)
      · ((try dsimp only); first | assumption | exact b0 | exact b1 | exact bA | exact b2 | exact (World.cell?_setCell_far _ _ _ _ (by simp; omega)).trans b2 | (simp [*]; done))
      clear hK K
      try simp only [Act.put, List.setIfInBounds_toArray, List.set_cons_zero, List.set_cons_succ]
      refine wpAnyH_take (i := 6) (v := ?_) rfl (by kernel_rfl) (by kernel_rfl) (by kernel_rfl) (fun _ _ _ h => h) (Or.inl ⟨by rfl, ?_⟩) (by assumption) ?_
      rotate_left
      · (intro w hSw; (try dsimp only at hSw); first | (go_simp; done) | (go_simp; with_reducible rfl))
      try simp only [Act.put, List.setIfInBounds_toArray, List.set_cons_zero, List.set_cons_succ]
      refine wpAnyH_ready (rs := [7]) (by kernel_rfl) (by simp) ?_
      refine AllReadyH.cons rfl (fun K hK => ?_) (AllReadyH.nil)
      go_simp
      refine hK.out _ _ ?_ (fun hHeld => ?_)
      · ((try dsimp only); first | assumption | exact b0 | exact b1 | exact bA | exact b2 | exact (World.cell?_setCell_far _ _ _ _ (by simp; omega)).trans b2 | (simp [*]; done))
      clear hK K
      try simp only [Act.put, List.setIfInBounds_toArray, List.set_cons_zero, List.set_cons_succ]
      refine wpAnyH_done (by kernel_rfl) ?_ _
      go_wp2
      go_end0
      refine ⟨rfl, Hp2.out.up ((Below.refl _ _).setCell (by simp; omega) _), .slice (some ⟨gp, 0, none⟩) (n + 1) cp2, (Below.heap_setCell _ _ _ _ (by simp; omega)).trans Hbp2.out, ?_, ?_, Hbut2.out.up ((Below.refl _ _).setCell (by simp; omega) _), (Below.heap_setCell _ _ _ _ (by simp; omega)).trans Hres2.out⟩
      · have := heap_set Hbf2.out 2 (.slice (some ⟨gp, 0, none⟩) (n + 1) cp2)
        simp only [List.setIfInBounds_toArray, List.set_cons_zero, List.set_cons_succ] at this
        exact this
      · have := ownsRow_setCell_below Hown2.out (a := ⟨bf, 2, none⟩) (by simp) (.slice (some ⟨gp, 0, none⟩) (n + 1) cp2)
        rw [Hn.out] at this ⊢
        rw [List.length_append, List.length_singleton, List.flatMap_append]
        exact this
    · go_simp
      refine hK.out _ _ ?_ (fun hHeld => ?_)
      · ((try dsimp only); first | assumption | exact b0 | exact b1 | exact bA | exact b2 | exact (World.cell?_setCell_far _ _ _ _ (by simp; omega)).trans b2 | (simp [*]; done))
      clear hK K
      try simp only [Act.put, List.setIfInBounds_toArray, List.set_cons_zero, List.set_cons_succ]
      refine wpAnyH_ready (rs := [1]) (by kernel_rfl) (by simp) ?_
      refine AllReadyH.cons rfl (fun K hK => ?_) (AllReadyH.nil)
      go_simp
      refine hK.out _ _ ?_ (fun hHeld => ?_)
      · ((try dsimp only); first | assumption | exact b0 | exact b1 | exact bA | exact b2 | exact (World.cell?_setCell_far _ _ _ _ (by simp; omega)).trans b2 | (simp [*]; done))
      clear hK K
      try simp only [Act.put, List.setIfInBounds_toArray, List.set_cons_zero, List.set_cons_succ]
      refine wpAnyH_ready (rs := [5]) (by kernel_rfl) (by simp) ?_
      refine AllReadyH.cons rfl (fun K hK => ?_) (AllReadyH.nil)
      rw [← HwA.out]
      refine step_append_lies _ rfl (.tmp 12) (.tmp 15) 46 rfl (bf + 1) 66 i0 (.agg #[.string ⟨#[]⟩, .int .i64 0]) 2 24 Tryz.underlying46 Hi.out Hz0.out Hz1.out Hz2.out rfl (by decide) (.slice V n C) n (l.flatMap paC) (by simp [Act.eval, Act.put]) (by rw [Hn.out]; exact HOW.out) ⟨w1.heap.size, 0, none⟩ 1 1 [.string nmp, .int .i64 typ] (by simp [Act.eval, Act.put]) rfl HNW.out HOC.out (by decide) (by unfold maxLen; omega) (by omega) hsz _ rfl ?_
      intro gp cp2 w2 hown2 hgrow hat hlt
      have hgpf : bf + 1 ≤ gp := (hown2.lt gp rfl).1
      have hfar : ∀ k, k < bf + 1 → w2.heap[k]? = wA.heap[k]? := fun k hk => hgrow.block k (by omega) (fun e => by have := (HOW.out.lt k (by rw [← Hn.out]; exact e.symm)).1; omega)
      have b2 : w2.cell? ⟨bp, 0, none⟩ = some (.pointer (some ⟨g, 0, none⟩)) := by rw [World.cell?_of_block (a := ⟨bp, 0, none⟩) (hfar bp (by omega)), HwA.out]; exact bA
      have l2 : w2.cell? ⟨bf, 2, none⟩ = some (.slice V n C) := by rw [World.cell?_of_block (a := ⟨bf, 2, none⟩) (hfar bf (by omega)), HwA.out]; exact lA
      have hbf2 : w2.heap[bf]? = some (.cells #[.string nm, .int .i64 at_, .slice V n C, .int .i64 0, .slice none 0 0, .int .i64 0] 49 (0, 0)) := by rw [hfar bf (by omega), Hbd.out.block bf (by omega) (by omega)]; exact Hbf.out
      have lf2 : w2.frozen? ⟨bf, 2, none⟩ = false := Lib.frozen_of_heap hbf2 2
      have hbp2 : w2.heap[bp]? = some (.cells #[.pointer (some ⟨g, 0, none⟩)] 59 (0, 0)) := by rw [hfar bp (by omega), Hbd.out.block bp (by omega) (by omega)]; exact Hbp.out
      have hbut2 : But g W0 w2 := ⟨hgrow.os.trans (Hbut.out.trans Hbd.out).os, hgrow.tape.trans (Hbut.out.trans Hbd.out).tape, hgrow.output.trans (Hbut.out.trans Hbd.out).output, Nat.le_trans (Hbut.out.trans Hbd.out).size hgrow.size, fun k hk hg => (hfar k (by omega)).trans ((Hbut.out.trans Hbd.out).block k hk hg)⟩
      have hp2 : PAt w2 g s1 := Hp1.out.up ⟨hgrow.os, hgrow.tape, hgrow.output, hgrow.size, fun k hk => hfar k (by omega)⟩
      have Hbf2 := Lib.hid hbf2
      have Hbp2 := Lib.hid hbp2
      have Hbut2 := Lib.hid hbut2
      have Hres2 : Hid (w2.heap[bp + 1]? = some (.cells #[.string ⟨#[]⟩, .int .i64 0, .slice none 0 0, .int .i64 0, .slice none 0 0, .int .i64 0] 49 (0, 0))) := Lib.hid (by rw [hfar (bp + 1) (by omega), Hbd.out.block (bp + 1) (by omega) (by omega)]; exact Hres.out)
      have Hp2 := Lib.hid hp2
      have Hown2 := Lib.hid hown2
      clear hown2 hgrow hat hlt hfar hbf2 hbp2 hbut2 hp2
      refine hK.out _ _ ?_ (fun hHeld => ?_)
      · ((try dsimp only); first | assumption | exact b0 | exact b1 | exact bA | exact b2 | exact (World.cell?_setCell_far _ _ _ _ (by simp; omega)).trans b2 | (simp [*]; done))
      clear hK K
      try simp only [Act.put, List.setIfInBounds_toArray, List.set_cons_zero, List.set_cons_succ]
      refine wpAnyH_take (i := 6) (v := ?_) rfl (by kernel_rfl) (by kernel_rfl) (by kernel_rfl) (fun _ _ _ h => h) (Or.inl ⟨by rfl, ?_⟩) (by assumption) ?_
      rotate_left
      · (intro w hSw; (try dsimp only at hSw); first | (go_simp; done) | (go_simp; with_reducible rfl))
      try simp only [Act.put, List.setIfInBounds_toArray, List.set_cons_zero, List.set_cons_succ]
      refine wpAnyH_ready (rs := [7]) (by kernel_rfl) (by simp) ?_
      refine AllReadyH.cons rfl (fun K hK => ?_) (AllReadyH.nil)
      go_simp
      refine hK.out _ _ ?_ (fun hHeld => ?_)
      · ((try dsimp only); first | assumption | exact b0 | exact b1 | exact bA | exact b2 | exact (World.cell?_setCell_far _ _ _ _ (by simp; omega)).trans b2 | (simp [*]; done))
      clear hK K
      try simp only [Act.put, List.setIfInBounds_toArray, List.set_cons_zero, List.set_cons_succ]
      refine wpAnyH_done (by kernel_rfl) ?_ _
      go_wp2
      go_end0
      refine ⟨rfl, Hp2.out.up ((Below.refl _ _).setCell (by simp; omega) _), .slice (some ⟨gp, 0, none⟩) (n + 1) cp2, (Below.heap_setCell _ _ _ _ (by simp; omega)).trans Hbp2.out, ?_, ?_, Hbut2.out.up ((Below.refl _ _).setCell (by simp; omega) _), (Below.heap_setCell _ _ _ _ (by simp; omega)).trans Hres2.out⟩
      · have := heap_set Hbf2.out 2 (.slice (some ⟨gp, 0, none⟩) (n + 1) cp2)
        simp only [List.setIfInBounds_toArray, List.set_cons_zero, List.set_cons_succ] at this
        exact this
      · have := ownsRow_setCell_below Hown2.out (a := ⟨bf, 2, none⟩) (by simp) (.slice (some ⟨gp, 0, none⟩) (n + 1) cp2)
        rw [Hn.out] at this ⊢
        rw [List.length_append, List.length_singleton, List.flatMap_append]
        exact this
set_option maxRecDepth 100000 in
set_option maxHeartbeats 8000000 in
theorem fnF_full (g bf bp : Nat) (W0 : World) (nm : ByteArray) (at_ : Int) (hg : g < bp) (hpf : bp + 1 < bf) (hW : W0.heap.size ≤ bp) (l : List Pa) (s sx s1 : PS) (nmp : ByteArray) (typ : Int) (w : World) (hfull : (l.length == 16) = true) (hsx : sx = s.fail 4 s.now.at_) (hpa : paramP sx = (⟨nmp, typ⟩, s1)) (hl : l.length ≤ 33554432) (h : PAt w g s) (hj : JF g bf bp W0 nm at_ l w) :
    Calls Tryz.prog 41 #[.pointer (some ⟨bf, 0, none⟩), .pointer (some ⟨bp, 0, none⟩)] w fun e w' => e = .returned (.tuple #[]) ∧ PAt w' g s1 ∧ JF g bf bp W0 nm at_ (l ++ [⟨nmp, typ⟩]) w' := by
  have hX := fun w' (hp : PAt w' g sx) => param_any g sx w' hp
  rw [hpa] at hX
  simp only at hX
  obtain ⟨i0, hi, hz0, hz1, hz2⟩ := info_parts infoParam
  have Hi := Lib.hid hi
  have Hz0 := Lib.hid hz0
  have Hz1 := Lib.hid hz1
  have Hz2 := Lib.hid hz2
  obtain ⟨v0, hbp, hbf, hown, hbut, hres⟩ := hj
  have Hres := Lib.hid hres
  obtain ⟨V, C, rfl⟩ := own_form hown
  have b0 : w.cell? ⟨bp, 0, none⟩ = some (.pointer (some ⟨g, 0, none⟩)) := Lib.cell_of_heap hbp 0
  have l0 : w.cell? ⟨bf, 2, none⟩ = some (.slice V l.length C) := Lib.cell_of_heap hbf 2
  have hbfz := heap_lt hbf
  obtain ⟨n, hn⟩ : ∃ n, n = l.length := ⟨_, rfl⟩
  have Hn := Lib.hid hn
  rw [← hn] at hl l0 hfull hbf
  have H := Lib.hid h
  have Hbp := Lib.hid hbp
  have Hbf := Lib.hid hbf
  have Hown := Lib.hid hown
  have Hbut := Lib.hid hbut
  have hfi : ((n : Int) == 16) = true := by have := eq_of_beq hfull; simp [this]
  have hN := fun w' (hp : PAt w' g s) => now_any g s w' hp
  have hF := fun w' (hp : PAt w' g s) => fail_any g s 4 s.now.at_ w' hp
  rw [← hsx] at hF
  obtain ⟨t, ht⟩ : ∃ t, t = s.now := ⟨_, rfl⟩
  rw [← ht] at hN hF
  obtain ⟨tk, ta, tn, tb⟩ := t
  unfold tkV at hN
  simp only at hN hF
  have f1 := tok_f1 tk ta tn ⟨tb.toArray⟩
  have hN0 := hN w.drew (h.up (Below.refl (g + 1) w).drew)
  clear hres hN ht hsx hpa hn hi hz0 hz1 hz2 hbp hbf hown hbut h hfull
  go_enter Tryz.func41, Tryz.ntmps41
  go_upto_region 1 with fail
  have d0 : w.drew.cell? ⟨bp, 0, none⟩ = some (.pointer (some ⟨g, 0, none⟩)) := b0
  go_region_held3 (fun w' => w'.cell? ⟨bp, 0, none⟩ = some (.pointer (some ⟨g, 0, none⟩))) (first | with_reducible exact d0 | with_reducible exact d1 | with_reducible exact d2) (first
    | (go_at_call 18; (with_reducible refine hN0.mono ?_); rintro e w1 ⟨rfl, hb⟩; have hb1 : Below w.heap.size w w1 := (Below.refl _ _).drew.trans hb; have hF1 := hF w1 (H.out.keep hb1); have d1 := (hb1.cell (p := ⟨bp, 0, none⟩) (by simp; omega)).trans b0; have Hb1 := Lib.hid hb1; clear hb hb1 hN0 hF)
    | (go_at_call 19; (with_reducible refine hF1.mono ?_); rintro e wr ⟨rfl, hp, hb⟩; have hbr : But g w wr := (But.of_below Hb1.out).trans hb; have d2 := (hbr.cell (p := ⟨bp, 0, none⟩) (by simp; omega) (by simp; omega)).trans b0; have Hpr := Lib.hid hp; have Hbr := Lib.hid hbr; clear hp hb hbr hF1))
  all_goals
    go_upto_region 2 with fail
    clear d0 d1 d2
    replace l0 := (Hbr.out.cell (p := ⟨bf, 2, none⟩) (by simp; omega) (by simp; omega)).trans l0
    have b0' := (Hbr.out.cell (p := ⟨bp, 0, none⟩) (by simp; omega) (by simp; omega)).trans b0
    clear b0
    have hbpr := (Hbr.out.block bp (by omega) (by omega)).trans Hbp.out
    have hbfr := (Hbr.out.block bf (by omega) (by omega)).trans Hbf.out
    have hownr := own_but Hown.out Hbr.out (by omega)
    have hbutr := Hbut.out.trans Hbr.out
    have hresr := (Hbr.out.block (bp + 1) (by omega) (by omega)).trans Hres.out
    clear Hbp Hbf Hown Hbut Hres
    have Hbp := Lib.hid hbpr
    have Hbf := Lib.hid hbfr
    have Hown := Lib.hid hownr
    have Hbut := Lib.hid hbutr
    have Hres := Lib.hid hresr
    replace hbfz := heap_lt hbfr
    clear hbpr hbfr hownr hbutr hresr
    have b0 : wr.drew.cell? ⟨bp, 0, none⟩ = some (.pointer (some ⟨g, 0, none⟩)) := b0'
    obtain ⟨D, hD⟩ : ∃ D, D = wr.drew := ⟨_, rfl⟩
    have hpD : PAt D g sx := by rw [hD]; exact Hpr.out.up (Below.refl (g + 1) wr).drew
    have hbD : But g wr D := by rw [hD]; exact (But.refl g wr).drew
    have l0' : D.cell? ⟨bf, 2, none⟩ = some (.slice V n C) := by rw [hD]; exact l0
    have HD := Lib.hid hpD
    have HbD := Lib.hid hbD
    rw [hD] at HD
    clear hpD hbD hD
    refine wp_region_held_drew (S := (fun w' => w'.cell? ⟨bp, 0, none⟩ = some (.pointer (some ⟨g, 0, none⟩)))) (by kernel_rfl) b0 (fun hHeld => ?_)
    refine wpAnyH_take (i := 0) (v := ?_) rfl (by kernel_rfl) (by kernel_rfl) (by kernel_rfl) (fun _ _ _ h => h) (Or.inl ⟨by rfl, ?_⟩) (by assumption) ?_
    rotate_left
    · (intro w hSw; (try dsimp only at hSw); first | (go_simp; done) | (go_simp; with_reducible rfl))
    try simp only [Act.put, List.setIfInBounds_toArray, List.set_cons_zero, List.set_cons_succ]
    refine wpAnyH_take (i := 2) (v := ?_) rfl (by kernel_rfl) (by kernel_rfl) (by kernel_rfl) (fun _ _ _ h => h) (Or.inl ⟨by rfl, ?_⟩) (by assumption) ?_
    rotate_left
    · (intro w hSw; (try dsimp only at hSw); first | (go_simp; done) | (go_simp; with_reducible rfl))
    try simp only [Act.put, List.setIfInBounds_toArray, List.set_cons_zero, List.set_cons_succ]
    refine wpAnyH_ready (rs := [1, 3]) (by kernel_rfl) (by simp) ?_
    refine AllReadyH.cons rfl (fun K hK => ?_) (AllReadyH.cons rfl (fun K hK => ?_) (AllReadyH.nil))
    · go_simp
      refine hK.out _ _ ?_ (fun hHeld => ?_)
      · ((try dsimp only); first | assumption | exact b0 | exact b1 | exact bA | exact b2 | exact (World.cell?_setCell_far _ _ _ _ (by simp; omega)).trans b2 | (simp [*]; done))
      clear hK K
      try simp only [Act.put, List.setIfInBounds_toArray, List.set_cons_zero, List.set_cons_succ]
      refine wpAnyH_ready (rs := [3]) (by kernel_rfl) (by simp) ?_
      refine AllReadyH.cons rfl (fun K hK => ?_) (AllReadyH.nil)
      go_simp
      refine (hX _ HD.out).mono ?_
      rintro e w1 ⟨rfl, hp1, hb1⟩
      have hbd : But g wr w1 := ((But.refl g wr).drew).trans hb1
      have z1 : bf < w1.heap.size := by have := hbd.size; omega
      have b1 := (hbd.cell (p := ⟨bp, 0, none⟩) (by simp; omega) (by simp; omega)).trans b0'
      have l1 := (hbd.cell (p := ⟨bf, 2, none⟩) (by simp; omega) (by simp; omega)).trans l0
      obtain ⟨wA, hwA, hbwA, hzA, hbA⟩ := one_al w1 #[.string nmp, .int .i64 typ] 66
      have HOW := Lib.hid (own_but (own_but Hown.out hbd (by omega)) (But.of_below (g := g) hbwA) (by omega))
      have HNW := Lib.hid (World.news_of_block hbA)
      have HOC := Lib.hid (two_one nmp typ)
      have hsz : bf + 1 ≤ wA.heap.size := by omega
      have bA := (hbwA.cell (p := ⟨bp, 0, none⟩) (by simp; omega)).trans b1
      have lA := (hbwA.cell (p := ⟨bf, 2, none⟩) (by simp; omega)).trans l1
      rw [hwA] at bA lA
      have Hp1 := Lib.hid (hp1.keep hbwA)
      have Hbd := Lib.hid (hbd.trans (But.of_below hbwA))
      have HwA := Lib.hid hwA
      clear hp1 hb1 hbd hbwA hbA hwA
      refine hK.out _ _ ?_ (fun hHeld => ?_)
      · ((try dsimp only); first | assumption | exact b0 | exact b1 | exact bA | exact b2 | exact (World.cell?_setCell_far _ _ _ _ (by simp; omega)).trans b2 | (simp [*]; done))
      clear hK K
      try simp only [Act.put, List.setIfInBounds_toArray, List.set_cons_zero, List.set_cons_succ]
      refine wpAnyH_ready (rs := [4]) (by kernel_rfl) (by simp) ?_
      refine AllReadyH.cons rfl (fun K hK => ?_) (AllReadyH.nil)
      go_simp
      refine hK.out _ _ ?_ (fun hHeld => ?_)
      · ((try dsimp only); first | assumption | exact b0 | exact b1 | exact bA | exact b2 | exact (World.cell?_setCell_far _ _ _ _ (by simp; omega)).trans b2 | (simp [*]; done))
      clear hK K
      try simp only [Act.put, List.setIfInBounds_toArray, List.set_cons_zero, List.set_cons_succ]
      refine wpAnyH_ready (rs := [5]) (by kernel_rfl) (by simp) ?_
      refine AllReadyH.cons rfl (fun K hK => ?_) (AllReadyH.nil)
      rw [← HwA.out]
      refine step_append_lies _ rfl (.tmp 12) (.tmp 15) 46 rfl (bf + 1) 66 i0 (.agg #[.string ⟨#[]⟩, .int .i64 0]) 2 24 Tryz.underlying46 Hi.out Hz0.out Hz1.out Hz2.out rfl (by decide) (.slice V n C) n (l.flatMap paC) (by simp [Act.eval, Act.put]) (by rw [Hn.out]; exact HOW.out) ⟨w1.heap.size, 0, none⟩ 1 1 [.string nmp, .int .i64 typ] (by simp [Act.eval, Act.put]) rfl HNW.out HOC.out (by decide) (by unfold maxLen; omega) (by omega) hsz _ rfl ?_
      intro gp cp2 w2 hown2 hgrow hat hlt
      have hgpf : bf + 1 ≤ gp := (hown2.lt gp rfl).1
      have hfar : ∀ k, k < bf + 1 → w2.heap[k]? = wA.heap[k]? := fun k hk => hgrow.block k (by omega) (fun e => by have := (HOW.out.lt k (by rw [← Hn.out]; exact e.symm)).1; omega)
      have b2 : w2.cell? ⟨bp, 0, none⟩ = some (.pointer (some ⟨g, 0, none⟩)) := by rw [World.cell?_of_block (a := ⟨bp, 0, none⟩) (hfar bp (by omega)), HwA.out]; exact bA
      have l2 : w2.cell? ⟨bf, 2, none⟩ = some (.slice V n C) := by rw [World.cell?_of_block (a := ⟨bf, 2, none⟩) (hfar bf (by omega)), HwA.out]; exact lA
      have hbf2 : w2.heap[bf]? = some (.cells #[.string nm, .int .i64 at_, .slice V n C, .int .i64 0, .slice none 0 0, .int .i64 0] 49 (0, 0)) := by rw [hfar bf (by omega), Hbd.out.block bf (by omega) (by omega)]; exact Hbf.out
      have lf2 : w2.frozen? ⟨bf, 2, none⟩ = false := Lib.frozen_of_heap hbf2 2
      have hbp2 : w2.heap[bp]? = some (.cells #[.pointer (some ⟨g, 0, none⟩)] 59 (0, 0)) := by rw [hfar bp (by omega), Hbd.out.block bp (by omega) (by omega)]; exact Hbp.out
      have hbut2 : But g W0 w2 := ⟨hgrow.os.trans (Hbut.out.trans Hbd.out).os, hgrow.tape.trans (Hbut.out.trans Hbd.out).tape, hgrow.output.trans (Hbut.out.trans Hbd.out).output, Nat.le_trans (Hbut.out.trans Hbd.out).size hgrow.size, fun k hk hg => (hfar k (by omega)).trans ((Hbut.out.trans Hbd.out).block k hk hg)⟩
      have hp2 : PAt w2 g s1 := Hp1.out.up ⟨hgrow.os, hgrow.tape, hgrow.output, hgrow.size, fun k hk => hfar k (by omega)⟩
      have Hbf2 := Lib.hid hbf2
      have Hbp2 := Lib.hid hbp2
      have Hbut2 := Lib.hid hbut2
      have Hres2 : Hid (w2.heap[bp + 1]? = some (.cells #[.string ⟨#[]⟩, .int .i64 0, .slice none 0 0, .int .i64 0, .slice none 0 0, .int .i64 0] 49 (0, 0))) := Lib.hid (by rw [hfar (bp + 1) (by omega), Hbd.out.block (bp + 1) (by omega) (by omega)]; exact Hres.out)
      have Hp2 := Lib.hid hp2
      have Hown2 := Lib.hid hown2
      clear hown2 hgrow hat hlt hfar hbf2 hbp2 hbut2 hp2
      refine hK.out _ _ ?_ (fun hHeld => ?_)
      · ((try dsimp only); first | assumption | exact b0 | exact b1 | exact bA | exact b2 | exact (World.cell?_setCell_far _ _ _ _ (by simp; omega)).trans b2 | (simp [*]; done))
      clear hK K
      try simp only [Act.put, List.setIfInBounds_toArray, List.set_cons_zero, List.set_cons_succ]
      refine wpAnyH_take (i := 6) (v := ?_) rfl (by kernel_rfl) (by kernel_rfl) (by kernel_rfl) (fun _ _ _ h => h) (Or.inl ⟨by rfl, ?_⟩) (by assumption) ?_
      rotate_left
      · (intro w hSw; (try dsimp only at hSw); first | (go_simp; done) | (go_simp; with_reducible rfl))
      try simp only [Act.put, List.setIfInBounds_toArray, List.set_cons_zero, List.set_cons_succ]
      refine wpAnyH_ready (rs := [7]) (by kernel_rfl) (by simp) ?_
      refine AllReadyH.cons rfl (fun K hK => ?_) (AllReadyH.nil)
      go_simp
      refine hK.out _ _ ?_ (fun hHeld => ?_)
      · ((try dsimp only); first | assumption | exact b0 | exact b1 | exact bA | exact b2 | exact (World.cell?_setCell_far _ _ _ _ (by simp; omega)).trans b2 | (simp [*]; done))
      clear hK K
      try simp only [Act.put, List.setIfInBounds_toArray, List.set_cons_zero, List.set_cons_succ]
      refine wpAnyH_done (by kernel_rfl) ?_ _
      go_wp2
      go_end0
      refine ⟨rfl, Hp2.out.up ((Below.refl _ _).setCell (by simp; omega) _), .slice (some ⟨gp, 0, none⟩) (n + 1) cp2, (Below.heap_setCell _ _ _ _ (by simp; omega)).trans Hbp2.out, ?_, ?_, Hbut2.out.up ((Below.refl _ _).setCell (by simp; omega) _), (Below.heap_setCell _ _ _ _ (by simp; omega)).trans Hres2.out⟩
      · have := heap_set Hbf2.out 2 (.slice (some ⟨gp, 0, none⟩) (n + 1) cp2)
        simp only [List.setIfInBounds_toArray, List.set_cons_zero, List.set_cons_succ] at this
        exact this
      · have := ownsRow_setCell_below Hown2.out (a := ⟨bf, 2, none⟩) (by simp) (.slice (some ⟨gp, 0, none⟩) (n + 1) cp2)
        rw [Hn.out] at this ⊢
        rw [List.length_append, List.length_singleton, List.flatMap_append]
        exact this
    · go_simp
      refine (hX _ HD.out).mono ?_
      rintro e w1 ⟨rfl, hp1, hb1⟩
      have hbd : But g wr w1 := ((But.refl g wr).drew).trans hb1
      have z1 : bf < w1.heap.size := by have := hbd.size; omega
      have b1 := (hbd.cell (p := ⟨bp, 0, none⟩) (by simp; omega) (by simp; omega)).trans b0'
      have l1 := (hbd.cell (p := ⟨bf, 2, none⟩) (by simp; omega) (by simp; omega)).trans l0
      obtain ⟨wA, hwA, hbwA, hzA, hbA⟩ := one_al w1 #[.string nmp, .int .i64 typ] 66
      have HOW := Lib.hid (own_but (own_but Hown.out hbd (by omega)) (But.of_below (g := g) hbwA) (by omega))
      have HNW := Lib.hid (World.news_of_block hbA)
      have HOC := Lib.hid (two_one nmp typ)
      have hsz : bf + 1 ≤ wA.heap.size := by omega
      have bA := (hbwA.cell (p := ⟨bp, 0, none⟩) (by simp; omega)).trans b1
      have lA := (hbwA.cell (p := ⟨bf, 2, none⟩) (by simp; omega)).trans l1
      rw [hwA] at bA lA
      have Hp1 := Lib.hid (hp1.keep hbwA)
      have Hbd := Lib.hid (hbd.trans (But.of_below hbwA))
      have HwA := Lib.hid hwA
      clear hp1 hb1 hbd hbwA hbA hwA
      refine hK.out _ _ ?_ (fun hHeld => ?_)
      · ((try dsimp only); first | assumption | exact b0 | exact b1 | exact bA | exact b2 | exact (World.cell?_setCell_far _ _ _ _ (by simp; omega)).trans b2 | (simp [*]; done))
      clear hK K
      try simp only [Act.put, List.setIfInBounds_toArray, List.set_cons_zero, List.set_cons_succ]
      refine wpAnyH_ready (rs := [1, 4]) (by kernel_rfl) (by simp) ?_
      refine AllReadyH.cons rfl (fun K hK => ?_) (AllReadyH.cons rfl (fun K hK => ?_) (AllReadyH.nil))
      · go_simp
        refine hK.out _ _ ?_ (fun hHeld => ?_)
        · ((try dsimp only); first | assumption | exact b0 | exact b1 | exact bA | exact b2 | exact (World.cell?_setCell_far _ _ _ _ (by simp; omega)).trans b2 | (simp [*]; done))
        clear hK K
        try simp only [Act.put, List.setIfInBounds_toArray, List.set_cons_zero, List.set_cons_succ]
        refine wpAnyH_ready (rs := [4]) (by kernel_rfl) (by simp) ?_
        refine AllReadyH.cons rfl (fun K hK => ?_) (AllReadyH.nil)
        go_simp
        refine hK.out _ _ ?_ (fun hHeld => ?_)
        · ((try dsimp only); first | assumption | exact b0 | exact b1 | exact bA | exact b2 | exact (World.cell?_setCell_far _ _ _ _ (by simp; omega)).trans b2 | (simp [*]; done))
        clear hK K
        try simp only [Act.put, List.setIfInBounds_toArray, List.set_cons_zero, List.set_cons_succ]
        refine wpAnyH_ready (rs := [5]) (by kernel_rfl) (by simp) ?_
        refine AllReadyH.cons rfl (fun K hK => ?_) (AllReadyH.nil)
        rw [← HwA.out]
        refine step_append_lies _ rfl (.tmp 12) (.tmp 15) 46 rfl (bf + 1) 66 i0 (.agg #[.string ⟨#[]⟩, .int .i64 0]) 2 24 Tryz.underlying46 Hi.out Hz0.out Hz1.out Hz2.out rfl (by decide) (.slice V n C) n (l.flatMap paC) (by simp [Act.eval, Act.put]) (by rw [Hn.out]; exact HOW.out) ⟨w1.heap.size, 0, none⟩ 1 1 [.string nmp, .int .i64 typ] (by simp [Act.eval, Act.put]) rfl HNW.out HOC.out (by decide) (by unfold maxLen; omega) (by omega) hsz _ rfl ?_
        intro gp cp2 w2 hown2 hgrow hat hlt
        have hgpf : bf + 1 ≤ gp := (hown2.lt gp rfl).1
        have hfar : ∀ k, k < bf + 1 → w2.heap[k]? = wA.heap[k]? := fun k hk => hgrow.block k (by omega) (fun e => by have := (HOW.out.lt k (by rw [← Hn.out]; exact e.symm)).1; omega)
        have b2 : w2.cell? ⟨bp, 0, none⟩ = some (.pointer (some ⟨g, 0, none⟩)) := by rw [World.cell?_of_block (a := ⟨bp, 0, none⟩) (hfar bp (by omega)), HwA.out]; exact bA
        have l2 : w2.cell? ⟨bf, 2, none⟩ = some (.slice V n C) := by rw [World.cell?_of_block (a := ⟨bf, 2, none⟩) (hfar bf (by omega)), HwA.out]; exact lA
        have hbf2 : w2.heap[bf]? = some (.cells #[.string nm, .int .i64 at_, .slice V n C, .int .i64 0, .slice none 0 0, .int .i64 0] 49 (0, 0)) := by rw [hfar bf (by omega), Hbd.out.block bf (by omega) (by omega)]; exact Hbf.out
        have lf2 : w2.frozen? ⟨bf, 2, none⟩ = false := Lib.frozen_of_heap hbf2 2
        have hbp2 : w2.heap[bp]? = some (.cells #[.pointer (some ⟨g, 0, none⟩)] 59 (0, 0)) := by rw [hfar bp (by omega), Hbd.out.block bp (by omega) (by omega)]; exact Hbp.out
        have hbut2 : But g W0 w2 := ⟨hgrow.os.trans (Hbut.out.trans Hbd.out).os, hgrow.tape.trans (Hbut.out.trans Hbd.out).tape, hgrow.output.trans (Hbut.out.trans Hbd.out).output, Nat.le_trans (Hbut.out.trans Hbd.out).size hgrow.size, fun k hk hg => (hfar k (by omega)).trans ((Hbut.out.trans Hbd.out).block k hk hg)⟩
        have hp2 : PAt w2 g s1 := Hp1.out.up ⟨hgrow.os, hgrow.tape, hgrow.output, hgrow.size, fun k hk => hfar k (by omega)⟩
        have Hbf2 := Lib.hid hbf2
        have Hbp2 := Lib.hid hbp2
        have Hbut2 := Lib.hid hbut2
        have Hres2 : Hid (w2.heap[bp + 1]? = some (.cells #[.string ⟨#[]⟩, .int .i64 0, .slice none 0 0, .int .i64 0, .slice none 0 0, .int .i64 0] 49 (0, 0))) := Lib.hid (by rw [hfar (bp + 1) (by omega), Hbd.out.block (bp + 1) (by omega) (by omega)]; exact Hres.out)
        have Hp2 := Lib.hid hp2
        have Hown2 := Lib.hid hown2
        clear hown2 hgrow hat hlt hfar hbf2 hbp2 hbut2 hp2
        refine hK.out _ _ ?_ (fun hHeld => ?_)
        · ((try dsimp only); first | assumption | exact b0 | exact b1 | exact bA | exact b2 | exact (World.cell?_setCell_far _ _ _ _ (by simp; omega)).trans b2 | (simp [*]; done))
        clear hK K
        try simp only [Act.put, List.setIfInBounds_toArray, List.set_cons_zero, List.set_cons_succ]
        refine wpAnyH_take (i := 6) (v := ?_) rfl (by kernel_rfl) (by kernel_rfl) (by kernel_rfl) (fun _ _ _ h => h) (Or.inl ⟨by rfl, ?_⟩) (by assumption) ?_
        rotate_left
        · (intro w hSw; (try dsimp only at hSw); first | (go_simp; done) | (go_simp; with_reducible rfl))
        try simp only [Act.put, List.setIfInBounds_toArray, List.set_cons_zero, List.set_cons_succ]
        refine wpAnyH_ready (rs := [7]) (by kernel_rfl) (by simp) ?_
        refine AllReadyH.cons rfl (fun K hK => ?_) (AllReadyH.nil)
        go_simp
        refine hK.out _ _ ?_ (fun hHeld => ?_)
        · ((try dsimp only); first | assumption | exact b0 | exact b1 | exact bA | exact b2 | exact (World.cell?_setCell_far _ _ _ _ (by simp; omega)).trans b2 | (simp [*]; done))
        clear hK K
        try simp only [Act.put, List.setIfInBounds_toArray, List.set_cons_zero, List.set_cons_succ]
        refine wpAnyH_done (by kernel_rfl) ?_ _
        go_wp2
        go_end0
        refine ⟨rfl, Hp2.out.up ((Below.refl _ _).setCell (by simp; omega) _), .slice (some ⟨gp, 0, none⟩) (n + 1) cp2, (Below.heap_setCell _ _ _ _ (by simp; omega)).trans Hbp2.out, ?_, ?_, Hbut2.out.up ((Below.refl _ _).setCell (by simp; omega) _), (Below.heap_setCell _ _ _ _ (by simp; omega)).trans Hres2.out⟩
        · have := heap_set Hbf2.out 2 (.slice (some ⟨gp, 0, none⟩) (n + 1) cp2)
          simp only [List.setIfInBounds_toArray, List.set_cons_zero, List.set_cons_succ] at this
          exact this
        · have := ownsRow_setCell_below Hown2.out (a := ⟨bf, 2, none⟩) (by simp) (.slice (some ⟨gp, 0, none⟩) (n + 1) cp2)
          rw [Hn.out] at this ⊢
          rw [List.length_append, List.length_singleton, List.flatMap_append]
          exact this
      · go_simp
        refine hK.out _ _ ?_ (fun hHeld => ?_)
        · ((try dsimp only); first | assumption | exact b0 | exact b1 | exact bA | exact b2 | exact (World.cell?_setCell_far _ _ _ _ (by simp; omega)).trans b2 | (simp [*]; done))
        clear hK K
        try simp only [Act.put, List.setIfInBounds_toArray, List.set_cons_zero, List.set_cons_succ]
        refine wpAnyH_ready (rs := [1]) (by kernel_rfl) (by simp) ?_
        refine AllReadyH.cons rfl (fun K hK => ?_) (AllReadyH.nil)
        go_simp
        refine hK.out _ _ ?_ (fun hHeld => ?_)
        · ((try dsimp only); first | assumption | exact b0 | exact b1 | exact bA | exact b2 | exact (World.cell?_setCell_far _ _ _ _ (by simp; omega)).trans b2 | (simp [*]; done))
        clear hK K
        try simp only [Act.put, List.setIfInBounds_toArray, List.set_cons_zero, List.set_cons_succ]
        refine wpAnyH_ready (rs := [5]) (by kernel_rfl) (by simp) ?_
        refine AllReadyH.cons rfl (fun K hK => ?_) (AllReadyH.nil)
        rw [← HwA.out]
        refine step_append_lies _ rfl (.tmp 12) (.tmp 15) 46 rfl (bf + 1) 66 i0 (.agg #[.string ⟨#[]⟩, .int .i64 0]) 2 24 Tryz.underlying46 Hi.out Hz0.out Hz1.out Hz2.out rfl (by decide) (.slice V n C) n (l.flatMap paC) (by simp [Act.eval, Act.put]) (by rw [Hn.out]; exact HOW.out) ⟨w1.heap.size, 0, none⟩ 1 1 [.string nmp, .int .i64 typ] (by simp [Act.eval, Act.put]) rfl HNW.out HOC.out (by decide) (by unfold maxLen; omega) (by omega) hsz _ rfl ?_
        intro gp cp2 w2 hown2 hgrow hat hlt
        have hgpf : bf + 1 ≤ gp := (hown2.lt gp rfl).1
        have hfar : ∀ k, k < bf + 1 → w2.heap[k]? = wA.heap[k]? := fun k hk => hgrow.block k (by omega) (fun e => by have := (HOW.out.lt k (by rw [← Hn.out]; exact e.symm)).1; omega)
        have b2 : w2.cell? ⟨bp, 0, none⟩ = some (.pointer (some ⟨g, 0, none⟩)) := by rw [World.cell?_of_block (a := ⟨bp, 0, none⟩) (hfar bp (by omega)), HwA.out]; exact bA
        have l2 : w2.cell? ⟨bf, 2, none⟩ = some (.slice V n C) := by rw [World.cell?_of_block (a := ⟨bf, 2, none⟩) (hfar bf (by omega)), HwA.out]; exact lA
        have hbf2 : w2.heap[bf]? = some (.cells #[.string nm, .int .i64 at_, .slice V n C, .int .i64 0, .slice none 0 0, .int .i64 0] 49 (0, 0)) := by rw [hfar bf (by omega), Hbd.out.block bf (by omega) (by omega)]; exact Hbf.out
        have lf2 : w2.frozen? ⟨bf, 2, none⟩ = false := Lib.frozen_of_heap hbf2 2
        have hbp2 : w2.heap[bp]? = some (.cells #[.pointer (some ⟨g, 0, none⟩)] 59 (0, 0)) := by rw [hfar bp (by omega), Hbd.out.block bp (by omega) (by omega)]; exact Hbp.out
        have hbut2 : But g W0 w2 := ⟨hgrow.os.trans (Hbut.out.trans Hbd.out).os, hgrow.tape.trans (Hbut.out.trans Hbd.out).tape, hgrow.output.trans (Hbut.out.trans Hbd.out).output, Nat.le_trans (Hbut.out.trans Hbd.out).size hgrow.size, fun k hk hg => (hfar k (by omega)).trans ((Hbut.out.trans Hbd.out).block k hk hg)⟩
        have hp2 : PAt w2 g s1 := Hp1.out.up ⟨hgrow.os, hgrow.tape, hgrow.output, hgrow.size, fun k hk => hfar k (by omega)⟩
        have Hbf2 := Lib.hid hbf2
        have Hbp2 := Lib.hid hbp2
        have Hbut2 := Lib.hid hbut2
        have Hres2 : Hid (w2.heap[bp + 1]? = some (.cells #[.string ⟨#[]⟩, .int .i64 0, .slice none 0 0, .int .i64 0, .slice none 0 0, .int .i64 0] 49 (0, 0))) := Lib.hid (by rw [hfar (bp + 1) (by omega), Hbd.out.block (bp + 1) (by omega) (by omega)]; exact Hres.out)
        have Hp2 := Lib.hid hp2
        have Hown2 := Lib.hid hown2
        clear hown2 hgrow hat hlt hfar hbf2 hbp2 hbut2 hp2
        refine hK.out _ _ ?_ (fun hHeld => ?_)
        · ((try dsimp only); first | assumption | exact b0 | exact b1 | exact bA | exact b2 | exact (World.cell?_setCell_far _ _ _ _ (by simp; omega)).trans b2 | (simp [*]; done))
        clear hK K
        try simp only [Act.put, List.setIfInBounds_toArray, List.set_cons_zero, List.set_cons_succ]
        refine wpAnyH_take (i := 6) (v := ?_) rfl (by kernel_rfl) (by kernel_rfl) (by kernel_rfl) (fun _ _ _ h => h) (Or.inl ⟨by rfl, ?_⟩) (by assumption) ?_
        rotate_left
        · (intro w hSw; (try dsimp only at hSw); first | (go_simp; done) | (go_simp; with_reducible rfl))
        try simp only [Act.put, List.setIfInBounds_toArray, List.set_cons_zero, List.set_cons_succ]
        refine wpAnyH_ready (rs := [7]) (by kernel_rfl) (by simp) ?_
        refine AllReadyH.cons rfl (fun K hK => ?_) (AllReadyH.nil)
        go_simp
        refine hK.out _ _ ?_ (fun hHeld => ?_)
        · ((try dsimp only); first | assumption | exact b0 | exact b1 | exact bA | exact b2 | exact (World.cell?_setCell_far _ _ _ _ (by simp; omega)).trans b2 | (simp [*]; done))
        clear hK K
        try simp only [Act.put, List.setIfInBounds_toArray, List.set_cons_zero, List.set_cons_succ]
        refine wpAnyH_done (by kernel_rfl) ?_ _
        go_wp2
        go_end0
        refine ⟨rfl, Hp2.out.up ((Below.refl _ _).setCell (by simp; omega) _), .slice (some ⟨gp, 0, none⟩) (n + 1) cp2, (Below.heap_setCell _ _ _ _ (by simp; omega)).trans Hbp2.out, ?_, ?_, Hbut2.out.up ((Below.refl _ _).setCell (by simp; omega) _), (Below.heap_setCell _ _ _ _ (by simp; omega)).trans Hres2.out⟩
        · have := heap_set Hbf2.out 2 (.slice (some ⟨gp, 0, none⟩) (n + 1) cp2)
          simp only [List.setIfInBounds_toArray, List.set_cons_zero, List.set_cons_succ] at this
          exact this
        · have := ownsRow_setCell_below Hown2.out (a := ⟨bf, 2, none⟩) (by simp) (.slice (some ⟨gp, 0, none⟩) (n + 1) cp2)
          rw [Hn.out] at this ⊢
          rw [List.length_append, List.length_singleton, List.flatMap_append]
          exact this
end Go.Proofs.YtiadbeglhnocoaaGreatDoor
