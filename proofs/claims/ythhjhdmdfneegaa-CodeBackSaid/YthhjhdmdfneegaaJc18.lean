/-
  The base with changes: a number is appended.
-/
import Derived.Test.YthhjhdmdfneegaaJc17
namespace Go.Proofs.Ythhjhdmdfneegaa
set_option linter.unusedVariables false
set_option linter.unusedSimpArgs false
open Go.RowKit

theorem cl_same {w w' : World} {b : Nat} (h : w'.heap[b]? = w.heap[b]?) (q : Nat) : w'.cell? ⟨b, q, none⟩ = w.cell? ⟨b, q, none⟩ := by
  simp only [World.cell?, h]
theorem fz_same {w w' : World} {b : Nat} (h : w'.heap[b]? = w.heap[b]?) (q : Nat) : w'.frozen? ⟨b, q, none⟩ = w.frozen? ⟨b, q, none⟩ := by
  simp only [World.frozen?, h]
set_option maxRecDepth 100000 in
set_option maxHeartbeats 8000000 in
theorem way5 {s : Nat → Value} {w0 w : World} {B fb : Nat} {mn : Int} {n : Nat} {F : Nat → GRw} {cb f xi bi ib bb : Nat} {t to_ nn : Int} (h : Wy s w0 w B fb mn n F cb f xi bi ib bb t to_ nn) (Q : Exit → Act → World → Prop) (hQ : ∀ a' w' mn' F', KeepF s a' → PS w0 w' B fb mn' (n + 1) F' → Q .normal a' w') : chW5.wp Try.prog Q (fr s) w := by
  have hb := h.hx
  have hq : xi * 5 + 2 < insM f * 5 := by omega
  have hP : insP f (xi * 5 + 2) = .r (aN f xi) := by unfold insP; rw [if_pos (by omega), show (xi * 5 + 2) / 5 = xi by omega]
  have hrj : rk (aN f xi) = .ints := (rk_far (by unfold aN; omega))
  obtain ⟨v, -, hv, hc, hfz⟩ := h.ps.stat (rk_ins h.hf) h.fx (xi * 5 + 2) hq
  obtain ⟨l, A, lc, hFj, hl, hln, hA⟩ := h.ps.ir hrj
  have hv2 : v = .slice A l.length lc := by
    rw [hP] at hv
    have : v = (F (aN f xi)).v := hv
    rw [this, hFj]
  subst hv2
  have hn := h.hn
  obtain ⟨i0, hi0, hz0, hz1, hz2⟩ := info_parts infoIntQ
  have Ji := Lib.hid hi0
  have Jz0 := Lib.hid hz0
  have Jz1 := Lib.hid hz1
  have Jz2 := Lib.hid hz2
  obtain ⟨X, hX⟩ : ∃ X, X = (w.alloc (.cells #[.int .i64 to_] 3)).drew := ⟨_, rfl⟩
  have hbX : Below w.heap.size w X := by rw [hX]; exact below_dr ((Below.refl w.heap.size w).alloc (Nat.le_refl _) (.cells #[.int .i64 to_] 3)) 1
  have hnX : ∀ j y, ([.int .i64 to_] : List Value)[j]? = some y → X.cell? ((⟨w.heap.size, 0, none⟩ : Addr).add j) = some y := by rw [hX]; exact World.news_of_block (w := (w.alloc (.cells #[.int .i64 to_] 3)).drew) (heap_alloc_new w _)
  have ho : w.ownsRow (B + 2) 3 1 (.slice A l.length lc) l.length (intsV l) := by
    have := h.ps.fam.own (aN f xi)
    rw [hFj] at this
    exact this
  have HnX := Lib.hid hnX
  have HoX := Lib.hid (gr_up ho hbX)
  have HPX := Lib.hid (h.ps.keep hbX)
  have HbS : Hid (B + 2 ≤ X.heap.size) := Lib.hid (by have := hbX.size; have := h.ps.big; omega)
  have Hrj := Lib.hid hrj
  have HFj := Lib.hid hFj
  have Hg3 := Lib.hid h.g3
  have Hl := Lib.hid hl
  have Hrk := Lib.hid (rk_ins h.hf)
  have Hrg := Lib.hid h.fx
  have Hq := Lib.hid hq
  have HP := Lib.hid hP
  have hgl := World.block_lt_of_cell? w _ hc
  have hcl := World.block_lt_of_cell? w _ h.c3
  have Hxc : Hid (X.cell? ⟨ib, xi * 5 + 2, none⟩ = some (.slice A l.length lc)) := Lib.hid ((hbX.cell (p := ⟨ib, xi * 5 + 2, none⟩) hgl).trans hc)
  have Hxf : Hid (X.frozen? ⟨ib, xi * 5 + 2, none⟩ = false) := Lib.hid ((fz_same (hbX.block _ hgl) _).trans hfz)
  have hfar := Lib.hid (h.far (aN f xi))
  have Hc7 : Hid (∀ (w7 : World), X.grownBy w7 (Value.slice A l.length lc).ownBlock → w7.cell? ⟨cb, 3, none⟩ = some (.int .i64 to_)) := Lib.hid fun w7 hg => (cl_same (hg.block cb (Nat.lt_of_lt_of_le hcl hbX.size) (fun e => by have := hfar.out; rw [hFj] at this; exact this e.symm)) _).trans ((hbX.cell (p := ⟨cb, 3, none⟩) hcl).trans h.c3)
  have hne : cb ≠ ib := h.farx
  have Hc8 : Hid (∀ (w7 : World) (u : Value), w7.cell? ⟨cb, 3, none⟩ = some (.int .i64 to_) → (w7.setCell ⟨ib, xi * 5 + 2, none⟩ u).cell? ⟨cb, 3, none⟩ = some (.int .i64 to_)) := Lib.hid fun w7 u hu => (cl_same (Below.heap_setCell _ _ _ _ hne) _).trans hu
  have s0 : w.drew.cell? ⟨cb, 3, none⟩ = some (.int .i64 to_) := h.c3
  have s1 : X.cell? ⟨cb, 3, none⟩ = some (.int .i64 to_) := (hbX.cell (p := ⟨cb, 3, none⟩) hcl).trans h.c3
  have x1 : w.drew.cell? ⟨ib, xi * 5 + 2, none⟩ = some (.slice A l.length lc) := hc
  have x2 : X.cell? ⟨ib, xi * 5 + 2, none⟩ = some (.slice A l.length lc) := Hxc.out
  have HX := Lib.hid hX
  rw [hX] at s1 x2
  rw [fr_lit]
  conv => arg 2; whnf
  rw [h.s4, h.s6]
  clear hi0 hz0 hz1 hz2 hnX ho hrj hFj hl hA hq hP hb hc hfz hv hX hbX hne hgl hcl hfar h
  refine wp_region_noPanic ?_
  refine wp_region_held_drew (S := fun w' => w'.cell? ⟨cb, 3, none⟩ = some (.int .i64 to_)) (by kernel_rfl) s0 (fun hHeld => ?_)
  refine wpAnyH_take (i := 0) (v := ?_) rfl (by kernel_rfl) (by kernel_rfl) (by kernel_rfl) (fun _ _ _ h => h) (Or.inl ⟨by rfl, ?_⟩) (by assumption) ?_
  rotate_left
  · (intro w hSw; (try dsimp only at hSw); first | (go_simp; done) | (go_simp; with_reducible rfl))
  try simp only [Act.put, List.setIfInBounds_toArray, List.set_cons_zero, List.set_cons_succ]
  refine wpAnyH_take (i := 1) (v := ?_) rfl (by kernel_rfl) (by kernel_rfl) (by kernel_rfl) (fun _ _ _ h => h) (Or.inl ⟨by rfl, ?_⟩) (by assumption) ?_
  rotate_left
  · (intro w hSw; (try dsimp only at hSw); first | (go_simp; done) | (go_simp; with_reducible rfl))
  try simp only [Act.put, List.setIfInBounds_toArray, List.set_cons_zero, List.set_cons_succ]
  refine wpAnyH_take (i := 2) (v := ?_) rfl (by kernel_rfl) (by kernel_rfl) (by kernel_rfl) (fun _ _ _ h => h) (Or.inl ⟨by rfl, ?_⟩) (by assumption) ?_
  rotate_left
  · (intro w hSw; (try dsimp only at hSw); first | (go_simp; done) | (go_simp; with_reducible rfl))
  try simp only [Act.put, List.setIfInBounds_toArray, List.set_cons_zero, List.set_cons_succ]
  refine wpAnyH_take (i := 3) (v := ?_) rfl (by kernel_rfl) (by kernel_rfl) (by kernel_rfl) (fun _ _ _ h => h) (Or.inl ⟨by rfl, ?_⟩) (by assumption) ?_
  rotate_left
  · (intro w hSw; (try dsimp only at hSw); first | (go_simp; done) | (go_simp; with_reducible rfl))
  try simp only [Act.put, List.setIfInBounds_toArray, List.set_cons_zero, List.set_cons_succ]
  refine wpAnyH_take (i := 5) (v := ?_) rfl (by kernel_rfl) (by kernel_rfl) (by kernel_rfl) (fun _ _ _ h => h) (Or.inl ⟨by rfl, ?_⟩) (by assumption) ?_
  rotate_left
  · (intro w hSw; (try dsimp only at hSw); first | (go_simp; done) | (go_simp; with_reducible rfl))
  try simp only [Act.put, List.setIfInBounds_toArray, List.set_cons_zero, List.set_cons_succ]
  refine wpAnyH_take (i := 6) (v := ?_) rfl (by kernel_rfl) (by kernel_rfl) (by kernel_rfl) (fun _ _ _ h => h) (Or.inl ⟨by rfl, ?_⟩) (by assumption) ?_
  rotate_left
  · (intro w hSw; (try dsimp only at hSw); first | (go_simp; done) | (go_simp; with_reducible rfl))
  try simp only [Act.put, List.setIfInBounds_toArray, List.set_cons_zero, List.set_cons_succ]
  refine wpAnyH_ready (rs := [4, 7]) (by kernel_rfl) (by simp) ?_
  refine AllReadyH.cons rfl (fun K hK => ?_) (AllReadyH.cons rfl (fun K hK => ?_) (AllReadyH.nil))
  · go_simp
    refine hK.out _ _ ?_ (fun hHeld => ?_)
    · ((try dsimp only); first | with_reducible exact s0 | with_reducible exact s1 | with_reducible exact s2 | with_reducible exact s3)
    clear hK K
    try simp only [Act.put, List.setIfInBounds_toArray, List.set_cons_zero, List.set_cons_succ]
    refine wpAnyH_ready (rs := [7]) (by kernel_rfl) (by simp) ?_
    refine AllReadyH.cons rfl (fun K hK => ?_) (AllReadyH.nil)
    go_simp
    refine hK.out _ _ ?_ (fun hHeld => ?_)
    · ((try dsimp only); first | with_reducible exact s0 | with_reducible exact s1 | with_reducible exact s2 | with_reducible exact s3)
    clear hK K
    try simp only [Act.put, List.setIfInBounds_toArray, List.set_cons_zero, List.set_cons_succ]
    refine wpAnyH_ready (rs := [8]) (by kernel_rfl) (by simp) ?_
    refine AllReadyH.cons rfl (fun K hK => ?_) (AllReadyH.nil)
    rw [← HX.out]
    refine step_append_lies _ rfl (.tmp 136) (.tmp 139) 39 rfl (B + 2) 3 i0 (.int .i64 0) 1 8 Try.underlying39 Ji.out Jz0.out Jz1.out Jz2.out rfl (by decide) (.slice A l.length lc) l.length (intsV l) (by simp [Act.eval, Act.put]) HoX.out ⟨w.heap.size, 0, none⟩ 1 1 [.int .i64 to_] (by simp [Act.eval, Act.put]) rfl HnX.out (by intro u hu; simp at hu; subst hu; rfl) (by decide) (by unfold maxLen; omega) (by omega) HbS.out _ rfl ?_
    intro gg cap w7 hown hgrow hat hlt7
    obtain ⟨F', hF', hsame⟩ := HPX.out.app Hrj.out HFj.out (x := to_) Hg3.out Hl.out (by omega) hown hgrow (hat.imp_right fun e => Nat.le_of_eq e.symm) Hrk.out Hrg.out Hq.out HP.out
    have y1 : w7.cell? ⟨ib, xi * 5 + 2, none⟩ = some (.slice A l.length lc) := (cl_same hsame _).trans Hxc.out
    have y2 : w7.frozen? ⟨ib, xi * 5 + 2, none⟩ = false := (fz_same hsame _).trans Hxf.out
    have s2 : w7.cell? ⟨cb, 3, none⟩ = some (.int .i64 to_) := Hc7.out _ hgrow
    have s3 : (w7.setCell ⟨ib, xi * 5 + 2, none⟩ (.slice (some ⟨gg, 0, none⟩) (l.length + 1) cap)).cell? ⟨cb, 3, none⟩ = some (.int .i64 to_) := Hc8.out _ _ s2
    have HE := Lib.hid hF'
    clear hown hgrow hat hlt7 hF' hsame
    refine hK.out _ _ ?_ (fun hHeld => ?_)
    · ((try dsimp only); first | with_reducible exact s0 | with_reducible exact s1 | with_reducible exact s2 | with_reducible exact s3)
    clear hK K
    try simp only [Act.put, List.setIfInBounds_toArray, List.set_cons_zero, List.set_cons_succ]
    refine wpAnyH_take (i := 9) (v := ?_) rfl (by kernel_rfl) (by kernel_rfl) (by kernel_rfl) (fun _ _ _ h => h) (Or.inl ⟨by rfl, ?_⟩) (by assumption) ?_
    rotate_left
    · (intro w hSw; (try dsimp only at hSw); first | (go_simp; done) | (go_simp; with_reducible rfl))
    try simp only [Act.put, List.setIfInBounds_toArray, List.set_cons_zero, List.set_cons_succ]
    refine wpAnyH_take (i := 10) (v := ?_) rfl (by kernel_rfl) (by kernel_rfl) (by kernel_rfl) (fun _ _ _ h => h) (Or.inl ⟨by rfl, ?_⟩) (by assumption) ?_
    rotate_left
    · (intro w hSw; (try dsimp only at hSw); first | (go_simp; done) | (go_simp; with_reducible rfl))
    try simp only [Act.put, List.setIfInBounds_toArray, List.set_cons_zero, List.set_cons_succ]
    refine wpAnyH_ready (rs := [11]) (by kernel_rfl) (by simp) ?_
    refine AllReadyH.cons rfl (fun K hK => ?_) (AllReadyH.nil)
    go_simp
    refine hK.out _ _ ?_ (fun hHeld => ?_)
    · ((try dsimp only); first | with_reducible exact s0 | with_reducible exact s1 | with_reducible exact s2 | with_reducible exact s3)
    clear hK K
    try simp only [Act.put, List.setIfInBounds_toArray, List.set_cons_zero, List.set_cons_succ]
    refine wpAnyH_done (by kernel_rfl) ?_ _
    refine NoPanic.normal ?_
    clear y1 y2 s0 s1 s2 s3
    go_wp2
    exact hQ _ _ _ _ ⟨rfl, rfl, rfl, rfl, rfl, rfl⟩ HE.out
  · go_simp
    refine hK.out _ _ ?_ (fun hHeld => ?_)
    · ((try dsimp only); first | with_reducible exact s0 | with_reducible exact s1 | with_reducible exact s2 | with_reducible exact s3)
    clear hK K
    try simp only [Act.put, List.setIfInBounds_toArray, List.set_cons_zero, List.set_cons_succ]
    refine wpAnyH_ready (rs := [4]) (by kernel_rfl) (by simp) ?_
    refine AllReadyH.cons rfl (fun K hK => ?_) (AllReadyH.nil)
    go_simp
    refine hK.out _ _ ?_ (fun hHeld => ?_)
    · ((try dsimp only); first | with_reducible exact s0 | with_reducible exact s1 | with_reducible exact s2 | with_reducible exact s3)
    clear hK K
    try simp only [Act.put, List.setIfInBounds_toArray, List.set_cons_zero, List.set_cons_succ]
    refine wpAnyH_ready (rs := [8]) (by kernel_rfl) (by simp) ?_
    refine AllReadyH.cons rfl (fun K hK => ?_) (AllReadyH.nil)
    rw [← HX.out]
    refine step_append_lies _ rfl (.tmp 136) (.tmp 139) 39 rfl (B + 2) 3 i0 (.int .i64 0) 1 8 Try.underlying39 Ji.out Jz0.out Jz1.out Jz2.out rfl (by decide) (.slice A l.length lc) l.length (intsV l) (by simp [Act.eval, Act.put]) HoX.out ⟨w.heap.size, 0, none⟩ 1 1 [.int .i64 to_] (by simp [Act.eval, Act.put]) rfl HnX.out (by intro u hu; simp at hu; subst hu; rfl) (by decide) (by unfold maxLen; omega) (by omega) HbS.out _ rfl ?_
    intro gg cap w7 hown hgrow hat hlt7
    obtain ⟨F', hF', hsame⟩ := HPX.out.app Hrj.out HFj.out (x := to_) Hg3.out Hl.out (by omega) hown hgrow (hat.imp_right fun e => Nat.le_of_eq e.symm) Hrk.out Hrg.out Hq.out HP.out
    have y1 : w7.cell? ⟨ib, xi * 5 + 2, none⟩ = some (.slice A l.length lc) := (cl_same hsame _).trans Hxc.out
    have y2 : w7.frozen? ⟨ib, xi * 5 + 2, none⟩ = false := (fz_same hsame _).trans Hxf.out
    have s2 : w7.cell? ⟨cb, 3, none⟩ = some (.int .i64 to_) := Hc7.out _ hgrow
    have s3 : (w7.setCell ⟨ib, xi * 5 + 2, none⟩ (.slice (some ⟨gg, 0, none⟩) (l.length + 1) cap)).cell? ⟨cb, 3, none⟩ = some (.int .i64 to_) := Hc8.out _ _ s2
    have HE := Lib.hid hF'
    clear hown hgrow hat hlt7 hF' hsame
    refine hK.out _ _ ?_ (fun hHeld => ?_)
    · ((try dsimp only); first | with_reducible exact s0 | with_reducible exact s1 | with_reducible exact s2 | with_reducible exact s3)
    clear hK K
    try simp only [Act.put, List.setIfInBounds_toArray, List.set_cons_zero, List.set_cons_succ]
    refine wpAnyH_take (i := 9) (v := ?_) rfl (by kernel_rfl) (by kernel_rfl) (by kernel_rfl) (fun _ _ _ h => h) (Or.inl ⟨by rfl, ?_⟩) (by assumption) ?_
    rotate_left
    · (intro w hSw; (try dsimp only at hSw); first | (go_simp; done) | (go_simp; with_reducible rfl))
    try simp only [Act.put, List.setIfInBounds_toArray, List.set_cons_zero, List.set_cons_succ]
    refine wpAnyH_take (i := 10) (v := ?_) rfl (by kernel_rfl) (by kernel_rfl) (by kernel_rfl) (fun _ _ _ h => h) (Or.inl ⟨by rfl, ?_⟩) (by assumption) ?_
    rotate_left
    · (intro w hSw; (try dsimp only at hSw); first | (go_simp; done) | (go_simp; with_reducible rfl))
    try simp only [Act.put, List.setIfInBounds_toArray, List.set_cons_zero, List.set_cons_succ]
    refine wpAnyH_ready (rs := [11]) (by kernel_rfl) (by simp) ?_
    refine AllReadyH.cons rfl (fun K hK => ?_) (AllReadyH.nil)
    go_simp
    refine hK.out _ _ ?_ (fun hHeld => ?_)
    · ((try dsimp only); first | with_reducible exact s0 | with_reducible exact s1 | with_reducible exact s2 | with_reducible exact s3)
    clear hK K
    try simp only [Act.put, List.setIfInBounds_toArray, List.set_cons_zero, List.set_cons_succ]
    refine wpAnyH_done (by kernel_rfl) ?_ _
    refine NoPanic.normal ?_
    clear y1 y2 s0 s1 s2 s3
    go_wp2
    exact hQ _ _ _ _ ⟨rfl, rfl, rfl, rfl, rfl, rfl⟩ HE.out
set_option maxRecDepth 100000 in
set_option maxHeartbeats 8000000 in
theorem way6 {s : Nat → Value} {w0 w : World} {B fb : Nat} {mn : Int} {n : Nat} {F : Nat → GRw} {cb f xi bi ib bb : Nat} {t to_ nn : Int} (h : Wy s w0 w B fb mn n F cb f xi bi ib bb t to_ nn) (Q : Exit → Act → World → Prop) (hQ : ∀ a' w' mn' F', KeepF s a' → PS w0 w' B fb mn' (n + 1) F' → Q .normal a' w') : chW6.wp Try.prog Q (fr s) w := by
  have hb := h.hb
  have hq : bi * 5 < blkM f * 5 := by omega
  have hP : blkP f (bi * 5) = .r (bN f bi 0) := by unfold blkP; rw [if_pos (by omega), show (bi * 5) / 5 = bi by omega]
  have hrj : rk (bN f bi 0) = .ints := (rk_far (by unfold bN; omega))
  obtain ⟨v, -, hv, hc, hfz⟩ := h.ps.stat (rk_blk h.hf) h.fk (bi * 5) hq
  obtain ⟨l, A, lc, hFj, hl, hln, hA⟩ := h.ps.ir hrj
  have hv2 : v = .slice A l.length lc := by
    rw [hP] at hv
    have : v = (F (bN f bi 0)).v := hv
    rw [this, hFj]
  subst hv2
  have hn := h.hn
  obtain ⟨i0, hi0, hz0, hz1, hz2⟩ := info_parts infoIntQ
  have Ji := Lib.hid hi0
  have Jz0 := Lib.hid hz0
  have Jz1 := Lib.hid hz1
  have Jz2 := Lib.hid hz2
  obtain ⟨X, hX⟩ : ∃ X, X = (w.alloc (.cells #[.int .i64 to_] 3)).drew := ⟨_, rfl⟩
  have hbX : Below w.heap.size w X := by rw [hX]; exact below_dr ((Below.refl w.heap.size w).alloc (Nat.le_refl _) (.cells #[.int .i64 to_] 3)) 1
  have hnX : ∀ j y, ([.int .i64 to_] : List Value)[j]? = some y → X.cell? ((⟨w.heap.size, 0, none⟩ : Addr).add j) = some y := by rw [hX]; exact World.news_of_block (w := (w.alloc (.cells #[.int .i64 to_] 3)).drew) (heap_alloc_new w _)
  have ho : w.ownsRow (B + 2) 3 1 (.slice A l.length lc) l.length (intsV l) := by
    have := h.ps.fam.own (bN f bi 0)
    rw [hFj] at this
    exact this
  have HnX := Lib.hid hnX
  have HoX := Lib.hid (gr_up ho hbX)
  have HPX := Lib.hid (h.ps.keep hbX)
  have HbS : Hid (B + 2 ≤ X.heap.size) := Lib.hid (by have := hbX.size; have := h.ps.big; omega)
  have Hrj := Lib.hid hrj
  have HFj := Lib.hid hFj
  have Hg3 := Lib.hid h.g3
  have Hl := Lib.hid hl
  have Hrk := Lib.hid (rk_blk h.hf)
  have Hrg := Lib.hid h.fk
  have Hq := Lib.hid hq
  have HP := Lib.hid hP
  have hgl := World.block_lt_of_cell? w _ hc
  have hcl := World.block_lt_of_cell? w _ h.c3
  have Hxc : Hid (X.cell? ⟨bb, bi * 5, none⟩ = some (.slice A l.length lc)) := Lib.hid ((hbX.cell (p := ⟨bb, bi * 5, none⟩) hgl).trans hc)
  have Hxf : Hid (X.frozen? ⟨bb, bi * 5, none⟩ = false) := Lib.hid ((fz_same (hbX.block _ hgl) _).trans hfz)
  have hfar := Lib.hid (h.far (bN f bi 0))
  have Hc7 : Hid (∀ (w7 : World), X.grownBy w7 (Value.slice A l.length lc).ownBlock → w7.cell? ⟨cb, 3, none⟩ = some (.int .i64 to_)) := Lib.hid fun w7 hg => (cl_same (hg.block cb (Nat.lt_of_lt_of_le hcl hbX.size) (fun e => by have := hfar.out; rw [hFj] at this; exact this e.symm)) _).trans ((hbX.cell (p := ⟨cb, 3, none⟩) hcl).trans h.c3)
  have hne : cb ≠ bb := h.fark
  have Hc8 : Hid (∀ (w7 : World) (u : Value), w7.cell? ⟨cb, 3, none⟩ = some (.int .i64 to_) → (w7.setCell ⟨bb, bi * 5, none⟩ u).cell? ⟨cb, 3, none⟩ = some (.int .i64 to_)) := Lib.hid fun w7 u hu => (cl_same (Below.heap_setCell _ _ _ _ hne) _).trans hu
  have s0 : w.drew.cell? ⟨cb, 3, none⟩ = some (.int .i64 to_) := h.c3
  have s1 : X.cell? ⟨cb, 3, none⟩ = some (.int .i64 to_) := (hbX.cell (p := ⟨cb, 3, none⟩) hcl).trans h.c3
  have x1 : w.drew.cell? ⟨bb, bi * 5, none⟩ = some (.slice A l.length lc) := hc
  have x2 : X.cell? ⟨bb, bi * 5, none⟩ = some (.slice A l.length lc) := Hxc.out
  have HX := Lib.hid hX
  rw [hX] at s1 x2
  rw [fr_lit]
  conv => arg 2; whnf
  rw [h.s4, h.s7]
  clear hi0 hz0 hz1 hz2 hnX ho hrj hFj hl hA hq hP hb hc hfz hv hX hbX hne hgl hcl hfar h
  refine wp_region_noPanic ?_
  refine wp_region_held_drew (S := fun w' => w'.cell? ⟨cb, 3, none⟩ = some (.int .i64 to_)) (by kernel_rfl) s0 (fun hHeld => ?_)
  refine wpAnyH_take (i := 0) (v := ?_) rfl (by kernel_rfl) (by kernel_rfl) (by kernel_rfl) (fun _ _ _ h => h) (Or.inl ⟨by rfl, ?_⟩) (by assumption) ?_
  rotate_left
  · (intro w hSw; (try dsimp only at hSw); first | (go_simp; done) | (go_simp; with_reducible rfl))
  try simp only [Act.put, List.setIfInBounds_toArray, List.set_cons_zero, List.set_cons_succ]
  refine wpAnyH_take (i := 1) (v := ?_) rfl (by kernel_rfl) (by kernel_rfl) (by kernel_rfl) (fun _ _ _ h => h) (Or.inl ⟨by rfl, ?_⟩) (by assumption) ?_
  rotate_left
  · (intro w hSw; (try dsimp only at hSw); first | (go_simp; done) | (go_simp; with_reducible rfl))
  try simp only [Act.put, List.setIfInBounds_toArray, List.set_cons_zero, List.set_cons_succ]
  refine wpAnyH_take (i := 2) (v := ?_) rfl (by kernel_rfl) (by kernel_rfl) (by kernel_rfl) (fun _ _ _ h => h) (Or.inl ⟨by rfl, ?_⟩) (by assumption) ?_
  rotate_left
  · (intro w hSw; (try dsimp only at hSw); first | (go_simp; done) | (go_simp; with_reducible rfl))
  try simp only [Act.put, List.setIfInBounds_toArray, List.set_cons_zero, List.set_cons_succ]
  refine wpAnyH_take (i := 3) (v := ?_) rfl (by kernel_rfl) (by kernel_rfl) (by kernel_rfl) (fun _ _ _ h => h) (Or.inl ⟨by rfl, ?_⟩) (by assumption) ?_
  rotate_left
  · (intro w hSw; (try dsimp only at hSw); first | (go_simp; done) | (go_simp; with_reducible rfl))
  try simp only [Act.put, List.setIfInBounds_toArray, List.set_cons_zero, List.set_cons_succ]
  refine wpAnyH_take (i := 5) (v := ?_) rfl (by kernel_rfl) (by kernel_rfl) (by kernel_rfl) (fun _ _ _ h => h) (Or.inl ⟨by rfl, ?_⟩) (by assumption) ?_
  rotate_left
  · (intro w hSw; (try dsimp only at hSw); first | (go_simp; done) | (go_simp; with_reducible rfl))
  try simp only [Act.put, List.setIfInBounds_toArray, List.set_cons_zero, List.set_cons_succ]
  refine wpAnyH_take (i := 6) (v := ?_) rfl (by kernel_rfl) (by kernel_rfl) (by kernel_rfl) (fun _ _ _ h => h) (Or.inl ⟨by rfl, ?_⟩) (by assumption) ?_
  rotate_left
  · (intro w hSw; (try dsimp only at hSw); first | (go_simp; done) | (go_simp; with_reducible rfl))
  try simp only [Act.put, List.setIfInBounds_toArray, List.set_cons_zero, List.set_cons_succ]
  refine wpAnyH_ready (rs := [4, 7]) (by kernel_rfl) (by simp) ?_
  refine AllReadyH.cons rfl (fun K hK => ?_) (AllReadyH.cons rfl (fun K hK => ?_) (AllReadyH.nil))
  · go_simp
    refine hK.out _ _ ?_ (fun hHeld => ?_)
    · ((try dsimp only); first | with_reducible exact s0 | with_reducible exact s1 | with_reducible exact s2 | with_reducible exact s3)
    clear hK K
    try simp only [Act.put, List.setIfInBounds_toArray, List.set_cons_zero, List.set_cons_succ]
    refine wpAnyH_ready (rs := [7]) (by kernel_rfl) (by simp) ?_
    refine AllReadyH.cons rfl (fun K hK => ?_) (AllReadyH.nil)
    go_simp
    refine hK.out _ _ ?_ (fun hHeld => ?_)
    · ((try dsimp only); first | with_reducible exact s0 | with_reducible exact s1 | with_reducible exact s2 | with_reducible exact s3)
    clear hK K
    try simp only [Act.put, List.setIfInBounds_toArray, List.set_cons_zero, List.set_cons_succ]
    refine wpAnyH_ready (rs := [8]) (by kernel_rfl) (by simp) ?_
    refine AllReadyH.cons rfl (fun K hK => ?_) (AllReadyH.nil)
    rw [← HX.out]
    refine step_append_lies _ rfl (.tmp 149) (.tmp 152) 39 rfl (B + 2) 3 i0 (.int .i64 0) 1 8 Try.underlying39 Ji.out Jz0.out Jz1.out Jz2.out rfl (by decide) (.slice A l.length lc) l.length (intsV l) (by simp [Act.eval, Act.put]) HoX.out ⟨w.heap.size, 0, none⟩ 1 1 [.int .i64 to_] (by simp [Act.eval, Act.put]) rfl HnX.out (by intro u hu; simp at hu; subst hu; rfl) (by decide) (by unfold maxLen; omega) (by omega) HbS.out _ rfl ?_
    intro gg cap w7 hown hgrow hat hlt7
    obtain ⟨F', hF', hsame⟩ := HPX.out.app Hrj.out HFj.out (x := to_) Hg3.out Hl.out (by omega) hown hgrow (hat.imp_right fun e => Nat.le_of_eq e.symm) Hrk.out Hrg.out Hq.out HP.out
    have y1 : w7.cell? ⟨bb, bi * 5, none⟩ = some (.slice A l.length lc) := (cl_same hsame _).trans Hxc.out
    have y2 : w7.frozen? ⟨bb, bi * 5, none⟩ = false := (fz_same hsame _).trans Hxf.out
    have s2 : w7.cell? ⟨cb, 3, none⟩ = some (.int .i64 to_) := Hc7.out _ hgrow
    have s3 : (w7.setCell ⟨bb, bi * 5, none⟩ (.slice (some ⟨gg, 0, none⟩) (l.length + 1) cap)).cell? ⟨cb, 3, none⟩ = some (.int .i64 to_) := Hc8.out _ _ s2
    have HE := Lib.hid hF'
    clear hown hgrow hat hlt7 hF' hsame
    refine hK.out _ _ ?_ (fun hHeld => ?_)
    · ((try dsimp only); first | with_reducible exact s0 | with_reducible exact s1 | with_reducible exact s2 | with_reducible exact s3)
    clear hK K
    try simp only [Act.put, List.setIfInBounds_toArray, List.set_cons_zero, List.set_cons_succ]
    refine wpAnyH_take (i := 9) (v := ?_) rfl (by kernel_rfl) (by kernel_rfl) (by kernel_rfl) (fun _ _ _ h => h) (Or.inl ⟨by rfl, ?_⟩) (by assumption) ?_
    rotate_left
    · (intro w hSw; (try dsimp only at hSw); first | (go_simp; done) | (go_simp; with_reducible rfl))
    try simp only [Act.put, List.setIfInBounds_toArray, List.set_cons_zero, List.set_cons_succ]
    refine wpAnyH_take (i := 10) (v := ?_) rfl (by kernel_rfl) (by kernel_rfl) (by kernel_rfl) (fun _ _ _ h => h) (Or.inl ⟨by rfl, ?_⟩) (by assumption) ?_
    rotate_left
    · (intro w hSw; (try dsimp only at hSw); first | (go_simp; done) | (go_simp; with_reducible rfl))
    try simp only [Act.put, List.setIfInBounds_toArray, List.set_cons_zero, List.set_cons_succ]
    refine wpAnyH_ready (rs := [11]) (by kernel_rfl) (by simp) ?_
    refine AllReadyH.cons rfl (fun K hK => ?_) (AllReadyH.nil)
    go_simp
    refine hK.out _ _ ?_ (fun hHeld => ?_)
    · ((try dsimp only); first | with_reducible exact s0 | with_reducible exact s1 | with_reducible exact s2 | with_reducible exact s3)
    clear hK K
    try simp only [Act.put, List.setIfInBounds_toArray, List.set_cons_zero, List.set_cons_succ]
    refine wpAnyH_done (by kernel_rfl) ?_ _
    refine NoPanic.normal ?_
    clear y1 y2 s0 s1 s2 s3
    go_wp2
    exact hQ _ _ _ _ ⟨rfl, rfl, rfl, rfl, rfl, rfl⟩ HE.out
  · go_simp
    refine hK.out _ _ ?_ (fun hHeld => ?_)
    · ((try dsimp only); first | with_reducible exact s0 | with_reducible exact s1 | with_reducible exact s2 | with_reducible exact s3)
    clear hK K
    try simp only [Act.put, List.setIfInBounds_toArray, List.set_cons_zero, List.set_cons_succ]
    refine wpAnyH_ready (rs := [4]) (by kernel_rfl) (by simp) ?_
    refine AllReadyH.cons rfl (fun K hK => ?_) (AllReadyH.nil)
    go_simp
    refine hK.out _ _ ?_ (fun hHeld => ?_)
    · ((try dsimp only); first | with_reducible exact s0 | with_reducible exact s1 | with_reducible exact s2 | with_reducible exact s3)
    clear hK K
    try simp only [Act.put, List.setIfInBounds_toArray, List.set_cons_zero, List.set_cons_succ]
    refine wpAnyH_ready (rs := [8]) (by kernel_rfl) (by simp) ?_
    refine AllReadyH.cons rfl (fun K hK => ?_) (AllReadyH.nil)
    rw [← HX.out]
    refine step_append_lies _ rfl (.tmp 149) (.tmp 152) 39 rfl (B + 2) 3 i0 (.int .i64 0) 1 8 Try.underlying39 Ji.out Jz0.out Jz1.out Jz2.out rfl (by decide) (.slice A l.length lc) l.length (intsV l) (by simp [Act.eval, Act.put]) HoX.out ⟨w.heap.size, 0, none⟩ 1 1 [.int .i64 to_] (by simp [Act.eval, Act.put]) rfl HnX.out (by intro u hu; simp at hu; subst hu; rfl) (by decide) (by unfold maxLen; omega) (by omega) HbS.out _ rfl ?_
    intro gg cap w7 hown hgrow hat hlt7
    obtain ⟨F', hF', hsame⟩ := HPX.out.app Hrj.out HFj.out (x := to_) Hg3.out Hl.out (by omega) hown hgrow (hat.imp_right fun e => Nat.le_of_eq e.symm) Hrk.out Hrg.out Hq.out HP.out
    have y1 : w7.cell? ⟨bb, bi * 5, none⟩ = some (.slice A l.length lc) := (cl_same hsame _).trans Hxc.out
    have y2 : w7.frozen? ⟨bb, bi * 5, none⟩ = false := (fz_same hsame _).trans Hxf.out
    have s2 : w7.cell? ⟨cb, 3, none⟩ = some (.int .i64 to_) := Hc7.out _ hgrow
    have s3 : (w7.setCell ⟨bb, bi * 5, none⟩ (.slice (some ⟨gg, 0, none⟩) (l.length + 1) cap)).cell? ⟨cb, 3, none⟩ = some (.int .i64 to_) := Hc8.out _ _ s2
    have HE := Lib.hid hF'
    clear hown hgrow hat hlt7 hF' hsame
    refine hK.out _ _ ?_ (fun hHeld => ?_)
    · ((try dsimp only); first | with_reducible exact s0 | with_reducible exact s1 | with_reducible exact s2 | with_reducible exact s3)
    clear hK K
    try simp only [Act.put, List.setIfInBounds_toArray, List.set_cons_zero, List.set_cons_succ]
    refine wpAnyH_take (i := 9) (v := ?_) rfl (by kernel_rfl) (by kernel_rfl) (by kernel_rfl) (fun _ _ _ h => h) (Or.inl ⟨by rfl, ?_⟩) (by assumption) ?_
    rotate_left
    · (intro w hSw; (try dsimp only at hSw); first | (go_simp; done) | (go_simp; with_reducible rfl))
    try simp only [Act.put, List.setIfInBounds_toArray, List.set_cons_zero, List.set_cons_succ]
    refine wpAnyH_take (i := 10) (v := ?_) rfl (by kernel_rfl) (by kernel_rfl) (by kernel_rfl) (fun _ _ _ h => h) (Or.inl ⟨by rfl, ?_⟩) (by assumption) ?_
    rotate_left
    · (intro w hSw; (try dsimp only at hSw); first | (go_simp; done) | (go_simp; with_reducible rfl))
    try simp only [Act.put, List.setIfInBounds_toArray, List.set_cons_zero, List.set_cons_succ]
    refine wpAnyH_ready (rs := [11]) (by kernel_rfl) (by simp) ?_
    refine AllReadyH.cons rfl (fun K hK => ?_) (AllReadyH.nil)
    go_simp
    refine hK.out _ _ ?_ (fun hHeld => ?_)
    · ((try dsimp only); first | with_reducible exact s0 | with_reducible exact s1 | with_reducible exact s2 | with_reducible exact s3)
    clear hK K
    try simp only [Act.put, List.setIfInBounds_toArray, List.set_cons_zero, List.set_cons_succ]
    refine wpAnyH_done (by kernel_rfl) ?_ _
    refine NoPanic.normal ?_
    clear y1 y2 s0 s1 s2 s3
    go_wp2
    exact hQ _ _ _ _ ⟨rfl, rfl, rfl, rfl, rfl, rfl⟩ HE.out
set_option maxRecDepth 100000 in
set_option maxHeartbeats 8000000 in
theorem way8 {s : Nat → Value} {w0 w : World} {B fb : Nat} {mn : Int} {n : Nat} {F : Nat → GRw} {cb f xi bi ib bb : Nat} {t to_ nn : Int} (h : Wy s w0 w B fb mn n F cb f xi bi ib bb t to_ nn) (Q : Exit → Act → World → Prop) (hQ : ∀ a' w' mn' F', KeepF s a' → PS w0 w' B fb mn' (n + 1) F' → Q .normal a' w') : chW8.wp Try.prog Q (fr s) w := by
  have hb := h.hb
  have hq : bi * 5 + 1 < blkM f * 5 := by omega
  have hP : blkP f (bi * 5 + 1) = .r (bN f bi 1) := by unfold blkP; rw [if_neg (by omega), if_pos (by omega), show (bi * 5 + 1) / 5 = bi by omega]
  have hrj : rk (bN f bi 1) = .ints := (rk_far (by unfold bN; omega))
  obtain ⟨v, -, hv, hc, hfz⟩ := h.ps.stat (rk_blk h.hf) h.fk (bi * 5 + 1) hq
  obtain ⟨l, A, lc, hFj, hl, hln, hA⟩ := h.ps.ir hrj
  have hv2 : v = .slice A l.length lc := by
    rw [hP] at hv
    have : v = (F (bN f bi 1)).v := hv
    rw [this, hFj]
  subst hv2
  have hn := h.hn
  obtain ⟨i0, hi0, hz0, hz1, hz2⟩ := info_parts infoIntQ
  have Ji := Lib.hid hi0
  have Jz0 := Lib.hid hz0
  have Jz1 := Lib.hid hz1
  have Jz2 := Lib.hid hz2
  obtain ⟨X, hX⟩ : ∃ X, X = (w.alloc (.cells #[.int .i64 to_] 3)).drew := ⟨_, rfl⟩
  have hbX : Below w.heap.size w X := by rw [hX]; exact below_dr ((Below.refl w.heap.size w).alloc (Nat.le_refl _) (.cells #[.int .i64 to_] 3)) 1
  have hnX : ∀ j y, ([.int .i64 to_] : List Value)[j]? = some y → X.cell? ((⟨w.heap.size, 0, none⟩ : Addr).add j) = some y := by rw [hX]; exact World.news_of_block (w := (w.alloc (.cells #[.int .i64 to_] 3)).drew) (heap_alloc_new w _)
  have ho : w.ownsRow (B + 2) 3 1 (.slice A l.length lc) l.length (intsV l) := by
    have := h.ps.fam.own (bN f bi 1)
    rw [hFj] at this
    exact this
  have HnX := Lib.hid hnX
  have HoX := Lib.hid (gr_up ho hbX)
  have HPX := Lib.hid (h.ps.keep hbX)
  have HbS : Hid (B + 2 ≤ X.heap.size) := Lib.hid (by have := hbX.size; have := h.ps.big; omega)
  have Hrj := Lib.hid hrj
  have HFj := Lib.hid hFj
  have Hg3 := Lib.hid h.g3
  have Hl := Lib.hid hl
  have Hrk := Lib.hid (rk_blk h.hf)
  have Hrg := Lib.hid h.fk
  have Hq := Lib.hid hq
  have HP := Lib.hid hP
  have hgl := World.block_lt_of_cell? w _ hc
  have hcl := World.block_lt_of_cell? w _ h.c3
  have Hxc : Hid (X.cell? ⟨bb, bi * 5 + 1, none⟩ = some (.slice A l.length lc)) := Lib.hid ((hbX.cell (p := ⟨bb, bi * 5 + 1, none⟩) hgl).trans hc)
  have Hxf : Hid (X.frozen? ⟨bb, bi * 5 + 1, none⟩ = false) := Lib.hid ((fz_same (hbX.block _ hgl) _).trans hfz)
  have hfar := Lib.hid (h.far (bN f bi 1))
  have Hc7 : Hid (∀ (w7 : World), X.grownBy w7 (Value.slice A l.length lc).ownBlock → w7.cell? ⟨cb, 3, none⟩ = some (.int .i64 to_)) := Lib.hid fun w7 hg => (cl_same (hg.block cb (Nat.lt_of_lt_of_le hcl hbX.size) (fun e => by have := hfar.out; rw [hFj] at this; exact this e.symm)) _).trans ((hbX.cell (p := ⟨cb, 3, none⟩) hcl).trans h.c3)
  have hne : cb ≠ bb := h.fark
  have Hc8 : Hid (∀ (w7 : World) (u : Value), w7.cell? ⟨cb, 3, none⟩ = some (.int .i64 to_) → (w7.setCell ⟨bb, bi * 5 + 1, none⟩ u).cell? ⟨cb, 3, none⟩ = some (.int .i64 to_)) := Lib.hid fun w7 u hu => (cl_same (Below.heap_setCell _ _ _ _ hne) _).trans hu
  have s0 : w.drew.cell? ⟨cb, 3, none⟩ = some (.int .i64 to_) := h.c3
  have s1 : X.cell? ⟨cb, 3, none⟩ = some (.int .i64 to_) := (hbX.cell (p := ⟨cb, 3, none⟩) hcl).trans h.c3
  have x1 : w.drew.cell? ⟨bb, bi * 5 + 1, none⟩ = some (.slice A l.length lc) := hc
  have x2 : X.cell? ⟨bb, bi * 5 + 1, none⟩ = some (.slice A l.length lc) := Hxc.out
  have HX := Lib.hid hX
  rw [hX] at s1 x2
  rw [fr_lit]
  conv => arg 2; whnf
  rw [h.s4, h.s7]
  clear hi0 hz0 hz1 hz2 hnX ho hrj hFj hl hA hq hP hb hc hfz hv hX hbX hne hgl hcl hfar h
  refine wp_region_noPanic ?_
  refine wp_region_held_drew (S := fun w' => w'.cell? ⟨cb, 3, none⟩ = some (.int .i64 to_)) (by kernel_rfl) s0 (fun hHeld => ?_)
  refine wpAnyH_take (i := 0) (v := ?_) rfl (by kernel_rfl) (by kernel_rfl) (by kernel_rfl) (fun _ _ _ h => h) (Or.inl ⟨by rfl, ?_⟩) (by assumption) ?_
  rotate_left
  · (intro w hSw; (try dsimp only at hSw); first | (go_simp; done) | (go_simp; with_reducible rfl))
  try simp only [Act.put, List.setIfInBounds_toArray, List.set_cons_zero, List.set_cons_succ]
  refine wpAnyH_take (i := 1) (v := ?_) rfl (by kernel_rfl) (by kernel_rfl) (by kernel_rfl) (fun _ _ _ h => h) (Or.inl ⟨by rfl, ?_⟩) (by assumption) ?_
  rotate_left
  · (intro w hSw; (try dsimp only at hSw); first | (go_simp; done) | (go_simp; with_reducible rfl))
  try simp only [Act.put, List.setIfInBounds_toArray, List.set_cons_zero, List.set_cons_succ]
  refine wpAnyH_take (i := 2) (v := ?_) rfl (by kernel_rfl) (by kernel_rfl) (by kernel_rfl) (fun _ _ _ h => h) (Or.inl ⟨by rfl, ?_⟩) (by assumption) ?_
  rotate_left
  · (intro w hSw; (try dsimp only at hSw); first | (go_simp; done) | (go_simp; with_reducible rfl))
  try simp only [Act.put, List.setIfInBounds_toArray, List.set_cons_zero, List.set_cons_succ]
  refine wpAnyH_take (i := 3) (v := ?_) rfl (by kernel_rfl) (by kernel_rfl) (by kernel_rfl) (fun _ _ _ h => h) (Or.inl ⟨by rfl, ?_⟩) (by assumption) ?_
  rotate_left
  · (intro w hSw; (try dsimp only at hSw); first | (go_simp; done) | (go_simp; with_reducible rfl))
  try simp only [Act.put, List.setIfInBounds_toArray, List.set_cons_zero, List.set_cons_succ]
  refine wpAnyH_take (i := 5) (v := ?_) rfl (by kernel_rfl) (by kernel_rfl) (by kernel_rfl) (fun _ _ _ h => h) (Or.inl ⟨by rfl, ?_⟩) (by assumption) ?_
  rotate_left
  · (intro w hSw; (try dsimp only at hSw); first | (go_simp; done) | (go_simp; with_reducible rfl))
  try simp only [Act.put, List.setIfInBounds_toArray, List.set_cons_zero, List.set_cons_succ]
  refine wpAnyH_take (i := 6) (v := ?_) rfl (by kernel_rfl) (by kernel_rfl) (by kernel_rfl) (fun _ _ _ h => h) (Or.inl ⟨by rfl, ?_⟩) (by assumption) ?_
  rotate_left
  · (intro w hSw; (try dsimp only at hSw); first | (go_simp; done) | (go_simp; with_reducible rfl))
  try simp only [Act.put, List.setIfInBounds_toArray, List.set_cons_zero, List.set_cons_succ]
  refine wpAnyH_ready (rs := [4, 7]) (by kernel_rfl) (by simp) ?_
  refine AllReadyH.cons rfl (fun K hK => ?_) (AllReadyH.cons rfl (fun K hK => ?_) (AllReadyH.nil))
  · go_simp
    refine hK.out _ _ ?_ (fun hHeld => ?_)
    · ((try dsimp only); first | with_reducible exact s0 | with_reducible exact s1 | with_reducible exact s2 | with_reducible exact s3)
    clear hK K
    try simp only [Act.put, List.setIfInBounds_toArray, List.set_cons_zero, List.set_cons_succ]
    refine wpAnyH_ready (rs := [7]) (by kernel_rfl) (by simp) ?_
    refine AllReadyH.cons rfl (fun K hK => ?_) (AllReadyH.nil)
    go_simp
    refine hK.out _ _ ?_ (fun hHeld => ?_)
    · ((try dsimp only); first | with_reducible exact s0 | with_reducible exact s1 | with_reducible exact s2 | with_reducible exact s3)
    clear hK K
    try simp only [Act.put, List.setIfInBounds_toArray, List.set_cons_zero, List.set_cons_succ]
    refine wpAnyH_ready (rs := [8]) (by kernel_rfl) (by simp) ?_
    refine AllReadyH.cons rfl (fun K hK => ?_) (AllReadyH.nil)
    rw [← HX.out]
    refine step_append_lies _ rfl (.tmp 204) (.tmp 207) 39 rfl (B + 2) 3 i0 (.int .i64 0) 1 8 Try.underlying39 Ji.out Jz0.out Jz1.out Jz2.out rfl (by decide) (.slice A l.length lc) l.length (intsV l) (by simp [Act.eval, Act.put]) HoX.out ⟨w.heap.size, 0, none⟩ 1 1 [.int .i64 to_] (by simp [Act.eval, Act.put]) rfl HnX.out (by intro u hu; simp at hu; subst hu; rfl) (by decide) (by unfold maxLen; omega) (by omega) HbS.out _ rfl ?_
    intro gg cap w7 hown hgrow hat hlt7
    obtain ⟨F', hF', hsame⟩ := HPX.out.app Hrj.out HFj.out (x := to_) Hg3.out Hl.out (by omega) hown hgrow (hat.imp_right fun e => Nat.le_of_eq e.symm) Hrk.out Hrg.out Hq.out HP.out
    have y1 : w7.cell? ⟨bb, bi * 5 + 1, none⟩ = some (.slice A l.length lc) := (cl_same hsame _).trans Hxc.out
    have y2 : w7.frozen? ⟨bb, bi * 5 + 1, none⟩ = false := (fz_same hsame _).trans Hxf.out
    have s2 : w7.cell? ⟨cb, 3, none⟩ = some (.int .i64 to_) := Hc7.out _ hgrow
    have s3 : (w7.setCell ⟨bb, bi * 5 + 1, none⟩ (.slice (some ⟨gg, 0, none⟩) (l.length + 1) cap)).cell? ⟨cb, 3, none⟩ = some (.int .i64 to_) := Hc8.out _ _ s2
    have HE := Lib.hid hF'
    clear hown hgrow hat hlt7 hF' hsame
    refine hK.out _ _ ?_ (fun hHeld => ?_)
    · ((try dsimp only); first | with_reducible exact s0 | with_reducible exact s1 | with_reducible exact s2 | with_reducible exact s3)
    clear hK K
    try simp only [Act.put, List.setIfInBounds_toArray, List.set_cons_zero, List.set_cons_succ]
    refine wpAnyH_take (i := 9) (v := ?_) rfl (by kernel_rfl) (by kernel_rfl) (by kernel_rfl) (fun _ _ _ h => h) (Or.inl ⟨by rfl, ?_⟩) (by assumption) ?_
    rotate_left
    · (intro w hSw; (try dsimp only at hSw); first | (go_simp; done) | (go_simp; with_reducible rfl))
    try simp only [Act.put, List.setIfInBounds_toArray, List.set_cons_zero, List.set_cons_succ]
    refine wpAnyH_take (i := 10) (v := ?_) rfl (by kernel_rfl) (by kernel_rfl) (by kernel_rfl) (fun _ _ _ h => h) (Or.inl ⟨by rfl, ?_⟩) (by assumption) ?_
    rotate_left
    · (intro w hSw; (try dsimp only at hSw); first | (go_simp; done) | (go_simp; with_reducible rfl))
    try simp only [Act.put, List.setIfInBounds_toArray, List.set_cons_zero, List.set_cons_succ]
    refine wpAnyH_ready (rs := [11]) (by kernel_rfl) (by simp) ?_
    refine AllReadyH.cons rfl (fun K hK => ?_) (AllReadyH.nil)
    go_simp
    refine hK.out _ _ ?_ (fun hHeld => ?_)
    · ((try dsimp only); first | with_reducible exact s0 | with_reducible exact s1 | with_reducible exact s2 | with_reducible exact s3)
    clear hK K
    try simp only [Act.put, List.setIfInBounds_toArray, List.set_cons_zero, List.set_cons_succ]
    refine wpAnyH_done (by kernel_rfl) ?_ _
    refine NoPanic.normal ?_
    clear y1 y2 s0 s1 s2 s3
    go_wp2
    exact hQ _ _ _ _ ⟨rfl, rfl, rfl, rfl, rfl, rfl⟩ HE.out
  · go_simp
    refine hK.out _ _ ?_ (fun hHeld => ?_)
    · ((try dsimp only); first | with_reducible exact s0 | with_reducible exact s1 | with_reducible exact s2 | with_reducible exact s3)
    clear hK K
    try simp only [Act.put, List.setIfInBounds_toArray, List.set_cons_zero, List.set_cons_succ]
    refine wpAnyH_ready (rs := [4]) (by kernel_rfl) (by simp) ?_
    refine AllReadyH.cons rfl (fun K hK => ?_) (AllReadyH.nil)
    go_simp
    refine hK.out _ _ ?_ (fun hHeld => ?_)
    · ((try dsimp only); first | with_reducible exact s0 | with_reducible exact s1 | with_reducible exact s2 | with_reducible exact s3)
    clear hK K
    try simp only [Act.put, List.setIfInBounds_toArray, List.set_cons_zero, List.set_cons_succ]
    refine wpAnyH_ready (rs := [8]) (by kernel_rfl) (by simp) ?_
    refine AllReadyH.cons rfl (fun K hK => ?_) (AllReadyH.nil)
    rw [← HX.out]
    refine step_append_lies _ rfl (.tmp 204) (.tmp 207) 39 rfl (B + 2) 3 i0 (.int .i64 0) 1 8 Try.underlying39 Ji.out Jz0.out Jz1.out Jz2.out rfl (by decide) (.slice A l.length lc) l.length (intsV l) (by simp [Act.eval, Act.put]) HoX.out ⟨w.heap.size, 0, none⟩ 1 1 [.int .i64 to_] (by simp [Act.eval, Act.put]) rfl HnX.out (by intro u hu; simp at hu; subst hu; rfl) (by decide) (by unfold maxLen; omega) (by omega) HbS.out _ rfl ?_
    intro gg cap w7 hown hgrow hat hlt7
    obtain ⟨F', hF', hsame⟩ := HPX.out.app Hrj.out HFj.out (x := to_) Hg3.out Hl.out (by omega) hown hgrow (hat.imp_right fun e => Nat.le_of_eq e.symm) Hrk.out Hrg.out Hq.out HP.out
    have y1 : w7.cell? ⟨bb, bi * 5 + 1, none⟩ = some (.slice A l.length lc) := (cl_same hsame _).trans Hxc.out
    have y2 : w7.frozen? ⟨bb, bi * 5 + 1, none⟩ = false := (fz_same hsame _).trans Hxf.out
    have s2 : w7.cell? ⟨cb, 3, none⟩ = some (.int .i64 to_) := Hc7.out _ hgrow
    have s3 : (w7.setCell ⟨bb, bi * 5 + 1, none⟩ (.slice (some ⟨gg, 0, none⟩) (l.length + 1) cap)).cell? ⟨cb, 3, none⟩ = some (.int .i64 to_) := Hc8.out _ _ s2
    have HE := Lib.hid hF'
    clear hown hgrow hat hlt7 hF' hsame
    refine hK.out _ _ ?_ (fun hHeld => ?_)
    · ((try dsimp only); first | with_reducible exact s0 | with_reducible exact s1 | with_reducible exact s2 | with_reducible exact s3)
    clear hK K
    try simp only [Act.put, List.setIfInBounds_toArray, List.set_cons_zero, List.set_cons_succ]
    refine wpAnyH_take (i := 9) (v := ?_) rfl (by kernel_rfl) (by kernel_rfl) (by kernel_rfl) (fun _ _ _ h => h) (Or.inl ⟨by rfl, ?_⟩) (by assumption) ?_
    rotate_left
    · (intro w hSw; (try dsimp only at hSw); first | (go_simp; done) | (go_simp; with_reducible rfl))
    try simp only [Act.put, List.setIfInBounds_toArray, List.set_cons_zero, List.set_cons_succ]
    refine wpAnyH_take (i := 10) (v := ?_) rfl (by kernel_rfl) (by kernel_rfl) (by kernel_rfl) (fun _ _ _ h => h) (Or.inl ⟨by rfl, ?_⟩) (by assumption) ?_
    rotate_left
    · (intro w hSw; (try dsimp only at hSw); first | (go_simp; done) | (go_simp; with_reducible rfl))
    try simp only [Act.put, List.setIfInBounds_toArray, List.set_cons_zero, List.set_cons_succ]
    refine wpAnyH_ready (rs := [11]) (by kernel_rfl) (by simp) ?_
    refine AllReadyH.cons rfl (fun K hK => ?_) (AllReadyH.nil)
    go_simp
    refine hK.out _ _ ?_ (fun hHeld => ?_)
    · ((try dsimp only); first | with_reducible exact s0 | with_reducible exact s1 | with_reducible exact s2 | with_reducible exact s3)
    clear hK K
    try simp only [Act.put, List.setIfInBounds_toArray, List.set_cons_zero, List.set_cons_succ]
    refine wpAnyH_done (by kernel_rfl) ?_ _
    refine NoPanic.normal ?_
    clear y1 y2 s0 s1 s2 s3
    go_wp2
    exact hQ _ _ _ _ ⟨rfl, rfl, rfl, rfl, rfl, rfl⟩ HE.out
set_option maxRecDepth 100000 in
set_option maxHeartbeats 8000000 in
theorem way14 {s : Nat → Value} {w0 w : World} {B fb : Nat} {mn : Int} {n : Nat} {F : Nat → GRw} {cb f xi bi ib bb : Nat} {t to_ nn : Int} (h : Wy s w0 w B fb mn n F cb f xi bi ib bb t to_ nn) (Q : Exit → Act → World → Prop) (hQ : ∀ a' w' mn' F', KeepF s a' → PS w0 w' B fb mn' (n + 1) F' → Q .normal a' w') : chW14.wp Try.prog Q (fr s) w := by
  have hb := h.hf
  have hq : f * 5 + 1 < 2 * 5 := by omega
  have hP : funP (f * 5 + 1) = .r (sN f 0) := by unfold funP; rw [if_neg (by omega), if_neg (by omega), if_pos (by omega), show (f * 5 + 1) / 5 = f by omega]
  have hrj : rk (sN f 0) = .ints := (rk_par h.hf)
  obtain ⟨v, -, hv, hc, hfz⟩ := h.ps.stat rk_fun h.ps.f0 (f * 5 + 1) hq
  obtain ⟨l, A, lc, hFj, hl, hln, hA⟩ := h.ps.ir hrj
  have hv2 : v = .slice A l.length lc := by
    rw [hP] at hv
    have : v = (F (sN f 0)).v := hv
    rw [this, hFj]
  subst hv2
  have hn := h.hn
  obtain ⟨i0, hi0, hz0, hz1, hz2⟩ := info_parts infoIntQ
  have Ji := Lib.hid hi0
  have Jz0 := Lib.hid hz0
  have Jz1 := Lib.hid hz1
  have Jz2 := Lib.hid hz2
  obtain ⟨X, hX⟩ : ∃ X, X = (w.alloc (.cells #[.int .i64 to_] 3)).drew := ⟨_, rfl⟩
  have hbX : Below w.heap.size w X := by rw [hX]; exact below_dr ((Below.refl w.heap.size w).alloc (Nat.le_refl _) (.cells #[.int .i64 to_] 3)) 1
  have hnX : ∀ j y, ([.int .i64 to_] : List Value)[j]? = some y → X.cell? ((⟨w.heap.size, 0, none⟩ : Addr).add j) = some y := by rw [hX]; exact World.news_of_block (w := (w.alloc (.cells #[.int .i64 to_] 3)).drew) (heap_alloc_new w _)
  have ho : w.ownsRow (B + 2) 3 1 (.slice A l.length lc) l.length (intsV l) := by
    have := h.ps.fam.own (sN f 0)
    rw [hFj] at this
    exact this
  have HnX := Lib.hid hnX
  have HoX := Lib.hid (gr_up ho hbX)
  have HPX := Lib.hid (h.ps.keep hbX)
  have HbS : Hid (B + 2 ≤ X.heap.size) := Lib.hid (by have := hbX.size; have := h.ps.big; omega)
  have Hrj := Lib.hid hrj
  have HFj := Lib.hid hFj
  have Hg3 := Lib.hid h.g3
  have Hl := Lib.hid hl
  have Hrk := Lib.hid rk_fun
  have Hrg := Lib.hid h.ps.f0
  have Hq := Lib.hid hq
  have HP := Lib.hid hP
  have hgl := World.block_lt_of_cell? w _ hc
  have hcl := World.block_lt_of_cell? w _ h.c3
  have Hxc : Hid (X.cell? ⟨fb, f * 5 + 1, none⟩ = some (.slice A l.length lc)) := Lib.hid ((hbX.cell (p := ⟨fb, f * 5 + 1, none⟩) hgl).trans hc)
  have Hxf : Hid (X.frozen? ⟨fb, f * 5 + 1, none⟩ = false) := Lib.hid ((fz_same (hbX.block _ hgl) _).trans hfz)
  have hfar := Lib.hid (h.far (sN f 0))
  have Hc7 : Hid (∀ (w7 : World), X.grownBy w7 (Value.slice A l.length lc).ownBlock → w7.cell? ⟨cb, 3, none⟩ = some (.int .i64 to_)) := Lib.hid fun w7 hg => (cl_same (hg.block cb (Nat.lt_of_lt_of_le hcl hbX.size) (fun e => by have := hfar.out; rw [hFj] at this; exact this e.symm)) _).trans ((hbX.cell (p := ⟨cb, 3, none⟩) hcl).trans h.c3)
  have hne : cb ≠ fb := h.farf
  have Hc8 : Hid (∀ (w7 : World) (u : Value), w7.cell? ⟨cb, 3, none⟩ = some (.int .i64 to_) → (w7.setCell ⟨fb, f * 5 + 1, none⟩ u).cell? ⟨cb, 3, none⟩ = some (.int .i64 to_)) := Lib.hid fun w7 u hu => (cl_same (Below.heap_setCell _ _ _ _ hne) _).trans hu
  have s0 : w.drew.cell? ⟨cb, 3, none⟩ = some (.int .i64 to_) := h.c3
  have s1 : X.cell? ⟨cb, 3, none⟩ = some (.int .i64 to_) := (hbX.cell (p := ⟨cb, 3, none⟩) hcl).trans h.c3
  have x1 : w.drew.cell? ⟨fb, f * 5 + 1, none⟩ = some (.slice A l.length lc) := hc
  have x2 : X.cell? ⟨fb, f * 5 + 1, none⟩ = some (.slice A l.length lc) := Hxc.out
  have HX := Lib.hid hX
  rw [hX] at s1 x2
  rw [fr_lit]
  conv => arg 2; whnf
  rw [h.s4, h.s5]
  clear hi0 hz0 hz1 hz2 hnX ho hrj hFj hl hA hq hP hb hc hfz hv hX hbX hne hgl hcl hfar h
  refine wp_region_noPanic ?_
  refine wp_region_held_drew (S := fun w' => w'.cell? ⟨cb, 3, none⟩ = some (.int .i64 to_)) (by kernel_rfl) s0 (fun hHeld => ?_)
  refine wpAnyH_take (i := 0) (v := ?_) rfl (by kernel_rfl) (by kernel_rfl) (by kernel_rfl) (fun _ _ _ h => h) (Or.inl ⟨by rfl, ?_⟩) (by assumption) ?_
  rotate_left
  · (intro w hSw; (try dsimp only at hSw); first | (go_simp; done) | (go_simp; with_reducible rfl))
  try simp only [Act.put, List.setIfInBounds_toArray, List.set_cons_zero, List.set_cons_succ]
  refine wpAnyH_take (i := 1) (v := ?_) rfl (by kernel_rfl) (by kernel_rfl) (by kernel_rfl) (fun _ _ _ h => h) (Or.inl ⟨by rfl, ?_⟩) (by assumption) ?_
  rotate_left
  · (intro w hSw; (try dsimp only at hSw); first | (go_simp; done) | (go_simp; with_reducible rfl))
  try simp only [Act.put, List.setIfInBounds_toArray, List.set_cons_zero, List.set_cons_succ]
  refine wpAnyH_take (i := 2) (v := ?_) rfl (by kernel_rfl) (by kernel_rfl) (by kernel_rfl) (fun _ _ _ h => h) (Or.inl ⟨by rfl, ?_⟩) (by assumption) ?_
  rotate_left
  · (intro w hSw; (try dsimp only at hSw); first | (go_simp; done) | (go_simp; with_reducible rfl))
  try simp only [Act.put, List.setIfInBounds_toArray, List.set_cons_zero, List.set_cons_succ]
  refine wpAnyH_take (i := 3) (v := ?_) rfl (by kernel_rfl) (by kernel_rfl) (by kernel_rfl) (fun _ _ _ h => h) (Or.inl ⟨by rfl, ?_⟩) (by assumption) ?_
  rotate_left
  · (intro w hSw; (try dsimp only at hSw); first | (go_simp; done) | (go_simp; with_reducible rfl))
  try simp only [Act.put, List.setIfInBounds_toArray, List.set_cons_zero, List.set_cons_succ]
  refine wpAnyH_take (i := 5) (v := ?_) rfl (by kernel_rfl) (by kernel_rfl) (by kernel_rfl) (fun _ _ _ h => h) (Or.inl ⟨by rfl, ?_⟩) (by assumption) ?_
  rotate_left
  · (intro w hSw; (try dsimp only at hSw); first | (go_simp; done) | (go_simp; with_reducible rfl))
  try simp only [Act.put, List.setIfInBounds_toArray, List.set_cons_zero, List.set_cons_succ]
  refine wpAnyH_take (i := 6) (v := ?_) rfl (by kernel_rfl) (by kernel_rfl) (by kernel_rfl) (fun _ _ _ h => h) (Or.inl ⟨by rfl, ?_⟩) (by assumption) ?_
  rotate_left
  · (intro w hSw; (try dsimp only at hSw); first | (go_simp; done) | (go_simp; with_reducible rfl))
  try simp only [Act.put, List.setIfInBounds_toArray, List.set_cons_zero, List.set_cons_succ]
  refine wpAnyH_ready (rs := [4, 7]) (by kernel_rfl) (by simp) ?_
  refine AllReadyH.cons rfl (fun K hK => ?_) (AllReadyH.cons rfl (fun K hK => ?_) (AllReadyH.nil))
  · go_simp
    refine hK.out _ _ ?_ (fun hHeld => ?_)
    · ((try dsimp only); first | with_reducible exact s0 | with_reducible exact s1 | with_reducible exact s2 | with_reducible exact s3)
    clear hK K
    try simp only [Act.put, List.setIfInBounds_toArray, List.set_cons_zero, List.set_cons_succ]
    refine wpAnyH_ready (rs := [7]) (by kernel_rfl) (by simp) ?_
    refine AllReadyH.cons rfl (fun K hK => ?_) (AllReadyH.nil)
    go_simp
    refine hK.out _ _ ?_ (fun hHeld => ?_)
    · ((try dsimp only); first | with_reducible exact s0 | with_reducible exact s1 | with_reducible exact s2 | with_reducible exact s3)
    clear hK K
    try simp only [Act.put, List.setIfInBounds_toArray, List.set_cons_zero, List.set_cons_succ]
    refine wpAnyH_ready (rs := [8]) (by kernel_rfl) (by simp) ?_
    refine AllReadyH.cons rfl (fun K hK => ?_) (AllReadyH.nil)
    rw [← HX.out]
    refine step_append_lies _ rfl (.tmp 287) (.tmp 290) 39 rfl (B + 2) 3 i0 (.int .i64 0) 1 8 Try.underlying39 Ji.out Jz0.out Jz1.out Jz2.out rfl (by decide) (.slice A l.length lc) l.length (intsV l) (by simp [Act.eval, Act.put]) HoX.out ⟨w.heap.size, 0, none⟩ 1 1 [.int .i64 to_] (by simp [Act.eval, Act.put]) rfl HnX.out (by intro u hu; simp at hu; subst hu; rfl) (by decide) (by unfold maxLen; omega) (by omega) HbS.out _ rfl ?_
    intro gg cap w7 hown hgrow hat hlt7
    obtain ⟨F', hF', hsame⟩ := HPX.out.app Hrj.out HFj.out (x := to_) Hg3.out Hl.out (by omega) hown hgrow (hat.imp_right fun e => Nat.le_of_eq e.symm) Hrk.out Hrg.out Hq.out HP.out
    have y1 : w7.cell? ⟨fb, f * 5 + 1, none⟩ = some (.slice A l.length lc) := (cl_same hsame _).trans Hxc.out
    have y2 : w7.frozen? ⟨fb, f * 5 + 1, none⟩ = false := (fz_same hsame _).trans Hxf.out
    have s2 : w7.cell? ⟨cb, 3, none⟩ = some (.int .i64 to_) := Hc7.out _ hgrow
    have s3 : (w7.setCell ⟨fb, f * 5 + 1, none⟩ (.slice (some ⟨gg, 0, none⟩) (l.length + 1) cap)).cell? ⟨cb, 3, none⟩ = some (.int .i64 to_) := Hc8.out _ _ s2
    have HE := Lib.hid hF'
    clear hown hgrow hat hlt7 hF' hsame
    refine hK.out _ _ ?_ (fun hHeld => ?_)
    · ((try dsimp only); first | with_reducible exact s0 | with_reducible exact s1 | with_reducible exact s2 | with_reducible exact s3)
    clear hK K
    try simp only [Act.put, List.setIfInBounds_toArray, List.set_cons_zero, List.set_cons_succ]
    refine wpAnyH_take (i := 9) (v := ?_) rfl (by kernel_rfl) (by kernel_rfl) (by kernel_rfl) (fun _ _ _ h => h) (Or.inl ⟨by rfl, ?_⟩) (by assumption) ?_
    rotate_left
    · (intro w hSw; (try dsimp only at hSw); first | (go_simp; done) | (go_simp; with_reducible rfl))
    try simp only [Act.put, List.setIfInBounds_toArray, List.set_cons_zero, List.set_cons_succ]
    refine wpAnyH_take (i := 10) (v := ?_) rfl (by kernel_rfl) (by kernel_rfl) (by kernel_rfl) (fun _ _ _ h => h) (Or.inl ⟨by rfl, ?_⟩) (by assumption) ?_
    rotate_left
    · (intro w hSw; (try dsimp only at hSw); first | (go_simp; done) | (go_simp; with_reducible rfl))
    try simp only [Act.put, List.setIfInBounds_toArray, List.set_cons_zero, List.set_cons_succ]
    refine wpAnyH_ready (rs := [11]) (by kernel_rfl) (by simp) ?_
    refine AllReadyH.cons rfl (fun K hK => ?_) (AllReadyH.nil)
    go_simp
    refine hK.out _ _ ?_ (fun hHeld => ?_)
    · ((try dsimp only); first | with_reducible exact s0 | with_reducible exact s1 | with_reducible exact s2 | with_reducible exact s3)
    clear hK K
    try simp only [Act.put, List.setIfInBounds_toArray, List.set_cons_zero, List.set_cons_succ]
    refine wpAnyH_done (by kernel_rfl) ?_ _
    refine NoPanic.normal ?_
    clear y1 y2 s0 s1 s2 s3
    go_wp2
    exact hQ _ _ _ _ ⟨rfl, rfl, rfl, rfl, rfl, rfl⟩ HE.out
  · go_simp
    refine hK.out _ _ ?_ (fun hHeld => ?_)
    · ((try dsimp only); first | with_reducible exact s0 | with_reducible exact s1 | with_reducible exact s2 | with_reducible exact s3)
    clear hK K
    try simp only [Act.put, List.setIfInBounds_toArray, List.set_cons_zero, List.set_cons_succ]
    refine wpAnyH_ready (rs := [4]) (by kernel_rfl) (by simp) ?_
    refine AllReadyH.cons rfl (fun K hK => ?_) (AllReadyH.nil)
    go_simp
    refine hK.out _ _ ?_ (fun hHeld => ?_)
    · ((try dsimp only); first | with_reducible exact s0 | with_reducible exact s1 | with_reducible exact s2 | with_reducible exact s3)
    clear hK K
    try simp only [Act.put, List.setIfInBounds_toArray, List.set_cons_zero, List.set_cons_succ]
    refine wpAnyH_ready (rs := [8]) (by kernel_rfl) (by simp) ?_
    refine AllReadyH.cons rfl (fun K hK => ?_) (AllReadyH.nil)
    rw [← HX.out]
    refine step_append_lies _ rfl (.tmp 287) (.tmp 290) 39 rfl (B + 2) 3 i0 (.int .i64 0) 1 8 Try.underlying39 Ji.out Jz0.out Jz1.out Jz2.out rfl (by decide) (.slice A l.length lc) l.length (intsV l) (by simp [Act.eval, Act.put]) HoX.out ⟨w.heap.size, 0, none⟩ 1 1 [.int .i64 to_] (by simp [Act.eval, Act.put]) rfl HnX.out (by intro u hu; simp at hu; subst hu; rfl) (by decide) (by unfold maxLen; omega) (by omega) HbS.out _ rfl ?_
    intro gg cap w7 hown hgrow hat hlt7
    obtain ⟨F', hF', hsame⟩ := HPX.out.app Hrj.out HFj.out (x := to_) Hg3.out Hl.out (by omega) hown hgrow (hat.imp_right fun e => Nat.le_of_eq e.symm) Hrk.out Hrg.out Hq.out HP.out
    have y1 : w7.cell? ⟨fb, f * 5 + 1, none⟩ = some (.slice A l.length lc) := (cl_same hsame _).trans Hxc.out
    have y2 : w7.frozen? ⟨fb, f * 5 + 1, none⟩ = false := (fz_same hsame _).trans Hxf.out
    have s2 : w7.cell? ⟨cb, 3, none⟩ = some (.int .i64 to_) := Hc7.out _ hgrow
    have s3 : (w7.setCell ⟨fb, f * 5 + 1, none⟩ (.slice (some ⟨gg, 0, none⟩) (l.length + 1) cap)).cell? ⟨cb, 3, none⟩ = some (.int .i64 to_) := Hc8.out _ _ s2
    have HE := Lib.hid hF'
    clear hown hgrow hat hlt7 hF' hsame
    refine hK.out _ _ ?_ (fun hHeld => ?_)
    · ((try dsimp only); first | with_reducible exact s0 | with_reducible exact s1 | with_reducible exact s2 | with_reducible exact s3)
    clear hK K
    try simp only [Act.put, List.setIfInBounds_toArray, List.set_cons_zero, List.set_cons_succ]
    refine wpAnyH_take (i := 9) (v := ?_) rfl (by kernel_rfl) (by kernel_rfl) (by kernel_rfl) (fun _ _ _ h => h) (Or.inl ⟨by rfl, ?_⟩) (by assumption) ?_
    rotate_left
    · (intro w hSw; (try dsimp only at hSw); first | (go_simp; done) | (go_simp; with_reducible rfl))
    try simp only [Act.put, List.setIfInBounds_toArray, List.set_cons_zero, List.set_cons_succ]
    refine wpAnyH_take (i := 10) (v := ?_) rfl (by kernel_rfl) (by kernel_rfl) (by kernel_rfl) (fun _ _ _ h => h) (Or.inl ⟨by rfl, ?_⟩) (by assumption) ?_
    rotate_left
    · (intro w hSw; (try dsimp only at hSw); first | (go_simp; done) | (go_simp; with_reducible rfl))
    try simp only [Act.put, List.setIfInBounds_toArray, List.set_cons_zero, List.set_cons_succ]
    refine wpAnyH_ready (rs := [11]) (by kernel_rfl) (by simp) ?_
    refine AllReadyH.cons rfl (fun K hK => ?_) (AllReadyH.nil)
    go_simp
    refine hK.out _ _ ?_ (fun hHeld => ?_)
    · ((try dsimp only); first | with_reducible exact s0 | with_reducible exact s1 | with_reducible exact s2 | with_reducible exact s3)
    clear hK K
    try simp only [Act.put, List.setIfInBounds_toArray, List.set_cons_zero, List.set_cons_succ]
    refine wpAnyH_done (by kernel_rfl) ?_ _
    refine NoPanic.normal ?_
    clear y1 y2 s0 s1 s2 s3
    go_wp2
    exact hQ _ _ _ _ ⟨rfl, rfl, rfl, rfl, rfl, rfl⟩ HE.out
end Go.Proofs.Ythhjhdmdfneegaa
