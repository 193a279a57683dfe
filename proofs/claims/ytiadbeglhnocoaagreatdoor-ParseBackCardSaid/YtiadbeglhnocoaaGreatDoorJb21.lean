/-
  A name, or its call.
  What stands in brackets; what an expression begins with.
  What an expression begins with.
-/
import Derived.Test.YtiadbeglhnocoaaGreatDoorJb18
import Derived.Test.YtiadbeglhnocoaaGreatDoorJb20
import Derived.Deep.DeepCutAuto
namespace Go.Proofs.YtiadbeglhnocoaaGreatDoor
set_option linter.unusedVariables false
set_option linter.unusedSimpArgs false
open Go.RowKit

theorem mostD_le {k : Nat} (h : k ≤ 33554432) : mostD k ≤ 1125899906842624 := by
  unfold mostD
  have := Nat.mul_le_mul h h
  omega
/-- The reader of lists, with so much fuel. -/
def PrsC (k : Nat) : Prop := ∀ g o e s r w, partsK k o e s = some r → Ok k s → PAt w g s → Calls Tryz.prog 111 #[.pointer (some ⟨g, 0, none⟩), .string ⟨(o : List UInt8).toArray⟩, .string ⟨(e : List UInt8).toArray⟩] w (PartsPost g w r)
theorem prs_of (k : Nat) (HE : ∀ j, j < k → ExC j) : PrsC k := by
  intro g o e s r w hr hok h
  cases k with
  | zero => simp [partsK] at hr
  | succ k => exact parts_any k (fun j hj => HE j (by omega)) g o e s r w hr hok h
/-- Eight stores into one block: another one is as it was. -/
theorem eight_far {w : World} {R b o : Nat} (h : R ≠ b) {v0 v1 v2 v3 v4 v5 v6 v7 : Value} : ((((((((w.setCell ⟨R, 0, none⟩ v0).setCell ⟨R, 1, none⟩ v1).setCell ⟨R, 2, none⟩ v2).setCell ⟨R, 3, none⟩ v3).setCell ⟨R, 4, none⟩ v4).setCell ⟨R, 5, none⟩ v5).setCell ⟨R, 6, none⟩ v6).setCell ⟨R, 7, none⟩ v7).cell? ⟨b, o, none⟩ = w.cell? ⟨b, o, none⟩ := by
  have H : ∀ (w : World) (j : Nat) (u : Value), (w.setCell ⟨R, j, none⟩ u).cell? ⟨b, o, none⟩ = w.cell? ⟨b, o, none⟩ := fun w j u => World.cell?_setCell_far w ⟨R, j, none⟩ ⟨b, o, none⟩ u h
  rw [H, H, H, H, H, H, H, H]
theorem eight_heap {w : World} {R b : Nat} (h : b ≠ R) {v0 v1 v2 v3 v4 v5 v6 v7 : Value} : ((((((((w.setCell ⟨R, 0, none⟩ v0).setCell ⟨R, 1, none⟩ v1).setCell ⟨R, 2, none⟩ v2).setCell ⟨R, 3, none⟩ v3).setCell ⟨R, 4, none⟩ v4).setCell ⟨R, 5, none⟩ v5).setCell ⟨R, 6, none⟩ v6).setCell ⟨R, 7, none⟩ v7).heap[b]? = w.heap[b]? := by
  have H : ∀ (w : World) (j : Nat) (u : Value), (w.setCell ⟨R, j, none⟩ u).heap[b]? = w.heap[b]? := fun w j u => Below.heap_setCell w ⟨R, j, none⟩ u b h
  rw [H, H, H, H, H, H, H, H]
theorem eight_at {w : World} {R : Nat} {z0 z1 z2 z3 z4 z5 z6 z7 : Value} {T : TypeId} {fr : Nat × Nat} (h : w.heap[R]? = some (.cells #[z0, z1, z2, z3, z4, z5, z6, z7] T fr)) (v0 v1 v2 v3 v4 v5 v6 v7 : Value) : ((((((((w.setCell ⟨R, 0, none⟩ v0).setCell ⟨R, 1, none⟩ v1).setCell ⟨R, 2, none⟩ v2).setCell ⟨R, 3, none⟩ v3).setCell ⟨R, 4, none⟩ v4).setCell ⟨R, 5, none⟩ v5).setCell ⟨R, 6, none⟩ v6).setCell ⟨R, 7, none⟩ v7).heap[R]? = some (.cells #[v0, v1, v2, v3, v4, v5, v6, v7] T fr) := by
  have h0 := heap_set h 0 v0
  simp only [List.setIfInBounds_toArray, List.set_cons_zero] at h0
  have h1 := heap_set h0 1 v1
  simp only [List.setIfInBounds_toArray, List.set_cons_zero, List.set_cons_succ] at h1
  have h2 := heap_set h1 2 v2
  simp only [List.setIfInBounds_toArray, List.set_cons_zero, List.set_cons_succ] at h2
  have h3 := heap_set h2 3 v3
  simp only [List.setIfInBounds_toArray, List.set_cons_zero, List.set_cons_succ] at h3
  have h4 := heap_set h3 4 v4
  simp only [List.setIfInBounds_toArray, List.set_cons_zero, List.set_cons_succ] at h4
  have h5 := heap_set h4 5 v5
  simp only [List.setIfInBounds_toArray, List.set_cons_zero, List.set_cons_succ] at h5
  have h6 := heap_set h5 6 v6
  simp only [List.setIfInBounds_toArray, List.set_cons_zero, List.set_cons_succ] at h6
  have h7 := heap_set h6 7 v7
  simp only [List.setIfInBounds_toArray, List.set_cons_zero, List.set_cons_succ] at h7
  exact h7
theorem eight_below {w : World} {R B : Nat} (h : B ≤ R) {v0 v1 v2 v3 v4 v5 v6 v7 : Value} : Below B w ((((((((w.setCell ⟨R, 0, none⟩ v0).setCell ⟨R, 1, none⟩ v1).setCell ⟨R, 2, none⟩ v2).setCell ⟨R, 3, none⟩ v3).setCell ⟨R, 4, none⟩ v4).setCell ⟨R, 5, none⟩ v5).setCell ⟨R, 6, none⟩ v6).setCell ⟨R, 7, none⟩ v7) :=
  ((((((((Below.refl B w).setCell (p := ⟨R, 0, none⟩) h v0).setCell (p := ⟨R, 1, none⟩) h v1).setCell (p := ⟨R, 2, none⟩) h v2).setCell (p := ⟨R, 3, none⟩) h v3).setCell (p := ⟨R, 4, none⟩) h v4).setCell (p := ⟨R, 5, none⟩) h v5).setCell (p := ⟨R, 6, none⟩) h v6).setCell (p := ⟨R, 7, none⟩) h v7
/-- What was made behind some blocks, and ahead of others. -/
theorem own_end2 {w w3 W' : World} {g N : Nat} {S : Nat → Prop} {r : Part × PS} {v : Value} (hS : ∀ b, S b → w.heap.size + N ≤ b ∧ b < w3.heap.size) (hv : PartV w3 S v r.1)
    (hfar : ∀ b, w.heap.size + N ≤ b → b < w3.heap.size → W'.heap[b]? = w3.heap[b]?) (hp : PAt W' g r.2) (hbut : But g w W') (hz : w3.heap.size ≤ W'.heap.size) : WholePost g NoB w r (.returned v) W' := by
  refine ⟨v, rfl, ?_, hp, hbut⟩
  refine (hv.far (fun b hb' => hfar b (hS b hb').1 (hS b hb').2)).more (fun b hb' => Or.inr ?_)
  have h1 := hS b hb'
  exact ⟨by omega, by omega⟩
/-- What was made behind some blocks of the call's own. -/
theorem own_end {w w3 W' : World} {g N : Nat} {S : Nat → Prop} {r : Part × PS} {v : Value} (hgl : g < w.heap.size) (hS : ∀ b, S b → w.heap.size + N ≤ b ∧ b < w3.heap.size) (hv : PartV w3 S v r.1) (hp : PAt w3 g r.2) (hbut : But g w w3)
    (hfar : ∀ b, w.heap.size + N ≤ b → W'.heap[b]? = w3.heap[b]?) (hbe : Below w.heap.size w3 W') : WholePost g NoB w r (.returned v) W' := by
  refine ⟨v, rfl, ?_, hp.up (hbe.mono (by omega)), hbut.up hbe⟩
  refine (hv.far (fun b hb' => hfar b (hS b hb').1)).more (fun b hb' => Or.inr ?_)
  have h1 := hS b hb'
  have h2 := hbe.size
  exact ⟨by omega, by omega⟩
theorem cells7' {w : World} {b : Nat} {v0 v1 v2 v3 v4 v5 v6 : Value} {T : TypeId} (h : w.heap[b]? = some (.cells #[v0, v1, v2, v3, v4, v5, v6] T (0, 0))) : w.cell? ⟨b, 0, none⟩ = some v0 ∧ w.cell? ⟨b, 1, none⟩ = some v1 ∧ w.cell? ⟨b, 2, none⟩ = some v2 ∧ w.cell? ⟨b, 3, none⟩ = some v3 ∧ w.cell? ⟨b, 4, none⟩ = some v4 ∧ w.cell? ⟨b, 5, none⟩ = some v5 ∧ w.cell? ⟨b, 6, none⟩ = some v6 :=
  ⟨Lib.cell_of_heap h 0, Lib.cell_of_heap h 1, Lib.cell_of_heap h 2, Lib.cell_of_heap h 3, Lib.cell_of_heap h 4, Lib.cell_of_heap h 5, Lib.cell_of_heap h 6⟩
theorem cells4 {w : World} {b : Nat} {v0 v1 v2 v3 : Value} {T : TypeId} (h : w.heap[b]? = some (.cells #[v0, v1, v2, v3] T (0, 0))) : w.cell? ⟨b, 0, none⟩ = some v0 ∧ w.cell? ⟨b, 1, none⟩ = some v1 ∧ w.cell? ⟨b, 2, none⟩ = some v2 ∧ w.cell? ⟨b, 3, none⟩ = some v3 ∧ ∀ j, w.frozen? ⟨b, j, none⟩ = false :=
  ⟨Lib.cell_of_heap h 0, Lib.cell_of_heap h 1, Lib.cell_of_heap h 2, Lib.cell_of_heap h 3, fun j => Lib.frozen_of_heap h j⟩
theorem PartV.intro {w : World} {S : Nat → Prop} {p : Part} (k a t o n : Int) (s : ByteArray) (kids : List Ex) (K : Option Addr) (c : Nat) (d : Int) (hp : p = (.mk k a t o n s kids, d)) (hk : RdEs w S K 0 kids) : PartV w S (partV k a t o n s K kids.length (kids.length + c) d) p := ⟨k, a, t, o, n, s, kids, K, c, d, hp, rfl, hk⟩
theorem three_al (w : World) (x y z : Array Value) (T T' T'' : TypeId) : ∃ W, W = ((w.alloc (.cells x T)).alloc (.cells y T')).alloc (.cells z T'') ∧ Below w.heap.size w W ∧ W.heap.size = w.heap.size + 3 ∧ W.heap[w.heap.size]? = some (.cells x T (0, 0)) ∧ W.heap[w.heap.size + 1]? = some (.cells y T' (0, 0)) ∧ W.heap[w.heap.size + 2]? = some (.cells z T'' (0, 0)) := by
  obtain ⟨W, hW, hb, hz, h0, h1⟩ := two_al w x y T T'
  have hn : Below W.heap.size W (W.alloc (.cells z T'')) := (Below.refl _ _).alloc (Nat.le_refl _) _
  refine ⟨W.alloc (.cells z T''), by rw [hW], hb.trans (hn.mono (by omega)), by simp [hz], (hn.block _ (by omega)).trans h0, (hn.block _ (by omega)).trans h1, ?_⟩
  have h2 := heap_alloc_new W (.cells z T'')
  rw [hz] at h2
  exact h2
set_option maxRecDepth 100000 in
set_option maxHeartbeats 8000000 in
theorem called_any (k : Nat) (HP : PrsC k) (g : Nat) (t : Tk) (s : PS) (r : Part × PS) (w : World) (hr : calledK (k + 1) t s = some r) (hok : Ok (k + 1) s) (h : PAt w g s) :
    Calls Tryz.prog 98 #[.pointer (some ⟨g, 0, none⟩), tkV t] w (WholePost g NoB w r) := by
  have hgl := h.lt
  simp only [calledK] at hr
  obtain ⟨tk, ta, tn, tb⟩ := t
  simp only at hr
  unfold tkV
  obtain ⟨W, hW, hbW, hzW, hbT, hbR, hbE⟩ := three_al w #[.int .i64 tk, .int .i64 ta, .int .i64 tn, .string ⟨tb.toArray⟩] #[.int .i64 0, .int .i64 0, .int .i64 0, .int .i64 0, .int .i64 0, .string ⟨#[]⟩, .slice none 0 0, .int .i64 0] #[.int .i64 3, .int .i64 ta, .int .i64 0, .int .i64 0, .int .i64 0, .string ⟨tb.toArray⟩, .slice none 0 0] 56 124 96
  have hPW := h.keep hbW
  have hI := is_any g s ([40] : List UInt8) W hPW
  have HbW := Lib.hid hbW
  have HbE := Lib.hid hbE
  have HbR := Lib.hid hbR
  have HPW := Lib.hid hPW
  by_cases hB : s.isB ([40] : List UInt8) = true
  · rw [if_pos hB] at hr
    rw [hB] at hI
    cases hp : partsK k ([40] : List UInt8) ([41] : List UInt8) s with
    | none => rw [hp] at hr; cases hr
    | some q =>
      rw [hp] at hr
      obtain ⟨l, s1⟩ := q
      simp only [Option.some.injEq] at hr
      obtain ⟨hev, hlk, hdp⟩ := (pure_all k).parts _ _ _ _ hp
      have hk25 : k ≤ 33554432 := by unfold Ok at hok; omega
      have hdk := mostD_le hk25
      have hok1 : Ok k s1 := (hok.even hev).less (Nat.le_succ k)
      have hX := fun (S : Nat → Prop) (A : Option Addr) (cap : Nat) w2 (hp2 : PAt w2 g s1) (hS : ∀ b, S b → g < b ∧ b < w2.heap.size) (hR : RdPs w2 S A l) => whole_any g s1 S 8 ta 0 0 (strB tb) l A cap w2 hp2 hS (by simp only at hlk; omega) hR (fun p hp => ⟨(hdp p hp).1, by have := (hdp p hp).2; omega⟩) (by unfold Ok at hok1; omega) (by unfold Ok at hok1; omega)
      rw [hr] at hX
      unfold strB at hX
      have hQ := fun w2 (hp2 : PAt w2 g s) => HP g ([40] : List UInt8) ([41] : List UInt8) s (l, s1) w2 hp (hok.less (Nat.le_succ k)) hp2
      rw [hW] at hI
      clear hB hr hok HP h hPW hbW hbT hbR hbE hp hev hlk hdp hok1 hk25 hdk
      go_enter Tryz.func98, Tryz.ntmps98
      go_upto_region 5 with (go_at_call 61; refine hI.mono ?_; rintro e w2 ⟨rfl, hb2⟩; rw [← hW] at hb2; have HR2 := Lib.hid ((hb2.block (w.heap.size + 1) (by omega)).trans HbR.out); have HE2 := (hb2.block (w.heap.size + 2) (by omega)).trans HbE.out; obtain ⟨e0, e1, e2, e3, e4, e5, e6, ef⟩ := cells7 HE2; replace HE2 := Lib.hid HE2; have hz2 : w.heap.size + 2 < w2.heap.size := (by have := hb2.size; omega); have Hb2 := Lib.hid hb2; clear hb2 hI)
      obtain ⟨w4, hw4⟩ : ∃ w4, w4 = w2.setCell ⟨w.heap.size + 2, 0, none⟩ (.int .i64 8) := ⟨_, rfl⟩
      rw [← hw4]
      have hbw4 : Below w.heap.size w w4 := by rw [hw4]; exact ((HbW.out.trans (Hb2.out.mono (by omega)))).setCell (by simp) _
      have hP4 : PAt w4 g s := by rw [hw4]; exact (HPW.out.keep Hb2.out).up ((Below.refl _ _).setCell (by simp; omega) _)
      have HR4 : Hid (w4.heap[w.heap.size + 1]? = some (.cells #[.int .i64 0, .int .i64 0, .int .i64 0, .int .i64 0, .int .i64 0, .string ⟨#[]⟩, .slice none 0 0, .int .i64 0] 124 (0, 0))) := by rw [hw4]; exact (Below.heap_setCell _ _ _ _ (by simp)).trans HR2.out
      have hE4 : w4.heap[w.heap.size + 2]? = some (.cells #[.int .i64 8, .int .i64 ta, .int .i64 0, .int .i64 0, .int .i64 0, .string ⟨tb.toArray⟩, .slice none 0 0] 96 (0, 0)) := by rw [hw4]; exact heap_set HE2.out 0 _
      have hz4 : w.heap.size + 2 < w4.heap.size := by rw [hw4]; simpa using hz2
      clear e0 e1 e2 e3 e4 e5 e6 ef HR2 HE2 Hb2 hz2 hw4
      obtain ⟨e0, e1, e2, e3, e4, e5, e6, ef⟩ := cells7 hE4
      have HE4 := Lib.hid hE4
      have HP4 := Lib.hid hP4
      have Hbw4 := Lib.hid hbw4
      have hQ4 := hQ w4.drew (hP4.up (Below.refl _ _).drew)
      have s0 := cells7' (w := w4.drew) HE4.out
      clear hQ hE4 hP4 hbw4
      go_region_held3 (fun w' => w'.cell? ⟨w.heap.size + 2, 0, none⟩ = some (.int .i64 8) ∧ w'.cell? ⟨w.heap.size + 2, 1, none⟩ = some (.int .i64 ta) ∧ w'.cell? ⟨w.heap.size + 2, 2, none⟩ = some (.int .i64 0) ∧ w'.cell? ⟨w.heap.size + 2, 3, none⟩ = some (.int .i64 0) ∧ w'.cell? ⟨w.heap.size + 2, 4, none⟩ = some (.int .i64 0) ∧ w'.cell? ⟨w.heap.size + 2, 5, none⟩ = some (.string ⟨tb.toArray⟩) ∧ w'.cell? ⟨w.heap.size + 2, 6, none⟩ = some (.slice none 0 0)) (first | with_reducible exact s0 | with_reducible exact sA | with_reducible exact sB | (simp only [eight_far (show w.heap.size + 1 ≠ w.heap.size + 2 by omega)]; with_reducible exact sB)) (first
        | (go_at_call 111; refine hQ4.mono ?_; rintro e w2 ⟨A, cap, rfl, hc1, hc2, hrd, hp5, hb5⟩; have hb5' : But g w4 w2 := ((But.refl g w4).drew).trans hb5; have HE2 := (hb5'.block (w.heap.size + 2) (by omega) (by omega)).trans HE4.out; have sA := cells7' HE2; have HR2 := Lib.hid ((hb5'.block (w.heap.size + 1) (by omega) (by omega)).trans HR4.out); have hz2 : w.heap.size + 2 < w2.heap.size := (by have := hb5'.size; omega); have hSo : ∀ b, From w4.heap.size w2 b → w.heap.size + 3 ≤ b ∧ b < w2.heap.size := (fun b hb => ⟨(by have := hb.1; omega), hb.2⟩); have hX2 := hX (From w4.heap.size w2) A cap w2 hp5 (fun b hb => ⟨(by have := (hSo b hb).1; omega), hb.2⟩) hrd; have HSo := Lib.hid hSo; have Hbut2 : Hid (But g w w2) := Lib.hid ((But.of_below Hbw4.out).trans hb5'); replace HE2 := Lib.hid HE2; clear hb5 hb5' hp5 hrd hc1 hc2 hSo hX hQ4)
        | (go_at_call 110; refine hX2.mono ?_; rintro e w3 ⟨v, rfl, hv, hp3, hb3⟩; obtain ⟨vk, va, vt, vo, vn, vs, kids, PK, c, d, hre, rfl, hk⟩ := hv; have HR3 := (hb3.block (w.heap.size + 1) (by omega) (by omega)).trans HR2.out; obtain ⟨r0, r1, r2, r3, r4, r5, r6, r7, rf⟩ := cells8 HR3; have hz3 := Nat.lt_of_lt_of_le hz2 hb3.size; have Hv := Lib.hid (PartV.intro vk va vt vo vn vs kids PK c d hre hk); have Hp3 := Lib.hid hp3; have Hb3 := Lib.hid hb3; clear hk hb3 HR3 hX2 hp3 hre; unfold partV; have HE3 := Lib.hid ((Hb3.out.block (w.heap.size + 2) (by omega) (by omega)).trans HE2.out); have sB := cells7' HE3.out))
      all_goals
        go_wp2
        refine bodyPost_ret (v := partV vk va vt vo vn vs PK kids.length (kids.length + c) d) (by simp [results, Tryz.results98, go_sem, partV, r0, r1, r2, r3, r4, r5, r6, r7]) rfl ?_
        refine own_end (N := 3) hgl ?_ Hv.out Hp3.out (Hbut2.out.trans Hb3.out) ?_ ?_
        · intro b hb'
          have := Hb3.out.size
          rcases hb' with h1 | ⟨h1, h2⟩
          · exact ⟨(HSo.out b h1).1, by have := (HSo.out b h1).2; omega⟩
          · exact ⟨by omega, by omega⟩
        · intro b hb1
          repeat (with_reducible refine (Below.heap_setCell _ _ _ _ (by simp; omega)).trans ?_)
          rfl
        · repeat (first | with_reducible exact Below.refl _ _ | with_reducible refine Below.setCell ?_ (by first | (simp; done) | (simp; omega)) _)
  · rw [if_neg hB] at hr
    simp only [Option.some.injEq] at hr
    have hBf : s.isB ([40] : List UInt8) = false := by simpa using hB
    rw [hBf] at hI
    have hX := fun w2 (hp : PAt w2 g s) => whole_any g s NoB 3 ta 0 0 (strB tb) [] none 0 w2 hp (fun b hb => absurd hb (by unfold NoB; simp)) (by simp) (fun hl => by simp at hl) (fun p hp => by simp at hp) (by unfold Ok at hok; omega) (by unfold Ok at hok; omega)
    rw [hr] at hX
    unfold strB at hX
    rw [hW] at hI
    clear hB hBf hr hok HP h hPW hbW hbT hbR hbE
    go_enter Tryz.func98, Tryz.ntmps98
    go_wp2_with (first
      | (go_at_call 61; refine hI.mono ?_; rintro e w2 ⟨rfl, hb2⟩; rw [← hW] at hb2; have hbut2 : But g w w2 := But.of_below (HbW.out.trans (hb2.mono (by omega))); have HR2 := Lib.hid ((hb2.block (w.heap.size + 1) (by omega)).trans HbR.out); have HE2 := (hb2.block (w.heap.size + 2) (by omega)).trans HbE.out; obtain ⟨e0, e1, e2, e3, e4, e5, e6, ef⟩ := cells7 HE2; have hz2 : w.heap.size + 2 < w2.heap.size := (by have := hb2.size; omega); have hX2 := hX w2 (HPW.out.keep hb2); have HSo : Hid (∀ b, NoB b → w.heap.size + 3 ≤ b ∧ b < w2.heap.size) := Lib.hid (fun b hb => absurd hb (by unfold NoB; simp)); have Hbut2 := Lib.hid hbut2; clear hb2 hbut2 hI hX HE2)
      | (go_at_call 110; refine hX2.mono ?_; rintro e w3 ⟨v, rfl, hv, hp3, hb3⟩; obtain ⟨vk, va, vt, vo, vn, vs, kids, PK, c, d, hre, rfl, hk⟩ := hv; have HR3 := (hb3.block (w.heap.size + 1) (by omega) (by omega)).trans HR2.out; obtain ⟨r0, r1, r2, r3, r4, r5, r6, r7, rf⟩ := cells8 HR3; have hz3 := Nat.lt_of_lt_of_le hz2 hb3.size; have Hv := Lib.hid (PartV.intro vk va vt vo vn vs kids PK c d hre hk); have Hp3 := Lib.hid hp3; have Hb3 := Lib.hid hb3; clear hk hb3 HR3 hX2 hp3 hre; unfold partV))
    refine bodyPost_ret (v := partV vk va vt vo vn vs PK kids.length (kids.length + c) d) (by simp [results, Tryz.results98, go_sem, partV, r0, r1, r2, r3, r4, r5, r6, r7]) rfl ?_
    refine own_end (N := 3) hgl ?_ Hv.out Hp3.out (Hbut2.out.trans Hb3.out) ?_ ?_
    · intro b hb'
      have := Hb3.out.size
      rcases hb' with h1 | ⟨h1, h2⟩
      · exact ⟨(HSo.out b h1).1, by have := (HSo.out b h1).2; omega⟩
      · exact ⟨by omega, by omega⟩
    · intro b hb1
      repeat (with_reducible refine (Below.heap_setCell _ _ _ _ (by simp; omega)).trans ?_)
      rfl
    · repeat (first | with_reducible exact Below.refl _ _ | with_reducible refine Below.setCell ?_ (by first | (simp; done) | (simp; omega)) _)
end Go.Proofs.YtiadbeglhnocoaaGreatDoor
namespace Go.Proofs.YtiadbeglhnocoaaGreatDoor
set_option linter.unusedVariables false
set_option linter.unusedSimpArgs false
open Go.RowKit

theorem need1_n (g : Nat) (s : PS) (b : List UInt8) (w : World) (n : Nat) (hn : n = w.heap.size) (h : PAt w g s) :
    Calls Tryz.prog 38 #[.pointer (some ⟨g, 0, none⟩), .slice (some ⟨n, 0, none⟩) 1 1] (w.alloc (.cells #[.string ⟨b.toArray⟩] 9)) (Mv g w (s.need1 b)) := by
  subst hn
  exact need1_at g s b w h
theorem one_al (w : World) (x : Array Value) (T : TypeId) : ∃ W, W = w.alloc (.cells x T) ∧ Below w.heap.size w W ∧ W.heap.size = w.heap.size + 1 ∧ W.heap[w.heap.size]? = some (.cells x T (0, 0)) :=
  ⟨_, rfl, (Below.refl _ _).alloc (Nat.le_refl _) _, by simp, heap_alloc_new w _⟩
set_option maxRecDepth 100000 in
set_option maxHeartbeats 8000000 in
theorem bracketed_any (k : Nat) (HE : ExC k) (g : Nat) (s : PS) (x : Part) (s2 : PS) (w : World) (hx : exprK k (s.need1 ([40] : List UInt8)).enter = some (x, s2)) (hok : Ok (k + 1) s) (h : PAt w g s) :
    Calls Tryz.prog 123 #[.pointer (some ⟨g, 0, none⟩)] w (WholePost g NoB w (x, (s2.need1 ([41] : List UInt8)).leave)) := by
  have hgl := h.lt
  obtain ⟨W, hW, hbW, hzW, hbR⟩ := one_al w #[.int .i64 0, .int .i64 0, .int .i64 0, .int .i64 0, .int .i64 0, .string ⟨#[]⟩, .slice none 0 0, .int .i64 0] 124
  have hN := need1_n g s ([40] : List UInt8) W (w.heap.size + 1) hzW.symm (h.keep hbW)
  have hn0 : (s.need1 ([40] : List UInt8)).nest = s.nest := (even_need1 s _).1
  have hoke : Ok k (s.need1 ([40] : List UInt8)).enter := (hok.even (even_need1 s _)).enter
  have hev := ((pure_all k).expr _ _ hx).1
  have hns2 : s2.nest = s.nest + 1 := by
    have := hev.1
    simp only at this
    rw [this, (enter_nest _).1, hn0]
  have hn3 : (s2.need1 ([41] : List UInt8)).nest = s.nest + 1 := by rw [(even_need1 s2 _).1, hns2]
  obtain ⟨s0, hs0⟩ : ∃ s0, s0 = s.need1 ([40] : List UInt8) := ⟨_, rfl⟩
  rw [← hs0] at hN hn0 hx hoke
  have hok2 := hok
  unfold Ok at hok2
  have hE := fun w' (hp : PAt w' g s0) => enter_any g s0 w' hp (by omega) (by omega)
  obtain ⟨s1, hs1⟩ : ∃ s1, s1 = s0.enter := ⟨_, rfl⟩
  rw [← hs1] at hE hx hoke
  have hX := fun w' (hp : PAt w' g s1) => HE g s1 (x, s2) w' hx hoke hp
  have hM := fun w' n hn (hp : PAt w' g s2) => need1_n g s2 ([41] : List UInt8) w' n hn hp
  obtain ⟨s3, hs3⟩ : ∃ s3, s3 = s2.need1 ([41] : List UInt8) := ⟨_, rfl⟩
  rw [← hs3] at hM hn3 ⊢
  have HR := Lib.hid hbR
  have HbW := Lib.hid hbW
  have Hn3 := Lib.hid hn3
  have Hok2 := Lib.hid hok2
  rw [hW] at hN
  clear hs0 hs1 hs3 hx hoke hok hok2 hev hns2 hn0 hn3 hbR hbW HE h
  go_enter_defers Tryz.func123, Tryz.ntmps123
  go_wp2_with (go_at_call 38; refine hN.mono ?_; rintro r w1 ⟨rfl, hp, hb⟩; rw [← hW] at hb; have hE1 := hE w1 hp; have hb1 := (But.of_below (g := g) HbW.out).trans hb; have hR1 := (hb.block w.heap.size (by omega) (by omega)).trans HR.out; have Hb1 := Lib.hid hb1; have HR1 := Lib.hid hR1; clear hp hb hN hb1 hR1 hE)
  go_wp2_with (go_at_call 59; refine hE1.mono ?_; rintro r w2 ⟨rfl, hp, hb⟩; have hX2 := hX w2 hp; have hR2 := (hb.block w.heap.size (heap_lt HR1.out) (by omega)).trans HR1.out; have Hb2 := Lib.hid (Hb1.out.trans hb); have HR2 := Lib.hid hR2; have hz2 := heap_lt hR2; clear hp hb hE1 hR2 hX)
  go_wp2_with (go_at_call 88; refine hX2.mono ?_; rintro r w3 ⟨v, rfl, hv, hp, hb⟩; obtain ⟨vk, va, vt, vo, vn, vs, kids, PK, c, d, hre, rfl, hk⟩ := hv; unfold partV)
  obtain ⟨W3, hW3, hbW3, hzW3, hbX3⟩ := one_al w3 #[.int .i64 vk, .int .i64 va, .int .i64 vt, .int .i64 vo, .int .i64 vn, .string vs, .slice PK kids.length (kids.length + c), .int .i64 d] 124
  have hM3 := hM W3 (w3.heap.size + 1) hzW3.symm (hp.keep hbW3)
  have hb3 := (Hb2.out.trans hb)
  have HR3 := Lib.hid ((hbW3.block _ (Nat.lt_of_lt_of_le hz2 hb.size)).trans ((hb.block w.heap.size hz2 (by omega)).trans HR2.out))
  have HX3 := Lib.hid hbX3
  have hz3 : w.heap.size < w3.heap.size := Nat.lt_of_lt_of_le hz2 hb.size
  have Hv := Lib.hid (PartV.intro vk va vt vo vn vs kids PK c d hre hk)
  have Hb3 := Lib.hid hb3
  have HbW3 := Lib.hid hbW3
  have Hb23 := Lib.hid hb
  rw [hW3] at hM3
  clear hM hp hb hre hk hbX3 hb3 hbW3 hX2
  go_wp2_with (go_at_call 38; refine hM3.mono ?_; rintro r w4 ⟨rfl, hp, hb⟩; rw [← hW3] at hb; have hX4 := (hb.block w3.heap.size (by omega) (by omega)).trans HX3.out; have hR4 := (hb.block w.heap.size (by omega) (by omega)).trans HR3.out; obtain ⟨x0, x1, x2, x3, x4, x5, x6, x7, xf⟩ := cells8 hX4; obtain ⟨r0, r1, r2, r3, r4, r5, r6, r7, rf⟩ := cells8 hR4; have hz4 : w3.heap.size < w4.heap.size := heap_lt hX4; have HR4 := Lib.hid hR4; have Hp4 := Lib.hid hp; have Hb4 := Lib.hid hb; clear hp hb hM3 hX4 hR4)
  refine leaves_cons (f := 60) (args := #[.pointer (some ⟨g, 0, none⟩)]) (by simp) (by simp [go_sem]) ?_
  refine (leave_d g s3 .returning _ (Hp4.out.up ?_) (by have := Hn3.out; have := Hok2.out; omega) (by have := Hn3.out; have := Hok2.out; omega)).mono ?_
  · repeat (first | with_reducible exact Below.refl _ _ | with_reducible refine Below.setCell ?_ (by first | (simp; done) | (simp; omega)) _)
  rintro r u' w'' ⟨rfl, rfl, hp, hb⟩
  have hRR := (hb.block w.heap.size (by simp; omega) (by omega)).trans (eight_at HR4.out _ _ _ _ _ _ _ _)
  obtain ⟨q0, q1, q2, q3, q4, q5, q6, q7, _⟩ := cells8 hRR
  have hz' := hb.size
  simp at hz'
  refine ⟨partV vk va vt vo vn vs PK kids.length (kids.length + c) d, by simp [results, Tryz.results123, go_sem, partV, q0, q1, q2, q3, q4, q5, q6, q7], ?_⟩
  refine own_end2 (N := 1) (w3 := w3) (S := Or' NoB w2 w3) (fun b hb' => ?_) Hv.out (fun b hb1 hb2 => ?_) hp ?_ (by omega)
  · rcases hb' with h1 | ⟨h1, h2⟩
    · exact absurd h1 (by unfold NoB; simp)
    · exact ⟨by omega, h2⟩
  · exact (hb.block b (by simp; omega) (by omega)).trans ((eight_heap (by omega)).trans ((Hb4.out.block b (by omega) (by omega)).trans (HbW3.out.block b hb2)))
  · have h1 := (Hb3.out.trans (But.of_below HbW3.out)).trans Hb4.out
    exact (But.up h1 (eight_below (by omega))).trans hb
end Go.Proofs.YtiadbeglhnocoaaGreatDoor
namespace Go.Proofs.YtiadbeglhnocoaaGreatDoor
set_option linter.unusedVariables false
set_option linter.unusedSimpArgs false
open Go.RowKit

def CaC (k : Nat) : Prop := ∀ g t s r w, calledK k t s = some r → Ok k s → PAt w g s → Calls Tryz.prog 98 #[.pointer (some ⟨g, 0, none⟩), tkV t] w (WholePost g NoB w r)
def KeC (k : Nat) : Prop := ∀ g t s r w, keptK k t s = some r → Ok k s → PAt w g s → Calls Tryz.prog 124 #[.pointer (some ⟨g, 0, none⟩), tkV t] w (WholePost g NoB w r)
set_option maxRecDepth 100000 in
set_option maxHeartbeats 8000000 in
theorem first_any (k : Nat) (HEx : ExC k) (HCa : CaC k) (HKe : KeC k) (g : Nat) (s : PS) (r : Part × PS) (w : World) (hr : firstK (k + 1) s = some r) (hok : Ok (k + 1) s) (h : PAt w g s) :
    Calls Tryz.prog 116 #[.pointer (some ⟨g, 0, none⟩)] w (WholePost g NoB w r) := by
  have hgl := h.lt
  simp only [firstK] at hr
  obtain ⟨W, hW, hbW, hzW, hbR⟩ := one_al w #[.int .i64 0, .int .i64 0, .int .i64 0, .int .i64 0, .int .i64 0, .string ⟨#[]⟩, .slice none 0 0, .int .i64 0] 124
  have hPW := h.keep hbW
  have hI := is_any g s ([40] : List UInt8) W hPW
  have hN := fun w2 (hp2 : PAt w2 g s) => next_any g s w2 hp2
  have HbW := Lib.hid hbW
  have HbR := Lib.hid hbR
  have HPW := Lib.hid hPW
  by_cases hB : s.isB ([40] : List UInt8) = true
  · rw [if_pos hB] at hr
    rw [hB] at hI
    cases hx : exprK k (s.need1 ([40] : List UInt8)).enter with
    | none => rw [hx] at hr; cases hr
    | some q =>
      rw [hx] at hr
      obtain ⟨x, s2⟩ := q
      simp only [Option.some.injEq] at hr
      have hX := fun w2 (hp2 : PAt w2 g s) => bracketed_any k HEx g s x s2 w2 hx hok hp2
      rw [hr] at hX
      rw [hW] at hI
      clear hB hr hok h hPW hbW hbR HEx HCa HKe hx hN
      go_enter Tryz.func116, Tryz.ntmps116
      go_wp2_with (first
        | (go_at_call 61; refine hI.mono ?_; rintro e w1 ⟨rfl, hb1⟩; rw [← hW] at hb1; have hbut1 : But g w w1 := But.of_below (HbW.out.trans (hb1.mono (by omega))); have HR1 := Lib.hid ((hb1.block w.heap.size (by omega)).trans HbR.out); have hz1 : w.heap.size < w1.heap.size := (by have := hb1.size; omega); have hp1 := HPW.out.keep hb1; have HR2 := HR1; have hz2 := hz1; have Hbut2 := Lib.hid hbut1; have hX2 := hX w1 hp1; have HSo : Hid (∀ b, NoB b → w.heap.size + 1 ≤ b ∧ b < w1.heap.size) := Lib.hid (fun b hb => absurd hb (by unfold NoB; simp)); clear hX; clear hb1 hbut1 hp1 hI)
        | (go_at_call 123; refine hX2.mono ?_; rintro e w3 ⟨v, rfl, hv, hp3, hb3⟩; obtain ⟨vk, va, vt, vo, vn, vs, kids, PK, c, d, hre, rfl, hk⟩ := hv; have HR3 := (hb3.block (w.heap.size) (by omega) (by omega)).trans HR2.out; obtain ⟨r0, r1, r2, r3, r4, r5, r6, r7, rf⟩ := cells8 HR3; have hz3 := Nat.lt_of_lt_of_le hz2 hb3.size; have Hv := Lib.hid (PartV.intro vk va vt vo vn vs kids PK c d hre hk); have Hp3 := Lib.hid hp3; have Hb3 := Lib.hid hb3; clear hk hb3 HR3 hX2 hp3 hre; unfold partV))
      refine bodyPost_ret (v := partV vk va vt vo vn vs PK kids.length (kids.length + c) d) (by simp [results, Tryz.results116, go_sem, partV, r0, r1, r2, r3, r4, r5, r6, r7]) rfl ?_
      refine own_end (N := 1) hgl ?_ Hv.out Hp3.out (Hbut2.out.trans Hb3.out) ?_ ?_
      · intro b hb'
        have := Hb3.out.size
        rcases hb' with h1 | ⟨h1, h2⟩
        · exact ⟨(HSo.out b h1).1, by have := (HSo.out b h1).2; omega⟩
        · exact ⟨by omega, by omega⟩
      · intro b hb1
        repeat (with_reducible refine (Below.heap_setCell _ _ _ _ (by simp; omega)).trans ?_)
        rfl
      · repeat (first | with_reducible exact Below.refl _ _ | with_reducible refine Below.setCell ?_ (by first | (simp; done) | (simp; omega)) _)
  · rw [if_neg hB] at hr
    have hBf : s.isB ([40] : List UInt8) = false := by simpa using hB
    rw [hBf] at hI
    obtain ⟨t, hnow⟩ : ∃ t, t = s.now := ⟨_, rfl⟩
    rw [← hnow] at hr hN
    obtain ⟨s', hs'⟩ : ∃ s', s' = s.next := ⟨_, rfl⟩
    have hok' : Ok k s' := by rw [hs']; exact (hok.even (even_next s)).less (Nat.le_succ k)
    rw [← hs'] at hr hN
    obtain ⟨tk, ta, tn, tb⟩ := t
    unfold tkV at hN
    simp only at hr
    by_cases h2 : tk = 2
    · rw [if_pos h2] at hr
      subst h2
      simp only [Option.some.injEq] at hr
      have hX := fun w2 (hp : PAt w2 g s') => whole_any g s' NoB 1 ta 0 tn ⟨#[]⟩ [] none 0 w2 hp (fun b hb => absurd hb (by unfold NoB; simp)) (by simp) (fun hl => by simp at hl) (fun p hp => by simp at hp) (by unfold Ok at hok'; omega) (by unfold Ok at hok'; omega)
      rw [hr] at hX
      clear hok' hs'
      rw [hW] at hI
      clear hB hBf hr hok h hPW hbW hbR HEx HCa HKe hnow
      go_enter Tryz.func116, Tryz.ntmps116
      go_wp2_with (first
        | (go_at_call 61; refine hI.mono ?_; rintro e w1 ⟨rfl, hb1⟩; rw [← hW] at hb1; have hbut1 : But g w w1 := But.of_below (HbW.out.trans (hb1.mono (by omega))); have HR1 := Lib.hid ((hb1.block w.heap.size (by omega)).trans HbR.out); have hz1 : w.heap.size < w1.heap.size := (by have := hb1.size; omega); have hp1 := HPW.out.keep hb1; have hN1 := hN w1 hp1; have Hbut1 := Lib.hid hbut1; clear hN; clear hb1 hbut1 hp1 hI)
        | (go_at_call 58; refine hN1.mono ?_; rintro e w4 ⟨rfl, hp4, hb4⟩; obtain ⟨W4, hW4, hbW4, hzW4, hbT4⟩ := one_al w4 #[.int .i64 2, .int .i64 ta, .int .i64 tn, .string ⟨tb.toArray⟩] 56; have HR2 := Lib.hid ((hbW4.block w.heap.size (Nat.lt_of_lt_of_le hz1 hb4.size)).trans ((hb4.block w.heap.size hz1 (by omega)).trans HR1.out)); have hz2 : w.heap.size < W4.heap.size := (by have := hb4.size; omega); have Hbut2 := Lib.hid ((Hbut1.out.trans hb4).trans (But.of_below hbW4)); have hX2 := hX W4 (hp4.keep hbW4); have HSo : Hid (∀ b, NoB b → w.heap.size + 1 ≤ b ∧ b < W4.heap.size) := Lib.hid (fun b hb => absurd hb (by unfold NoB; simp)); rw [hW4] at hX2; clear hp4 hb4 hX hN1 hbW4)
        | (go_at_call 110; refine hX2.mono ?_; rintro e w3 ⟨v, rfl, hv, hp3, hb3⟩; rw [← hW4] at hv hb3; obtain ⟨vk, va, vt, vo, vn, vs, kids, PK, c, d, hre, rfl, hk⟩ := hv; have HR3 := (hb3.block (w.heap.size) (by omega) (by omega)).trans HR2.out; obtain ⟨r0, r1, r2, r3, r4, r5, r6, r7, rf⟩ := cells8 HR3; have hz3 := Nat.lt_of_lt_of_le hz2 hb3.size; have Hv := Lib.hid (PartV.intro vk va vt vo vn vs kids PK c d hre hk); have Hp3 := Lib.hid hp3; have Hb3 := Lib.hid hb3; clear hk hb3 HR3 hX2 hp3 hre; unfold partV))
      refine bodyPost_ret (v := partV vk va vt vo vn vs PK kids.length (kids.length + c) d) (by simp [results, Tryz.results116, go_sem, partV, r0, r1, r2, r3, r4, r5, r6, r7]) rfl ?_
      refine own_end (N := 1) hgl ?_ Hv.out Hp3.out (Hbut2.out.trans Hb3.out) ?_ ?_
      · intro b hb'
        have := Hb3.out.size
        rcases hb' with h1 | ⟨h1, h2⟩
        · exact ⟨(HSo.out b h1).1, by have := (HSo.out b h1).2; omega⟩
        · exact ⟨by omega, by omega⟩
      · intro b hb1
        repeat (with_reducible refine (Below.heap_setCell _ _ _ _ (by simp; omega)).trans ?_)
        rfl
      · repeat (first | with_reducible exact Below.refl _ _ | with_reducible refine Below.setCell ?_ (by first | (simp; done) | (simp; omega)) _)
    · rw [if_neg h2] at hr
      have hb2 : (tk == 2) = false := by simpa using h2
      by_cases h1 : tk = 1
      · rw [if_pos h1] at hr
        subst h1
        have hX := fun w2 (hp : PAt w2 g s') => HCa g ⟨1, ta, tn, tb⟩ s' r w2 hr hok' hp
        unfold tkV at hX
        clear h2 hok' hs'
        rw [hW] at hI
        clear hB hBf hr hok h hPW hbW hbR HEx HCa HKe hnow
        go_enter Tryz.func116, Tryz.ntmps116
        go_wp2_with (first
          | (go_at_call 61; refine hI.mono ?_; rintro e w1 ⟨rfl, hb1⟩; rw [← hW] at hb1; have hbut1 : But g w w1 := But.of_below (HbW.out.trans (hb1.mono (by omega))); have HR1 := Lib.hid ((hb1.block w.heap.size (by omega)).trans HbR.out); have hz1 : w.heap.size < w1.heap.size := (by have := hb1.size; omega); have hp1 := HPW.out.keep hb1; have hN1 := hN w1 hp1; have Hbut1 := Lib.hid hbut1; clear hN; clear hb1 hbut1 hp1 hI)
          | (go_at_call 58; refine hN1.mono ?_; rintro e w4 ⟨rfl, hp4, hb4⟩; obtain ⟨W4, hW4, hbW4, hzW4, hbT4⟩ := one_al w4 #[.int .i64 1, .int .i64 ta, .int .i64 tn, .string ⟨tb.toArray⟩] 56; have HR2 := Lib.hid ((hbW4.block w.heap.size (Nat.lt_of_lt_of_le hz1 hb4.size)).trans ((hb4.block w.heap.size hz1 (by omega)).trans HR1.out)); have hz2 : w.heap.size < W4.heap.size := (by have := hb4.size; omega); have Hbut2 := Lib.hid ((Hbut1.out.trans hb4).trans (But.of_below hbW4)); have hX2 := hX W4 (hp4.keep hbW4); have HSo : Hid (∀ b, NoB b → w.heap.size + 1 ≤ b ∧ b < W4.heap.size) := Lib.hid (fun b hb => absurd hb (by unfold NoB; simp)); rw [hW4] at hX2; clear hp4 hb4 hX hN1 hbW4)
          | (go_at_call 98; refine hX2.mono ?_; rintro e w3 ⟨v, rfl, hv, hp3, hb3⟩; rw [← hW4] at hv hb3; obtain ⟨vk, va, vt, vo, vn, vs, kids, PK, c, d, hre, rfl, hk⟩ := hv; have HR3 := (hb3.block (w.heap.size) (by omega) (by omega)).trans HR2.out; obtain ⟨r0, r1, r2, r3, r4, r5, r6, r7, rf⟩ := cells8 HR3; have hz3 := Nat.lt_of_lt_of_le hz2 hb3.size; have Hv := Lib.hid (PartV.intro vk va vt vo vn vs kids PK c d hre hk); have Hp3 := Lib.hid hp3; have Hb3 := Lib.hid hb3; clear hk hb3 HR3 hX2 hp3 hre; unfold partV))
        refine bodyPost_ret (v := partV vk va vt vo vn vs PK kids.length (kids.length + c) d) (by simp [results, Tryz.results116, go_sem, partV, r0, r1, r2, r3, r4, r5, r6, r7]) rfl ?_
        refine own_end (N := 1) hgl ?_ Hv.out Hp3.out (Hbut2.out.trans Hb3.out) ?_ ?_
        · intro b hb'
          have := Hb3.out.size
          rcases hb' with h1 | ⟨h1, h2⟩
          · exact ⟨(HSo.out b h1).1, by have := (HSo.out b h1).2; omega⟩
          · exact ⟨by omega, by omega⟩
        · intro b hb1
          repeat (with_reducible refine (Below.heap_setCell _ _ _ _ (by simp; omega)).trans ?_)
          rfl
        · repeat (first | with_reducible exact Below.refl _ _ | with_reducible refine Below.setCell ?_ (by first | (simp; done) | (simp; omega)) _)
      · rw [if_neg h1] at hr
        have hb1' : (tk == 1) = false := by simpa using h1
        clear h1 h2
        have hX := fun w2 (hp : PAt w2 g s') => HKe g ⟨tk, ta, tn, tb⟩ s' r w2 hr hok' hp
        unfold tkV at hX
        clear hok' hs'
        rw [hW] at hI
        clear hB hBf hr hok h hPW hbW hbR HEx HCa HKe hnow
        go_enter Tryz.func116, Tryz.ntmps116
        go_wp2_with (first
          | (go_at_call 61; refine hI.mono ?_; rintro e w1 ⟨rfl, hb1⟩; rw [← hW] at hb1; have hbut1 : But g w w1 := But.of_below (HbW.out.trans (hb1.mono (by omega))); have HR1 := Lib.hid ((hb1.block w.heap.size (by omega)).trans HbR.out); have hz1 : w.heap.size < w1.heap.size := (by have := hb1.size; omega); have hp1 := HPW.out.keep hb1; have hN1 := hN w1 hp1; have Hbut1 := Lib.hid hbut1; clear hN; clear hb1 hbut1 hp1 hI)
          | (go_at_call 58; refine hN1.mono ?_; rintro e w4 ⟨rfl, hp4, hb4⟩; obtain ⟨W4, hW4, hbW4, hzW4, hbT4⟩ := one_al w4 #[.int .i64 tk, .int .i64 ta, .int .i64 tn, .string ⟨tb.toArray⟩] 56; have HR2 := Lib.hid ((hbW4.block w.heap.size (Nat.lt_of_lt_of_le hz1 hb4.size)).trans ((hb4.block w.heap.size hz1 (by omega)).trans HR1.out)); have hz2 : w.heap.size < W4.heap.size := (by have := hb4.size; omega); have Hbut2 := Lib.hid ((Hbut1.out.trans hb4).trans (But.of_below hbW4)); have hX2 := hX W4 (hp4.keep hbW4); have HSo : Hid (∀ b, NoB b → w.heap.size + 1 ≤ b ∧ b < W4.heap.size) := Lib.hid (fun b hb => absurd hb (by unfold NoB; simp)); rw [hW4] at hX2; clear hp4 hb4 hX hN1 hbW4)
          | (go_at_call 124; refine hX2.mono ?_; rintro e w3 ⟨v, rfl, hv, hp3, hb3⟩; rw [← hW4] at hv hb3; obtain ⟨vk, va, vt, vo, vn, vs, kids, PK, c, d, hre, rfl, hk⟩ := hv; have HR3 := (hb3.block (w.heap.size) (by omega) (by omega)).trans HR2.out; obtain ⟨r0, r1, r2, r3, r4, r5, r6, r7, rf⟩ := cells8 HR3; have hz3 := Nat.lt_of_lt_of_le hz2 hb3.size; have Hv := Lib.hid (PartV.intro vk va vt vo vn vs kids PK c d hre hk); have Hp3 := Lib.hid hp3; have Hb3 := Lib.hid hb3; clear hk hb3 HR3 hX2 hp3 hre; unfold partV))
        refine bodyPost_ret (v := partV vk va vt vo vn vs PK kids.length (kids.length + c) d) (by simp [results, Tryz.results116, go_sem, partV, r0, r1, r2, r3, r4, r5, r6, r7]) rfl ?_
        refine own_end (N := 1) hgl ?_ Hv.out Hp3.out (Hbut2.out.trans Hb3.out) ?_ ?_
        · intro b hb'
          have := Hb3.out.size
          rcases hb' with h1 | ⟨h1, h2⟩
          · exact ⟨(HSo.out b h1).1, by have := (HSo.out b h1).2; omega⟩
          · exact ⟨by omega, by omega⟩
        · intro b hb1
          repeat (with_reducible refine (Below.heap_setCell _ _ _ _ (by simp; omega)).trans ?_)
          rfl
        · repeat (first | with_reducible exact Below.refl _ _ | with_reducible refine Below.setCell ?_ (by first | (simp; done) | (simp; omega)) _)
end Go.Proofs.YtiadbeglhnocoaaGreatDoor
