/-
  sources: the marks of its loops; ways back; the walk.
-/
import Derived.Test.YthhjhdmdfneegaaJc34
import Derived.Deep.LoopGhost
namespace Go.Proofs.Ythhjhdmdfneegaa
set_option linter.unusedVariables false
set_option linter.unusedSimpArgs false
open Go.RowKit

attribute [local go_sem] Oper.semAt_some

theorem calls_of_wp_marks {P : Program} {f : FuncId} {fn : Func} {c : Code} {args : Array Value} {w : World} {R : Ending → World → Prop} (hf : P.funcs[f]? = some fn) (hb : fn.body = some c)
    (h : c.wp P (bodyPostM Fence.wide 0 P fn R) { tmps := args ++ Array.replicate (fn.ntmps - args.size) undef, defers := [] } w) : Calls P f args w R :=
  callsIn_wide.1 (callsIn_of_wp_marks (n := 0) hf hb trivial (wpIn_wide.2 h) rfl)
/-- The marks that loops have left: each its own block, none of the rounds', none that was there. -/
def Mks (n0 : Nat) (A : World) (F : Nat → Prop) (ds : List Deferred) : Prop := ∃ Ds : List Nat, ds = Ds.map (fun D => { target := .collected D, args := #[] }) ∧ Ds.Nodup ∧ ∀ D ∈ Ds, A.heap[D]? = some (.deferred (some [])) ∧ n0 ≤ D ∧ ¬ F D
/-- Only blocks that are neither old nor the rounds' were put. -/
structure PutOff (n0 : Nat) (F : Nat → Prop) (A B : World) : Prop where
  os : B.os = A.os
  tape : B.tape = A.tape
  output : B.output = A.output
  size : B.heap.size = A.heap.size
  block : ∀ k, (k < n0 ∨ F k) → B.heap[k]? = A.heap[k]?
theorem Mks.leave {n0 : Nat} {F : Nat → Prop} {P : Program} {fn : Func} {tmps : Array Value} {R : Ending → World → Prop} : ∀ (ds : List Deferred) (A : World), Mks n0 A F ds → (∀ B, PutOff n0 F A B → ∃ v, (results fn tmps).run P B = .ok v B ∧ R (.returned v) B) → LeavesInM Fence.wide 0 P fn tmps R ds .returning A := by
  intro ds A ⟨Ds, hd, hn, hD⟩ hend
  subst hd
  induction Ds generalizing A with
  | nil => exact hend A ⟨rfl, rfl, rfl, rfl, fun _ _ => rfl⟩
  | cons D Ds ih =>
    obtain ⟨h1, h2, h3⟩ := hD D (by simp)
    obtain ⟨hnd, hn2⟩ := List.nodup_cons.1 hn
    refine ⟨by simp, .inl ⟨D, _, rfl, run_takeDeferred h1, ih _ hn2 (fun D' hD' => ?_) (fun B hB => hend B ?_)⟩⟩
    · obtain ⟨k1, k2, k3⟩ := hD D' (by simp [hD'])
      exact ⟨(World.putObj_heap_other (fun e : D' = D => hnd (by rw [← e]; exact hD'))).trans k1, k2, k3⟩
    · refine ⟨hB.os, hB.tape, hB.output, by rw [hB.size]; simp, fun k hk => (hB.block k hk).trans (World.putObj_heap_other (fun e => ?_))⟩
      subst e
      rcases hk with hk | hk
      · omega
      · exact h3 hk
theorem Mks.nil (n0 : Nat) (A : World) (F : Nat → Prop) : Mks n0 A F [] := ⟨[], rfl, List.nodup_nil, fun D hD => by cases hD⟩
theorem Mks.step {n0 : Nat} {A B : World} {F F' : Nat → Prop} {ds : List Deferred} (h : Mks n0 A F ds) (hb : ∀ k, n0 ≤ k → ¬ F k → A.heap[k]? = some (.deferred (some [])) → B.heap[k]? = some (.deferred (some [])) ∧ ¬ F' k) : Mks n0 B F' ds := by
  obtain ⟨Ds, h1, h2, h3⟩ := h
  exact ⟨Ds, h1, h2, fun D hD => by
    obtain ⟨k1, k2, k3⟩ := h3 D hD
    obtain ⟨k4, k5⟩ := hb D k2 k3 k1
    exact ⟨k4, k2, k5⟩⟩
theorem Mks.cons {n0 D : Nat} {A : World} {F : Nat → Prop} {ds : List Deferred} (h : Mks n0 A F ds) (hD : A.heap[D]? = some (.deferred (some []))) (hn : n0 ≤ D) (hF : ¬ F D) (hnew : ∀ Ds : List Nat, ds = Ds.map (fun D => { target := .collected D, args := #[] }) → D ∉ Ds) : Mks n0 A F ({ target := .collected D, args := #[] } :: ds) := by
  obtain ⟨Ds, h1, h2, h3⟩ := h
  refine ⟨D :: Ds, by rw [h1]; rfl, List.nodup_cons.2 ⟨hnew Ds h1, h2⟩, fun D' hD' => ?_⟩
  rcases List.mem_cons.1 hD' with rfl | hD'
  · exact ⟨hD, hn, hF⟩
  · exact h3 D' hD'
/-- All marks lie below so many blocks. -/
theorem Mks.lt {n0 : Nat} {A : World} {F : Nat → Prop} {ds : List Deferred} (h : Mks n0 A F ds) {D : Nat} (hD : A.heap.size ≤ D) : ∀ Ds : List Nat, ds = Ds.map (fun D => { target := .collected D, args := #[] }) → D ∉ Ds := by
  obtain ⟨Ds', h1, h2, h3⟩ := h
  intro Ds hd hm
  have hinj : Ds.map (fun D => ({ target := .collected D, args := #[] } : Deferred)) = Ds'.map (fun D => { target := .collected D, args := #[] }) := by rw [← hd, h1]
  have he : Ds = Ds' := by
    have : Function.Injective (fun D : Nat => ({ target := .collected D, args := #[] } : Deferred)) := fun a b e => by
      injection e with e1 _
      injection e1
    exact (List.map_inj_right (fun a b e => this e)).1 hinj
  subst he
  have := gr_in (h3 D hm).1
  omega

/-- A function value that gives the ways back from each block. -/
def BackAt (P : Program) (bv : Value) (bk : Nat → List Int) (n : Nat) (S0 : Nat → Prop) (W : World) : Prop :=
  ∃ (gf : Nat) (lb : Array Value), bv = .func (.func gf) #[] lb ∧ (∀ args w, (callFunc gf args).run P w = .ok (.enter gf args) w) ∧ ∀ (W1 : World) (b : Nat), b < n → W.heap.size ≤ W1.heap.size → (∀ k, S0 k → W1.heap[k]? = W.heap[k]?) →
    Calls P gf (#[.int .i64 (b : Int)] ++ lb) W1 fun e W2 => Below W1.heap.size W1 W2 ∧ ∃ (g2 : Nat) (lb2 : Array Value) (S2 : Nat → Prop), e = .returned (.func (.func g2) #[] lb2) ∧ (∀ args w, (callFunc g2 args).run P w = .ok (.enter g2 args) w) ∧ (∀ k, S2 k → S0 k ∨ W1.heap.size ≤ k) ∧ (∀ k, S2 k → k < W2.heap.size) ∧
      ∀ W3, Below W2.heap.size W2 W3 → SepGives P g2 lb2 (fun x : Int => .int .i64 x) (bk b) S2 NoW (fun _ => True) W3

theorem srcRun_pre (bk : Nat → List Int) : ∀ (k : Nat) (sh : List Bool) (left o : List Nat) (sh' : List Bool) (xs : List Nat), srcRun bk k sh left o = some (sh', xs) → o <+: xs
  | _, sh, [], o, sh', xs, h => by
    simp [srcRun] at h
    rw [← h.2]
    exact List.prefix_rfl
  | 0, sh, b :: left, o, sh', xs, h => by simp [srcRun] at h
  | k + 1, sh, b :: left, o, sh', xs, h => by
    unfold srcRun at h
    exact List.IsPrefix.trans (List.prefix_append o [b]) (srcRun_pre bk k _ _ _ _ _ h)
theorem cut_int {g n c : Nat} (m : Nat) (hm : m ≤ n) (hn : n ≤ c) : ∀ W : World, (Instr.slice 39 (.slice (some ⟨g, 0, none⟩) n c) none (some (.int .i64 (m : Int))) none).run Try.prog W = .ok (.slice (some ⟨g, 0, none⟩) m c) W := fun W => by
  rw [run_slice_h W 39 (some ⟨g, 0, none⟩) n c (by simp [Program.elem, Try.underlying39]) .i64 (m : Int) (by omega) (by omega)]
  go_simp
/-- The next block is taken from the stack. -/
theorem Ent.pop {base bxs sb L n b : Nat} {w : World} {shut : List Bool} {left : List Nat} {g c : Nat} (h : Ent base bxs sb L n w shut (b :: left) (.slice (some ⟨g, 0, none⟩) (left.length + 1) c)) :
    Ent base bxs sb L n (w.setCell ⟨L, 0, none⟩ (.slice (some ⟨g, 0, none⟩) left.length c)) shut left (.slice (some ⟨g, 0, none⟩) left.length c) ∧ StepOn (FE sb L (.slice (some ⟨g, 0, none⟩) (left.length + 1) c)) (FE sb L (.slice (some ⟨g, 0, none⟩) left.length c)) w (w.setCell ⟨L, 0, none⟩ (.slice (some ⟨g, 0, none⟩) left.length c)) := by
  obtain ⟨Z, hZ⟩ : ∃ Z, Z = w.setCell ⟨L, 0, none⟩ (.slice (some ⟨g, 0, none⟩) left.length c) := ⟨_, rfl⟩
  rw [← hZ]
  have hZo : ∀ k, k ≠ L → Z.heap[k]? = w.heap[k]? := fun k hk => by rw [hZ]; exact Below.heap_setCell _ _ _ _ hk
  have hZz : Z.heap.size = w.heap.size := by rw [hZ]; simp [World.setCell]
  have hZL : Z.heap[L]? = some (.cells #[.slice (some ⟨g, 0, none⟩) left.length c] 39 (0, 0)) := by rw [hZ, gr_put h.bl 0]; rfl
  have hr : w.ownsRow base 3 1 (.slice (some ⟨g, 0, none⟩) left.length c) left.length (natsV left.reverse) := by
    have := gr_cut h.row left.length (by simp)
    have e : (natsV (b :: left).reverse).take (left.length * 1) = natsV left.reverse := by
      simp [natsV]
    rw [e] at this
    exact this
  have hgb := (h.row.lt g rfl).1
  have hLb := h.lt.2.2
  have hr2 := hr.kept (w' := Z) (row := some L) ⟨by rw [hZ]; rfl, by rw [hZ]; rfl, by rw [hZ]; rfl, by omega, fun k _ hk => hZo k (fun e => hk (by rw [e]))⟩ (.inr (by simp [Value.ownBlock]; omega))
  exact ⟨⟨(World.cell?_of_block (a := ⟨bxs, 0, none⟩) (hZo bxs h.ne.2.1)).trans h.bs, (hZo sb h.ne.2.2).trans h.sh, hZL, hr2, h.len, by have := h.cnt; simp at this; omega, h.lt, h.ne, by have := h.hb; omega, h.few⟩,
    ⟨by rw [hZ]; rfl, by rw [hZ]; rfl, by rw [hZ]; rfl, by omega, fun k hk hn => hZo k (fun e => hn (.inr (.inl e))), fun k hk => .inl hk⟩⟩
end Go.Proofs.Ythhjhdmdfneegaa
