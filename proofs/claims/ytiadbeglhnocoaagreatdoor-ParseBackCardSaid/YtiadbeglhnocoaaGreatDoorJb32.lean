/-
  A function.
-/
import Derived.Test.YtiadbeglhnocoaaGreatDoorJb31
namespace Go.Proofs.YtiadbeglhnocoaaGreatDoor
set_option linter.unusedVariables false
set_option linter.unusedSimpArgs false
open Go.RowKit

theorem even_type (s : PS) : EvS s (typeP s).2 := by
  unfold typeP
  split
  · exact es_next s
  · split
    · exact es_next s
    · split
      · exact ((es_need1 s _).trans (es_next _)).trans (es_need1 _ _)
      · exact (es_need1 s _).trans (es_needs _ _)
theorem even_param (s : PS) : EvS s (paramP s).2 := ((es_name s).trans (es_need1 _ _)).trans (even_type _)
theorem even_arg (l : List Pa) (s : PS) : EvS s (argP l s).2 := by
  unfold argP
  dsimp only
  split
  · exact (es_fail s _ _).trans (even_param _)
  · exact even_param s
theorem even_args : ∀ (k : Nat) (l : List Pa) (s : PS) (r : List Pa × PS), argsK k l s = some r → EvS s r.2
  | 0, _, _, _, h => by simp [argsK] at h
  | k + 1, l, s, r, h => by
    simp only [argsK] at h
    split at h
    · exact ((even_arg l s).trans (es_next _)).trans (even_args k _ _ r h)
    · simp only [Option.some.injEq] at h
      subst h
      exact even_arg l s
def StepA (l : List Pa) (s : PS) (l' : List Pa) (s1 : PS) : Prop := argP l s = (l', s1) ∧ l.length ≤ 33554432
theorem args_rounds : ∀ (k : Nat) (l : List Pa) (s : PS) (r : List Pa × PS), argsK k l s = some r → l.length + k ≤ 33554432 → Rounds StepA k l s r.1 r.2
  | 0, _, _, _, h, _ => by simp [argsK] at h
  | k + 1, l, s, r, h, hl => by
    simp only [argsK] at h
    have hlen : (argP l s).1.length = l.length + 1 := by unfold argP; simp
    refine ⟨(argP l s).1, (argP l s).2, ⟨rfl, by omega⟩, ?_⟩
    split at h
    · rename_i hb
      exact Or.inr ⟨hb, args_rounds k _ _ r h (by rw [hlen]; omega)⟩
    · rename_i hb
      simp only [Option.some.injEq] at h
      subst h
      exact Or.inl ⟨by simpa using hb, rfl, rfl⟩
theorem fnF_any (g bf bp : Nat) (W0 : World) (nm : ByteArray) (at_ : Int) (hg : g < bp) (hpf : bp + 1 < bf) (hW : W0.heap.size ≤ bp) (l : List Pa) (s : PS) (l' : List Pa) (s1 : PS) (w : World) (hs : StepA l s l' s1) (h : PAt w g s) (hj : JF g bf bp W0 nm at_ l w) :
    Calls Tryz.prog 41 #[.pointer (some ⟨bf, 0, none⟩), .pointer (some ⟨bp, 0, none⟩)] w fun e w' => e = .returned (.tuple #[]) ∧ PAt w' g s1 ∧ JF g bf bp W0 nm at_ l' w' := by
  obtain ⟨hs, hl⟩ := hs
  unfold argP at hs
  simp only [Prod.mk.injEq] at hs
  obtain ⟨rfl, rfl⟩ := hs
  by_cases hf : l.length = 16
  · have hfb : (l.length == 16) = true := by simp [hf]
    rw [if_pos hf]
    exact fnF_full g bf bp W0 nm at_ hg hpf hW l s _ _ _ _ w hfb rfl rfl hl h hj
  · have hfb : (l.length == 16) = false := by simpa using hf
    rw [if_neg hf]
    exact fnF_room g bf bp W0 nm at_ hg hpf hW l s _ _ _ _ w hfb rfl rfl hl h hj
/-- Arguments, as they lie. -/
def RdAs (w : World) (S : Nat → Prop) (A : Option Addr) (l : List Pa) : Prop := 0 < l.length → ∃ r o, A = some ⟨r, o, none⟩ ∧ S r ∧ ∀ i p, l[i]? = some p → w.cell? ⟨r, o + i * 2, none⟩ = some (.string p.name) ∧ w.cell? ⟨r, o + i * 2 + 1, none⟩ = some (.int .i64 p.type)
/-- A function, as it lies. -/
def RdF (w : World) (S : Nat → Prop) (c : Nat → Option Value) (f : Fu) : Prop := c 0 = some (.string f.name) ∧ c 1 = some (.int .i64 f.at_) ∧ (∃ A cap, c 2 = some (.slice A f.params.length cap) ∧ RdAs w S A f.params) ∧ c 3 = some (.int .i64 f.ret) ∧ (∃ A cap, c 4 = some (.slice A f.body.length cap) ∧ RdSs w S A 0 f.body) ∧ c 5 = some (.int .i64 f.vars)
/-- Functions, as they lie. -/
def RdFs (w : World) (S : Nat → Prop) (A : Option Addr) (l : List Fu) : Prop := 0 < l.length → ∃ r o, A = some ⟨r, o, none⟩ ∧ S r ∧ ∀ i f, l[i]? = some f → RdF w S (fun j => w.cell? ⟨r, o + i * 6 + j, none⟩) f
theorem RdAs.keep {w w' : World} {S : Nat → Prop} (hb : ∀ p : Addr, S p.block → w'.cell? p = w.cell? p) {A : Option Addr} {l : List Pa} (h : RdAs w S A l) : RdAs w' S A l := fun hl => by
  obtain ⟨r, o, hA, hr, hx⟩ := h hl
  refine ⟨r, o, hA, hr, fun i p hp => ?_⟩
  rw [hb ⟨r, o + i * 2, none⟩ hr, hb ⟨r, o + i * 2 + 1, none⟩ hr]
  exact hx i p hp
theorem RdAs.more {w : World} {S S' : Nat → Prop} (hB : ∀ b, S b → S' b) {A : Option Addr} {l : List Pa} (h : RdAs w S A l) : RdAs w S' A l := fun hl => by
  obtain ⟨r, o, hA, hr, hx⟩ := h hl
  exact ⟨r, o, hA, hB r hr, hx⟩
theorem RdF.keep {w w' : World} {S : Nat → Prop} (hb : ∀ p : Addr, S p.block → w'.cell? p = w.cell? p) {c : Nat → Option Value} {f : Fu} (h : RdF w S c f) : RdF w' S c f := by
  obtain ⟨h0, h1, ⟨A, ca, h2, hA⟩, h3, ⟨B, cb, h4, hB⟩, h5⟩ := h
  exact ⟨h0, h1, ⟨A, ca, h2, hA.keep hb⟩, h3, ⟨B, cb, h4, RdSs.keep hb _ _ _ hB⟩, h5⟩
theorem RdF.more {w : World} {S S' : Nat → Prop} (hb : ∀ b, S b → S' b) {c : Nat → Option Value} {f : Fu} (h : RdF w S c f) : RdF w S' c f := by
  obtain ⟨h0, h1, ⟨A, ca, h2, hA⟩, h3, ⟨B, cb, h4, hB⟩, h5⟩ := h
  exact ⟨h0, h1, ⟨A, ca, h2, hA.more hb⟩, h3, ⟨B, cb, h4, RdSs.more hb _ _ _ hB⟩, h5⟩
theorem RdF.cells {w : World} {S : Nat → Prop} {c c' : Nat → Option Value} {f : Fu} (h : RdF w S c f) (hc : ∀ j, j < 6 → c' j = c j) : RdF w S c' f := by
  unfold RdF at h ⊢
  rw [hc 0 (by omega), hc 1 (by omega), hc 2 (by omega), hc 3 (by omega), hc 4 (by omega), hc 5 (by omega)]
  exact h
theorem RdFs.keep {w w' : World} {S : Nat → Prop} (hb : ∀ p : Addr, S p.block → w'.cell? p = w.cell? p) {A : Option Addr} {l : List Fu} (h : RdFs w S A l) : RdFs w' S A l := fun hl => by
  obtain ⟨r, o, hA, hr, hx⟩ := h hl
  refine ⟨r, o, hA, hr, fun i p hp => ?_⟩
  exact ((hx i p hp).keep hb).cells (fun j _ => hb ⟨r, o + i * 6 + j, none⟩ hr)
theorem RdFs.more {w : World} {S S' : Nat → Prop} (hB : ∀ b, S b → S' b) {A : Option Addr} {l : List Fu} (h : RdFs w S A l) : RdFs w S' A l := fun hl => by
  obtain ⟨r, o, hA, hr, hx⟩ := h hl
  exact ⟨r, o, hA, hB r hr, fun i p hp => (hx i p hp).more hB⟩
theorem paC_at (l : List Pa) (i : Nat) (p : Pa) (hp : l[i]? = some p) : ∀ j, j < 2 → (l.flatMap paC)[i * 2 + j]? = (paC p)[j]? := by
  induction l generalizing i with
  | nil => simp at hp
  | cons x r ih =>
    intro j hj
    cases i with
    | zero =>
      simp at hp
      subst hp
      rw [List.flatMap_cons, Nat.zero_mul, Nat.zero_add, List.getElem?_append_left (by unfold paC; simpa using hj)]
    | succ i =>
      rw [List.flatMap_cons, List.getElem?_append_right (by unfold paC; simp; omega)]
      have := ih i (by simpa using hp) j hj
      rw [← this]
      congr 1
      unfold paC
      simp
      omega
/-- A row of arguments of one's own reads as them. -/
theorem own_args {w : World} {base : Nat} {v : Value} {l : List Pa} (h : w.ownsRow base 66 2 v l.length (l.flatMap paC)) : ∃ A c, v = .slice A l.length c ∧ RdAs w (From base w) A l := by
  rcases h.2 with ⟨hv, h0⟩ | ⟨g, c, cur, hv, _⟩
  · have hl : l = [] := List.length_eq_zero_iff.mp h0
    subst hl
    exact ⟨none, 0, hv, fun h => by simp at h⟩
  · subst hv
    have hlt := h.lt g rfl
    refine ⟨_, c, rfl, fun _ => ⟨g, 0, rfl, hlt, fun i p hp => ?_⟩⟩
    have hi : i < l.length := (List.getElem?_eq_some_iff.mp hp).1
    have e := paC_at l i p hp
    rw [Nat.zero_add]
    refine ⟨?_, ?_⟩
    · have h1 := h.cellAt (i * 2) (by omega)
      have h2 := e 0 (by omega)
      rw [Nat.add_zero] at h2
      rw [h1, h2]; rfl
    · have h1 := h.cellAt (i * 2 + 1) (by omega)
      rw [h1, e 1 (by omega)]; rfl
theorem cells6 {w : World} {b : Nat} {v0 v1 v2 v3 v4 v5 : Value} {T : TypeId} (h : w.heap[b]? = some (.cells #[v0, v1, v2, v3, v4, v5] T (0, 0))) : w.cell? ⟨b, 0, none⟩ = some v0 ∧ w.cell? ⟨b, 1, none⟩ = some v1 ∧ w.cell? ⟨b, 2, none⟩ = some v2 ∧ w.cell? ⟨b, 3, none⟩ = some v3 ∧ w.cell? ⟨b, 4, none⟩ = some v4 ∧ w.cell? ⟨b, 5, none⟩ = some v5 ∧ ∀ j, w.frozen? ⟨b, j, none⟩ = false :=
  ⟨Lib.cell_of_heap h 0, Lib.cell_of_heap h 1, Lib.cell_of_heap h 2, Lib.cell_of_heap h 3, Lib.cell_of_heap h 4, Lib.cell_of_heap h 5, fun j => Lib.frozen_of_heap h j⟩
/-- What has been made of the function. -/
structure F8 (g bf bp : Nat) (w0 w : World) (s : PS) (cs : Array Value) : Prop where
  at_ : PAt w g s
  but : But g w0 w
  cell : w.heap[bf]? = some (.cells cs 49 (0, 0))
  box : w.heap[bp]? = some (.cells #[.pointer (some ⟨g, 0, none⟩)] 59 (0, 0))
  res : w.heap[bp + 1]? = some (.cells #[.string ⟨#[]⟩, .int .i64 0, .slice none 0 0, .int .i64 0, .slice none 0 0, .int .i64 0] 49 (0, 0))
theorem F8.nxt {g bf bp : Nat} {w0 w w' : World} {s s' : PS} {cs : Array Value} (h : F8 g bf bp w0 w s cs) (h1 : g < bp) (h2 : bp + 1 < bf) (hp : PAt w' g s') (hb : But g w w') : F8 g bf bp w0 w' s' cs :=
  ⟨hp, h.but.trans hb, (hb.block _ (heap_lt h.cell) (by omega)).trans h.cell, (hb.block _ (heap_lt h.box) (by omega)).trans h.box, (hb.block _ (heap_lt h.res) (by omega)).trans h.res⟩
theorem F8.set {g bf bp : Nat} {w0 w : World} {s : PS} {cs : Array Value} (h : F8 g bf bp w0 w s cs) (h1 : g < bp) (h2 : bp + 1 < bf) (h3 : w0.heap.size ≤ bp) (j : Nat) (u : Value) : F8 g bf bp w0 (w.setCell ⟨bf, j, none⟩ u) s (cs.setIfInBounds j u) :=
  ⟨h.at_.up ((Below.refl _ _).setCell (by simp; omega) _), h.but.up ((Below.refl _ _).setCell (by simp; omega) _), heap_set h.cell j u, (Below.heap_setCell _ _ _ _ (by simp; omega)).trans h.box, (Below.heap_setCell _ _ _ _ (by simp; omega)).trans h.res⟩
/-- What reading a function comes to. -/
def FnP (g lo : Nat) (w : World) (r : Fu × PS) (e : Ending) (w' : World) : Prop := ∃ nm at_ ps ret body PA pc B bc, e = .returned (.agg #[.string nm, .int .i64 at_, .slice PA (List.length ps) pc, .int .i64 ret, .slice B (List.length body) bc, .int .i64 0]) ∧ r.1 = ⟨nm, at_, ps, ret, body, 0⟩ ∧ RdAs w' (From lo w') PA ps ∧ RdSs w' (From lo w') B 0 body ∧ PAt w' g r.2 ∧ But g w w'
set_option maxRecDepth 100000 in
set_option maxHeartbeats 8000000 in
theorem fn_void (k : Nat) (g : Nat) (s : PS) (l : List Pa) (s2 : PS) (b : List St) (s3 : PS) (w : World) (hpk : paramsK k (s.need1 ([102, 110] : List UInt8)).nameP = some (l, s2)) (hco : s2.isB ([58] : List UInt8) = false) (hbk : blockK k s2 = some (b, s3)) (hok : Ok k s) (h : PAt w g s) :
    Calls Tryz.prog 20 #[.pointer (some ⟨g, 0, none⟩)] w (FnP g w.heap.size w (⟨strB (s.need1 ([102, 110] : List UInt8)).now.bytes, s.now.at_, l, 0, b, 0⟩, s3)) := by
  have hgl := h.lt
  obtain ⟨W, hW, hbW, hzW, hbX, hbR⟩ := two_al w #[.pointer (some ⟨g, 0, none⟩)] #[.string ⟨#[]⟩, .int .i64 0, .slice none 0 0, .int .i64 0, .slice none 0 0, .int .i64 0] 59 49
  have hN := now_any g s W (h.keep hbW)
  have HPW := Lib.hid (h.keep hbW)
  have HbW := Lib.hid hbW
  have HbX := Lib.hid hbX
  have HbR := Lib.hid hbR
  have bx0 := Lib.cell_of_heap hbX 0
  obtain ⟨t, ht⟩ : ∃ t, t = s.now := ⟨_, rfl⟩
  rw [← ht] at hN ⊢
  obtain ⟨tk, ta, tn, tb⟩ := t
  unfold tkV at hN
  simp only at hN ⊢
  have f1 := tok_f1 tk ta tn ⟨tb.toArray⟩
  have hok1 : Ok k (s.need1 ([102, 110] : List UInt8)).nameP := (hok.need _).even (even_name _)
  have hevp : Even (s.need1 ([102, 110] : List UInt8)).nameP s2 := by
    unfold paramsK at hpk
    split at hpk
    · simp only [Option.some.injEq, Prod.mk.injEq] at hpk
      obtain ⟨_, rfl⟩ := hpk
      exact (even_need1 _ _).trans (even_in (even_need1 _ _))
    · split at hpk
      · cases hpk
      · rename_i l' s' ha
        simp only [Option.some.injEq, Prod.mk.injEq] at hpk
        obtain ⟨_, rfl⟩ := hpk
        exact (even_need1 _ _).trans (even_in ((even_args _ _ _ _ ha).1.trans (even_need1 _ _)))
  have hok2 : Ok k s2 := hok1.even hevp
  have hB := fun lo w' (hp : PAt w' g s2) (hl : lo ≤ w'.heap.size) => block_c k g lo _ (b, s3) w' hbk hok2 hp hl
  have hT := fun w' (hp : PAt w' g s2) => take_no g s2 ([58] : List UInt8) w' hp hco
  have hmf : ∀ (fn : Fn) (first cap : Array Value) (w : World), (Instr.makeFunc fn first cap).run Tryz.prog w = .ok (.func fn first cap) w := fun _ _ _ _ => rfl
  have hL : ∀ bf bp nm w', g < bp → bp + 1 < bf → w.heap.size ≤ bp → PAt w' g (s.need1 ([102, 110] : List UInt8)).nameP → JF g bf bp w nm ta [] w' → Calls Tryz.prog 40 #[.pointer (some ⟨g, 0, none⟩), .string ⟨(([40] : List UInt8)).toArray⟩, .string ⟨(([41] : List UInt8)).toArray⟩, .func (.func 41) #[] #[.pointer (some ⟨bf, 0, none⟩), .pointer (some ⟨bp, 0, none⟩)]] w' fun r w'' => r = .returned (.tuple #[]) ∧ PAt w'' g s2 ∧ JF g bf bp w nm ta l w'' := fun bf bp nm w' h1 h2 h3 hp hj0 => by
    have hF : ∀ W, (callFunc 41 #[.pointer (some ⟨bf, 0, none⟩), .pointer (some ⟨bp, 0, none⟩)]).run Tryz.prog W = .ok (.enter 41 #[.pointer (some ⟨bf, 0, none⟩), .pointer (some ⟨bp, 0, none⟩)]) W := fun _ => by kernel_rfl
    have hJ : ∀ a w1 w2, JF g bf bp w nm ta a w1 → But g w1 w2 → JF g bf bp w nm ta a w2 := fun a w1 w2 hj hb => hj.but hb h1 h2
    unfold Ok at hok1
    unfold paramsK at hpk
    split at hpk
    · rename_i hQ
      simp only [Option.some.injEq, Prod.mk.injEq] at hpk
      obtain ⟨rfl, rfl⟩ := hpk
      exact list_none g (JF g bf bp w nm ta) 41 _ _ ([40] : List UInt8) ([41] : List UInt8) [] w' hp (by omega) (by omega) hJ hQ hj0
    · rename_i hQ
      split at hpk
      · cases hpk
      · rename_i l' s' ha
        simp only [Option.some.injEq, Prod.mk.injEq] at hpk
        obtain ⟨rfl, rfl⟩ := hpk
        exact list_some StepA g (JF g bf bp w nm ta) 41 _ _ ([40] : List UInt8) ([41] : List UInt8) k [] l' s' w' hp (by omega) (by omega) (even_args _ _ _ _ ha).1 hF hJ (fun a s b s1 w1 hs hp hj => fnF_any g bf bp w nm ta h1 h2 h3 a s b s1 w1 hs hp hj) (by simpa using hQ) (args_rounds k [] _ _ ha (by simp; omega)) hj0
  clear hok hok1 hok2 hevp hpk hbk hco h hbW hbX hbR ht
  unfold strB
  go_enter Tryz.func20, Tryz.ntmps20
  go_upto_region 1 with fail
  rw [← hW]
  clear hW
  go_upto_region 2 with (go_at_call 18; refine hN.mono ?_; rintro e w2 ⟨rfl, hb⟩; have Hb2 := Lib.hid hb; have hz2 := hb.size; clear hb hN)
  obtain ⟨w3, hw3, hb3, hz3, hf3⟩ := one_al w2 #[.string ⟨#[]⟩, .int .i64 ta, .slice none 0 0, .int .i64 0, .slice none 0 0, .int .i64 0] 49
  rw [← hw3]
  clear hw3
  obtain ⟨bf, hbf⟩ : ∃ bf, bf = w2.heap.size := ⟨_, rfl⟩
  obtain ⟨bp, hbp⟩ : ∃ bp, bp = w.heap.size := ⟨_, rfl⟩
  have hgp : g < bp := by omega
  have hpf : bp + 1 < bf := by omega
  have hwp : w.heap.size ≤ bp := by omega
  have G0 : Hid (F8 g bf bp w w3 s #[.string ⟨#[]⟩, .int .i64 ta, .slice none 0 0, .int .i64 0, .slice none 0 0, .int .i64 0]) := by
    have hb13 := Hb2.out.trans (hb3.mono Hb2.out.size)
    subst hbp
    refine Lib.hid ⟨HPW.out.keep hb13, (But.of_below HbW.out).trans (But.of_below hb13), ?_, (hb13.block _ (by omega)).trans HbX.out, (hb13.block _ (by omega)).trans HbR.out⟩
    rw [hbf]; exact hf3
  rw [← hbf, ← hbp]
  have HLO := Lib.hid hbp
  clear hbf hbp hb3 hz3 hf3 hzW hz2 Hb2 HPW HbW HbX HbR bx0 f1
  have bx := Lib.cell_of_heap G0.out.box 0
  go_upto_region 3 with (go_at_call 38; refine (need1_at g (s) ([102, 110] : List UInt8) w3 G0.out.at_).mono ?_; rintro e x1 ⟨rfl, hp, hb⟩; have G1 := Lib.hid (G0.out.nxt hgp hpf hp hb); clear hp hb bx; have bx := Lib.cell_of_heap G1.out.box 0)
  obtain ⟨c0, c1, c2, c3, c4, c5, cf⟩ := cells6 G1.out.cell
  go_upto_region 4 with (go_at_call 39; refine (name_p g (s.need1 ([102, 110] : List UInt8)) x1 G1.out.at_).mono ?_; rintro e x2 ⟨rfl, hp, hb⟩; have G2 := Lib.hid (G1.out.nxt hgp hpf hp hb); clear c0 c1 c2 c3 c4 c5 cf; clear hp hb bx; have bx := Lib.cell_of_heap G2.out.box 0; obtain ⟨c0, c1, c2, c3, c4, c5, cf⟩ := cells6 G2.out.cell)
  obtain ⟨x3, hw⟩ : ∃ W, W = x2.setCell ⟨bf, 0, none⟩ (.string ⟨(s.need1 ([102, 110] : List UInt8)).now.bytes.toArray⟩) := ⟨_, rfl⟩
  rw [← hw]
  have G3 : Hid (F8 g bf bp w x3 ((s.need1 ([102, 110] : List UInt8)).nameP) #[.string ⟨(s.need1 ([102, 110] : List UInt8)).now.bytes.toArray⟩, .int .i64 ta, .slice none 0 0, .int .i64 0, .slice none 0 0, .int .i64 0]) := by
    rw [hw]
    have := G2.out.set hgp hpf hwp 0 (.string ⟨(s.need1 ([102, 110] : List UInt8)).now.bytes.toArray⟩)
    simp only [List.setIfInBounds_toArray, List.set_cons_zero, List.set_cons_succ] at this
    exact Lib.hid this
  clear hw c0 c1 c2 c3 c4 c5 cf bx
  have bx := Lib.cell_of_heap G3.out.box 0
  have hL1 := hL bf bp ⟨(s.need1 ([102, 110] : List UInt8)).now.bytes.toArray⟩ x3 hgp (by omega) hwp G3.out.at_ ⟨.slice none 0 0, G3.out.box, G3.out.cell, World.ownsRow_nil _ _ _ _, G3.out.but, G3.out.res⟩
  go_upto_region 5 with (go_at_call 40; refine hL1.mono ?_; rintro e x4 ⟨rfl, hp, hj⟩; obtain ⟨v, hbx, hbf, hown, hbut, hres⟩ := hj; obtain ⟨PA, pc, rfl, hra⟩ := own_args hown; have G4 : Hid (F8 g bf bp w x4 s2 #[.string ⟨(s.need1 ([102, 110] : List UInt8)).now.bytes.toArray⟩, .int .i64 ta, .slice PA l.length pc, .int .i64 0, .slice none 0 0, .int .i64 0]) := Lib.hid ⟨hp, hbut, hbf, hbx, hres⟩; have HA := Lib.hid hra; clear hp hbx hbf hown hra hbut hres bx hL1 hL; have bx := Lib.cell_of_heap G4.out.box 0)
  go_upto_region 7 with (go_at_call 43; refine (hT x4 G4.out.at_).mono ?_; rintro e x5 ⟨rfl, hp, hb⟩; have G5 := Lib.hid (G4.out.nxt hgp hpf hp hb); have HA2 := Lib.hid (RdAs.more (fun _ hS => From.up hb.size hS) (RdAs.keep (fun q hq => hb.cell hq.2 (by have := hq.1; omega)) HA.out)); clear HA; have HA := HA2; clear HA2; clear hp hb bx; have bx := Lib.cell_of_heap G5.out.box 0)
  obtain ⟨c0, c1, c2, c3, c4, c5, cf⟩ := cells6 G5.out.cell
  go_upto_region 8 with (go_at_call 45; refine (hB (bf + 1) x5 G5.out.at_ (heap_lt G5.out.cell)).mono ?_; rintro e x6 ⟨B, bc, rfl, hB2, hp, hb⟩; have G6 := Lib.hid (G5.out.nxt hgp hpf hp hb); have HA2 := Lib.hid (RdAs.more (fun _ hS => From.up hb.size hS) (RdAs.keep (fun q hq => hb.cell hq.2 (by have := hq.1; omega)) HA.out)); clear HA; have HA := HA2; clear HA2; have HB := Lib.hid hB2; clear hB2 hB; clear c0 c1 c2 c3 c4 c5 cf; clear hp hb bx; have bx := Lib.cell_of_heap G6.out.box 0; obtain ⟨c0, c1, c2, c3, c4, c5, cf⟩ := cells6 G6.out.cell; obtain ⟨r0, r1, r2, r3, r4, r5, rf⟩ := cells6 G6.out.res; have hrz := heap_lt G6.out.res; have hfz := heap_lt G6.out.cell)
  obtain ⟨x7, hw⟩ : ∃ W, W = x6.setCell ⟨bf, 4, none⟩ (.slice B b.length bc) := ⟨_, rfl⟩
  rw [← hw]
  have G7 : Hid (F8 g bf bp w x7 (s3) #[.string ⟨(s.need1 ([102, 110] : List UInt8)).now.bytes.toArray⟩, .int .i64 ta, .slice PA l.length pc, .int .i64 0, .slice B b.length bc, .int .i64 0]) := by
    rw [hw]
    have := G6.out.set hgp hpf hwp 4 (.slice B b.length bc)
    simp only [List.setIfInBounds_toArray, List.set_cons_zero, List.set_cons_succ] at this
    exact Lib.hid this
  have HA2 := Lib.hid (RdAs.more (S' := From (bf + 1) x7) (fun _ hS => by rw [hw]; exact ⟨hS.1, by simpa [World.setCell] using hS.2⟩) (RdAs.keep (w' := x7) (fun q hq => by rw [hw]; exact World.cell?_of_block (Below.heap_setCell _ _ _ _ (by have := hq.1; simp; omega))) HA.out))
  clear HA
  have HA := HA2
  clear HA2
  have HB2 := Lib.hid (RdSs.more (S' := From (bf + 1) x7) (fun _ hS => by rw [hw]; exact ⟨hS.1, by simpa [World.setCell] using hS.2⟩) _ _ _ (RdSs.keep (w' := x7) (fun q hq => by rw [hw]; exact World.cell?_of_block (Below.heap_setCell _ _ _ _ (by have := hq.1; simp; omega))) _ _ _ HB.out))
  clear HB
  have HB := HB2
  clear HB2
  clear hw c0 c1 c2 c3 c4 c5 cf bx r0 r1 r2 r3 r4 r5 rf
  obtain ⟨c0, c1, c2, c3, c4, c5, cf⟩ := cells6 G7.out.cell
  obtain ⟨r0, r1, r2, r3, r4, r5, rf⟩ := cells6 G7.out.res
  go_wp2
  refine bodyPost_ret (v := .agg #[.string ⟨(s.need1 ([102, 110] : List UInt8)).now.bytes.toArray⟩, .int .i64 ta, .slice PA l.length pc, .int .i64 0, .slice B b.length bc, .int .i64 0]) (by simp [results, Tryz.results20, go_sem, r0, r1, r2, r3, r4, r5]) rfl ?_
  have hlo := HLO.out
  have hbe : Below (bp + 1) x7 ((((((x7.setCell ⟨bp + 1, 0, none⟩ (.string ⟨(s.need1 ([102, 110] : List UInt8)).now.bytes.toArray⟩)).setCell ⟨bp + 1, 1, none⟩ (.int .i64 ta)).setCell ⟨bp + 1, 2, none⟩ (.slice PA l.length pc)).setCell ⟨bp + 1, 3, none⟩ (.int .i64 0)).setCell ⟨bp + 1, 4, none⟩ (.slice B b.length bc)).setCell ⟨bp + 1, 5, none⟩ (.int .i64 0)) := by
    repeat (first | with_reducible exact Below.refl _ _ | with_reducible refine Below.setCell ?_ (by simp) _)
  have hfar : ∀ c : Nat, c ≠ bp + 1 → ((((((x7.setCell ⟨bp + 1, 0, none⟩ (.string ⟨(s.need1 ([102, 110] : List UInt8)).now.bytes.toArray⟩)).setCell ⟨bp + 1, 1, none⟩ (.int .i64 ta)).setCell ⟨bp + 1, 2, none⟩ (.slice PA l.length pc)).setCell ⟨bp + 1, 3, none⟩ (.int .i64 0)).setCell ⟨bp + 1, 4, none⟩ (.slice B b.length bc)).setCell ⟨bp + 1, 5, none⟩ (.int .i64 0)).heap[c]? = x7.heap[c]? := fun c hc => by
    repeat (with_reducible refine (Below.heap_setCell _ _ _ _ (by simpa using hc)).trans ?_)
    rfl
  refine ⟨_, _, _, _, _, PA, pc, B, bc, rfl, rfl, ?_, ?_, G7.out.at_.up (hbe.mono (by omega)), G7.out.but.up (hbe.mono (by omega))⟩
  · exact RdAs.more (fun b hb => ⟨by have := hb.1; omega, Nat.lt_of_lt_of_le hb.2 hbe.size⟩) (RdAs.keep (fun q hq => World.cell?_of_block (hfar _ (by have := hq.1; omega))) HA.out)
  · exact RdSs.more (fun b hb => ⟨by have := hb.1; omega, Nat.lt_of_lt_of_le hb.2 hbe.size⟩) _ _ _ (RdSs.keep (fun q hq => World.cell?_of_block (hfar _ (by have := hq.1; omega))) _ _ _ HB.out)
set_option maxRecDepth 100000 in
set_option maxHeartbeats 8000000 in
theorem fn_ret (k : Nat) (g : Nat) (s : PS) (l : List Pa) (s2 : PS) (b : List St) (s3 : PS) (w : World) (hpk : paramsK k (s.need1 ([102, 110] : List UInt8)).nameP = some (l, s2)) (hco : s2.isB ([58] : List UInt8) = true) (hbk : blockK k (typeP s2.next).2 = some (b, s3)) (hok : Ok k s) (h : PAt w g s) :
    Calls Tryz.prog 20 #[.pointer (some ⟨g, 0, none⟩)] w (FnP g w.heap.size w (⟨strB (s.need1 ([102, 110] : List UInt8)).now.bytes, s.now.at_, l, (typeP s2.next).1, b, 0⟩, s3)) := by
  have hgl := h.lt
  obtain ⟨W, hW, hbW, hzW, hbX, hbR⟩ := two_al w #[.pointer (some ⟨g, 0, none⟩)] #[.string ⟨#[]⟩, .int .i64 0, .slice none 0 0, .int .i64 0, .slice none 0 0, .int .i64 0] 59 49
  have hN := now_any g s W (h.keep hbW)
  have HPW := Lib.hid (h.keep hbW)
  have HbW := Lib.hid hbW
  have HbX := Lib.hid hbX
  have HbR := Lib.hid hbR
  have bx0 := Lib.cell_of_heap hbX 0
  obtain ⟨t, ht⟩ : ∃ t, t = s.now := ⟨_, rfl⟩
  rw [← ht] at hN ⊢
  obtain ⟨tk, ta, tn, tb⟩ := t
  unfold tkV at hN
  simp only at hN ⊢
  have f1 := tok_f1 tk ta tn ⟨tb.toArray⟩
  have hok1 : Ok k (s.need1 ([102, 110] : List UInt8)).nameP := (hok.need _).even (even_name _)
  have hevp : Even (s.need1 ([102, 110] : List UInt8)).nameP s2 := by
    unfold paramsK at hpk
    split at hpk
    · simp only [Option.some.injEq, Prod.mk.injEq] at hpk
      obtain ⟨_, rfl⟩ := hpk
      exact (even_need1 _ _).trans (even_in (even_need1 _ _))
    · split at hpk
      · cases hpk
      · rename_i l' s' ha
        simp only [Option.some.injEq, Prod.mk.injEq] at hpk
        obtain ⟨_, rfl⟩ := hpk
        exact (even_need1 _ _).trans (even_in ((even_args _ _ _ _ ha).1.trans (even_need1 _ _)))
  have hok2 : Ok k s2 := hok1.even hevp
  have hB := fun lo w' (hp : PAt w' g (typeP s2.next).2) (hl : lo ≤ w'.heap.size) => block_c k g lo _ (b, s3) w' hbk ((hok2.even (even_next s2)).even (even_type _).1) hp hl
  have hT := fun w' (hp : PAt w' g s2) => take_yes g s2 ([58] : List UInt8) w' hp hco
  have hmf : ∀ (fn : Fn) (first cap : Array Value) (w : World), (Instr.makeFunc fn first cap).run Tryz.prog w = .ok (.func fn first cap) w := fun _ _ _ _ => rfl
  have hL : ∀ bf bp nm w', g < bp → bp + 1 < bf → w.heap.size ≤ bp → PAt w' g (s.need1 ([102, 110] : List UInt8)).nameP → JF g bf bp w nm ta [] w' → Calls Tryz.prog 40 #[.pointer (some ⟨g, 0, none⟩), .string ⟨(([40] : List UInt8)).toArray⟩, .string ⟨(([41] : List UInt8)).toArray⟩, .func (.func 41) #[] #[.pointer (some ⟨bf, 0, none⟩), .pointer (some ⟨bp, 0, none⟩)]] w' fun r w'' => r = .returned (.tuple #[]) ∧ PAt w'' g s2 ∧ JF g bf bp w nm ta l w'' := fun bf bp nm w' h1 h2 h3 hp hj0 => by
    have hF : ∀ W, (callFunc 41 #[.pointer (some ⟨bf, 0, none⟩), .pointer (some ⟨bp, 0, none⟩)]).run Tryz.prog W = .ok (.enter 41 #[.pointer (some ⟨bf, 0, none⟩), .pointer (some ⟨bp, 0, none⟩)]) W := fun _ => by kernel_rfl
    have hJ : ∀ a w1 w2, JF g bf bp w nm ta a w1 → But g w1 w2 → JF g bf bp w nm ta a w2 := fun a w1 w2 hj hb => hj.but hb h1 h2
    unfold Ok at hok1
    unfold paramsK at hpk
    split at hpk
    · rename_i hQ
      simp only [Option.some.injEq, Prod.mk.injEq] at hpk
      obtain ⟨rfl, rfl⟩ := hpk
      exact list_none g (JF g bf bp w nm ta) 41 _ _ ([40] : List UInt8) ([41] : List UInt8) [] w' hp (by omega) (by omega) hJ hQ hj0
    · rename_i hQ
      split at hpk
      · cases hpk
      · rename_i l' s' ha
        simp only [Option.some.injEq, Prod.mk.injEq] at hpk
        obtain ⟨rfl, rfl⟩ := hpk
        exact list_some StepA g (JF g bf bp w nm ta) 41 _ _ ([40] : List UInt8) ([41] : List UInt8) k [] l' s' w' hp (by omega) (by omega) (even_args _ _ _ _ ha).1 hF hJ (fun a s b s1 w1 hs hp hj => fnF_any g bf bp w nm ta h1 h2 h3 a s b s1 w1 hs hp hj) (by simpa using hQ) (args_rounds k [] _ _ ha (by simp; omega)) hj0
  clear hok hok1 hok2 hevp hpk hbk hco h hbW hbX hbR ht
  unfold strB
  go_enter Tryz.func20, Tryz.ntmps20
  go_upto_region 1 with fail
  rw [← hW]
  clear hW
  go_upto_region 2 with (go_at_call 18; refine hN.mono ?_; rintro e w2 ⟨rfl, hb⟩; have Hb2 := Lib.hid hb; have hz2 := hb.size; clear hb hN)
  obtain ⟨w3, hw3, hb3, hz3, hf3⟩ := one_al w2 #[.string ⟨#[]⟩, .int .i64 ta, .slice none 0 0, .int .i64 0, .slice none 0 0, .int .i64 0] 49
  rw [← hw3]
  clear hw3
  obtain ⟨bf, hbf⟩ : ∃ bf, bf = w2.heap.size := ⟨_, rfl⟩
  obtain ⟨bp, hbp⟩ : ∃ bp, bp = w.heap.size := ⟨_, rfl⟩
  have hgp : g < bp := by omega
  have hpf : bp + 1 < bf := by omega
  have hwp : w.heap.size ≤ bp := by omega
  have G0 : Hid (F8 g bf bp w w3 s #[.string ⟨#[]⟩, .int .i64 ta, .slice none 0 0, .int .i64 0, .slice none 0 0, .int .i64 0]) := by
    have hb13 := Hb2.out.trans (hb3.mono Hb2.out.size)
    subst hbp
    refine Lib.hid ⟨HPW.out.keep hb13, (But.of_below HbW.out).trans (But.of_below hb13), ?_, (hb13.block _ (by omega)).trans HbX.out, (hb13.block _ (by omega)).trans HbR.out⟩
    rw [hbf]; exact hf3
  rw [← hbf, ← hbp]
  have HLO := Lib.hid hbp
  clear hbf hbp hb3 hz3 hf3 hzW hz2 Hb2 HPW HbW HbX HbR bx0 f1
  have bx := Lib.cell_of_heap G0.out.box 0
  go_upto_region 3 with (go_at_call 38; refine (need1_at g (s) ([102, 110] : List UInt8) w3 G0.out.at_).mono ?_; rintro e x1 ⟨rfl, hp, hb⟩; have G1 := Lib.hid (G0.out.nxt hgp hpf hp hb); clear hp hb bx; have bx := Lib.cell_of_heap G1.out.box 0)
  obtain ⟨c0, c1, c2, c3, c4, c5, cf⟩ := cells6 G1.out.cell
  go_upto_region 4 with (go_at_call 39; refine (name_p g (s.need1 ([102, 110] : List UInt8)) x1 G1.out.at_).mono ?_; rintro e x2 ⟨rfl, hp, hb⟩; have G2 := Lib.hid (G1.out.nxt hgp hpf hp hb); clear c0 c1 c2 c3 c4 c5 cf; clear hp hb bx; have bx := Lib.cell_of_heap G2.out.box 0; obtain ⟨c0, c1, c2, c3, c4, c5, cf⟩ := cells6 G2.out.cell)
  obtain ⟨x3, hw⟩ : ∃ W, W = x2.setCell ⟨bf, 0, none⟩ (.string ⟨(s.need1 ([102, 110] : List UInt8)).now.bytes.toArray⟩) := ⟨_, rfl⟩
  rw [← hw]
  have G3 : Hid (F8 g bf bp w x3 ((s.need1 ([102, 110] : List UInt8)).nameP) #[.string ⟨(s.need1 ([102, 110] : List UInt8)).now.bytes.toArray⟩, .int .i64 ta, .slice none 0 0, .int .i64 0, .slice none 0 0, .int .i64 0]) := by
    rw [hw]
    have := G2.out.set hgp hpf hwp 0 (.string ⟨(s.need1 ([102, 110] : List UInt8)).now.bytes.toArray⟩)
    simp only [List.setIfInBounds_toArray, List.set_cons_zero, List.set_cons_succ] at this
    exact Lib.hid this
  clear hw c0 c1 c2 c3 c4 c5 cf bx
  have bx := Lib.cell_of_heap G3.out.box 0
  have hL1 := hL bf bp ⟨(s.need1 ([102, 110] : List UInt8)).now.bytes.toArray⟩ x3 hgp (by omega) hwp G3.out.at_ ⟨.slice none 0 0, G3.out.box, G3.out.cell, World.ownsRow_nil _ _ _ _, G3.out.but, G3.out.res⟩
  go_upto_region 5 with (go_at_call 40; refine hL1.mono ?_; rintro e x4 ⟨rfl, hp, hj⟩; obtain ⟨v, hbx, hbf, hown, hbut, hres⟩ := hj; obtain ⟨PA, pc, rfl, hra⟩ := own_args hown; have G4 : Hid (F8 g bf bp w x4 s2 #[.string ⟨(s.need1 ([102, 110] : List UInt8)).now.bytes.toArray⟩, .int .i64 ta, .slice PA l.length pc, .int .i64 0, .slice none 0 0, .int .i64 0]) := Lib.hid ⟨hp, hbut, hbf, hbx, hres⟩; have HA := Lib.hid hra; clear hp hbx hbf hown hra hbut hres bx hL1 hL; have bx := Lib.cell_of_heap G4.out.box 0)
  go_upto_region 6 with (go_at_call 43; refine (hT x4 G4.out.at_).mono ?_; rintro e x5 ⟨rfl, hp, hb⟩; have G5 := Lib.hid (G4.out.nxt hgp hpf hp hb); have HA2 := Lib.hid (RdAs.more (fun _ hS => From.up hb.size hS) (RdAs.keep (fun q hq => hb.cell hq.2 (by have := hq.1; omega)) HA.out)); clear HA; have HA := HA2; clear HA2; clear hp hb bx; have bx := Lib.cell_of_heap G5.out.box 0)
  obtain ⟨c0, c1, c2, c3, c4, c5, cf⟩ := cells6 G5.out.cell
  go_upto_region 7 with (go_at_call 44; refine (kind_any g s2.next x5 G5.out.at_).mono ?_; rintro e x6 ⟨rfl, hp, hb⟩; have G6 := Lib.hid (G5.out.nxt hgp hpf hp hb); have HA2 := Lib.hid (RdAs.more (fun _ hS => From.up hb.size hS) (RdAs.keep (fun q hq => hb.cell hq.2 (by have := hq.1; omega)) HA.out)); clear HA; have HA := HA2; clear HA2; clear c0 c1 c2 c3 c4 c5 cf; clear hp hb bx; have bx := Lib.cell_of_heap G6.out.box 0; obtain ⟨c0, c1, c2, c3, c4, c5, cf⟩ := cells6 G6.out.cell)
  obtain ⟨x7, hw⟩ : ∃ W, W = x6.setCell ⟨bf, 3, none⟩ (.int .i64 (typeP s2.next).1) := ⟨_, rfl⟩
  rw [← hw]
  have G7 : Hid (F8 g bf bp w x7 ((typeP s2.next).2) #[.string ⟨(s.need1 ([102, 110] : List UInt8)).now.bytes.toArray⟩, .int .i64 ta, .slice PA l.length pc, .int .i64 (typeP s2.next).1, .slice none 0 0, .int .i64 0]) := by
    rw [hw]
    have := G6.out.set hgp hpf hwp 3 (.int .i64 (typeP s2.next).1)
    simp only [List.setIfInBounds_toArray, List.set_cons_zero, List.set_cons_succ] at this
    exact Lib.hid this
  have HA2 := Lib.hid (RdAs.more (S' := From (bf + 1) x7) (fun _ hS => by rw [hw]; exact ⟨hS.1, by simpa [World.setCell] using hS.2⟩) (RdAs.keep (w' := x7) (fun q hq => by rw [hw]; exact World.cell?_of_block (Below.heap_setCell _ _ _ _ (by have := hq.1; simp; omega))) HA.out))
  clear HA
  have HA := HA2
  clear HA2
  clear hw c0 c1 c2 c3 c4 c5 cf bx
  have bx := Lib.cell_of_heap G7.out.box 0
  obtain ⟨c0, c1, c2, c3, c4, c5, cf⟩ := cells6 G7.out.cell
  go_upto_region 8 with (go_at_call 45; refine (hB (bf + 1) x7 G7.out.at_ (heap_lt G7.out.cell)).mono ?_; rintro e x8 ⟨B, bc, rfl, hB2, hp, hb⟩; have G8 := Lib.hid (G7.out.nxt hgp hpf hp hb); have HA2 := Lib.hid (RdAs.more (fun _ hS => From.up hb.size hS) (RdAs.keep (fun q hq => hb.cell hq.2 (by have := hq.1; omega)) HA.out)); clear HA; have HA := HA2; clear HA2; have HB := Lib.hid hB2; clear hB2 hB; clear c0 c1 c2 c3 c4 c5 cf; clear hp hb bx; have bx := Lib.cell_of_heap G8.out.box 0; obtain ⟨c0, c1, c2, c3, c4, c5, cf⟩ := cells6 G8.out.cell; obtain ⟨r0, r1, r2, r3, r4, r5, rf⟩ := cells6 G8.out.res; have hrz := heap_lt G8.out.res; have hfz := heap_lt G8.out.cell)
  obtain ⟨x9, hw⟩ : ∃ W, W = x8.setCell ⟨bf, 4, none⟩ (.slice B b.length bc) := ⟨_, rfl⟩
  rw [← hw]
  have G9 : Hid (F8 g bf bp w x9 (s3) #[.string ⟨(s.need1 ([102, 110] : List UInt8)).now.bytes.toArray⟩, .int .i64 ta, .slice PA l.length pc, .int .i64 (typeP s2.next).1, .slice B b.length bc, .int .i64 0]) := by
    rw [hw]
    have := G8.out.set hgp hpf hwp 4 (.slice B b.length bc)
    simp only [List.setIfInBounds_toArray, List.set_cons_zero, List.set_cons_succ] at this
    exact Lib.hid this
  have HA2 := Lib.hid (RdAs.more (S' := From (bf + 1) x9) (fun _ hS => by rw [hw]; exact ⟨hS.1, by simpa [World.setCell] using hS.2⟩) (RdAs.keep (w' := x9) (fun q hq => by rw [hw]; exact World.cell?_of_block (Below.heap_setCell _ _ _ _ (by have := hq.1; simp; omega))) HA.out))
  clear HA
  have HA := HA2
  clear HA2
  have HB2 := Lib.hid (RdSs.more (S' := From (bf + 1) x9) (fun _ hS => by rw [hw]; exact ⟨hS.1, by simpa [World.setCell] using hS.2⟩) _ _ _ (RdSs.keep (w' := x9) (fun q hq => by rw [hw]; exact World.cell?_of_block (Below.heap_setCell _ _ _ _ (by have := hq.1; simp; omega))) _ _ _ HB.out))
  clear HB
  have HB := HB2
  clear HB2
  clear hw c0 c1 c2 c3 c4 c5 cf bx r0 r1 r2 r3 r4 r5 rf
  obtain ⟨c0, c1, c2, c3, c4, c5, cf⟩ := cells6 G9.out.cell
  obtain ⟨r0, r1, r2, r3, r4, r5, rf⟩ := cells6 G9.out.res
  go_wp2
  refine bodyPost_ret (v := .agg #[.string ⟨(s.need1 ([102, 110] : List UInt8)).now.bytes.toArray⟩, .int .i64 ta, .slice PA l.length pc, .int .i64 (typeP s2.next).1, .slice B b.length bc, .int .i64 0]) (by simp [results, Tryz.results20, go_sem, r0, r1, r2, r3, r4, r5]) rfl ?_
  have hlo := HLO.out
  have hbe : Below (bp + 1) x9 ((((((x9.setCell ⟨bp + 1, 0, none⟩ (.string ⟨(s.need1 ([102, 110] : List UInt8)).now.bytes.toArray⟩)).setCell ⟨bp + 1, 1, none⟩ (.int .i64 ta)).setCell ⟨bp + 1, 2, none⟩ (.slice PA l.length pc)).setCell ⟨bp + 1, 3, none⟩ (.int .i64 (typeP s2.next).1)).setCell ⟨bp + 1, 4, none⟩ (.slice B b.length bc)).setCell ⟨bp + 1, 5, none⟩ (.int .i64 0)) := by
    repeat (first | with_reducible exact Below.refl _ _ | with_reducible refine Below.setCell ?_ (by simp) _)
  have hfar : ∀ c : Nat, c ≠ bp + 1 → ((((((x9.setCell ⟨bp + 1, 0, none⟩ (.string ⟨(s.need1 ([102, 110] : List UInt8)).now.bytes.toArray⟩)).setCell ⟨bp + 1, 1, none⟩ (.int .i64 ta)).setCell ⟨bp + 1, 2, none⟩ (.slice PA l.length pc)).setCell ⟨bp + 1, 3, none⟩ (.int .i64 (typeP s2.next).1)).setCell ⟨bp + 1, 4, none⟩ (.slice B b.length bc)).setCell ⟨bp + 1, 5, none⟩ (.int .i64 0)).heap[c]? = x9.heap[c]? := fun c hc => by
    repeat (with_reducible refine (Below.heap_setCell _ _ _ _ (by simpa using hc)).trans ?_)
    rfl
  refine ⟨_, _, _, _, _, PA, pc, B, bc, rfl, rfl, ?_, ?_, G9.out.at_.up (hbe.mono (by omega)), G9.out.but.up (hbe.mono (by omega))⟩
  · exact RdAs.more (fun b hb => ⟨by have := hb.1; omega, Nat.lt_of_lt_of_le hb.2 hbe.size⟩) (RdAs.keep (fun q hq => World.cell?_of_block (hfar _ (by have := hq.1; omega))) HA.out)
  · exact RdSs.more (fun b hb => ⟨by have := hb.1; omega, Nat.lt_of_lt_of_le hb.2 hbe.size⟩) _ _ _ (RdSs.keep (fun q hq => World.cell?_of_block (hfar _ (by have := hq.1; omega))) _ _ _ HB.out)
/-- What is asked of a function. -/
theorem fn_any (k : Nat) (g lo : Nat) (s : PS) (r : Fu × PS) (w : World) (hr : fnK k s = some r) (hok : Ok k s) (h : PAt w g s) (hlo : lo ≤ w.heap.size) :
    Calls Tryz.prog 20 #[.pointer (some ⟨g, 0, none⟩)] w (FnP g lo w r) := by
  refine Calls.mono ?_ (fun _ _ hp => ?_) (R := FnP g w.heap.size w r)
  · unfold fnK at hr
    simp only at hr
    cases hpk : paramsK k (s.need1 ([102, 110] : List UInt8)).nameP with
    | none => rw [hpk] at hr; cases hr
    | some y =>
      rw [hpk] at hr
      obtain ⟨l, s2⟩ := y
      simp only at hr
      by_cases hc : s2.isB ([58] : List UInt8) = true
      · rw [if_pos hc] at hr
        cases hb : blockK k (typeP s2.next).2 with
        | none => rw [hb] at hr; cases hr
        | some z =>
          rw [hb] at hr
          obtain ⟨b, s3⟩ := z
          simp only [Option.some.injEq] at hr
          subst hr
          exact fn_ret k g s l s2 b s3 w hpk hc hb hok h
      · rw [if_neg hc] at hr
        cases hb : blockK k s2 with
        | none => simp only [hb] at hr; cases hr
        | some z =>
          obtain ⟨b, s3⟩ := z
          simp only [hb, Option.some.injEq] at hr
          subst hr
          exact fn_void k g s l s2 b s3 w hpk (by simpa using hc) hb hok h
  · obtain ⟨nm, a, ps, ret, body, PA, pc, B, bc, he, hx, h1, h2, hp, hb⟩ := hp
    exact ⟨nm, a, ps, ret, body, PA, pc, B, bc, he, hx, h1.more (fun _ hS => hS.lo hlo), RdSs.more (fun _ hS => hS.lo hlo) _ _ _ h2, hp, hb⟩
end Go.Proofs.YtiadbeglhnocoaaGreatDoor
