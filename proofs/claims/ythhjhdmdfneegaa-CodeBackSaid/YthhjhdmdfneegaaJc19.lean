/-
  The base with changes: a number of a list is another one, or two are turned round.
-/
import Derived.Test.YthhjhdmdfneegaaJc18
import Derived.StillTailTactics
import Derived.BigRegion
namespace Go.Proofs.Ythhjhdmdfneegaa
set_option linter.unusedVariables false
set_option linter.unusedSimpArgs false
open Go.RowKit

theorem upG_twice (F : Nat → GRw) (k : Nat) (r r' : GRw) : upG (upG F k r) k r' = upG F k r' := by
  funext j
  unfold upG
  split <;> rfl
/-- Two numbers of a row of numbers are other ones. -/
theorem PS.swap {w wr : World} {B fb : Nat} {mn : Int} {n : Nat} {F : Nat → GRw} (h : PS w wr B fb mn n F) {j : Nat} (hj : rk j = .ints) {l : List Int} {g c : Nat} (hg : F j = ⟨3, 1, .slice (some ⟨g, 0, none⟩) l.length c, l.length, intsV l⟩) {q r : Nat} {x y : Int} (hx : InG x) (hy : InG y) (hl : ∀ y ∈ l, InG y) (hn : l.length ≤ n) (ha : allC (upG F j ⟨3, 1, .slice (some ⟨g, 0, none⟩) l.length c, l.length, intsV ((l.set q x).set r y)⟩)) : PS w ((wr.setCell ⟨g, q, none⟩ (.int .i64 x)).setCell ⟨g, r, none⟩ (.int .i64 y)) B fb mn n (upG F j ⟨3, 1, .slice (some ⟨g, 0, none⟩) l.length c, l.length, intsV ((l.set q x).set r y)⟩) := by
  obtain ⟨f1, f2⟩ := h.fam.put hg q (.int .i64 x)
  have e : (intsV l).set q (.int .i64 x) = intsV (l.set q x) := by simp [intsV, List.map_set]
  rw [e] at f1
  obtain ⟨f3, f4⟩ := f1.put (upG_at _ _ _) r (.int .i64 y)
  have e2 : (intsV (l.set q x)).set r (.int .i64 y) = intsV ((l.set q x).set r y) := by simp [intsV, List.map_set]
  rw [e2, upG_twice] at f3
  have hob := (h.fam.at hg).lt g rfl
  have hjz : j ≠ 0 := fun e => by rw [e] at hj; cases hj
  refine ⟨(Below.heap_setCell _ _ _ _ (by show B ≠ g; omega)).trans ((Below.heap_setCell _ _ _ _ (by show B ≠ g; omega)).trans h.p), h.mn, f3, by rw [upG_off _ _ _ _ (fun e => hjz e.symm)]; exact h.fv, ?_, (h.b.setCell (p := ⟨g, q, none⟩) (by show B ≤ g; omega) _).setCell (p := ⟨g, r, none⟩) (by show B ≤ g; omega) _⟩
  refine h.ci.ints hj (by rw [hg]) ⟨(l.set q x).set r y, rfl, rfl, by rw [List.length_set, List.length_set], rfl, fun z hz => ?_, by rw [List.length_set, List.length_set]; exact hn⟩ ha
  rcases List.mem_or_eq_of_mem_set hz with h1 | h1
  · rcases List.mem_or_eq_of_mem_set h1 with h2 | h2
    · exact hl z h2
    · rw [h2]; exact hx
  · rw [h1]; exact hy
theorem intsV_inj {l l2 : List Int} (h : intsV l = intsV l2) : l = l2 := by
  have h3 := congrArg (List.map fun v => match v with | Value.int .i64 z => z | _ => 0) h
  simpa [intsV, Function.comp_def] using h3
/-- Two turned round: the same members. -/
theorem swap_mem (l : List Int) (q r : Nat) (hq : q < l.length) (hr : r < l.length) : ∀ x ∈ l, x ∈ (l.set q l[r]).set r l[q] := by
  intro x hx
  obtain ⟨i, hi, rfl⟩ := List.getElem_of_mem hx
  have hlen : ((l.set q l[r]).set r l[q]).length = l.length := by rw [List.length_set, List.length_set]
  by_cases h1 : i = r
  · subst h1
    by_cases h2 : q = i
    · subst h2
      refine List.mem_iff_getElem.mpr ⟨q, by omega, by simp⟩
    · refine List.mem_iff_getElem.mpr ⟨q, by omega, ?_⟩
      rw [List.getElem_set_ne (fun e => h2 e.symm), List.getElem_set_self]
  · by_cases h2 : i = q
    · subst h2
      exact List.mem_iff_getElem.mpr ⟨r, by omega, by rw [List.getElem_set_self]⟩
    · refine List.mem_iff_getElem.mpr ⟨i, by omega, ?_⟩
      rw [List.getElem_set_ne (fun e => h1 e.symm), List.getElem_set_ne (fun e => h2 e.symm)]
set_option maxRecDepth 100000 in
set_option maxHeartbeats 8000000 in
theorem way4 {s : Nat → Value} {w0 w : World} {B fb : Nat} {mn : Int} {n : Nat} {F : Nat → GRw} {cb f xi bi ib bb : Nat} {t to_ nn : Int} (h : Wy s w0 w B fb mn n F cb f xi bi ib bb t to_ nn) (Q : Exit → Act → World → Prop) (hQ : ∀ a' w' mn' F', KeepF s a' → PS w0 w' B fb mn' (n + 1) F' → Q .normal a' w') : chW4.wp Try.prog Q (fr s) w := by
  have hb := h.hx
  have hq : xi * 5 + 2 < insM f * 5 := by omega
  have hP : insP f (xi * 5 + 2) = .r (aN f xi) := by unfold insP; rw [if_pos (by omega), show (xi * 5 + 2) / 5 = xi by omega]
  have hrj : rk (aN f xi) = .ints := (rk_far (by unfold aN; omega))
  obtain ⟨v, -, hv, hc, hfz⟩ := h.ps.stat (rk_ins h.hf) h.fx (xi * 5 + 2) hq
  obtain ⟨l, A, lc, hFj, hl, hln, hA⟩ := h.ps.ir hrj
  have hv2 : v = .slice A l.length lc := by
    rw [hP] at hv
    have : v = (F (aN f xi)).v := hv
    rw [this, hFj]
  subst hv2
  have hn := h.hn
  have hPd : PS w0 w.drew B fb mn n F := h.ps.keep ((Below.refl _ _).drew)
  obtain ⟨m, hm⟩ : ∃ m, m = l.length := ⟨_, rfl⟩
  rw [← hm] at hc
  have H0 := Lib.hid (h.ps.mono (Nat.le_succ n))
  by_cases hp : 0 < l.length
  · obtain ⟨gg, hAg, -, hgg⟩ := hA hp
    subst hAg
    have ho := h.ps.fam.at hFj
    obtain ⟨x, hx⟩ : ∃ x, l[0]? = some x := ⟨l[0], List.getElem?_eq_getElem hp⟩
    have d0 : w.cell? ⟨gg, 0, none⟩ = some (.int .i64 x) := (ho.cellAt 0 (by show 0 < l.length * 1; omega)).trans (by show (intsV l)[0]? = _; simp [intsV, hx])
    have d1 : w.frozen? ⟨gg, 0, none⟩ = false := ho.frozenAt 0
    have HE := Lib.hid ((hPd.set hrj hFj (q := 0) (x := to_) h.g3 hl hln (all_off h.ps.ci.all (fun f' k' _ _ => by unfold aN bN; have := h.hx; have hm := insM_b f; have := h.hf; omega))).mono (Nat.le_succ n))
    have hmp : 0 < m := by omega
    have hmi : (0 : Int) < (m : Int) := by omega
    have c := h.c3
    have e0 : w.drew.cell? ⟨gg, 0, none⟩ = some (.int .i64 x) := d0
    have e1 : w.drew.frozen? ⟨gg, 0, none⟩ = false := d1
    have e2 : w.drew.cell? ⟨ib, xi * 5 + 2, none⟩ = some (.slice (some ⟨gg, 0, none⟩) m lc) := hc
    have e3 : w.drew.cell? ⟨cb, 3, none⟩ = some (.int .i64 to_) := h.c3
    have hs4 := h.s4
    have hs := h.s6
    rw [fr_lit]
    conv => arg 2; whnf
    rw [hs4, hs]
    clear hs hs4 hPd ho hx hm hp hA hFj hl hln hrj hP hq hb hfz hv h
    go_upto_region 21 with fail
    go_still_tail 6, (by kernel_rfl)
    change wpList _ _ _ _ _ w.drew
    clear d0 d1 c hc
    go_wp2
    exact hQ _ _ _ _ ⟨rfl, rfl, rfl, rfl, rfl, rfl⟩ HE.out
  · have hm0 : m = 0 := by omega
    subst hm0
    have c := h.c3
    have hs4 := h.s4
    have hs := h.s6
    rw [fr_lit]
    conv => arg 2; whnf
    rw [hs4, hs]
    clear hs hs4 hPd hA hFj hl hln hrj hP hq hb hfz hv hm hp h
    go_wp2
    exact hQ _ _ _ _ ⟨rfl, rfl, rfl, rfl, rfl, rfl⟩ H0.out
set_option maxRecDepth 100000 in
set_option maxHeartbeats 8000000 in
theorem way12 {s : Nat → Value} {w0 w : World} {B fb : Nat} {mn : Int} {n : Nat} {F : Nat → GRw} {cb f xi bi ib bb : Nat} {t to_ nn : Int} (h : Wy s w0 w B fb mn n F cb f xi bi ib bb t to_ nn) (Q : Exit → Act → World → Prop) (hQ : ∀ a' w' mn' F', KeepF s a' → PS w0 w' B fb mn' (n + 1) F' → Q .normal a' w') : chW12.wp Try.prog Q (fr s) w := by
  have hb := h.hb
  have hq : bi * 5 + 4 < blkM f * 5 := by omega
  have hP : blkP f (bi * 5 + 4) = .r (bN f bi 2) := by unfold blkP; rw [if_neg (by omega), if_neg (by omega), if_pos (by omega), show (bi * 5 + 4) / 5 = bi by omega]
  have hrj : rk (bN f bi 2) = .ints := (rk_far (by unfold bN; omega))
  obtain ⟨v, -, hv, hc, hfz⟩ := h.ps.stat (rk_blk h.hf) h.fk (bi * 5 + 4) hq
  obtain ⟨l, A, lc, hFj, hl, hln, hA⟩ := h.ps.ir hrj
  have hv2 : v = .slice A l.length lc := by
    rw [hP] at hv
    have : v = (F (bN f bi 2)).v := hv
    rw [this, hFj]
  subst hv2
  have hn := h.hn
  have hPd : PS w0 w.drew B fb mn n F := h.ps.keep ((Below.refl _ _).drew)
  obtain ⟨m, hm⟩ : ∃ m, m = l.length := ⟨_, rfl⟩
  rw [← hm] at hc
  have H0 := Lib.hid (h.ps.mono (Nat.le_succ n))
  by_cases hp : 0 < l.length
  · obtain ⟨gg, hAg, -, hgg⟩ := hA hp
    subst hAg
    have ho := h.ps.fam.at hFj
    obtain ⟨x, hx⟩ : ∃ x, l[0]? = some x := ⟨l[0], List.getElem?_eq_getElem hp⟩
    have d0 : w.cell? ⟨gg, 0, none⟩ = some (.int .i64 x) := (ho.cellAt 0 (by show 0 < l.length * 1; omega)).trans (by show (intsV l)[0]? = _; simp [intsV, hx])
    have d1 : w.frozen? ⟨gg, 0, none⟩ = false := ho.frozenAt 0
    have HE := Lib.hid ((hPd.set hrj hFj (q := 0) (x := to_) h.g3 hl hln (all_off h.ps.ci.all (fun f' k' _ _ => by unfold bN; omega))).mono (Nat.le_succ n))
    have hmp : 0 < m := by omega
    have hmi : (0 : Int) < (m : Int) := by omega
    have c := h.c3
    have e0 : w.drew.cell? ⟨gg, 0, none⟩ = some (.int .i64 x) := d0
    have e1 : w.drew.frozen? ⟨gg, 0, none⟩ = false := d1
    have e2 : w.drew.cell? ⟨bb, bi * 5 + 4, none⟩ = some (.slice (some ⟨gg, 0, none⟩) m lc) := hc
    have e3 : w.drew.cell? ⟨cb, 3, none⟩ = some (.int .i64 to_) := h.c3
    have hs4 := h.s4
    have hs := h.s7
    rw [fr_lit]
    conv => arg 2; whnf
    rw [hs4, hs]
    clear hs hs4 hPd ho hx hm hp hA hFj hl hln hrj hP hq hb hfz hv h
    go_upto_region 40 with fail
    go_still_tail 7, (by kernel_rfl)
    change wpList _ _ _ _ _ w.drew
    clear d0 d1 c hc
    go_wp2
    exact hQ _ _ _ _ ⟨rfl, rfl, rfl, rfl, rfl, rfl⟩ HE.out
  · have hm0 : m = 0 := by omega
    subst hm0
    have c := h.c3
    have hs4 := h.s4
    have hs := h.s7
    rw [fr_lit]
    conv => arg 2; whnf
    rw [hs4, hs]
    clear hs hs4 hPd hA hFj hl hln hrj hP hq hb hfz hv hm hp h
    go_wp2
    exact hQ _ _ _ _ ⟨rfl, rfl, rfl, rfl, rfl, rfl⟩ H0.out
end Go.Proofs.Ythhjhdmdfneegaa
