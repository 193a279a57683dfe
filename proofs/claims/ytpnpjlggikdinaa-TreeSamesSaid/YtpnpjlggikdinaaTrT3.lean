/-
  The law's stmts at each depth; what Tree must hand back.
-/
import Derived.Test.YtpnpjlggikdinaaTrT2
import Derived.Deep.RegionWith
namespace Go.Proofs.Ytpnpjlggikdinaa
open Go.RowKit

theorem stmts_at (N d : Nat) (hd : d ≤ 5) : StmtsAt N d := by
  induction d with
  | zero =>
    intro l A cap w h hl hc hN hs
    exact stmts_walk N 0 hd l A cap hl hc hs w hN h (fun d' h => absurd h (by omega))
  | succ d ih =>
    intro l A cap w h hl hc hN hs
    exact stmts_walk N (d + 1) hd l A cap hl hc hs w hN h (fun d' h => by
      obtain rfl : d = d' := by omega
      exact ih (by omega))
theorem infoPa : (Try.prog.info? 35).map (fun i => (i.zero, i.size, i.bytes)) = some (some (.agg #[.string ⟨#[]⟩, .int .i64 0]), 2, 24) := by kernel_rfl
/-- 'l[:m]', as the walk takes it. -/
theorem RdL.head_run {w : World} {N : Nat} {A : Option Addr} {l : List EE} {cap : Nat} (h : RdL w N A l) (hc : l.length ≤ cap) (m : Nat) (hm : m ≤ l.length) :
    ∃ A1, (∀ W, (Instr.slice 22 (.slice A l.length cap) none (some (.int .i64 (m : Int))) none).run Try.prog W = .ok (.slice A1 (l.take m).length cap) W) ∧ RdL w N A1 (l.take m) := by
  have hlen : (l.take m).length = m := by rw [List.length_take]; omega
  rw [hlen]
  refine ⟨if cap = 0 then A else A.map (·.add 0), fun W => ?_, fun hl => ?_⟩
  · rw [run_slice_h W 22 A l.length cap (by simp [Program.elem, Try.underlying22]) .i64 (m : Int) (by omega) (by omega)]
    go_simp
  · rw [hlen] at hl
    obtain ⟨g, o, rfl, hg, hx⟩ := h (by omega)
    refine ⟨g, o, ?_, hg, fun i x hi => hx i x ?_⟩
    · split <;> simp [Addr.add]
    · rw [List.getElem?_take] at hi
      split at hi
      · exact hi
      · simp at hi

theorem fn6 {w : World} {b : Nat} {v0 v1 v2 v3 v4 v5 : Value} {T : TypeId} {fr : Nat × Nat} (h : w.heap[b]? = some (.cells #[v0, v1, v2, v3, v4, v5] T fr)) : w.cell? ⟨b, 0, none⟩ = some v0 ∧ w.cell? ⟨b, 1, none⟩ = some v1 ∧ w.cell? ⟨b, 2, none⟩ = some v2 ∧ w.cell? ⟨b, 3, none⟩ = some v3 ∧ w.cell? ⟨b, 4, none⟩ = some v4 ∧ w.cell? ⟨b, 5, none⟩ = some v5 := by
  have hc := fun j => Lib.cell_of_heap h j
  exact ⟨hc 0, hc 1, hc 2, hc 3, hc 4, hc 5⟩
def paramsT (l : List EE) : List Pa := (l.take (l.length % 3)).map fun x => ⟨cut20 x.s, x.kind % 4⟩
def paCells (ps : List Pa) : List Value := ps.flatMap fun q => [.string q.name, .int .i64 q.type]
def bodyT (l : List EE) : List St := stmtsT 2 (l.take (min l.length 8))
/-- A program as the law makes it: two functions in a block of their own; the first one's arguments and statements lie in rows of the call's own. -/
def TreePost (nm : ByteArray) (l : List EE) (w : World) (e : Ending) (w' : World) : Prop :=
  ∃ (g : Nat) (P : Option Addr) (cp : Nat) (B : Option Addr) (cb : Nat) (bxs : List Value), e = .returned (.agg #[.slice (some ⟨g, 0, none⟩) 2 2]) ∧
    w'.heap[g]? = some (.cells #[.string nm, .int .i64 0, .slice P (paramsT l).length cp, .int .i64 ((l.length : Int) % 5), .slice B (bodyT l).length cb, .int .i64 0, .string ⟨#[109, 97, 105, 110]⟩, .int .i64 0, .slice none 0 0, .int .i64 1, .slice none 0 0, .int .i64 0] 31 (0, 0)) ∧
    w.heap.size ≤ g ∧ w'.ownsRow w.heap.size 35 2 (.slice P (paramsT l).length cp) (paramsT l).length (paCells (paramsT l)) ∧
    w'.ownsRow w.heap.size 38 8 (.slice B (bodyT l).length cb) (bodyT l).length bxs ∧
    (∀ k e, (bodyT l)[k]? = some e → RdS w' (fun b => w.heap.size ≤ b ∧ b < w'.heap.size ∧ b ≠ g) (fun j => bxs[k * 8 + j]?) e ∧ OwnK 40 w' w.heap.size (bxs[k * 8 + 5]?)) ∧
    Below w.heap.size w w'

/-- Six cells of a block stored one by one. -/
def put6 (w : World) (b : Nat) (v0 v1 v2 v3 v4 v5 : Value) : World := (((((w.setCell ⟨b, 0, none⟩ v0).setCell ⟨b, 1, none⟩ v1).setCell ⟨b, 2, none⟩ v2).setCell ⟨b, 3, none⟩ v3).setCell ⟨b, 4, none⟩ v4).setCell ⟨b, 5, none⟩ v5
theorem put6_heap {w : World} {b : Nat} {z0 z1 z2 z3 z4 z5 : Value} {T : TypeId} {fr : Nat × Nat} (h : w.heap[b]? = some (.cells #[z0, z1, z2, z3, z4, z5] T fr)) (v0 v1 v2 v3 v4 v5 : Value) : (put6 w b v0 v1 v2 v3 v4 v5).heap[b]? = some (.cells #[v0, v1, v2, v3, v4, v5] T fr) := by
  have h0 := heap_set h 0 v0
  simp only [List.setIfInBounds_toArray, List.set_cons_zero] at h0
  have h1 := heap_set h0 1 v1
  simp only [List.setIfInBounds_toArray, List.set_cons_zero, List.set_cons_succ] at h1
  have h2 := heap_set h1 2 v2
  simp only [List.setIfInBounds_toArray, List.set_cons_zero, List.set_cons_succ] at h2
  have h3 := heap_set h2 3 v3
  simp only [List.setIfInBounds_toArray, List.set_cons_zero, List.set_cons_succ] at h3
  have h4 := heap_set h3 4 v4
  simp only [List.setIfInBounds_toArray, List.set_cons_zero, List.set_cons_succ] at h4
  have h5 := heap_set h4 5 v5
  simp only [List.setIfInBounds_toArray, List.set_cons_zero, List.set_cons_succ] at h5
  exact h5
theorem put6_other {w : World} {b k : Nat} (hk : k ≠ b) (v0 v1 v2 v3 v4 v5 : Value) : (put6 w b v0 v1 v2 v3 v4 v5).heap[k]? = w.heap[k]? := by
  have H : ∀ (w : World) (j : Nat) (u : Value), (w.setCell ⟨b, j, none⟩ u).heap[k]? = w.heap[k]? := fun w j u => Below.heap_setCell w ⟨b, j, none⟩ u k hk
  unfold put6
  simp only [H]
theorem put6_below {w : World} {B b : Nat} (hB : B ≤ b) (v0 v1 v2 v3 v4 v5 : Value) : Below B w (put6 w b v0 v1 v2 v3 v4 v5) := by
  unfold put6
  exact ((((((Below.refl B w).setCell hB _).setCell hB _).setCell hB _).setCell hB _).setCell hB _).setCell hB _
theorem put6_size (w : World) (b : Nat) (v0 v1 v2 v3 v4 v5 : Value) : (put6 w b v0 v1 v2 v3 v4 v5).heap.size = w.heap.size := by
  unfold put6
  simp
/-- The first function's cells, made; its body stands as the call left it in w1. -/
def MidT (nm : ByteArray) (l : List EE) (r : Int) (w : World) (s5 : Value) (wx : World) : Prop :=
  ∃ (bf : Nat) (B : Option Addr) (cb : Nat) (bxs : List Value) (lo : Nat) (w1 : World), s5 = .pointer (some ⟨bf, 0, none⟩) ∧ wx.heap[bf]? = some (.cells #[.string nm, .int .i64 0, .slice none 0 0, .int .i64 r, .slice B (bodyT l).length cb, .int .i64 0] 31 (0, 0)) ∧ wx.heap[w.heap.size]? = some (.cells #[.slice none 0 0] 25 (0, 0)) ∧
    Stms 38 40 w1 lo (.slice B (bodyT l).length cb) bxs (bodyT l) ∧ w.heap.size + 1 ≤ lo ∧ w.heap.size + 1 ≤ bf ∧ (bf < lo ∨ w1.heap.size ≤ bf) ∧ (∀ k, lo ≤ k → k < w1.heap.size → wx.heap[k]? = w1.heap[k]?) ∧ bf < wx.heap.size ∧ w1.heap.size ≤ wx.heap.size ∧ Below w.heap.size w wx
theorem mid_A {nm : ByteArray} {l : List EE} {r : Int} {w w1 : World} {B : Option Addr} {cb : Nat} {bxs : List Value} (hSt : Stms 38 40 w1 (w.alloc (.cells #[.slice none 0 0] 25)).drew.heap.size (.slice B (bodyT l).length cb) bxs (bodyT l))
    (hb : Below (w.alloc (.cells #[.slice none 0 0] 25)).drew.heap.size (w.alloc (.cells #[.slice none 0 0] 25)).drew w1) :
    MidT nm l r w (.pointer (some ⟨w1.heap.size, 0, none⟩)) (w1.alloc (.cells #[.string nm, .int .i64 0, .slice none 0 0, .int .i64 r, .slice B (bodyT l).length cb, .int .i64 0] 31)) := by
  have hs := hb.size
  simp at hs
  refine ⟨w1.heap.size, B, cb, bxs, _, w1, rfl, heap_alloc_new w1 _, ?_, hSt, by simp, by omega, Or.inr (Nat.le_refl _), fun k _ h2 => Below.heap_alloc _ _ _ h2, by simp, by simp, ?_⟩
  · exact (Below.heap_alloc _ _ _ (by omega)).trans ((hb.block _ (by simp)).trans (heap_alloc_new w _))
  · exact ((((Below.refl _ _).alloc (Nat.le_refl _) _).drew).trans (hb.mono (by simp))).alloc (by omega) _
theorem mid_B {nm : ByteArray} {l : List EE} {r : Int} {w w1 : World} {B : Option Addr} {cb : Nat} {bxs : List Value} {z : Array Value} (hSt : Stms 38 40 w1 ((w.alloc (.cells #[.slice none 0 0] 25)).alloc (.cells z 31)).drew.heap.size (.slice B (bodyT l).length cb) bxs (bodyT l))
    (hb : Below ((w.alloc (.cells #[.slice none 0 0] 25)).alloc (.cells z 31)).drew.heap.size ((w.alloc (.cells #[.slice none 0 0] 25)).alloc (.cells z 31)).drew w1)
    (hz : w1.heap[w.heap.size + 1]? = some (.cells #[.string ⟨#[]⟩, .int .i64 0, .slice none 0 0, .int .i64 0, .slice none 0 0, .int .i64 0] 31 (0, 0))) :
    MidT nm l r w (.pointer (some ⟨w.heap.size + 1, 0, none⟩)) (put6 w1 (w.heap.size + 1) (.string nm) (.int .i64 0) (.slice none 0 0) (.int .i64 r) (.slice B (bodyT l).length cb) (.int .i64 0)) := by
  have hs := hb.size
  simp at hs
  refine ⟨w.heap.size + 1, B, cb, bxs, _, w1, rfl, put6_heap hz _ _ _ _ _ _, ?_, hSt, by simp, Nat.le_refl _, Or.inl (by simp), fun k h1 h2 => put6_other (by simp at h1; omega) _ _ _ _ _ _, by rw [put6_size]; omega, by rw [put6_size]; omega, ?_⟩
  · exact (put6_other (by omega) _ _ _ _ _ _).trans ((hb.block _ (by simp; omega)).trans ((Below.heap_alloc _ _ _ (by simp)).trans (heap_alloc_new w _)))
  · exact (((((Below.refl _ _).alloc (Nat.le_refl _) _).alloc (by simp) _).drew).trans (hb.mono (by simp; omega))).trans (put6_below (by omega) _ _ _ _ _ _)

theorem paCells_snoc {l : List EE} {i : Nat} {x : EE} (hi : i < l.length % 3) (hx : l[i]? = some x) : paCells ((paramsT l).take (i + 1)) = paCells ((paramsT l).take i) ++ [.string (cut20 x.s), .int .i64 (x.kind % 4)] := by
  have hp : (paramsT l)[i]? = some ⟨cut20 x.s, x.kind % 4⟩ := by
    unfold paramsT
    rw [List.getElem?_map, List.getElem?_take, if_pos hi, hx]
    rfl
  obtain ⟨h1, h2⟩ := List.getElem?_eq_some_iff.mp hp
  rw [List.take_succ_eq_append_getElem h1, h2]
  simp [paCells]
theorem paramsT_len (l : List EE) : (paramsT l).length = l.length % 3 := by
  unfold paramsT
  rw [List.length_map, List.length_take]
  have := Nat.mod_le l.length 3
  omega
/-- The end of Tree: what it hands back lies as the post says. -/
theorem tree_end {nm : ByteArray} {l : List EE} {n q lo : Nat} {w wr w1 W : World} {P B : Option Addr} {cp cb : Nat} {bxs : List Value} (hn : n = l.length) (hq : q = n % 3)
    (hSt : Stms 38 40 w1 lo (.slice B (bodyT l).length cb) bxs (bodyT l)) (hP : wr.ownsRow W.heap.size 35 2 (.slice P q cp) q (paCells ((paramsT l).take q)))
    (hT : wr.heap[w.heap.size]? = some (.cells #[.slice none 0 0] 25 (0, 0))) (hfz : ∀ k, lo ≤ k → k < w1.heap.size → wr.heap[k]? = w1.heap[k]?) (hb : Below w.heap.size w wr) (hlo : w.heap.size + 1 ≤ lo) (hw : w1.heap.size ≤ W.heap.size) (hz : W.heap.size ≤ wr.heap.size) (hwW : w.heap.size < W.heap.size) :
    TreePost nm l w (.returned (.agg #[.slice (some ⟨wr.heap.size, 0, none⟩) 2 2])) ((wr.setCell ⟨w.heap.size, 0, none⟩ (.slice (some ⟨wr.heap.size, 0, none⟩) 2 2)).alloc (.cells #[.string nm, .int .i64 0, .slice P q cp, .int .i64 ((n : Int) % 5), .slice B (bodyT l).length cb, .int .i64 0, .string ⟨#[109, 97, 105, 110]⟩, .int .i64 0, .slice none 0 0, .int .i64 1, .slice none 0 0, .int .i64 0] 31)) := by
  have hql : q = (paramsT l).length := by rw [paramsT_len, hq, hn]
  have hfz2 : ∀ k, lo ≤ k → k < w1.heap.size → ((wr.setCell ⟨w.heap.size, 0, none⟩ (.slice (some ⟨wr.heap.size, 0, none⟩) 2 2)).alloc (.cells #[.string nm, .int .i64 0, .slice P q cp, .int .i64 ((n : Int) % 5), .slice B (bodyT l).length cb, .int .i64 0, .string ⟨#[109, 97, 105, 110]⟩, .int .i64 0, .slice none 0 0, .int .i64 1, .slice none 0 0, .int .i64 0] 31)).heap[k]? = w1.heap[k]? := fun k h1 h2 =>
    (Below.heap_alloc _ _ _ (by simp; omega)).trans ((Below.heap_setCell _ _ _ _ (by simp; omega)).trans (hfz k h1 h2))
  have hsz : w1.heap.size ≤ ((wr.setCell ⟨w.heap.size, 0, none⟩ (.slice (some ⟨wr.heap.size, 0, none⟩) 2 2)).alloc (.cells #[.string nm, .int .i64 0, .slice P q cp, .int .i64 ((n : Int) % 5), .slice B (bodyT l).length cb, .int .i64 0, .string ⟨#[109, 97, 105, 110]⟩, .int .i64 0, .slice none 0 0, .int .i64 1, .slice none 0 0, .int .i64 0] 31)).heap.size := by simp; omega
  have hown : ∀ {B' : Nat} {T : TypeId} {z m : Nat} {v : Value} {xs : List Value}, lo ≤ B' → w1.ownsRow B' T z v m xs → ((wr.setCell ⟨w.heap.size, 0, none⟩ (.slice (some ⟨wr.heap.size, 0, none⟩) 2 2)).alloc (.cells #[.string nm, .int .i64 0, .slice P q cp, .int .i64 ((n : Int) % 5), .slice B (bodyT l).length cb, .int .i64 0, .string ⟨#[109, 97, 105, 110]⟩, .int .i64 0, .slice none 0 0, .int .i64 1, .slice none 0 0, .int .i64 0] 31)).ownsRow B' T z v m xs := fun {B' T z m v xs} hB h => by
    refine ⟨h.1, ?_⟩
    rcases h.2 with h1 | ⟨g, c, cur, hv, hg, hh, hr⟩
    · exact Or.inl h1
    · refine Or.inr ⟨g, c, cur, hv, hg, ?_, hr⟩
      rw [hfz2 g (Nat.le_trans hB hg) ?_]
      · exact hh
      · rcases Nat.lt_or_ge g w1.heap.size with h' | h'
        · exact h'
        · rw [Array.getElem?_eq_none h'] at hh; cases hh
  refine ⟨wr.heap.size, P, cp, B, cb, bxs, rfl, ?_, hb.size, ?_, own_mono (hown (Nat.le_refl _) hSt.1) (by omega), fun k e he => ⟨?_, ?_⟩, ?_⟩
  · rw [← hn, ← hql]
    have h1 := heap_alloc_new (wr.setCell ⟨w.heap.size, 0, none⟩ (.slice (some ⟨wr.heap.size, 0, none⟩) 2 2)) (.cells #[.string nm, .int .i64 0, .slice P q cp, .int .i64 ((n : Int) % 5), .slice B (bodyT l).length cb, .int .i64 0, .string ⟨#[109, 97, 105, 110]⟩, .int .i64 0, .slice none 0 0, .int .i64 1, .slice none 0 0, .int .i64 0] 31)
    rw [show (wr.setCell ⟨w.heap.size, 0, none⟩ (.slice (some ⟨wr.heap.size, 0, none⟩) 2 2)).heap.size = wr.heap.size by simp] at h1
    exact h1
  · rw [← hql]
    have hPq : paCells ((paramsT l).take q) = paCells (paramsT l) := by rw [List.take_of_length_le (by omega)]
    rw [hPq] at hP
    exact own_mono ((ownsRow_setCell_below hP (a := ⟨w.heap.size, 0, none⟩) hwW _).alloc _) (by omega)
  · have h1 := (hSt.2 k e he).1
    have h2 := RdS.keep (w' := ((wr.setCell ⟨w.heap.size, 0, none⟩ (.slice (some ⟨wr.heap.size, 0, none⟩) 2 2)).alloc (.cells #[.string nm, .int .i64 0, .slice P q cp, .int .i64 ((n : Int) % 5), .slice B (bodyT l).length cb, .int .i64 0, .string ⟨#[109, 97, 105, 110]⟩, .int .i64 0, .slice none 0 0, .int .i64 1, .slice none 0 0, .int .i64 0] 31))) (fun p hp => World.cell?_of_block (hfz2 p.block hp.1 hp.2.1)) _ _ h1
    exact RdS.more (fun b hS => ⟨by omega, by omega, by omega⟩) _ _ h2
  · obtain ⟨kv, m, kxs, hc, ho⟩ := (hSt.2 k e he).2
    exact ⟨kv, m, kxs, hc, own_mono (hown (Nat.le_refl _) ho) (by omega)⟩
  · exact (hb.setCell (Nat.le_refl _) _).alloc (by simp; exact hb.size) _
end Go.Proofs.Ytpnpjlggikdinaa
