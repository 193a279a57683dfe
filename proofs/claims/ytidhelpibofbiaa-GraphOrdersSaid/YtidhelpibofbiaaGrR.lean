/-
  Ways back: by Preds, by rows; sources is made.
-/
import Derived.Test.YtidhelpibofbiaaGrQ
import Derived.Shelf.Abstract
namespace Go.Proofs.Ytidhelpibofbiaa
open Go.RowKit Go.Shelf
set_option linter.unusedVariables false
set_option linter.unusedSimpArgs false

theorem enters_values : ∀ args w, (callFunc 37 args).run Try.prog w = .ok (.enter 37 args) w := enters_of Try.func37 (by kernel_rfl) rfl
theorem enters_preds : ∀ args w, (callFunc 32 args).run Try.prog w = .ok (.enter 32 args) w := enters_of Try.func32 (by kernel_rfl) rfl
theorem enters_byPreds : ∀ args w, (callFunc 31 args).run Try.prog w = .ok (.enter 31 args) w := enters_of Try.func31 (by kernel_rfl) rfl
theorem enters_byEnds : ∀ args w, (callFunc 33 args).run Try.prog w = .ok (.enter 33 args) w := enters_of Try.func33 (by kernel_rfl) rfl
theorem enters_sources : ∀ args w, (callFunc 29 args).run Try.prog w = .ok (.enter 29 args) w := enters_of Try.func29 (by kernel_rfl) rfl

set_option maxRecDepth 100000 in
theorem values_g (A : Option Addr) (n c : Nat) (w : World) :
    Calls Try.prog 34 #[.slice A n c] w fun e w' => e = .returned (.func (.func 37) #[] #[.pointer (some ⟨w.heap.size, 0, none⟩)]) ∧ Below w.heap.size w w' ∧ w'.heap.size = w.heap.size + 1 ∧ w'.heap[w.heap.size]? = some (.cells #[.slice A n c] 23 (0, 0)) := by
  obtain ⟨W, hW, hbW, hzW, h0W⟩ := gr_one w #[.slice A n c] 23
  have hmf : ∀ (fn : Fn) (first cap : Array Value) (w : World), (Instr.makeFunc fn first cap).run Try.prog w = .ok (.func fn first cap) w := fun _ _ _ _ => rfl
  have H := Lib.hid (And.intro hbW (And.intro hzW h0W))
  have HW := Lib.hid hW
  clear hbW hzW h0W hW
  go_enter Try.func34, Try.ntmps34
  go_upto_region 1 with fail
  rw [← HW.out]
  go_wp2
  go_ret
  exact ⟨rfl, H.out⟩

set_option maxRecDepth 100000 in
theorem preds1_g (bf b : Nat) (w : World) :
    Calls Try.prog 31 #[.int .i64 (b : Int), .pointer (some ⟨bf, 0, none⟩)] w fun e w' => e = .returned (.func (.func 32) #[] #[.pointer (some ⟨bf, 0, none⟩), .pointer (some ⟨w.heap.size, 0, none⟩)]) ∧ Below w.heap.size w w' ∧ w'.heap.size = w.heap.size + 1 ∧ w'.heap[w.heap.size]? = some (.cells #[.int .i64 (b : Int)] 3 (0, 0)) := by
  obtain ⟨W, hW, hbW, hzW, h0W⟩ := gr_one w #[.int .i64 (b : Int)] 3
  have hmf : ∀ (fn : Fn) (first cap : Array Value) (w : World), (Instr.makeFunc fn first cap).run Try.prog w = .ok (.func fn first cap) w := fun _ _ _ _ => rfl
  have H := Lib.hid (And.intro hbW (And.intro hzW h0W))
  have HW := Lib.hid hW
  clear hbW hzW h0W hW
  go_enter Try.func31, Try.ntmps31
  go_upto_region 1 with fail
  rw [← HW.out]
  go_wp2
  go_ret
  exact ⟨rfl, H.out⟩

set_option maxRecDepth 100000 in
/-- The ways back by Preds. -/
theorem byPreds_g (n0 : Nat) (f : Value) (g : List GB) (w : World) (hf : GF n0 w f g) (hn : n0 ≤ w.heap.size) :
    Calls Try.prog 25 #[f] w fun e w' => Below w.heap.size w w' ∧ w'.heap.size = w.heap.size + 1 ∧ ∃ lb, e = .returned (.func (.func 31) #[] lb) ∧ BackAt Try.prog (.func (.func 31) #[] lb) (fun b => ((g[b]?.map GB.preds).getD []).filter (hasG g.length)) g.length (fun k => k < n0 ∨ k = w.heap.size) w' := by
  obtain ⟨s, pA, pn, pc, r, iA, in_, ic, bA, bn, bc, rfl, hG, hbn⟩ := hf
  obtain ⟨W, hW, hbW, hzW, h0W⟩ := gr_one w #[.string s, .slice pA pn pc, .int .i64 r, .slice iA in_ ic, .slice bA bn bc] 27
  have hmf : ∀ (fn : Fn) (first cap : Array Value) (w : World), (Instr.makeFunc fn first cap).run Try.prog w = .ok (.func fn first cap) w := fun _ _ _ _ => rfl
  have hGW := hG.keep (hbW.mono hn)
  have HGW := Lib.hid hGW
  have Hbn := Lib.hid hbn
  have HbW := Lib.hid hbW
  have HW := Lib.hid hW
  have HzW := Lib.hid hzW
  have H0W := Lib.hid h0W
  clear hbW hzW h0W hW hG hGW hbn
  go_enter Try.func25, Try.ntmps25
  go_upto_region 1 with fail
  rw [← HW.out]
  go_wp2
  go_ret
  refine ⟨HbW.out, HzW.out, _, rfl, 31, _, rfl, enters_byPreds, fun W1 b hb hsz hsame => ?_⟩
  refine (preds1_g w.heap.size b W1).mono ?_
  rintro e W2 ⟨rfl, hb2, hz2, h02⟩
  have hzW := HzW.out
  refine ⟨hb2, 32, _, fun k => (k < n0 ∨ k = w.heap.size) ∨ k = W1.heap.size, rfl, enters_preds, fun k hk => ?_, fun k hk => ?_, fun W3 hb3 => ?_⟩
  · rcases hk with h | h
    · exact .inl h
    · exact .inr (by omega)
  · rcases hk with (h | h) | h <;> omega
  · have e1 : (g[b]?.map GB.preds).getD [] = g[b].preds := by simp [hb]
    dsimp only
    rw [e1]
    have hb13 : Below W1.heap.size W1 W3 := hb2.trans (hb3.mono (by omega))
    have hWn : ∀ k, k < n0 → W3.heap[k]? = W.heap[k]? := fun k hk => (hb13.block k (by omega)).trans (hsame k (.inl hk))
    have hfn : W3.heap[w.heap.size]? = some (.cells #[.string s, .slice pA pn pc, .int .i64 r, .slice iA in_ ic, .slice bA bn bc] 27 (0, 0)) := ((hb13.block _ (by omega)).trans (hsame _ (.inr rfl))).trans H0W.out
    have hG3 : GBs n0 W3 (.slice bA bn bc) g := by
      obtain ⟨A, c, hv, hl, hok, hr⟩ := HGW.out
      refine ⟨A, c, hv, hl, hok, fun hp => ?_⟩
      obtain ⟨q, o, hA, hbn2, hc⟩ := hr hp
      have hk : ∀ (p : Nat) (j : Nat) (v : Value), p < n0 → W.cell? ⟨p, j, none⟩ = some v → W3.cell? ⟨p, j, none⟩ = some v := fun p j v hp h => (World.cell?_of_block (a := ⟨p, j, none⟩) (hWn p hp)).trans h
      have hN : ∀ v l, GNs n0 W v l → GNs n0 W3 v l := fun v l ⟨A, c, hv, hr⟩ => ⟨A, c, hv, fun hp => by
        obtain ⟨b', o', hA, hbn3, hc'⟩ := hr hp
        exact ⟨b', o', hA, hbn3, fun j x hx => hk _ _ _ hbn3 (hc' j x hx)⟩⟩
      refine ⟨q, o, hA, hbn2, fun j d hd => ?_⟩
      obtain ⟨pv, tv, h0, h1, h2, h3, h4, h5, h6, h7⟩ := hc j d hd
      exact ⟨pv, tv, hk _ _ _ hbn2 h0, hk _ _ _ hbn2 h1, hk _ _ _ hbn2 h2, hk _ _ _ hbn2 h3, hk _ _ _ hbn2 h4, hN _ _ h5, hN _ _ h6, h7⟩
    exact preds_sep n0 w.heap.size W1.heap.size b s pA iA bA pn pc in_ ic bn bc r g _ W3 hfn (Lib.cell_of_heap ((hb3.block _ (by omega)).trans h02) 0) hG3 Hbn.out hb (fun k hk => .inl (.inl hk)) (.inl (.inr rfl)) (.inr rfl) (fun k hk => by have := hb3.size; rcases hk with (h | h) | h <;> omega)

set_option maxRecDepth 100000 in
set_option maxHeartbeats 2000000 in
/-- sources is made: three boxes. -/
theorem sources_g (gf : Nat) (lb : Array Value) (to_ sb n : Nat) (w : World) :
    Calls Try.prog 24 #[.func (.func gf) #[] lb, .int .i64 (to_ : Int), .slice (some ⟨sb, 0, none⟩) n n] w fun e w' => e = .returned (.func (.func 29) #[] #[.pointer (some ⟨w.heap.size + 2, 0, none⟩), .pointer (some ⟨w.heap.size + 1, 0, none⟩), .pointer (some ⟨w.heap.size, 0, none⟩)]) ∧ Below w.heap.size w w' ∧ w'.heap.size = w.heap.size + 3 ∧
      w'.heap[w.heap.size]? = some (.cells #[.func (.func gf) #[] lb] 59 (0, 0)) ∧ w'.heap[w.heap.size + 1]? = some (.cells #[.int .i64 (to_ : Int)] 3 (0, 0)) ∧ w'.heap[w.heap.size + 2]? = some (.cells #[.slice (some ⟨sb, 0, none⟩) n n] 35 (0, 0)) := by
  obtain ⟨W1, hW1, hb1, hz1, h01⟩ := gr_one w #[.func (.func gf) #[] lb] 59
  obtain ⟨W2, hW2, hb2, hz2, h02⟩ := gr_one W1 #[.int .i64 (to_ : Int)] 3
  obtain ⟨W3, hW3, hb3, hz3, h03⟩ := gr_one W2 #[.slice (some ⟨sb, 0, none⟩) n n] 35
  have hmf : ∀ (fn : Fn) (first cap : Array Value) (w : World), (Instr.makeFunc fn first cap).run Try.prog w = .ok (.func fn first cap) w := fun _ _ _ _ => rfl
  have hend : Below w.heap.size w W3 ∧ W3.heap.size = w.heap.size + 3 ∧ W3.heap[w.heap.size]? = some (.cells #[.func (.func gf) #[] lb] 59 (0, 0)) ∧ W3.heap[w.heap.size + 1]? = some (.cells #[.int .i64 (to_ : Int)] 3 (0, 0)) ∧ W3.heap[w.heap.size + 2]? = some (.cells #[.slice (some ⟨sb, 0, none⟩) n n] 35 (0, 0)) := by
    refine ⟨(hb1.trans (hb2.mono (by omega))).trans (hb3.mono (by omega)), by omega, (hb3.block _ (by omega)).trans ((hb2.block _ (by omega)).trans h01), ?_, ?_⟩
    · rw [← hz1]; exact (hb3.block _ (by omega)).trans h02
    · rw [show w.heap.size + 2 = W2.heap.size by omega]; exact h03
  have H := Lib.hid hend
  have HW3 : Hid (W3 = ((w.alloc (.cells #[.func (.func gf) #[] lb] 59)).alloc (.cells #[.int .i64 (to_ : Int)] 3)).alloc (.cells #[.slice (some ⟨sb, 0, none⟩) n n] 35)) := Lib.hid (by rw [hW3, hW2, hW1])
  clear hend hb1 hb2 hb3 hz1 hz2 hz3 h01 h02 h03 hW1 hW2 hW3
  go_enter Try.func24, Try.ntmps24
  go_upto_region 1 with fail
  rw [← HW3.out]
  go_wp2
  go_ret
  exact ⟨rfl, H.out⟩
end Go.Proofs.Ytidhelpibofbiaa
