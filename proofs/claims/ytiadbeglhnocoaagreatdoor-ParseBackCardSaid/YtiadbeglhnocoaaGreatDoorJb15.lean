/-
  The parser's fault; a sign that is taken; a name.
-/
import Derived.Test.YtiadbeglhnocoaaGreatDoorJb14
namespace Go.Proofs.YtiadbeglhnocoaaGreatDoor
set_option linter.unusedVariables false
set_option linter.unusedSimpArgs false
open Go.RowKit

/-- A call that hands nothing back: where the parser stands behind it. -/
def Mv (g : Nat) (w : World) (s' : PS) (e : Ending) (w' : World) : Prop := e = .returned (.tuple #[]) ∧ PAt w' g s' ∧ But g w w'
set_option maxRecDepth 100000 in
set_option maxHeartbeats 2000000 in
theorem fail_any (g : Nat) (s : PS) (k a : Int) (w : World) (h : PAt w g s) :
    Calls Tryz.prog 19 #[.pointer (some ⟨g, 0, none⟩), .int .i64 k, .int .i64 a] w (Mv g w (s.fail k a)) := by
  have hgl := h.lt
  obtain ⟨A, cap, x0, x1, x2, x3, x4, xf, hcap, hmax, hr⟩ := h.five
  have H := Lib.hid h
  clear hr h
  have hnil : RdT w g none [] := fun hl => by simp at hl
  by_cases hk : s.fk = 0
  · have hs : s.fail k a = { { s with fk := k, fa := a } with left := [] } := by unfold PS.fail; rw [if_pos hk, if_pos hk]
    rw [hs]
    have hkb : (s.fk == 0) = true := by simp [hk]
    clear hs hk
    go_enter Tryz.func19, Tryz.ntmps19
    go_wp2
    go_end0
    refine ⟨rfl, (H.out.set12 k a).set0 (RdT.keep hnil (fun j hj => by rw [Below.heap_setCell _ _ _ _ (by simp; omega), Below.heap_setCell _ _ _ _ (by simp; omega)])) (by simp) (by unfold maxLen; omega), ?_⟩
    exact (((But.refl g w).setCell (Or.inl rfl) _).setCell (Or.inl rfl) _).setCell (Or.inl rfl) _
  · have hs : s.fail k a = { s with left := [] } := by unfold PS.fail; rw [if_neg hk, if_neg hk]
    have hkb : (s.fk == 0) = false := by simpa using hk
    rw [hs]
    clear hs hk
    go_enter Tryz.func19, Tryz.ntmps19
    go_wp2
    go_end0
    exact ⟨rfl, H.out.set0 hnil (by simp) (by unfold maxLen; omega), (But.refl g w).setCell (Or.inl rfl) _⟩
set_option maxRecDepth 100000 in
set_option maxHeartbeats 2000000 in
theorem refuse_any (g : Nat) (s : PS) (t : Tk) (w : World) (h : PAt w g s) :
    Calls Tryz.prog 57 #[.pointer (some ⟨g, 0, none⟩), tkV t] w (Mv g w (s.refuse t)) := by
  obtain ⟨k, a, n, bs⟩ := t
  have hF := fail_any g s 2 a (w.alloc (.cells #[.int .i64 k, .int .i64 a, .int .i64 n, .string ⟨bs.toArray⟩] 56)) (h.keep ((Below.refl _ _).alloc (Nat.le_refl _) _))
  unfold tkV
  unfold PS.refuse
  obtain ⟨s', hs'⟩ : ∃ s', s' = s.fail 2 a := ⟨_, rfl⟩
  simp only
  rw [← hs'] at hF ⊢
  clear hs' h
  go_enter Tryz.func57, Tryz.ntmps57
  go_wp2_with (go_at_call 19; refine hF.mono ?_; rintro e w1 ⟨rfl, hp, hb⟩; have Hp := Lib.hid hp; have Hb := Lib.hid hb; clear hp hb)
  go_end0
  exact ⟨rfl, Hp.out, ((But.refl g w).alloc _).trans Hb.out⟩
set_option maxRecDepth 100000 in
set_option maxHeartbeats 2000000 in
theorem take_any (g : Nat) (s : PS) (b : List UInt8) (w : World) (h : PAt w g s) :
    Calls Tryz.prog 43 #[.pointer (some ⟨g, 0, none⟩), .string ⟨b.toArray⟩] w fun e w' => e = .returned (.bool (s.isB b)) ∧ PAt w' g (s.takeP b) ∧ But g w w' := by
  have hI := is_any g s b w h
  have hX := fun w' (hb : Below w.heap.size w w') => next_any g s w' (h.keep hb)
  have H := Lib.hid h
  unfold PS.takeP
  cases hb : s.isB b with
  | true =>
    rw [hb] at hI
    simp only [if_true]
    obtain ⟨s', hs'⟩ : ∃ s', s' = s.next := ⟨_, rfl⟩
    rw [← hs'] at hX ⊢
    clear h hb hs'
    go_enter Tryz.func43, Tryz.ntmps43
    go_wp2_with (first | (go_at_call 61; refine hI.mono ?_; rintro e w1 ⟨rfl, hb1⟩; have hX1 := hX w1 hb1; have Hb1 := Lib.hid hb1; clear hb1 hX) | (go_at_call 58; refine hX1.mono ?_; rintro e w2 ⟨rfl, hp, hb2⟩; have Hp := Lib.hid hp; have Hb2 := Lib.hid hb2; clear hp hb2))
    go_ret
    exact ⟨rfl, Hp.out, (But.of_below Hb1.out).trans Hb2.out⟩
  | false =>
    rw [hb] at hI
    simp only [Bool.false_eq_true, if_false]
    clear h hb hX
    go_enter Tryz.func43, Tryz.ntmps43
    go_wp2_with (go_at_call 61; refine hI.mono ?_; rintro e w1 ⟨rfl, hb1⟩; have Hb1 := Lib.hid hb1; clear hb1)
    go_ret
    exact ⟨rfl, H.out.keep Hb1.out, But.of_below Hb1.out⟩
theorem needs_snoc (ws : List (List UInt8)) (x : List UInt8) (s : PS) : PS.needs (ws ++ [x]) s = (PS.needs ws s).need1 x := by
  induction ws generalizing s with
  | nil => rfl
  | cons y r ih => exact ih _
def strV (b : List UInt8) : Value := .string ⟨b.toArray⟩
set_option maxRecDepth 100000 in
set_option maxHeartbeats 2000000 in
theorem need_any (g : Nat) (s : PS) (ws : List (List UInt8)) (r : Nat) (w : World) (h : PAt w g s) (hws : ws.length ≤ 9) (hrg : r ≠ g) (hr : w.heap[r]? = some (.cells (ws.map strV).toArray 9 (0, 0))) :
    Calls Tryz.prog 38 #[.pointer (some ⟨g, 0, none⟩), .slice (some ⟨r, 0, none⟩) ws.length ws.length] w (Mv g w (PS.needs ws s)) := by
  have hrl := heap_lt hr
  have hgl := h.lt
  have Hr := Lib.hid hr
  have H := Lib.hid h
  obtain ⟨n, hn⟩ : ∃ n, n = ws.length := ⟨_, rfl⟩
  have Hn := Lib.hid hn
  rw [← hn] at hws ⊢
  clear hr h hn
  go_enter Tryz.func38, Tryz.ntmps38
  go_wp2
  go_loopw [8] (fun u wr => ∃ i : Nat, i ≤ n ∧ u = .int .i64 i ∧ Hid (PAt wr g (PS.needs (ws.take i) s)) ∧ Hid (But g w wr)) (fun u _ => n - (intOf u).toNat)
  case atStart => exact ⟨0, Nat.zero_le _, rfl, H, Lib.hid (But.refl g w)⟩
  case round =>
    obtain ⟨i, hi, rfl, hP, hB⟩ := hrel
    by_cases hlt : i < n
    · have hin : i < ws.length := by rw [← Hn.out]; exact hlt
      obtain ⟨x, hx⟩ : ∃ x, x = ws[i] := ⟨_, rfl⟩
      have hsn : PS.needs (ws.take (i + 1)) s = (PS.needs (ws.take i) s).need1 x := by
        rw [List.take_succ_eq_append_getElem hin, needs_snoc, hx]
      have hxc : wr.cell? ⟨r, i, none⟩ = some (.string ⟨x.toArray⟩) := by
        rw [hB.out.cell (p := ⟨r, i, none⟩) hrl hrg, Lib.cell_of_heap Hr.out]
        simp [hx, hin, strV]
      obtain ⟨s1, hs1⟩ : ∃ s1, s1 = PS.needs (ws.take i) s := ⟨_, rfl⟩
      rw [← hs1] at hP hsn
      have hT := take_any g s1 x wr hP.out
      have Hsn := Lib.hid hsn
      have Hs1 := Lib.hid hs1
      clear hsn hs1 hx
      cases hb : s1.isB x with
      | true =>
        rw [hb] at hT
        have hnx : s1.need1 x = s1.takeP x := by unfold PS.need1 PS.takeP; rw [if_pos hb, if_pos hb]
        have Hnx := Lib.hid hnx
        clear hnx hb
        go_wp2_with (go_at_call 43; refine hT.mono ?_; rintro e w2 ⟨rfl, hp, hb2⟩; have Hp := Lib.hid hp; have Hb2 := Lib.hid hb2; clear hp hb2)
        go_roundw
        case rel => exact ⟨i + 1, by omega, by go_num, by rw [Hsn.out, Hnx.out]; exact Hp, Lib.hid (hB.out.trans Hb2.out)⟩
        case measure => simp [intOf]; omega
      | false =>
        rw [hb] at hT
        have hnx : s1.need1 x = s1.refuse s1.now := by unfold PS.need1; rw [if_neg (by simp [hb])]
        have htk : s1.takeP x = s1 := by unfold PS.takeP; rw [if_neg (by simp [hb])]
        rw [htk] at hT
        have Hnx := Lib.hid hnx
        clear hnx hb htk
        go_wp2_with (first
          | (go_at_call 43; refine hT.mono ?_; rintro e w2 ⟨rfl, hp, hb2⟩; have hN := now_any g s1 w2 hp; have hR := fun w' (hb : Below w2.heap.size w2 w') => refuse_any g s1 s1.now w' (hp.keep hb); have Hb2 := Lib.hid hb2; clear hp hb2)
          | (go_at_call 18; refine hN.mono ?_; rintro e w3 ⟨rfl, hb3⟩; have hR3 := hR w3 hb3; have Hb3 := Lib.hid hb3; clear hb3 hR)
          | (go_at_call 57; refine hR3.mono ?_; rintro e w4 ⟨rfl, hp4, hb4⟩; have Hp := Lib.hid hp4; have Hb4 := Lib.hid hb4; clear hp4 hb4))
        go_roundw
        case rel => exact ⟨i + 1, by omega, by go_num, by rw [Hsn.out, Hnx.out]; exact Hp, Lib.hid (((hB.out.trans Hb2.out).trans (But.of_below Hb3.out)).trans Hb4.out)⟩
        case measure => simp [intOf]; omega
    · obtain rfl : i = n := by omega
      go_wp2
      go_end0
      rw [Hn.out, List.take_length] at hP
      exact ⟨rfl, hP.out, hB.out⟩
end Go.Proofs.YtiadbeglhnocoaaGreatDoor
