/-
  What is written into a printer; words of a row, one behind the other; a line.
-/
import Derived.Test.YtiadbeglhnocoaaGreatDoorJb8
import Derived.Test.YtiadbeglhnocoaaGreatDoorJb37
namespace Go.Proofs.YtiadbeglhnocoaaGreatDoor
set_option linter.unusedVariables false
set_option linter.unusedSimpArgs false
open Go.RowKit

theorem byteCells_snoc (l : List UInt8) (s : ByteArray) : Lib.byteCells l ++ Lib.strCells s = Lib.byteCells (l ++ s.data.toList) := by
  unfold Lib.byteCells Lib.strCells
  rw [List.map_append]
theorem IsPr.lt {B b : Nat} {bs : List Value} {w : World} (h : IsPr B b bs w) : b < w.heap.size := by
  rcases h with h | h <;> exact Lib.BuilderAt.lt h
theorem IsPr.below {B b : Nat} {bs : List Value} {w w' : World} (h : IsPr B b bs w) (hb' : Below w.heap.size w w') : IsPr B b bs w' := by
  have key : ∀ p, PrAt B b p bs w → PrAt B b p bs w' := fun p ⟨hB, v, hb, hown, hne⟩ => by
    have hlt : b < w.heap.size := Lib.BuilderAt.lt ⟨hB, v, hb, hown, hne⟩
    refine ⟨hB, v, (hb'.block b hlt).trans hb, ?_, hne⟩
    exact hown.kept (row := none) ⟨hb'.os, hb'.tape, hb'.output, hb'.size, fun k hk _ => hb'.block k hk⟩ (by cases v.ownBlock <;> simp)
  rcases h with h | h
  · exact Or.inl (key _ h)
  · exact Or.inr (key _ h)
theorem IsPr.alloc {B b : Nat} {bs : List Value} {w : World} (h : IsPr B b bs w) (o : Obj) : IsPr B b bs (w.alloc o) := h.below ((Below.refl _ _).alloc (Nat.le_refl _) o)
theorem IsPr.base {B b : Nat} {bs : List Value} {w : World} (h : IsPr B b bs w) : B ≤ b := by
  rcases h with h | h <;> exact h.1
/-- Blocks of other types than the printer's and its bytes' are as they were. -/
def KeepT (w w' : World) : Prop := ∀ (r : Nat) (cs : Array Value) (T : TypeId) (fr : Nat × Nat), w.heap[r]? = some (.cells cs T fr) → T ≠ 45 → T ≠ 5 → w'.heap[r]? = some (.cells cs T fr)
theorem KeepT.refl (w : World) : KeepT w w := fun _ _ _ _ h _ _ => h
theorem KeepT.trans {a b c : World} (h : KeepT a b) (k : KeepT b c) : KeepT a c := fun r cs T fr h1 h2 h3 => k r cs T fr (h r cs T fr h1 h2 h3) h2 h3
theorem KeepT.of_below {w w' : World} (h : Below w.heap.size w w') : KeepT w w' := fun r cs T fr h1 _ _ => by
  have hlt : r < w.heap.size := by
    rcases Nat.lt_or_ge r w.heap.size with h' | h'
    · exact h'
    · rw [Array.getElem?_eq_none h'] at h1; cases h1
  exact (h.block r hlt).trans h1
/-- What saying something comes to. -/
def PrS (B b : Nat) (l : List UInt8) (w : World) (e : Ending) (w' : World) : Prop := e = .returned (.tuple #[]) ∧ IsPr B b (Lib.byteCells l) w' ∧ Below B w w' ∧ KeepT w w'
set_option maxHeartbeats 2000000 in
set_option maxRecDepth 100000 in
theorem writeK_any (B b : Nat) (l : List UInt8) (s : ByteArray) (w : World) (h : IsPr B b (Lib.byteCells l) w) (hlen : l.length + s.size ≤ 140737488355328) (hBw : B ≤ w.heap.size) :
    Calls Tryz.prog 48 #[.pointer (some ⟨b, 0, none⟩), .string s] w fun e w' => e = .returned (.tuple #[.int .i64 s.size, .nilIface]) ∧ (IsPr B b (Lib.byteCells (l ++ s.data.toList)) w' ∧ Below B w w' ∧ KeepT w w') := by
  obtain ⟨i0, hi, hz0, hz1, hz2⟩ := info_parts infoByte
  have Hi := Lib.hid hi
  have Hz0 := Lib.hid hz0
  have Hz1 := Lib.hid hz1
  have Hz2 := Lib.hid hz2
  clear hi hz0 hz1 hz2
  rw [← Lib.byteCells_length l] at hlen
  rw [← byteCells_snoc]
  have HC : ∀ w1, (w.setCell ⟨b, 0, none⟩ (.pointer (some ⟨b, 0, none⟩)) = w1 ∨ w = w1) → KeepT w w1 := fun w1 hw => by
    rcases hw with rfl | rfl
    · intro r cs T fr h1 h2 h3
      have hrb : r ≠ b := fun e => by
        subst e
        rcases h with ⟨_, v, hb, _⟩ | ⟨_, v, hb, _⟩ <;> · rw [hb] at h1; simp only [Option.some.injEq, Obj.cells.injEq] at h1; exact h2 h1.2.1.symm
      exact (Below.heap_setCell _ _ _ _ hrb).trans h1
    · exact KeepT.refl _
  have HCC : Calls Tryz.prog 63 #[.pointer (some ⟨b, 0, none⟩)] w fun e w' => e = .returned (.tuple #[]) ∧ (PrAt B b (.pointer (some ⟨b, 0, none⟩)) (Lib.byteCells l) w' ∧ Below B w w' ∧ KeepT w w') := by
    rcases h with h | h
    · refine (copyCheck_fresh b w h.cell0 h.shape h.frozen0).mono ?_
      rintro e w' ⟨rfl, rfl⟩
      exact ⟨rfl, h.used _, (Below.refl B w).setCell (p := ⟨b, 0, none⟩) h.1 _, HC _ (Or.inl rfl)⟩
    · refine (copyCheck_used b w h.cell0).mono ?_
      rintro e w' ⟨rfl, rfl⟩
      exact ⟨rfl, h, Below.refl B _, KeepT.refl _⟩
  clear HC h
  go_enter Tryz.func48, Tryz.ntmps48
  go_wp2_with (go_at_call 63; refine HCC.mono ?_)
  rintro e w1 ⟨rfl, h1, hb1, hk1⟩
  obtain ⟨hB, v, hbk, hown, hne⟩ := h1
  have c0 : w1.cell? ⟨b, 0, none⟩ = some (.pointer (some ⟨b, 0, none⟩)) := by rw [Lib.cell_of_heap hbk]; rfl
  have c1 : w1.cell? ⟨b, 1, none⟩ = some v := by rw [Lib.cell_of_heap hbk]; rfl
  have Hk1 := Lib.hid hk1
  clear HCC hk1
  go_wp2_with (at_builtin; refine Lib.wpList_append_own_string _ rfl _ _ 41 9 rfl B 5 i0 Tryz.underlying41 Tryz.underlying9 Hi.out Hz0.out Hz1.out Hz2.out _ _ _ rfl hown s rfl ?c3 ?c4 ?c5 ?_)
  case c3 => unfold maxLen; omega
  case c4 => omega
  case c5 => have := hb1.size; omega
  intro v' w2 hown' hgrow _
  have hlt : b < w1.heap.size := by
    rcases Nat.lt_or_ge b w1.heap.size with h' | h'
    · exact h'
    · simp [Array.getElem?_eq_none h'] at hbk
  have hb2 : w2.heap[b]? = some (.cells #[.pointer (some ⟨b, 0, none⟩), v] 45 (0, 0)) := by
    rw [hgrow.block b hlt (fun e => hne e.symm)]
    exact hbk
  have d0 : w2.cell? ⟨b, 0, none⟩ = some (.pointer (some ⟨b, 0, none⟩)) := by rw [Lib.cell_of_heap hb2]; rfl
  have d1 : w2.cell? ⟨b, 1, none⟩ = some v := by rw [Lib.cell_of_heap hb2]; rfl
  have f1 : w2.frozen? ⟨b, 1, none⟩ = false := Lib.frozen_of_heap hb2 1
  obtain ⟨ao, n', cap, rfl⟩ : ∃ ao n' cap, v' = .slice ao n' cap := by
    rcases hown'.2 with ⟨hv, _⟩ | ⟨g, cap, cur, hv, _⟩
    · exact ⟨_, _, _, hv⟩
    · exact ⟨_, _, _, hv⟩
  go_wp2
  go_ret2
  refine ⟨rfl, ?_, ?_, ?_⟩
  · exact Or.inr (Lib.BuilderAt.put (T := 45) (e := 5) hB hb2 (bs' := Lib.byteCells l ++ Lib.strCells s) (by simpa [Lib.strCells_length] using hown') (by decide))
  · exact (hb1.grown hgrow (by have := hb1.size; omega) (fun k hk => (hown.lt k hk).1)).setCell (p := ⟨b, 1, none⟩) hB _
  · refine Hk1.out.trans (fun r cs T fr h1 h2 h3 => ?_)
    have hrb : r ≠ b := fun e => by
      subst e
      rw [hbk] at h1
      simp only [Option.some.injEq, Obj.cells.injEq] at h1
      exact h2 h1.2.1.symm
    have hrl : r < w1.heap.size := by
      rcases Nat.lt_or_ge r w1.heap.size with h' | h'
      · exact h'
      · rw [Array.getElem?_eq_none h'] at h1; cases h1
    have hrv : some r ≠ v.ownBlock := fun e => by
      rcases hown.2 with ⟨hv, _⟩ | ⟨g, c, cur, hv, _, hg, _⟩
      · rw [hv] at e; simp [Value.ownBlock] at e
      · rw [hv] at e
        simp only [Value.ownBlock, Option.some.injEq] at e
        subst e
        rw [hg] at h1
        simp only [Option.some.injEq, Obj.cells.injEq] at h1
        exact h3 h1.2.1.symm
    exact (Below.heap_setCell _ _ _ _ hrb).trans ((hgrow.block r hrl hrv).trans h1)
theorem flatten_snoc (ws : List (List UInt8)) (k : Nat) (hk : k < ws.length) : (ws.take (k + 1)).flatten = (ws.take k).flatten ++ ws[k] := by
  rw [List.take_succ_eq_append_getElem hk, List.flatten_append, List.flatten_cons, List.flatten_nil, List.append_nil]
theorem flatten_take_le (ws : List (List UInt8)) (k : Nat) : (ws.take k).flatten.length ≤ ws.flatten.length := by
  have : ws.flatten = (ws.take k).flatten ++ (ws.drop k).flatten := by rw [← List.flatten_append, List.take_append_drop]
  rw [this, List.length_append]; omega
def stV (b : List UInt8) : Value := .string ⟨b.toArray⟩
set_option maxHeartbeats 2000000 in
set_option maxRecDepth 100000 in
/-- Words of a row. -/
theorem sayR_any (B b : Nat) (l : List UInt8) (ws : List (List UInt8)) (r : Nat) (w : World) (h : IsPr B b (Lib.byteCells l) w) (hr : w.heap[r]? = some (.cells (ws.map stV).toArray 9 (0, 0))) (hn : ws.length ≤ 100) (hlen : l.length + ws.flatten.length ≤ 1099511627776) (hBw : B ≤ w.heap.size) :
    Calls Tryz.prog 46 #[.pointer (some ⟨b, 0, none⟩), .slice (some ⟨r, 0, none⟩) ws.length ws.length] w (PrS B b (l ++ ws.flatten) w) := by
  have H := Lib.hid h
  have Hr := Lib.hid hr
  obtain ⟨n, hnn⟩ : ∃ n, n = ws.length := ⟨_, rfl⟩
  have Hn := Lib.hid hnn
  rw [← hnn] at hn ⊢
  clear h hr hnn
  go_enter Tryz.func46, Tryz.ntmps46
  go_wp2
  go_loopw [8] (fun i wr => ∃ k : Nat, k ≤ n ∧ i = .int .i64 k ∧ Hid (IsPr B b (Lib.byteCells (l ++ (ws.take k).flatten)) wr ∧ Below B w wr ∧ KeepT w wr)) (fun i _ => n - (intOf i).toNat)
  case atStart => exact ⟨0, Nat.zero_le _, rfl, Lib.hid ⟨by simpa using H.out, Below.refl _ _, KeepT.refl _⟩⟩
  case round =>
    obtain ⟨k, hk, rfl, HR⟩ := hrel
    by_cases hlt : k < n
    · have hkl : k < ws.length := by rw [← Hn.out]; exact hlt
      have hxc : wr.cell? ⟨r, k, none⟩ = some (.string ⟨(ws[k]).toArray⟩) := by
        rw [Lib.cell_of_heap (HR.out.2.2 r _ _ _ Hr.out (by decide) (by decide))]
        simp [hkl, stV]
      have hfl := flatten_snoc ws k hkl
      have hle := flatten_take_le ws (k + 1)
      rw [hfl, List.length_append] at hle
      have hW := writeK_any B b (l ++ (ws.take k).flatten) ⟨(ws[k]).toArray⟩ wr HR.out.1 (by have hsz : (⟨(ws[k]).toArray⟩ : ByteArray).size = ws[k].length := (show (ws[k]).toArray.size = _ by simp); rw [List.length_append, hsz]; omega) (Nat.le_trans hBw HR.out.2.1.size)
      have Hfl := Lib.hid hfl
      clear hfl hle
      obtain ⟨x, hx⟩ : ∃ x, x = ws[k] := ⟨_, rfl⟩
      rw [← hx] at hxc hW Hfl
      clear hx
      go_wp2_with (go_at_call 48; refine hW.mono ?_; rintro e w1 ⟨rfl, hp, hb, hkp⟩; have HP := Lib.hid (show IsPr B b (Lib.byteCells (l ++ (List.take (k + 1) ws).flatten)) w1 ∧ Below B w w1 ∧ KeepT w w1 from ⟨by rw [Hfl.out, ← List.append_assoc]; exact hp, HR.out.2.1.trans hb, HR.out.2.2.trans hkp⟩); clear hp hb hkp)
      go_roundw
      case rel => exact ⟨k + 1, by omega, by go_num, HP⟩
      case measure => simp [intOf]; omega
    · obtain rfl : k = n := by omega
      go_wp2
      go_end0
      have hR := HR.out
      rw [Hn.out, List.take_length] at hR
      exact ⟨rfl, hR⟩
end Go.Proofs.YtiadbeglhnocoaaGreatDoor
