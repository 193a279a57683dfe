/-
  Arrays of 64 numbers, as the reference's functions use them: made, stored, taken whole.
-/
import Derived.Test.YtldmfjedfaikkaaA3
import Derived.Lib.Hide
import Derived.Deep.WholeRow
namespace Go.Proofs.Ytldmfjedfaikkaa
open Go.RowKit

/-- An array of 64 numbers. -/
def arr (f : Nat → Int) : Array Value := Array.ofFn (n := 64) fun i => Value.int .i64 (f i.val)
theorem arr_size (f : Nat → Int) : (arr f).size = 64 := by simp [arr]
theorem arr_get (f : Nat → Int) (i : Nat) (h : i < 64) : (arr f)[i]? = some (.int .i64 (f i)) := by simp [arr, h]
theorem arr_set (f : Nat → Int) (i : Nat) (n : Int) : (arr f).setIfInBounds i (.int .i64 n) = arr (fun j => if j = i then n else f j) := by
  apply Array.ext_getElem?
  intro j
  rw [Array.getElem?_setIfInBounds]
  by_cases hj : j < 64
  · rw [arr_get _ _ hj, arr_get _ _ hj]
    by_cases h : i = j
    · subst h; simp [arr_size, hj]
    · rw [if_neg h, if_neg (fun e => h e.symm)]
  · have e1 : (arr f)[j]? = none := by simp [arr, hj]
    have e2 : (arr (fun k => if k = i then n else f k))[j]? = none := by simp [arr, hj]
    rw [e1, e2]
    split
    · rename_i h; subst h; rw [if_neg (by rw [arr_size]; exact hj)]
    · rfl
theorem arr_one (f : Nat → Int) : (arr f).all (·.oneCell') = true := by
  rw [Array.all_eq_true]
  intro i hi
  simp [arr, Value.oneCell']

def zer : Nat → Int := fun _ => 0
theorem und47 : Try.prog.underlying 47 = some (.array 64 3) := by kernel_rfl
theorem inf47 : (Try.prog.info? 47).map (fun i => (i.zero, i.size)) = some (some (.agg (arr zer)), 64) := by kernel_rfl
theorem siz47 (f : Nat → Int) : (Try.prog.info? 47).map (·.size) = some (arr f).size := by rw [arr_size]; exact (zero_of_info inf47).2
theorem built47 : Try.prog.built 47 [] = some (arr zer) := by kernel_rfl

theorem wpList_build47 {ops : Array Oper} {rest : List Oper} {o : Oper} {a : Act} {w : World} {Q : Exit → Act → World → Prop} (hg : o.guard = none) (ho : o.op = .build 47 #[])
    (h : wpList Try.prog ops Q rest (a.put o.dst (.agg (arr zer))) w) : wpList Try.prog ops Q (o :: rest) a w :=
  wpList_build hg 47 #[] ho (by simp [built47]) (by simpa [built47] using h)

theorem wpList_alloc47 {ops : Array Oper} {rest : List Oper} {o : Oper} {a : Act} {w : World} {Q : Exit → Act → World → Prop} (hg : o.guard = none) (ho : o.op = .alloc 47)
    (h : wpList Try.prog ops Q rest (a.put o.dst (.pointer (some ⟨w.heap.size, 0, none⟩))) (w.alloc (.cells (arr zer) 47))) : wpList Try.prog ops Q (o :: rest) a w :=
  wpList_plain hg fun K hK => by
    unfold Oper.wp execOp
    simp only [ho, Instr.alloc, Sem.run_bind, (zero_of_info inf47).1, Result.andThen_ok]
    exact hK _ _ h

theorem wpList_box47 {ops : Array Oper} {rest : List Oper} {o : Oper} {a : Act} {w : World} {Q : Exit → Act → World → Prop} (hg : o.guard = none) (x : Operand) (ho : o.op = .box 47 x) (C : Array Value) (hx : a.eval x = .agg C)
    (h : wpList Try.prog ops Q rest (a.put o.dst (.pointer (some ⟨w.heap.size, 0, none⟩))) (w.alloc (.cells C 47))) : wpList Try.prog ops Q (o :: rest) a w :=
  wpList_plain hg fun K hK => by
    unfold Oper.wp execOp
    simp only [ho, Instr.box, Sem.run_bind, hx]
    exact hK _ _ h

/-- A whole array stored into the block that was just made. -/
theorem wpList_store47 {ops : Array Oper} {rest : List Oper} {o : Oper} {a : Act} {w : World} {Q : Exit → Act → World → Prop} (hg : o.guard = none) (x y : Operand) (ho : o.op = .store 47 x y) (f g : Nat → Int)
    (hx : a.eval x = .pointer (some ⟨w.heap.size, 0, none⟩)) (hy : a.eval y = .agg (arr f))
    (h : wpList Try.prog ops Q rest (a.put o.dst undef) (w.alloc (.cells (arr f) 47))) : wpList Try.prog ops Q (o :: rest) a (w.alloc (.cells (arr g) 47)) :=
  wpList_store_row hg 47 x y ho w.heap.size (arr f) hx hy 47 (arr g) (heap_alloc_last w _) (siz47 f) (by rw [arr_size, arr_size]) (arr_one f) (by rw [World.setRow_alloc_new]; exact h)

theorem wpList_load47 {ops : Array Oper} {rest : List Oper} {o : Oper} {a : Act} {w : World} {Q : Exit → Act → World → Prop} (hg : o.guard = none) (x : Operand) (ho : o.op = .load 47 x) (f : Nat → Int) (B : Nat)
    (hx : a.eval x = .pointer (some ⟨B, 0, none⟩)) (hb : w.heap[B]? = some (.cells (arr f) 47 (0, 0)))
    (h : wpList Try.prog ops Q rest (a.put o.dst (.agg (arr f))) w) : wpList Try.prog ops Q (o :: rest) a w :=
  wpList_load_row hg 47 x ho B hx 47 (arr f) (0, 0) _ hb und47 rfl (siz47 f) h

theorem grown_trans {a b c : World} (h : Grown a b) (k : Grown b c) : Grown a c :=
  ⟨World.keptBut_trans h.1 k.1, fun x => (k.2.1 x).trans (h.2.1 x), Nat.le_trans h.2.2 k.2.2⟩
/-- A block of cells that was there is there as it was. -/
theorem grown_block {a b : World} (h : Grown a b) {i : Nat} {C : Array Value} {t : TypeId} {fr : Nat × Nat} (hi : a.heap[i]? = some (.cells C t fr)) : b.heap[i]? = some (.cells C t fr) := by
  have hlt : i < a.heap.size := by
    rcases Nat.lt_or_ge i a.heap.size with h' | h'
    · exact h'
    · simp [Array.getElem?_eq_none h'] at hi
  have hm := h.1.2.2 i hlt
  rw [hi] at hm
  cases hb : b.heap[i]? with
  | none => rw [hb] at hm; simp at hm
  | some o =>
    rw [hb] at hm
    cases o with
    | cells c' t' fr' =>
      obtain ⟨rfl, rfl, _, hc⟩ := hm
      have e : c' = C := Array.ext_getElem? (fun j => hc j (fun f => f))
      rw [e]
    | _ => simp at hm
end Go.Proofs.Ytldmfjedfaikkaa
