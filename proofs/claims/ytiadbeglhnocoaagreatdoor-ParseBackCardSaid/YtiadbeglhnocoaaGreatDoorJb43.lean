/-
  A function, printed: its arguments' texts.
-/
import Derived.Test.YtiadbeglhnocoaaGreatDoorJb32
import Derived.Test.YtiadbeglhnocoaaGreatDoorJb41
import Derived.Test.YtiadbeglhnocoaaGreatDoorJb42
namespace Go.Proofs.YtiadbeglhnocoaaGreatDoor
set_option linter.unusedVariables false
set_option linter.unusedSimpArgs false
open Go.RowKit

theorem infoStr : (Tryz.prog.info? 9).map (fun i => (i.zero, i.size, i.bytes)) = some (some (.string ⟨#[]⟩), 1, 16) := by kernel_rfl
/-- An argument's text. -/
def paS (p : Pa) : ByteArray := p.name ++ ⟨#[58, 32]⟩ ++ typeA p.type
theorem paS_list (p : Pa) : (paS p).data.toList = paB p := by
  unfold paS paB typB
  simp
theorem join_jn (l : List (List UInt8)) : Lib.join l [44, 32] = jn l := by
  induction l with
  | nil => rfl
  | cons x r ih =>
    cases r with
    | nil => simp [Lib.join_one, jn]
    | cons y r =>
      rw [Lib.join_cons]
      rw [Lib.join_cons] at ih
      unfold jn
      rw [← ih]
      simp [Lib.joinTail]
theorem one_str (s : ByteArray) : ∀ u ∈ ([.string s] : List Value), u.oneCell' = true := by
  intro u hu
  simp only [List.mem_singleton] at hu
  rw [hu]; rfl
theorem jn_mem (l : List (List UInt8)) : ∀ x ∈ l, x.length ≤ (jn l).length := by
  induction l with
  | nil => intro x hx; simp at hx
  | cons y r ih =>
    intro x hx
    cases r with
    | nil => simp at hx; rw [hx]; exact Nat.le_refl _
    | cons z r =>
      have : (jn (y :: z :: r)).length = y.length + (2 + (jn (z :: r)).length) := by simp [jn]; omega
      rcases List.mem_cons.mp hx with hx | hx
      · rw [hx]; omega
      · have := ih x hx; omega
/-- Arguments' texts, joined. -/
theorem join_any (ps : List Pa) (base : Nat) (V : Option Addr) (C : Nat) (w : World) (h : w.ownsRow base 9 1 (.slice V ps.length C) ps.length (ps.map fun p => Value.string (paS p))) (hpl : ps.length ≤ 1099511627776) (hl : (jn (ps.map paB)).length ≤ 1099511627776) :
    Calls Tryz.prog 23 #[.slice V ps.length C, .string ⟨#[44, 32]⟩] w fun e w' => e = .returned (.string ⟨(jn (ps.map paB)).toArray⟩) ∧ Below w.heap.size w w' := by
  have hcap := (own_cap h).1
  rcases h.2 with ⟨hv, h0⟩ | ⟨g, c, cur, hv, _⟩
  · have hp : ps = [] := List.length_eq_zero_iff.mp h0
    subst hp
    refine (strings_Join_none V C ⟨#[44, 32]⟩ w).mono ?_
    rintro e w' ⟨rfl, rfl⟩
    exact ⟨rfl, Below.refl _ _⟩
  · obtain rfl : V = some ⟨g, 0, none⟩ := by simp only [Value.slice.injEq] at hv; exact hv.1
    have hlt := h.lt g rfl
    have hm : (ps.map paS).map (·.data.toList) = ps.map paB := by
      rw [List.map_map]
      exact List.map_congr_left fun p _ => paS_list p
    have hJ := strings_Join g 0 C (ps.map paS) ⟨#[44, 32]⟩ w (fun j x hx => by
      have hj : j < ps.length := by
        have := (List.getElem?_eq_some_iff.mp hx).1
        simpa using this
      have h1 := h.cellAt j (by omega)
      rw [Nat.zero_add, h1]
      rw [List.getElem?_map] at hx ⊢
      cases hq : ps[j]? with
      | none => rw [hq] at hx; simp at hx
      | some q =>
        rw [hq] at hx
        simp only [Option.map_some, Option.some.injEq] at hx ⊢
        rw [hx]) hlt.2 (by rw [List.length_map]; omega) (by rw [List.length_map]; omega) (by rw [hm, join_jn]; omega)
    rw [hm, List.length_map] at hJ
    have he : Lib.join (ps.map paB) (⟨#[44, 32]⟩ : ByteArray).data.toList = jn (ps.map paB) := join_jn _
    rw [he] at hJ
    exact hJ
end Go.Proofs.YtiadbeglhnocoaaGreatDoor
