/-
  Each block is come to from where blocks go to it, as the law's blocks lie.
-/
import Derived.Test.YtdjpjonikceadaaIrAb
namespace Go.Proofs.Ytdjpjonikceadaa
open Go.RowKit
set_option linter.unusedVariables false
set_option linter.unusedSimpArgs false

theorem RI.nil (w : World) (B : Nat) : RI w B (.slice none 0 0) [] := ⟨none, 0, rfl, fun h => by simp at h⟩
theorem RI.row {w : World} {base E : Nat} {F : Nat → Rw} (hF : Fam w base E F) {k : Nat} {l : List Int} (hk : F k = rowI (F k).v l) : RI w w.heap.size (F k).v l := by
  have := hF.own k
  rw [hk] at this
  exact RI.of_own this
theorem LS.fits {w : World} {base E n g cB gi ci : Nat} {F : Nat → Rw} {bs : List Value} {up : Nat → Bool} {ps ls args : List Int} {Q : Value} (h : LS w E base n g cB F (.slice (some ⟨gi, 0, none⟩) 1 ci) bs up ps ls)
    (h1 : F 1 = ⟨38, 5, .slice (some ⟨gi, 0, none⟩) 1 ci, 1, [.int .i64 3, .int .i64 0, Q, .int .i64 0, .int .i64 0]⟩) (h2 : F 2 = rowI Q args) (hn : n ≤ 900) (hps : ps.length ≤ 1000) (hls : ls.length ≤ 1000) (hl0 : ∀ x ∈ ls, x = 0) (hlen : args.length = ps.length)
    (hcnt : ∀ p, p < n + 1 → (if p < n ∧ up p = true then 1 else 0) = ps.count (p : Int)) :
    Calls Try.prog 14 #[.agg #[.string ⟨#[]⟩, .slice none 0 0, .int .i64 0, .slice (some ⟨gi, 0, none⟩) 1 ci, .slice (some ⟨g, 0, none⟩) (n + 1) cB], .bool true] w fun e w' => e = .returned (.bool true) ∧ Below w.heap.size w w' := by
  have hB : w.ownsRow base 46 5 (.slice (some ⟨g, 0, none⟩) (n + 1) cB) (n + 1) bs := h.f.at h.f0
  have hI : w.ownsRow base 38 5 (.slice (some ⟨gi, 0, none⟩) 1 ci) 1 [.int .i64 3, .int .i64 0, Q, .int .i64 0, .int .i64 0] := h.f.at h1
  have hQ : w.ownsRow base 3 1 Q args.length (ints args) := h.f.at h2
  obtain ⟨QA, QC, rfl⟩ := own_slice hQ
  have hT : ∀ b, b < n → up b = true → ∃ t c, bs[b * 5 + 4]? = some (.slice (some ⟨t, 0, none⟩) 1 c) ∧ F (10 + b) = rowI (.slice (some ⟨t, 0, none⟩) 1 c) [(n : Int)] := fun b hb hu => by
    obtain ⟨-, -, -, -, s4⟩ := h.src b hb
    rcases s4 with ⟨_, s⟩ | ⟨hf, _⟩
    · exact s
    · rw [hu] at hf; cases hf
  have hR : RdF w w.heap.size g (n + 1) gi args.length (fun b => if b = n then (F 5).v else .slice none 0 0) (fun b => if b = n then (F 4).v else .slice none 0 0) (fun b => if b < n ∧ up b = true then (F (10 + b)).v else .slice none 0 0) (fun b => if b = n then ls else []) (fun b => if b = n then ps else []) (fun b => if b < n ∧ up b = true then [(n : Int)] else []) := by
    refine ⟨(hB.lt g rfl).2, (hI.lt gi rfl).2, fun b hb => ?_, fun b hb => ?_, fun b hb => ?_, fun b hb => ?_, fun b hb => ?_, fun b hb => ?_, hI.cellAt 0 (by decide), hI.cellAt 1 (by decide), ⟨QA, QC, hI.cellAt 2 (by decide)⟩, hI.cellAt 3 (by decide), hI.cellAt 4 (by decide)⟩
    · rw [hB.cellAt (b * 5) (by omega)]
      by_cases e : b = n
      · subst e; simp only [if_true]; exact h.d0
      · simp only [if_neg e]; exact (h.src b (by omega)).1
    · rw [hB.cellAt (b * 5 + 1) (by omega)]
      by_cases e : b = n
      · subst e; simp only [if_true]; exact h.d1
      · simp only [if_neg e]; exact (h.src b (by omega)).2.1
    · rw [hB.cellAt (b * 5 + 4) (by omega)]
      by_cases e : b = n
      · subst e; rw [if_neg (by omega)]; exact h.d4
      · obtain ⟨-, -, -, -, s4⟩ := h.src b (by omega)
        rcases s4 with ⟨hu, t, c, s, f⟩ | ⟨hu, s⟩
        · rw [if_pos ⟨by omega, hu⟩, f]; exact s
        · rw [if_neg (by rw [hu]; simp)]; exact s
    · by_cases e : b = n
      · subst e; simp only [if_true]; exact ⟨RI.row h.f h.f5, hls⟩
      · simp only [if_neg e]; exact ⟨RI.nil _ _, by simp⟩
    · by_cases e : b = n
      · subst e; simp only [if_true]; exact ⟨RI.row h.f h.f4, hps⟩
      · simp only [if_neg e]; exact ⟨RI.nil _ _, by simp⟩
    · by_cases e : b < n ∧ up b = true
      · simp only [if_pos e]
        obtain ⟨t, c, s, f⟩ := hT b e.1 e.2
        exact ⟨RI.row h.f (by rw [f]; rfl), by simp⟩
      · simp only [if_neg e]; exact ⟨RI.nil _ _, by simp⟩
  refine fits_true (n + 1) g cB gi ci args.length _ _ _ _ _ _ w hR (by omega) (fun b p hb hp => ?_) (fun b hb x hx => ?_) (by omega)
  · by_cases e : b = n
    · subst e
      have hc := hcnt p hp
      simp only [if_true]
      rw [← hc]
      by_cases q : p < b ∧ up p = true
      · simp [q]
      · simp [q]
    · simp only [if_neg e]
      by_cases q : p < n ∧ up p = true
      · simp only [if_pos q]
        have : ((n : Int) == (b : Int)) = false := by simp; omega
        simp [List.count_cons, this]
      · simp [q]
  · by_cases e : b = n
    · subst e
      simp only [if_true] at hx ⊢
      exact ⟨hl0 x hx, hlen⟩
    · simp only [if_neg e] at hx
      cases hx
end Go.Proofs.Ytdjpjonikceadaa
