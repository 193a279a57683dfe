/-
  IrPhis: numbers and states of the law.
-/
import Derived.Test.YtdjpjonikceadaaIrAc
import Derived.Test.YtdjpjonikceadaaIrG
namespace Go.Proofs.Ytdjpjonikceadaa
open Go.RowKit
set_option linter.unusedVariables false
set_option linter.unusedSimpArgs false

set_option maxRecDepth 100000 in
theorem f_any (E : Nat) (w : World) : Calls Try.prog 15 #[.pointer (some ⟨E, 0, none⟩)] w fun e w' => e = .returned (.pointer (some ⟨E, 0, none⟩)) ∧ w' = w := by
  go_enter Try.func15, Try.ntmps15
  go_wp2
  go_ret
  exact ⟨rfl, rfl⟩
theorem and3 (x : Int) : ∃ a : Nat, a ≤ 3 ∧ bits .and .i64 x 3 = (a : Int) := by
  have h : (BitVec.ofInt 64 x &&& BitVec.ofInt 64 3).toNat ≤ 3 := by
    rw [BitVec.toNat_and]
    exact Nat.le_trans Nat.and_le_right (by decide)
  refine ⟨(BitVec.ofInt 64 x &&& BitVec.ofInt 64 3).toNat, h, ?_⟩
  show IntKind.i64.wrap ((BitVec.ofInt 64 x &&& BitVec.ofInt 64 3).toNat : Int) = _
  generalize (BitVec.ofInt 64 x &&& BitVec.ofInt 64 3).toNat = a at h ⊢
  rcases (show a = 0 ∨ a = 1 ∨ a = 2 ∨ a = 3 by omega) with rfl | rfl | rfl | rfl <;> decide
def zeros (i : Nat) : List Value := (List.replicate i zero5).flatten
theorem zeros_succ (i : Nat) : zeros (i + 1) = zeros i ++ zero5 := by
  unfold zeros
  rw [List.replicate_succ', List.flatten_append]
  simp
theorem zeros_len (i : Nat) : (zeros i).length = i * 5 := by
  induction i with
  | zero => rfl
  | succ i ih => rw [zeros_succ, List.length_append, ih]; simp [zero5]; omega
theorem zeros_at (m j r : Nat) (hj : j < m) (hr : r < 5) : (zeros m)[j * 5 + r]? = zero5[r]? := by
  induction m with
  | zero => omega
  | succ m ih =>
    rw [zeros_succ]
    by_cases h : j < m
    · rw [List.getElem?_append_left (by rw [zeros_len]; omega)]; exact ih h
    · have e : j = m := by omega
      subst e
      rw [List.getElem?_append_right (by rw [zeros_len]; omega), zeros_len]
      congr 1
      omega
def rng (i : Nat) : List Int := (List.range i).map (fun (j : Nat) => (j : Int))
def hun (i : Nat) : List Int := (List.range i).map (fun (j : Nat) => (100 : Int) + (j : Int))
theorem rng_succ (i : Nat) : rng (i + 1) = rng i ++ [(i : Int)] := by simp [rng, List.range_succ]
theorem hun_succ (i : Nat) : hun (i + 1) = hun i ++ [(100 : Int) + i] := by simp [hun, List.range_succ]
theorem rng_count (n p : Nat) : (rng n).count (p : Int) = if p < n then 1 else 0 := by
  induction n with
  | zero => rfl
  | succ n ih =>
    rw [rng_succ, List.count_append, ih, List.count_singleton]
    by_cases h : p = n
    · subst h; simp
    · have : ((n : Int) == (p : Int)) = false := by simp; omega
      rw [this]
      by_cases h2 : p < n
      · simp [h2]; omega
      · simp [h2]; omega
theorem rng_len (i : Nat) : (rng i).length = i := by simp [rng]
theorem hun_len (i : Nat) : (hun i).length = i := by simp [hun]
theorem LS.keep {w w' : World} {E base n g cB : Nat} {F : Nat → Rw} {IV : Value} {bs : List Value} {up : Nat → Bool} {ps ls : List Int} (h : LS w E base n g cB F IV bs up ps ls) (hb : Below w.heap.size w w') : LS w' E base n g cB F IV bs up ps ls :=
  h.row ((hb.block E h.f.el).trans h.c) (h.f.keep hb) (fun _ _ _ _ => rfl)
theorem LS.zero {w : World} {E base n g cB : Nat} {F : Nat → Rw} {IV BV0 : Value} (hc : EdC w E IV (.slice (some ⟨g, 0, none⟩) (n + 1) cB)) (hf : Fam w base E F) (h0 : F 0 = ⟨46, 5, .slice (some ⟨g, 0, none⟩) (n + 1) cB, n + 1, zeros (n + 1)⟩) (hF : ∀ k, k ≠ 0 → F k = F00 IV BV0 k) :
    LS w E base n g cB F IV (zeros (n + 1)) (fun j => decide (j < 0)) (rng 0) [] := by
  have z := fun j r hj hr => zeros_at (n + 1) j r hj hr
  have e4 : F 4 = rowI (.slice none 0 0) [] := by rw [hF 4 (by decide)]; rfl
  have e5 : F 5 = rowI (.slice none 0 0) [] := by rw [hF 5 (by decide)]; rfl
  refine ⟨hc, hf, h0, fun j hj => ⟨(z j 0 (by omega) (by decide)), z j 1 (by omega) (by decide), (z j 2 (by omega) (by decide)).trans (by simp [zero5]), ⟨0, z j 3 (by omega) (by decide)⟩, .inr ⟨by simp, z j 4 (by omega) (by decide)⟩⟩, ?_, ?_, z n 2 (by omega) (by decide), z n 3 (by omega) (by decide), z n 4 (by omega) (by decide), ?_, ?_⟩
  · rw [e5]; exact z n 0 (by omega) (by decide)
  · rw [e4]; exact z n 1 (by omega) (by decide)
  · rw [e4]; rfl
  · rw [e5]; rfl
/-- The last block has an instruction. -/
theorem LS.adds {w w' : World} {E base n g cB : Nat} {F : Nat → Rw} {IV IV' : Value} {bs : List Value} {up : Nat → Bool} {ps ls : List Int} (h : LS w E base n g cB F IV bs up ps ls) {rQ rI : Rw} {gl cl : Nat}
    (hc : EdC w' E IV' (.slice (some ⟨g, 0, none⟩) (n + 1) cB))
    (hf : Fam w' base E (upR (upR (upR (upR F 2 rQ) 1 rI) 5 ⟨3, 1, .slice (some ⟨gl, 0, none⟩) 1 cl, 1, [.int .i64 0]⟩) 0 ⟨46, 5, .slice (some ⟨g, 0, none⟩) (n + 1) cB, n + 1, bs.set (n * 5) (.slice (some ⟨gl, 0, none⟩) 1 cl)⟩)) :
    ∃ F' bs', LS w' E base n g cB F' IV' bs' up ps [0] ∧ F' 2 = rQ ∧ F' 1 = rI ∧ (F' 5).v = .slice (some ⟨gl, 0, none⟩) 1 cl := by
  have hl := h.len
  refine ⟨_, _, ⟨hc, hf, upR_at _ _ _, fun j hj => ?_, ?_, ?_, ?_, ?_, ?_, ?_, ?_⟩, ?_, ?_, ?_⟩
  · obtain ⟨s0, s1, s2, s3, s4⟩ := h.src j hj
    have e : ∀ r, r < 5 → (bs.set (n * 5) (.slice (some ⟨gl, 0, none⟩) 1 cl))[j * 5 + r]? = bs[j * 5 + r]? := fun r hr => set_away (by omega)
    have e0 := e 0 (by decide)
    rw [Nat.add_zero] at e0
    refine ⟨e0.trans s0, (e 1 (by decide)).trans s1, (e 2 (by decide)).trans s2, ?_, ?_⟩
    · obtain ⟨ar, ha⟩ := s3; exact ⟨ar, (e 3 (by decide)).trans ha⟩
    · rcases s4 with ⟨hu, t, c, s4, s5⟩ | ⟨hu, s4⟩
      · refine .inl ⟨hu, t, c, (e 4 (by decide)).trans s4, ?_⟩
        rw [upR_off _ _ _ _ (by omega), upR_off _ _ _ _ (by omega), upR_off _ _ _ _ (by omega), upR_off _ _ _ _ (by omega)]
        exact s5
      · exact .inr ⟨hu, (e 4 (by decide)).trans s4⟩
  · rw [set_here (by omega), upR_off _ _ _ _ (by decide), upR_at]
  · rw [set_away (by omega), upR_off _ _ _ _ (by decide), upR_off _ _ _ _ (by decide), upR_off _ _ _ _ (by decide), upR_off _ _ _ _ (by decide)]; exact h.d1
  · rw [set_away (by omega)]; exact h.d2
  · rw [set_away (by omega)]; exact h.d3
  · rw [set_away (by omega)]; exact h.d4
  · rw [upR_off _ _ _ _ (by decide), upR_off _ _ _ _ (by decide), upR_off _ _ _ _ (by decide), upR_off _ _ _ _ (by decide)]; exact h.f4
  · rw [upR_off _ _ _ _ (by decide), upR_at]; rfl
  · rw [upR_off _ _ _ _ (by decide), upR_off _ _ _ _ (by decide), upR_off _ _ _ _ (by decide), upR_at]
  · rw [upR_off _ _ _ _ (by decide), upR_off _ _ _ _ (by decide), upR_at]
  · rw [upR_off _ _ _ _ (by decide), upR_at]
theorem LS.up_eq {w : World} {E base n g cB : Nat} {F : Nat → Rw} {IV : Value} {bs : List Value} {up up' : Nat → Bool} {ps ps' ls : List Int} (h : LS w E base n g cB F IV bs up ps ls) (e : ∀ j, up j = up' j) (e2 : ps = ps') : LS w E base n g cB F IV bs up' ps' ls := by
  have : up = up' := funext e
  subst this e2
  exact h
theorem rng_mem (n k : Nat) (h : k < n) : (k : Int) ∈ rng n := by
  unfold rng
  exact List.mem_map.mpr ⟨k, by simpa using h, rfl⟩
def psC (n k : Nat) : List Int := woA (rng n) (rng n) k (rng n).length
def agC (n k : Nat) : List Int := woA (rng n) (hun n) k (hun n).length
theorem wo_fin : ∀ n : Fin 6, 2 ≤ n.val → ∀ k : Fin 6, k.val < n.val → ((agC n.val k.val).length = n.val - 1 ∧ (psC n.val k.val).length = n.val - 1 ∧ (agC n.val k.val).count (100 + (k.val : Int)) = 0 ∧ (swapL (agC n.val k.val) (100 + (((k.val + 1) % n.val : Nat) : Int)) 7 (agC n.val k.val).length).count 7 = 1 ∧ ∀ p : Fin 7, p.val < n.val + 1 → (if p.val < n.val ∧ p.val ≠ k.val then 1 else 0) = (psC n.val k.val).count (p.val : Int)) := by decide +kernel
theorem wo_all (n k : Nat) (h2 : 2 ≤ n) (h5 : n ≤ 5) (hk : k < n) : (agC n k).length = n - 1 ∧ (psC n k).length = n - 1 ∧ (agC n k).count (100 + (k : Int)) = 0 ∧ (swapL (agC n k) (100 + (((k + 1) % n : Nat) : Int)) 7 (agC n k).length).count 7 = 1 ∧ ∀ p : Nat, p < n + 1 → (if p < n ∧ p ≠ k then 1 else 0) = (psC n k).count (p : Int) := by
  have h := wo_fin ⟨n, by omega⟩ h2 ⟨k, by omega⟩ hk
  exact ⟨h.1, h.2.1, h.2.2.1, h.2.2.2.1, fun p hp => h.2.2.2.2 ⟨p, by omega⟩ hp⟩
theorem kq (x : Int) (n : Nat) (h2 : 2 ≤ n) (h5 : n ≤ 5) : ∃ k : Nat, k < n ∧ (wrap64 (x.tmod n + n)).tmod n = (k : Int) := by
  have hp : (0 : Int) < n := by omega
  have h1 := Int.tmod_lt_of_pos x hp
  have h3 := Int.lt_tmod_of_pos x hp
  have hw : wrap64 (x.tmod n + n) = x.tmod n + n := by unfold wrap64; omega
  rw [hw]
  have h4 := Int.tmod_lt_of_pos (x.tmod n + n) hp
  have h6 : 0 ≤ (x.tmod n + n).tmod n := Int.tmod_nonneg _ (by omega)
  exact ⟨((x.tmod n + n).tmod n).toNat, by omega, by omega⟩
theorem kq2 (k n : Nat) (h2 : 2 ≤ n) (h5 : n ≤ 5) (hk : k < n) : wrap64 (100 + (wrap64 ((k : Int) + 1)).tmod n) = 100 + (((k + 1) % n : Nat) : Int) := by
  have hw : wrap64 ((k : Int) + 1) = ((k + 1 : Nat) : Int) := by unfold wrap64; omega
  have hm : (((k + 1 : Nat) : Int)).tmod n = (((k + 1) % n : Nat) : Int) := by
    rw [Int.tmod_eq_emod_of_nonneg (by omega)]; rfl
  rw [hw, hm]
  have := Nat.mod_lt (k + 1) (show 0 < n by omega)
  unfold wrap64
  omega
end Go.Proofs.Ytdjpjonikceadaa
