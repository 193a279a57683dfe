/-
  Expressions as they are printed, read again: all.
  Statements as they are printed, read again.
  Statements as they are printed, read again: each kind.
-/
import Derived.Test.YtiadbeglhnocoaaGreatDoorJb12
namespace Go.Proofs.YtiadbeglhnocoaaGreatDoor
set_option linter.unusedVariables false
set_option linter.unusedSimpArgs false
open Go.RowKit

theorem counted_yes (lo hi : Nat) (s : PS) (k a o n : Int) (x : ByteArray) (l : List Part) (h1 : lo ≤ l.length) (h2 : l.length ≤ hi) : countedP lo hi s k a o n x l = wholeP s k a o n x l := by unfold countedP; rw [if_neg (by omega)]
/-! More fuel changes nothing. -/
structure Mo (k : Nat) : Prop where
  expr : ∀ s r, exprK k s = some r → exprK (k + 1) s = some r
  betw : ∀ least s r, betwK k least s = some r → betwK (k + 1) least s = some r
  loop : ∀ least (l : Part) s r, loopK k least l s = some r → loopK (k + 1) least l s = some r
  ahead : ∀ s r, aheadK k s = some r → aheadK (k + 1) s = some r
  index : ∀ (f : Part) s r, indexK k f s = some r → indexK (k + 1) f s = some r
  parts : ∀ o e s r, partsK k o e s = some r → partsK (k + 1) o e s = some r
  many : ∀ (l : List Part) s r, manyK k l s = some r → manyK (k + 1) l s = some r
  first : ∀ s r, firstK k s = some r → firstK (k + 1) s = some r
  called : ∀ t s r, calledK k t s = some r → calledK (k + 1) t s = some r
  kept : ∀ t s r, keptK k t s = some r → keptK (k + 1) t s = some r
theorem mo_zero : Mo 0 where
  expr := fun s r h => by simp [exprK] at h
  betw := fun _ s r h => by simp [betwK] at h
  loop := fun _ _ s r h => by simp [loopK] at h
  ahead := fun s r h => by simp [aheadK] at h
  index := fun _ s r h => by simp [indexK] at h
  parts := fun _ _ s r h => by simp [partsK] at h
  many := fun _ s r h => by simp [manyK] at h
  first := fun s r h => by simp [firstK] at h
  called := fun _ s r h => by simp [calledK] at h
  kept := fun _ s r h => by simp [keptK] at h
theorem mo_succ (k : Nat) (ih : Mo k) : Mo (k + 1) where
  expr := fun s r h => by
    rw [exprK] at h ⊢
    exact ih.betw _ _ _ h
  betw := fun least s r h => by
    rw [betwK] at h ⊢
    cases ha : aheadK k s with
    | none => rw [ha] at h; cases h
    | some q =>
      rw [ha] at h
      rw [ih.ahead _ _ ha]
      exact ih.loop _ _ _ _ h
  loop := fun least l s r h => by
    rw [loopK] at h ⊢
    split at h
    · rename_i hc
      rw [if_pos hc]
      exact h
    · rename_i hc
      rw [if_neg hc]
      cases hb : betwK k (rankOf s.now.bytes + 1) s.next with
      | none => rw [hb] at h; cases h
      | some q =>
        rw [hb] at h
        rw [ih.betw _ _ _ hb]
        exact ih.loop _ _ _ _ h
  ahead := fun s r h => by
    rw [aheadK] at h ⊢
    split at h
    · rename_i hc
      rw [if_pos hc]
      cases ha : firstK k s with
      | none => rw [ha] at h; cases h
      | some q =>
        rw [ha] at h
        rw [ih.first _ _ ha]
        exact ih.index _ _ _ h
    · rename_i hc
      rw [if_neg hc]
      cases ha : aheadK k s.next.enter with
      | none => rw [ha] at h; cases h
      | some q =>
        rw [ha] at h
        rw [ih.ahead _ _ ha]
        exact h
  index := fun f s r h => by
    rw [indexK] at h ⊢
    split at h
    · rename_i hc
      rw [if_pos hc]
      cases ha : partsK k ([91] : List UInt8) ([93] : List UInt8) s with
      | none => rw [ha] at h; cases h
      | some q =>
        rw [ha] at h
        rw [ih.parts _ _ _ _ ha]
        exact ih.index _ _ _ h
    · rename_i hc
      rw [if_neg hc]
      exact h
  parts := fun o e s r h => by
    rw [partsK] at h ⊢
    split at h
    · rename_i hc
      rw [if_pos hc]
      exact h
    · rename_i hc
      rw [if_neg hc]
      cases ha : manyK k [] (s.need1 o).enter with
      | none => rw [ha] at h; cases h
      | some q =>
        rw [ha] at h
        rw [ih.many _ _ _ ha]
        exact h
  many := fun l s r h => by
    rw [manyK] at h ⊢
    cases ha : exprK k s with
    | none => rw [ha] at h; cases h
    | some q =>
      rw [ha] at h
      rw [ih.expr _ _ ha]
      simp only at h ⊢
      split at h
      · rename_i hc
        rw [if_pos hc]
        exact ih.many _ _ _ h
      · rename_i hc
        rw [if_neg hc]
        exact h
  first := fun s r h => by
    rw [firstK] at h ⊢
    split at h
    · rename_i hc
      rw [if_pos hc]
      cases ha : exprK k (s.need1 ([40] : List UInt8)).enter with
      | none => rw [ha] at h; cases h
      | some q =>
        rw [ha] at h
        rw [ih.expr _ _ ha]
        exact h
    · rename_i hc
      rw [if_neg hc]
      split at h
      · rename_i hc
        rw [if_pos hc]
        exact h
      · rename_i hc
        rw [if_neg hc]
        split at h
        · rename_i hc
          rw [if_pos hc]
          exact ih.called _ _ _ h
        · rename_i hc
          rw [if_neg hc]
          exact ih.kept _ _ _ h
  called := fun t s r h => by
    rw [calledK] at h ⊢
    split at h
    · rename_i hc
      rw [if_pos hc]
      cases ha : partsK k ([40] : List UInt8) ([41] : List UInt8) s with
      | none => rw [ha] at h; cases h
      | some q =>
        rw [ha] at h
        rw [ih.parts _ _ _ _ ha]
        exact h
    · rename_i hc
      rw [if_neg hc]
      exact h
  kept := fun t s r h => by
    rw [keptK] at h ⊢
    split at h
    · rename_i hc
      rw [if_pos hc]
      exact h
    · rename_i hc
      rw [if_neg hc]
      split at h
      · rename_i hc
        rw [if_pos hc]
        exact h
      · rename_i hc
        rw [if_neg hc]
        split at h
        · rename_i hc
          rw [if_pos hc]
          exact h
        · rename_i hc
          rw [if_neg hc]
          split at h
          · rename_i hc
            rw [if_pos hc]
            cases ha : partsK k ([91] : List UInt8) ([93] : List UInt8) s with
            | none => rw [ha] at h; cases h
            | some q =>
              rw [ha] at h
              rw [ih.parts _ _ _ _ ha]
              exact h
          · rename_i hc
            rw [if_neg hc]
            split at h
            · rename_i hc
              rw [if_pos hc]
              cases ha : partsK k ([40] : List UInt8) ([41] : List UInt8) s with
              | none => rw [ha] at h; cases h
              | some q =>
                rw [ha] at h
                rw [ih.parts _ _ _ _ ha]
                exact h
            · rename_i hc
              rw [if_neg hc]
              exact h
theorem mo_all : ∀ k, Mo k
  | 0 => mo_zero
  | k + 1 => mo_succ k (mo_all k)
theorem parts_more (k : Nat) (o e : List UInt8) (s : PS) (r : List Part × PS) (h : partsK k o e s = some r) : ∀ d, partsK (k + d) o e s = some r
  | 0 => h
  | d + 1 => (mo_all (k + d)).parts o e s r (parts_more k o e s r h d)
/-- At any two fuels that suffice the answer is one. -/
theorem parts_one {k i : Nat} {o e : List UInt8} {s : PS} {r q : List Part × PS} (h : partsK k o e s = some r) (h2 : partsK i o e s = some q) : r = q := by
  rcases Nat.le_total k i with hc | hc
  · obtain ⟨d, rfl⟩ := Nat.exists_eq_add_of_le hc
    have := parts_more k o e s r h d
    rw [this] at h2
    exact Option.some.inj h2
  · obtain ⟨d, rfl⟩ := Nat.exists_eq_add_of_le hc
    have := parts_more i o e s q h2 d
    rw [this] at h
    exact (Option.some.inj h).symm
/-- An index. -/
theorem rd_index (a t : Int) (x : Ex) (rest : List Ex) (hm9 : (x :: rest).length = 2 ∨ (x :: rest).length = 3) (hx : WFE x ∧ RdA x) (hk : ∀ e ∈ rest, WFE e ∧ RdC e) : RdA (.mk 9 a t 0 0 ⟨#[]⟩ (x :: rest)) := fun z M j hm h40 hr hj => by
  have ht : tkE (.mk 9 a t 0 0 ⟨#[]⟩ (x :: rest)) = tkE x ++ (sg [91] :: (jt (tkEs rest) ++ [sg [93]])) := by simp [tkE, tkEs, tkK, jt]
  rw [ht] at hm hj ⊢
  have hm' : z.left.map er = tkE x ++ (sg [91] :: (jt (tkEs rest) ++ (sg [93] :: M))) := by rw [hm]; simp
  have hlen : (tkE x ++ (sg [91] :: (jt (tkEs rest) ++ [sg [93]]))).length = (tkE x).length + (jt (tkEs rest)).length + 2 := by simp; omega
  rw [hlen] at hj ⊢
  have hpx := dE_pos x
  have hdd : dE (.mk 9 a t 0 0 ⟨#[]⟩ (x :: rest)) = max (dE x) (dEs rest) + 1 := by simp [dE, dEs]
  rw [hdd] at hr ⊢
  obtain ⟨f, s1, h1, x', L, h2, h3, h4⟩ := hx.2 z _ j hm' (by show ([91] : List UInt8) ≠ [40]; decide) (hr.le (by omega)) (by omega)
  have hmi := mI_le x hx.1
  obtain ⟨q1, q3, L2, q4, q5⟩ := front_sg (s := z.to L) h2
  have hfuel : 10 * (jt (tkEs rest)).length + 12 ≤ 10 * ((tkE x).length + (jt (tkEs rest)).length + 2) + 3 - mI x - 1 := by omega
  -- the list's answer does not hang on the fuel: read it at each
  have hps := fun i (hi : 10 * (jt (tkEs rest)).length + 12 ≤ i) => rd_parts rest hk (z.to L) [91] [93] M i (Or.inr rfl) h2 (by have := hr.le (d' := dEs rest + 1) (by omega); exact ⟨this.deep, this.nest, this.nn⟩) hi
  have hmI : mI (.mk 9 a t 0 0 ⟨#[]⟩ (x :: rest)) = mI x + 1 := by simp [mI]
  rw [hmI]
  refine ⟨f, s1, h1, ?_⟩
  -- at one fuel
  obtain ⟨i0, hi0⟩ : ∃ i0, i0 = 10 * ((tkE x).length + (jt (tkEs rest)).length + 2) + 3 - mI x - 1 := ⟨_, rfl⟩
  obtain ⟨ps, L3, g1, g2, g3⟩ := hps i0 (by omega)
  have hlen2 : ps.length = rest.length := g2.len
  simp only [List.length_cons] at hm9
  have hsame : ∀ i, 10 * (jt (tkEs rest)).length + 12 ≤ i → partsK i [91] [93] (z.to L) = some (ps, z.to L3) := fun i hi => by
    obtain ⟨ps2, L4, k1, k2, k3⟩ := hps i hi
    rw [k3, ← parts_one g3 k3]
    rfl
  have hw := whole_yes (z.to L3) 9 (z.to L).now.at_ 0 0 ⟨#[]⟩ ((x', dE x) :: ps) (max (dE x) (dEs rest)) (by simp [deepest, g2.deep]) (by rw [to_deep]; have := hr.deep; omega)
  refine ⟨.mk 9 (z.to L).now.at_ 0 0 0 ⟨#[]⟩ (x' :: ps.map Prod.fst), L3, g1, same_mk rfl rfl (by simp [sameEs, h3, g2.same]), fun k2 hk2 => ?_⟩
  rw [h4 k2 (by omega)]
  obtain ⟨i, hi⟩ : ∃ i, k2 - mI x = i + 1 := ⟨k2 - mI x - 1, by omega⟩
  rw [hi, show k2 - (mI x + 1) = i by omega]
  rw [indexK, isB_yes q3, hsame i (by omega)]
  simp only [if_true]
  rw [counted_yes 2 3 _ _ _ _ _ _ _ (by simp; omega) (by simp; omega), hw]
  rfl
/-- A kept name and a list. -/
theorem rd_new (a t : Int) (kids : List Ex) (hm10 : kids.length = 1 ∨ kids.length = 2) (hk : ∀ e ∈ kids, WFE e ∧ RdC e) : RdA (.mk 10 a t 0 0 ⟨#[]⟩ kids) := fun z M j hm h40 hr hj => by
  have ht : tkE (.mk 10 a t 0 0 ⟨#[]⟩ kids) = kw [110, 101, 119] :: sg [91] :: (jt (tkEs kids) ++ [sg [93]]) := by simp [tkE, tkK]
  rw [ht] at hm hj ⊢
  have hm' : z.left.map er = kw [110, 101, 119] :: (sg [91] :: (jt (tkEs kids) ++ (sg [93] :: M))) := by rw [hm]; simp
  have hlen : (kw [110, 101, 119] :: sg [91] :: (jt (tkEs kids) ++ [sg [93]])).length = (jt (tkEs kids)).length + 3 := by simp
  rw [hlen] at hj
  have hdd : dE (.mk 10 a t 0 0 ⟨#[]⟩ kids) = dEs kids + 1 := by simp [dE]
  rw [hdd] at hr ⊢
  obtain ⟨f1, f3, L, f4, f5⟩ := front_kw hm'
  obtain ⟨j, rfl⟩ : ∃ i, j = i + 2 := ⟨j - 2, by omega⟩
  obtain ⟨ps, L3, g1, g2, g3⟩ := rd_parts kids hk (z.to L) [91] [93] M j (Or.inr rfl) f5 ⟨hr.deep, hr.nest, hr.nn⟩ (by omega)
  have hl := g2.len
  have hw := whole_yes (z.to L3) 10 z.now.at_ 0 0 ⟨#[]⟩ ps (dEs kids) g2.deep (by rw [to_deep]; have := hr.deep; omega)
  refine ⟨(.mk 10 z.now.at_ 0 0 0 ⟨#[]⟩ (ps.map Prod.fst), dEs kids + 1), z.to L3, ?_, .mk 10 z.now.at_ 0 0 0 ⟨#[]⟩ (ps.map Prod.fst), L3, g1, same_mk rfl rfl g2.same, fun k2 _ => by cases kids <;> simp [mI]⟩
  rw [kept_first hm' (by decide) f4]
  simp only [keptK, f3]
  rw [if_neg (by decide), if_neg (by decide), if_neg (by decide), if_pos (by decide), g3]
  simp only
  rw [counted_yes 1 2 _ _ _ _ _ _ _ (by omega) (by omega), to_to, hw]
theorem rd_ask (k a t : Int) (x : Ex) (b : List UInt8) (hb : (b = [108, 101, 110] ∧ k = 11) ∨ (b = [114, 111, 119, 115] ∧ k = 12) ∨ (b = [99, 111, 108, 115] ∧ k = 13)) (ht : tkE (.mk k a t 0 0 ⟨#[]⟩ [x]) = kw b :: sg [40] :: (tkE x ++ [sg [41]])) (hk : WFE x ∧ RdC x) : RdA (.mk k a t 0 0 ⟨#[]⟩ [x]) := fun z M j hm h40 hr hj => by
  rw [ht] at hm hj ⊢
  have hm' : z.left.map er = kw b :: (sg [40] :: (jt (tkEs [x]) ++ (sg [41] :: M))) := by rw [hm]; simp [tkEs, jt]
  have hlen : (kw b :: sg [40] :: (tkE x ++ [sg [41]])).length = (jt (tkEs [x])).length + 3 := by simp [tkEs, jt]
  rw [hlen] at hj
  have hdd : dE (.mk k a t 0 0 ⟨#[]⟩ [x]) = dEs [x] + 1 := by simp [dE]
  rw [hdd] at hr ⊢
  have hk9 : k ≠ 9 := by rcases hb with ⟨_, rfl⟩ | ⟨_, rfl⟩ | ⟨_, rfl⟩ <;> decide
  obtain ⟨f1, f3, L, f4, f5⟩ := front_kw hm'
  obtain ⟨j, rfl⟩ : ∃ i, j = i + 2 := ⟨j - 2, by omega⟩
  obtain ⟨ps, L3, g1, g2, g3⟩ := rd_parts [x] (fun e he => by rw [List.mem_singleton] at he; rw [he]; exact hk) (z.to L) [40] [41] M j (Or.inl rfl) f5 ⟨hr.deep, hr.nest, hr.nn⟩ (by omega)
  have hl := g2.len
  simp only [List.length_cons, List.length_nil] at hl
  have hw := whole_yes (z.to L3) k z.now.at_ 0 0 ⟨#[]⟩ ps (dEs [x]) g2.deep (by rw [to_deep]; have := hr.deep; omega)
  refine ⟨(.mk k z.now.at_ 0 0 0 ⟨#[]⟩ (ps.map Prod.fst), dEs [x] + 1), z.to L3, ?_, .mk k z.now.at_ 0 0 0 ⟨#[]⟩ (ps.map Prod.fst), L3, g1, same_mk rfl rfl g2.same, fun k2 _ => by simp [mI, hk9]⟩
  rw [kept_first hm' (by rcases hb with ⟨rfl, _⟩ | ⟨rfl, _⟩ | ⟨rfl, _⟩ <;> decide) f4]
  simp only [keptK, f3]
  rcases hb with ⟨rfl, rfl⟩ | ⟨rfl, rfl⟩ | ⟨rfl, rfl⟩
  all_goals
    rw [if_neg (by decide), if_neg (by decide), if_neg (by decide), if_neg (by decide), if_pos (by decide), g3]
    simp only
    rw [counted_yes 1 1 _ _ _ _ _ _ _ (by omega) (by omega), to_to]
    first
      | (rw [if_pos (by decide), hw])
      | (rw [if_neg (by decide), if_pos (by decide), hw])
      | (rw [if_neg (by decide), if_neg (by decide), hw])
theorem rd_num (a t n : Int) : RdA (.mk 1 a t 0 n ⟨#[]⟩ []) := rd_leaf 1 a t 0 n ⟨#[]⟩ (nut n) (show (2 : Int) ≠ 0 by decide) (by simp [tkE, tkK, tkEs]) (fun z M j L hm h40 hL hLM hr hj => by
  obtain ⟨f1, f2, f3, -⟩ := front_nu hm
  obtain ⟨j, rfl⟩ : ∃ i, j = i + 1 := ⟨j - 1, by omega⟩
  refine ⟨z.now.at_, 0, ⟨#[]⟩, rfl, ?_⟩
  rw [firstK, isB_no (by rw [f3]; exact dig_nk n)]
  simp only [Bool.false_eq_true, if_false]
  rw [if_pos f1, hL, f2, leaf_whole z L _ _ _ _ _ hr])
theorem rd_name (a t : Int) (s : ByteArray) (hn : NameOk s.data.toList) : RdA (.mk 3 a t 0 0 s []) := rd_leaf 3 a t 0 0 s (nmt s.data.toList) (show (1 : Int) ≠ 0 by decide) (by simp [tkE, tkK, tkEs]) (fun z M j L hm h40 hL hLM hr hj => by
  obtain ⟨f1, f3, -⟩ := front_nm hm
  obtain ⟨j, rfl⟩ : ∃ i, j = i + 2 := ⟨j - 2, by omega⟩
  refine ⟨z.now.at_, 0, strB z.now.bytes, by rw [strB_list, f3], ?_⟩
  rw [firstK, isB_no (by rw [f3]; exact name_nk hn)]
  simp only [Bool.false_eq_true, if_false]
  rw [if_neg (by rw [f1]; decide), if_pos f1, hL, calledK]
  have hL2 : (z.to L).now.bytes = nb M := nb_now (s := z.to L) hLM
  rw [isB_no (by rw [hL2]; exact h40)]
  simp only [Bool.false_eq_true, if_false]
  rw [leaf_whole z L _ _ _ _ _ hr])
theorem rd_truth (a t n : Int) (hn : n = 0 ∨ n = 1) : RdA (.mk 2 a t 0 n ⟨#[]⟩ []) := rd_leaf 2 a t 0 n ⟨#[]⟩ (kw (truthB n)) (show (3 : Int) ≠ 0 by decide) (by simp [tkE, tkK, tkEs]) (fun z M j L hm h40 hL hLM hr hj => by
  obtain ⟨j, rfl⟩ : ∃ i, j = i + 2 := ⟨j - 2, by omega⟩
  obtain ⟨f1, f3, -⟩ := front_kw hm
  refine ⟨z.now.at_, 0, ⟨#[]⟩, rfl, ?_⟩
  rw [kept_first hm (by rcases hn with rfl | rfl <;> decide) hL, keptK, f3]
  rcases hn with rfl | rfl
  · rw [if_neg (by decide), if_pos (by decide), leaf_whole z L _ _ _ _ _ hr]
  · rw [if_pos (by decide), leaf_whole z L _ _ _ _ _ hr])
theorem rd_input (a t : Int) : RdA (.mk 14 a t 0 0 ⟨#[]⟩ []) := rd_leaf 14 a t 0 0 ⟨#[]⟩ (kw [105, 110, 112, 117, 116]) (show (3 : Int) ≠ 0 by decide) (by simp [tkE, tkK, tkEs]) (fun z M j L hm h40 hL hLM hr hj => by
  obtain ⟨j, rfl⟩ : ∃ i, j = i + 2 := ⟨j - 2, by omega⟩
  obtain ⟨f1, f3, -⟩ := front_kw hm
  refine ⟨z.now.at_, 0, ⟨#[]⟩, rfl, ?_⟩
  rw [kept_first hm (by decide) hL, keptK, f3, if_neg (by decide), if_neg (by decide), if_pos (by decide), leaf_whole z L _ _ _ _ _ hr])
theorem op_read : ∀ o ∈ opsL, 1 ≤ rankOf (sgnB o) ∧ kindOf (rankOf (sgnB o)) = 5 ∧ opOf (sgnB o) = o ∧ sgnB o ≠ [40] ∧ sgnB o ≠ [91] := by
  intro o ho
  unfold opsL at ho
  simp only [List.mem_cons, List.not_mem_nil, or_false] at ho
  rcases ho with rfl | rfl | rfl | rfl | rfl | rfl | rfl | rfl | rfl | rfl | rfl | rfl | rfl | rfl | rfl | rfl | rfl <;> decide
theorem rd_node (k a t o n : Int) (s : ByteArray) (kids : List Ex) (hsh : shK k o n s kids.length) (hk : ∀ e ∈ kids, WFE e ∧ RdA e) : RdA (.mk k a t o n s kids) := by
  have hB : ∀ e ∈ kids, WFE e ∧ RdB e := fun e he => ⟨(hk e he).1, rdB_of e (hk e he).1 (hk e he).2⟩
  have hC : ∀ e ∈ kids, WFE e ∧ RdC e := fun e he => ⟨(hk e he).1, rdC_of e (hB e he).2⟩
  unfold shK at hsh
  rcases hsh with ⟨rfl, rfl, rfl, hm, hi⟩ | ⟨rfl, rfl, rfl, hm, hn⟩ | ⟨rfl, rfl, rfl, hm, hn⟩ | ⟨rfl, ho, rfl, rfl, hm⟩ | ⟨rfl, ho, rfl, rfl, hm⟩ | ⟨hk67, rfl, rfl, rfl, hm⟩ | ⟨rfl, rfl, rfl, hn⟩ | ⟨rfl, rfl, rfl, rfl, hm⟩ | ⟨rfl, rfl, rfl, rfl, hm⟩ | ⟨hk13, rfl, rfl, rfl, hm⟩ | ⟨rfl, rfl, rfl, rfl, hm⟩
  · obtain rfl := List.length_eq_zero_iff.mp hm
    exact rd_num a t n
  · obtain rfl := List.length_eq_zero_iff.mp hm
    exact rd_truth a t n hn
  · obtain rfl := List.length_eq_zero_iff.mp hm
    exact rd_name a t s hn
  · obtain ⟨x, rfl⟩ := List.length_eq_one_iff.mp hm
    exact rd_one a t o x ho (hB x (by simp))
  · obtain ⟨x, y, rfl⟩ := len_two hm
    obtain ⟨o1, o2, o3, o4, o5⟩ := op_read o ho
    exact rd_two 5 a t o x y (sgnB o) (hB x (by simp)) (hC y (by simp)) (by simp [tkE, tkEs, tkK]) (by decide) o4 o5 o1 o2 o3
  · obtain ⟨x, y, rfl⟩ := len_two hm
    rcases hk67 with rfl | rfl
    · exact rd_two 6 a t 0 x y [38, 38] (hB x (by simp)) (hC y (by simp)) (by simp [tkE, tkEs, tkK]) (by decide) (by decide) (by decide) (by decide) (by decide) (by decide)
    · exact rd_two 7 a t 0 x y [124, 124] (hB x (by simp)) (hC y (by simp)) (by simp [tkE, tkEs, tkK]) (by decide) (by decide) (by decide) (by decide) (by decide) (by decide)
  · exact rd_call a t s kids hn hC
  · cases kids with
    | nil => simp at hm
    | cons x rest => exact rd_index a t x rest hm (hk x (by simp)) (fun e he => hC e (by simp [he]))
  · exact rd_new a t kids hm hC
  · obtain ⟨x, rfl⟩ := List.length_eq_one_iff.mp hm
    have hx := hC x (by simp)
    rcases hk13 with rfl | rfl | rfl
    · exact rd_ask 11 a t x [108, 101, 110] (Or.inl ⟨rfl, rfl⟩) (by simp [tkE, tkEs, tkK, jt]) hx
    · exact rd_ask 12 a t x [114, 111, 119, 115] (Or.inr (Or.inl ⟨rfl, rfl⟩)) (by simp [tkE, tkEs, tkK, jt]) hx
    · exact rd_ask 13 a t x [99, 111, 108, 115] (Or.inr (Or.inr ⟨rfl, rfl⟩)) (by simp [tkE, tkEs, tkK, jt]) hx
  · obtain rfl := List.length_eq_zero_iff.mp hm
    exact rd_input a t
mutual
theorem rdA_all : ∀ e : Ex, WFE e → RdA e
  | .mk k a t o n s kids, h => by
    unfold WFE at h
    exact rd_node k a t o n s kids h.1 (rdAs_all kids h.2)
theorem rdAs_all : ∀ l : List Ex, WFEs l → ∀ e ∈ l, WFE e ∧ RdA e
  | [], _ => fun e he => absurd he (List.not_mem_nil)
  | x :: r, h => by
    unfold WFEs at h
    intro e he
    rcases List.mem_cons.mp he with he2 | he
    · rw [he2]; exact ⟨h.1, rdA_all x h.1⟩
    · exact rdAs_all r h.2 e he
end
theorem rdC_all (e : Ex) (h : WFE e) : RdC e := rdC_of e (rdB_of e h (rdA_all e h))
end Go.Proofs.YtiadbeglhnocoaaGreatDoor
namespace Go.Proofs.YtiadbeglhnocoaaGreatDoor
set_option linter.unusedVariables false
set_option linter.unusedSimpArgs false
open Go.RowKit

theorem sameS_mk {k p : Int} {a n a' n' : Int} {s s' : ByteArray} {l l' : List Ex} {b b' e e' : List St} (hs : s.data.toList = s'.data.toList) (hl : sameEs l l' = true) (hb : sameSs b b' = true) (he : sameSs e e' = true) : sameS (.mk k a n s p l b e) (.mk k a' n' s' p l' b' e') = true := by
  unfold sameS
  simp [bytesB, hs, hl, hb, he]
/-- Where statements are read. -/
structure Rs (s : PS) (D : Int) : Prop where
  deep : s.deep = D
  nest : s.nest = D
  nn : 0 ≤ D
theorem Rs.to {s : PS} {D : Int} (h : Rs s D) (L : List Tk) : Rs (s.to L) D := ⟨h.deep, h.nest, h.nn⟩
theorem Rs.rm {s : PS} {D d : Int} (h : Rs s D) (hd : D + d ≤ 256) (hD : D ≤ 256) (h0 : 0 ≤ d) : Rm s d := ⟨by rw [h.deep]; exact hd, by rw [h.nest]; have := h.nn; omega, by rw [h.nest]; exact h.nn⟩
/-- How a statement's words begin. -/
def Sf (a : ETk) : Prop := a.1 ≠ 0 ∧ a.2.2 ≠ [125] ∧ a.2.2 ≠ [101, 108, 115, 101]
theorem nm_ne {b x : List UInt8} (h : NameOk b) (hx : keptB x = true ∨ ∃ c r, x = c :: r ∧ letterB (c.toNat : Int) = false) : b ≠ x := by
  obtain ⟨c, r, rfl, hl, _, hk⟩ := h
  intro e
  subst e
  rcases hx with hx | ⟨c', r', e, hx⟩
  · rw [hk] at hx; cases hx
  · injection e with e1 _
    subst e1
    rw [hl] at hx
    cases hx
mutual
/-- What begins with a name: the name, and what follows. -/
theorem nm_first : ∀ q : Ex, WFE q → NmE q → ∃ b m, tkE q = nmt b :: m ∧ NameOk b ∧ ((exK q = 3 ∧ m = []) ∨ ∃ m', m = sg [40] :: m' ∨ m = sg [91] :: m')
  | .mk k a t o n s kids, h, hn => by
    unfold WFE at h
    obtain ⟨hsh, hk⟩ := h
    unfold NmE at hn
    rcases hn with rfl | rfl | ⟨rfl, hn⟩
    · unfold shK at hsh
      simp at hsh
      obtain ⟨rfl, rfl, hm, hb⟩ := hsh
      subst hm
      exact ⟨_, [], by simp [tkE, tkEs, tkK], hb, Or.inl ⟨rfl, rfl⟩⟩
    · unfold shK at hsh
      simp at hsh
      exact ⟨s.data.toList, _, by simp [tkE, tkK]; rfl, hsh.2.2, Or.inr ⟨_, Or.inl rfl⟩⟩
    · cases kids with
      | nil => exact absurd hn (by simp [NmEs])
      | cons x rest =>
        unfold NmEs at hn
        obtain ⟨b, m, h1, h2, h3⟩ := nm_kid x rest hk hn
        refine ⟨b, m ++ (sg [91] :: (jt (tkEs rest) ++ [sg [93]])), by simp [tkE, tkEs, tkK, jt, h1], h2, Or.inr ?_⟩
        rcases h3 with ⟨_, rfl⟩ | ⟨m', rfl | rfl⟩
        · exact ⟨_, Or.inr rfl⟩
        · exact ⟨_, Or.inl rfl⟩
        · exact ⟨_, Or.inr rfl⟩
theorem nm_kid : ∀ (x : Ex) (rest : List Ex), WFEs (x :: rest) → NmE x → ∃ b m, tkE x = nmt b :: m ∧ NameOk b ∧ ((exK x = 3 ∧ m = []) ∨ ∃ m', m = sg [40] :: m' ∨ m = sg [91] :: m')
  | x, rest, h, hn => by
    unfold WFEs at h
    exact nm_first x h.1 hn
end
theorem st_first (D : Int) (x : St) (h : WFS D x) : ∃ a m, tkS x = a :: m ∧ Sf a := by
  obtain ⟨k, a, n, s, p, kids, body, els⟩ := x
  unfold WFS at h
  obtain ⟨-, rfl, hsh, hk, -, -, -⟩ := h
  unfold shS at hsh
  have hname : ∀ b, NameOk b → Sf (nmt b) := fun b hb => ⟨show (1 : Int) ≠ 0 by decide, nm_ne hb (Or.inr ⟨_, _, rfl, by decide⟩), nm_ne hb (Or.inl (by decide))⟩
  have hkw : ∀ b : List UInt8, b ≠ [125] → b ≠ [101, 108, 115, 101] → Sf (kw b) := fun b h1 h2 => ⟨show (3 : Int) ≠ 0 by decide, h1, h2⟩
  rcases hsh with ⟨rfl, hn, rfl, hm, rfl, rfl⟩ | ⟨rfl, hn, rfl, hm, rfl, rfl⟩ | ⟨rfl, rfl, rfl, rfl, rfl, q, y, rfl, hq, _⟩ | ⟨rfl, rfl, rfl, hm⟩ | ⟨rfl, rfl, rfl, hm, rfl⟩ | ⟨rfl, hn, hp, hp0, hm, rfl⟩ | ⟨hk78, rfl, rfl, rfl, rfl, rfl⟩ | ⟨rfl, rfl, rfl, hm, rfl, rfl⟩ | ⟨rfl, rfl, rfl, hm, rfl, rfl⟩ | ⟨rfl, rfl, rfl, rfl, rfl, q, rfl, hq, _⟩
  · exact ⟨kw [118, 97, 114], _, by simp [tkS]; rfl, hkw _ (by decide) (by decide)⟩
  · exact ⟨nmt s.data.toList, _, by simp [tkS]; rfl, hname _ hn⟩
  · obtain ⟨b, m, h1, h2, _⟩ := nm_first q (by unfold WFEs at hk; exact hk.1) hq
    exact ⟨nmt b, m ++ (sg [61] :: (tkE y ++ [sg [59]])), by simp [tkS, tkP, h1], hname b h2⟩
  · exact ⟨kw [105, 102], _, by simp [tkS]; rfl, hkw _ (by decide) (by decide)⟩
  · exact ⟨kw [119, 104, 105, 108, 101], _, by simp [tkS]; rfl, hkw _ (by decide) (by decide)⟩
  · exact ⟨kw [102, 111, 114], _, by simp [tkS]; rfl, hkw _ (by decide) (by decide)⟩
  · rcases hk78 with rfl | rfl
    · exact ⟨kw [98, 114, 101, 97, 107], _, by simp [tkS]; rfl, hkw _ (by decide) (by decide)⟩
    · exact ⟨kw [99, 111, 110, 116, 105, 110, 117, 101], _, by simp [tkS]; rfl, hkw _ (by decide) (by decide)⟩
  · exact ⟨kw [114, 101, 116, 117, 114, 110], _, by simp [tkS]; rfl, hkw _ (by decide) (by decide)⟩
  · exact ⟨kw [112, 114, 105, 110, 116], _, by simp [tkS]; rfl, hkw _ (by decide) (by decide)⟩
  · obtain ⟨b, m, h1, h2, _⟩ := nm_first q (by unfold WFEs at hk; exact hk.1) hq
    exact ⟨nmt b, m ++ [sg [59]], by simp [tkS, tkP, h1], hname b h2⟩
/-- A statement is read again. -/
def RdSt (x : St) : Prop := ∀ (D : Int) (s : PS) (M : List ETk) (k : Nat), WFS D x → Rs s (D - 1) ∨ (s.deep = D - 1 ∧ s.nest = D ∧ 1 ≤ D) → s.left.map er = tkS x ++ M → s.nest = D → nb M ≠ [101, 108, 115, 101] → 10 * (tkS x).length + 5 ≤ k →
  ∃ x' L, L.map er = M ∧ sameS x x' = true ∧ stmtK k s = some (x', s.to L)
def RdSts (l : List St) : Prop := ∀ (D : Int) (s : PS) (M : List ETk) (k : Nat) (pre : List St), WFSs D l → s.deep = D - 1 → s.nest = D → 1 ≤ D → s.left.map er = tkSs l ++ (sg [125] :: M) → 10 * (tkSs l).length + 6 ≤ k →
  ∃ l' L, L.map er = sg [125] :: M ∧ sameSs l l' = true ∧ stmtsFK k pre s = some (pre ++ l', s.to L)
theorem rd_block (l : List St) (hl : RdSts l) (D : Int) (s : PS) (M : List ETk) (k : Nat) (hw : WFSs (D + 1) l) (hs : Rs s D) (hD : D ≤ 256) (hm : s.left.map er = sg [123] :: (tkSs l ++ (sg [125] :: M))) (hk : 10 * (tkSs l).length + 8 ≤ k) :
    ∃ l' L, L.map er = M ∧ sameSs l l' = true ∧ blockK k s = some (l', s.to L) := by
  obtain ⟨k, rfl⟩ : ∃ j, k = j + 1 := ⟨k - 1, by omega⟩
  obtain ⟨f1, f3, L1, f4, f5⟩ := front_sg hm
  have hen1 : (s.to L1).enter = ({ s with left := L1, nest := s.nest + 1 } : PS) := by
    rw [enter_yes (by show s.nest + 1 ≤ 1024; rw [hs.nest]; omega)]
    rfl
  obtain ⟨U, hU⟩ : ∃ U : PS, U = { s with left := L1, nest := s.nest + 1 } := ⟨_, rfl⟩
  have hout : ∀ L, (U.to L).leave = s.to L := fun L => by
    rw [hU]
    exact in_out s L
  obtain ⟨l', L2, h1, h2, h3⟩ := hl (D + 1) U M k [] hw (by rw [hU]; show s.deep = _; rw [hs.deep]; omega) (by rw [hU]; show s.nest + 1 = _; rw [hs.nest]) (by have := hs.nn; omega) (by rw [hU]; exact f5) (by omega)
  obtain ⟨q1, q3, L3, q4, q5⟩ := front_sg (s := U.to L2) h1
  refine ⟨l', L3, q5, h2, ?_⟩
  rw [blockK, need_yes f3, f4, hen1, ← hU, h3]
  simp only [List.nil_append]
  rw [need_yes q3, q4, to_to, hout]
theorem rd_sts_nil : RdSts [] := fun D s M k pre hw hd hn h1 hm hk => by
  obtain ⟨k, rfl⟩ : ∃ j, k = j + 1 := ⟨k - 1, by omega⟩
  simp only [tkSs, List.nil_append] at hm
  obtain ⟨f1, f3, -⟩ := front_sg hm
  refine ⟨[], s.left, hm, rfl, ?_⟩
  rw [stmtsFK, if_pos (Or.inl (isB_yes f3))]
  simp
  rfl
theorem rd_sts_cons (x : St) (l : List St) (hx : RdSt x) (hl : RdSts l) : RdSts (x :: l) := fun D s M k pre hw hd hn h1 hm hk => by
  obtain ⟨k, rfl⟩ : ∃ j, k = j + 1 := ⟨k - 1, by omega⟩
  unfold WFSs at hw
  simp only [tkSs] at hm hk
  have hm' : s.left.map er = tkS x ++ (tkSs l ++ (sg [125] :: M)) := by rw [hm]; simp
  rw [List.length_append] at hk
  obtain ⟨a, m, b1, b2⟩ := st_first D x hw.1
  have hpos : 1 ≤ (tkS x).length := by rw [b1]; simp
  have hnb : nb (tkSs l ++ (sg [125] :: M)) ≠ [101, 108, 115, 101] := by
    cases l with
    | nil => exact (by decide : ([125] : List UInt8) ≠ [101, 108, 115, 101])
    | cons y t =>
      have hwy := hw.2
      unfold WFSs at hwy
      obtain ⟨a', m', c1, c2⟩ := st_first D y hwy.1
      simp only [tkSs, c1]
      exact c2.2.2
  obtain ⟨x', L, e1, e2, e3⟩ := hx D s _ k hw.1 (Or.inr ⟨hd, hn, h1⟩) hm' hn hnb (by omega)
  obtain ⟨l', L2, g1, g2, g3⟩ := hl D (s.to L) M k (pre ++ [x']) hw.2 hd hn h1 e1 (by omega)
  refine ⟨x' :: l', L2, g1, by simp [sameSs, e2, g2], ?_⟩
  have hnow : s.now.bytes = a.2.2 ∧ s.now.kind ≠ 0 := by
    rw [b1] at hm'
    obtain ⟨i1, i2, i3, -⟩ := front hm' b2.1
    exact ⟨i3, by rw [i1]; exact b2.1⟩
  have hno : ¬ (s.isB ([125] : List UInt8) = true ∨ s.now.kind = 0) := fun e => by
    rcases e with e | e
    · rw [isB_no (by rw [hnow.1]; exact b2.2.1)] at e; cases e
    · exact hnow.2 e
  rw [stmtsFK, if_neg hno, e3]
  simp only
  rw [g3]
  simp
  rfl
/-- What is read within a statement. -/
theorem st_down {s : PS} {D : Int} (hd : s.deep = D - 1) (hD : D ≤ 256) : s.down = { s with deep := D } := by
  unfold PS.down
  rw [if_neg (by omega)]
  have : s.deep + 1 = D := by omega
  rw [this]
theorem st_up (s : PS) (L : List Tk) {D : Int} (hd : s.deep = D - 1) : PS.up (PS.to { s with deep := D } L) = s.to L := by
  obtain ⟨l, fk, fa, dp, ns⟩ := s
  unfold PS.up PS.to
  simp only [PS.mk.injEq, true_and, and_true]
  exact hd.symm
/-- A statement's kinds. -/
def inSt (k : Nat) (a : Int) (z : PS) : Option (St × PS) :=
  if z.isB ([105, 102] : List UInt8) = true then choiceK k a z
  else if z.isB ([119, 104, 105, 108, 101] : List UInt8) = true then whileK k a z
  else if z.isB ([102, 111, 114] : List UInt8) = true then countK k a z
  else (simpleK k a z).map fun p => (p.1, p.2.need1 ([59] : List UInt8))
theorem stmtK_in (k : Nat) (s : PS) : stmtK (k + 1) s = (inSt k s.now.at_ s.down).map fun p => (p.1, p.2.up) := by
  rw [stmtK_succ]
  unfold inSt
  by_cases c1 : s.down.isB ([105, 102] : List UInt8) = true
  · rw [if_pos c1, if_pos c1]
    cases choiceK k s.now.at_ s.down <;> rfl
  · rw [if_neg c1, if_neg c1]
    by_cases c2 : s.down.isB ([119, 104, 105, 108, 101] : List UInt8) = true
    · rw [if_pos c2, if_pos c2]
      cases whileK k s.now.at_ s.down <;> rfl
    · rw [if_neg c2, if_neg c2]
      by_cases c3 : s.down.isB ([102, 111, 114] : List UInt8) = true
      · rw [if_pos c3, if_pos c3]
        cases countK k s.now.at_ s.down <;> rfl
      · rw [if_neg c3, if_neg c3]
        cases simpleK k s.now.at_ s.down <;> rfl
/-- A statement by its kind, its words behind the first. -/
theorem st_of {x : St} (h : ∀ (D : Int) (z : PS) (M : List ETk) (k : Nat) (a : Int), WFS D x → Rs z D → D ≤ 256 → z.left.map er = tkS x ++ M → nb M ≠ [101, 108, 115, 101] → 10 * (tkS x).length + 4 ≤ k → ∃ x' L, L.map er = M ∧ sameS x x' = true ∧ inSt k a z = some (x', z.to L)) : RdSt x := fun D s M k hw hR hm hn hnb hk => by
  obtain ⟨k, rfl⟩ : ∃ j, k = j + 1 := ⟨k - 1, by omega⟩
  have hD : D ≤ 256 := by
    obtain ⟨k', a, n, z, p, kids, body, els⟩ := x
    unfold WFS at hw
    exact hw.1
  have hR2 : s.deep = D - 1 ∧ 0 ≤ D := by
    rcases hR with h | h
    · exact ⟨h.deep, by have := h.nn; omega⟩
    · exact ⟨h.1, by omega⟩
  have hdn := st_down hR2.1 hD
  obtain ⟨x', L, h1, h2, h3⟩ := h D ({ s with deep := D } : PS) M k s.now.at_ hw ⟨rfl, hn, hR2.2⟩ hD hm hnb (by omega)
  refine ⟨x', L, h1, h2, ?_⟩
  rw [stmtK_in, hdn, h3]
  simp only [Option.map_some]
  rw [st_up s L hR2.1]
theorem ex_read {z : PS} {D : Int} {x : Ex} {M : List ETk} {k : Nat} (hx : WFE x) (hz : Rs z D) (hD : D ≤ 256) (hd : D + dE x ≤ 256) (hm : z.left.map er = tkE x ++ M) (h40 : nb M ≠ [40]) (h91 : nb M ≠ [91]) (hrk : rankOf (nb M) < 1) (hk : 10 * (tkE x).length + 8 ≤ k) : ∃ x' L, L.map er = M ∧ sameE x x' = true ∧ exprK k z = some ((x', dE x), z.to L) := by
  obtain ⟨k, rfl⟩ : ∃ j, k = j + 1 := ⟨k - 1, by omega⟩
  have := dE_pos x
  obtain ⟨x', L, h1, h2, h3⟩ := rdC_all x hx z M k 1 hm h40 h91 hrk (hz.rm hd hD (by omega)) (by omega)
  exact ⟨x', L, h1, h2, by rw [exprK]; exact h3⟩
end Go.Proofs.YtiadbeglhnocoaaGreatDoor
namespace Go.Proofs.YtiadbeglhnocoaaGreatDoor
set_option linter.unusedVariables false
set_option linter.unusedSimpArgs false
open Go.RowKit

theorem nameP_yes {s : PS} (h : s.now.kind = 1) : s.nameP = s.next := by unfold PS.nameP; rw [if_pos h]
theorem wrap_back (p : Int) (h : InI p) : wrap64 (-(wrap64 (-p))) = p := by unfold InI at h; unfold wrap64; omega
theorem to_self (s : PS) : s.to s.left = s := rfl
theorem rd_step (p : Int) (hp : InI p) (h0 : p ≠ 0) (s : PS) (M : List ETk) (hm : s.left.map er = stepT p ++ M) (hM : nb M = [123]) : ∃ L, L.map er = M ∧ stepP s = (p, s.to L) := by
  unfold stepT at hm
  split at hm
  · rename_i h1
    subst h1
    have hn := nb_now (s := s) (M := M) hm
    refine ⟨s.left, hm, ?_⟩
    unfold stepP
    rw [isB_no (by rw [hn, hM]; decide)]
    rfl
  · rename_i h1
    split at hm
    · rename_i h2
      obtain ⟨f1, f3, L1, f4, f5⟩ := front_kw hm
      obtain ⟨g1, g3, L2, g4, g5⟩ := front_sg (s := s.to L1) f5
      obtain ⟨i1, i2, i3, L3, i4, i5⟩ := front_nu (s := s.to L2) g5
      refine ⟨L3, i5, ?_⟩
      unfold stepP
      rw [isB_yes f3]
      simp only [if_true]
      rw [f4]
      have ht : (s.to L1).takeP ([45] : List UInt8) = s.to L2 := by unfold PS.takeP; rw [if_pos (isB_yes g3), g4]; rfl
      rw [ht, isB_yes g3]
      simp only [if_true]
      have hnz : wrap64 (-p) ≠ 0 := wrap_nz p hp h0
      rw [if_neg (by rw [i1, i2]; simp [hnz]), i2, i4, wrap_back p hp]
      rfl
    · rename_i h2
      obtain ⟨f1, f3, L1, f4, f5⟩ := front_kw hm
      obtain ⟨i1, i2, i3, L3, i4, i5⟩ := front_nu (s := s.to L1) f5
      refine ⟨L3, i5, ?_⟩
      unfold stepP
      rw [isB_yes f3]
      simp only [if_true]
      rw [f4]
      have hno : (s.to L1).isB ([45] : List UInt8) = false := isB_no (by rw [i3]; exact bg_ne (bg_dig p) 45 (by decide) (by decide))
      have ht : (s.to L1).takeP ([45] : List UInt8) = s.to L1 := by unfold PS.takeP; rw [if_neg (by rw [hno]; decide)]
      rw [ht, hno]
      simp only [Bool.false_eq_true, if_false]
      rw [if_neg (by rw [i1, i2]; simp [h0]), i2, i4]
      rfl
/-- A name in its place leads on. -/
theorem named_in {z : PS} {k : Nat} {a : Int} {b : List UInt8} {M : List ETk} {L : List Tk} (hb : NameOk b) (hm : z.left.map er = nmt b :: M) (hL : z.next = z.to L) : inSt (k + 1) a z = (namedK k a z.now (z.to L)).map fun p => (p.1, p.2.need1 ([59] : List UInt8)) := by
  obtain ⟨f1, f3, -⟩ := front_nm hm
  unfold inSt
  rw [isB_no (by rw [f3]; exact nm_ne hb (Or.inl (by decide))), isB_no (by rw [f3]; exact nm_ne hb (Or.inl (by decide))), isB_no (by rw [f3]; exact nm_ne hb (Or.inl (by decide)))]
  simp only [Bool.false_eq_true, if_false]
  rw [simpleK]
  rw [if_pos f1, hL]
theorem kw_in {z : PS} {k : Nat} {a : Int} {b : List UInt8} {M : List ETk} (hm : z.left.map er = kw b :: M) (h1 : b ≠ [105, 102]) (h2 : b ≠ [119, 104, 105, 108, 101]) (h3 : b ≠ [102, 111, 114]) : inSt k a z = (simpleK k a z).map fun p => (p.1, p.2.need1 ([59] : List UInt8)) := by
  obtain ⟨f1, f3, -⟩ := front_kw hm
  unfold inSt
  rw [isB_no (by rw [f3]; exact h1), isB_no (by rw [f3]; exact h2), isB_no (by rw [f3]; exact h3)]
  simp only [Bool.false_eq_true, if_false]
theorem sc_nb {M : List ETk} : nb (sg [59] :: M) ≠ [40] ∧ nb (sg [59] :: M) ≠ [91] ∧ rankOf (nb (sg [59] :: M)) < 1 := by
  refine ⟨?_, ?_, ?_⟩
  · show ([59] : List UInt8) ≠ [40]; decide
  · show ([59] : List UInt8) ≠ [91]; decide
  · show rankOf [59] < 1; decide
theorem br_nb {M : List ETk} : nb (sg [123] :: M) ≠ [40] ∧ nb (sg [123] :: M) ≠ [91] ∧ rankOf (nb (sg [123] :: M)) < 1 := by
  refine ⟨?_, ?_, ?_⟩
  · show ([123] : List UInt8) ≠ [40]; decide
  · show ([123] : List UInt8) ≠ [91]; decide
  · show rankOf [123] < 1; decide
theorem eq_nb {M : List ETk} : nb (sg [61] :: M) ≠ [40] ∧ nb (sg [61] :: M) ≠ [91] ∧ rankOf (nb (sg [61] :: M)) < 1 := by
  refine ⟨?_, ?_, ?_⟩
  · show ([61] : List UInt8) ≠ [40]; decide
  · show ([61] : List UInt8) ≠ [91]; decide
  · show rankOf [61] < 1; decide
theorem dEs1 (x : Ex) : dE x ≤ dEs [x] := by simp [dEs]; omega
theorem dEs2 (x y : Ex) : dE x ≤ dEs [x, y] ∧ dE y ≤ dEs [x, y] := by simp [dEs]; omega
theorem sameEs1 {x x' : Ex} (h : sameE x x' = true) : sameEs [x] [x'] = true := by simp [sameEs, h]
theorem sameEs2 {x x' y y' : Ex} (h : sameE x x' = true) (k : sameE y y' = true) : sameEs [x, y] [x', y'] = true := by simp [sameEs, h, k]
/-- A name, and what is called or indexed of it, at a statement's beginning. -/
theorem rd_target (q : Ex) (hq : WFE q) (hn : NmE q) (hn3 : exK q ≠ 3) (z : PS) (M : List ETk) (k : Nat) (D : Int) (hz : Rs z D) (hD : D ≤ 256) (hd : D + dE q ≤ 256) (hm : z.left.map er = tkE q ++ M) (h40 : nb M ≠ [40]) (h91 : nb M ≠ [91]) (hk : 10 * (tkE q).length + 4 ≤ k) :
    ∃ b m L0, NameOk b ∧ z.left.map er = nmt b :: (m ++ M) ∧ z.next = z.to L0 ∧ (∃ c, (z.to L0).now.bytes = c ∧ c ≠ [61] ∧ (c = [40] ∨ c = [91])) ∧ ∃ f s1 q' L, calledK k z.now (z.to L0) = some (f, s1) ∧ indexK k f s1 = some ((q', dE q), z.to L) ∧ L.map er = M ∧ sameE q q' = true := by
  obtain ⟨b, m, h1, h2, h3⟩ := nm_first q hq hn
  have hm' : z.left.map er = nmt b :: (m ++ M) := by rw [hm, h1]; simp
  obtain ⟨f1, f3, L0, f4, f5⟩ := front_nm hm'
  have hp := dE_pos q
  obtain ⟨f, s1, g1, q', L, g2, g3, g4⟩ := rdA_all q hq z M (k + 1) hm h40 (hz.rm hd hD (by omega)) (by omega)
  rw [firstK, isB_no (by rw [f3]; exact name_nk h2)] at g1
  simp only [Bool.false_eq_true, if_false] at g1
  rw [if_neg (by rw [f1]; decide), if_pos f1, f4] at g1
  have hmi := mI_le q hq
  have g5 := g4 k (by omega)
  obtain ⟨i, hi⟩ : ∃ i, k - mI q = i + 1 := ⟨k - mI q - 1, by omega⟩
  have hL : (z.to L).now.bytes = nb M := nb_now (s := z.to L) g2
  rw [hi, indexK, isB_no (by rw [hL]; exact h91)] at g5
  simp only [Bool.false_eq_true, if_false] at g5
  refine ⟨b, m, L0, h2, hm', f4, ?_, f, s1, q', L, g1, g5, g2, g3⟩
  rcases h3 with ⟨e, _⟩ | ⟨m', rfl | rfl⟩
  · exact absurd e hn3
  · obtain ⟨_, e, -⟩ := front_sg (s := z.to L0) (x := [40]) (M := m' ++ M) f5
    exact ⟨[40], e, by decide, Or.inl rfl⟩
  · obtain ⟨_, e, -⟩ := front_sg (s := z.to L0) (x := [91]) (M := m' ++ M) f5
    exact ⟨[91], e, by decide, Or.inr rfl⟩
theorem sameE_k {e e' : Ex} (h : sameE e e' = true) : exK e' = exK e := by
  cases e with
  | mk k a t o n s l =>
    cases e' with
    | mk k' a' t' o' n' s' l' =>
      unfold sameE at h
      simp only [Bool.and_eq_true, beq_iff_eq] at h
      exact h.1.1.1.1.symm
theorem rd_st (k a n : Int) (s : ByteArray) (p : Int) (kids : List Ex) (body els : List St) (hb : RdSts body) (he : RdSts els) : RdSt (.mk k a n s p kids body els) := st_of (fun D z M j at_ hw hz hD hm hnb hj => by
  unfold WFS at hw
  obtain ⟨-, rfl, hsh, hk, hdk, hwb, hwe⟩ := hw
  unfold shS at hsh
  rcases hsh with ⟨rfl, hn, rfl, hl, rfl, rfl⟩ | ⟨rfl, hn, rfl, hl, rfl, rfl⟩ | ⟨rfl, rfl, rfl, rfl, rfl, q, y, rfl, hq, hq9⟩ | ⟨rfl, rfl, rfl, hl⟩ | ⟨rfl, rfl, rfl, hl, rfl⟩ | ⟨rfl, hn, hp, hp0, hl, rfl⟩ | ⟨hk78, rfl, rfl, rfl, rfl, rfl⟩ | ⟨rfl, rfl, rfl, hl, rfl, rfl⟩ | ⟨rfl, rfl, rfl, hl, rfl, rfl⟩ | ⟨rfl, rfl, rfl, rfl, rfl, q, rfl, hq, hq8⟩
  -- var
  · obtain ⟨x, rfl⟩ := List.length_eq_one_iff.mp hl
    have hx : WFE x := by unfold WFEs at hk; exact hk.1
    have ht : tkS (.mk 1 a 0 s 0 [x] [] []) = kw [118, 97, 114] :: nmt s.data.toList :: sg [61] :: (tkE x ++ [sg [59]]) := by simp [tkS, tkP]
    rw [ht] at hm hj
    have hm' : z.left.map er = kw [118, 97, 114] :: (nmt s.data.toList :: (sg [61] :: (tkE x ++ (sg [59] :: M)))) := by rw [hm]; simp
    simp only [List.length_cons, List.length_append, List.length_nil] at hj
    obtain ⟨j, rfl⟩ : ∃ i, j = i + 1 := ⟨j - 1, by omega⟩
    obtain ⟨f1, f3, L1, f4, f5⟩ := front_kw hm'
    obtain ⟨g1, g3, L2, g4, g5⟩ := front_nm (s := z.to L1) f5
    obtain ⟨i1, i3, L3, i4, i5⟩ := front_sg (s := z.to L2) g5
    have hd1 := dEs1 x
    obtain ⟨x', L4, e1, e2, e3⟩ := ex_read (z := z.to L3) (M := sg [59] :: M) (k := j) hx (hz.to L3) hD (by omega) i5 sc_nb.1 sc_nb.2.1 sc_nb.2.2 (by omega)
    obtain ⟨u1, u3, L5, u4, u5⟩ := front_sg (s := z.to L4) e1
    refine ⟨.mk 1 at_ 0 (strB s.data.toList) 0 [x'] [] [], L5, u5, sameS_mk (by rw [strB_list]) (sameEs1 e2) rfl rfl, ?_⟩
    rw [kw_in hm' (by decide) (by decide) (by decide), simpleK]
    rw [if_neg (by rw [f1]; decide), if_pos (by rw [f3]; decide), f4, nameP_yes g1, g4]
    rw [show (z.to L1).to L2 = z.to L2 from rfl, need_yes i3, i4, show (z.to L2).to L3 = z.to L3 from rfl, e3, g3]
    simp only [Option.map_some]
    rw [show (z.to L3).to L4 = z.to L4 from rfl, need_yes u3, u4]
    rfl
  -- =
  · obtain ⟨x, rfl⟩ := List.length_eq_one_iff.mp hl
    have hx : WFE x := by unfold WFEs at hk; exact hk.1
    have ht : tkS (.mk 2 a 0 s 0 [x] [] []) = nmt s.data.toList :: sg [61] :: (tkE x ++ [sg [59]]) := by simp [tkS, tkP]
    rw [ht] at hm hj
    have hm' : z.left.map er = nmt s.data.toList :: (sg [61] :: (tkE x ++ (sg [59] :: M))) := by rw [hm]; simp
    simp only [List.length_cons, List.length_append, List.length_nil] at hj
    obtain ⟨j, rfl⟩ : ∃ i, j = i + 2 := ⟨j - 2, by omega⟩
    obtain ⟨g1, g3, L2, g4, g5⟩ := front_nm hm'
    obtain ⟨i1, i3, L3, i4, i5⟩ := front_sg (s := z.to L2) g5
    have hd1 := dEs1 x
    obtain ⟨x', L4, e1, e2, e3⟩ := ex_read (z := z.to L3) (M := sg [59] :: M) (k := j) hx (hz.to L3) hD (by omega) i5 sc_nb.1 sc_nb.2.1 sc_nb.2.2 (by omega)
    obtain ⟨u1, u3, L5, u4, u5⟩ := front_sg (s := z.to L4) e1
    refine ⟨.mk 2 at_ 0 (strB s.data.toList) 0 [x'] [] [], L5, u5, sameS_mk (by rw [strB_list]) (sameEs1 e2) rfl rfl, ?_⟩
    rw [named_in hn hm' g4, namedK, isB_yes i3]
    simp only [if_true]
    rw [i4, show (z.to L2).to L3 = z.to L3 from rfl, e3, g3]
    simp only [Option.map_some]
    rw [show (z.to L3).to L4 = z.to L4 from rfl, need_yes u3, u4]
    rfl
  -- what is indexed is set
  · have hx : WFE q ∧ WFE y := by simp only [WFEs, and_true] at hk; exact hk
    have ht : tkS (.mk 3 a 0 ⟨#[]⟩ 0 [q, y] [] []) = tkE q ++ (sg [61] :: (tkE y ++ [sg [59]])) := by simp [tkS, tkP]
    rw [ht] at hm hj
    have hm' : z.left.map er = tkE q ++ (sg [61] :: (tkE y ++ (sg [59] :: M))) := by rw [hm]; simp
    simp only [List.length_cons, List.length_append, List.length_nil] at hj
    obtain ⟨j, rfl⟩ : ∃ i, j = i + 2 := ⟨j - 2, by omega⟩
    have hd2 := dEs2 q y
    have hyp := tkE_pos y hx.2
    obtain ⟨b, m, L0, c1, c2, c3, ⟨c, d1, d2, d3⟩, f, s1, q', L, r1, r2, r3, r4⟩ := rd_target q hx.1 hq (by rw [hq9]; decide) z _ j D hz hD (by omega) hm' eq_nb.1 eq_nb.2.1 (by omega)
    obtain ⟨i1, i3, L3, i4, i5⟩ := front_sg (s := z.to L) r3
    obtain ⟨y', L4, e1, e2, e3⟩ := ex_read (z := z.to L3) (M := sg [59] :: M) (k := j) hx.2 (hz.to L3) hD (by omega) i5 sc_nb.1 sc_nb.2.1 sc_nb.2.2 (by omega)
    obtain ⟨u1, u3, L5, u4, u5⟩ := front_sg (s := z.to L4) e1
    refine ⟨.mk 3 at_ 0 ⟨#[]⟩ 0 [q', y'] [] [], L5, u5, sameS_mk rfl (sameEs2 r4 e2) rfl rfl, ?_⟩
    have hq8 : ¬ exK q' = 8 := by rw [sameE_k r4, hq9]; decide
    rw [named_in c1 c2 c3, namedK, isB_no (by rw [d1]; exact d2)]
    simp only [Bool.false_eq_true, if_false]
    rw [if_pos (by
      rcases d3 with d3 | d3
      · exact Or.inl (isB_yes (by rw [d1, d3]))
      · exact Or.inr (isB_yes (by rw [d1, d3]))), r1]
    simp only
    rw [r2]
    simp only
    rw [if_neg hq8, need_yes i3, i4, show (z.to L).to L3 = z.to L3 from rfl, e3]
    simp only [Option.map_some]
    rw [show (z.to L3).to L4 = z.to L4 from rfl, need_yes u3, u4]
    rfl
  -- if
  · obtain ⟨x, rfl⟩ := List.length_eq_one_iff.mp hl
    have hx : WFE x := by unfold WFEs at hk; exact hk.1
    have hxp := tkE_pos x hx
    have hd1 := dEs1 x
    by_cases hel : els.isEmpty = true
    · have ht : tkS (.mk 4 a 0 ⟨#[]⟩ 0 [x] body els) = kw [105, 102] :: (tkE x ++ (sg [123] :: (tkSs body ++ [sg [125]]))) := by simp [tkS, tkP, hel]
      rw [ht] at hm hj
      have hm' : z.left.map er = kw [105, 102] :: (tkE x ++ (sg [123] :: (tkSs body ++ (sg [125] :: M)))) := by rw [hm]; simp
      simp only [List.length_cons, List.length_append, List.length_nil] at hj
      obtain ⟨j, rfl⟩ : ∃ i, j = i + 1 := ⟨j - 1, by omega⟩
      obtain ⟨f1, f3, L1, f4, f5⟩ := front_kw hm'
      obtain ⟨x', L2, e1, e2, e3⟩ := ex_read (z := z.to L1) (k := j) hx (hz.to L1) hD (by omega) f5 br_nb.1 br_nb.2.1 br_nb.2.2 (by omega)
      obtain ⟨b', L3, g1, g2, g3⟩ := rd_block body hb D (z.to L2) M j hwb (hz.to L2) hD e1 (by omega)
      refine ⟨.mk 4 at_ 0 ⟨#[]⟩ 0 [x'] b' [], L3, g1, sameS_mk rfl (sameEs1 e2) g2 (by rw [List.isEmpty_iff.mp hel]; rfl), ?_⟩
      unfold inSt
      rw [isB_yes f3]
      simp only [if_true]
      rw [choiceK, need_yes f3, f4, e3]
      simp only
      rw [show (z.to L1).to L2 = z.to L2 from rfl, g3]
      simp only
      have hL3 : (z.to L3).now.bytes = nb M := nb_now (s := z.to L3) g1
      rw [show (z.to L2).to L3 = z.to L3 from rfl, isB_no (by rw [hL3]; exact hnb)]
      rfl
    · have ht : tkS (.mk 4 a 0 ⟨#[]⟩ 0 [x] body els) = kw [105, 102] :: (tkE x ++ (sg [123] :: (tkSs body ++ (sg [125] :: kw [101, 108, 115, 101] :: sg [123] :: (tkSs els ++ [sg [125]]))))) := by simp [tkS, tkP, hel]
      rw [ht] at hm hj
      have hm' : z.left.map er = kw [105, 102] :: (tkE x ++ (sg [123] :: (tkSs body ++ (sg [125] :: (kw [101, 108, 115, 101] :: (sg [123] :: (tkSs els ++ (sg [125] :: M)))))))) := by rw [hm]; simp
      simp only [List.length_cons, List.length_append, List.length_nil] at hj
      obtain ⟨j, rfl⟩ : ∃ i, j = i + 2 := ⟨j - 2, by omega⟩
      obtain ⟨f1, f3, L1, f4, f5⟩ := front_kw hm'
      obtain ⟨x', L2, e1, e2, e3⟩ := ex_read (z := z.to L1) (k := j + 1) hx (hz.to L1) hD (by omega) f5 br_nb.1 br_nb.2.1 br_nb.2.2 (by omega)
      obtain ⟨b', L3, g1, g2, g3⟩ := rd_block body hb D (z.to L2) _ (j + 1) hwb (hz.to L2) hD e1 (by omega)
      obtain ⟨u1, u3, L4, u4, u5⟩ := front_kw (s := z.to L3) g1
      obtain ⟨c', L5, v1, v2, v3⟩ := rd_block els he D (z.to L4) M j hwe (hz.to L4) hD u5 (by omega)
      refine ⟨.mk 4 at_ 0 ⟨#[]⟩ 0 [x'] b' c', L5, v1, sameS_mk rfl (sameEs1 e2) g2 v2, ?_⟩
      obtain ⟨w1, w3, -⟩ := front_sg (s := z.to L4) u5
      unfold inSt
      rw [isB_yes f3]
      simp only [if_true]
      rw [choiceK, need_yes f3, f4, e3]
      simp only
      rw [show (z.to L1).to L2 = z.to L2 from rfl, g3]
      simp only
      rw [show (z.to L2).to L3 = z.to L3 from rfl, isB_yes u3]
      simp only [if_true]
      rw [u4, show (z.to L3).to L4 = z.to L4 from rfl, elseK, isB_no (by rw [w3]; decide)]
      simp only [Bool.false_eq_true, if_false]
      rw [v3]
      rfl
  -- while
  · obtain ⟨x, rfl⟩ := List.length_eq_one_iff.mp hl
    have hx : WFE x := by unfold WFEs at hk; exact hk.1
    have hxp := tkE_pos x hx
    have hd1 := dEs1 x
    have ht : tkS (.mk 5 a 0 ⟨#[]⟩ 0 [x] body []) = kw [119, 104, 105, 108, 101] :: (tkE x ++ (sg [123] :: (tkSs body ++ [sg [125]]))) := by simp [tkS, tkP]
    rw [ht] at hm hj
    have hm' : z.left.map er = kw [119, 104, 105, 108, 101] :: (tkE x ++ (sg [123] :: (tkSs body ++ (sg [125] :: M)))) := by rw [hm]; simp
    simp only [List.length_cons, List.length_append, List.length_nil] at hj
    obtain ⟨j, rfl⟩ : ∃ i, j = i + 1 := ⟨j - 1, by omega⟩
    obtain ⟨f1, f3, L1, f4, f5⟩ := front_kw hm'
    obtain ⟨x', L2, e1, e2, e3⟩ := ex_read (z := z.to L1) (k := j) hx (hz.to L1) hD (by omega) f5 br_nb.1 br_nb.2.1 br_nb.2.2 (by omega)
    obtain ⟨b', L3, g1, g2, g3⟩ := rd_block body hb D (z.to L2) M j hwb (hz.to L2) hD e1 (by omega)
    refine ⟨.mk 5 at_ 0 ⟨#[]⟩ 0 [x'] b' [], L3, g1, sameS_mk rfl (sameEs1 e2) g2 rfl, ?_⟩
    unfold inSt
    rw [isB_no (by rw [f3]; decide), isB_yes f3]
    simp only [Bool.false_eq_true, if_false, if_true]
    rw [whileK, need_yes f3, f4, e3]
    simp only
    rw [show (z.to L1).to L2 = z.to L2 from rfl, g3]
    rfl
  -- for
  · obtain ⟨x, y, rfl⟩ := len_two hl
    have hx : WFE x ∧ WFE y := by simp only [WFEs, and_true] at hk; exact hk
    have hxp := tkE_pos x hx.1
    have hyp := tkE_pos y hx.2
    have hd2 := dEs2 x y
    have ht : tkS (.mk 6 a 0 s p [x, y] body []) = kw [102, 111, 114] :: nmt s.data.toList :: sg [61] :: (tkE x ++ (kw [116, 111] :: (tkE y ++ (stepT p ++ (sg [123] :: (tkSs body ++ [sg [125]])))))) := by simp [tkS, tkP]
    rw [ht] at hm hj
    have hm' : z.left.map er = kw [102, 111, 114] :: (nmt s.data.toList :: (sg [61] :: (tkE x ++ (kw [116, 111] :: (tkE y ++ (stepT p ++ (sg [123] :: (tkSs body ++ (sg [125] :: M))))))))) := by rw [hm]; simp
    simp only [List.length_cons, List.length_append, List.length_nil] at hj
    obtain ⟨j, rfl⟩ : ∃ i, j = i + 1 := ⟨j - 1, by omega⟩
    obtain ⟨f1, f3, L1, f4, f5⟩ := front_kw hm'
    obtain ⟨g1, g3, L2, g4, g5⟩ := front_nm (s := z.to L1) f5
    obtain ⟨i1, i3, L3, i4, i5⟩ := front_sg (s := z.to L2) g5
    obtain ⟨x', L4, e1, e2, e3⟩ := ex_read (z := z.to L3) (k := j) hx.1 (hz.to L3) hD (by omega) i5 (by show ([116, 111] : List UInt8) ≠ [40]; decide) (by show ([116, 111] : List UInt8) ≠ [91]; decide) (by show rankOf [116, 111] < 1; decide) (by omega)
    obtain ⟨u1, u3, L5, u4, u5⟩ := front_kw (s := z.to L4) e1
    have hstn : nb (stepT p ++ (sg [123] :: (tkSs body ++ (sg [125] :: M)))) = [123] ∨ nb (stepT p ++ (sg [123] :: (tkSs body ++ (sg [125] :: M)))) = [115, 116, 101, 112] := by
      unfold stepT
      split
      · exact Or.inl rfl
      · split
        · exact Or.inr rfl
        · exact Or.inr rfl
    obtain ⟨y', L6, v1, v2, v3⟩ := ex_read (z := z.to L5) (k := j) hx.2 (hz.to L5) hD (by omega) u5 (by rcases hstn with e | e <;> rw [e] <;> decide) (by rcases hstn with e | e <;> rw [e] <;> decide) (by rcases hstn with e | e <;> rw [e] <;> decide) (by omega)
    obtain ⟨L7, w1, w2⟩ := rd_step p hp hp0 (z.to L6) _ v1 rfl
    obtain ⟨b', L8, o1, o2, o3⟩ := rd_block body hb D (z.to L7) M j hwb (hz.to L7) hD w1 (by omega)
    refine ⟨.mk 6 at_ 0 (strB s.data.toList) p [x', y'] b' [], L8, o1, sameS_mk (by rw [strB_list]) (sameEs2 e2 v2) o2 rfl, ?_⟩
    unfold inSt
    rw [isB_no (by rw [f3]; decide), isB_no (by rw [f3]; decide), isB_yes f3]
    simp only [Bool.false_eq_true, if_false, if_true]
    rw [countK]
    rw [need_yes f3, f4, nameP_yes g1, g4, show (z.to L1).to L2 = z.to L2 from rfl, need_yes i3, i4, show (z.to L2).to L3 = z.to L3 from rfl, e3]
    simp only
    rw [show (z.to L3).to L4 = z.to L4 from rfl, need_yes u3, u4, show (z.to L4).to L5 = z.to L5 from rfl, v3]
    simp only
    rw [show (z.to L5).to L6 = z.to L6 from rfl, w2]
    simp only
    rw [show (z.to L6).to L7 = z.to L7 from rfl, o3, g3]
    rfl
  -- break, continue
  · rcases hk78 with rfl | rfl
    · have ht : tkS (.mk 7 a 0 ⟨#[]⟩ 0 [] [] []) = [kw [98, 114, 101, 97, 107], sg [59]] := by simp [tkS]
      rw [ht] at hm hj
      have hm' : z.left.map er = kw [98, 114, 101, 97, 107] :: (sg [59] :: M) := hm
      simp only [List.length_cons, List.length_nil] at hj
      obtain ⟨j, rfl⟩ : ∃ i, j = i + 1 := ⟨j - 1, by omega⟩
      obtain ⟨f1, f3, L1, f4, f5⟩ := front_kw hm'
      obtain ⟨u1, u3, L5, u4, u5⟩ := front_sg (s := z.to L1) f5
      refine ⟨.mk 7 at_ 0 ⟨#[]⟩ 0 [] [] [], L5, u5, sameS_mk rfl rfl rfl rfl, ?_⟩
      rw [kw_in hm' (by decide) (by decide) (by decide), simpleK]
      rw [if_neg (by rw [f1]; decide), if_neg (by rw [f3]; decide), if_pos (by rw [f3]; decide), f4]
      simp only [Option.map_some]
      rw [need_yes u3, u4]
      rfl
    · have ht : tkS (.mk 8 a 0 ⟨#[]⟩ 0 [] [] []) = [kw [99, 111, 110, 116, 105, 110, 117, 101], sg [59]] := by simp [tkS]
      rw [ht] at hm hj
      have hm' : z.left.map er = kw [99, 111, 110, 116, 105, 110, 117, 101] :: (sg [59] :: M) := hm
      simp only [List.length_cons, List.length_nil] at hj
      obtain ⟨j, rfl⟩ : ∃ i, j = i + 1 := ⟨j - 1, by omega⟩
      obtain ⟨f1, f3, L1, f4, f5⟩ := front_kw hm'
      obtain ⟨u1, u3, L5, u4, u5⟩ := front_sg (s := z.to L1) f5
      refine ⟨.mk 8 at_ 0 ⟨#[]⟩ 0 [] [] [], L5, u5, sameS_mk rfl rfl rfl rfl, ?_⟩
      rw [kw_in hm' (by decide) (by decide) (by decide), simpleK]
      rw [if_neg (by rw [f1]; decide), if_neg (by rw [f3]; decide), if_neg (by rw [f3]; decide), if_pos (by rw [f3]; decide), f4]
      simp only [Option.map_some]
      rw [need_yes u3, u4]
      rfl
  -- return
  · rcases hl with rfl | hl
    · have ht : tkS (.mk 9 a 0 ⟨#[]⟩ 0 [] [] []) = [kw [114, 101, 116, 117, 114, 110], sg [59]] := by simp [tkS]
      rw [ht] at hm hj
      have hm' : z.left.map er = kw [114, 101, 116, 117, 114, 110] :: (sg [59] :: M) := hm
      simp only [List.length_cons, List.length_nil] at hj
      obtain ⟨j, rfl⟩ : ∃ i, j = i + 1 := ⟨j - 1, by omega⟩
      obtain ⟨f1, f3, L1, f4, f5⟩ := front_kw hm'
      obtain ⟨u1, u3, L5, u4, u5⟩ := front_sg (s := z.to L1) f5
      refine ⟨.mk 9 at_ 0 ⟨#[]⟩ 0 [] [] [], L5, u5, sameS_mk rfl rfl rfl rfl, ?_⟩
      rw [kw_in hm' (by decide) (by decide) (by decide), simpleK]
      rw [if_neg (by rw [f1]; decide), if_neg (by rw [f3]; decide), if_neg (by rw [f3]; decide), if_neg (by rw [f3]; decide), if_pos (by rw [f3]; decide), f4, isB_yes u3]
      simp only [Option.map_some, if_true]
      rw [need_yes u3, u4]
      rfl
    · obtain ⟨x, rfl⟩ := List.length_eq_one_iff.mp hl
      have hx : WFE x := by unfold WFEs at hk; exact hk.1
      have hd1 := dEs1 x
      have ht : tkS (.mk 9 a 0 ⟨#[]⟩ 0 [x] [] []) = kw [114, 101, 116, 117, 114, 110] :: (tkE x ++ [sg [59]]) := by simp [tkS, tkP]
      rw [ht] at hm hj
      have hm' : z.left.map er = kw [114, 101, 116, 117, 114, 110] :: (tkE x ++ (sg [59] :: M)) := by rw [hm]; simp
      simp only [List.length_cons, List.length_append, List.length_nil] at hj
      obtain ⟨j, rfl⟩ : ∃ i, j = i + 1 := ⟨j - 1, by omega⟩
      obtain ⟨f1, f3, L1, f4, f5⟩ := front_kw hm'
      obtain ⟨x', L4, e1, e2, e3⟩ := ex_read (z := z.to L1) (M := sg [59] :: M) (k := j) hx (hz.to L1) hD (by omega) f5 sc_nb.1 sc_nb.2.1 sc_nb.2.2 (by omega)
      obtain ⟨u1, u3, L5, u4, u5⟩ := front_sg (s := z.to L4) e1
      obtain ⟨ea, em, b1, b2, b3⟩ := bg_all x hx
      have hn59 : (z.to L1).now.bytes ≠ [59] := by
        have hL1 : (z.to L1).now.bytes = nb (tkE x ++ (sg [59] :: M)) := nb_now (s := z.to L1) f5
        rw [hL1, b1]
        exact bg_ne b2 59 (by decide) (by decide)
      refine ⟨.mk 9 at_ 0 ⟨#[]⟩ 0 [x'] [] [], L5, u5, sameS_mk rfl (sameEs1 e2) rfl rfl, ?_⟩
      rw [kw_in hm' (by decide) (by decide) (by decide), simpleK]
      rw [if_neg (by rw [f1]; decide), if_neg (by rw [f3]; decide), if_neg (by rw [f3]; decide), if_neg (by rw [f3]; decide), if_pos (by rw [f3]; decide), f4, isB_no hn59]
      simp only [Bool.false_eq_true, if_false]
      rw [e3]
      simp only [Option.map_some]
      rw [show (z.to L1).to L4 = z.to L4 from rfl, need_yes u3, u4]
      rfl
  -- print
  · obtain ⟨x, rfl⟩ := List.length_eq_one_iff.mp hl
    have hx : WFE x := by unfold WFEs at hk; exact hk.1
    have hd1 := dEs1 x
    have ht : tkS (.mk 10 a 0 ⟨#[]⟩ 0 [x] [] []) = kw [112, 114, 105, 110, 116] :: (tkE x ++ [sg [59]]) := by simp [tkS, tkP]
    rw [ht] at hm hj
    have hm' : z.left.map er = kw [112, 114, 105, 110, 116] :: (tkE x ++ (sg [59] :: M)) := by rw [hm]; simp
    simp only [List.length_cons, List.length_append, List.length_nil] at hj
    obtain ⟨j, rfl⟩ : ∃ i, j = i + 1 := ⟨j - 1, by omega⟩
    obtain ⟨f1, f3, L1, f4, f5⟩ := front_kw hm'
    obtain ⟨x', L4, e1, e2, e3⟩ := ex_read (z := z.to L1) (M := sg [59] :: M) (k := j) hx (hz.to L1) hD (by omega) f5 sc_nb.1 sc_nb.2.1 sc_nb.2.2 (by omega)
    obtain ⟨u1, u3, L5, u4, u5⟩ := front_sg (s := z.to L4) e1
    refine ⟨.mk 10 at_ 0 ⟨#[]⟩ 0 [x'] [] [], L5, u5, sameS_mk rfl (sameEs1 e2) rfl rfl, ?_⟩
    rw [kw_in hm' (by decide) (by decide) (by decide), simpleK]
    rw [if_neg (by rw [f1]; decide), if_neg (by rw [f3]; decide), if_neg (by rw [f3]; decide), if_neg (by rw [f3]; decide), if_neg (by rw [f3]; decide), if_pos (by rw [f3]; decide), f4, e3]
    simp only [Option.map_some]
    rw [show (z.to L1).to L4 = z.to L4 from rfl, need_yes u3, u4]
    rfl
  -- a call
  · have hx : WFE q := by unfold WFEs at hk; exact hk.1
    have hd1 := dEs1 q
    have ht : tkS (.mk 11 a 0 ⟨#[]⟩ 0 [q] [] []) = tkE q ++ [sg [59]] := by simp [tkS, tkP]
    rw [ht] at hm hj
    have hm' : z.left.map er = tkE q ++ (sg [59] :: M) := by rw [hm]; simp
    simp only [List.length_cons, List.length_append, List.length_nil] at hj
    obtain ⟨j, rfl⟩ : ∃ i, j = i + 2 := ⟨j - 2, by omega⟩
    obtain ⟨b, m, L0, c1, c2, c3, ⟨c, d1, d2, d3⟩, f, s1, q', L, r1, r2, r3, r4⟩ := rd_target q hx hq (by rw [hq8]; decide) z _ j D hz hD (by omega) hm' sc_nb.1 sc_nb.2.1 (by omega)
    obtain ⟨u1, u3, L5, u4, u5⟩ := front_sg (s := z.to L) r3
    refine ⟨.mk 11 at_ 0 ⟨#[]⟩ 0 [q'] [] [], L5, u5, sameS_mk rfl (sameEs1 r4) rfl rfl, ?_⟩
    have hq8' : exK q' = 8 := by rw [sameE_k r4, hq8]
    rw [named_in c1 c2 c3, namedK, isB_no (by rw [d1]; exact d2)]
    simp only [Bool.false_eq_true, if_false]
    rw [if_pos (by
      rcases d3 with d3 | d3
      · exact Or.inl (isB_yes (by rw [d1, d3]))
      · exact Or.inr (isB_yes (by rw [d1, d3]))), r1]
    simp only
    rw [r2]
    simp only
    rw [if_pos hq8']
    simp only [Option.map_some]
    rw [need_yes u3, u4]
    rfl)
mutual
theorem rdSt_all : ∀ x : St, RdSt x
  | .mk k a n s p kids body els => rd_st k a n s p kids body els (rdSts_all body) (rdSts_all els)
theorem rdSts_all : ∀ l : List St, RdSts l
  | [] => rd_sts_nil
  | x :: r => rd_sts_cons x r (rdSt_all x) (rdSts_all r)
end
end Go.Proofs.YtiadbeglhnocoaaGreatDoor
