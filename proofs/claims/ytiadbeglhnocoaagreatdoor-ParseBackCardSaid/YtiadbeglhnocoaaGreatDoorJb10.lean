/-
  What the parser's readers of expressions come to, where there is no fault: well-formed trees, no deeper than may be, whose texts are not much longer than what was read.
  What the parser's readers of expressions come to.
-/
import Derived.Test.YtiadbeglhnocoaaGreatDoorJb8
import Derived.Test.YtiadbeglhnocoaaGreatDoorJb9
namespace Go.Proofs.YtiadbeglhnocoaaGreatDoor
set_option linter.unusedVariables false
set_option linter.unusedSimpArgs false
open Go.RowKit

/-- A name that is not kept. -/
def NameOk (b : List UInt8) : Prop := ∃ c r, b = c :: r ∧ letterB c.toNat = true ∧ (∀ x ∈ b, nameB x.toNat = true) ∧ keptB b = false
def InI (n : Int) : Prop := -9223372036854775808 ≤ n ∧ n < 9223372036854775808
structure TkOk (t : Tk) : Prop where
  name : t.kind = 1 → NameOk t.bytes
  num : t.kind = 2 → InI t.num
  none : t.kind = 0 → t.bytes = []
  some : t.kind ≠ 0 → 1 ≤ t.bytes.length
def TkS (s : PS) : Prop := ∀ t ∈ s.left, TkOk t
theorem TkS.sub {s s' : PS} (h : TkS s) (k : Sub s s') : TkS s' := fun t ht => h t (k.mem ht)
theorem tkOk_none : TkOk Tk.none := ⟨fun h => by simp [Tk.none] at h, fun h => by simp [Tk.none] at h, fun _ => rfl, fun h => by simp [Tk.none] at h⟩
theorem TkS.now {s : PS} (h : TkS s) : TkOk s.now := by
  unfold PS.now
  cases hl : s.left with
  | nil => exact tkOk_none
  | cons t r => exact h t (by rw [hl]; simp)
/-- How many bytes are left. -/
def bL (l : List Tk) : Nat := (l.map fun t => t.bytes.length).sum
def PS.b (s : PS) : Nat := bL s.left
theorem bL_sub {l m : List Tk} (h : m <:+ l) : bL m ≤ bL l := by
  obtain ⟨x, rfl⟩ := h
  unfold bL
  rw [List.map_append, List.sum_append]
  omega
theorem Sub.b {s s' : PS} (h : Sub s s') : s'.b ≤ s.b := bL_sub h
theorem next_b {s : PS} (hw : TkS s) : s.next.b + s.now.bytes.length = s.b := by
  unfold PS.next
  split
  · rename_i h
    rw [hw.now.none h]
    rfl
  · rename_i h
    unfold PS.b PS.now at *
    cases hl : s.left with
    | nil => rw [hl] at h; exact absurd rfl h
    | cons t r => simp [bL]; omega
theorem next_fk (s : PS) : s.next.fk = s.fk := by unfold PS.next; split <;> rfl
theorem next_deep (s : PS) : s.next.deep = s.deep := by unfold PS.next; split <;> rfl
theorem fail_fk (s : PS) (k a : Int) (hk : k ≠ 0) : (s.fail k a).fk ≠ 0 := by
  unfold PS.fail
  dsimp only
  split
  · exact hk
  · assumption
theorem refuse_fk (s : PS) (t : Tk) : (s.refuse t).fk ≠ 0 := fail_fk s 2 _ (by decide)
/-- Without a fault the word was there. -/
theorem need1_ok {s : PS} {x : List UInt8} (h : (s.need1 x).fk = 0) : s.need1 x = s.next ∧ s.now.bytes = x ∧ s.fk = 0 := by
  unfold PS.need1 at h ⊢
  split at h
  · rename_i hb
    rw [if_pos hb]
    rw [next_fk] at h
    exact ⟨rfl, eq_of_beq hb, h⟩
  · exact absurd h (refuse_fk _ _)
theorem enter_ok {s : PS} (h : s.enter.fk = 0) : s.enter = { s with nest := s.nest + 1 } ∧ s.fk = 0 := by
  unfold PS.enter at h ⊢
  split at h
  · exact absurd h (fail_fk _ _ _ (by decide))
  · rename_i hn
    rw [if_neg hn]
    exact ⟨rfl, h⟩
theorem enter_b {s : PS} (h : s.enter.fk = 0) : s.enter.b = s.b ∧ s.enter.deep = s.deep := by rw [(enter_ok h).1]; exact ⟨rfl, rfl⟩
theorem leave_fk (s : PS) : s.leave.fk = s.fk := rfl
theorem leave_b (s : PS) : s.leave.b = s.b := rfl
theorem isB_b {s : PS} {x : List UInt8} (h : s.isB x = true) : s.now.bytes = x := eq_of_beq h

/-- How deep an expression is. -/
def maxI : List Int → Int
  | [] => 0
  | x :: r => max x (maxI r)
mutual
def dE : Ex → Int
  | .mk _ _ _ _ _ _ kids => dEs kids + 1
def dEs : List Ex → Int
  | [] => 0
  | e :: r => max (dE e) (dEs r)
end
def opsL : List Int := [4, 5, 6, 7, 8, 9, 10, 11, 12, 13, 14, 17, 18, 19, 20, 21, 22]
/-- What an expression of this kind has. -/
def shK (k o n : Int) (s : ByteArray) (m : Nat) : Prop :=
  (k = 1 ∧ o = 0 ∧ s = ⟨#[]⟩ ∧ m = 0 ∧ InI n) ∨ (k = 2 ∧ o = 0 ∧ s = ⟨#[]⟩ ∧ m = 0 ∧ (n = 0 ∨ n = 1)) ∨ (k = 3 ∧ o = 0 ∧ n = 0 ∧ m = 0 ∧ NameOk s.data.toList) ∨ (k = 4 ∧ (o = 15 ∨ o = 16 ∨ o = 24) ∧ n = 0 ∧ s = ⟨#[]⟩ ∧ m = 1) ∨ (k = 5 ∧ o ∈ opsL ∧ n = 0 ∧ s = ⟨#[]⟩ ∧ m = 2) ∨ ((k = 6 ∨ k = 7) ∧ o = 0 ∧ n = 0 ∧ s = ⟨#[]⟩ ∧ m = 2) ∨ (k = 8 ∧ o = 0 ∧ n = 0 ∧ NameOk s.data.toList) ∨ (k = 9 ∧ o = 0 ∧ n = 0 ∧ s = ⟨#[]⟩ ∧ (m = 2 ∨ m = 3)) ∨ (k = 10 ∧ o = 0 ∧ n = 0 ∧ s = ⟨#[]⟩ ∧ (m = 1 ∨ m = 2)) ∨ ((k = 11 ∨ k = 12 ∨ k = 13) ∧ o = 0 ∧ n = 0 ∧ s = ⟨#[]⟩ ∧ m = 1) ∨ (k = 14 ∧ o = 0 ∧ n = 0 ∧ s = ⟨#[]⟩ ∧ m = 0)
mutual
def WFE : Ex → Prop
  | .mk k _ _ o n s kids => shK k o n s kids.length ∧ WFEs kids
def WFEs : List Ex → Prop
  | [] => True
  | e :: r => WFE e ∧ WFEs r
end
theorem WFEs_mem {l : List Ex} : WFEs l ↔ ∀ e ∈ l, WFE e := by
  induction l with
  | nil => simp [WFEs]
  | cons x r ih => simp [WFEs, ih]
theorem deepest_d (l : List Part) (h : ∀ p ∈ l, p.2 = dE p.1) : deepest l = dEs (l.map Prod.fst) := by
  induction l with
  | nil => rfl
  | cons x r ih =>
    simp only [deepest, List.map_cons, dEs]
    rw [ih (fun p hp => h p (by simp [hp])), h x (by simp)]
/-- So much longer than what was read a text is at most. -/
def lenP (l : List Part) : Nat := (l.map fun p => (prE p.1).length + 2).sum
theorem jn_len (l : List (List UInt8)) : (jn l).length ≤ (l.map fun x => x.length + 2).sum := by
  induction l with
  | nil => simp [jn]
  | cons x r ih =>
    cases r with
    | nil => simp [jn]
    | cons y r => simp only [jn, List.length_append, List.map_cons, List.sum_cons, List.length_cons, List.length_nil] at ih ⊢; omega
theorem prEs_len (l : List Part) : (jn (prEs (l.map Prod.fst))).length ≤ lenP l := by
  have h := jn_len (prEs (l.map Prod.fst))
  rw [prEs_map] at h ⊢
  unfold lenP
  rw [List.map_map, List.map_map] at h
  rw [List.map_map]
  exact h
theorem lenP_app (l m : List Part) : lenP (l ++ m) = lenP l + lenP m := by simp [lenP]
/-- A good part of a state's words. -/
structure Gp (D : Int) (p : Part) : Prop where
  wf : WFE p.1
  d : p.2 = dE p.1
  deep : D + p.2 ≤ 256
structure ResE (D : Int) (b0 : Nat) (p : Part) (s2 : PS) : Prop where
  gp : Gp D p
  len : (prE p.1).length + 2 + 25 * s2.b ≤ 25 * b0
theorem dig_len (n : Int) : (digM n).length ≤ 20 := by
  unfold digM
  rw [Lib.decDigits_length]
  have h := u64M_lt n
  generalize u64M n = u at h
  by_cases h0 : u < 10
  · rw [Lib.nDigits_small h0]; omega
  · have : ∀ (f u : Nat), u < 10 ^ f → 1 ≤ f → Lib.nDigits u ≤ f := by
      intro f
      induction f with
      | zero => intro u _ h; omega
      | succ f ih =>
        intro u hu _
        by_cases h : u < 10
        · rw [Lib.nDigits_small h]; omega
        · rw [Lib.nDigits_big h]
          by_cases hf : f = 0
          · subst hf; omega
          · have := ih (u / 10) (by rw [Nat.pow_succ] at hu; omega) (by omega)
            omega
    exact this 20 u (by omega) (by omega)
theorem wfEs_parts (l : List Part) (h : ∀ p ∈ l, WFE p.1) : WFEs (l.map Prod.fst) := WFEs_mem.mpr (fun e he => by
  obtain ⟨p, hp, rfl⟩ := List.mem_map.mp he
  exact h p hp)
theorem deepest_lim (D : Int) (l : List Part) (hD : D ≤ 256) (h : ∀ p ∈ l, D + p.2 ≤ 256) : D + deepest l ≤ 256 := by
  have := deep_le l (256 - D) (by omega) (fun p hp => by have := h p hp; omega)
  omega
/-- A whole expression of good parts. -/
theorem whole_gp (s : PS) (k a o n : Int) (x : ByteArray) (l : List Part) (hsh : shK k o n x l.length) (hl : ∀ p ∈ l, Gp s.deep p) (h : (wholeP s k a o n x l).2.fk = 0) : s.fk = 0 ∧ Gp s.deep (wholeP s k a o n x l).1 ∧ (wholeP s k a o n x l).2 = s := by
  unfold wholeP at h ⊢
  dsimp only at h ⊢
  split at h
  · exact absurd h (fail_fk _ _ _ (by decide))
  · rename_i hd
    rw [if_neg hd]
    refine ⟨h, ⟨?_, ?_, by omega⟩, rfl⟩
    · unfold WFE
      exact ⟨by rw [List.length_map]; exact hsh, wfEs_parts l (fun p hp => (hl p hp).wf)⟩
    · show deepest l + 1 = dE _
      rw [dE, deepest_d l (fun p hp => (hl p hp).d)]
theorem whole_fk {s : PS} {k a o n : Int} {x : ByteArray} {l : List Part} (h : (wholeP s k a o n x l).2.fk = 0) : s.fk = 0 ∧ (wholeP s k a o n x l).2 = s := by
  unfold wholeP at h ⊢
  dsimp only at h ⊢
  split at h
  · exact absurd h (fail_fk _ _ _ (by decide))
  · rename_i hd
    rw [if_neg hd]
    exact ⟨h, rfl⟩
theorem counted_ok {lo hi : Nat} {s : PS} {k a o n : Int} {x : ByteArray} {l : List Part} (h : (countedP lo hi s k a o n x l).2.fk = 0) : lo ≤ l.length ∧ l.length ≤ hi ∧ countedP lo hi s k a o n x l = wholeP s k a o n x l := by
  unfold countedP at h ⊢
  split at h
  · exact absurd (whole_fk h).1 (fail_fk _ _ _ (by decide))
  · rename_i hc
    rw [if_neg hc]
    exact ⟨by omega, by omega, rfl⟩
end Go.Proofs.YtiadbeglhnocoaaGreatDoor
namespace Go.Proofs.YtiadbeglhnocoaaGreatDoor
set_option linter.unusedVariables false
set_option linter.unusedSimpArgs false
open Go.RowKit

theorem rank_ops (x : List UInt8) (h : rankOf x ≠ 0) : (x = [124, 124] ∧ kindOf (rankOf x) = 7 ∧ opOf x = 0) ∨ (x = [38, 38] ∧ kindOf (rankOf x) = 6 ∧ opOf x = 0) ∨ (kindOf (rankOf x) = 5 ∧ opOf x ∈ opsL ∧ sgnB (opOf x) = x ∧ 1 ≤ x.length ∧ x.length ≤ 3) := by
  by_cases h0 : x = [124, 124]
  · subst h0; decide
  by_cases h1 : x = [38, 38]
  · subst h1; decide
  by_cases h2 : x = [61, 61]
  · subst h2; decide
  by_cases h3 : x = [33, 61]
  · subst h3; decide
  by_cases h4 : x = [60]
  · subst h4; decide
  by_cases h5 : x = [60, 61]
  · subst h5; decide
  by_cases h6 : x = [62]
  · subst h6; decide
  by_cases h7 : x = [62, 61]
  · subst h7; decide
  by_cases h8 : x = [124]
  · subst h8; decide
  by_cases h9 : x = [94]
  · subst h9; decide
  by_cases h10 : x = [38]
  · subst h10; decide
  by_cases h11 : x = [60, 60]
  · subst h11; decide
  by_cases h12 : x = [62, 62]
  · subst h12; decide
  by_cases h13 : x = [62, 62, 62]
  · subst h13; decide
  by_cases h14 : x = [43]
  · subst h14; decide
  by_cases h15 : x = [45]
  · subst h15; decide
  by_cases h16 : x = [42]
  · subst h16; decide
  by_cases h17 : x = [47]
  · subst h17; decide
  by_cases h18 : x = [37]
  · subst h18; decide
  exact absurd (by simp [rankOf, h0, h1, h2, h3, h4, h5, h6, h7, h8, h9, h10, h11, h12, h13, h14, h15, h16, h17, h18]) h
theorem turn_ops (x : List UInt8) (h : turnOf x ≠ 0) : (turnOf x = 15 ∨ turnOf x = 16 ∨ turnOf x = 24) ∧ sgnB (turnOf x) = x ∧ x.length = 1 := by
  by_cases h1 : x = [45]
  · subst h1; decide
  by_cases h2 : x = [126]
  · subst h2; decide
  by_cases h3 : x = [33]
  · subst h3; decide
  exact absurd (by simp [turnOf, h1, h2, h3]) h
theorem whole_pr (s : PS) (k a o n : Int) (x : ByteArray) (l : List Part) : prE (wholeP s k a o n x l).1.1 = prK k o n x.data.toList (prEs (l.map Prod.fst)) := by
  unfold wholeP
  simp only [prE]
theorem em_list : (⟨#[]⟩ : ByteArray).data.toList = [] := rfl
/-- What the readers of expressions come to. -/
structure Out (k : Nat) : Prop where
  expr : ∀ s r, TkS s → exprK k s = some r → Sub s r.2 ∧ r.2.deep = s.deep ∧ (r.2.fk = 0 → s.fk = 0 ∧ ResE s.deep s.b r.1 r.2)
  betw : ∀ least s r, 1 ≤ least → TkS s → betwK k least s = some r → Sub s r.2 ∧ r.2.deep = s.deep ∧ (r.2.fk = 0 → s.fk = 0 ∧ ResE s.deep s.b r.1 r.2)
  loop : ∀ least (l : Part) s r, 1 ≤ least → TkS s → loopK k least l s = some r → Sub s r.2 ∧ r.2.deep = s.deep ∧ (r.2.fk = 0 → s.fk = 0 ∧ ∀ b0, ResE s.deep b0 l s → ResE s.deep b0 r.1 r.2)
  ahead : ∀ s r, TkS s → aheadK k s = some r → Sub s r.2 ∧ r.2.deep = s.deep ∧ (r.2.fk = 0 → s.fk = 0 ∧ ResE s.deep s.b r.1 r.2)
  index : ∀ (f : Part) s r, TkS s → indexK k f s = some r → Sub s r.2 ∧ r.2.deep = s.deep ∧ (r.2.fk = 0 → s.fk = 0 ∧ ∀ b0, ResE s.deep b0 f s → ResE s.deep b0 r.1 r.2)
  parts : ∀ o e s r, 1 ≤ o.length → 1 ≤ e.length → TkS s → partsK k o e s = some r → Sub s r.2 ∧ r.2.deep = s.deep ∧ (r.2.fk = 0 → s.fk = 0 ∧ (∀ p ∈ r.1, Gp s.deep p) ∧ lenP r.1 + 50 + 25 * r.2.b ≤ 25 * s.b)
  many : ∀ (l : List Part) s r, TkS s → manyK k l s = some r → Sub s r.2 ∧ r.2.deep = s.deep ∧ (r.2.fk = 0 → s.fk = 0 ∧ ∃ m, r.1 = l ++ m ∧ (∀ p ∈ m, Gp s.deep p) ∧ lenP m + 25 * r.2.b ≤ 25 * s.b)
  first : ∀ s r, TkS s → firstK k s = some r → Sub s r.2 ∧ r.2.deep = s.deep ∧ (r.2.fk = 0 → s.fk = 0 ∧ ResE s.deep s.b r.1 r.2)
  called : ∀ t s r, t.kind = 1 → TkOk t → TkS s → calledK k t s = some r → Sub s r.2 ∧ r.2.deep = s.deep ∧ (r.2.fk = 0 → s.fk = 0 ∧ ResE s.deep (s.b + t.bytes.length) r.1 r.2)
  kept : ∀ t s r, TkS s → keptK k t s = some r → Sub s r.2 ∧ r.2.deep = s.deep ∧ (r.2.fk = 0 → s.fk = 0 ∧ ResE s.deep (s.b + t.bytes.length) r.1 r.2)
theorem out_zero : Out 0 where
  expr := fun s r _ h => by simp [exprK] at h
  betw := fun _ s r _ _ h => by simp [betwK] at h
  loop := fun _ _ s r _ _ h => by simp [loopK] at h
  ahead := fun s r _ h => by simp [aheadK] at h
  index := fun _ s r _ h => by simp [indexK] at h
  parts := fun _ _ s r _ _ _ h => by simp [partsK] at h
  many := fun _ s r _ h => by simp [manyK] at h
  first := fun s r _ h => by simp [firstK] at h
  called := fun _ s r _ _ _ h => by simp [calledK] at h
  kept := fun _ s r _ h => by simp [keptK] at h
theorem whole_deep' (s : PS) (k a o n : Int) (x : ByteArray) (l : List Part) : (wholeP s k a o n x l).2.deep = s.deep := (even_whole s k a o n x l).2
theorem counted_deep' (lo hi : Nat) (s : PS) (k a o n : Int) (x : ByteArray) (l : List Part) : (countedP lo hi s k a o n x l).2.deep = s.deep := (even_counted lo hi s k a o n x l).2
theorem need1_deep (s : PS) (x : List UInt8) : (s.need1 x).deep = s.deep := (even_need1 s x).2
theorem enter_deep (s : PS) : s.enter.deep = s.deep := (enter_nest s).2
theorem leave_deep (s : PS) : s.leave.deep = s.deep := rfl
/-- A leaf. -/
theorem leaf_res (s : PS) (k a o n : Int) (x : ByteArray) (b0 : Nat) (hsh : shK k o n x 0) (hlen : (prK k o n x.data.toList []).length + 2 + 25 * s.b ≤ 25 * b0) (h : (wholeP s k a o n x []).2.fk = 0) : s.fk = 0 ∧ ResE s.deep b0 (wholeP s k a o n x []).1 (wholeP s k a o n x []).2 := by
  obtain ⟨h1, h2, h3⟩ := whole_gp s k a o n x [] hsh (fun p hp => by cases hp) h
  refine ⟨h1, h2, ?_⟩
  rw [h3, whole_pr]
  exact hlen
theorem out_succ (k : Nat) (ih : Out k) : Out (k + 1) where
  expr := fun s r hw h => by
    simp only [exprK] at h
    exact ih.betw 1 s r (by omega) hw h
  betw := fun least s r hl hw h => by
    simp only [betwK] at h
    cases ha : aheadK k s with
    | none => rw [ha] at h; cases h
    | some q =>
      rw [ha] at h
      obtain ⟨l, s1⟩ := q
      obtain ⟨h1, h2, h3⟩ := ih.ahead s _ hw ha
      simp only at h h1 h2 h3
      obtain ⟨h4, h5, h6⟩ := ih.loop least l s1 r hl (hw.sub h1) h
      refine ⟨h1.trans h4, h5.trans h2, fun h0 => ?_⟩
      obtain ⟨h7, h8⟩ := h6 h0
      obtain ⟨h9, h10⟩ := h3 h7
      rw [h2] at h8
      exact ⟨h9, h8 _ h10⟩
  loop := fun least l s r hl hw h => by
    simp only [loopK] at h
    split at h
    · obtain rfl := Option.some.inj h
      exact ⟨Sub.refl s, rfl, fun h0 => ⟨h0, fun b0 hb => hb⟩⟩
    · rename_i hrk
      have hr0 : rankOf s.now.bytes ≠ 0 := by omega
      cases hb : betwK k (rankOf s.now.bytes + 1) s.next with
      | none => rw [hb] at h; cases h
      | some q =>
        rw [hb] at h
        obtain ⟨rr, s2⟩ := q
        obtain ⟨h1, h2, h3⟩ := ih.betw _ s.next _ (by omega) (hw.sub (sub_next s)) hb
        simp only at h h1 h2 h3
        rw [next_deep] at h2 h3
        have hsw := sub_whole s2 (kindOf (rankOf s.now.bytes)) s.now.at_ (opOf s.now.bytes) 0 ⟨#[]⟩ [l, rr]
        have hdw := whole_deep' s2 (kindOf (rankOf s.now.bytes)) s.now.at_ (opOf s.now.bytes) 0 ⟨#[]⟩ [l, rr]
        obtain ⟨p, hp⟩ : ∃ p, p = wholeP s2 (kindOf (rankOf s.now.bytes)) s.now.at_ (opOf s.now.bytes) 0 ⟨#[]⟩ [l, rr] := ⟨_, rfl⟩
        rw [← hp] at h hsw hdw
        obtain ⟨S3, hS3⟩ : ∃ S3, S3 = (if rankOf s.now.bytes = 3 ∧ rankOf p.2.now.bytes = 3 then p.2.refuse p.2.now else p.2) := ⟨_, rfl⟩
        rw [← hS3] at h
        have hs3 : Sub p.2 S3 ∧ S3.deep = p.2.deep ∧ (S3.fk = 0 → S3 = p.2) := by
          rw [hS3]
          split
          · exact ⟨sub_refuse _ _, rfl, fun e => absurd e (refuse_fk _ _)⟩
          · exact ⟨Sub.refl _, rfl, fun _ => rfl⟩
        have hsub : Sub s S3 := ((sub_next s).trans h1).trans (hsw.trans hs3.1)
        obtain ⟨h4, h5, h6⟩ := ih.loop least p.1 S3 r hl (hw.sub hsub) h
        refine ⟨hsub.trans h4, by rw [h5, hs3.2.1, hdw, h2], fun h0 => ?_⟩
        obtain ⟨h7, h8⟩ := h6 h0
        have e3 := hs3.2.2 h7
        rw [e3] at h7
        rw [hp] at h7
        have h9 := whole_fk h7
        obtain ⟨h10, h11⟩ := h3 h9.1
        rw [next_fk] at h10
        refine ⟨h10, fun b0 hl0 => ?_⟩
        have hd3 : S3.deep = s.deep := by rw [hs3.2.1, hdw, h2]
        rw [hd3] at h8
        refine h8 b0 ?_
        have hnb := next_b hw
        have hl1 := hl0.len
        have hl2 := h11.len
        have hgl := hl0.gp
        rw [← h2] at hgl
        have hgr := h11.gp
        rw [← h2] at hgr
        have hops := rank_ops _ hr0
        have hsh : shK (kindOf (rankOf s.now.bytes)) (opOf s.now.bytes) 0 ⟨#[]⟩ [l, rr].length := by
          unfold shK
          rcases hops with ⟨_, e1, e2⟩ | ⟨_, e1, e2⟩ | ⟨e1, e2, _⟩
          · rw [e1, e2]; simp
          · rw [e1, e2]; simp
          · rw [e1]; simp [e2]
        obtain ⟨h12, h13, h14⟩ := whole_gp s2 _ s.now.at_ _ 0 ⟨#[]⟩ [l, rr] hsh (fun q hq => by
          simp only [List.mem_cons, List.not_mem_nil, or_false] at hq
          rcases hq with rfl | rfl
          · exact hgl
          · exact hgr) h7
        rw [e3]
        rw [← hp] at h13 h14
        rw [h2] at h13
        refine ⟨h13, ?_⟩
        rw [h14]
        have hpr : (prE p.1.1).length ≤ (prE l.1).length + (prE rr.1).length + 4 + s.now.bytes.length := by
          rw [hp, whole_pr, em_list]
          simp only [List.map_cons, List.map_nil, prEs]
          rcases hops with ⟨e0, e1, e2⟩ | ⟨e0, e1, e2⟩ | ⟨e1, e2, e3, _⟩
          · rw [e1, e2, e0]; simp [prK, pairP, lsP, jn]; omega
          · rw [e1, e2, e0]; simp [prK, pairP, lsP, jn]; omega
          · rw [e1]; simp [prK, pairP, lsP, jn, e3]; omega
        have hlb : 1 ≤ s.now.bytes.length := by
          rcases hops with ⟨e0, _, _⟩ | ⟨e0, _, _⟩ | ⟨_, _, _, e4, _⟩
          · rw [e0]; decide
          · rw [e0]; decide
          · exact e4
        omega
  ahead := fun s r hw h => by
    simp only [aheadK] at h
    split at h
    · cases ha : firstK k s with
      | none => rw [ha] at h; cases h
      | some q =>
        rw [ha] at h
        obtain ⟨l, s1⟩ := q
        obtain ⟨h1, h2, h3⟩ := ih.first s _ hw ha
        simp only at h h1 h2 h3
        obtain ⟨h4, h5, h6⟩ := ih.index l s1 r (hw.sub h1) h
        refine ⟨h1.trans h4, h5.trans h2, fun h0 => ?_⟩
        obtain ⟨h7, h8⟩ := h6 h0
        obtain ⟨h9, h10⟩ := h3 h7
        rw [h2] at h8
        exact ⟨h9, h8 _ h10⟩
    · rename_i ht
      cases ha : aheadK k s.next.enter with
      | none => rw [ha] at h; cases h
      | some q =>
        rw [ha] at h
        obtain ⟨x, s2⟩ := q
        have hsu : Sub s s.next.enter := (sub_next s).trans (sub_enter _)
        obtain ⟨h1, h2, h3⟩ := ih.ahead _ _ (hw.sub hsu) ha
        simp only at h h1 h2 h3
        rw [enter_deep, next_deep] at h2 h3
        obtain rfl := Option.some.inj h
        refine ⟨((hsu.trans h1).trans (sub_whole _ _ _ _ _ _ _)).trans (sub_leave _), by show (wholeP s2 _ _ _ _ _ _).2.deep = _; rw [whole_deep', h2], fun h0 => ?_⟩
        have h0' : (wholeP s2 4 s.now.at_ (turnOf s.now.bytes) 0 ⟨#[]⟩ [x]).2.fk = 0 := h0
        have h9 := whole_fk h0'
        obtain ⟨h10, h11⟩ := h3 h9.1
        have h12 := enter_ok h10
        rw [next_fk] at h12
        have hops := turn_ops _ ht
        have hgx := h11.gp
        rw [← h2] at hgx
        obtain ⟨h13, h14, h15⟩ := whole_gp s2 4 s.now.at_ (turnOf s.now.bytes) 0 ⟨#[]⟩ [x] (by unfold shK; simp; exact hops.1) (fun q hq => by
          simp only [List.mem_cons, List.not_mem_nil, or_false] at hq
          subst hq
          exact hgx) h0'
        rw [h2] at h14
        refine ⟨h12.2, h14, ?_⟩
        have hnb := next_b hw
        have hl2 := h11.len
        rw [(enter_b h10).1] at hl2
        show (prE (wholeP s2 4 s.now.at_ (turnOf s.now.bytes) 0 ⟨#[]⟩ [x]).1.1).length + 2 + 25 * (wholeP s2 4 s.now.at_ (turnOf s.now.bytes) 0 ⟨#[]⟩ [x]).2.b ≤ _
        rw [h15, whole_pr, em_list]
        simp only [List.map_cons, List.map_nil, prEs]
        simp [prK, lsP, jn, hops.2.1]
        omega
  index := fun f s r hw h => by
    simp only [indexK] at h
    split at h
    · rename_i hb
      cases ha : partsK k ([91] : List UInt8) ([93] : List UInt8) s with
      | none => rw [ha] at h; cases h
      | some q =>
        rw [ha] at h
        obtain ⟨l, s1⟩ := q
        obtain ⟨h1, h2, h3⟩ := ih.parts _ _ s _ (by decide) (by decide) hw ha
        simp only at h h1 h2 h3
        have hsc := sub_counted 2 3 s1 9 s.now.at_ 0 0 ⟨#[]⟩ (f :: l)
        have hdc := counted_deep' 2 3 s1 9 s.now.at_ 0 0 ⟨#[]⟩ (f :: l)
        obtain ⟨h4, h5, h6⟩ := ih.index _ _ r (hw.sub (h1.trans hsc)) h
        refine ⟨(h1.trans hsc).trans h4, by rw [h5, hdc, h2], fun h0 => ?_⟩
        obtain ⟨h7, h8⟩ := h6 h0
        obtain ⟨c1, c2, c3⟩ := counted_ok h7
        rw [hdc, h2] at h8
        rw [c3] at h7 h8
        have h9 := whole_fk h7
        obtain ⟨h10, h11, h12⟩ := h3 h9.1
        refine ⟨h10, fun b0 hf => h8 b0 ?_⟩
        have hgf := hf.gp
        rw [← h2] at hgf h11
        obtain ⟨h13, h14, h15⟩ := whole_gp s1 9 s.now.at_ 0 0 ⟨#[]⟩ (f :: l) (by unfold shK; simp at c1 c2 ⊢; omega) (fun q hq => by
          rcases List.mem_cons.mp hq with rfl | hq
          · exact hgf
          · exact h11 q hq) h7
        rw [h2] at h14
        refine ⟨h14, ?_⟩
        rw [h15, whole_pr, em_list]
        have hl := hf.len
        have hj := prEs_len l
        simp only [List.map_cons, prEs]
        simp [prK, lsP, jn]
        omega
    · obtain rfl := Option.some.inj h
      exact ⟨Sub.refl s, rfl, fun h0 => ⟨h0, fun b0 hb => hb⟩⟩
  parts := fun o e s r ho he hw h => by
    simp only [partsK] at h
    have hs1 : Sub s (s.need1 o).enter := (sub_need1 s o).trans (sub_enter _)
    have hd1 : (s.need1 o).enter.deep = s.deep := by rw [enter_deep, need1_deep]
    have hfine : (s.need1 o).enter.fk = 0 → s.fk = 0 ∧ (s.need1 o).enter.b + o.length = s.b := fun h0 => by
      have e1 := enter_ok h0
      have e2 := need1_ok e1.2
      have e3 := next_b hw
      refine ⟨e2.2.2, ?_⟩
      rw [(enter_b h0).1, e2.1, ← e2.2.1]
      exact e3
    split at h
    · obtain rfl := Option.some.inj h
      refine ⟨(hs1.trans (sub_need1 _ _)).trans (sub_leave _), by show ((s.need1 o).enter.need1 e).deep = _; rw [need1_deep, hd1], fun h0 => ?_⟩
      have h0' : ((s.need1 o).enter.need1 e).fk = 0 := h0
      have e4 := need1_ok h0'
      obtain ⟨e5, e6⟩ := hfine e4.2.2
      have e7 := next_b (hw.sub hs1)
      refine ⟨e5, fun p (hp : p ∈ ([] : List Part)) => absurd hp (List.not_mem_nil), ?_⟩
      show 0 + 50 + 25 * ((s.need1 o).enter.need1 e).b ≤ _
      rw [e4.1]
      rw [e4.2.1] at e7
      omega
    · cases ha : manyK k [] (s.need1 o).enter with
      | none => rw [ha] at h; cases h
      | some q =>
        rw [ha] at h
        obtain ⟨l, s2⟩ := q
        obtain ⟨h1, h2, h3⟩ := ih.many [] _ _ (hw.sub hs1) ha
        simp only at h h1 h2 h3
        obtain rfl := Option.some.inj h
        refine ⟨((hs1.trans h1).trans (sub_need1 _ _)).trans (sub_leave _), by show (s2.need1 e).deep = _; rw [need1_deep, h2, hd1], fun h0 => ?_⟩
        have h0' : (s2.need1 e).fk = 0 := h0
        have e4 := need1_ok h0'
        obtain ⟨h4, m, h5, h6, h7⟩ := h3 e4.2.2
        obtain ⟨e5, e6⟩ := hfine h4
        have e7 := next_b (hw.sub (hs1.trans h1))
        rw [hd1] at h6
        rw [List.nil_append] at h5
        refine ⟨e5, by rw [h5]; exact h6, ?_⟩
        show lenP l + 50 + 25 * (s2.need1 e).b ≤ _
        rw [e4.1, h5]
        rw [e4.2.1] at e7
        omega
  many := fun l s r hw h => by
    simp only [manyK] at h
    cases ha : exprK k s with
    | none => rw [ha] at h; cases h
    | some q =>
      rw [ha] at h
      obtain ⟨x, s1⟩ := q
      obtain ⟨h1, h2, h3⟩ := ih.expr s _ hw ha
      simp only at h h1 h2 h3
      split at h
      · rename_i hb
        obtain ⟨h4, h5, h6⟩ := ih.many _ s1.next r (hw.sub (h1.trans (sub_next s1))) h
        refine ⟨(h1.trans (sub_next s1)).trans h4, by rw [h5, next_deep, h2], fun h0 => ?_⟩
        obtain ⟨h7, m, h8, h9, h10⟩ := h6 h0
        rw [next_fk] at h7
        obtain ⟨h11, h12⟩ := h3 h7
        rw [next_deep, h2] at h9
        have hnb := next_b (hw.sub h1)
        have hl := h12.len
        refine ⟨h11, x :: m, by rw [h8]; simp, fun p hp => ?_, ?_⟩
        · rcases List.mem_cons.mp hp with rfl | hp
          · exact h12.gp
          · exact h9 p hp
        · have e : lenP (x :: m) = (prE x.1).length + 2 + lenP m := by simp [lenP]
          omega
      · obtain rfl := Option.some.inj h
        refine ⟨h1, h2, fun h0 => ?_⟩
        obtain ⟨h11, h12⟩ := h3 h0
        have hl := h12.len
        refine ⟨h11, [x], rfl, fun p hp => ?_, ?_⟩
        · rw [List.mem_singleton] at hp
          subst hp
          exact h12.gp
        · have e : lenP [x] = (prE x.1).length + 2 := by simp [lenP]
          simp only
          omega
  first := fun s r hw h => by
    simp only [firstK] at h
    have hnb := next_b hw
    split at h
    · rename_i hb
      cases ha : exprK k (s.need1 ([40] : List UInt8)).enter with
      | none => rw [ha] at h; cases h
      | some q =>
        rw [ha] at h
        obtain ⟨x, s2⟩ := q
        have hs1 : Sub s (s.need1 ([40] : List UInt8)).enter := (sub_need1 s _).trans (sub_enter _)
        have hd1 : (s.need1 ([40] : List UInt8)).enter.deep = s.deep := by rw [enter_deep, need1_deep]
        obtain ⟨h1, h2, h3⟩ := ih.expr _ _ (hw.sub hs1) ha
        simp only at h h1 h2 h3
        obtain rfl := Option.some.inj h
        refine ⟨((hs1.trans h1).trans (sub_need1 _ _)).trans (sub_leave _), by show (s2.need1 _).deep = _; rw [need1_deep, h2, hd1], fun h0 => ?_⟩
        have h0' : (s2.need1 ([41] : List UInt8)).fk = 0 := h0
        have e4 := need1_ok h0'
        obtain ⟨h4, h5⟩ := h3 e4.2.2
        have e5 := enter_ok h4
        have e6 := need1_ok e5.2
        have e7 := next_b (hw.sub (hs1.trans h1))
        rw [hd1] at h5
        refine ⟨e6.2.2, h5.gp, ?_⟩
        have hl := h5.len
        rw [(enter_b h4).1, e6.1] at hl
        show (prE x.1).length + 2 + 25 * (s2.need1 ([41] : List UInt8)).b ≤ _
        rw [e4.1]
        omega
    · split at h
      · rename_i hk
        obtain rfl := Option.some.inj h
        refine ⟨(sub_next s).trans (sub_whole _ _ _ _ _ _ _), by rw [whole_deep', next_deep], fun h0 => ?_⟩
        have hd := dig_len s.now.num
        have hb := hw.now.some (by omega)
        have := leaf_res s.next 1 s.now.at_ 0 s.now.num ⟨#[]⟩ s.b (by unfold shK; simp; exact hw.now.num hk) (by simp [prK]; omega) h0
        rw [next_fk, next_deep] at this
        exact this
      · split at h
        · rename_i hk
          obtain ⟨h1, h2, h3⟩ := ih.called s.now s.next r hk hw.now (hw.sub (sub_next s)) h
          rw [next_deep] at h2 h3
          rw [next_fk, hnb] at h3
          exact ⟨(sub_next s).trans h1, h2, h3⟩
        · obtain ⟨h1, h2, h3⟩ := ih.kept s.now s.next r (hw.sub (sub_next s)) h
          rw [next_deep] at h2 h3
          rw [next_fk, hnb] at h3
          exact ⟨(sub_next s).trans h1, h2, h3⟩
  called := fun t s r ht hto hw h => by
    simp only [calledK] at h
    have hname := hto.name ht
    have hb1 := hto.some (by omega)
    have hstr : (strB t.bytes).data.toList = t.bytes := by simp [strB]
    split at h
    · rename_i hb
      cases ha : partsK k ([40] : List UInt8) ([41] : List UInt8) s with
      | none => rw [ha] at h; cases h
      | some q =>
        rw [ha] at h
        obtain ⟨l, s1⟩ := q
        obtain ⟨h1, h2, h3⟩ := ih.parts _ _ s _ (by decide) (by decide) hw ha
        simp only at h h1 h2 h3
        obtain rfl := Option.some.inj h
        refine ⟨h1.trans (sub_whole _ _ _ _ _ _ _), by rw [whole_deep', h2], fun h0 => ?_⟩
        have h9 := whole_fk h0
        obtain ⟨h10, h11, h12⟩ := h3 h9.1
        rw [← h2] at h11
        obtain ⟨h13, h14, h15⟩ := whole_gp s1 8 t.at_ 0 0 (strB t.bytes) l (by unfold shK; simp; rw [← hstr] at hname; simpa [strB] using hname) h11 h0
        rw [h2] at h14
        refine ⟨h10, h14, ?_⟩
        rw [h15, whole_pr, hstr]
        have hj := prEs_len l
        simp [prK, lsP]
        omega
    · obtain rfl := Option.some.inj h
      refine ⟨sub_whole _ _ _ _ _ _ _, by rw [whole_deep'], fun h0 => ?_⟩
      exact leaf_res s 3 t.at_ 0 0 (strB t.bytes) _ (by unfold shK; simp; rw [← hstr] at hname; simpa [strB] using hname) (by rw [hstr]; simp [prK]; omega) h0
  kept := fun t s r hw h => by
    simp only [keptK] at h
    split at h
    · rename_i hb
      have hbb := eq_of_beq hb
      obtain rfl := Option.some.inj h
      refine ⟨sub_whole _ _ _ _ _ _ _, by rw [whole_deep'], fun h0 => leaf_res s 2 t.at_ 0 1 ⟨#[]⟩ _ (by unfold shK; simp) (by rw [hbb]; simp [prK, truthB]; omega) h0⟩
    · split at h
      · rename_i hb
        have hbb := eq_of_beq hb
        obtain rfl := Option.some.inj h
        refine ⟨sub_whole _ _ _ _ _ _ _, by rw [whole_deep'], fun h0 => leaf_res s 2 t.at_ 0 0 ⟨#[]⟩ _ (by unfold shK; simp) (by rw [hbb]; simp [prK, truthB]; omega) h0⟩
      · split at h
        · rename_i hb
          have hbb := eq_of_beq hb
          obtain rfl := Option.some.inj h
          refine ⟨sub_whole _ _ _ _ _ _ _, by rw [whole_deep'], fun h0 => leaf_res s 14 t.at_ 0 0 ⟨#[]⟩ _ (by unfold shK; simp) (by rw [hbb]; simp [prK]; omega) h0⟩
        · split at h
          · rename_i hb
            have hbb := eq_of_beq hb
            cases ha : partsK k ([91] : List UInt8) ([93] : List UInt8) s with
            | none => rw [ha] at h; cases h
            | some q =>
              rw [ha] at h
              obtain ⟨l, s1⟩ := q
              obtain ⟨h1, h2, h3⟩ := ih.parts _ _ s _ (by decide) (by decide) hw ha
              simp only at h h1 h2 h3
              obtain rfl := Option.some.inj h
              refine ⟨h1.trans (sub_counted _ _ _ _ _ _ _ _ _), by rw [counted_deep', h2], fun h0 => ?_⟩
              obtain ⟨c1, c2, c3⟩ := counted_ok h0
              rw [c3] at h0 ⊢
              have h9 := whole_fk h0
              obtain ⟨h10, h11, h12⟩ := h3 h9.1
              rw [← h2] at h11
              obtain ⟨h13, h14, h15⟩ := whole_gp s1 10 t.at_ 0 0 ⟨#[]⟩ l (by unfold shK; simp; omega) h11 h0
              rw [h2] at h14
              refine ⟨h10, h14, ?_⟩
              rw [h15, whole_pr, em_list, hbb]
              have hj := prEs_len l
              simp [prK, lsP]
              omega
          · split at h
            · rename_i hb
              cases ha : partsK k ([40] : List UInt8) ([41] : List UInt8) s with
              | none => rw [ha] at h; cases h
              | some q =>
                rw [ha] at h
                obtain ⟨l, s1⟩ := q
                obtain ⟨h1, h2, h3⟩ := ih.parts _ _ s _ (by decide) (by decide) hw ha
                simp only at h h1 h2 h3
                obtain rfl := Option.some.inj h
                refine ⟨h1.trans (sub_counted _ _ _ _ _ _ _ _ _), by rw [counted_deep', h2], fun h0 => ?_⟩
                obtain ⟨c1, c2, c3⟩ := counted_ok h0
                rw [c3] at h0 ⊢
                have h9 := whole_fk h0
                obtain ⟨h10, h11, h12⟩ := h3 h9.1
                rw [← h2] at h11
                obtain ⟨K, hK⟩ : ∃ K : Int, K = (if t.bytes == ([108, 101, 110] : List UInt8) then 11 else if t.bytes == ([114, 111, 119, 115] : List UInt8) then 12 else 13) := ⟨_, rfl⟩
                rw [← hK] at h0 ⊢
                have hKK : K = 11 ∨ K = 12 ∨ K = 13 := by
                  rw [hK]
                  split
                  · simp
                  · split <;> simp
                have hl1 : l.length = 1 := by omega
                obtain ⟨h13, h14, h15⟩ := whole_gp s1 K t.at_ 0 0 ⟨#[]⟩ l (by unfold shK; rw [hl1]; simp; omega) h11 h0
                rw [h2] at h14
                refine ⟨h10, h14, ?_⟩
                rw [h15, whole_pr, em_list]
                have hj := prEs_len l
                obtain ⟨p, rfl⟩ := List.length_eq_one_iff.mp hl1
                have e : lenP [p] = (prE p.1).length + 2 := by simp [lenP]
                simp only [List.map_cons, List.map_nil, prEs]
                rcases hKK with rfl | rfl | rfl
                · simp [prK, lsP, jn]; omega
                · simp [prK, lsP, jn]; omega
                · simp [prK, lsP, jn]; omega
            · obtain rfl := Option.some.inj h
              refine ⟨(sub_refuse s t).trans (sub_whole _ _ _ _ _ _ _), by rw [whole_deep']; rfl, fun h0 => absurd (whole_fk h0).1 (refuse_fk _ _)⟩
theorem out_all : ∀ k, Out k
  | 0 => out_zero
  | k + 1 => out_succ k (out_all k)
end Go.Proofs.YtiadbeglhnocoaaGreatDoor
