/-
  Notes and line feeds around a text: its words stand so much later.
-/
import Derived.Test.YtmoeokfjfnegmaaDoorM2
namespace Go.Proofs.YtmoeokfjfnegmaaDoor
open Go.RowKit

/-- The words from a place on, what says nothing ahead of them let in. -/
def lexU (k : Nat) (l : List UInt8) : List Tk × Option Nat := lexR (k + skipN false l) (l.drop (skipN false l))
theorem lexS_U (l : List UInt8) : lexS l = lexU 0 l := by unfold lexS lexU; rw [Nat.zero_add]
theorem lexU_end {k : Nat} {l : List UInt8} (h : skipN false l = l.length) : lexU k l = ([], none) := by
  unfold lexU
  rw [h, List.drop_of_length_le (Nat.le_refl _), lexR_nil]
theorem lexU_bad {k : Nat} {l : List UInt8} (h : skipN false l < l.length) (hw : wordT (k + skipN false l) (l.drop (skipN false l)) = none) : lexU k l = ([], some (k + skipN false l)) := by
  unfold lexU
  exact lexR_bad (by intro e; have := congrArg List.length e; rw [List.length_drop] at this; simp at this; omega) hw
theorem lexU_good {k : Nat} {l : List UInt8} {t : Tk} (hw : wordT (k + skipN false l) (l.drop (skipN false l)) = some t) :
    lexU k l = (t :: (lexU (k + skipN false l + t.bytes.length) (l.drop (skipN false l + t.bytes.length))).1, (lexU (k + skipN false l + t.bytes.length) (l.drop (skipN false l + t.bytes.length))).2) := by
  have h := lexR_good hw
  have e : lexR (k + skipN false l + stepN (l.drop (skipN false l)) t) ((l.drop (skipN false l)).drop (stepN (l.drop (skipN false l)) t)) = lexU (k + skipN false l + t.bytes.length) (l.drop (skipN false l + t.bytes.length)) := by
    unfold lexU stepN
    rw [List.drop_drop, List.drop_drop, List.drop_drop]
    congr 1
    · omega
    · congr 1; omega
  rw [e] at h
  unfold lexU
  exact h

/-- A word so much later. -/
def Tk.later (P : Nat) (t : Tk) : Tk := ⟨t.kind, t.at_ + P, t.num, t.bytes⟩
theorem word_later (k P : Nat) (l : List UInt8) : wordT (k + P) l = (wordT k l).map (Tk.later P) := by
  rcases l with _ | ⟨c, r⟩
  · rfl
  · rw [wordT, wordT]
    split
    · rfl
    · split
      · unfold numT
        split <;> rfl
      · unfold signT
        split <;> rfl

/-- Behind a line feed nothing but a note. -/
def tailL (n : List UInt8) : List UInt8 := 10 :: 32 :: 35 :: n
theorem note_all (n : List UInt8) (h : ∀ b ∈ n, b ≠ 10) : skipN true n = n.length := by
  induction n with
  | nil => rfl
  | cons a r ih =>
    have ha : noteB a.toNat = true := by
      unfold noteB
      have h1 := h a (by simp)
      have h2 : a.toNat ≠ 10 := fun e => h1 (UInt8.toNat_inj.mp e)
      simp; omega
    rw [skipN, if_pos ha, ih (fun b hb => h b (by simp [hb]))]; simp
theorem tail_skip (n : List UInt8) (h : ∀ b ∈ n, b ≠ 10) (b : Bool) : skipN b (tailL n) = (tailL n).length := by
  have e : skipN false (32 :: 35 :: n) = n.length + 2 := by
    rw [skipN, if_pos (by decide), skipN, if_neg (by decide), if_pos (by decide), note_all n h]
  unfold tailL
  rcases b with _ | _
  · rw [skipN, if_pos (by decide), e]; simp
  · rw [skipN, if_neg (by decide), e]; simp
theorem skip_app (n l : List UInt8) (h : ∀ b ∈ n, b ≠ 10) (b : Bool) : skipN b (l ++ tailL n) = if skipN b l < l.length then skipN b l else l.length + (tailL n).length := by
  induction l generalizing b with
  | nil => rw [List.nil_append, tail_skip n h]; cases b <;> simp [skipN]
  | cons c r ih =>
    rw [List.cons_append]
    rcases b with _ | _
    · by_cases h1 : gapB c.toNat = true
      · have e1 : skipN false (c :: r) = skipN false r + 1 := by rw [skipN, if_pos h1]
        rw [e1, skipN, if_pos h1, ih false]
        simp only [List.length_cons]
        split <;> split <;> omega
      · by_cases h2 : c.toNat = 35
        · have e1 : skipN false (c :: r) = skipN true r + 1 := by rw [skipN, if_neg h1, if_pos h2]
          rw [e1, skipN, if_neg h1, if_pos h2, ih true]
          simp only [List.length_cons]
          split <;> split <;> omega
        · have e1 : skipN false (c :: r) = 0 := by rw [skipN, if_neg h1, if_neg h2]
          rw [e1, skipN, if_neg h1, if_neg h2, if_pos (by simp)]
    · by_cases h1 : noteB c.toNat = true
      · have e1 : skipN true (c :: r) = skipN true r + 1 := by rw [skipN, if_pos h1]
        rw [e1, skipN, if_pos h1, ih true]
        simp only [List.length_cons]
        split <;> split <;> omega
      · have e1 : skipN true (c :: r) = skipN false r + 1 := by rw [skipN, if_neg h1]
        rw [e1, skipN, if_neg h1, ih false]
        simp only [List.length_cons]
        split <;> split <;> omega
theorem past_app (p : Int → Bool) (h : p 10 = false) (l r : List UInt8) : pastN p (l ++ 10 :: r) = pastN p l := by
  induction l with
  | nil =>
    have h' : ¬ p ((10 : UInt8).toNat : Int) = true := by
      have e : p ((10 : UInt8).toNat : Int) = false := h
      rw [e]; decide
    show pastN p (10 :: r) = 0
    rw [pastN, if_neg h']
  | cons c s ih =>
    rw [List.cons_append, pastN, pastN, ih]
theorem take_past (p : Int → Bool) (h : p 10 = false) (l r : List UInt8) : (l ++ 10 :: r).take (pastN p (l ++ 10 :: r)) = l.take (pastN p l) := by
  rw [past_app p h, List.take_append_of_le_length (pastN_le p l)]

theorem signU_top (z : Nat) (l : List UInt8) (y : Nat) (h1 : 1 ≤ y) (h2 : y ≤ z) (h : signB (l.take y) = true) : y ≤ signU z l := by
  induction z with
  | zero => omega
  | succ z ih =>
    unfold signU
    split
    · exact h2
    · rename_i hn
      rcases Nat.lt_or_ge z y with hz | hz
      · have e : y = z + 1 := by omega
        subst e
        exact absurd h hn
      · exact ih hz
theorem signU_is (z : Nat) (l : List UInt8) : signU z l = 0 ∨ signB (l.take (signU z l)) = true := by
  induction z with
  | zero => exact .inl rfl
  | succ z ih =>
    unfold signU
    split
    · rename_i h; exact .inr h
    · exact ih
theorem sign_plain : ∀ x ∈ signW, ∀ b ∈ x, gapB (b.toNat : Int) = false ∧ b ≠ 35 := by decide
theorem sign_no (l : List UInt8) (c : UInt8) (r : List UInt8) (y : Nat) (hc : gapB (c.toNat : Int) = true) (h : l.length < y) : signB ((l ++ c :: r).take y) = false := by
  rcases hb : signB ((l ++ c :: r).take y) with _ | _
  · rfl
  · exfalso
    unfold signB at hb
    rw [List.any_eq_true] at hb
    obtain ⟨x, hx, he⟩ := hb
    have he : (l ++ c :: r).take y = x := by simpa using he
    have hm : c ∈ x := by
      rw [← he]
      have e : y = l.length + (y - l.length) := by omega
      have e2 : y - l.length = (y - l.length - 1) + 1 := by omega
      rw [e, List.take_length_add_append, e2, List.take_succ_cons]
      simp
    have := (sign_plain x hx c hm).1
    rw [hc] at this
    cases this
theorem sign_app (l : List UInt8) (c : UInt8) (r : List UInt8) (hc : gapB (c.toNat : Int) = true) : signN (l ++ c :: r) = signN l := by
  have hz := signU_le (min 3 (l ++ c :: r).length) (l ++ c :: r)
  have hy := signU_le (min 3 l.length) l
  apply Nat.le_antisymm
  · unfold signN
    rcases signU_is (min 3 (l ++ c :: r).length) (l ++ c :: r) with e | e
    · omega
    · rcases Nat.lt_or_ge l.length (signU (min 3 (l ++ c :: r).length) (l ++ c :: r)) with h | h
      · rw [sign_no l c r _ hc h] at e; cases e
      · rcases Nat.eq_zero_or_pos (signU (min 3 (l ++ c :: r).length) (l ++ c :: r)) with h0 | h0
        · omega
        · rw [List.take_append_of_le_length h] at e
          exact signU_top _ l _ h0 (by omega) e
  · unfold signN
    rcases signU_is (min 3 l.length) l with e | e
    · omega
    · rcases Nat.eq_zero_or_pos (signU (min 3 l.length) l) with h0 | h0
      · omega
      · refine signU_top _ _ _ h0 (by rw [List.length_append]; omega) ?_
        rw [List.take_append_of_le_length (by omega)]
        exact e
theorem word_app (k : Nat) (l r : List UInt8) (hl : l ≠ []) : wordT k (l ++ 10 :: r) = wordT k l := by
  rcases l with _ | ⟨c, s⟩
  · exact absurd rfl hl
  · have h1 := take_past nameB (by decide) (c :: s) r
    have h2 := take_past digitB (by decide) (c :: s) r
    have h3 := sign_app (c :: s) 10 r (by decide)
    have h4 : ((c :: s) ++ 10 :: r).take (signN ((c :: s) ++ 10 :: r)) = (c :: s).take (signN (c :: s)) := by
      rw [h3]
      have := signU_le (min 3 (c :: s).length) (c :: s)
      exact List.take_append_of_le_length (by unfold signN; omega)
    rw [List.cons_append] at h1 h2 h3 h4 ⊢
    rw [wordT, wordT]
    unfold nameT numT signT
    rw [h1, h2, h3]
    rw [h3] at h4
    rw [h4]
theorem lexU_tail (n : List UInt8) (h : ∀ b ∈ n, b ≠ 10) (P : Nat) (m : Nat) (l : List UInt8) (k : Nat) (hm : l.length ≤ m) :
    lexU (k + P) (l ++ tailL n) = ((lexU k l).1.map (Tk.later P), (lexU k l).2.map (· + P)) := by
  induction m generalizing l k with
  | zero =>
    have e : l = [] := List.eq_nil_of_length_eq_zero (by omega)
    subst e
    rw [lexU_end (by rw [List.nil_append]; exact tail_skip n h false), lexU_end (k := k) (l := []) rfl]
    rfl
  | succ m ih =>
    have hs := skip_app n l h false
    rcases Nat.lt_or_ge (skipN false l) l.length with hg | hg
    · rw [if_pos hg] at hs
      have hd : (l ++ tailL n).drop (skipN false l) = l.drop (skipN false l) ++ tailL n := List.drop_append_of_le_length (by omega)
      have hne : l.drop (skipN false l) ≠ [] := by intro e; have := congrArg List.length e; rw [List.length_drop] at this; simp at this; omega
      have hwt : wordT (k + P + skipN false (l ++ tailL n)) ((l ++ tailL n).drop (skipN false (l ++ tailL n))) = (wordT (k + skipN false l) (l.drop (skipN false l))).map (Tk.later P) := by
        rw [hs, hd]
        unfold tailL
        rw [word_app _ _ _ hne, ← word_later]
        congr 1
        omega
      rcases hw : wordT (k + skipN false l) (l.drop (skipN false l)) with _ | t
      · rw [hw] at hwt
        rw [lexU_bad (by rw [hs, List.length_append]; omega) hwt, lexU_bad hg hw, hs]
        simp
        omega
      · rw [hw] at hwt
        obtain ⟨_, b1, b2, _⟩ := word_has hw
        rw [List.length_drop] at b2
        rw [lexU_good hwt, lexU_good hw, hs]
        have hd2 : (l ++ tailL n).drop (skipN false l + (Tk.later P t).bytes.length) = l.drop (skipN false l + t.bytes.length) ++ tailL n := List.drop_append_of_le_length (by show skipN false l + t.bytes.length ≤ _; omega)
        have he : k + P + skipN false l + (Tk.later P t).bytes.length = k + skipN false l + t.bytes.length + P := by show k + P + skipN false l + t.bytes.length = _; omega
        have hi := ih (l.drop (skipN false l + t.bytes.length)) (k + skipN false l + t.bytes.length) (by rw [List.length_drop]; omega)
        rw [hd2, he, hi]
        rfl
    · rw [if_neg (by omega)] at hs
      have hle := skipN_le false l
      rw [lexU_end (by rw [hs, List.length_append]), lexU_end (k := k) (by omega)]
      rfl
/-- A text between notes. -/
def noted (n l : List UInt8) : List UInt8 := 35 :: (n ++ 10 :: (l ++ tailL n))
theorem note_past (n r : List UInt8) (h : ∀ b ∈ n, b ≠ 10) : skipN true (n ++ 10 :: r) = n.length + 1 + skipN false r := by
  induction n with
  | nil => rw [List.nil_append, skipN, if_neg (by decide)]; simp; omega
  | cons a s ih =>
    have ha : noteB a.toNat = true := by
      unfold noteB
      have h1 := h a (by simp)
      have h2 : a.toNat ≠ 10 := fun e => h1 (UInt8.toNat_inj.mp e)
      simp; omega
    rw [List.cons_append, skipN, if_pos ha, ih (fun b hb => h b (by simp [hb]))]; simp; omega
theorem lexS_noted (n l : List UInt8) (h : ∀ b ∈ n, b ≠ 10) : lexS (noted n l) = ((lexS l).1.map (Tk.later (n.length + 2)), (lexS l).2.map (· + (n.length + 2))) := by
  have hs : skipN false (noted n l) = n.length + 2 + skipN false (l ++ tailL n) := by
    unfold noted
    rw [skipN, if_neg (by decide), if_pos (by decide), note_past n _ h]; omega
  have e : lexS (noted n l) = lexU (0 + (n.length + 2)) (l ++ tailL n) := by
    unfold lexS lexU
    rw [hs, Nat.zero_add]
    have hd : (noted n l).drop (n.length + 2) = l ++ tailL n := by
      unfold noted
      rw [List.drop_succ_cons, List.drop_length_add_append]
      rfl
    rw [← List.drop_drop, hd]
  rw [e, lexU_tail n h (n.length + 2) l.length l 0 (Nat.le_refl _), lexS_U]
end Go.Proofs.YtmoeokfjfnegmaaDoor
