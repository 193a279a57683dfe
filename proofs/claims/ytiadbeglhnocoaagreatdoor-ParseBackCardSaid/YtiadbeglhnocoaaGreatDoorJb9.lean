/-
  The words of a text from a place on, as plain functions of lists of bytes.
  Notes and line feeds around a text: its words stand so much later.
  Words with spaces between them are the same words.
  How deep parts are, and what the parser's readers leave as it was.
  So much fuel suffices; what is left is the end of what was left.
  Statements, blocks, functions: what is left open; so much fuel suffices.
-/
import Derived.Test.YtiadbeglhnocoaaGreatDoorJb1
import Derived.Test.YtiadbeglhnocoaaGreatDoorJb6
namespace Go.Proofs.YtiadbeglhnocoaaGreatDoor
set_option linter.unusedVariables false
set_option linter.unusedSimpArgs false
open Go.RowKit

theorem take_len {l : List UInt8} {n : Nat} (h : n ≤ l.length) : (l.take n).length = n := by simp [h]
/-- A word stands at its place, and has bytes, the text's first ones. -/
theorem word_has {k : Nat} {l : List UInt8} {t : Tk} (h : wordT k l = some t) : t.at_ = k ∧ 1 ≤ t.bytes.length ∧ t.bytes.length ≤ l.length ∧ t.bytes = l.take t.bytes.length := by
  rcases l with _ | ⟨c, r⟩
  · simp [wordT] at h
  · rw [wordT] at h
    split at h
    · rename_i hc
      have hle := pastN_le nameB (c :: r)
      have h1 : 1 ≤ pastN nameB (c :: r) := by rw [pastN, if_pos (by simp [nameB, hc])]; omega
      obtain rfl := Option.some.inj h
      unfold nameT
      simp only [take_len hle]
      exact ⟨trivial, h1, hle, trivial⟩
    · split at h
      · rename_i hc
        have hle := pastN_le digitB (c :: r)
        have h1 : 1 ≤ pastN digitB (c :: r) := by rw [pastN, if_pos hc]; omega
        unfold numT at h
        split at h
        · obtain rfl := Option.some.inj h
          simp only [take_len hle]
          exact ⟨trivial, h1, hle, trivial⟩
        · cases h
      · unfold signT at h
        split at h
        · cases h
        · rename_i h0
          have hle : signN (c :: r) ≤ (c :: r).length := by have := signU_le (min 3 (c :: r).length) (c :: r); unfold signN; omega
          obtain rfl := Option.some.inj h
          simp only [take_len hle]
          exact ⟨trivial, by omega, hle, trivial⟩

/-- How far the next word begins behind the beginning of this one. -/
def stepN (l : List UInt8) (t : Tk) : Nat := t.bytes.length + skipN false (l.drop t.bytes.length)
def lexF : Nat → Nat → List UInt8 → List Tk × Option Nat
  | 0, _, _ => ([], none)
  | _ + 1, _, [] => ([], none)
  | f + 1, k, c :: r =>
    match wordT k (c :: r) with
    | none => ([], some k)
    | some t => (t :: (lexF f (k + stepN (c :: r) t) ((c :: r).drop (stepN (c :: r) t))).1, (lexF f (k + stepN (c :: r) t) ((c :: r).drop (stepN (c :: r) t))).2)
theorem step_le {k : Nat} {l : List UInt8} {t : Tk} (h : wordT k l = some t) : 1 ≤ stepN l t ∧ stepN l t ≤ l.length := by
  obtain ⟨_, h1, h2, _⟩ := word_has h
  unfold stepN
  have := skipN_le false (l.drop t.bytes.length)
  rw [List.length_drop] at this
  omega
theorem lexF_more (f g k : Nat) (l : List UInt8) (hf : l.length < f) (hg : l.length < g) : lexF f k l = lexF g k l := by
  induction f generalizing g k l with
  | zero => omega
  | succ f ih =>
    rcases g with _ | g
    · omega
    · rcases l with _ | ⟨c, r⟩
      · simp [lexF]
      · unfold lexF
        rcases hw : wordT k (c :: r) with _ | t
        · rfl
        · have hs := step_le hw
          have e := ih g (k + stepN (c :: r) t) ((c :: r).drop (stepN (c :: r) t)) (by rw [List.length_drop]; omega) (by rw [List.length_drop]; omega)
          simp only [e]
/-- The words from a place on where one begins, and where there is a fault. -/
def lexR (k : Nat) (l : List UInt8) : List Tk × Option Nat := lexF (l.length + 1) k l
theorem lexR_nil (k : Nat) : lexR k [] = ([], none) := by simp [lexR, lexF]
theorem lexR_bad {k : Nat} {l : List UInt8} (hl : l ≠ []) (h : wordT k l = none) : lexR k l = ([], some k) := by
  rcases l with _ | ⟨c, r⟩
  · exact absurd rfl hl
  · unfold lexR lexF; simp only [h]
theorem lexR_good {k : Nat} {l : List UInt8} {t : Tk} (h : wordT k l = some t) : lexR k l = (t :: (lexR (k + stepN l t) (l.drop (stepN l t))).1, (lexR (k + stepN l t) (l.drop (stepN l t))).2) := by
  rcases l with _ | ⟨c, r⟩
  · simp [wordT] at h
  · have hs := step_le h
    have e : lexF ((c :: r).length) (k + stepN (c :: r) t) ((c :: r).drop (stepN (c :: r) t)) = lexR (k + stepN (c :: r) t) ((c :: r).drop (stepN (c :: r) t)) :=
      lexF_more _ _ _ _ (by rw [List.length_drop]; omega) (by omega)
    rw [← e]
    unfold lexR
    rw [lexF]
    simp only [h]
/-- The words of a text, but for the end. -/
def lexS (l : List UInt8) : List Tk × Option Nat := lexR (skipN false l) (l.drop (skipN false l))
def endT (n : Nat) : Tk := ⟨0, n, 0, []⟩
end Go.Proofs.YtiadbeglhnocoaaGreatDoor
namespace Go.Proofs.YtiadbeglhnocoaaGreatDoor
set_option linter.unusedVariables false
set_option linter.unusedSimpArgs false
open Go.RowKit

/-- The words from a place on, what says nothing ahead of them let in. -/
def lexU (k : Nat) (l : List UInt8) : List Tk × Option Nat := lexR (k + skipN false l) (l.drop (skipN false l))
theorem lexS_U (l : List UInt8) : lexS l = lexU 0 l := by unfold lexS lexU; rw [Nat.zero_add]
theorem lexU_end {k : Nat} {l : List UInt8} (h : skipN false l = l.length) : lexU k l = ([], none) := by
  unfold lexU
  rw [h, List.drop_of_length_le (Nat.le_refl _), lexR_nil]
theorem lexU_bad {k : Nat} {l : List UInt8} (h : skipN false l < l.length) (hw : wordT (k + skipN false l) (l.drop (skipN false l)) = none) : lexU k l = ([], some (k + skipN false l)) := by
  unfold lexU
  exact lexR_bad (by intro e; have := congrArg List.length e; rw [List.length_drop] at this; simp at this; omega) hw
theorem lexU_good {k : Nat} {l : List UInt8} {t : Tk} (hw : wordT (k + skipN false l) (l.drop (skipN false l)) = some t) :
    lexU k l = (t :: (lexU (k + skipN false l + t.bytes.length) (l.drop (skipN false l + t.bytes.length))).1, (lexU (k + skipN false l + t.bytes.length) (l.drop (skipN false l + t.bytes.length))).2) := by
  have h := lexR_good hw
  have e : lexR (k + skipN false l + stepN (l.drop (skipN false l)) t) ((l.drop (skipN false l)).drop (stepN (l.drop (skipN false l)) t)) = lexU (k + skipN false l + t.bytes.length) (l.drop (skipN false l + t.bytes.length)) := by
    unfold lexU stepN
    rw [List.drop_drop, List.drop_drop, List.drop_drop]
    congr 1
    · omega
    · congr 1; omega
  rw [e] at h
  unfold lexU
  exact h

/-- A word so much later. -/
def Tk.later (P : Nat) (t : Tk) : Tk := ⟨t.kind, t.at_ + P, t.num, t.bytes⟩
theorem word_later (k P : Nat) (l : List UInt8) : wordT (k + P) l = (wordT k l).map (Tk.later P) := by
  rcases l with _ | ⟨c, r⟩
  · rfl
  · rw [wordT, wordT]
    split
    · rfl
    · split
      · unfold numT
        split <;> rfl
      · unfold signT
        split <;> rfl

/-- Behind a line feed nothing but a note. -/
def tailL (n : List UInt8) : List UInt8 := 10 :: 32 :: 35 :: n
theorem note_all (n : List UInt8) (h : ∀ b ∈ n, b ≠ 10) : skipN true n = n.length := by
  induction n with
  | nil => rfl
  | cons a r ih =>
    have ha : noteB a.toNat = true := by
      unfold noteB
      have h1 := h a (by simp)
      have h2 : a.toNat ≠ 10 := fun e => h1 (UInt8.toNat_inj.mp e)
      simp; omega
    rw [skipN, if_pos ha, ih (fun b hb => h b (by simp [hb]))]; simp
theorem tail_skip (n : List UInt8) (h : ∀ b ∈ n, b ≠ 10) (b : Bool) : skipN b (tailL n) = (tailL n).length := by
  have e : skipN false (32 :: 35 :: n) = n.length + 2 := by
    rw [skipN, if_pos (by decide), skipN, if_neg (by decide), if_pos (by decide), note_all n h]
  unfold tailL
  rcases b with _ | _
  · rw [skipN, if_pos (by decide), e]; simp
  · rw [skipN, if_neg (by decide), e]; simp
theorem skip_app (n l : List UInt8) (h : ∀ b ∈ n, b ≠ 10) (b : Bool) : skipN b (l ++ tailL n) = if skipN b l < l.length then skipN b l else l.length + (tailL n).length := by
  induction l generalizing b with
  | nil => rw [List.nil_append, tail_skip n h]; cases b <;> simp [skipN]
  | cons c r ih =>
    rw [List.cons_append]
    rcases b with _ | _
    · by_cases h1 : gapB c.toNat = true
      · have e1 : skipN false (c :: r) = skipN false r + 1 := by rw [skipN, if_pos h1]
        rw [e1, skipN, if_pos h1, ih false]
        simp only [List.length_cons]
        split <;> split <;> omega
      · by_cases h2 : c.toNat = 35
        · have e1 : skipN false (c :: r) = skipN true r + 1 := by rw [skipN, if_neg h1, if_pos h2]
          rw [e1, skipN, if_neg h1, if_pos h2, ih true]
          simp only [List.length_cons]
          split <;> split <;> omega
        · have e1 : skipN false (c :: r) = 0 := by rw [skipN, if_neg h1, if_neg h2]
          rw [e1, skipN, if_neg h1, if_neg h2, if_pos (by simp)]
    · by_cases h1 : noteB c.toNat = true
      · have e1 : skipN true (c :: r) = skipN true r + 1 := by rw [skipN, if_pos h1]
        rw [e1, skipN, if_pos h1, ih true]
        simp only [List.length_cons]
        split <;> split <;> omega
      · have e1 : skipN true (c :: r) = skipN false r + 1 := by rw [skipN, if_neg h1]
        rw [e1, skipN, if_neg h1, ih false]
        simp only [List.length_cons]
        split <;> split <;> omega
theorem past_app (p : Int → Bool) (h : p 10 = false) (l r : List UInt8) : pastN p (l ++ 10 :: r) = pastN p l := by
  induction l with
  | nil =>
    have h' : ¬ p ((10 : UInt8).toNat : Int) = true := by
      have e : p ((10 : UInt8).toNat : Int) = false := h
      rw [e]; decide
    show pastN p (10 :: r) = 0
    rw [pastN, if_neg h']
  | cons c s ih =>
    rw [List.cons_append, pastN, pastN, ih]
theorem take_past (p : Int → Bool) (h : p 10 = false) (l r : List UInt8) : (l ++ 10 :: r).take (pastN p (l ++ 10 :: r)) = l.take (pastN p l) := by
  rw [past_app p h, List.take_append_of_le_length (pastN_le p l)]

theorem signU_top (z : Nat) (l : List UInt8) (y : Nat) (h1 : 1 ≤ y) (h2 : y ≤ z) (h : signB (l.take y) = true) : y ≤ signU z l := by
  induction z with
  | zero => omega
  | succ z ih =>
    unfold signU
    split
    · exact h2
    · rename_i hn
      rcases Nat.lt_or_ge z y with hz | hz
      · have e : y = z + 1 := by omega
        subst e
        exact absurd h hn
      · exact ih hz
theorem signU_is (z : Nat) (l : List UInt8) : signU z l = 0 ∨ signB (l.take (signU z l)) = true := by
  induction z with
  | zero => exact .inl rfl
  | succ z ih =>
    unfold signU
    split
    · rename_i h; exact .inr h
    · exact ih
theorem sign_plain : ∀ x ∈ signW, ∀ b ∈ x, gapB (b.toNat : Int) = false ∧ b ≠ 35 := by decide
theorem sign_no (l : List UInt8) (c : UInt8) (r : List UInt8) (y : Nat) (hc : gapB (c.toNat : Int) = true) (h : l.length < y) : signB ((l ++ c :: r).take y) = false := by
  rcases hb : signB ((l ++ c :: r).take y) with _ | _
  · rfl
  · exfalso
    unfold signB at hb
    rw [List.any_eq_true] at hb
    obtain ⟨x, hx, he⟩ := hb
    have he : (l ++ c :: r).take y = x := by simpa using he
    have hm : c ∈ x := by
      rw [← he]
      have e : y = l.length + (y - l.length) := by omega
      have e2 : y - l.length = (y - l.length - 1) + 1 := by omega
      rw [e, List.take_length_add_append, e2, List.take_succ_cons]
      simp
    have := (sign_plain x hx c hm).1
    rw [hc] at this
    cases this
theorem sign_app (l : List UInt8) (c : UInt8) (r : List UInt8) (hc : gapB (c.toNat : Int) = true) : signN (l ++ c :: r) = signN l := by
  have hz := signU_le (min 3 (l ++ c :: r).length) (l ++ c :: r)
  have hy := signU_le (min 3 l.length) l
  apply Nat.le_antisymm
  · unfold signN
    rcases signU_is (min 3 (l ++ c :: r).length) (l ++ c :: r) with e | e
    · omega
    · rcases Nat.lt_or_ge l.length (signU (min 3 (l ++ c :: r).length) (l ++ c :: r)) with h | h
      · rw [sign_no l c r _ hc h] at e; cases e
      · rcases Nat.eq_zero_or_pos (signU (min 3 (l ++ c :: r).length) (l ++ c :: r)) with h0 | h0
        · omega
        · rw [List.take_append_of_le_length h] at e
          exact signU_top _ l _ h0 (by omega) e
  · unfold signN
    rcases signU_is (min 3 l.length) l with e | e
    · omega
    · rcases Nat.eq_zero_or_pos (signU (min 3 l.length) l) with h0 | h0
      · omega
      · refine signU_top _ _ _ h0 (by rw [List.length_append]; omega) ?_
        rw [List.take_append_of_le_length (by omega)]
        exact e
theorem word_app (k : Nat) (l r : List UInt8) (hl : l ≠ []) : wordT k (l ++ 10 :: r) = wordT k l := by
  rcases l with _ | ⟨c, s⟩
  · exact absurd rfl hl
  · have h1 := take_past nameB (by decide) (c :: s) r
    have h2 := take_past digitB (by decide) (c :: s) r
    have h3 := sign_app (c :: s) 10 r (by decide)
    have h4 : ((c :: s) ++ 10 :: r).take (signN ((c :: s) ++ 10 :: r)) = (c :: s).take (signN (c :: s)) := by
      rw [h3]
      have := signU_le (min 3 (c :: s).length) (c :: s)
      exact List.take_append_of_le_length (by unfold signN; omega)
    rw [List.cons_append] at h1 h2 h3 h4 ⊢
    rw [wordT, wordT]
    unfold nameT numT signT
    rw [h1, h2, h3]
    rw [h3] at h4
    rw [h4]
theorem lexU_tail (n : List UInt8) (h : ∀ b ∈ n, b ≠ 10) (P : Nat) (m : Nat) (l : List UInt8) (k : Nat) (hm : l.length ≤ m) :
    lexU (k + P) (l ++ tailL n) = ((lexU k l).1.map (Tk.later P), (lexU k l).2.map (· + P)) := by
  induction m generalizing l k with
  | zero =>
    have e : l = [] := List.eq_nil_of_length_eq_zero (by omega)
    subst e
    rw [lexU_end (by rw [List.nil_append]; exact tail_skip n h false), lexU_end (k := k) (l := []) rfl]
    rfl
  | succ m ih =>
    have hs := skip_app n l h false
    rcases Nat.lt_or_ge (skipN false l) l.length with hg | hg
    · rw [if_pos hg] at hs
      have hd : (l ++ tailL n).drop (skipN false l) = l.drop (skipN false l) ++ tailL n := List.drop_append_of_le_length (by omega)
      have hne : l.drop (skipN false l) ≠ [] := by intro e; have := congrArg List.length e; rw [List.length_drop] at this; simp at this; omega
      have hwt : wordT (k + P + skipN false (l ++ tailL n)) ((l ++ tailL n).drop (skipN false (l ++ tailL n))) = (wordT (k + skipN false l) (l.drop (skipN false l))).map (Tk.later P) := by
        rw [hs, hd]
        unfold tailL
        rw [word_app _ _ _ hne, ← word_later]
        congr 1
        omega
      rcases hw : wordT (k + skipN false l) (l.drop (skipN false l)) with _ | t
      · rw [hw] at hwt
        rw [lexU_bad (by rw [hs, List.length_append]; omega) hwt, lexU_bad hg hw, hs]
        simp
        omega
      · rw [hw] at hwt
        obtain ⟨_, b1, b2, _⟩ := word_has hw
        rw [List.length_drop] at b2
        rw [lexU_good hwt, lexU_good hw, hs]
        have hd2 : (l ++ tailL n).drop (skipN false l + (Tk.later P t).bytes.length) = l.drop (skipN false l + t.bytes.length) ++ tailL n := List.drop_append_of_le_length (by show skipN false l + t.bytes.length ≤ _; omega)
        have he : k + P + skipN false l + (Tk.later P t).bytes.length = k + skipN false l + t.bytes.length + P := by show k + P + skipN false l + t.bytes.length = _; omega
        have hi := ih (l.drop (skipN false l + t.bytes.length)) (k + skipN false l + t.bytes.length) (by rw [List.length_drop]; omega)
        rw [hd2, he, hi]
        rfl
    · rw [if_neg (by omega)] at hs
      have hle := skipN_le false l
      rw [lexU_end (by rw [hs, List.length_append]), lexU_end (k := k) (by omega)]
      rfl
/-- A text between notes. -/
def noted (n l : List UInt8) : List UInt8 := 35 :: (n ++ 10 :: (l ++ tailL n))
theorem note_past (n r : List UInt8) (h : ∀ b ∈ n, b ≠ 10) : skipN true (n ++ 10 :: r) = n.length + 1 + skipN false r := by
  induction n with
  | nil => rw [List.nil_append, skipN, if_neg (by decide)]; simp; omega
  | cons a s ih =>
    have ha : noteB a.toNat = true := by
      unfold noteB
      have h1 := h a (by simp)
      have h2 : a.toNat ≠ 10 := fun e => h1 (UInt8.toNat_inj.mp e)
      simp; omega
    rw [List.cons_append, skipN, if_pos ha, ih (fun b hb => h b (by simp [hb]))]; simp; omega
theorem lexS_noted (n l : List UInt8) (h : ∀ b ∈ n, b ≠ 10) : lexS (noted n l) = ((lexS l).1.map (Tk.later (n.length + 2)), (lexS l).2.map (· + (n.length + 2))) := by
  have hs : skipN false (noted n l) = n.length + 2 + skipN false (l ++ tailL n) := by
    unfold noted
    rw [skipN, if_neg (by decide), if_pos (by decide), note_past n _ h]; omega
  have e : lexS (noted n l) = lexU (0 + (n.length + 2)) (l ++ tailL n) := by
    unfold lexS lexU
    rw [hs, Nat.zero_add]
    have hd : (noted n l).drop (n.length + 2) = l ++ tailL n := by
      unfold noted
      rw [List.drop_succ_cons, List.drop_length_add_append]
      rfl
    rw [← List.drop_drop, hd]
  rw [e, lexU_tail n h (n.length + 2) l.length l 0 (Nat.le_refl _), lexS_U]
end Go.Proofs.YtiadbeglhnocoaaGreatDoor
namespace Go.Proofs.YtiadbeglhnocoaaGreatDoor
set_option linter.unusedVariables false
set_option linter.unusedSimpArgs false
open Go.RowKit

theorem take_all (p : Int → Bool) (l : List UInt8) : ∀ c ∈ l.take (pastN p l), p (c.toNat : Int) = true := by
  induction l with
  | nil => simp
  | cons a r ih =>
    unfold pastN
    split
    · rename_i h
      intro c hc
      rw [List.take_succ_cons] at hc
      rcases List.mem_cons.mp hc with rfl | hc
      · exact h
      · exact ih c hc
    · simp
theorem past_closed (p : Int → Bool) (h32 : p 32 = false) (b r : List UInt8) (h : ∀ c ∈ b, p (c.toNat : Int) = true) : pastN p (b ++ 32 :: r) = b.length := by
  induction b with
  | nil =>
    have h' : ¬ p ((32 : UInt8).toNat : Int) = true := by
      have e : p ((32 : UInt8).toNat : Int) = false := h32
      rw [e]; decide
    show pastN p (32 :: r) = 0
    rw [pastN, if_neg h']
  | cons a s ih =>
    rw [List.cons_append, pastN, if_pos (h a (by simp)), ih (fun c hc => h c (by simp [hc]))]
    rfl
theorem take_closed (b r : List UInt8) (n : Nat) (h : n = b.length) : (b ++ r).take n = b := by subst h; simp
theorem sign_self (b : List UInt8) (h : signB b = true) (h3 : b.length ≤ 3) : signN b = b.length := by
  have hy := signU_le (min 3 b.length) b
  apply Nat.le_antisymm
  · unfold signN; omega
  · rcases Nat.eq_zero_or_pos b.length with h0 | h0
    · omega
    · exact signU_top _ b _ h0 (by omega) (by rw [List.take_length]; exact h)

/-- A word, a space behind it, is the word again; what begins a word is no gap. -/
theorem word_join {k : Nat} {l : List UInt8} {t : Tk} (h : wordT k l = some t) (k' : Nat) (r : List UInt8) :
    wordT k' (t.bytes ++ 32 :: r) = some ⟨t.kind, k', t.num, t.bytes⟩ ∧ skipN false (t.bytes ++ 32 :: r) = 0 := by
  obtain ⟨_, b1, b2, b3⟩ := word_has h
  rcases l with _ | ⟨c, s⟩
  · simp [wordT] at h
  · obtain ⟨m, hm⟩ : ∃ m, t.bytes.length = m + 1 := ⟨t.bytes.length - 1, by omega⟩
    have hb : t.bytes = c :: s.take m := by rw [b3, hm, List.take_succ_cons]
    rw [wordT] at h
    by_cases hl : letterB c.toNat = true
    · rw [if_pos hl] at h
      obtain rfl := Option.some.inj h
      have hall : ∀ x ∈ (nameT k (c :: s)).bytes, nameB (x.toNat : Int) = true := take_all nameB (c :: s)
      have hp := past_closed nameB (by decide) _ r hall
      have hg : gapB (c.toNat : Int) = false ∧ c.toNat ≠ 35 := by
        unfold letterB at hl
        unfold gapB
        simp at hl ⊢
        omega
      have ht := take_closed (nameT k (c :: s)).bytes (32 :: r) _ hp
      have hk : (nameT k (c :: s)).kind = if keptB (nameT k (c :: s)).bytes = true then 3 else 1 := rfl
      have hn : (nameT k (c :: s)).num = 0 := rfl
      rw [hk, hn]
      generalize (nameT k (c :: s)).bytes = B at *
      subst hb
      rw [List.cons_append] at hp ht ⊢
      refine ⟨?_, ?_⟩
      · rw [wordT, if_pos hl]
        unfold nameT
        rw [ht]
      · rw [skipN, if_neg (by simp [hg.1]), if_neg hg.2]
    · rw [if_neg hl] at h
      by_cases hd : digitB c.toNat = true
      · rw [if_pos hd] at h
        unfold numT at h
        have hall := take_all digitB (c :: s)
        rcases hp : Lib.parseUintB 64 ((c :: s).take (pastN digitB (c :: s))) with u | _ | _
        · rw [hp] at h
          obtain rfl := Option.some.inj h
          simp only at hb b1 b2 b3 hm ⊢
          generalize (c :: s).take (pastN digitB (c :: s)) = B at *
          have hq := past_closed digitB (by decide) B r hall
          have ht := take_closed B (32 :: r) _ hq
          have hg : gapB (c.toNat : Int) = false ∧ c.toNat ≠ 35 := by
            unfold digitB at hd
            unfold gapB
            simp at hd ⊢
            omega
          subst hb
          rw [List.cons_append] at hq ht ⊢
          refine ⟨?_, ?_⟩
          · rw [wordT, if_neg hl, if_pos hd]
            unfold numT
            rw [ht, hp]
          · rw [skipN, if_neg (by simp [hg.1]), if_neg hg.2]
        · rw [hp] at h; cases h
        · rw [hp] at h; cases h
      · rw [if_neg hd] at h
        unfold signT at h
        by_cases h0 : signN (c :: s) = 0
        · rw [if_pos h0] at h; cases h
        · rw [if_neg h0] at h
          obtain rfl := Option.some.inj h
          simp only at hb b1 b2 b3 hm ⊢
          have hle := signU_le (min 3 (c :: s).length) (c :: s)
          have hsb : signB ((c :: s).take (signN (c :: s))) = true := by
            rcases signU_is (min 3 (c :: s).length) (c :: s) with e | e
            · exact absurd e h0
            · exact e
          have hlen : ((c :: s).take (signN (c :: s))).length = signN (c :: s) := by
            rw [List.length_take]; unfold signN; omega
          have hself := sign_self _ hsb (by rw [hlen]; unfold signN; omega)
          have hplain : gapB (c.toNat : Int) = false ∧ c ≠ 35 := by
            unfold signB at hsb
            rw [List.any_eq_true] at hsb
            obtain ⟨x, hx, he⟩ := hsb
            have he : (c :: s).take (signN (c :: s)) = x := by simpa using he
            exact sign_plain x hx c (by rw [← he, hb]; simp)
          generalize (c :: s).take (signN (c :: s)) = B at *
          have happ := sign_app B 32 r (by decide)
          rw [hself] at happ
          have ht := take_closed B (32 :: r) _ happ
          have h35 : c.toNat ≠ 35 := fun e => hplain.2 (UInt8.toNat_inj.mp e)
          have hne : ¬ signN (B ++ 32 :: r) = 0 := by omega
          subst hb
          rw [List.cons_append] at happ ht hne ⊢
          refine ⟨?_, ?_⟩
          · rw [wordT, if_neg hl, if_neg hd]
            unfold signT
            rw [if_neg hne, ht]
          · rw [skipN, if_neg (by simp [hplain.1]), if_neg h35]

theorem lexU_space (k : Nat) (X : List UInt8) : lexU k (32 :: X) = lexU (k + 1) X := by
  have e : skipN false (32 :: X) = skipN false X + 1 := by rw [skipN, if_pos (by decide)]
  unfold lexU
  rw [e, List.drop_succ_cons]
  congr 1
  omega
/-- The bytes of words, a space behind each. -/
def preL (ts : List Tk) : List UInt8 := ts.flatMap fun t => t.bytes ++ [32]
/-- Words, at the places that they have then. -/
def placed : Nat → List Tk → List Tk
  | _, [] => []
  | k, t :: r => ⟨t.kind, k, t.num, t.bytes⟩ :: placed (k + t.bytes.length + 1) r
theorem placed_len (k : Nat) (R : List Tk) : (placed k R).length = R.length := by
  induction R generalizing k with
  | nil => rfl
  | cons t r ih => simp [placed, ih]
theorem placed_at (R : List Tk) (k i : Nat) (t : Tk) (h : R[i]? = some t) : ∃ a, (placed k R)[i]? = some ⟨t.kind, a, t.num, t.bytes⟩ := by
  induction R generalizing k i with
  | nil => simp at h
  | cons u r ih =>
    rcases i with _ | i
    · simp at h; subst h; exact ⟨k, rfl⟩
    · obtain ⟨a, ha⟩ := ih (k + u.bytes.length + 1) i (by simpa using h)
      exact ⟨a, by simpa [placed] using ha⟩
theorem join_lex (R : List Tk) (h : ∀ t ∈ R, ∃ k l, wordT k l = some t) (k : Nat) : lexU k (preL R ++ [32]) = (placed k R, none) := by
  induction R generalizing k with
  | nil => exact lexU_end rfl
  | cons t r ih =>
    obtain ⟨k0, l0, hw⟩ := h t (by simp)
    have e : preL (t :: r) ++ [32] = t.bytes ++ 32 :: (preL r ++ [32]) := by simp [preL]
    have h0 := (word_join hw (k + skipN false (t.bytes ++ 32 :: (preL r ++ [32]))) (preL r ++ [32])).1
    have hs := (word_join hw k (preL r ++ [32])).2
    rw [hs] at h0
    have hg := lexU_good (k := k) (l := t.bytes ++ 32 :: (preL r ++ [32])) (t := ⟨t.kind, k, t.num, t.bytes⟩) (by rw [hs, List.drop_zero]; exact h0)
    rw [hs] at hg
    rw [e, hg]
    have hd : (t.bytes ++ 32 :: (preL r ++ [32])).drop (0 + t.bytes.length) = 32 :: (preL r ++ [32]) := by rw [Nat.zero_add, List.drop_left]
    show (_ :: (lexU (k + 0 + t.bytes.length) ((t.bytes ++ 32 :: (preL r ++ [32])).drop (0 + t.bytes.length))).1, _) = _
    rw [hd, lexU_space, ih (fun u hu => h u (by simp [hu]))]
    rfl
/-- Each word of a text is one, stands where it says, and has the text's bytes; all of them together are no longer than the text. -/
theorem lexF_words (L : List UInt8) (f k : Nat) (hk : k ≤ L.length) : (∀ t ∈ (lexF f k (L.drop k)).1, (∃ k l, wordT k l = some t) ∧ t.at_ + t.bytes.length ≤ L.length ∧ t.bytes = (L.drop t.at_).take t.bytes.length) ∧ (preL (lexF f k (L.drop k)).1).length ≤ 2 * (L.length - k) := by
  induction f generalizing k with
  | zero => exact ⟨fun t ht => by simp [lexF] at ht, by simp [lexF, preL]⟩
  | succ f ih =>
    rcases hl : L.drop k with _ | ⟨c, r⟩
    · exact ⟨fun t ht => by simp [lexF] at ht, by simp [lexF, preL]⟩
    · unfold lexF
      rcases hw : wordT k (c :: r) with _ | u
      · exact ⟨fun t ht => by simp at ht, by simp [preL]⟩
      · have hs := step_le hw
        obtain ⟨ha, h1, h2, h3⟩ := word_has hw
        have hlen : (c :: r).length = L.length - k := by rw [← hl, List.length_drop]
        have hst : u.bytes.length ≤ stepN (c :: r) u := by unfold stepN; omega
        have hd : (c :: r).drop (stepN (c :: r) u) = L.drop (k + stepN (c :: r) u) := by rw [← hl, List.drop_drop]
        obtain ⟨i1, i2⟩ := ih (k + stepN (c :: r) u) (by omega)
        simp only [hd]
        refine ⟨fun t ht => ?_, ?_⟩
        · rcases List.mem_cons.mp ht with rfl | ht
          · refine ⟨⟨k, c :: r, hw⟩, by omega, ?_⟩
            rw [ha, hl]; exact h3
          · exact i1 t ht
        · have e : preL (u :: (lexF f (k + stepN (c :: r) u) (L.drop (k + stepN (c :: r) u))).1) = (u.bytes ++ [32]) ++ preL (lexF f (k + stepN (c :: r) u) (L.drop (k + stepN (c :: r) u))).1 := by simp [preL]
          rw [e, List.length_append, List.length_append, List.length_singleton]
          omega
theorem lexS_words {L : List UInt8} {R : List Tk} {O : Option Nat} (h : lexS L = (R, O)) : (∀ t ∈ R, (∃ k l, wordT k l = some t) ∧ t.at_ + t.bytes.length ≤ L.length ∧ t.bytes = (L.drop t.at_).take t.bytes.length) ∧ (preL R).length ≤ 2 * L.length := by
  have hl := skipN_le false L
  have hb := lexF_words L ((L.drop (skipN false L)).length + 1) (skipN false L) hl
  have e : lexF ((L.drop (skipN false L)).length + 1) (skipN false L) (L.drop (skipN false L)) = (R, O) := h
  rw [e] at hb
  exact ⟨hb.1, by have h2 : (preL R).length ≤ 2 * (L.length - skipN false L) := hb.2; omega⟩
end Go.Proofs.YtiadbeglhnocoaaGreatDoor
namespace Go.Proofs.YtiadbeglhnocoaaGreatDoor
set_option linter.unusedVariables false
set_option linter.unusedSimpArgs false
open Go.RowKit

/-- Neither blocks nor brackets are left open. -/
def Even (s s' : PS) : Prop := s'.nest = s.nest ∧ s'.deep = s.deep
theorem Even.refl (s : PS) : Even s s := ⟨rfl, rfl⟩
theorem Even.trans {a b c : PS} (h : Even a b) (k : Even b c) : Even a c := ⟨k.1.trans h.1, k.2.trans h.2⟩
theorem even_next (s : PS) : Even s s.next := by unfold PS.next; split <;> exact ⟨rfl, rfl⟩
theorem even_fail (s : PS) (k a : Int) : Even s (s.fail k a) := ⟨rfl, rfl⟩
theorem even_refuse (s : PS) (t : Tk) : Even s (s.refuse t) := ⟨rfl, rfl⟩
theorem even_need1 (s : PS) (x : List UInt8) : Even s (s.need1 x) := by unfold PS.need1; split; all_goals first | exact even_next s | exact even_refuse s _
theorem even_take (s : PS) (x : List UInt8) : Even s (s.takeP x) := by unfold PS.takeP; split; all_goals first | exact even_next s | exact Even.refl s
theorem even_name (s : PS) : Even s s.nameP := by unfold PS.nameP; split; all_goals first | exact even_next s | exact (even_next s).trans (even_refuse _ _)
theorem even_needs (l : List (List UInt8)) (s : PS) : Even s (PS.needs l s) := by
  induction l generalizing s with
  | nil => exact Even.refl s
  | cons x r ih => exact (even_need1 s x).trans (ih _)
theorem enter_nest (s : PS) : s.enter.nest = s.nest + 1 ∧ s.enter.deep = s.deep := by unfold PS.enter; split <;> exact ⟨rfl, rfl⟩
theorem leave_nest (s : PS) : s.leave.nest = s.nest - 1 ∧ s.leave.deep = s.deep := ⟨rfl, rfl⟩
/-- What is between entering and leaving is even. -/
theorem even_in {s s2 : PS} (h : Even s.enter s2) : Even s s2.leave := by
  have h1 := enter_nest s
  have h2 := leave_nest s2
  refine ⟨?_, ?_⟩
  · rw [h2.1, h.1, h1.1]; omega
  · rw [h2.2, h.2, h1.2]
theorem even_whole (s : PS) (k a o n : Int) (x : ByteArray) (l : List Part) : Even s (wholeP s k a o n x l).2 := by unfold wholeP; split; all_goals first | exact even_fail s _ _ | exact Even.refl s
theorem even_counted (lo hi : Nat) (s : PS) (k a o n : Int) (x : ByteArray) (l : List Part) : Even s (countedP lo hi s k a o n x l).2 := by
  unfold countedP
  split
  · exact (even_fail s _ _).trans (even_whole _ _ _ _ _ _ _)
  · exact even_whole _ _ _ _ _ _ _
theorem deep_nn (l : List Part) : 0 ≤ deepest l := by
  cases l with
  | nil => exact Int.le_refl _
  | cons x r =>
    induction r generalizing x with
    | nil => simp [deepest]; omega
    | cons y r ih => have := ih y; simp only [deepest] at this ⊢; omega
theorem deep_le (l : List Part) (B : Int) (hB : 0 ≤ B) (h : ∀ p ∈ l, p.2 ≤ B) : deepest l ≤ B := by
  induction l with
  | nil => simpa [deepest]
  | cons x r ih =>
    have h1 := h x (by simp)
    have h2 := ih (fun p hp => h p (by simp [hp]))
    simp only [deepest]
    omega
theorem whole_deep (s : PS) (k a o n : Int) (x : ByteArray) (l : List Part) (B : Int) (hB : 0 ≤ B) (h : ∀ p ∈ l, p.2 ≤ B) : 0 ≤ (wholeP s k a o n x l).1.2 ∧ (wholeP s k a o n x l).1.2 ≤ B + 1 := by
  have h1 := deep_nn l
  have h2 := deep_le l B hB h
  unfold wholeP
  exact ⟨by simp; omega, by simp; omega⟩
theorem counted_deep (lo hi : Nat) (s : PS) (k a o n : Int) (x : ByteArray) (l : List Part) (B : Int) (hB : 0 ≤ B) (h : ∀ p ∈ l, p.2 ≤ B) : 0 ≤ (countedP lo hi s k a o n x l).1.2 ∧ (countedP lo hi s k a o n x l).1.2 ≤ B + 1 := whole_deep _ _ _ _ _ _ _ B hB h
/-- So deep a part can be that was read with so much fuel. -/
def mostD (k : Nat) : Int := ((k * k : Nat) : Int)
theorem mostD_succ (k : Nat) : mostD (k + 1) = mostD k + 2 * (k : Int) + 1 := by
  unfold mostD
  have : (k + 1) * (k + 1) = k * k + 2 * k + 1 := by rw [Nat.add_mul, Nat.mul_add]; omega
  rw [this]
  omega
theorem mostD_nn (k : Nat) : 0 ≤ mostD k := by unfold mostD; omega
/-- What the readers of expressions come to. -/
structure Pure (k : Nat) : Prop where
  expr : ∀ s r, exprK k s = some r → Even s r.2 ∧ 0 ≤ r.1.2 ∧ r.1.2 ≤ mostD k
  betw : ∀ least s r, betwK k least s = some r → Even s r.2 ∧ 0 ≤ r.1.2 ∧ r.1.2 ≤ mostD k
  loop : ∀ least (l : Part) s r, 0 ≤ l.2 → loopK k least l s = some r → Even s r.2 ∧ 0 ≤ r.1.2 ∧ r.1.2 ≤ max l.2 (mostD k) + k
  ahead : ∀ s r, aheadK k s = some r → Even s r.2 ∧ 0 ≤ r.1.2 ∧ r.1.2 ≤ mostD k
  index : ∀ (f : Part) s r, 0 ≤ f.2 → indexK k f s = some r → Even s r.2 ∧ 0 ≤ r.1.2 ∧ r.1.2 ≤ max f.2 (mostD k) + k
  parts : ∀ o e s r, partsK k o e s = some r → Even s r.2 ∧ r.1.length ≤ k ∧ ∀ p ∈ r.1, 0 ≤ p.2 ∧ p.2 ≤ mostD k
  many : ∀ (B : Int) (l : List Part) s r, mostD k ≤ B → (∀ p ∈ l, 0 ≤ p.2 ∧ p.2 ≤ B) → manyK k l s = some r → Even s r.2 ∧ r.1.length ≤ l.length + k ∧ ∀ p ∈ r.1, 0 ≤ p.2 ∧ p.2 ≤ B
  first : ∀ s r, firstK k s = some r → Even s r.2 ∧ 0 ≤ r.1.2 ∧ r.1.2 ≤ mostD k
  called : ∀ t s r, calledK k t s = some r → Even s r.2 ∧ 0 ≤ r.1.2 ∧ r.1.2 ≤ mostD k
  kept : ∀ t s r, keptK k t s = some r → Even s r.2 ∧ 0 ≤ r.1.2 ∧ r.1.2 ≤ mostD k
theorem all_snoc {P : Part → Prop} {l : List Part} {x : Part} (h : ∀ p ∈ l, P p) (hx : P x) : ∀ p ∈ l ++ [x], P p := fun p hp => by
  simp only [List.mem_append, List.mem_singleton] at hp
  rcases hp with hp | rfl
  · exact h p hp
  · exact hx
theorem pure_zero : Pure 0 where
  expr := fun s r h => by simp [exprK] at h
  betw := fun _ s r h => by simp [betwK] at h
  loop := fun _ _ s r _ h => by simp [loopK] at h
  ahead := fun s r h => by simp [aheadK] at h
  index := fun _ s r _ h => by simp [indexK] at h
  parts := fun _ _ s r h => by simp [partsK] at h
  many := fun _ _ s r _ _ h => by simp [manyK] at h
  first := fun s r h => by simp [firstK] at h
  called := fun _ s r h => by simp [calledK] at h
  kept := fun _ s r h => by simp [keptK] at h
theorem pure_leaf (k : Nat) (s : PS) (c a o n : Int) (x : ByteArray) : Even s (wholeP s c a o n x []).2 ∧ 0 ≤ (wholeP s c a o n x []).1.2 ∧ (wholeP s c a o n x []).1.2 ≤ mostD (k + 1) := by
  have h1 := whole_deep s c a o n x [] 0 (by omega) (fun p hp => by simp at hp)
  have h2 := mostD_succ k
  have h3 := mostD_nn k
  exact ⟨even_whole _ _ _ _ _ _ _, h1.1, by omega⟩
theorem pure_succ (k : Nat) (ih : Pure k) : Pure (k + 1) where
  expr := fun s r h => by
    have h2 := mostD_succ k
    obtain ⟨h3, h4, h5⟩ := ih.betw 1 s r (by simpa only [exprK] using h)
    exact ⟨h3, h4, by omega⟩
  betw := fun least s r h => by
    have h2 := mostD_succ k
    simp only [betwK] at h
    cases ha : aheadK k s with
    | none => rw [ha] at h; cases h
    | some q =>
      rw [ha] at h
      obtain ⟨l, s1⟩ := q
      obtain ⟨h3, h4, h5⟩ := ih.ahead s _ ha
      obtain ⟨h6, h7, h8⟩ := ih.loop least l s1 r h4 h
      simp only at h3 h4 h5
      exact ⟨h3.trans h6, h7, by omega⟩
  loop := fun least l s r hl h => by
    have h2 := mostD_succ k
    have h0 := mostD_nn k
    simp only [loopK] at h
    split at h
    · simp only [Option.some.injEq] at h
      subst h
      exact ⟨Even.refl s, hl, by simp only; omega⟩
    · cases hb : betwK k (rankOf s.now.bytes + 1) s.next with
      | none => rw [hb] at h; cases h
      | some q =>
        rw [hb] at h
        obtain ⟨rr, s2⟩ := q
        obtain ⟨h3, h4, h5⟩ := ih.betw _ _ _ hb
        simp only at h h3 h4 h5
        have hw := whole_deep s2 (kindOf (rankOf s.now.bytes)) s.now.at_ (opOf s.now.bytes) 0 ⟨#[]⟩ [l, rr] (max l.2 (mostD k)) (by omega) (fun p hp => by
          simp only [List.mem_cons, List.not_mem_nil, or_false] at hp
          rcases hp with rfl | rfl <;> omega)
        have he := even_whole s2 (kindOf (rankOf s.now.bytes)) s.now.at_ (opOf s.now.bytes) 0 ⟨#[]⟩ [l, rr]
        obtain ⟨h6, h7, h8⟩ := ih.loop least _ _ r hw.1 h
        refine ⟨((even_next s).trans (h3.trans he)).trans (Even.trans ?_ h6), h7, by omega⟩
        split
        · exact even_refuse _ _
        · exact Even.refl _
  ahead := fun s r h => by
    have h2 := mostD_succ k
    have h0 := mostD_nn k
    simp only [aheadK] at h
    split at h
    · cases hf : firstK k s with
      | none => rw [hf] at h; cases h
      | some q =>
        rw [hf] at h
        obtain ⟨f, s1⟩ := q
        obtain ⟨h3, h4, h5⟩ := ih.first s _ hf
        obtain ⟨h6, h7, h8⟩ := ih.index f s1 r h4 h
        simp only at h3 h4 h5
        exact ⟨h3.trans h6, h7, by omega⟩
    · cases hf : aheadK k s.next.enter with
      | none => rw [hf] at h; cases h
      | some q =>
        rw [hf] at h
        obtain ⟨x, s2⟩ := q
        obtain ⟨h3, h4, h5⟩ := ih.ahead _ _ hf
        simp only [Option.some.injEq] at h h3 h4 h5
        subst h
        have hw := whole_deep s2 4 s.now.at_ (turnOf s.now.bytes) 0 ⟨#[]⟩ [x] (mostD k) h0 (fun p hp => by
          simp only [List.mem_singleton] at hp
          rw [hp]; exact h5)
        have he := even_whole s2 4 s.now.at_ (turnOf s.now.bytes) 0 ⟨#[]⟩ [x]
        exact ⟨(even_next s).trans (even_in (h3.trans he)), hw.1, by simp only; omega⟩
  index := fun f s r hf h => by
    have h2 := mostD_succ k
    have h0 := mostD_nn k
    simp only [indexK] at h
    split at h
    · cases hp : partsK k ([91] : List UInt8) ([93] : List UInt8) s with
      | none => rw [hp] at h; cases h
      | some q =>
        rw [hp] at h
        obtain ⟨l, s1⟩ := q
        obtain ⟨h3, h4, h5⟩ := ih.parts _ _ _ _ hp
        simp only at h h3 h5
        have hw := counted_deep 2 3 s1 9 s.now.at_ 0 0 ⟨#[]⟩ (f :: l) (max f.2 (mostD k)) (by omega) (fun p hp => by
          simp only [List.mem_cons] at hp
          rcases hp with rfl | hp
          · omega
          · have := h5 p hp; omega)
        have he := even_counted 2 3 s1 9 s.now.at_ 0 0 ⟨#[]⟩ (f :: l)
        obtain ⟨h6, h7, h8⟩ := ih.index _ _ r hw.1 h
        exact ⟨(h3.trans he).trans h6, h7, by omega⟩
    · simp only [Option.some.injEq] at h
      subst h
      exact ⟨Even.refl s, hf, by simp only; omega⟩
  parts := fun o e s r h => by
    have h2 := mostD_succ k
    simp only [partsK] at h
    split at h
    · simp only [Option.some.injEq] at h
      subst h
      exact ⟨(even_need1 s o).trans (even_in (even_need1 _ e)), by simp, fun p hp => by simp at hp⟩
    · cases hm : manyK k [] (s.need1 o).enter with
      | none => rw [hm] at h; cases h
      | some q =>
        rw [hm] at h
        obtain ⟨l, s2⟩ := q
        obtain ⟨h3, h4, h5⟩ := ih.many (mostD k) [] _ _ (Int.le_refl _) (fun p hp => by simp at hp) hm
        simp only [Option.some.injEq] at h h3 h4 h5
        subst h
        refine ⟨(even_need1 s o).trans (even_in (h3.trans (even_need1 _ e))), by simp at h4 ⊢; omega, fun p hp => ?_⟩
        have := h5 p hp
        exact ⟨this.1, by omega⟩
  many := fun B l s r hB hl h => by
    have h2 := mostD_succ k
    simp only [manyK] at h
    cases hx : exprK k s with
    | none => rw [hx] at h; cases h
    | some q =>
      rw [hx] at h
      obtain ⟨x, s1⟩ := q
      obtain ⟨h3, h4, h5⟩ := ih.expr _ _ hx
      simp only at h h3 h4 h5
      have hl2 := all_snoc (P := fun p => 0 ≤ p.2 ∧ p.2 ≤ B) hl (x := x) ⟨h4, by omega⟩
      split at h
      · obtain ⟨h6, h7, h8⟩ := ih.many B _ _ r (by omega) hl2 h
        refine ⟨(h3.trans (even_next s1)).trans h6, ?_, h8⟩
        simp at h7
        omega
      · simp only [Option.some.injEq] at h
        subst h
        exact ⟨h3, by simp, hl2⟩
  first := fun s r h => by
    have h2 := mostD_succ k
    simp only [firstK] at h
    split at h
    · cases hx : exprK k (s.need1 ([40] : List UInt8)).enter with
      | none => rw [hx] at h; cases h
      | some q =>
        rw [hx] at h
        obtain ⟨x, s2⟩ := q
        obtain ⟨h3, h4, h5⟩ := ih.expr _ _ hx
        simp only [Option.some.injEq] at h h3 h4 h5
        subst h
        exact ⟨(even_need1 s _).trans (even_in (h3.trans (even_need1 _ _))), h4, by simp only; omega⟩
    · split at h
      · simp only [Option.some.injEq] at h
        subst h
        have := pure_leaf k s.next 1 s.now.at_ 0 s.now.num ⟨#[]⟩
        exact ⟨(even_next s).trans this.1, this.2⟩
      · split at h
        · obtain ⟨h3, h4, h5⟩ := ih.called _ _ _ h
          exact ⟨(even_next s).trans h3, h4, by omega⟩
        · obtain ⟨h3, h4, h5⟩ := ih.kept _ _ _ h
          exact ⟨(even_next s).trans h3, h4, by omega⟩
  called := fun t s r h => by
    have h2 := mostD_succ k
    have h0 := mostD_nn k
    simp only [calledK] at h
    split at h
    · cases hp : partsK k ([40] : List UInt8) ([41] : List UInt8) s with
      | none => rw [hp] at h; cases h
      | some q =>
        rw [hp] at h
        obtain ⟨l, s1⟩ := q
        obtain ⟨h3, h4, h5⟩ := ih.parts _ _ _ _ hp
        simp only [Option.some.injEq] at h h3 h5
        subst h
        have hw := whole_deep s1 8 t.at_ 0 0 (strB t.bytes) l (mostD k) h0 (fun p hp => (h5 p hp).2)
        exact ⟨h3.trans (even_whole _ _ _ _ _ _ _), hw.1, by omega⟩
    · simp only [Option.some.injEq] at h
      subst h
      exact pure_leaf k s 3 t.at_ 0 0 (strB t.bytes)
  kept := fun t s r h => by
    have h2 := mostD_succ k
    have h0 := mostD_nn k
    simp only [keptK] at h
    split at h
    · simp only [Option.some.injEq] at h; subst h; exact pure_leaf k s _ _ _ _ _
    · split at h
      · simp only [Option.some.injEq] at h; subst h; exact pure_leaf k s _ _ _ _ _
      · split at h
        · simp only [Option.some.injEq] at h; subst h; exact pure_leaf k s _ _ _ _ _
        · split at h
          · cases hp : partsK k ([91] : List UInt8) ([93] : List UInt8) s with
            | none => rw [hp] at h; cases h
            | some q =>
              rw [hp] at h
              obtain ⟨l, s1⟩ := q
              obtain ⟨h3, h4, h5⟩ := ih.parts _ _ _ _ hp
              simp only [Option.some.injEq] at h h3 h5
              subst h
              have hw := counted_deep 1 2 s1 10 t.at_ 0 0 ⟨#[]⟩ l (mostD k) h0 (fun p hp => (h5 p hp).2)
              exact ⟨h3.trans (even_counted _ _ _ _ _ _ _ _ _), hw.1, by omega⟩
          · split at h
            · cases hp : partsK k ([40] : List UInt8) ([41] : List UInt8) s with
              | none => rw [hp] at h; cases h
              | some q =>
                rw [hp] at h
                obtain ⟨l, s1⟩ := q
                obtain ⟨h3, h4, h5⟩ := ih.parts _ _ _ _ hp
                simp only [Option.some.injEq] at h h3 h5
                subst h
                have hw := counted_deep 1 1 s1 (if t.bytes == ([108, 101, 110] : List UInt8) then 11 else if t.bytes == ([114, 111, 119, 115] : List UInt8) then 12 else 13) t.at_ 0 0 ⟨#[]⟩ l (mostD k) h0 (fun p hp => (h5 p hp).2)
                exact ⟨h3.trans (even_counted _ _ _ _ _ _ _ _ _), hw.1, by omega⟩
            · simp only [Option.some.injEq] at h
              subst h
              have := pure_leaf k (s.refuse t) 0 t.at_ 0 0 ⟨#[]⟩
              exact ⟨(even_refuse s t).trans this.1, this.2⟩
theorem pure_all : ∀ k, Pure k
  | 0 => pure_zero
  | k + 1 => pure_succ k (pure_all k)
end Go.Proofs.YtiadbeglhnocoaaGreatDoor
namespace Go.Proofs.YtiadbeglhnocoaaGreatDoor
set_option linter.unusedVariables false
set_option linter.unusedSimpArgs false
open Go.RowKit

/-- What is left is the end of what was left. -/
def Sub (s s' : PS) : Prop := s'.left <:+ s.left
theorem Sub.refl (s : PS) : Sub s s := List.suffix_refl _
theorem Sub.trans {a b c : PS} (h : Sub a b) (k : Sub b c) : Sub a c := List.IsSuffix.trans k h
theorem Sub.len {a b : PS} (h : Sub a b) : b.left.length ≤ a.left.length := h.length_le
theorem sub_next (s : PS) : Sub s s.next := by unfold PS.next; split; exact Sub.refl s; exact List.tail_suffix _
theorem sub_fail (s : PS) (k a : Int) : Sub s (s.fail k a) := List.nil_suffix
theorem sub_refuse (s : PS) (t : Tk) : Sub s (s.refuse t) := List.nil_suffix
theorem sub_need1 (s : PS) (x : List UInt8) : Sub s (s.need1 x) := by unfold PS.need1; split; all_goals first | exact sub_next s | exact sub_refuse s _
theorem sub_take (s : PS) (x : List UInt8) : Sub s (s.takeP x) := by unfold PS.takeP; split; all_goals first | exact sub_next s | exact Sub.refl s
theorem sub_name (s : PS) : Sub s s.nameP := by unfold PS.nameP; split; all_goals first | exact sub_next s | exact (sub_next s).trans (sub_refuse _ _)
theorem sub_needs (l : List (List UInt8)) (s : PS) : Sub s (PS.needs l s) := by
  induction l generalizing s with
  | nil => exact Sub.refl s
  | cons x r ih => exact (sub_need1 s x).trans (ih _)
theorem sub_enter (s : PS) : Sub s s.enter := by unfold PS.enter; split; exact List.nil_suffix; exact List.suffix_refl _
theorem sub_leave (s : PS) : Sub s s.leave := List.suffix_refl _
theorem sub_whole (s : PS) (k a o n : Int) (x : ByteArray) (l : List Part) : Sub s (wholeP s k a o n x l).2 := by unfold wholeP; dsimp only; split; all_goals first | exact sub_fail s _ _ | exact Sub.refl s
theorem sub_counted (lo hi : Nat) (s : PS) (k a o n : Int) (x : ByteArray) (l : List Part) : Sub s (countedP lo hi s k a o n x l).2 := by
  unfold countedP
  split
  · exact (sub_fail s _ _).trans (sub_whole _ _ _ _ _ _ _)
  · exact sub_whole _ _ _ _ _ _ _
/-- The end has no bytes. -/
def Wf (s : PS) : Prop := ∀ t ∈ s.left, t.kind = 0 → t.bytes = []
theorem Wf.sub {s s' : PS} (h : Wf s) (k : Sub s s') : Wf s' := fun t ht => h t (k.mem ht)
theorem now_mem (s : PS) (h : s.now.bytes ≠ []) : s.now ∈ s.left := by
  unfold PS.now at *
  cases hl : s.left with
  | nil => rw [hl] at h; exact absurd rfl h
  | cons t r => simp
/-- A word with bytes is read. -/
theorem next_lt {s : PS} (hw : Wf s) (h : s.now.bytes ≠ []) : s.next.left.length + 1 ≤ s.left.length := by
  have h1 := now_mem s h
  have h2 : ¬ s.now.kind = 0 := fun e => h (hw _ h1 e)
  unfold PS.next
  rw [if_neg h2]
  have := List.length_pos_of_mem h1
  simp; omega
theorem isB_ne {s : PS} {x : List UInt8} (h : s.isB x = true) (hx : x ≠ []) : s.now.bytes ≠ [] := by
  unfold PS.isB at h
  have := eq_of_beq h
  rw [this]; exact hx
theorem need1_lt {s : PS} (hw : Wf s) (x : List UInt8) (hx : x ≠ []) : (s.need1 x).left.length + 1 ≤ s.left.length ∨ (s.need1 x).left = [] := by
  unfold PS.need1
  split
  · rename_i h; exact Or.inl (next_lt hw (isB_ne h hx))
  · exact Or.inr rfl
theorem kind_lt {s : PS} (h : s.now.kind ≠ 0) : s.next.left.length + 1 ≤ s.left.length := by
  unfold PS.next
  rw [if_neg h]
  cases hl : s.left with
  | nil => unfold PS.now at h; rw [hl] at h; exact absurd rfl h
  | cons t r => simp
theorem rank_nil : rankOf ([] : List UInt8) = 0 := rfl
theorem turn_nil : turnOf ([] : List UInt8) = 0 := rfl
/-- With so much fuel the readers of expressions come to something. -/
structure Suf (k : Nat) : Prop where
  expr : ∀ s, Wf s → 10 * s.left.length + 8 ≤ k → ∃ r, exprK k s = some r ∧ Sub s r.2
  betw : ∀ least s, 1 ≤ least → Wf s → 10 * s.left.length + 7 ≤ k → ∃ r, betwK k least s = some r ∧ Sub s r.2
  loop : ∀ least (l : Part) s, 1 ≤ least → Wf s → 10 * s.left.length + 1 ≤ k → ∃ r, loopK k least l s = some r ∧ Sub s r.2
  ahead : ∀ s, Wf s → 10 * s.left.length + 6 ≤ k → ∃ r, aheadK k s = some r ∧ Sub s r.2
  index : ∀ (f : Part) s, Wf s → 10 * s.left.length + 2 ≤ k → ∃ r, indexK k f s = some r ∧ Sub s r.2
  parts : ∀ o e s, o ≠ [] → Wf s → (10 * s.left.length + 10 ≤ k ∨ (s.isB o = true ∧ 10 * s.left.length ≤ k)) → ∃ r, partsK k o e s = some r ∧ Sub s r.2 ∧ (s.isB o = true → r.2.left.length + 1 ≤ s.left.length)
  many : ∀ (l : List Part) s, Wf s → 10 * s.left.length + 9 ≤ k → ∃ r, manyK k l s = some r ∧ Sub s r.2
  first : ∀ s, Wf s → 10 * s.left.length + 4 ≤ k → ∃ r, firstK k s = some r ∧ Sub s r.2
  called : ∀ t s, Wf s → 10 * s.left.length + 11 ≤ k → ∃ r, calledK k t s = some r ∧ Sub s r.2
  kept : ∀ t s, Wf s → (10 * s.left.length + 11 ≤ k ∨ (t.bytes = [] ∧ 1 ≤ k)) → ∃ r, keptK k t s = some r ∧ Sub s r.2
theorem suf_zero : Suf 0 where
  expr := fun s _ h => by omega
  betw := fun _ s _ _ h => by omega
  loop := fun _ _ s _ _ h => by omega
  ahead := fun s _ h => by omega
  index := fun _ s _ h => by omega
  parts := fun o _ s ho hw h => by
    exfalso
    rcases h with h | ⟨h1, h2⟩
    · omega
    · have := now_mem s (isB_ne h1 ho)
      have := List.length_pos_of_mem this
      omega
  many := fun _ s _ h => by omega
  first := fun s _ h => by omega
  called := fun _ s _ h => by omega
  kept := fun _ s _ h => by omega
theorem suf_succ (k : Nat) (ih : Suf k) : Suf (k + 1) where
  expr := fun s hw h => by simp only [exprK]; exact ih.betw 1 s (by omega) hw (by omega)
  betw := fun least s hl hw h => by
    simp only [betwK]
    obtain ⟨⟨l, s1⟩, ha, hs⟩ := ih.ahead s hw (by omega)
    rw [ha]
    have := hs.len
    simp only at this hs
    obtain ⟨r, hr, hs2⟩ := ih.loop least l s1 hl (hw.sub hs) (by omega)
    exact ⟨r, hr, hs.trans hs2⟩
  loop := fun least l s hl hw h => by
    simp only [loopK]
    split
    · exact ⟨_, rfl, Sub.refl s⟩
    · rename_i hr
      have hb : s.now.bytes ≠ [] := fun e => by rw [e, rank_nil] at hr; omega
      have hlt := next_lt hw hb
      obtain ⟨⟨r, s2⟩, hb2, hs2⟩ := ih.betw (rankOf s.now.bytes + 1) s.next (by omega) (hw.sub (sub_next s)) (by omega)
      simp only [hb2]
      have hl2 := hs2.len
      simp only at hl2 hs2
      have hs3 := hs2.trans (sub_whole s2 (kindOf (rankOf s.now.bytes)) s.now.at_ (opOf s.now.bytes) 0 ⟨#[]⟩ [l, r])
      obtain ⟨p, hp⟩ : ∃ p, p = wholeP s2 (kindOf (rankOf s.now.bytes)) s.now.at_ (opOf s.now.bytes) 0 ⟨#[]⟩ [l, r] := ⟨_, rfl⟩
      rw [← hp] at hs3 ⊢
      have hs4 : Sub p.2 (if rankOf s.now.bytes = 3 ∧ rankOf p.2.now.bytes = 3 then p.2.refuse p.2.now else p.2) := by split; exact sub_refuse _ _; exact Sub.refl _
      have hs5 := ((sub_next s).trans hs3).trans hs4
      have hl5 := (hs3.trans hs4).len
      obtain ⟨q, hq, hs6⟩ := ih.loop least p.1 _ hl (hw.sub hs5) (by omega)
      exact ⟨q, hq, hs5.trans hs6⟩
  ahead := fun s hw h => by
    simp only [aheadK]
    split
    · obtain ⟨⟨f, s1⟩, hf, hs⟩ := ih.first s hw (by omega)
      rw [hf]
      have := hs.len
      simp only at this hs
      obtain ⟨r, hr, hs2⟩ := ih.index f s1 (hw.sub hs) (by omega)
      exact ⟨r, hr, hs.trans hs2⟩
    · rename_i ht
      have hb : s.now.bytes ≠ [] := fun e => by rw [e, turn_nil] at ht; omega
      have hlt := next_lt hw hb
      have hse := (sub_next s).trans (sub_enter s.next)
      have hle := (sub_enter s.next).len
      obtain ⟨⟨x, s2⟩, hx, hs2⟩ := ih.ahead s.next.enter (hw.sub hse) (by omega)
      rw [hx]
      exact ⟨_, rfl, ((hse.trans hs2).trans (sub_whole _ _ _ _ _ _ _)).trans (sub_leave _)⟩
  index := fun f s hw h => by
    simp only [indexK]
    split
    · rename_i hb
      obtain ⟨⟨l, s1⟩, hp, hs, hl⟩ := ih.parts ([91] : List UInt8) ([93] : List UInt8) s (by simp) hw (Or.inr ⟨hb, by omega⟩)
      rw [hp]
      have hl := hl hb
      simp only at hl hs
      have hs2 := hs.trans (sub_counted 2 3 s1 9 s.now.at_ 0 0 ⟨#[]⟩ (f :: l))
      have hl2 := (sub_counted 2 3 s1 9 s.now.at_ 0 0 ⟨#[]⟩ (f :: l)).len
      obtain ⟨r, hr, hs3⟩ := ih.index _ _ (hw.sub hs2) (by omega)
      exact ⟨r, hr, hs2.trans hs3⟩
    · exact ⟨_, rfl, Sub.refl s⟩
  parts := fun o e s ho hw h => by
    simp only [partsK]
    have hse := (sub_need1 s o).trans (sub_enter _)
    have hlo : s.isB o = true → (s.need1 o).enter.left.length + 1 ≤ s.left.length := fun hb => by
      have h1 := (sub_enter (s.need1 o)).len
      have h2 := next_lt hw (isB_ne hb ho)
      have h3 : s.need1 o = s.next := by unfold PS.need1; rw [if_pos hb]
      rw [h3] at h1 ⊢
      omega
    have hlen := (sub_enter (s.need1 o)).len
    have hlm : 10 * (s.need1 o).enter.left.length + 9 ≤ k := by
      rcases h with h | ⟨h1, h2⟩
      · rcases need1_lt hw o ho with h3 | h3
        · omega
        · rw [h3] at hlen; simp at hlen; rw [hlen]; simp; omega
      · have := hlo h1; omega
    split
    · refine ⟨_, rfl, (hse.trans (sub_need1 _ e)).trans (sub_leave _), fun hb => ?_⟩
      have h1 := hlo hb
      have h2 := (sub_need1 (s.need1 o).enter e).len
      exact Nat.le_trans (Nat.add_le_add_right h2 1) h1
    · obtain ⟨⟨l, s2⟩, hm, hs2⟩ := ih.many [] _ (hw.sub hse) hlm
      rw [hm]
      refine ⟨_, rfl, ((hse.trans hs2).trans (sub_need1 _ e)).trans (sub_leave _), fun hb => ?_⟩
      have h1 := hlo hb
      have h2 := (hs2.trans (sub_need1 s2 e)).len
      exact Nat.le_trans (Nat.add_le_add_right h2 1) h1
  many := fun l s hw h => by
    simp only [manyK]
    obtain ⟨⟨x, s1⟩, hx, hs⟩ := ih.expr s hw (by omega)
    rw [hx]
    have hl := hs.len
    simp only at hl hs
    dsimp only
    split
    · rename_i hb
      have h1 := next_lt (hw.sub hs) (isB_ne hb (by simp))
      obtain ⟨r, hr, hs2⟩ := ih.many (l ++ [x]) s1.next (hw.sub (hs.trans (sub_next s1))) (by omega)
      exact ⟨r, hr, (hs.trans (sub_next s1)).trans hs2⟩
    · exact ⟨_, rfl, hs⟩
  first := fun s hw h => by
    simp only [firstK]
    split
    · rename_i hb
      have h1 := next_lt hw (isB_ne hb (by simp))
      have h3 : s.need1 ([40] : List UInt8) = s.next := by unfold PS.need1; rw [if_pos hb]
      rw [h3]
      have hl := (sub_enter s.next).len
      have hse := (sub_next s).trans (sub_enter s.next)
      obtain ⟨⟨x, s2⟩, hx, hs2⟩ := ih.expr s.next.enter (hw.sub hse) (by omega)
      rw [hx]
      exact ⟨_, rfl, ((hse.trans hs2).trans (sub_need1 _ _)).trans (sub_leave _)⟩
    · split
      · exact ⟨_, rfl, (sub_next s).trans (sub_whole _ _ _ _ _ _ _)⟩
      · split
        · rename_i hk
          have h1 := kind_lt (s := s) (by omega)
          obtain ⟨r, hr, hs⟩ := ih.called s.now s.next (hw.sub (sub_next s)) (by omega)
          exact ⟨r, hr, (sub_next s).trans hs⟩
        · obtain ⟨r, hr, hs⟩ := ih.kept s.now s.next (hw.sub (sub_next s)) (by
            by_cases hb : s.now.bytes = []
            · exact Or.inr ⟨hb, by omega⟩
            · have := next_lt hw hb; exact Or.inl (by omega))
          exact ⟨r, hr, (sub_next s).trans hs⟩
  called := fun t s hw h => by
    simp only [calledK]
    split
    · rename_i hb
      obtain ⟨⟨l, s1⟩, hp, hs, _⟩ := ih.parts ([40] : List UInt8) ([41] : List UInt8) s (by simp) hw (Or.inl (by omega))
      rw [hp]
      exact ⟨_, rfl, hs.trans (sub_whole _ _ _ _ _ _ _)⟩
    · exact ⟨_, rfl, sub_whole _ _ _ _ _ _ _⟩
  kept := fun t s hw h => by
    simp only [keptK]
    split
    · exact ⟨_, rfl, sub_whole _ _ _ _ _ _ _⟩
    · split
      · exact ⟨_, rfl, sub_whole _ _ _ _ _ _ _⟩
      · split
        · exact ⟨_, rfl, sub_whole _ _ _ _ _ _ _⟩
        · split
          · rename_i hb
            have h1 : 10 * s.left.length + 10 ≤ k := by
              rcases h with h | ⟨h, _⟩
              · omega
              · rw [h] at hb; simp at hb
            obtain ⟨⟨l, s1⟩, hp, hs, _⟩ := ih.parts ([91] : List UInt8) ([93] : List UInt8) s (by simp) hw (Or.inl h1)
            rw [hp]
            exact ⟨_, rfl, hs.trans (sub_counted _ _ _ _ _ _ _ _ _)⟩
          · split
            · rename_i hb
              have h1 : 10 * s.left.length + 10 ≤ k := by
                rcases h with h | ⟨h, _⟩
                · omega
                · rw [h] at hb; simp at hb
              obtain ⟨⟨l, s1⟩, hp, hs, _⟩ := ih.parts ([40] : List UInt8) ([41] : List UInt8) s (by simp) hw (Or.inl h1)
              rw [hp]
              exact ⟨_, rfl, hs.trans (sub_counted _ _ _ _ _ _ _ _ _)⟩
            · exact ⟨_, rfl, (sub_refuse s t).trans (sub_whole _ _ _ _ _ _ _)⟩
theorem suf_all : ∀ k, Suf k
  | 0 => suf_zero
  | k + 1 => suf_succ k (suf_all k)
end Go.Proofs.YtiadbeglhnocoaaGreatDoor
namespace Go.Proofs.YtiadbeglhnocoaaGreatDoor
set_option linter.unusedVariables false
set_option linter.unusedSimpArgs false
open Go.RowKit

/-- Even, and the end of what was left. -/
def EvS (s s' : PS) : Prop := Even s s' ∧ Sub s s'
theorem EvS.refl (s : PS) : EvS s s := ⟨Even.refl s, Sub.refl s⟩
theorem EvS.trans {a b c : PS} (h : EvS a b) (k : EvS b c) : EvS a c := ⟨h.1.trans k.1, h.2.trans k.2⟩
theorem es_next (s : PS) : EvS s s.next := ⟨even_next s, sub_next s⟩
theorem es_fail (s : PS) (k a : Int) : EvS s (s.fail k a) := ⟨even_fail s k a, sub_fail s k a⟩
theorem es_refuse (s : PS) (t : Tk) : EvS s (s.refuse t) := ⟨even_refuse s t, sub_refuse s t⟩
theorem es_need1 (s : PS) (x : List UInt8) : EvS s (s.need1 x) := ⟨even_need1 s x, sub_need1 s x⟩
theorem es_take (s : PS) (x : List UInt8) : EvS s (s.takeP x) := ⟨even_take s x, sub_take s x⟩
theorem es_name (s : PS) : EvS s s.nameP := ⟨even_name s, sub_name s⟩
theorem es_needs (l : List (List UInt8)) (s : PS) : EvS s (PS.needs l s) := ⟨even_needs l s, sub_needs l s⟩
theorem es_in {s s2 : PS} (h : EvS s.enter s2) : EvS s s2.leave := ⟨even_in h.1, ((sub_enter s).trans h.2).trans (sub_leave s2)⟩
theorem es_step (s : PS) : EvS s (stepP s).2 := by
  unfold stepP
  split
  · dsimp only
    refine ((es_next s).trans (es_take s.next ([45] : List UInt8))).trans ?_
    split
    · exact (es_next _).trans (es_refuse _ _)
    · exact es_next _
  · exact EvS.refl s
/-- One more statement around. -/
def PS.down (s : PS) : PS := if s.deep + 1 > 256 then ({ s with deep := s.deep + 1 } : PS).fail 4 s.now.at_ else { s with deep := s.deep + 1 }
def PS.up (s : PS) : PS := { s with deep := s.deep - 1 }
theorem down_deep (s : PS) : s.down.nest = s.nest ∧ s.down.deep = s.deep + 1 := by unfold PS.down; split <;> exact ⟨rfl, rfl⟩
theorem sub_down (s : PS) : Sub s s.down := by unfold PS.down; split; exact List.nil_suffix; exact List.suffix_refl _
theorem sub_up (s : PS) : Sub s s.up := List.suffix_refl _
theorem es_down {s s2 : PS} (h : EvS s.down s2) : EvS s s2.up := by
  have h1 := down_deep s
  refine ⟨⟨h.1.1.trans h1.1, ?_⟩, ((sub_down s).trans h.2).trans (sub_up s2)⟩
  show s2.deep - 1 = s.deep
  rw [h.1.2, h1.2]; omega
theorem stmtK_succ (k : Nat) (s : PS) : stmtK (k + 1) s = match (if s.down.isB ([105, 102] : List UInt8) = true then choiceK k s.now.at_ s.down
      else if s.down.isB ([119, 104, 105, 108, 101] : List UInt8) = true then whileK k s.now.at_ s.down
      else if s.down.isB ([102, 111, 114] : List UInt8) = true then countK k s.now.at_ s.down
      else match simpleK k s.now.at_ s.down with
        | none => none
        | some (x, s3) => some (x, s3.need1 ([59] : List UInt8))) with
    | none => none
    | some (x, s3) => some (x, s3.up) := by simp only [stmtK]; rfl
theorem es_expr {k : Nat} {s : PS} {x : Part} {s2 : PS} (h : exprK k s = some (x, s2)) : Even s s2 := ((pure_all k).expr _ _ h).1
/-- What the readers of statements come to. -/
structure PureS (k : Nat) : Prop where
  block : ∀ s r, blockK k s = some r → Even s r.2
  stmts : ∀ l s r, stmtsFK k l s = some r → Even s r.2
  stmt : ∀ s r, stmtK k s = some r → Even s r.2
  choice : ∀ a s r, choiceK k a s = some r → Even s r.2
  els : ∀ s r, elseK k s = some r → Even s r.2
  whil : ∀ a s r, whileK k a s = some r → Even s r.2
  count : ∀ a s r, countK k a s = some r → Even s r.2
  simple : ∀ a s r, simpleK k a s = some r → Even s r.2
  named : ∀ a t s r, namedK k a t s = some r → Even s r.2
theorem pureS_zero : PureS 0 where
  block := fun s r h => by simp [blockK] at h
  stmts := fun _ s r h => by simp [stmtsFK] at h
  stmt := fun s r h => by simp [stmtK] at h
  choice := fun _ s r h => by simp [choiceK] at h
  els := fun s r h => by simp [elseK] at h
  whil := fun _ s r h => by simp [whileK] at h
  count := fun _ s r h => by simp [countK] at h
  simple := fun _ s r h => by simp [simpleK] at h
  named := fun _ _ s r h => by simp [namedK] at h
theorem pureS_succ (k : Nat) (ih : PureS k) : PureS (k + 1) where
  block := fun s r h => by
    simp only [blockK] at h
    cases hm : stmtsFK k [] (s.need1 ([123] : List UInt8)).enter with
    | none => rw [hm] at h; cases h
    | some q =>
      rw [hm] at h
      obtain ⟨l, s2⟩ := q
      have h3 := ih.stmts _ _ _ hm
      simp only [Option.some.injEq] at h h3
      subst h
      exact (even_need1 s _).trans (even_in (h3.trans (even_need1 _ _)))
  stmts := fun l s r h => by
    simp only [stmtsFK] at h
    split at h
    · simp only [Option.some.injEq] at h; subst h; exact Even.refl s
    · cases hm : stmtK k s with
      | none => rw [hm] at h; cases h
      | some q =>
        rw [hm] at h
        exact (ih.stmt _ _ hm).trans (ih.stmts _ _ _ h)
  stmt := fun s r h => by
    rw [stmtK_succ] at h
    split at h
    · cases h
    · rename_i x s3 hq
      simp only [Option.some.injEq] at h
      subst h
      have h1 := down_deep s
      have hev : Even s.down s3 := by
        split at hq
        · exact ih.choice _ _ _ hq
        · split at hq
          · exact ih.whil _ _ _ hq
          · split at hq
            · exact ih.count _ _ _ hq
            · split at hq
              · cases hq
              · rename_i y s4 hs
                simp only [Option.some.injEq] at hq
                obtain ⟨rfl, rfl⟩ := Prod.mk.inj hq
                exact (ih.simple _ _ _ hs).trans (even_need1 _ _)
      refine ⟨hev.1.trans h1.1, ?_⟩
      show s3.deep - 1 = s.deep
      rw [hev.2, h1.2]; omega
  choice := fun a s r h => by
    simp only [choiceK] at h
    split at h
    · cases h
    · rename_i x s2 hx
      split at h
      · cases h
      · rename_i b s3 hb
        have h1 := ((even_need1 s _).trans (es_expr hx)).trans (ih.block _ _ hb)
        split at h
        · split at h
          · cases h
          · rename_i e s4 he
            simp only [Option.some.injEq] at h
            subst h
            exact (h1.trans (even_next _)).trans (ih.els _ _ he)
        · simp only [Option.some.injEq] at h
          subst h
          exact h1
  els := fun s r h => by
    simp only [elseK] at h
    split at h
    · split at h
      · cases h
      · rename_i x s2 hx
        simp only [Option.some.injEq] at h
        subst h
        exact even_in (ih.stmt _ _ hx)
    · exact ih.block _ _ h
  whil := fun a s r h => by
    simp only [whileK] at h
    split at h
    · cases h
    · rename_i x s2 hx
      split at h
      · cases h
      · rename_i b s3 hb
        simp only [Option.some.injEq] at h
        subst h
        exact ((even_need1 s _).trans (es_expr hx)).trans (ih.block _ _ hb)
  count := fun a s r h => by
    simp only [countK] at h
    split at h
    · cases h
    · rename_i x s2 hx
      split at h
      · cases h
      · rename_i y s3 hy
        split at h
        · cases h
        · rename_i b s4 hb
          simp only [Option.some.injEq] at h
          subst h
          exact (((((even_need1 s _).trans ((even_name _).trans (even_need1 _ _))).trans (es_expr hx)).trans ((even_need1 _ _).trans (es_expr hy))).trans (es_step s3).1).trans (ih.block _ _ hb)
  simple := fun a s r h => by
    simp only [simpleK] at h
    split at h
    · exact (even_next s).trans (ih.named _ _ _ _ h)
    · split at h
      · split at h
        · cases h
        · rename_i x s2 hx
          simp only [Option.some.injEq] at h
          subst h
          exact ((even_next s).trans ((even_name _).trans (even_need1 _ _))).trans (es_expr hx)
      · split at h
        · simp only [Option.some.injEq] at h; subst h; exact even_next s
        · split at h
          · simp only [Option.some.injEq] at h; subst h; exact even_next s
          · split at h
            · split at h
              · simp only [Option.some.injEq] at h; subst h; exact even_next s
              · split at h
                · cases h
                · rename_i x s2 hx
                  simp only [Option.some.injEq] at h
                  subst h
                  exact (even_next s).trans (es_expr hx)
            · split at h
              · split at h
                · cases h
                · rename_i x s2 hx
                  simp only [Option.some.injEq] at h
                  subst h
                  exact (even_next s).trans (es_expr hx)
              · simp only [Option.some.injEq] at h
                subst h
                exact (even_next s).trans (even_refuse _ _)
  named := fun a t s r h => by
    simp only [namedK] at h
    split at h
    · split at h
      · cases h
      · rename_i x s2 hx
        simp only [Option.some.injEq] at h
        subst h
        exact (even_next s).trans (es_expr hx)
    · split at h
      · split at h
        · cases h
        · rename_i p s1 hp
          split at h
          · cases h
          · rename_i q s2 hq
            have hc := (pure_all k).called _ _ _ hp
            have hi := (pure_all k).index _ _ _ hc.2.1 hq
            split at h
            · simp only [Option.some.injEq] at h
              subst h
              exact hc.1.trans hi.1
            · split at h
              · cases h
              · rename_i y s3 hy
                simp only [Option.some.injEq] at h
                subst h
                exact (hc.1.trans hi.1).trans ((even_need1 _ _).trans (es_expr hy))
      · simp only [Option.some.injEq] at h
        subst h
        exact even_refuse _ _
theorem pureS_all : ∀ k, PureS k
  | 0 => pureS_zero
  | k + 1 => pureS_succ k (pureS_all k)
/-- With so much fuel the readers of statements come to something. -/
structure SufS (k : Nat) : Prop where
  block : ∀ s, Wf s → 10 * s.left.length + 7 ≤ k → ∃ r, blockK k s = some r ∧ Sub s r.2
  stmts : ∀ l s, Wf s → 10 * s.left.length + 6 ≤ k → ∃ r, stmtsFK k l s = some r ∧ Sub s r.2
  stmt : ∀ s, Wf s → 10 * s.left.length + 5 ≤ k → ∃ r, stmtK k s = some r ∧ Sub s r.2 ∧ (s.left ≠ [] → s.now.kind ≠ 0 → r.2.left.length + 1 ≤ s.left.length)
  choice : ∀ a s, Wf s → s.isB ([105, 102] : List UInt8) = true → 10 * s.left.length + 4 ≤ k → ∃ r, choiceK k a s = some r ∧ Sub s.next r.2
  els : ∀ s, Wf s → 10 * s.left.length + 8 ≤ k → ∃ r, elseK k s = some r ∧ Sub s r.2
  whil : ∀ a s, Wf s → s.isB ([119, 104, 105, 108, 101] : List UInt8) = true → 10 * s.left.length + 4 ≤ k → ∃ r, whileK k a s = some r ∧ Sub s.next r.2
  count : ∀ a s, Wf s → s.isB ([102, 111, 114] : List UInt8) = true → 10 * s.left.length + 4 ≤ k → ∃ r, countK k a s = some r ∧ Sub s.next r.2
  simple : ∀ a s, Wf s → 10 * s.left.length + 4 ≤ k → ∃ r, simpleK k a s = some r ∧ Sub s.next r.2
  named : ∀ a t s, Wf s → 10 * s.left.length + 13 ≤ k → ∃ r, namedK k a t s = some r ∧ Sub s r.2
theorem sufS_zero : SufS 0 where
  block := fun s _ h => by omega
  stmts := fun _ s _ h => by omega
  stmt := fun s _ h => by omega
  choice := fun _ s _ _ h => by omega
  els := fun s _ h => by omega
  whil := fun _ s _ _ h => by omega
  count := fun _ s _ _ h => by omega
  simple := fun _ s _ h => by omega
  named := fun _ _ s _ h => by omega
theorem need1_is {s : PS} {x : List UInt8} (h : s.isB x = true) : s.need1 x = s.next := by unfold PS.need1; rw [if_pos h]
theorem sufS_succ (k : Nat) (ih : SufS k) : SufS (k + 1) where
  block := fun s hw h => by
    simp only [blockK]
    have hse := (sub_need1 s ([123] : List UInt8)).trans (sub_enter _)
    have hl := hse.len
    obtain ⟨⟨l, s2⟩, hm, hs2⟩ := ih.stmts [] _ (hw.sub hse) (by omega)
    rw [hm]
    exact ⟨_, rfl, ((hse.trans hs2).trans (sub_need1 _ _)).trans (sub_leave _)⟩
  stmts := fun l s hw h => by
    simp only [stmtsFK]
    split
    · exact ⟨_, rfl, Sub.refl s⟩
    · rename_i hn
      have hk : s.now.kind ≠ 0 := fun e => hn (Or.inr e)
      have h1 := kind_lt hk
      obtain ⟨⟨x, s1⟩, hx, hs, hlt⟩ := ih.stmt s hw (by omega)
      rw [hx]
      have hlt := hlt (by intro e; rw [e] at h1; simp at h1) hk
      simp only at hlt hs
      obtain ⟨r, hr, hs2⟩ := ih.stmts (l ++ [x]) s1 (hw.sub hs) (by omega)
      exact ⟨r, hr, hs.trans hs2⟩
  stmt := fun s hw h => by
    rw [stmtK_succ]
    have hd := sub_down s
    have hwd := hw.sub hd
    have hld := hd.len
    have hnx : s.left ≠ [] → s.now.kind ≠ 0 → s.down.next.left.length + 1 ≤ s.left.length := fun h1 h2 => by
      by_cases hz : s.down.left = []
      · have h3 := (sub_next s.down).len
        rw [hz] at h3
        have := List.length_pos_iff.mpr h1
        simp at h3
        rw [h3]; simp; omega
      · have hdn : s.down.left = s.left := by
          unfold PS.down at hz ⊢
          split at hz
          · exact absurd rfl hz
          · rename_i hc; rw [if_neg hc]
        have hnow : s.down.now = s.now := by unfold PS.now; rw [hdn]
        have := kind_lt (s := s.down) (by rw [hnow]; exact h2)
        rw [hdn] at this
        exact this
    have fin : ∀ (x : St) (s3 : PS), Sub s.down.next s3 → (∃ r : St × PS, some (x, s3.up) = some r ∧ Sub s r.2 ∧ (s.left ≠ [] → s.now.kind ≠ 0 → r.2.left.length + 1 ≤ s.left.length)) := fun x s3 h3 =>
      ⟨_, rfl, ((hd.trans (sub_next _)).trans h3).trans (sub_up s3), fun h1 h2 => by have := hnx h1 h2; have h4 := (h3.trans (sub_up s3)).len; exact Nat.le_trans (Nat.add_le_add_right h4 1) this⟩
    split
    · rename_i hq
      exfalso
      split at hq
      · rename_i hb
        obtain ⟨r, hr, _⟩ := ih.choice s.now.at_ s.down hwd hb (by omega)
        rw [hr] at hq; cases hq
      · split at hq
        · rename_i hb
          obtain ⟨r, hr, _⟩ := ih.whil s.now.at_ s.down hwd hb (by omega)
          rw [hr] at hq; cases hq
        · split at hq
          · rename_i hb
            obtain ⟨r, hr, _⟩ := ih.count s.now.at_ s.down hwd hb (by omega)
            rw [hr] at hq; cases hq
          · obtain ⟨r, hr, _⟩ := ih.simple s.now.at_ s.down hwd (by omega)
            rw [hr] at hq; cases hq
    · rename_i x s3 hq
      refine fin x s3 ?_
      split at hq
      · rename_i hb
        obtain ⟨r, hr, hs⟩ := ih.choice s.now.at_ s.down hwd hb (by omega)
        rw [hr] at hq; cases hq; exact hs
      · split at hq
        · rename_i hb
          obtain ⟨r, hr, hs⟩ := ih.whil s.now.at_ s.down hwd hb (by omega)
          rw [hr] at hq; cases hq; exact hs
        · split at hq
          · rename_i hb
            obtain ⟨r, hr, hs⟩ := ih.count s.now.at_ s.down hwd hb (by omega)
            rw [hr] at hq; cases hq; exact hs
          · obtain ⟨⟨y, s4⟩, hr, hs⟩ := ih.simple s.now.at_ s.down hwd (by omega)
            rw [hr] at hq; cases hq; exact hs.trans (sub_need1 _ _)
  choice := fun a s hw hb h => by
    simp only [choiceK]
    have hlt := next_lt hw (isB_ne hb (by simp))
    rw [need1_is hb]
    have hwn := hw.sub (sub_next s)
    obtain ⟨⟨x, s2⟩, hx, hs2⟩ := (suf_all k).expr s.next hwn (by omega)
    rw [hx]
    simp only at hs2
    have hl2 := hs2.len
    obtain ⟨⟨b, s3⟩, hb3, hs3⟩ := ih.block s2 (hwn.sub hs2) (by omega)
    simp only [hb3]
    have hs23 := hs2.trans hs3
    simp only at hs23
    split
    · rename_i he
      have hl3 := hs23.len
      have hn3 := sub_next s3
      have hl4 := hn3.len
      have hlt3 := next_lt (hwn.sub hs23) (isB_ne he (by simp))
      obtain ⟨⟨e, s4⟩, hr, hs4⟩ := ih.els s3.next (hwn.sub (hs23.trans hn3)) (by omega)
      rw [hr]
      exact ⟨_, rfl, (hs23.trans hn3).trans hs4⟩
    · exact ⟨_, rfl, hs23⟩
  els := fun s hw h => by
    simp only [elseK]
    split
    · have hle := (sub_enter s).len
      obtain ⟨⟨x, s2⟩, hx, hs2, _⟩ := ih.stmt s.enter (hw.sub (sub_enter s)) (by omega)
      rw [hx]
      exact ⟨_, rfl, ((sub_enter s).trans hs2).trans (sub_leave s2)⟩
    · exact ih.block s hw (by omega)
  whil := fun a s hw hb h => by
    simp only [whileK]
    have hlt := next_lt hw (isB_ne hb (by simp))
    rw [need1_is hb]
    have hwn := hw.sub (sub_next s)
    obtain ⟨⟨x, s2⟩, hx, hs2⟩ := (suf_all k).expr s.next hwn (by omega)
    rw [hx]
    simp only at hs2
    have hl2 := hs2.len
    obtain ⟨⟨b, s3⟩, hb3, hs3⟩ := ih.block s2 (hwn.sub hs2) (by omega)
    simp only [hb3]
    exact ⟨_, rfl, hs2.trans hs3⟩
  count := fun a s hw hb h => by
    simp only [countK]
    have hlt := next_lt hw (isB_ne hb (by simp))
    rw [need1_is hb]
    have hwn := hw.sub (sub_next s)
    have h0 := (sub_name s.next).trans (sub_need1 _ ([61] : List UInt8))
    have hl0 := h0.len
    obtain ⟨⟨x, s2⟩, hx, hs2⟩ := (suf_all k).expr (s.next.nameP.need1 ([61] : List UInt8)) (hwn.sub h0) (by omega)
    rw [hx]
    have h1 := (h0.trans hs2).trans (sub_need1 s2 ([116, 111] : List UInt8))
    simp only at h1 hs2
    have hl1 := h1.len
    obtain ⟨⟨y, s3⟩, hy, hs3⟩ := (suf_all k).expr (s2.need1 ([116, 111] : List UInt8)) (hwn.sub h1) (by omega)
    simp only [hy]
    have h2 := (h1.trans hs3).trans (es_step s3).2
    have hl2 := h2.len
    obtain ⟨⟨b, s4⟩, hb4, hs4⟩ := ih.block (stepP s3).2 (hwn.sub h2) (by omega)
    simp only [hb4]
    exact ⟨_, rfl, h2.trans hs4⟩
  simple := fun a s hw h => by
    simp only [simpleK]
    have hwn := hw.sub (sub_next s)
    have hln := (sub_next s).len
    have hx : s.now.bytes ≠ [] → ∀ s2, Sub s.next s2 → ∃ r, exprK k s2 = some r ∧ Sub s.next r.2 := fun hb s2 h2 => by
      have hlt := next_lt hw hb
      have hl2 := h2.len
      obtain ⟨r, hr, hs⟩ := (suf_all k).expr s2 (hwn.sub h2) (by omega)
      exact ⟨r, hr, h2.trans hs⟩
    have hne : ∀ b : List UInt8, b ≠ [] → (s.now.bytes == b) = true → s.now.bytes ≠ [] := fun b hb he => by rw [eq_of_beq he]; exact hb
    split
    · rename_i hk
      have hlt := kind_lt (s := s) (by omega)
      exact ih.named a s.now s.next hwn (by omega)
    · split
      · rename_i hb
        obtain ⟨r, hr, hs⟩ := hx (hne _ (by simp) hb) _ ((sub_name s.next).trans (sub_need1 _ _))
        rw [hr]
        exact ⟨_, rfl, hs⟩
      · split
        · exact ⟨_, rfl, Sub.refl _⟩
        · split
          · exact ⟨_, rfl, Sub.refl _⟩
          · split
            · rename_i hb
              split
              · exact ⟨_, rfl, Sub.refl _⟩
              · obtain ⟨r, hr, hs⟩ := hx (hne _ (by simp) hb) _ (Sub.refl _)
                rw [hr]
                exact ⟨_, rfl, hs⟩
            · split
              · rename_i hb
                obtain ⟨r, hr, hs⟩ := hx (hne _ (by simp) hb) _ (Sub.refl _)
                rw [hr]
                exact ⟨_, rfl, hs⟩
              · exact ⟨_, rfl, sub_refuse _ _⟩
  named := fun a t s hw h => by
    simp only [namedK]
    split
    · have hl := (sub_next s).len
      obtain ⟨r, hr, hs⟩ := (suf_all k).expr s.next (hw.sub (sub_next s)) (by omega)
      rw [hr]
      exact ⟨_, rfl, (sub_next s).trans hs⟩
    · split
      · obtain ⟨⟨p, s1⟩, hp, hs1⟩ := (suf_all k).called t s hw (by omega)
        rw [hp]
        simp only at hs1
        have hl1 := hs1.len
        obtain ⟨⟨q, s2⟩, hq, hs2⟩ := (suf_all k).index p s1 (hw.sub hs1) (by omega)
        simp only [hq]
        have h2 := hs1.trans hs2
        simp only at h2
        split
        · exact ⟨_, rfl, h2⟩
        · have h3 := h2.trans (sub_need1 s2 ([61] : List UInt8))
          have hl3 := h3.len
          obtain ⟨r, hr, hs⟩ := (suf_all k).expr _ (hw.sub h3) (by omega)
          rw [hr]
          exact ⟨_, rfl, h3.trans hs⟩
      · exact ⟨_, rfl, sub_refuse _ _⟩
theorem sufS_all : ∀ k, SufS k
  | 0 => sufS_zero
  | k + 1 => sufS_succ k (sufS_all k)
end Go.Proofs.YtiadbeglhnocoaaGreatDoor
