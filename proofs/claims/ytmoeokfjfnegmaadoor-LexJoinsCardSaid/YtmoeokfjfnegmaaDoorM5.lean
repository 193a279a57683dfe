/-
  Words with spaces between them are the same words.
-/
import Derived.Test.YtmoeokfjfnegmaaDoorM4
namespace Go.Proofs.YtmoeokfjfnegmaaDoor
open Go.RowKit

theorem take_all (p : Int → Bool) (l : List UInt8) : ∀ c ∈ l.take (pastN p l), p (c.toNat : Int) = true := by
  induction l with
  | nil => simp
  | cons a r ih =>
    unfold pastN
    split
    · rename_i h
      intro c hc
      rw [List.take_succ_cons] at hc
      rcases List.mem_cons.mp hc with rfl | hc
      · exact h
      · exact ih c hc
    · simp
theorem past_closed (p : Int → Bool) (h32 : p 32 = false) (b r : List UInt8) (h : ∀ c ∈ b, p (c.toNat : Int) = true) : pastN p (b ++ 32 :: r) = b.length := by
  induction b with
  | nil =>
    have h' : ¬ p ((32 : UInt8).toNat : Int) = true := by
      have e : p ((32 : UInt8).toNat : Int) = false := h32
      rw [e]; decide
    show pastN p (32 :: r) = 0
    rw [pastN, if_neg h']
  | cons a s ih =>
    rw [List.cons_append, pastN, if_pos (h a (by simp)), ih (fun c hc => h c (by simp [hc]))]
    rfl
theorem take_closed (b r : List UInt8) (n : Nat) (h : n = b.length) : (b ++ r).take n = b := by subst h; simp
theorem sign_self (b : List UInt8) (h : signB b = true) (h3 : b.length ≤ 3) : signN b = b.length := by
  have hy := signU_le (min 3 b.length) b
  apply Nat.le_antisymm
  · unfold signN; omega
  · rcases Nat.eq_zero_or_pos b.length with h0 | h0
    · omega
    · exact signU_top _ b _ h0 (by omega) (by rw [List.take_length]; exact h)

/-- A word, a space behind it, is the word again; what begins a word is no gap. -/
theorem word_join {k : Nat} {l : List UInt8} {t : Tk} (h : wordT k l = some t) (k' : Nat) (r : List UInt8) :
    wordT k' (t.bytes ++ 32 :: r) = some ⟨t.kind, k', t.num, t.bytes⟩ ∧ skipN false (t.bytes ++ 32 :: r) = 0 := by
  obtain ⟨_, b1, b2, b3⟩ := word_has h
  rcases l with _ | ⟨c, s⟩
  · simp [wordT] at h
  · obtain ⟨m, hm⟩ : ∃ m, t.bytes.length = m + 1 := ⟨t.bytes.length - 1, by omega⟩
    have hb : t.bytes = c :: s.take m := by rw [b3, hm, List.take_succ_cons]
    rw [wordT] at h
    by_cases hl : letterB c.toNat = true
    · rw [if_pos hl] at h
      obtain rfl := Option.some.inj h
      have hall : ∀ x ∈ (nameT k (c :: s)).bytes, nameB (x.toNat : Int) = true := take_all nameB (c :: s)
      have hp := past_closed nameB (by decide) _ r hall
      have hg : gapB (c.toNat : Int) = false ∧ c.toNat ≠ 35 := by
        unfold letterB at hl
        unfold gapB
        simp at hl ⊢
        omega
      have ht := take_closed (nameT k (c :: s)).bytes (32 :: r) _ hp
      have hk : (nameT k (c :: s)).kind = if keptB (nameT k (c :: s)).bytes = true then 3 else 1 := rfl
      have hn : (nameT k (c :: s)).num = 0 := rfl
      rw [hk, hn]
      generalize (nameT k (c :: s)).bytes = B at *
      subst hb
      rw [List.cons_append] at hp ht ⊢
      refine ⟨?_, ?_⟩
      · rw [wordT, if_pos hl]
        unfold nameT
        rw [ht]
      · rw [skipN, if_neg (by simp [hg.1]), if_neg hg.2]
    · rw [if_neg hl] at h
      by_cases hd : digitB c.toNat = true
      · rw [if_pos hd] at h
        unfold numT at h
        have hall := take_all digitB (c :: s)
        rcases hp : Lib.parseUintB 64 ((c :: s).take (pastN digitB (c :: s))) with u | _ | _
        · rw [hp] at h
          obtain rfl := Option.some.inj h
          simp only at hb b1 b2 b3 hm ⊢
          generalize (c :: s).take (pastN digitB (c :: s)) = B at *
          have hq := past_closed digitB (by decide) B r hall
          have ht := take_closed B (32 :: r) _ hq
          have hg : gapB (c.toNat : Int) = false ∧ c.toNat ≠ 35 := by
            unfold digitB at hd
            unfold gapB
            simp at hd ⊢
            omega
          subst hb
          rw [List.cons_append] at hq ht ⊢
          refine ⟨?_, ?_⟩
          · rw [wordT, if_neg hl, if_pos hd]
            unfold numT
            rw [ht, hp]
          · rw [skipN, if_neg (by simp [hg.1]), if_neg hg.2]
        · rw [hp] at h; cases h
        · rw [hp] at h; cases h
      · rw [if_neg hd] at h
        unfold signT at h
        by_cases h0 : signN (c :: s) = 0
        · rw [if_pos h0] at h; cases h
        · rw [if_neg h0] at h
          obtain rfl := Option.some.inj h
          simp only at hb b1 b2 b3 hm ⊢
          have hle := signU_le (min 3 (c :: s).length) (c :: s)
          have hsb : signB ((c :: s).take (signN (c :: s))) = true := by
            rcases signU_is (min 3 (c :: s).length) (c :: s) with e | e
            · exact absurd e h0
            · exact e
          have hlen : ((c :: s).take (signN (c :: s))).length = signN (c :: s) := by
            rw [List.length_take]; unfold signN; omega
          have hself := sign_self _ hsb (by rw [hlen]; unfold signN; omega)
          have hplain : gapB (c.toNat : Int) = false ∧ c ≠ 35 := by
            unfold signB at hsb
            rw [List.any_eq_true] at hsb
            obtain ⟨x, hx, he⟩ := hsb
            have he : (c :: s).take (signN (c :: s)) = x := by simpa using he
            exact sign_plain x hx c (by rw [← he, hb]; simp)
          generalize (c :: s).take (signN (c :: s)) = B at *
          have happ := sign_app B 32 r (by decide)
          rw [hself] at happ
          have ht := take_closed B (32 :: r) _ happ
          have h35 : c.toNat ≠ 35 := fun e => hplain.2 (UInt8.toNat_inj.mp e)
          have hne : ¬ signN (B ++ 32 :: r) = 0 := by omega
          subst hb
          rw [List.cons_append] at happ ht hne ⊢
          refine ⟨?_, ?_⟩
          · rw [wordT, if_neg hl, if_neg hd]
            unfold signT
            rw [if_neg hne, ht]
          · rw [skipN, if_neg (by simp [hplain.1]), if_neg h35]

theorem lexU_space (k : Nat) (X : List UInt8) : lexU k (32 :: X) = lexU (k + 1) X := by
  have e : skipN false (32 :: X) = skipN false X + 1 := by rw [skipN, if_pos (by decide)]
  unfold lexU
  rw [e, List.drop_succ_cons]
  congr 1
  omega
/-- The bytes of words, a space behind each. -/
def preL (ts : List Tk) : List UInt8 := ts.flatMap fun t => t.bytes ++ [32]
/-- Words, at the places that they have then. -/
def placed : Nat → List Tk → List Tk
  | _, [] => []
  | k, t :: r => ⟨t.kind, k, t.num, t.bytes⟩ :: placed (k + t.bytes.length + 1) r
theorem placed_len (k : Nat) (R : List Tk) : (placed k R).length = R.length := by
  induction R generalizing k with
  | nil => rfl
  | cons t r ih => simp [placed, ih]
theorem placed_at (R : List Tk) (k i : Nat) (t : Tk) (h : R[i]? = some t) : ∃ a, (placed k R)[i]? = some ⟨t.kind, a, t.num, t.bytes⟩ := by
  induction R generalizing k i with
  | nil => simp at h
  | cons u r ih =>
    rcases i with _ | i
    · simp at h; subst h; exact ⟨k, rfl⟩
    · obtain ⟨a, ha⟩ := ih (k + u.bytes.length + 1) i (by simpa using h)
      exact ⟨a, by simpa [placed] using ha⟩
theorem join_lex (R : List Tk) (h : ∀ t ∈ R, ∃ k l, wordT k l = some t) (k : Nat) : lexU k (preL R ++ [32]) = (placed k R, none) := by
  induction R generalizing k with
  | nil => exact lexU_end rfl
  | cons t r ih =>
    obtain ⟨k0, l0, hw⟩ := h t (by simp)
    have e : preL (t :: r) ++ [32] = t.bytes ++ 32 :: (preL r ++ [32]) := by simp [preL]
    have h0 := (word_join hw (k + skipN false (t.bytes ++ 32 :: (preL r ++ [32]))) (preL r ++ [32])).1
    have hs := (word_join hw k (preL r ++ [32])).2
    rw [hs] at h0
    have hg := lexU_good (k := k) (l := t.bytes ++ 32 :: (preL r ++ [32])) (t := ⟨t.kind, k, t.num, t.bytes⟩) (by rw [hs, List.drop_zero]; exact h0)
    rw [hs] at hg
    rw [e, hg]
    have hd : (t.bytes ++ 32 :: (preL r ++ [32])).drop (0 + t.bytes.length) = 32 :: (preL r ++ [32]) := by rw [Nat.zero_add, List.drop_left]
    show (_ :: (lexU (k + 0 + t.bytes.length) ((t.bytes ++ 32 :: (preL r ++ [32])).drop (0 + t.bytes.length))).1, _) = _
    rw [hd, lexU_space, ih (fun u hu => h u (by simp [hu]))]
    rfl
/-- Each word of a text is one, stands where it says, and has the text's bytes; all of them together are no longer than the text. -/
theorem lexF_words (L : List UInt8) (f k : Nat) (hk : k ≤ L.length) : (∀ t ∈ (lexF f k (L.drop k)).1, (∃ k l, wordT k l = some t) ∧ t.at_ + t.bytes.length ≤ L.length ∧ t.bytes = (L.drop t.at_).take t.bytes.length) ∧ (preL (lexF f k (L.drop k)).1).length ≤ 2 * (L.length - k) := by
  induction f generalizing k with
  | zero => exact ⟨fun t ht => by simp [lexF] at ht, by simp [lexF, preL]⟩
  | succ f ih =>
    rcases hl : L.drop k with _ | ⟨c, r⟩
    · exact ⟨fun t ht => by simp [lexF] at ht, by simp [lexF, preL]⟩
    · unfold lexF
      rcases hw : wordT k (c :: r) with _ | u
      · exact ⟨fun t ht => by simp at ht, by simp [preL]⟩
      · have hs := step_le hw
        obtain ⟨ha, h1, h2, h3⟩ := word_has hw
        have hlen : (c :: r).length = L.length - k := by rw [← hl, List.length_drop]
        have hst : u.bytes.length ≤ stepN (c :: r) u := by unfold stepN; omega
        have hd : (c :: r).drop (stepN (c :: r) u) = L.drop (k + stepN (c :: r) u) := by rw [← hl, List.drop_drop]
        obtain ⟨i1, i2⟩ := ih (k + stepN (c :: r) u) (by omega)
        simp only [hd]
        refine ⟨fun t ht => ?_, ?_⟩
        · rcases List.mem_cons.mp ht with rfl | ht
          · refine ⟨⟨k, c :: r, hw⟩, by omega, ?_⟩
            rw [ha, hl]; exact h3
          · exact i1 t ht
        · have e : preL (u :: (lexF f (k + stepN (c :: r) u) (L.drop (k + stepN (c :: r) u))).1) = (u.bytes ++ [32]) ++ preL (lexF f (k + stepN (c :: r) u) (L.drop (k + stepN (c :: r) u))).1 := by simp [preL]
          rw [e, List.length_append, List.length_append, List.length_singleton]
          omega
theorem lexS_words {L : List UInt8} {R : List Tk} {O : Option Nat} (h : lexS L = (R, O)) : (∀ t ∈ R, (∃ k l, wordT k l = some t) ∧ t.at_ + t.bytes.length ≤ L.length ∧ t.bytes = (L.drop t.at_).take t.bytes.length) ∧ (preL R).length ≤ 2 * L.length := by
  have hl := skipN_le false L
  have hb := lexF_words L ((L.drop (skipN false L)).length + 1) (skipN false L) hl
  have e : lexF ((L.drop (skipN false L)).length + 1) (skipN false L) (L.drop (skipN false L)) = (R, O) := h
  rw [e] at hb
  exact ⟨hb.1, by have h2 : (preL R).length ≤ 2 * (L.length - skipN false L) := hb.2; omega⟩
end Go.Proofs.YtmoeokfjfnegmaaDoor
