/-
  Words as they are printed, read again: one word, and what follows.
  A program's words as it is printed; its text has these words.
  Statements, functions and programs as they are printed: their words.
  Expressions as they are printed, read again.
  Expressions as they are printed, read again: each kind.
-/
import Derived.Test.YtiadbeglhnocoaaGreatDoorJb11
namespace Go.Proofs.YtiadbeglhnocoaaGreatDoor
set_option linter.unusedVariables false
set_option linter.unusedSimpArgs false
open Go.RowKit

/-- A word without its place. -/
abbrev ETk := Int × Int × List UInt8
def er (t : Tk) : ETk := (t.kind, t.num, t.bytes)
/-- A text's words are these. -/
def LexTo (l : List UInt8) (E : List ETk) : Prop := ∀ k, ∃ R, lexU k l = (R, none) ∧ R.map er = E
theorem lexTo_nil : LexTo [] [] := fun k => ⟨[], lexU_end rfl, rfl⟩
theorem lexTo_gap {c : UInt8} {l : List UInt8} {E : List ETk} (hc : gapB (c.toNat : Int) = true) (h : LexTo l E) : LexTo (c :: l) E := fun k => by
  obtain ⟨R, h1, h2⟩ := h (k + 1)
  refine ⟨R, ?_, h2⟩
  rw [← h1]
  have e : skipN false (c :: l) = skipN false l + 1 := by rw [skipN, if_pos hc]
  unfold lexU
  rw [e, List.drop_succ_cons]
  congr 1
  omega
theorem lexTo_gaps {g l : List UInt8} {E : List ETk} (hg : ∀ c ∈ g, gapB (c.toNat : Int) = true) (h : LexTo l E) : LexTo (g ++ l) E := by
  induction g with
  | nil => exact h
  | cons c r ih => exact lexTo_gap (hg c (by simp)) (ih (fun x hx => hg x (by simp [hx])))
/-- One word. -/
theorem lexTo_word {b r : List UInt8} {E : List ETk} {kd n : Int} {c : UInt8} {b' : List UInt8} (hb : b = c :: b') (hg : gapB (c.toNat : Int) = false) (h35 : c ≠ 35) (hw : ∀ k, wordT k (b ++ r) = some ⟨kd, k, n, b⟩) (h : LexTo r E) : LexTo (b ++ r) ((kd, n, b) :: E) := fun k => by
  have hs : skipN false (b ++ r) = 0 := by
    rw [hb, List.cons_append, skipN, if_neg (by rw [hg]; decide), if_neg (by
      intro e
      exact h35 (UInt8.toNat_inj.mp e))]
  obtain ⟨R, h1, h2⟩ := h (k + b.length)
  have hl := lexU_good (k := k) (l := b ++ r) (t := ⟨kd, k, n, b⟩) (by rw [hs]; exact hw k)
  refine ⟨⟨kd, k, n, b⟩ :: R, ?_, ?_⟩
  · rw [hl, hs]
    simp only [Nat.add_zero, Nat.zero_add, List.drop_left]
    rw [h1]
  · simp only [List.map_cons, h2]
    rfl
/-- What follows is no part of a name. -/
def Stop (r : List UInt8) : Prop := ∀ c r', r = c :: r' → nameB (c.toNat : Int) = false
theorem stop_cons {c : UInt8} {r : List UInt8} (h : nameB (c.toNat : Int) = false) : Stop (c :: r) := fun c' r' e => by
  injection e with e1 _
  rw [← e1]
  exact h
theorem past_stop (p : Int → Bool) (b r : List UInt8) (hb : ∀ c ∈ b, p (c.toNat : Int) = true) (hr : ∀ c r', r = c :: r' → p (c.toNat : Int) = false) : pastN p (b ++ r) = b.length := by
  induction b with
  | nil =>
    cases r with
    | nil => rfl
    | cons c r' =>
      show pastN p (c :: r') = 0
      rw [pastN, if_neg (by rw [hr c r' rfl]; decide)]
  | cons a s ih =>
    rw [List.cons_append, pastN, if_pos (hb a (by simp)), ih (fun c hc => hb c (by simp [hc]))]
    rfl
theorem letter_plain {c : UInt8} (h : letterB c.toNat = true) : gapB (c.toNat : Int) = false ∧ c ≠ 35 := by
  unfold letterB at h
  unfold gapB
  simp at h ⊢
  refine ⟨by omega, fun e => ?_⟩
  subst e
  revert h
  decide
theorem lexTo_name {b r : List UInt8} {E : List ETk} {c : UInt8} {b' : List UInt8} (hb : b = c :: b') (hl : letterB c.toNat = true) (ha : ∀ x ∈ b, nameB x.toNat = true) (hr : Stop r) (h : LexTo r E) : LexTo (b ++ r) ((if keptB b = true then 3 else 1, 0, b) :: E) := by
  obtain ⟨hg, h35⟩ := letter_plain hl
  refine lexTo_word hb hg h35 (fun k => ?_) h
  have hp := past_stop nameB b r ha hr
  have ht : (b ++ r).take (pastN nameB (b ++ r)) = b := by rw [hp]; simp
  have e : b ++ r = c :: (b' ++ r) := by rw [hb]; rfl
  rw [e, wordT, if_pos hl, ← e]
  unfold nameT
  rw [ht]
theorem lexTo_nm {b r : List UInt8} {E : List ETk} (hb : NameOk b) (hr : Stop r) (h : LexTo r E) : LexTo (b ++ r) ((1, 0, b) :: E) := by
  obtain ⟨c, b', e, hl, ha, hk⟩ := hb
  have := lexTo_name e hl ha hr h
  rw [hk] at this
  exact this
theorem lexTo_kw (b : List UInt8) {r : List UInt8} {E : List ETk} {c : UInt8} {b' : List UInt8} (hb : b = c :: b') (hl : letterB c.toNat = true) (ha : ∀ x ∈ b, nameB x.toNat = true) (hk : keptB b = true) (hr : Stop r) (h : LexTo r E) : LexTo (b ++ r) ((3, 0, b) :: E) := by
  have := lexTo_name hb hl ha hr h
  rw [if_pos hk] at this
  exact this
/-! Numbers. -/
theorem mag_snoc (M : Nat) : ∀ (l : List UInt8) (acc : Nat) (c : UInt8) (a : Nat), Lib.parseUintM M acc l = .ok a → Lib.parseUintM M acc (l ++ [c]) = Lib.parseUintM M a [c]
  | [], acc, c, a, h => by
    simp only [Lib.parseUintM] at h
    injection h with h
    subst h
    rfl
  | x :: r, acc, c, a, h => by
    simp only [List.cons_append]
    rw [Lib.parseUintM] at h ⊢
    split at h
    · rename_i h1
      rw [if_pos h1]
      split at h
      · cases h
      · rename_i h2
        rw [if_neg h2]
        split at h
        · cases h
        · rename_i h3
          rw [if_neg h3]
          exact mag_snoc M r _ c a h
    · cases h
theorem dig_byte (d : Nat) (h : d < 10) : (UInt8.ofNat (48 + d)).toNat = 48 + d := by
  simp only [UInt8.toNat_ofNat']
  omega
theorem dec_back : ∀ (n u : Nat), u ≤ n → u < 18446744073709551616 → Lib.parseUintM (2 ^ 64 - 1) 0 (Lib.decDigits u) = .ok u ∧ Lib.decDigits u ≠ [] ∧ ∀ c ∈ Lib.decDigits u, digitB (c.toNat : Int) = true := by
  intro n
  induction n with
  | zero =>
    intro u hu _
    obtain rfl : u = 0 := by omega
    decide +kernel
  | succ n ih =>
    intro u hu h64
    by_cases h : u < 10
    · rw [Lib.decDigits, dif_pos h]
      have hb := dig_byte u h
      refine ⟨?_, by simp, ?_⟩
      · rw [Lib.parseUintM, hb, if_pos (by omega), if_neg (by omega), if_neg (by omega), Lib.parseUintM]
        congr 1
        omega
      · intro c hc
        rw [List.mem_singleton] at hc
        subst hc
        rw [hb]
        unfold digitB
        simp
        omega
    · rw [Lib.decDigits, dif_neg h]
      obtain ⟨h1, h2, h3⟩ := ih (u / 10) (by omega) (by omega)
      have hb := dig_byte (u % 10) (by omega)
      refine ⟨?_, by simp, ?_⟩
      · rw [mag_snoc _ _ _ _ _ h1, Lib.parseUintM, hb, if_pos (by omega), if_neg (by omega), if_neg (by omega), Lib.parseUintM]
        congr 1
        omega
      · intro c hc
        rw [List.mem_append, List.mem_singleton] at hc
        rcases hc with hc | rfl
        · exact h3 c hc
        · rw [hb]
          unfold digitB
          simp
          omega
theorem digit_name {c : UInt8} (h : digitB (c.toNat : Int) = true) : nameB (c.toNat : Int) = true := by unfold nameB; rw [h]; simp
theorem digit_plain {c : UInt8} (h : digitB (c.toNat : Int) = true) : gapB (c.toNat : Int) = false ∧ c ≠ 35 ∧ letterB (c.toNat : Int) = false := by
  unfold digitB at h
  unfold gapB letterB
  simp at h ⊢
  refine ⟨by omega, fun e => ?_, by omega⟩
  subst e
  revert h
  decide
theorem back_in (n : Int) (h : InI n) : wrap64 (u64M n : Int) = n := by
  unfold InI at h
  unfold wrap64 u64M
  omega
theorem lexTo_num {n : Int} (hn : InI n) {r : List UInt8} {E : List ETk} (hr : Stop r) (h : LexTo r E) : LexTo (digM n ++ r) ((2, n, digM n) :: E) := by
  obtain ⟨h1, h2, h3⟩ := dec_back (u64M n) (u64M n) (Nat.le_refl _) (u64M_lt n)
  obtain ⟨b, hb⟩ : ∃ b, b = digM n := ⟨_, rfl⟩
  have hb' : b = Lib.decDigits (u64M n) := hb
  rw [← hb'] at h1 h2 h3
  rw [← hb]
  obtain ⟨c, b', e⟩ := List.exists_cons_of_ne_nil h2
  have hc := h3 c (by rw [e]; simp)
  obtain ⟨hg, h35, hlt⟩ := digit_plain hc
  refine lexTo_word e hg h35 (fun k => ?_) h
  have hp := past_stop digitB b r h3 (fun c r' e => by
    have := hr c r' e
    unfold nameB at this
    simp at this
    exact this.2)
  have ht : (b ++ r).take (pastN digitB (b ++ r)) = b := by rw [hp]; simp
  have e2 : b ++ r = c :: (b' ++ r) := by rw [e]; rfl
  rw [e2, wordT, if_neg (by rw [hlt]; decide), if_pos hc, ← e2]
  unfold numT
  rw [ht]
  have : Lib.parseUintB 64 b = .ok (u64M n) := by
    unfold Lib.parseUintB
    rw [if_neg h2]
    exact h1
  rw [this]
  simp only
  rw [back_in n hn]
/-! Signs. -/
theorem lexTo_sg {b r : List UInt8} {E : List ETk} {c : UInt8} {b' : List UInt8} (hb : b = c :: b') (h1 : letterB (c.toNat : Int) = false) (h2 : digitB (c.toNat : Int) = false) (hg : gapB (c.toNat : Int) = false) (h35 : c ≠ 35) (hs : signN (b ++ r) = b.length) (h : LexTo r E) : LexTo (b ++ r) ((4, 0, b) :: E) := by
  refine lexTo_word hb hg h35 (fun k => ?_) h
  have e : b ++ r = c :: (b' ++ r) := by rw [hb]; rfl
  have hl : b.length ≠ 0 := by rw [hb]; simp
  rw [e, wordT, if_neg (by rw [h1]; decide), if_neg (by rw [h2]; decide), ← e]
  unfold signT
  rw [hs, if_neg hl]
  simp
/-- A byte with which no longer sign begins. -/
def lone (c : UInt8) : Bool := signB [c] && signW.all fun x => x.length == 1 || x.head? != some c
theorem sign_lone {c : UInt8} (hc : lone c = true) (r : List UInt8) : signN (c :: r) = 1 := by
  unfold lone at hc
  rw [Bool.and_eq_true] at hc
  obtain ⟨h1, h2⟩ := hc
  have hle : 1 ≤ signN (c :: r) := by
    unfold signN
    exact signU_top _ (c :: r) 1 (by omega) (by simp; omega) h1
  refine Nat.le_antisymm ?_ hle
  rcases signU_is (min 3 (c :: r).length) (c :: r) with e | e
  · unfold signN at hle ⊢; omega
  · show signU (min 3 (c :: r).length) (c :: r) ≤ 1
    have hle' : 1 ≤ signU (min 3 (c :: r).length) (c :: r) := hle
    have hlen := signU_le (min 3 (c :: r).length) (c :: r)
    generalize signU (min 3 (c :: r).length) (c :: r) = z at e hle' hlen ⊢
    unfold signB at e
    rw [List.any_eq_true] at e
    obtain ⟨x, hx, he⟩ := e
    have he : (c :: r).take z = x := by simpa using he
    rw [List.all_eq_true] at h2
    have h3 := h2 x hx
    rw [Bool.or_eq_true] at h3
    rcases h3 with h3 | h3
    · have h4 : x.length = 1 := by simpa using h3
      rw [← he, List.length_take] at h4
      have h5 : (c :: r).length = r.length + 1 := rfl
      omega
    · exfalso
      rw [← he] at h3
      obtain ⟨y, rfl⟩ : ∃ y, z = y + 1 := ⟨z - 1, by omega⟩
      simp at h3
theorem lexTo_lone {c : UInt8} (hc : lone c = true) (h1 : letterB (c.toNat : Int) = false) (h2 : digitB (c.toNat : Int) = false) (hg : gapB (c.toNat : Int) = false) (h35 : c ≠ 35) {r : List UInt8} {E : List ETk} (h : LexTo r E) : LexTo (c :: r) ((4, 0, [c]) :: E) :=
  lexTo_sg (b := [c]) rfl h1 h2 hg h35 (sign_lone hc r) h
/-- An operation's sign, a gap behind it. -/
theorem lexTo_op {b r : List UInt8} {E : List ETk} {c : UInt8} {b' : List UInt8} {g : UInt8} (hb : b = c :: b') (hs : signB b = true) (h3 : b.length ≤ 3) (h1 : letterB (c.toNat : Int) = false) (h2 : digitB (c.toNat : Int) = false) (hg : gapB (c.toNat : Int) = false) (h35 : c ≠ 35) (hgg : gapB (g.toNat : Int) = true) (h : LexTo r E) : LexTo (b ++ g :: r) ((4, 0, b) :: E) :=
  lexTo_sg hb h1 h2 hg h35 (by rw [sign_app b g r hgg]; exact sign_self b hs h3) (lexTo_gap hgg h)
/-- '!', not ahead of '='. -/
theorem sign_not {r : List UInt8} (hr : ∀ r', r ≠ 61 :: r') : signN (33 :: r) = 1 := by
  have h1 : signB [33] = true := by decide
  have hle : 1 ≤ signN (33 :: r) := by
    unfold signN
    exact signU_top _ (33 :: r) 1 (by omega) (by simp; omega) h1
  refine Nat.le_antisymm ?_ hle
  rcases signU_is (min 3 (33 :: r : List UInt8).length) (33 :: r) with e | e
  · unfold signN at hle ⊢; omega
  · show signU (min 3 (33 :: r : List UInt8).length) (33 :: r) ≤ 1
    have hle' : 1 ≤ signU (min 3 (33 :: r : List UInt8).length) (33 :: r) := hle
    have hlen := signU_le (min 3 (33 :: r : List UInt8).length) (33 :: r)
    generalize signU (min 3 (33 :: r : List UInt8).length) (33 :: r) = z at e hle' hlen ⊢
    unfold signB at e
    rw [List.any_eq_true] at e
    obtain ⟨x, hx, he⟩ := e
    have he : (33 :: r).take z = x := by simpa using he
    have hall : ∀ x ∈ signW, x.head? = some (33 : UInt8) → x = [33] ∨ x = [33, 61] := by decide
    obtain ⟨y, rfl⟩ : ∃ y, z = y + 1 := ⟨z - 1, by omega⟩
    have hh := hall x hx (by rw [← he]; simp)
    rcases hh with rfl | rfl
    · simp at he
      have h5 : (33 :: r : List UInt8).length = r.length + 1 := rfl
      rcases he with he | he
      · omega
      · subst he; simp at hlen; omega
    · simp at he
      cases r with
      | nil => simp at he
      | cons a r' =>
        cases y with
        | zero => simp at he
        | succ y =>
          simp at he
          exact absurd (by rw [he.1]) (hr r')
end Go.Proofs.YtiadbeglhnocoaaGreatDoor
namespace Go.Proofs.YtiadbeglhnocoaaGreatDoor
set_option linter.unusedVariables false
set_option linter.unusedSimpArgs false
open Go.RowKit

def sg (b : List UInt8) : ETk := (4, 0, b)
def kw (b : List UInt8) : ETk := (3, 0, b)
def nmt (b : List UInt8) : ETk := (1, 0, b)
def nut (n : Int) : ETk := (2, n, digM n)
/-- Words with a comma between them. -/
def jt : List (List ETk) → List ETk
  | [] => []
  | [x] => x
  | x :: y :: r => x ++ (sg [44] :: jt (y :: r))
def pT (ks : List (List ETk)) (b : List UInt8) : List ETk := sg [40] :: (jt (ks.take 1) ++ (sg b :: (jt ((ks.drop 1).take 1) ++ [sg [41]])))
def tkK (k o n : Int) (s : List UInt8) (ks : List (List ETk)) : List ETk :=
  if k = 1 then [nut n] else if k = 2 then [kw (truthB n)] else if k = 3 then [nmt s]
  else if k = 4 then sg [40] :: sg (sgnB o) :: (jt (ks.take 1) ++ [sg [41]])
  else if k = 5 then pT ks (sgnB o)
  else if k = 6 then pT ks [38, 38]
  else if k = 7 then pT ks [124, 124]
  else if k = 8 then nmt s :: sg [40] :: (jt ks ++ [sg [41]])
  else if k = 9 then jt (ks.take 1) ++ (sg [91] :: (jt (ks.drop 1) ++ [sg [93]]))
  else if k = 10 then kw [110, 101, 119] :: sg [91] :: (jt ks ++ [sg [93]])
  else if k = 11 then kw [108, 101, 110] :: sg [40] :: (jt (ks.take 1) ++ [sg [41]])
  else if k = 12 then kw [114, 111, 119, 115] :: sg [40] :: (jt (ks.take 1) ++ [sg [41]])
  else if k = 13 then kw [99, 111, 108, 115] :: sg [40] :: (jt (ks.take 1) ++ [sg [41]])
  else if k = 14 then [kw [105, 110, 112, 117, 116]]
  else []
mutual
def tkE : Ex → List ETk
  | .mk k _ _ o n s kids => tkK k o n s.data.toList (tkEs kids)
def tkEs : List Ex → List (List ETk)
  | [] => []
  | e :: r => tkE e :: tkEs r
end
theorem stop_r (c : UInt8) (h : nameB (c.toNat : Int) = false) (r : List UInt8) : Stop (c :: r) := stop_cons h
/-- Signs that stand alone. -/
theorem lt_40 {r : List UInt8} {E : List ETk} (h : LexTo r E) : LexTo (40 :: r) (sg [40] :: E) := lexTo_lone (by decide) (by decide) (by decide) (by decide) (by decide) h
theorem lt_41 {r : List UInt8} {E : List ETk} (h : LexTo r E) : LexTo (41 :: r) (sg [41] :: E) := lexTo_lone (by decide) (by decide) (by decide) (by decide) (by decide) h
theorem lt_91 {r : List UInt8} {E : List ETk} (h : LexTo r E) : LexTo (91 :: r) (sg [91] :: E) := lexTo_lone (by decide) (by decide) (by decide) (by decide) (by decide) h
theorem lt_93 {r : List UInt8} {E : List ETk} (h : LexTo r E) : LexTo (93 :: r) (sg [93] :: E) := lexTo_lone (by decide) (by decide) (by decide) (by decide) (by decide) h
theorem lt_123 {r : List UInt8} {E : List ETk} (h : LexTo r E) : LexTo (123 :: r) (sg [123] :: E) := lexTo_lone (by decide) (by decide) (by decide) (by decide) (by decide) h
theorem lt_125 {r : List UInt8} {E : List ETk} (h : LexTo r E) : LexTo (125 :: r) (sg [125] :: E) := lexTo_lone (by decide) (by decide) (by decide) (by decide) (by decide) h
theorem lt_44 {r : List UInt8} {E : List ETk} (h : LexTo r E) : LexTo (44 :: r) (sg [44] :: E) := lexTo_lone (by decide) (by decide) (by decide) (by decide) (by decide) h
theorem lt_59 {r : List UInt8} {E : List ETk} (h : LexTo r E) : LexTo (59 :: r) (sg [59] :: E) := lexTo_lone (by decide) (by decide) (by decide) (by decide) (by decide) h
theorem lt_58 {r : List UInt8} {E : List ETk} (h : LexTo r E) : LexTo (58 :: r) (sg [58] :: E) := lexTo_lone (by decide) (by decide) (by decide) (by decide) (by decide) h
theorem lt_45 {r : List UInt8} {E : List ETk} (h : LexTo r E) : LexTo (45 :: r) (sg [45] :: E) := lexTo_lone (by decide) (by decide) (by decide) (by decide) (by decide) h
theorem lt_126 {r : List UInt8} {E : List ETk} (h : LexTo r E) : LexTo (126 :: r) (sg [126] :: E) := lexTo_lone (by decide) (by decide) (by decide) (by decide) (by decide) h
theorem lt_33 {r : List UInt8} {E : List ETk} (hr : ∀ r', r ≠ 61 :: r') (h : LexTo r E) : LexTo (33 :: r) (sg [33] :: E) := lexTo_sg (b := [33]) rfl (by decide) (by decide) (by decide) (by decide) (sign_not hr) h
theorem lt_sp {r : List UInt8} {E : List ETk} (h : LexTo r E) : LexTo (32 :: r) E := lexTo_gap (by decide) h
theorem lt_nl {r : List UInt8} {E : List ETk} (h : LexTo r E) : LexTo (10 :: r) E := lexTo_gap (by decide) h
theorem lt_61 {r : List UInt8} {E : List ETk} (h : LexTo r E) : LexTo (61 :: 32 :: r) (sg [61] :: E) := lexTo_op (b := [61]) rfl (by decide) (by decide) (by decide) (by decide) (by decide) (by decide) (by decide) h
/-- A kept name. -/
def isKw (b : List UInt8) : Bool := keptB b && (b.all fun x => nameB (x.toNat : Int)) && (match b with | [] => false | c :: _ => letterB (c.toNat : Int))
theorem lt_kw {b : List UInt8} (hb : isKw b = true) {r : List UInt8} {E : List ETk} (hr : Stop r) (h : LexTo r E) : LexTo (b ++ r) (kw b :: E) := by
  unfold isKw at hb
  rw [Bool.and_eq_true, Bool.and_eq_true] at hb
  obtain ⟨⟨h1, h2⟩, h3⟩ := hb
  cases b with
  | nil => cases h3
  | cons c b' => exact lexTo_kw (c :: b') rfl h3 (fun x hx => List.all_eq_true.mp h2 x hx) h1 hr h
/-- An operation between two. -/
theorem lt_op (o : Int) (ho : o ∈ opsL) {r : List UInt8} {E : List ETk} (h : LexTo r E) : LexTo (sgnB o ++ 32 :: r) (sg (sgnB o) :: E) := by
  have : ∀ o ∈ opsL, ∃ c b', sgnB o = c :: b' ∧ signB (sgnB o) = true ∧ (sgnB o).length ≤ 3 ∧ letterB (c.toNat : Int) = false ∧ digitB (c.toNat : Int) = false ∧ gapB (c.toNat : Int) = false ∧ c ≠ 35 := by
    intro o ho
    unfold opsL at ho
    simp only [List.mem_cons, List.not_mem_nil, or_false] at ho
    rcases ho with rfl | rfl | rfl | rfl | rfl | rfl | rfl | rfl | rfl | rfl | rfl | rfl | rfl | rfl | rfl | rfl | rfl <;> exact ⟨_, _, rfl, by decide, by decide, by decide, by decide, by decide, by decide⟩
  obtain ⟨c, b', h1, h2, h3, h4, h5, h6, h7⟩ := this o ho
  exact lexTo_op h1 h2 h3 h4 h5 h6 h7 (by decide) h
theorem lt_and {r : List UInt8} {E : List ETk} (h : LexTo r E) : LexTo (38 :: 38 :: 32 :: r) (sg [38, 38] :: E) := lexTo_op (b := [38, 38]) rfl (by decide) (by decide) (by decide) (by decide) (by decide) (by decide) (by decide) h
theorem lt_or {r : List UInt8} {E : List ETk} (h : LexTo r E) : LexTo (124 :: 124 :: 32 :: r) (sg [124, 124] :: E) := lexTo_op (b := [124, 124]) rfl (by decide) (by decide) (by decide) (by decide) (by decide) (by decide) (by decide) h
/-- How a text begins. -/
def Hd (l : List UInt8) : Prop := ∃ c t, l = c :: t ∧ c ≠ 61
theorem hd_name {b : List UInt8} (h : NameOk b) : Hd b := by
  obtain ⟨c, r, e, hl, _⟩ := h
  exact ⟨c, r, e, fun e => by subst e; revert hl; decide⟩
theorem hd_app {a : List UInt8} (b : List UInt8) (h : Hd a) : Hd (a ++ b) := by
  obtain ⟨c, t, rfl, h⟩ := h
  exact ⟨c, t ++ b, rfl, h⟩
theorem hd_ne {a : List UInt8} (h : Hd a) : ∀ r', a ≠ 61 :: r' := fun r' e => by
  obtain ⟨c, t, rfl, h⟩ := h
  injection e with e1 _
  exact h e1
theorem hd_dig (n : Int) : Hd (digM n) := by
  obtain ⟨h1, h2, h3⟩ := dec_back (u64M n) (u64M n) (Nat.le_refl _) (u64M_lt n)
  obtain ⟨c, b', e⟩ := List.exists_cons_of_ne_nil h2
  have hc := h3 c (by rw [e]; simp)
  exact ⟨c, b', e, fun e => by subst e; revert hc; decide⟩
theorem len_two {α : Type} {l : List α} (h : l.length = 2) : ∃ x y, l = [x, y] := by
  match l, h with
  | [x, y], _ => exact ⟨x, y, rfl⟩
theorem jn_one (x : List UInt8) : jn [x] = x := rfl
theorem jt_one (x : List ETk) : jt [x] = x := rfl
theorem stop_in {c : UInt8} (h : nameB (c.toNat : Int) = false) {r : List UInt8} : Stop (c :: r) := stop_cons h
/-- What an expression's text has, whatever follows. -/
def LxE (e : Ex) : Prop := Hd (prE e) ∧ ∀ r E, Stop r → LexTo r E → LexTo (prE e ++ r) (tkE e ++ E)
theorem lx_join (l : List Ex) (h : ∀ e ∈ l, LxE e) (r : List UInt8) (E : List ETk) (hs : Stop r) (hr : LexTo r E) : LexTo (jn (prEs l) ++ r) (jt (tkEs l) ++ E) := by
  induction l with
  | nil => exact hr
  | cons x t ih =>
    cases t with
    | nil => simp only [prEs, tkEs, jn, jt]; exact (h x (by simp)).2 r E hs hr
    | cons y t =>
      have h2 := ih (fun e he => h e (by simp [he]))
      simp only [prEs, tkEs] at h2 ⊢
      have e1 : jn (prE x :: prE y :: prEs t) ++ r = prE x ++ (44 :: 32 :: (jn (prE y :: prEs t) ++ r)) := by simp [jn]
      have e2 : jt (tkE x :: tkE y :: tkEs t) ++ E = tkE x ++ (sg [44] :: (jt (tkE y :: tkEs t) ++ E)) := by simp [jt]
      rw [e1, e2]
      exact (h x (by simp)).2 _ _ (stop_cons (by decide)) (lt_44 (lt_sp h2))
theorem wf_ops4 (o : Int) (h : o = 15 ∨ o = 16 ∨ o = 24) {r : List UInt8} {E : List ETk} (hr : ∀ r', r ≠ 61 :: r') (k : LexTo r E) : LexTo (sgnB o ++ r) (sg (sgnB o) :: E) := by
  rcases h with rfl | rfl | rfl
  · exact lt_45 k
  · exact lt_126 k
  · exact lt_33 hr k
theorem lx_pair (x y : Ex) (b : List UInt8) (hx : LxE x) (hy : LxE y) (hop : ∀ (r : List UInt8) (E : List ETk), LexTo r E → LexTo (b ++ 32 :: r) (sg b :: E)) (r : List UInt8) (E : List ETk) (hr : LexTo r E) : LexTo (pairP [prE x, prE y] b ++ r) (pT [tkE x, tkE y] b ++ E) := by
  have e1 : pairP [prE x, prE y] b ++ r = 40 :: (prE x ++ (32 :: (b ++ 32 :: (prE y ++ (41 :: r))))) := by simp [pairP, lsP, jn]
  have e2 : pT [tkE x, tkE y] b ++ E = sg [40] :: (tkE x ++ (sg b :: (tkE y ++ (sg [41] :: E)))) := by simp [pT, jt]
  rw [e1, e2]
  exact lt_40 (hx.2 _ _ (stop_cons (by decide)) (lt_sp (hop _ _ (hy.2 _ _ (stop_cons (by decide)) (lt_41 hr)))))
theorem hd_cons {c : UInt8} (h : c ≠ 61) (t : List UInt8) : Hd (c :: t) := ⟨c, t, rfl, h⟩
theorem lx_node (k a t o n : Int) (s : ByteArray) (kids : List Ex) (hsh : shK k o n s kids.length) (hk : ∀ e ∈ kids, LxE e) : LxE (.mk k a t o n s kids) := by
  unfold shK at hsh
  rcases hsh with ⟨rfl, rfl, rfl, hm, hi⟩ | ⟨rfl, rfl, rfl, hm, hn⟩ | ⟨rfl, rfl, rfl, hm, hn⟩ | ⟨rfl, ho, rfl, rfl, hm⟩ | ⟨rfl, ho, rfl, rfl, hm⟩ | ⟨hk67, rfl, rfl, rfl, hm⟩ | ⟨rfl, rfl, rfl, hn⟩ | ⟨rfl, rfl, rfl, rfl, hm⟩ | ⟨rfl, rfl, rfl, rfl, hm⟩ | ⟨hk13, rfl, rfl, rfl, hm⟩ | ⟨rfl, rfl, rfl, rfl, hm⟩
  · refine ⟨by simp only [prE, prK]; exact hd_dig n, fun r E hs hr => ?_⟩
    simp only [prE, tkE, prK, tkK]
    exact lexTo_num hi hs hr
  · refine ⟨?_, fun r E hs hr => ?_⟩
    · rcases hn with rfl | rfl
      · exact hd_cons (by decide) _
      · exact hd_cons (by decide) _
    · rcases hn with rfl | rfl
      · exact lt_kw (b := [102, 97, 108, 115, 101]) (by decide) hs hr
      · exact lt_kw (b := [116, 114, 117, 101]) (by decide) hs hr
  · refine ⟨by simp only [prE, prK]; exact hd_name hn, fun r E hs hr => ?_⟩
    simp only [prE, tkE, prK, tkK]
    exact lexTo_nm hn hs hr
  · obtain ⟨x, rfl⟩ := List.length_eq_one_iff.mp hm
    have hx := hk x (by simp)
    refine ⟨hd_cons (c := 40) (by decide) _, fun r E hs hr => ?_⟩
    have e1 : prE (.mk 4 a t o 0 ⟨#[]⟩ [x]) ++ r = 40 :: (sgnB o ++ (prE x ++ (41 :: r))) := by simp [prE, prEs, prK, lsP, jn]
    have e2 : tkE (.mk 4 a t o 0 ⟨#[]⟩ [x]) ++ E = sg [40] :: (sg (sgnB o) :: (tkE x ++ (sg [41] :: E))) := by simp [tkE, tkEs, tkK, jt]
    rw [e1, e2]
    exact lt_40 (wf_ops4 o ho (hd_ne (hd_app _ hx.1)) (hx.2 _ _ (stop_cons (by decide)) (lt_41 hr)))
  · obtain ⟨x, y, rfl⟩ := len_two hm
    refine ⟨hd_cons (c := 40) (by decide) _, fun r E hs hr => ?_⟩
    exact lx_pair x y (sgnB o) (hk x (by simp)) (hk y (by simp)) (fun r E h => lt_op o ho h) r E hr
  · obtain ⟨x, y, rfl⟩ := len_two hm
    rcases hk67 with rfl | rfl
    · refine ⟨hd_cons (c := 40) (by decide) _, fun r E hs hr => ?_⟩
      exact lx_pair x y [38, 38] (hk x (by simp)) (hk y (by simp)) (fun r E h => lt_and h) r E hr
    · refine ⟨hd_cons (c := 40) (by decide) _, fun r E hs hr => ?_⟩
      exact lx_pair x y [124, 124] (hk x (by simp)) (hk y (by simp)) (fun r E h => lt_or h) r E hr
  · refine ⟨?_, fun r E hs hr => ?_⟩
    · simp [prE, prK, lsP]
      exact hd_app _ (hd_name hn)
    · have e1 : prE (.mk 8 a t 0 0 s kids) ++ r = s.data.toList ++ (40 :: (jn (prEs kids) ++ (41 :: r))) := by simp [prE, prK, lsP]
      have e2 : tkE (.mk 8 a t 0 0 s kids) ++ E = nmt s.data.toList :: (sg [40] :: (jt (tkEs kids) ++ (sg [41] :: E))) := by simp [tkE, tkK]
      rw [e1, e2]
      exact lexTo_nm hn (stop_cons (by decide)) (lt_40 (lx_join kids hk _ _ (stop_cons (by decide)) (lt_41 hr)))
  · cases kids with
    | nil => simp at hm
    | cons x rest =>
      have hx := hk x (by simp)
      refine ⟨?_, fun r E hs hr => ?_⟩
      · simp [prE, prEs, prK, lsP, jn]
        exact hd_app _ hx.1
      · have e1 : prE (.mk 9 a t 0 0 ⟨#[]⟩ (x :: rest)) ++ r = prE x ++ (91 :: (jn (prEs rest) ++ (93 :: r))) := by simp [prE, prEs, prK, lsP, jn]
        have e2 : tkE (.mk 9 a t 0 0 ⟨#[]⟩ (x :: rest)) ++ E = tkE x ++ (sg [91] :: (jt (tkEs rest) ++ (sg [93] :: E))) := by simp [tkE, tkEs, tkK, jt]
        rw [e1, e2]
        exact hx.2 _ _ (stop_cons (by decide)) (lt_91 (lx_join rest (fun e he => hk e (by simp [he])) _ _ (stop_cons (by decide)) (lt_93 hr)))
  · refine ⟨hd_cons (c := 110) (by decide) _, fun r E hs hr => ?_⟩
    have e1 : prE (.mk 10 a t 0 0 ⟨#[]⟩ kids) ++ r = [110, 101, 119] ++ (32 :: 91 :: (jn (prEs kids) ++ (93 :: r))) := by simp [prE, prK, lsP]
    have e2 : tkE (.mk 10 a t 0 0 ⟨#[]⟩ kids) ++ E = kw [110, 101, 119] :: (sg [91] :: (jt (tkEs kids) ++ (sg [93] :: E))) := by simp [tkE, tkK]
    rw [e1, e2]
    exact lt_kw (by decide) (stop_cons (by decide)) (lt_sp (lt_91 (lx_join kids hk _ _ (stop_cons (by decide)) (lt_93 hr))))
  · obtain ⟨x, rfl⟩ := List.length_eq_one_iff.mp hm
    have hx := hk x (by simp)
    rcases hk13 with rfl | rfl | rfl
    · refine ⟨hd_cons (c := 108) (by decide) _, fun r E hs hr => ?_⟩
      have e1 : prE (.mk 11 a t 0 0 ⟨#[]⟩ [x]) ++ r = [108, 101, 110] ++ (40 :: (prE x ++ (41 :: r))) := by simp [prE, prEs, prK, lsP, jn]
      have e2 : tkE (.mk 11 a t 0 0 ⟨#[]⟩ [x]) ++ E = kw [108, 101, 110] :: (sg [40] :: (tkE x ++ (sg [41] :: E))) := by simp [tkE, tkEs, tkK, jt]
      rw [e1, e2]
      exact lt_kw (by decide) (stop_cons (by decide)) (lt_40 (hx.2 _ _ (stop_cons (by decide)) (lt_41 hr)))
    · refine ⟨hd_cons (c := 114) (by decide) _, fun r E hs hr => ?_⟩
      have e1 : prE (.mk 12 a t 0 0 ⟨#[]⟩ [x]) ++ r = [114, 111, 119, 115] ++ (40 :: (prE x ++ (41 :: r))) := by simp [prE, prEs, prK, lsP, jn]
      have e2 : tkE (.mk 12 a t 0 0 ⟨#[]⟩ [x]) ++ E = kw [114, 111, 119, 115] :: (sg [40] :: (tkE x ++ (sg [41] :: E))) := by simp [tkE, tkEs, tkK, jt]
      rw [e1, e2]
      exact lt_kw (by decide) (stop_cons (by decide)) (lt_40 (hx.2 _ _ (stop_cons (by decide)) (lt_41 hr)))
    · refine ⟨hd_cons (c := 99) (by decide) _, fun r E hs hr => ?_⟩
      have e1 : prE (.mk 13 a t 0 0 ⟨#[]⟩ [x]) ++ r = [99, 111, 108, 115] ++ (40 :: (prE x ++ (41 :: r))) := by simp [prE, prEs, prK, lsP, jn]
      have e2 : tkE (.mk 13 a t 0 0 ⟨#[]⟩ [x]) ++ E = kw [99, 111, 108, 115] :: (sg [40] :: (tkE x ++ (sg [41] :: E))) := by simp [tkE, tkEs, tkK, jt]
      rw [e1, e2]
      exact lt_kw (by decide) (stop_cons (by decide)) (lt_40 (hx.2 _ _ (stop_cons (by decide)) (lt_41 hr)))
  · refine ⟨hd_cons (c := 105) (by decide) _, fun r E hs hr => ?_⟩
    exact lt_kw (b := [105, 110, 112, 117, 116]) (by decide) hs hr
mutual
theorem lx_all : ∀ e : Ex, WFE e → LxE e
  | .mk k a t o n s kids, h => by
    unfold WFE at h
    exact lx_node k a t o n s kids h.1 (lxs_all kids h.2)
theorem lxs_all : ∀ l : List Ex, WFEs l → ∀ e ∈ l, LxE e
  | [], _ => fun e he => absurd he (List.not_mem_nil)
  | x :: r, h => by
    unfold WFEs at h
    intro e he
    rcases List.mem_cons.mp he with he2 | he
    · rw [he2]; exact lx_all x h.1
    · exact lxs_all r h.2 e he
end
end Go.Proofs.YtiadbeglhnocoaaGreatDoor
namespace Go.Proofs.YtiadbeglhnocoaaGreatDoor
set_option linter.unusedVariables false
set_option linter.unusedSimpArgs false
open Go.RowKit

def tkP (ks : List Ex) (i : Nat) : List ETk := match ks[i]? with
  | some e => tkE e
  | none => []
def stepT (n : Int) : List ETk := if n = 1 then [] else if n < 0 then [kw [115, 116, 101, 112], sg [45], nut (wrap64 (-n))] else [kw [115, 116, 101, 112], nut n]
mutual
/-- A statement's words. -/
def tkS : St → List ETk
  | .mk k _ _ s p kids body els =>
    if k = 1 then kw [118, 97, 114] :: nmt s.data.toList :: sg [61] :: (tkP kids 0 ++ [sg [59]])
    else if k = 2 then nmt s.data.toList :: sg [61] :: (tkP kids 0 ++ [sg [59]])
    else if k = 3 then tkP kids 0 ++ (sg [61] :: (tkP kids 1 ++ [sg [59]]))
    else if k = 4 then kw [105, 102] :: (tkP kids 0 ++ (sg [123] :: (tkSs body ++ (sg [125] :: (if els.isEmpty = true then [] else kw [101, 108, 115, 101] :: sg [123] :: (tkSs els ++ [sg [125]]))))))
    else if k = 5 then kw [119, 104, 105, 108, 101] :: (tkP kids 0 ++ (sg [123] :: (tkSs body ++ [sg [125]])))
    else if k = 6 then kw [102, 111, 114] :: nmt s.data.toList :: sg [61] :: (tkP kids 0 ++ (kw [116, 111] :: (tkP kids 1 ++ (stepT p ++ (sg [123] :: (tkSs body ++ [sg [125]]))))))
    else if k = 7 then [kw [98, 114, 101, 97, 107], sg [59]]
    else if k = 8 then [kw [99, 111, 110, 116, 105, 110, 117, 101], sg [59]]
    else if k = 9 then kw [114, 101, 116, 117, 114, 110] :: (if kids.isEmpty = true then [sg [59]] else tkP kids 0 ++ [sg [59]])
    else if k = 10 then kw [112, 114, 105, 110, 116] :: (tkP kids 0 ++ [sg [59]])
    else if k = 11 then tkP kids 0 ++ [sg [59]]
    else []
def tkSs : List St → List ETk
  | [] => []
  | s :: r => tkS s ++ tkSs r
end
def tyT (t : Int) : List ETk := if t = 1 then [kw [105, 110, 116]] else if t = 2 then [kw [98, 111, 111, 108]] else if t = 3 then [sg [91], kw [105, 110, 116], sg [93]] else [sg [91], sg [91], kw [105, 110, 116], sg [93], sg [93]]
def paT (p : Pa) : List ETk := nmt p.name.data.toList :: sg [58] :: tyT p.type
def resT (t : Int) : List ETk := if t = 0 then [] else sg [58] :: tyT t
def tkF (f : Fu) : List ETk := kw [102, 110] :: nmt f.name.data.toList :: sg [40] :: (jt (f.params.map paT) ++ (sg [41] :: (resT f.ret ++ (sg [123] :: (tkSs f.body ++ [sg [125]])))))
def tkT : List Fu → List ETk
  | [] => []
  | f :: r => tkF f ++ tkT r
theorem lx_line {d : Nat} {ws : List (List UInt8)} {r : List UInt8} {E : List ETk} (h : LexTo (ws.flatten ++ (10 :: r)) E) : LexTo (lnP d ws ++ r) E := by
  have e : lnP d ws ++ r = List.replicate d 9 ++ (ws.flatten ++ (10 :: r)) := by simp [lnP]
  rw [e]
  exact lexTo_gaps (fun c hc => by rw [List.eq_of_mem_replicate hc]; decide) h
def LxS (x : St) : Prop := ∀ (d : Nat) r E, LexTo r E → LexTo (prS d x ++ r) (tkS x ++ E)
def LxSs (l : List St) : Prop := ∀ (d : Nat) r E, LexTo r E → LexTo (prSs d l ++ r) (tkSs l ++ E)
theorem st_sp {r : List UInt8} : Stop (32 :: r) := stop_cons (by decide)
theorem st_59 {r : List UInt8} : Stop (59 :: r) := stop_cons (by decide)
theorem lx_step (p : Int) (hp : InI p) (r : List UInt8) (E : List ETk) (h : LexTo (32 :: r) E) : LexTo (stepB p ++ 32 :: r) (stepT p ++ E) := by
  unfold stepB stepT
  split
  · exact h
  · split
    · have e : [32, 115, 116, 101, 112, 32, 45] ++ digM (wrap64 (-p)) ++ 32 :: r = 32 :: ([115, 116, 101, 112] ++ (32 :: 45 :: (digM (wrap64 (-p)) ++ 32 :: r))) := by simp
      rw [e]
      exact lt_sp (lt_kw (by decide) st_sp (lt_sp (lt_45 (lexTo_num (wrap_in _) st_sp h))))
    · have e : [32, 115, 116, 101, 112, 32] ++ digM p ++ 32 :: r = 32 :: ([115, 116, 101, 112] ++ (32 :: (digM p ++ 32 :: r))) := by simp
      rw [e]
      exact lt_sp (lt_kw (by decide) st_sp (lt_sp (lexTo_num hp st_sp h)))
theorem lx_stmt (D k a n : Int) (s : ByteArray) (p : Int) (kids : List Ex) (body els : List St) (h : WFS D (.mk k a n s p kids body els)) (hb : LxSs body) (he : LxSs els) : LxS (.mk k a n s p kids body els) := by
  unfold WFS at h
  obtain ⟨-, rfl, hsh, hk, -, -, -⟩ := h
  have hx := lxs_all kids hk
  unfold shS at hsh
  intro d r E hr
  rcases hsh with ⟨rfl, hn, rfl, hm, rfl, rfl⟩ | ⟨rfl, hn, rfl, hm, rfl, rfl⟩ | ⟨rfl, rfl, rfl, rfl, rfl, q, y, rfl, _, _⟩ | ⟨rfl, rfl, rfl, hm⟩ | ⟨rfl, rfl, rfl, hm, rfl⟩ | ⟨rfl, hn, hp, hp0, hm, rfl⟩ | ⟨hk78, rfl, rfl, rfl, rfl, rfl⟩ | ⟨rfl, rfl, rfl, hm, rfl, rfl⟩ | ⟨rfl, rfl, rfl, hm, rfl, rfl⟩ | ⟨rfl, rfl, rfl, rfl, rfl, q, rfl, _, _⟩
  · obtain ⟨x, rfl⟩ := List.length_eq_one_iff.mp hm
    have h1 := (hx x (by simp)).2
    have e2 : tkS (.mk 1 a 0 s 0 [x] [] []) ++ E = kw [118, 97, 114] :: (nmt s.data.toList :: (sg [61] :: (tkE x ++ (sg [59] :: E)))) := by simp [tkS, tkP]
    rw [e2]
    simp only [prS, kid0, if_true]
    refine lx_line ?_
    have e1 : [[118, 97, 114, 32], s.data.toList, [32, 61, 32], prE x, [59]].flatten ++ (10 :: r) = [118, 97, 114] ++ (32 :: (s.data.toList ++ (32 :: (61 :: 32 :: (prE x ++ (59 :: (10 :: r))))))) := by simp
    rw [e1]
    exact lt_kw (by decide) st_sp (lt_sp (lexTo_nm hn st_sp (lt_sp (lt_61 (h1 _ _ st_59 (lt_59 (lt_nl hr)))))))
  · obtain ⟨x, rfl⟩ := List.length_eq_one_iff.mp hm
    have h1 := (hx x (by simp)).2
    have e2 : tkS (.mk 2 a 0 s 0 [x] [] []) ++ E = nmt s.data.toList :: (sg [61] :: (tkE x ++ (sg [59] :: E))) := by simp [tkS, tkP]
    rw [e2]
    have e0 : prS d (.mk 2 a 0 s 0 [x] [] []) = lnP d [s.data.toList, [32, 61, 32], prE x, [59]] := by simp [prS, kid0]
    rw [e0]
    refine lx_line ?_
    have e1 : [s.data.toList, [32, 61, 32], prE x, [59]].flatten ++ (10 :: r) = s.data.toList ++ (32 :: (61 :: 32 :: (prE x ++ (59 :: (10 :: r))))) := by simp
    rw [e1]
    exact lexTo_nm hn st_sp (lt_sp (lt_61 (h1 _ _ st_59 (lt_59 (lt_nl hr)))))
  · have h1 := (hx q (by simp)).2
    have h2 := (hx y (by simp)).2
    have e2 : tkS (.mk 3 a 0 ⟨#[]⟩ 0 [q, y] [] []) ++ E = tkE q ++ (sg [61] :: (tkE y ++ (sg [59] :: E))) := by simp [tkS, tkP]
    rw [e2]
    have e0 : prS d (.mk 3 a 0 ⟨#[]⟩ 0 [q, y] [] []) = lnP d [prE q, [32, 61, 32], prE y, [59]] := by simp [prS, kid0, kid1]
    rw [e0]
    refine lx_line ?_
    have e1 : [prE q, [32, 61, 32], prE y, [59]].flatten ++ (10 :: r) = prE q ++ (32 :: (61 :: 32 :: (prE y ++ (59 :: (10 :: r))))) := by simp
    rw [e1]
    exact h1 _ _ st_sp (lt_sp (lt_61 (h2 _ _ st_59 (lt_59 (lt_nl hr)))))
  · obtain ⟨x, rfl⟩ := List.length_eq_one_iff.mp hm
    have h1 := (hx x (by simp)).2
    have e0 : prS d (.mk 4 a 0 ⟨#[]⟩ 0 [x] body els) ++ r = lnP d [[105, 102, 32], prE x, [32, 123]] ++ (prSs (d + 1) body ++ ((if els.isEmpty = true then [] else lnP d [[125, 32, 101, 108, 115, 101, 32, 123]] ++ prSs (d + 1) els) ++ (lnP d [[125]] ++ r))) := by simp [prS, kid0]
    have e2 : tkS (.mk 4 a 0 ⟨#[]⟩ 0 [x] body els) ++ E = kw [105, 102] :: (tkE x ++ (sg [123] :: (tkSs body ++ (sg [125] :: ((if els.isEmpty = true then [] else kw [101, 108, 115, 101] :: sg [123] :: (tkSs els ++ [sg [125]])) ++ E))))) := by simp [tkS, tkP]
    rw [e0, e2]
    refine lx_line ?_
    have e1 : ∀ z : List UInt8, [[105, 102, 32], prE x, [32, 123]].flatten ++ (10 :: z) = [105, 102] ++ (32 :: (prE x ++ (32 :: 123 :: 10 :: z))) := fun z => by simp
    rw [e1]
    refine lt_kw (by decide) st_sp (lt_sp (h1 _ _ st_sp (lt_sp (lt_123 (lt_nl (hb _ _ _ ?_))))))
    have e3 : ∀ z : List UInt8, [[125]].flatten ++ (10 :: z) = 125 :: 10 :: z := fun z => by simp
    by_cases hel : els.isEmpty = true
    · rw [if_pos hel, if_pos hel]
      refine lx_line ?_
      rw [e3]
      exact lt_125 (lt_nl hr)
    · rw [if_neg hel, if_neg hel]
      have e4 : (lnP d [[125, 32, 101, 108, 115, 101, 32, 123]] ++ prSs (d + 1) els) ++ (lnP d [[125]] ++ r) = lnP d [[125, 32, 101, 108, 115, 101, 32, 123]] ++ (prSs (d + 1) els ++ (lnP d [[125]] ++ r)) := by simp
      have e5 : (kw [101, 108, 115, 101] :: sg [123] :: (tkSs els ++ [sg [125]])) ++ E = kw [101, 108, 115, 101] :: (sg [123] :: (tkSs els ++ (sg [125] :: E))) := by simp
      rw [e4, e5]
      refine lx_line ?_
      have e6 : ∀ z : List UInt8, [[125, 32, 101, 108, 115, 101, 32, 123]].flatten ++ (10 :: z) = 125 :: 32 :: ([101, 108, 115, 101] ++ (32 :: 123 :: 10 :: z)) := fun z => by simp
      rw [e6]
      refine lt_125 (lt_sp (lt_kw (by decide) st_sp (lt_sp (lt_123 (lt_nl (he _ _ _ ?_))))))
      refine lx_line ?_
      rw [e3]
      exact lt_125 (lt_nl hr)
  · obtain ⟨x, rfl⟩ := List.length_eq_one_iff.mp hm
    have h1 := (hx x (by simp)).2
    have e0 : prS d (.mk 5 a 0 ⟨#[]⟩ 0 [x] body []) ++ r = lnP d [[119, 104, 105, 108, 101, 32], prE x, [32, 123]] ++ (prSs (d + 1) body ++ (lnP d [[125]] ++ r)) := by simp [prS, kid0]
    have e2 : tkS (.mk 5 a 0 ⟨#[]⟩ 0 [x] body []) ++ E = kw [119, 104, 105, 108, 101] :: (tkE x ++ (sg [123] :: (tkSs body ++ (sg [125] :: E)))) := by simp [tkS, tkP]
    rw [e0, e2]
    refine lx_line ?_
    have e1 : ∀ z : List UInt8, [[119, 104, 105, 108, 101, 32], prE x, [32, 123]].flatten ++ (10 :: z) = [119, 104, 105, 108, 101] ++ (32 :: (prE x ++ (32 :: 123 :: 10 :: z))) := fun z => by simp
    rw [e1]
    refine lt_kw (by decide) st_sp (lt_sp (h1 _ _ st_sp (lt_sp (lt_123 (lt_nl (hb _ _ _ (lx_line ?_)))))))
    have e3 : ∀ z : List UInt8, [[125]].flatten ++ (10 :: z) = 125 :: 10 :: z := fun z => by simp
    rw [e3]
    exact lt_125 (lt_nl hr)
  · obtain ⟨x, y, rfl⟩ := len_two hm
    have h1 := (hx x (by simp)).2
    have h2 := (hx y (by simp)).2
    have e0 : prS d (.mk 6 a 0 s p [x, y] body []) ++ r = lnP d [[102, 111, 114, 32], s.data.toList, [32, 61, 32], prE x, [32, 116, 111, 32], prE y, stepB p, [32, 123]] ++ (prSs (d + 1) body ++ (lnP d [[125]] ++ r)) := by simp [prS, kid0, kid1]
    have e2 : tkS (.mk 6 a 0 s p [x, y] body []) ++ E = kw [102, 111, 114] :: (nmt s.data.toList :: (sg [61] :: (tkE x ++ (kw [116, 111] :: (tkE y ++ (stepT p ++ (sg [123] :: (tkSs body ++ (sg [125] :: E))))))))) := by simp [tkS, tkP]
    rw [e0, e2]
    refine lx_line ?_
    have e1 : ∀ z : List UInt8, [[102, 111, 114, 32], s.data.toList, [32, 61, 32], prE x, [32, 116, 111, 32], prE y, stepB p, [32, 123]].flatten ++ (10 :: z) = [102, 111, 114] ++ (32 :: (s.data.toList ++ (32 :: (61 :: 32 :: (prE x ++ (32 :: ([116, 111] ++ (32 :: (prE y ++ (stepB p ++ 32 :: (123 :: 10 :: z))))))))))) := fun z => by simp
    rw [e1]
    have hst : ∀ z : List UInt8, Stop (stepB p ++ 32 :: z) := fun z => by
      unfold stepB
      split
      · exact st_sp
      · split
        · exact st_sp
        · exact st_sp
    refine lt_kw (by decide) st_sp (lt_sp (lexTo_nm hn st_sp (lt_sp (lt_61 (h1 _ _ st_sp (lt_sp (lt_kw (by decide) st_sp (lt_sp (h2 _ _ (hst _) (lx_step p hp _ _ (lt_sp (lt_123 (lt_nl (hb _ _ _ (lx_line ?_)))))))))))))))
    have e3 : ∀ z : List UInt8, [[125]].flatten ++ (10 :: z) = 125 :: 10 :: z := fun z => by simp
    rw [e3]
    exact lt_125 (lt_nl hr)
  · rcases hk78 with rfl | rfl
    · have e0 : prS d (.mk 7 a 0 ⟨#[]⟩ 0 [] [] []) = lnP d [[98, 114, 101, 97, 107, 59]] := by simp [prS]
      have e2 : tkS (.mk 7 a 0 ⟨#[]⟩ 0 [] [] []) ++ E = kw [98, 114, 101, 97, 107] :: (sg [59] :: E) := by simp [tkS]
      rw [e0, e2]
      refine lx_line ?_
      have e1 : [[98, 114, 101, 97, 107, 59]].flatten ++ (10 :: r) = [98, 114, 101, 97, 107] ++ (59 :: 10 :: r) := by simp
      rw [e1]
      exact lt_kw (by decide) st_59 (lt_59 (lt_nl hr))
    · have e0 : prS d (.mk 8 a 0 ⟨#[]⟩ 0 [] [] []) = lnP d [[99, 111, 110, 116, 105, 110, 117, 101, 59]] := by simp [prS]
      have e2 : tkS (.mk 8 a 0 ⟨#[]⟩ 0 [] [] []) ++ E = kw [99, 111, 110, 116, 105, 110, 117, 101] :: (sg [59] :: E) := by simp [tkS]
      rw [e0, e2]
      refine lx_line ?_
      have e1 : [[99, 111, 110, 116, 105, 110, 117, 101, 59]].flatten ++ (10 :: r) = [99, 111, 110, 116, 105, 110, 117, 101] ++ (59 :: 10 :: r) := by simp
      rw [e1]
      exact lt_kw (by decide) st_59 (lt_59 (lt_nl hr))
  · rcases hm with rfl | hm
    · have e0 : prS d (.mk 9 a 0 ⟨#[]⟩ 0 [] [] []) = lnP d [[114, 101, 116, 117, 114, 110, 59]] := by simp [prS]
      have e2 : tkS (.mk 9 a 0 ⟨#[]⟩ 0 [] [] []) ++ E = kw [114, 101, 116, 117, 114, 110] :: (sg [59] :: E) := by simp [tkS]
      rw [e0, e2]
      refine lx_line ?_
      have e1 : [[114, 101, 116, 117, 114, 110, 59]].flatten ++ (10 :: r) = [114, 101, 116, 117, 114, 110] ++ (59 :: 10 :: r) := by simp
      rw [e1]
      exact lt_kw (by decide) st_59 (lt_59 (lt_nl hr))
    · obtain ⟨x, rfl⟩ := List.length_eq_one_iff.mp hm
      have h1 := (hx x (by simp)).2
      have e0 : prS d (.mk 9 a 0 ⟨#[]⟩ 0 [x] [] []) = lnP d [[114, 101, 116, 117, 114, 110, 32], prE x, [59]] := by simp [prS, kid0]
      have e2 : tkS (.mk 9 a 0 ⟨#[]⟩ 0 [x] [] []) ++ E = kw [114, 101, 116, 117, 114, 110] :: (tkE x ++ (sg [59] :: E)) := by simp [tkS, tkP]
      rw [e0, e2]
      refine lx_line ?_
      have e1 : [[114, 101, 116, 117, 114, 110, 32], prE x, [59]].flatten ++ (10 :: r) = [114, 101, 116, 117, 114, 110] ++ (32 :: (prE x ++ (59 :: 10 :: r))) := by simp
      rw [e1]
      exact lt_kw (by decide) st_sp (lt_sp (h1 _ _ st_59 (lt_59 (lt_nl hr))))
  · obtain ⟨x, rfl⟩ := List.length_eq_one_iff.mp hm
    have h1 := (hx x (by simp)).2
    have e0 : prS d (.mk 10 a 0 ⟨#[]⟩ 0 [x] [] []) = lnP d [[112, 114, 105, 110, 116, 32], prE x, [59]] := by simp [prS, kid0]
    have e2 : tkS (.mk 10 a 0 ⟨#[]⟩ 0 [x] [] []) ++ E = kw [112, 114, 105, 110, 116] :: (tkE x ++ (sg [59] :: E)) := by simp [tkS, tkP]
    rw [e0, e2]
    refine lx_line ?_
    have e1 : [[112, 114, 105, 110, 116, 32], prE x, [59]].flatten ++ (10 :: r) = [112, 114, 105, 110, 116] ++ (32 :: (prE x ++ (59 :: 10 :: r))) := by simp
    rw [e1]
    exact lt_kw (by decide) st_sp (lt_sp (h1 _ _ st_59 (lt_59 (lt_nl hr))))
  · have h1 := (hx q (by simp)).2
    have e0 : prS d (.mk 11 a 0 ⟨#[]⟩ 0 [q] [] []) = lnP d [prE q, [59]] := by simp [prS, kid0]
    have e2 : tkS (.mk 11 a 0 ⟨#[]⟩ 0 [q] [] []) ++ E = tkE q ++ (sg [59] :: E) := by simp [tkS, tkP]
    rw [e0, e2]
    refine lx_line ?_
    have e1 : [prE q, [59]].flatten ++ (10 :: r) = prE q ++ (59 :: 10 :: r) := by simp
    rw [e1]
    exact h1 _ _ st_59 (lt_59 (lt_nl hr))
mutual
theorem lxS_all (D : Int) : ∀ x : St, WFS D x → LxS x
  | .mk k a n s p kids body els, h => by
    have h' := h
    unfold WFS at h'
    exact lx_stmt D k a n s p kids body els h (lxSs_all (D + 1) body h'.2.2.2.2.2.1) (lxSs_all (D + 1) els h'.2.2.2.2.2.2)
theorem lxSs_all (D : Int) : ∀ l : List St, WFSs D l → LxSs l
  | [], _ => fun d r E hr => hr
  | x :: t, h => by
    unfold WFSs at h
    intro d r E hr
    have h1 := lxS_all D x h.1
    have h2 := lxSs_all D t h.2
    simp only [prSs, tkSs, List.append_assoc]
    exact h1 d _ _ (h2 d r E hr)
end
theorem lx_type (t : Int) (h : 1 ≤ t ∧ t ≤ 4) (r : List UInt8) (E : List ETk) (hs : Stop r) (hr : LexTo r E) : LexTo (typB t ++ r) (tyT t ++ E) := by
  have : t = 1 ∨ t = 2 ∨ t = 3 ∨ t = 4 := by omega
  rcases this with rfl | rfl | rfl | rfl
  · exact lt_kw (b := [105, 110, 116]) (by decide) hs hr
  · exact lt_kw (b := [98, 111, 111, 108]) (by decide) hs hr
  · exact lt_91 (lt_kw (b := [105, 110, 116]) (r := 93 :: r) (by decide) (stop_cons (by decide)) (lt_93 hr))
  · exact lt_91 (lt_91 (lt_kw (b := [105, 110, 116]) (r := 93 :: 93 :: r) (by decide) (stop_cons (by decide)) (lt_93 (lt_93 hr))))
theorem lx_pa (p : Pa) (h : WFP p) (r : List UInt8) (E : List ETk) (hs : Stop r) (hr : LexTo r E) : LexTo (paB p ++ r) (paT p ++ E) := by
  have e1 : paB p ++ r = p.name.data.toList ++ (58 :: 32 :: (typB p.type ++ r)) := by simp [paB]
  have e2 : paT p ++ E = nmt p.name.data.toList :: (sg [58] :: (tyT p.type ++ E)) := by simp [paT]
  rw [e1, e2]
  exact lexTo_nm h.1 (stop_cons (by decide)) (lt_58 (lt_sp (lx_type _ h.2 r E hs hr)))
theorem lx_pas (l : List Pa) (h : ∀ p ∈ l, WFP p) (r : List UInt8) (E : List ETk) (hs : Stop r) (hr : LexTo r E) : LexTo (jn (l.map paB) ++ r) (jt (l.map paT) ++ E) := by
  induction l with
  | nil => exact hr
  | cons x t ih =>
    cases t with
    | nil => exact lx_pa x (h x (by simp)) r E hs hr
    | cons y t =>
      have h2 := ih (fun e he => h e (by simp [he]))
      have e1 : jn ((x :: y :: t).map paB) ++ r = paB x ++ (44 :: 32 :: (jn ((y :: t).map paB) ++ r)) := by simp [jn]
      have e2 : jt ((x :: y :: t).map paT) ++ E = paT x ++ (sg [44] :: (jt ((y :: t).map paT) ++ E)) := by simp [jt]
      rw [e1, e2]
      exact lx_pa x (h x (by simp)) _ _ (stop_cons (by decide)) (lt_44 (lt_sp h2))
theorem lx_fn (f : Fu) (h : WFF f) (r : List UInt8) (E : List ETk) (hr : LexTo r E) : LexTo (prF f ++ r) (tkF f ++ E) := by
  have e0 : prF f ++ r = lnP 0 [[102, 110, 32], f.name.data.toList, [40], jn (f.params.map paB), [41], resB f.ret, [32, 123]] ++ (prSs 1 f.body ++ (lnP 0 [[125]] ++ r)) := by simp [prF]
  have e2 : tkF f ++ E = kw [102, 110] :: (nmt f.name.data.toList :: (sg [40] :: (jt (f.params.map paT) ++ (sg [41] :: (resT f.ret ++ (sg [123] :: (tkSs f.body ++ (sg [125] :: E)))))))) := by simp [tkF]
  rw [e0, e2]
  refine lx_line ?_
  have e1 : ∀ z : List UInt8, [[102, 110, 32], f.name.data.toList, [40], jn (f.params.map paB), [41], resB f.ret, [32, 123]].flatten ++ (10 :: z) = [102, 110] ++ (32 :: (f.name.data.toList ++ (40 :: (jn (f.params.map paB) ++ (41 :: (resB f.ret ++ (32 :: 123 :: 10 :: z))))))) := fun z => by simp
  rw [e1]
  refine lt_kw (by decide) st_sp (lt_sp (lexTo_nm h.name (stop_cons (by decide)) (lt_40 (lx_pas _ h.pars _ _ (stop_cons (by decide)) (lt_41 ?_)))))
  have hres : ∀ (z : List UInt8) (F : List ETk), LexTo (32 :: z) F → LexTo (resB f.ret ++ 32 :: z) (resT f.ret ++ F) := fun z F hz => by
    unfold resB resT
    split
    · exact hz
    · rename_i h0
      have e : [58, 32] ++ typB f.ret ++ 32 :: z = 58 :: 32 :: (typB f.ret ++ 32 :: z) := by simp
      rw [e]
      have := h.ret
      exact lt_58 (lt_sp (lx_type _ ⟨by omega, this.2⟩ _ _ st_sp hz))
  refine hres _ _ (lt_sp (lt_123 (lt_nl (lxSs_all 1 f.body h.body 1 _ _ (lx_line ?_)))))
  have e3 : ∀ z : List UInt8, [[125]].flatten ++ (10 :: z) = 125 :: 10 :: z := fun z => by simp
  rw [e3]
  exact lt_125 (lt_nl hr)
theorem lx_prog (l : List Fu) (h : ∀ f ∈ l, WFF f) : LexTo (prT l) (tkT l) := by
  induction l with
  | nil => exact lexTo_nil
  | cons f r ih =>
    simp only [prT, tkT]
    exact lx_fn f (h f (by simp)) _ _ (ih (fun g hg => h g (by simp [hg])))
end Go.Proofs.YtiadbeglhnocoaaGreatDoor
namespace Go.Proofs.YtiadbeglhnocoaaGreatDoor
set_option linter.unusedVariables false
set_option linter.unusedSimpArgs false
open Go.RowKit

def PS.to (s : PS) (L : List Tk) : PS := { s with left := L }
theorem front {s : PS} {a : ETk} {M : List ETk} (h : s.left.map er = a :: M) (ha : a.1 ≠ 0) : s.now.kind = a.1 ∧ s.now.num = a.2.1 ∧ s.now.bytes = a.2.2 ∧ ∃ L, s.next = s.to L ∧ L.map er = M := by
  obtain ⟨l, fk, fa, dp, ns⟩ := s
  cases l with
  | nil => simp at h
  | cons t r =>
    simp only [List.map_cons, List.cons.injEq] at h
    obtain ⟨h1, h2⟩ := h
    subst h1
    refine ⟨rfl, rfl, rfl, r, ?_, h2⟩
    unfold PS.next
    rw [if_neg (show ¬ (PS.now ⟨t :: r, fk, fa, dp, ns⟩).kind = 0 from ha)]
    rfl
theorem front_sg {s : PS} {x : List UInt8} {M : List ETk} (h : s.left.map er = sg x :: M) : s.now.kind = 4 ∧ s.now.bytes = x ∧ ∃ L, s.next = s.to L ∧ L.map er = M := by
  obtain ⟨h1, _, h3, h4⟩ := front h (show (4 : Int) ≠ 0 by decide)
  exact ⟨h1, h3, h4⟩
theorem front_kw {s : PS} {x : List UInt8} {M : List ETk} (h : s.left.map er = kw x :: M) : s.now.kind = 3 ∧ s.now.bytes = x ∧ ∃ L, s.next = s.to L ∧ L.map er = M := by
  obtain ⟨h1, _, h3, h4⟩ := front h (show (3 : Int) ≠ 0 by decide)
  exact ⟨h1, h3, h4⟩
theorem front_nm {s : PS} {x : List UInt8} {M : List ETk} (h : s.left.map er = nmt x :: M) : s.now.kind = 1 ∧ s.now.bytes = x ∧ ∃ L, s.next = s.to L ∧ L.map er = M := by
  obtain ⟨h1, _, h3, h4⟩ := front h (show (1 : Int) ≠ 0 by decide)
  exact ⟨h1, h3, h4⟩
theorem front_nu {s : PS} {n : Int} {M : List ETk} (h : s.left.map er = nut n :: M) : s.now.kind = 2 ∧ s.now.num = n ∧ s.now.bytes = digM n ∧ ∃ L, s.next = s.to L ∧ L.map er = M := by
  obtain ⟨h1, h2, h3, h4⟩ := front h (show (2 : Int) ≠ 0 by decide)
  exact ⟨h1, h2, h3, h4⟩
/-- The bytes of the first one. -/
def nb : List ETk → List UInt8
  | [] => []
  | a :: _ => a.2.2
theorem nb_now {s : PS} {M : List ETk} (h : s.left.map er = M) : s.now.bytes = nb M := by
  unfold PS.now
  cases hl : s.left with
  | nil => rw [hl] at h; subst h; rfl
  | cons t r => rw [hl] at h; subst h; rfl
theorem isB_yes {s : PS} {x : List UInt8} (h : s.now.bytes = x) : s.isB x = true := by unfold PS.isB; rw [h]; simp
theorem isB_no {s : PS} {x : List UInt8} (h : s.now.bytes ≠ x) : s.isB x = false := by unfold PS.isB; simpa using h
theorem need_yes {s : PS} {x : List UInt8} (h : s.now.bytes = x) : s.need1 x = s.next := by unfold PS.need1; rw [if_pos (isB_yes h)]
theorem enter_yes {s : PS} (h : s.nest + 1 ≤ 1024) : s.enter = { s with nest := s.nest + 1 } := by unfold PS.enter; rw [if_neg (by omega)]
/-- In and out again. -/
theorem in_out (s : PS) (L : List Tk) : PS.leave (PS.to { s with nest := s.nest + 1 } L) = s.to L := by
  obtain ⟨l, fk, fa, dp, ns⟩ := s
  unfold PS.leave PS.to
  simp only [PS.mk.injEq, true_and]
  omega
theorem to_to (s : PS) (L M : List Tk) : (s.to L).to M = s.to M := rfl
theorem to_left (s : PS) (L : List Tk) : (s.to L).left = L := rfl
theorem to_deep (s : PS) (L : List Tk) : (s.to L).deep = s.deep := rfl
theorem to_nest (s : PS) (L : List Tk) : (s.to L).nest = s.nest := rfl
/-- How an expression's words begin. -/
def Bg (b : List UInt8) : Prop := b = [40] ∨ ∃ c r, b = c :: r ∧ nameB (c.toNat : Int) = true
theorem bg_turn {b : List UInt8} (h : Bg b) : turnOf b = 0 := by
  rcases h with rfl | ⟨c, r, rfl, h⟩
  · decide
  · unfold turnOf
    have h1 : ¬ (c :: r == [45]) = true := fun e => by
      have := eq_of_beq e; injection this with e1 _; subst e1; revert h; decide
    have h2 : ¬ (c :: r == [126]) = true := fun e => by
      have := eq_of_beq e; injection this with e1 _; subst e1; revert h; decide
    have h3 : ¬ (c :: r == [33]) = true := fun e => by
      have := eq_of_beq e; injection this with e1 _; subst e1; revert h; decide
    rw [if_neg h1, if_neg h2, if_neg h3]
theorem bg_ne {b : List UInt8} (h : Bg b) (x : UInt8) (hx : nameB (x.toNat : Int) = false) (h40 : x ≠ 40) : b ≠ [x] := by
  intro e
  rcases h with rfl | ⟨c, r, rfl, h⟩
  · injection e with e1 _
    exact h40 e1.symm
  · injection e with e1 _
    subst e1
    rw [hx] at h
    cases h
theorem bg_name {b : List UInt8} (h : NameOk b) : Bg b := by
  obtain ⟨c, r, rfl, hl, ha, _⟩ := h
  exact Or.inr ⟨c, r, rfl, ha c (by simp)⟩
theorem bg_dig (n : Int) : Bg (digM n) := by
  obtain ⟨h1, h2, h3⟩ := dec_back (u64M n) (u64M n) (Nat.le_refl _) (u64M_lt n)
  obtain ⟨c, b', e⟩ := List.exists_cons_of_ne_nil h2
  have hc := h3 c (by rw [e]; simp)
  exact Or.inr ⟨c, b', e, digit_name hc⟩
mutual
theorem bg_all : ∀ e : Ex, WFE e → ∃ a m, tkE e = a :: m ∧ Bg a.2.2 ∧ a.1 ≠ 0
  | .mk k a t o n s kids, h => by
    unfold WFE at h
    obtain ⟨hsh, hk⟩ := h
    unfold shK at hsh
    rcases hsh with ⟨rfl, rfl, rfl, hm, hi⟩ | ⟨rfl, rfl, rfl, hm, hn⟩ | ⟨rfl, rfl, rfl, hm, hn⟩ | ⟨rfl, ho, rfl, rfl, hm⟩ | ⟨rfl, ho, rfl, rfl, hm⟩ | ⟨hk67, rfl, rfl, rfl, hm⟩ | ⟨rfl, rfl, rfl, hn⟩ | ⟨rfl, rfl, rfl, rfl, hm⟩ | ⟨rfl, rfl, rfl, rfl, hm⟩ | ⟨hk13, rfl, rfl, rfl, hm⟩ | ⟨rfl, rfl, rfl, rfl, hm⟩
    · exact ⟨nut n, [], rfl, bg_dig n, show (2 : Int) ≠ 0 by decide⟩
    · rcases hn with rfl | rfl
      · exact ⟨kw [102, 97, 108, 115, 101], [], rfl, Or.inr ⟨_, _, rfl, by decide⟩, by decide⟩
      · exact ⟨kw [116, 114, 117, 101], [], rfl, Or.inr ⟨_, _, rfl, by decide⟩, by decide⟩
    · exact ⟨nmt s.data.toList, [], rfl, bg_name hn, show (1 : Int) ≠ 0 by decide⟩
    · exact ⟨sg [40], _, rfl, Or.inl rfl, by decide⟩
    · exact ⟨sg [40], _, rfl, Or.inl rfl, by decide⟩
    · rcases hk67 with rfl | rfl
      · exact ⟨sg [40], _, rfl, Or.inl rfl, by decide⟩
      · exact ⟨sg [40], _, rfl, Or.inl rfl, by decide⟩
    · exact ⟨nmt s.data.toList, _, rfl, bg_name hn, show (1 : Int) ≠ 0 by decide⟩
    · cases kids with
      | nil => simp at hm
      | cons x rest =>
        obtain ⟨a', m, h1, h2, h3⟩ := bg_first x rest hk
        refine ⟨a', m ++ (sg [91] :: (jt (tkEs rest) ++ [sg [93]])), ?_, h2, h3⟩
        simp [tkE, tkEs, tkK, jt, h1]
    · exact ⟨kw [110, 101, 119], _, rfl, Or.inr ⟨_, _, rfl, by decide⟩, by decide⟩
    · rcases hk13 with rfl | rfl | rfl
      · exact ⟨kw [108, 101, 110], _, rfl, Or.inr ⟨_, _, rfl, by decide⟩, by decide⟩
      · exact ⟨kw [114, 111, 119, 115], _, rfl, Or.inr ⟨_, _, rfl, by decide⟩, by decide⟩
      · exact ⟨kw [99, 111, 108, 115], _, rfl, Or.inr ⟨_, _, rfl, by decide⟩, by decide⟩
    · exact ⟨kw [105, 110, 112, 117, 116], [], rfl, Or.inr ⟨_, _, rfl, by decide⟩, by decide⟩
theorem bg_first : ∀ (x : Ex) (rest : List Ex), WFEs (x :: rest) → ∃ a m, tkE x = a :: m ∧ Bg a.2.2 ∧ a.1 ≠ 0
  | x, rest, h => by
    unfold WFEs at h
    exact bg_all x h.1
end
/-- How often an expression is indexed. -/
def mI : Ex → Nat
  | .mk _ _ _ _ _ _ [] => 0
  | .mk k _ _ _ _ _ (x :: _) => if k = 9 then mI x + 1 else 0
theorem dE_pos (e : Ex) : 1 ≤ dE e := by
  cases e with
  | mk k a t o n s kids => rw [dE]; have := dEs_nn kids; omega
/-- Where the reader of expressions stands, and what it needs. -/
structure Rm (s : PS) (d : Int) : Prop where
  deep : s.deep + d ≤ 256
  nest : s.nest + 2 * d ≤ 1024
  nn : 0 ≤ s.nest
theorem Rm.le {s : PS} {d d' : Int} (h : Rm s d) (h1 : d' ≤ d) : Rm s d' := ⟨by have := h.deep; omega, by have := h.nest; omega, h.nn⟩
theorem Rm.in_ {s : PS} {d : Int} (h : Rm s (d + 1)) : Rm ({ s with nest := s.nest + 1 } : PS) d := ⟨by have := h.deep; show s.deep + d ≤ 256; omega, by have := h.nest; show s.nest + 1 + 2 * d ≤ 1024; omega, by have := h.nn; show 0 ≤ s.nest + 1; omega⟩
theorem Rm.in2 {s : PS} {d : Int} (h : Rm s (d + 1)) : Rm ({ s with nest := s.nest + 1 + 1 } : PS) d := ⟨by have := h.deep; show s.deep + d ≤ 256; omega, by have := h.nest; show s.nest + 1 + 1 + 2 * d ≤ 1024; omega, by have := h.nn; show 0 ≤ s.nest + 1 + 1; omega⟩
theorem whole_yes (s : PS) (k a o n : Int) (x : ByteArray) (l : List Part) (d : Int) (hd : deepest l = d) (h : s.deep + (d + 1) ≤ 256) : wholeP s k a o n x l = ((.mk k a 0 o n x (l.map Prod.fst), d + 1), s) := by
  unfold wholeP
  rw [hd, if_neg (by omega)]
/-- An atom, perhaps indexed. -/
def RdA (e : Ex) : Prop := ∀ (s : PS) (M : List ETk) (k : Nat), s.left.map er = tkE e ++ M → nb M ≠ [40] → Rm s (dE e) → 10 * (tkE e).length + 4 ≤ k →
  ∃ f s1, firstK k s = some (f, s1) ∧ ∃ e' L, L.map er = M ∧ sameE e e' = true ∧ ∀ k2, 10 * (tkE e).length + 3 ≤ k2 → indexK k2 f s1 = indexK (k2 - mI e) (e', dE e) (s.to L)
def RdB (e : Ex) : Prop := ∀ (s : PS) (M : List ETk) (k : Nat), s.left.map er = tkE e ++ M → nb M ≠ [40] → nb M ≠ [91] → Rm s (dE e) → 10 * (tkE e).length + 6 ≤ k →
  ∃ e' L, L.map er = M ∧ sameE e e' = true ∧ aheadK k s = some ((e', dE e), s.to L)
def RdC (e : Ex) : Prop := ∀ (s : PS) (M : List ETk) (k : Nat) (least : Int), s.left.map er = tkE e ++ M → nb M ≠ [40] → nb M ≠ [91] → rankOf (nb M) < least → Rm s (dE e) → 10 * (tkE e).length + 7 ≤ k →
  ∃ e' L, L.map er = M ∧ sameE e e' = true ∧ betwK k least s = some ((e', dE e), s.to L)
theorem mI_le : ∀ e : Ex, WFE e → mI e ≤ (tkE e).length
  | .mk k a t o n s [], h => by simp [mI]
  | .mk k a t o n s (x :: rest), h => by
    unfold mI
    split
    · rename_i hk
      subst hk
      unfold WFE at h
      have hx : WFE x := by have := h.2; unfold WFEs at this; exact this.1
      have := mI_le x hx
      simp [tkE, tkEs, tkK, jt]
      omega
    · omega
theorem rdB_of (e : Ex) (hw : WFE e) (h : RdA e) : RdB e := fun s M k hm h40 h91 hr hk => by
  obtain ⟨k, rfl⟩ : ∃ j, k = j + 1 := ⟨k - 1, by omega⟩
  obtain ⟨f, s1, h1, e', L, h2, h3, h4⟩ := h s M k hm h40 hr (by omega)
  obtain ⟨a, m, b1, b2, b3⟩ := bg_all e hw
  have hnow := nb_now hm
  rw [b1] at hnow
  refine ⟨e', L, h2, h3, ?_⟩
  have hmi := mI_le e hw
  simp only [aheadK]
  rw [if_pos (by rw [hnow]; exact bg_turn b2), h1]
  simp only
  rw [h4 k (by omega)]
  obtain ⟨j, hj⟩ : ∃ j, k - mI e = j + 1 := ⟨k - mI e - 1, by omega⟩
  rw [hj]
  simp only [indexK]
  have hL : (s.to L).now.bytes = nb M := nb_now (s := s.to L) h2
  rw [isB_no (by rw [hL]; exact h91)]
  rfl
theorem rdC_of (e : Ex) (h : RdB e) : RdC e := fun s M k least hm h40 h91 hrk hr hk => by
  obtain ⟨k, rfl⟩ : ∃ j, k = j + 1 := ⟨k - 1, by omega⟩
  obtain ⟨e', L, h1, h2, h3⟩ := h s M k hm h40 h91 hr (by omega)
  refine ⟨e', L, h1, h2, ?_⟩
  simp only [betwK]
  rw [h3]
  simp only
  obtain ⟨k, rfl⟩ : ∃ j, k = j + 1 := ⟨k - 1, by omega⟩
  simp only [loopK]
  have hL : (s.to L).now.bytes = nb M := nb_now (s := s.to L) h1
  rw [if_pos (by rw [hL]; exact hrk)]
/-- A list between signs. -/
structure PartsOk (l : List Ex) (ps : List Part) : Prop where
  same : sameEs l (ps.map Prod.fst) = true
  len : ps.length = l.length
  deep : deepest ps = dEs l
theorem tkE_pos (e : Ex) (h : WFE e) : 1 ≤ (tkE e).length := by
  obtain ⟨a, m, b1, _⟩ := bg_all e h
  rw [b1]; simp
def clos (e : List UInt8) : Prop := e = [41] ∨ e = [93]
theorem clos_rank {e : List UInt8} (h : clos e) : rankOf e = 0 ∧ e ≠ [40] ∧ e ≠ [91] ∧ e ≠ [44] := by
  rcases h with rfl | rfl <;> decide
theorem sameEs_snoc : ∀ (l m : List Ex) (x y : Ex), sameEs l m = true → sameE x y = true → sameEs (l ++ [x]) (m ++ [y]) = true
  | [], [], x, y, _, h => by simp [sameEs, h]
  | [], b :: t, x, y, h, _ => by simp [sameEs] at h
  | a :: r, [], x, y, h, _ => by simp [sameEs] at h
  | a :: r, b :: t, x, y, h, h2 => by
    simp only [sameEs, Bool.and_eq_true] at h
    simp only [List.cons_append, sameEs, Bool.and_eq_true]
    exact ⟨h.1, sameEs_snoc r t x y h.2 h2⟩
theorem deepest_app1 (l : List Part) (x : Part) : deepest (l ++ [x]) = max (deepest l) (max x.2 0) := by
  induction l with
  | nil => simp [deepest]; omega
  | cons y r ih => simp only [List.cons_append, deepest, ih]; omega
theorem dEs_snoc (l : List Ex) (x : Ex) : dEs (l ++ [x]) = max (dEs l) (max (dE x) 0) := by
  induction l with
  | nil => simp [dEs]; omega
  | cons y r ih => simp only [List.cons_append, dEs, ih]; omega
theorem PartsOk.snoc {l : List Ex} {ps : List Part} (h : PartsOk l ps) {x y : Ex} (hs : sameE x y = true) : PartsOk (l ++ [x]) (ps ++ [(y, dE x)]) := ⟨by rw [List.map_append]; exact sameEs_snoc _ _ _ _ h.same hs, by simp [h.len], by rw [deepest_app1, dEs_snoc, h.deep]⟩
theorem dEs_mem : ∀ (l : List Ex) (e : Ex), e ∈ l → dE e ≤ dEs l
  | x :: r, e, h => by
    simp only [dEs]
    rcases List.mem_cons.mp h with rfl | h
    · omega
    · have := dEs_mem r e h; omega
theorem rd_many : ∀ (l : List Ex), l ≠ [] → (∀ e ∈ l, WFE e ∧ RdC e) → ∀ (pre : List Ex) (ps : List Part) (s : PS) (en : List UInt8) (M : List ETk) (k : Nat), clos en → PartsOk pre ps → s.left.map er = jt (tkEs l) ++ (sg en :: M) → Rm s (dEs l) → 10 * (jt (tkEs l)).length + 10 ≤ k →
    ∃ ps' L, L.map er = sg en :: M ∧ PartsOk (pre ++ l) ps' ∧ manyK k ps s = some (ps', s.to L)
  | [], h, _ => absurd rfl h
  | [x], _, hl => fun pre ps s en M k hen hp hm hr hk => by
    obtain ⟨k, rfl⟩ : ∃ j, k = j + 1 := ⟨k - 1, by omega⟩
    obtain ⟨k, rfl⟩ : ∃ j, k = j + 1 := ⟨k - 1, by omega⟩
    obtain ⟨r1, r2, r3, r4⟩ := clos_rank hen
    simp only [tkEs, jt] at hm hk
    obtain ⟨e', L, h1, h2, h3⟩ := (hl x (by simp)).2 s _ k 1 hm r2 r3 (by show rankOf en < 1; omega) (hr.le (by simp [dEs]; omega)) (by omega)
    refine ⟨ps ++ [(e', dE x)], L, h1, hp.snoc h2, ?_⟩
    simp only [manyK, exprK]
    rw [h3]
    simp only
    have hL : (s.to L).now.bytes = en := nb_now (s := s.to L) h1
    rw [isB_no (by rw [hL]; exact r4)]
    rfl
  | x :: y :: t, _, hl => fun pre ps s en M k hen hp hm hr hk => by
    obtain ⟨k, rfl⟩ : ∃ j, k = j + 1 := ⟨k - 1, by omega⟩
    simp only [tkEs, jt] at hm hk
    have hm' : s.left.map er = tkE x ++ (sg [44] :: (jt (tkE y :: tkEs t) ++ (sg en :: M))) := by rw [hm]; simp
    have hlen : (tkE x ++ (sg [44] :: jt (tkE y :: tkEs t))).length = (tkE x).length + 1 + (jt (tkE y :: tkEs t)).length := by simp; omega
    rw [hlen] at hk
    have hxp := tkE_pos x (hl x (by simp)).1
    obtain ⟨k2, hk2⟩ : ∃ j, k = j + 1 := ⟨k - 1, by omega⟩
    have hr1 : Rm s (dE x) := hr.le (by simp [dEs]; omega)
    have hr2 : Rm s (dEs (y :: t)) := hr.le (by simp [dEs]; omega)
    obtain ⟨e', L, h1, h2, h3⟩ := (hl x (by simp)).2 s _ k2 1 hm' (by show ([44] : List UInt8) ≠ [40]; decide) (by show ([44] : List UInt8) ≠ [91]; decide) (by show rankOf [44] < 1; decide) hr1 (by omega)
    obtain ⟨f1, f3, L2, f4, f5⟩ := front_sg (s := s.to L) h1
    obtain ⟨ps', L3, g1, g2, g3⟩ := rd_many (y :: t) (by simp) (fun e he => hl e (by simp [List.mem_cons.mp he])) (pre ++ [x]) (ps ++ [(e', dE x)]) ((s.to L).to L2) en M k hen (hp.snoc h2) f5 ⟨hr2.deep, hr2.nest, hr2.nn⟩ (by simp only [tkEs]; omega)
    refine ⟨ps', L3, g1, by simpa using g2, ?_⟩
    simp only [manyK]
    have hex : exprK k s = some ((e', dE x), s.to L) := by rw [hk2]; simp only [exprK]; exact h3
    rw [hex]
    simp only
    rw [isB_yes f3, f4]
    simp only [if_true]
    exact g3
theorem rd_parts (l : List Ex) (hl : ∀ e ∈ l, WFE e ∧ RdC e) (s : PS) (o en : List UInt8) (M : List ETk) (k : Nat) (hen : clos en) (hm : s.left.map er = sg o :: (jt (tkEs l) ++ (sg en :: M))) (hr : Rm s (dEs l + 1)) (hk : 10 * (jt (tkEs l)).length + 12 ≤ k) :
    ∃ ps L, L.map er = M ∧ PartsOk l ps ∧ partsK k o en s = some (ps, s.to L) := by
  obtain ⟨k, rfl⟩ : ∃ j, k = j + 1 := ⟨k - 1, by omega⟩
  obtain ⟨f1, f3, L1, f4, f5⟩ := front_sg hm
  have hen1 : (s.to L1).enter = ({ s with left := L1, nest := s.nest + 1 } : PS) := by
    have hd := dEs_nn l
    have hn := hr.nest
    rw [enter_yes (by show s.nest + 1 ≤ 1024; omega)]
    rfl
  obtain ⟨S, hS⟩ : ∃ S : PS, S = { s with left := L1, nest := s.nest + 1 } := ⟨_, rfl⟩
  have hSl : S.left.map er = jt (tkEs l) ++ (sg en :: M) := by rw [hS]; exact f5
  have hSr : Rm S (dEs l) := by
    have := hr.in_
    rw [hS]
    exact ⟨this.deep, this.nest, this.nn⟩
  have hout : ∀ L, (S.to L).leave = s.to L := fun L => by
    rw [hS]
    exact in_out s L
  simp only [partsK]
  rw [need_yes f3, f4, hen1, ← hS]
  cases l with
  | nil =>
    simp only [tkEs, jt, List.nil_append] at hSl
    obtain ⟨g1, g3, L2, g4, g5⟩ := front_sg hSl
    refine ⟨[], L2, g5, ⟨rfl, rfl, rfl⟩, ?_⟩
    rw [isB_yes g3, need_yes g3, g4, hout]
    rfl
  | cons x t =>
    have hxw := (hl x (by simp)).1
    obtain ⟨a, m, b1, b2, b3⟩ := bg_all x hxw
    have hnb : ∃ m', jt (tkEs (x :: t)) ++ (sg en :: M) = a :: m' := by
      cases t with
      | nil => simp only [tkEs, jt, b1]; exact ⟨_, rfl⟩
      | cons y t => simp only [tkEs, jt, b1]; exact ⟨_, rfl⟩
    obtain ⟨m', hm'⟩ := hnb
    have hnow := nb_now hSl
    rw [hm'] at hnow
    have hne : S.now.bytes ≠ en := by
      rw [hnow]
      rcases hen with rfl | rfl
      · exact bg_ne b2 41 (by decide) (by decide)
      · exact bg_ne b2 93 (by decide) (by decide)
    rw [isB_no hne]
    obtain ⟨ps, L2, g1, g2, g3⟩ := rd_many (x :: t) (by simp) hl [] [] S en M k hen ⟨rfl, rfl, rfl⟩ hSl hSr (by omega)
    obtain ⟨q1, q3, L3, q4, q5⟩ := front_sg (s := S.to L2) g1
    refine ⟨ps, L3, q5, g2, ?_⟩
    rw [g3]
    simp only [Bool.false_eq_true, if_false]
    rw [need_yes q3, q4, to_to, hout]
end Go.Proofs.YtiadbeglhnocoaaGreatDoor
namespace Go.Proofs.YtiadbeglhnocoaaGreatDoor
set_option linter.unusedVariables false
set_option linter.unusedSimpArgs false
open Go.RowKit

theorem same_mk {k o : Int} {n n' a a' t t' : Int} {s s' : ByteArray} {kids kids' : List Ex} (hs : s.data.toList = s'.data.toList) (hn : n = n') (hk : sameEs kids kids' = true) : sameE (.mk k a t o n s kids) (.mk k a' t' o n' s' kids') = true := by
  unfold sameE
  subst hn
  simp [bytesB, hs, hk]
/-- A leaf, read. -/
theorem rd_leaf (k a t o n : Int) (s : ByteArray) (w : ETk) (hw : w.1 ≠ 0) (ht : tkE (.mk k a t o n s []) = [w]) (h : ∀ (z : PS) (M : List ETk) (j : Nat) (L : List Tk), z.left.map er = w :: M → nb M ≠ [40] → z.next = z.to L → L.map er = M → Rm z 1 → 12 ≤ j → ∃ a' t' s', s.data.toList = s'.data.toList ∧ firstK j z = some ((.mk k a' t' o n s' [], 1), z.to L)) : RdA (.mk k a t o n s []) := fun z M j hm h40 hr hj => by
  rw [ht] at hm hj
  have hd : dE (.mk k a t o n s []) = 1 := by simp [dE, dEs]
  rw [hd] at hr ⊢
  obtain ⟨f1, f2, f3, L, f4, f5⟩ := front (s := z) (a := w) (M := M) hm hw
  obtain ⟨a', t', s', h1, h2⟩ := h z M j L hm h40 f4 f5 hr (by simp at hj; omega)
  refine ⟨_, _, h2, .mk k a' t' o n s' [], L, f5, same_mk h1 rfl rfl, fun k2 hk2 => ?_⟩
  simp [mI]
theorem leaf_whole (z : PS) (L : List Tk) (k a o n : Int) (x : ByteArray) (h : Rm z 1) : wholeP (z.to L) k a o n x [] = ((.mk k a 0 o n x [], 1), z.to L) := whole_yes (z.to L) k a o n x [] 0 rfl (by have := h.deep; show z.deep + _ ≤ 256; omega)
theorem name_nk {b : List UInt8} (h : NameOk b) : b ≠ [40] := bg_ne (bg_name h) 40 (by decide) |> fun _ => by
  obtain ⟨c, r, rfl, hl, _⟩ := h
  intro e
  injection e with e1 _
  subst e1
  revert hl
  decide
theorem dig_nk (n : Int) : digM n ≠ [40] := by
  obtain ⟨h1, h2, h3⟩ := dec_back (u64M n) (u64M n) (Nat.le_refl _) (u64M_lt n)
  intro e
  have hc := h3 40 (by show (40 : UInt8) ∈ digM n; rw [e]; simp)
  revert hc
  decide
/-- A kept name leads to its reader. -/
theorem kept_first {z : PS} {x : List UInt8} {M : List ETk} {L : List Tk} {j : Nat} (hm : z.left.map er = kw x :: M) (hx : x ≠ [40]) (hL : z.next = z.to L) : firstK (j + 1) z = keptK j z.now (z.to L) := by
  obtain ⟨h1, h2, -⟩ := front_kw hm
  simp only [firstK]
  rw [isB_no (by rw [h2]; exact hx)]
  simp only [Bool.false_eq_true, if_false]
  rw [if_neg (by rw [h1]; decide), if_neg (by rw [h1]; decide), hL]
theorem r41 : rankOf [41] = 0 := by decide
theorem r93 : rankOf [93] = 0 := by decide
/-- In brackets. -/
theorem paren_first (Q : Ex → Prop) {z : PS} {M N : List ETk} {k : Nat} {d : Int} (hm : z.left.map er = sg [40] :: M) (hr : Rm z (d + 1)) (hd : 0 ≤ d) (h : ∀ S : PS, S.left.map er = M → Rm S d → S.deep = z.deep → S.nest = z.nest + 1 → ∃ e' L, L.map er = sg [41] :: N ∧ Q e' ∧ exprK k S = some ((e', d + 1), S.to L)) :
    ∃ e' L, L.map er = N ∧ Q e' ∧ firstK (k + 1) z = some ((e', d + 1), z.to L) := by
  obtain ⟨f1, f3, L1, f4, f5⟩ := front_sg hm
  have hen1 : (z.to L1).enter = ({ z with left := L1, nest := z.nest + 1 } : PS) := by
    have hn := hr.nest
    rw [enter_yes (by show z.nest + 1 ≤ 1024; omega)]
    rfl
  obtain ⟨S, hS⟩ : ∃ S : PS, S = { z with left := L1, nest := z.nest + 1 } := ⟨_, rfl⟩
  have hSl : S.left.map er = M := by rw [hS]; exact f5
  have hSr : Rm S d := by
    have := hr.in_
    rw [hS]
    exact ⟨this.deep, this.nest, this.nn⟩
  have hout : ∀ L, (S.to L).leave = z.to L := fun L => by
    rw [hS]
    exact in_out z L
  obtain ⟨e', L, h1, h3, h2⟩ := h S hSl hSr (by rw [hS]) (by rw [hS])
  obtain ⟨q1, q3, L3, q4, q5⟩ := front_sg (s := S.to L) h1
  refine ⟨e', L3, q5, h3, ?_⟩
  simp only [firstK]
  rw [isB_yes f3]
  simp only [if_true]
  rw [need_yes f3, f4, hen1, ← hS, h2]
  simp only
  rw [need_yes q3, q4, to_to, hout]
/-- Two, and an operation between them. -/
theorem rd_two (k a t o : Int) (x y : Ex) (b : List UInt8) (hx : WFE x ∧ RdB x) (hy : WFE y ∧ RdC y) (ht : tkE (.mk k a t o 0 ⟨#[]⟩ [x, y]) = pT [tkE x, tkE y] b) (hk9 : k ≠ 9) (hb40 : b ≠ [40]) (hb91 : b ≠ [91]) (hrk : 1 ≤ rankOf b) (hkd : kindOf (rankOf b) = k) (hop : opOf b = o) : RdA (.mk k a t o 0 ⟨#[]⟩ [x, y]) := fun z M j hm h40 hr hj => by
  rw [ht] at hm hj ⊢
  have hm' : z.left.map er = sg [40] :: (tkE x ++ (sg b :: (tkE y ++ (sg [41] :: M)))) := by rw [hm]; simp [pT, jt]
  have hlen : (pT [tkE x, tkE y] b).length = (tkE x).length + (tkE y).length + 3 := by simp [pT, jt]; omega
  rw [hlen] at hj
  have hdd : dE (.mk k a t o 0 ⟨#[]⟩ [x, y]) = max (dE x) (dE y) + 1 := by have := dE_pos x; have := dE_pos y; simp [dE, dEs]; omega
  obtain ⟨d, hd⟩ : ∃ d, d = max (dE x) (dE y) := ⟨_, rfl⟩
  rw [hdd, ← hd] at hr ⊢
  have hpx := dE_pos x
  have hpy := dE_pos y
  obtain ⟨j, rfl⟩ : ∃ i, j = i + 4 := ⟨j - 4, by omega⟩
  have key : ∀ S : PS, S.left.map er = tkE x ++ (sg b :: (tkE y ++ (sg [41] :: M))) → Rm S d → S.deep = z.deep → S.nest = z.nest + 1 → ∃ e' L, L.map er = sg [41] :: M ∧ sameE (.mk k a t o 0 ⟨#[]⟩ [x, y]) e' = true ∧ exprK (j + 3) S = some ((e', d + 1), S.to L) := fun S hS hSr hSd _ => by
    obtain ⟨x', L1, h1, h2, h3⟩ := hx.2 S _ (j + 1) hS (by show b ≠ [40]; exact hb40) (by show b ≠ [91]; exact hb91) (hSr.le (by omega)) (by omega)
    obtain ⟨f1, f3, L2, f4, f5⟩ := front_sg (s := S.to L1) h1
    obtain ⟨y', L3, g1, g2, g3⟩ := hy.2 ((S.to L1).to L2) _ j (rankOf b + 1) f5 (by show ([41] : List UInt8) ≠ [40]; decide) (by show ([41] : List UInt8) ≠ [91]; decide) (by show rankOf [41] < _; rw [r41]; omega) (by have := hSr.le (d' := dE y) (by omega); exact ⟨this.deep, this.nest, this.nn⟩) (by omega)
    have hnow3 : (S.to L3).now.bytes = [41] := nb_now (s := S.to L3) g1
    have hw := whole_yes (S.to L3) (kindOf (rankOf b)) (S.to L1).now.at_ (opOf b) 0 ⟨#[]⟩ [(x', dE x), (y', dE y)] d (by simp [deepest]; omega) (by rw [to_deep, hSd]; have := hr.deep; omega)
    rw [hkd, hop] at hw
    refine ⟨.mk k (S.to L1).now.at_ 0 o 0 ⟨#[]⟩ [x', y'], L3, g1, same_mk rfl rfl (by simp [sameEs, h2, g2]), ?_⟩
    · simp only [exprK, betwK]
      rw [h3]
      simp only
      simp only [loopK]
      rw [f3, if_neg (by omega), f4, g3]
      simp only
      rw [hkd, hop]
      rw [show ((S.to L1).to L2).to L3 = S.to L3 from rfl, hw]
      simp only [List.map_cons, List.map_nil]
      rw [if_neg (by rw [hnow3, r41]; omega)]
      obtain ⟨i, rfl⟩ : ∃ i, j = i + 1 := ⟨j - 1, by omega⟩
      simp only [loopK]
      rw [if_pos (by rw [hnow3]; decide)]
  obtain ⟨e', L, h1, h2, h3⟩ := paren_first (fun e' => sameE (.mk k a t o 0 ⟨#[]⟩ [x, y]) e' = true) (N := M) (k := j + 3) hm' hr (by omega) key
  exact ⟨_, _, h3, e', L, h1, h2, fun k2 _ => by simp [mI, hk9]⟩
/-- A sign ahead of one. -/
theorem rd_one (a t o : Int) (x : Ex) (ho : o = 15 ∨ o = 16 ∨ o = 24) (hx : WFE x ∧ RdB x) : RdA (.mk 4 a t o 0 ⟨#[]⟩ [x]) := fun z M j hm h40 hr hj => by
  have ht : tkE (.mk 4 a t o 0 ⟨#[]⟩ [x]) = sg [40] :: sg (sgnB o) :: (tkE x ++ [sg [41]]) := by simp [tkE, tkEs, tkK, jt]
  rw [ht] at hm hj ⊢
  have hm' : z.left.map er = sg [40] :: (sg (sgnB o) :: (tkE x ++ (sg [41] :: M))) := by rw [hm]; simp
  have hlen : (sg [40] :: sg (sgnB o) :: (tkE x ++ [sg [41]])).length = (tkE x).length + 3 := by simp
  rw [hlen] at hj
  have hpx := dE_pos x
  have hdd : dE (.mk 4 a t o 0 ⟨#[]⟩ [x]) = dE x + 1 := by simp [dE, dEs]; omega
  rw [hdd] at hr ⊢
  have hto : turnOf (sgnB o) = o ∧ o ≠ 0 := by rcases ho with rfl | rfl | rfl <;> decide
  obtain ⟨j, rfl⟩ : ∃ i, j = i + 5 := ⟨j - 5, by omega⟩
  have key : ∀ S : PS, S.left.map er = sg (sgnB o) :: (tkE x ++ (sg [41] :: M)) → Rm S (dE x) → S.deep = z.deep → S.nest = z.nest + 1 → ∃ e' L, L.map er = sg [41] :: M ∧ sameE (.mk 4 a t o 0 ⟨#[]⟩ [x]) e' = true ∧ exprK (j + 4) S = some ((e', dE x + 1), S.to L) := fun S hS hSr hSd hSn => by
    obtain ⟨f1, f3, L1, f4, f5⟩ := front_sg hS
    have hen1 : (S.to L1).enter = ({ S with left := L1, nest := S.nest + 1 } : PS) := by
      have hn := hr.nest
      rw [enter_yes (by show S.nest + 1 ≤ 1024; omega)]
      rfl
    obtain ⟨U, hU⟩ : ∃ U : PS, U = { S with left := L1, nest := S.nest + 1 } := ⟨_, rfl⟩
    have hUl : U.left.map er = tkE x ++ (sg [41] :: M) := by rw [hU]; exact f5
    have hUr : Rm U (dE x) := by
      rw [hU]
      refine ⟨hSr.deep, ?_, ?_⟩
      · show S.nest + 1 + 2 * dE x ≤ 1024
        have := hr.nest
        omega
      · show 0 ≤ S.nest + 1
        have := hr.nn
        omega
    have hout : ∀ L, (U.to L).leave = S.to L := fun L => by
      rw [hU]
      exact in_out S L
    obtain ⟨x', L2, h1, h2, h3⟩ := hx.2 U _ (j + 1) hUl (by show ([41] : List UInt8) ≠ [40]; decide) (by show ([41] : List UInt8) ≠ [91]; decide) hUr (by omega)
    have hnow3 : (S.to L2).now.bytes = [41] := nb_now (s := S.to L2) h1
    have hw := whole_yes (U.to L2) 4 S.now.at_ o 0 ⟨#[]⟩ [(x', dE x)] (dE x) (by simp [deepest]; omega) (by rw [to_deep, show U.deep = S.deep by rw [hU], hSd]; have := hr.deep; omega)
    refine ⟨.mk 4 S.now.at_ 0 o 0 ⟨#[]⟩ [x'], L2, h1, same_mk rfl rfl (by simp [sameEs, h2]), ?_⟩
    · simp only [exprK, betwK]
      rw [aheadK, f3, hto.1, if_neg hto.2, f4, hen1, ← hU, h3]
      simp only
      rw [hw]
      simp only
      rw [hout]
      simp only [loopK]
      rw [if_pos (by rw [hnow3]; decide)]
      rfl
  obtain ⟨e', L, h1, h2, h3⟩ := paren_first (fun e' => sameE (.mk 4 a t o 0 ⟨#[]⟩ [x]) e' = true) (N := M) (k := j + 4) hm' hr (by omega) key
  exact ⟨_, _, h3, e', L, h1, h2, fun k2 _ => by simp [mI]⟩
/-- A call. -/
theorem rd_call (a t : Int) (s : ByteArray) (kids : List Ex) (hn : NameOk s.data.toList) (hk : ∀ e ∈ kids, WFE e ∧ RdC e) : RdA (.mk 8 a t 0 0 s kids) := fun z M j hm h40 hr hj => by
  have ht : tkE (.mk 8 a t 0 0 s kids) = nmt s.data.toList :: sg [40] :: (jt (tkEs kids) ++ [sg [41]]) := by simp [tkE, tkK]
  rw [ht] at hm hj ⊢
  have hm' : z.left.map er = nmt s.data.toList :: (sg [40] :: (jt (tkEs kids) ++ (sg [41] :: M))) := by rw [hm]; simp
  have hlen : (nmt s.data.toList :: sg [40] :: (jt (tkEs kids) ++ [sg [41]])).length = (jt (tkEs kids)).length + 3 := by simp
  rw [hlen] at hj
  have hdd : dE (.mk 8 a t 0 0 s kids) = dEs kids + 1 := by simp [dE]
  rw [hdd] at hr ⊢
  obtain ⟨f1, f3, L, f4, f5⟩ := front_nm hm'
  obtain ⟨q1, q3, L2, q4, q5⟩ := front_sg (s := z.to L) f5
  obtain ⟨j, rfl⟩ : ∃ i, j = i + 2 := ⟨j - 2, by omega⟩
  obtain ⟨ps, L3, g1, g2, g3⟩ := rd_parts kids hk (z.to L) [40] [41] M j (Or.inl rfl) f5 ⟨hr.deep, hr.nest, hr.nn⟩ (by omega)
  have hw := whole_yes (z.to L3) 8 z.now.at_ 0 0 (strB z.now.bytes) ps (dEs kids) g2.deep (by rw [to_deep]; have := hr.deep; omega)
  refine ⟨(.mk 8 z.now.at_ 0 0 0 (strB z.now.bytes) (ps.map Prod.fst), dEs kids + 1), z.to L3, ?_, .mk 8 z.now.at_ 0 0 0 (strB z.now.bytes) (ps.map Prod.fst), L3, g1, same_mk (by rw [strB_list, f3]) rfl g2.same, fun k2 _ => by cases kids <;> simp [mI]⟩
  · simp only [firstK]
    rw [isB_no (by rw [f3]; exact name_nk hn)]
    simp only [Bool.false_eq_true, if_false]
    rw [if_neg (by rw [f1]; decide), if_pos f1, f4]
    simp only [calledK]
    rw [isB_yes q3]
    simp only [if_true]
    rw [g3]
    simp only
    rw [to_to, hw]
end Go.Proofs.YtiadbeglhnocoaaGreatDoor
