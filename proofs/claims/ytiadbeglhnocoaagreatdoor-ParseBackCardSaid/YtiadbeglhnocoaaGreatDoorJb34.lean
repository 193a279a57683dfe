/-
  lex's word, and the library's Clone.
  lex's Lex: the words of a text, or its first fault.
  Lex, of a text without a fault, and of one with a fault.
-/
import Derived.Test.YtiadbeglhnocoaaGreatDoorJb4
import Derived.Test.YtiadbeglhnocoaaGreatDoorJb9
import Derived.OwnWalk
import Derived.Deep.AppendLies
namespace Go.Proofs.YtiadbeglhnocoaaGreatDoor
set_option linter.unusedVariables false
set_option linter.unusedSimpArgs false
open Go.RowKit

theorem clone_any (s : ByteArray) (w : World) (hs : s.size ≤ 281474976710656) : Calls Tryz.prog 30 #[.string s] w fun e w' => e = .returned (.string s) ∧ Below w.heap.size w w' :=
  AnyPu.stringslite_Clone { laysPu14 with } s w hs

set_option maxHeartbeats 1000000 in
theorem sclone_any (s : ByteArray) (w : World) (hs : s.size ≤ 281474976710656) : Calls Tryz.prog 15 #[.string s] w fun e w' => e = .returned (.string s) ∧ Below w.heap.size w w' := by
  go_enter Tryz.func15, Tryz.ntmps15
  go_wp2_with (go_at_call 30; refine (clone_any s _ hs).mono ?_; rintro e w1 ⟨rfl, hb⟩)
  go_ret
  exact ⟨rfl, hb⟩

theorem word_at (s : ByteArray) (k : Nat) (hk : k < s.size) : wordT k (s.data.toList.drop k) = if letterB s[k].toNat = true then some (nameT k (s.data.toList.drop k)) else if digitB s[k].toNat = true then numT k (s.data.toList.drop k) else signT k (s.data.toList.drop k) := by
  rw [drop_at s k hk, wordT]

set_option maxHeartbeats 1000000 in
theorem word_any (s : ByteArray) (k : Nat) (w : World) (hs : s.size ≤ 281474976710656) (hk : k < s.size) (hr : Rng w) :
    Calls Tryz.prog 17 #[.string s, .int .i64 k] w fun e w' => e = .returned (.tuple #[tkV (tkO (wordT k (s.data.toList.drop k))), .bool (wordT k (s.data.toList.drop k)).isSome]) ∧ Below w.heap.size w w' := by
  have hm : s.size ≤ maxLen := by unfold maxLen; omega
  have hw := word_at s k hk
  have hr1 : Rng (w.alloc (.cells #[.int .i64 0, .int .i64 0, .int .i64 0, .string ⟨#[]⟩] 56)) := hr.up ((Below.refl _ _).alloc (Nat.le_refl _) _)
  by_cases hl : letterB s[k].toNat = true
  · rw [if_pos hl] at hw
    rw [hw]
    have HN := name_any s k (w.alloc (.cells #[.int .i64 0, .int .i64 0, .int .i64 0, .string ⟨#[]⟩] 56)) hm (by omega)
    obtain ⟨⟨kd, a, nm, bs⟩, hT⟩ : ∃ T, T = nameT k (s.data.toList.drop k) := ⟨_, rfl⟩
    rw [← hT] at HN
    rw [← hT]
    clear hw hT
    have HC : Hid (Calls Tryz.prog 34 #[.string s, .int .i64 k] (w.alloc (.cells #[.int .i64 0, .int .i64 0, .int .i64 0, .string ⟨#[]⟩] 56)) fun e w' => e = .returned (.agg #[.int .i64 kd, .int .i64 a, .int .i64 nm, .string ⟨bs.toArray⟩]) ∧ Below (w.alloc (.cells #[.int .i64 0, .int .i64 0, .int .i64 0, .string ⟨#[]⟩] 56)).heap.size (w.alloc (.cells #[.int .i64 0, .int .i64 0, .int .i64 0, .string ⟨#[]⟩] 56)) w') := Lib.hid HN
    clear HN hr1 hr
    go_enter Tryz.func17, Tryz.ntmps17
    go_wp2_with (first | (go_at_call 33; refine (letter_any _ _).mono ?_; rintro e w' ⟨rfl, rfl⟩) | (go_at_call 35; refine (digit_any _ _).mono ?_; rintro e w' ⟨rfl, rfl⟩) | (go_at_call 34; refine HC.out.mono ?_; rintro e w1 ⟨rfl, hb1⟩; obtain ⟨hc1, hf1⟩ := bcell hb1; have hz1 := hb1.size))
    have hz2 : w.heap.size < w1.heap.size := by simp at hz1; omega
    refine bodyPost_ret (v := .tuple #[.agg #[.int .i64 kd, .int .i64 a, .int .i64 nm, .string ⟨bs.toArray⟩], .bool true]) (by simp [results, Tryz.results17, go_sem, hc1]) rfl ⟨rfl, ?_⟩
    exact ((((((Below.refl _ _).alloc (Nat.le_refl _) _).trans (hb1.mono (by simp))).setCell (Nat.le_refl _) _).setCell (Nat.le_refl _) _).setCell (Nat.le_refl _) _).setCell (Nat.le_refl _) _
  · have hl : letterB s[k].toNat = false := by simpa using hl
    rw [if_neg (by simp [hl])] at hw
    by_cases hd : digitB s[k].toNat = true
    · rw [if_pos hd] at hw
      rw [hw]
      have HN := number_any s k (w.alloc (.cells #[.int .i64 0, .int .i64 0, .int .i64 0, .string ⟨#[]⟩] 56)) hs hk hd hr1
      obtain ⟨o, hO⟩ : ∃ o, o = numT k (s.data.toList.drop k) := ⟨_, rfl⟩
      rw [← hO] at HN
      rw [← hO]
      clear hw hO
      obtain ⟨ok, hok⟩ : ∃ ok, ok = o.isSome := ⟨_, rfl⟩
      obtain ⟨⟨kd, a, nm, bs⟩, hT⟩ : ∃ T, T = tkO o := ⟨_, rfl⟩
      rw [← hok, ← hT] at HN
      rw [← hok, ← hT]
      clear hok hT
      have HC : Hid (Calls Tryz.prog 36 #[.string s, .int .i64 k] (w.alloc (.cells #[.int .i64 0, .int .i64 0, .int .i64 0, .string ⟨#[]⟩] 56)) fun e w' => e = .returned (.tuple #[.agg #[.int .i64 kd, .int .i64 a, .int .i64 nm, .string ⟨bs.toArray⟩], .bool ok]) ∧ Below (w.alloc (.cells #[.int .i64 0, .int .i64 0, .int .i64 0, .string ⟨#[]⟩] 56)).heap.size (w.alloc (.cells #[.int .i64 0, .int .i64 0, .int .i64 0, .string ⟨#[]⟩] 56)) w') := Lib.hid HN
      clear HN hr1 hr
      go_enter Tryz.func17, Tryz.ntmps17
      go_wp2_with (first | (go_at_call 33; refine (letter_any _ _).mono ?_; rintro e w' ⟨rfl, rfl⟩) | (go_at_call 35; refine (digit_any _ _).mono ?_; rintro e w' ⟨rfl, rfl⟩) | (go_at_call 36; refine HC.out.mono ?_; rintro e w1 ⟨rfl, hb1⟩; obtain ⟨hc1, hf1⟩ := bcell hb1; have hz1 := hb1.size))
      have hz2 : w.heap.size < w1.heap.size := by simp at hz1; omega
      refine bodyPost_ret (v := .tuple #[.agg #[.int .i64 kd, .int .i64 a, .int .i64 nm, .string ⟨bs.toArray⟩], .bool ok]) (by simp [results, Tryz.results17, go_sem, hc1]) rfl ⟨rfl, ?_⟩
      exact ((((((Below.refl _ _).alloc (Nat.le_refl _) _).trans (hb1.mono (by simp))).setCell (Nat.le_refl _) _).setCell (Nat.le_refl _) _).setCell (Nat.le_refl _) _).setCell (Nat.le_refl _) _
    · have hd : digitB s[k].toNat = false := by simpa using hd
      rw [if_neg (by simp [hd])] at hw
      rw [hw]
      have HN := sign_any s k (w.alloc (.cells #[.int .i64 0, .int .i64 0, .int .i64 0, .string ⟨#[]⟩] 56)) hm hk
      obtain ⟨o, hO⟩ : ∃ o, o = signT k (s.data.toList.drop k) := ⟨_, rfl⟩
      rw [← hO] at HN
      rw [← hO]
      clear hw hO
      obtain ⟨ok, hok⟩ : ∃ ok, ok = o.isSome := ⟨_, rfl⟩
      obtain ⟨⟨kd, a, nm, bs⟩, hT⟩ : ∃ T, T = tkO o := ⟨_, rfl⟩
      rw [← hok, ← hT] at HN
      rw [← hok, ← hT]
      clear hok hT
      have HC : Hid (Calls Tryz.prog 37 #[.string s, .int .i64 k] (w.alloc (.cells #[.int .i64 0, .int .i64 0, .int .i64 0, .string ⟨#[]⟩] 56)) fun e w' => e = .returned (.tuple #[.agg #[.int .i64 kd, .int .i64 a, .int .i64 nm, .string ⟨bs.toArray⟩], .bool ok]) ∧ Below (w.alloc (.cells #[.int .i64 0, .int .i64 0, .int .i64 0, .string ⟨#[]⟩] 56)).heap.size (w.alloc (.cells #[.int .i64 0, .int .i64 0, .int .i64 0, .string ⟨#[]⟩] 56)) w') := Lib.hid HN
      clear HN hr1 hr
      go_enter Tryz.func17, Tryz.ntmps17
      go_wp2_with (first | (go_at_call 33; refine (letter_any _ _).mono ?_; rintro e w' ⟨rfl, rfl⟩) | (go_at_call 35; refine (digit_any _ _).mono ?_; rintro e w' ⟨rfl, rfl⟩) | (go_at_call 37; refine HC.out.mono ?_; rintro e w1 ⟨rfl, hb1⟩; obtain ⟨hc1, hf1⟩ := bcell hb1; have hz1 := hb1.size))
      have hz2 : w.heap.size < w1.heap.size := by simp at hz1; omega
      refine bodyPost_ret (v := .tuple #[.agg #[.int .i64 kd, .int .i64 a, .int .i64 nm, .string ⟨bs.toArray⟩], .bool ok]) (by simp [results, Tryz.results17, go_sem, hc1]) rfl ⟨rfl, ?_⟩
      exact ((((((Below.refl _ _).alloc (Nat.le_refl _) _).trans (hb1.mono (by simp))).setCell (Nat.le_refl _) _).setCell (Nat.le_refl _) _).setCell (Nat.le_refl _) _).setCell (Nat.le_refl _) _
end Go.Proofs.YtiadbeglhnocoaaGreatDoor
namespace Go.Proofs.YtiadbeglhnocoaaGreatDoor
set_option linter.unusedVariables false
set_option linter.unusedSimpArgs false
open Go.RowKit

theorem info32 : (Tryz.prog.info? 56).map (fun i => (i.zero, i.size, i.bytes)) = some (some (.agg #[.int .i64 0, .int .i64 0, .int .i64 0, .string ⟨#[]⟩]), 4, 40) := by kernel_rfl

set_option maxHeartbeats 1000000 in
theorem lex_long (s : ByteArray) (w : World) (hs : s.size ≤ maxLen) (hl : 1048576 < s.size) :
    Calls Tryz.prog 9 #[.string s] w fun e w' => e = .returned (.tuple #[.slice none 0 0, .agg #[.int .i64 4, .int .i64 1048576]]) ∧ Below w.heap.size w w' := by
  unfold maxLen at hs
  go_enter Tryz.func9, Tryz.ntmps9
  go_wp2_with (fail)
  refine bodyPost_ret (v := .tuple #[.slice none 0 0, .agg #[.int .i64 4, .int .i64 1048576]]) (by simp [results, Tryz.results9, go_sem]) rfl ⟨rfl, ?_⟩
  exact (Below.refl _ _).alloc (Nat.le_refl _) _

theorem own_below {w w1 : World} {base n : Nat} {e : TypeId} {size : Nat} {v : Value} {xs : List Value} (h : w.ownsRow base e size v n xs) (hb : Below w.heap.size w w1) : w1.ownsRow base e size v n xs :=
  h.kept (row := none) ⟨hb.os, hb.tape, hb.output, hb.size, fun k hk _ => hb.block k hk⟩ (by cases v.ownBlock <;> simp)

/-- What the loop holds at the head of a round: the words so far and those that follow are all words; the fault is the same. -/
def LexRel (s : ByteArray) (R : List Tk) (O : Option Nat) (ts : List Tk) (j : Nat) : Prop := ts ++ (lexR j (s.data.toList.drop j)).1 = R ∧ (lexR j (s.data.toList.drop j)).2 = O

theorem rel_good {s : ByteArray} {R : List Tk} {O : Option Nat} {ts : List Tk} {j : Nat} {t : Tk} (h : LexRel s R O ts j) (hw : wordT j (s.data.toList.drop j) = some t) (hts : ts.length ≤ j) (hj : j ≤ s.size) :
    LexRel s R O (ts ++ [t]) (j + t.bytes.length + skipN false (s.data.toList.drop (j + t.bytes.length))) ∧ (ts ++ [t]).length ≤ j + t.bytes.length + skipN false (s.data.toList.drop (j + t.bytes.length)) ∧ j + t.bytes.length ≤ s.size ∧ 1 ≤ t.bytes.length ∧ j + t.bytes.length + skipN false (s.data.toList.drop (j + t.bytes.length)) ≤ s.size := by
  obtain ⟨ha, h1, h2, _⟩ := word_has hw
  obtain ⟨hs1, hs2⟩ := step_le hw
  rw [len_drop] at h2 hs2
  have e : stepN (s.data.toList.drop j) t = t.bytes.length + skipN false (s.data.toList.drop (j + t.bytes.length)) := by unfold stepN; rw [List.drop_drop]
  have hl := lexR_good hw
  rw [List.drop_drop] at hl
  rw [e] at hl hs2 hs1
  unfold LexRel at h
  rw [hl] at h
  refine ⟨⟨?_, ?_⟩, by rw [List.length_append, List.length_singleton]; omega, by omega, h1, by omega⟩
  · rw [Nat.add_assoc, List.append_assoc]; exact h.1
  · rw [Nat.add_assoc]; exact h.2
theorem rel_bad {s : ByteArray} {R : List Tk} {O : Option Nat} {ts : List Tk} {j : Nat} (h : LexRel s R O ts j) (hj : j < s.size) (hw : wordT j (s.data.toList.drop j) = none) : O = some j := by
  have hl := lexR_bad (l := s.data.toList.drop j) (by rw [drop_at s j hj]; simp) hw
  unfold LexRel at h
  rw [hl] at h
  exact h.2.symm
theorem rel_end {s : ByteArray} {R : List Tk} {O : Option Nat} {ts : List Tk} {j : Nat} (h : LexRel s R O ts j) (hj : ¬ j < s.size) : R = ts ∧ O = none := by
  unfold LexRel at h
  rw [List.drop_of_length_le (by simpa using hj), lexR_nil] at h
  exact ⟨by simpa using h.1.symm, h.2.symm⟩

def LexPost (n : Nat) (R : List Tk) (O : Option Nat) (w : World) (e : Ending) (w' : World) : Prop :=
  Below w.heap.size w w' ∧ match O with
    | some p => e = .returned (.tuple #[.slice none 0 0, .agg #[.int .i64 1, .int .i64 p]])
    | none => ∃ g cap, e = .returned (.tuple #[.slice (some ⟨g, 0, none⟩) (R.length + 1) cap, .agg #[.int .i64 0, .int .i64 0]]) ∧ w'.ownsRow (w.heap.size + 1) 56 4 (.slice (some ⟨g, 0, none⟩) (R.length + 1) cap) (R.length + 1) ((R ++ [endT n]).flatMap tkC)
theorem lexPost_bad {n : Nat} {R : List Tk} {O : Option Nat} {w : World} {e : Ending} {w' : World} {p : Nat} (hO : O = some p) (hb : Below w.heap.size w w') (he : e = .returned (.tuple #[.slice none 0 0, .agg #[.int .i64 1, .int .i64 p]])) : LexPost n R O w e w' := by
  subst hO; exact ⟨hb, he⟩

theorem skip_from (s : ByteArray) (a : Int) (k : Nat) (ha : a = k) (w : World) (hs : s.size ≤ maxLen) (hk : k ≤ s.size) :
    Calls Tryz.prog 16 #[.string s, .int .i64 a] w fun e w' => e = .returned (.int .i64 (k + skipN false (s.data.toList.drop k) : Nat)) ∧ Below w.heap.size w w' := by
  subst ha; exact skip_any s k w hs hk
theorem word_bad (s : ByteArray) (k : Nat) (w : World) (hs : s.size ≤ 281474976710656) (hk : k < s.size) (hr : Rng w) (h : Hid (wordT k (s.data.toList.drop k) = none)) :
    Calls Tryz.prog 17 #[.string s, .int .i64 k] w fun e w' => e = .returned (.tuple #[.agg #[.int .i64 0, .int .i64 0, .int .i64 0, .string ⟨#[]⟩], .bool false]) ∧ Below w.heap.size w w' :=
  (word_any s k w hs hk hr).mono fun _ _ ⟨he, hb⟩ => ⟨by rw [he, h.out]; rfl, hb⟩
theorem word_good (s : ByteArray) (k : Nat) (w : World) (hs : s.size ≤ 281474976710656) (hk : k < s.size) (hr : Rng w) (kd nm : Int) (a : Nat) (bs : List UInt8) (h : Hid (wordT k (s.data.toList.drop k) = some ⟨kd, a, nm, bs⟩)) :
    Calls Tryz.prog 17 #[.string s, .int .i64 k] w fun e w' => e = .returned (.tuple #[.agg #[.int .i64 kd, .int .i64 a, .int .i64 nm, .string ⟨bs.toArray⟩], .bool true]) ∧ Below w.heap.size w w' :=
  (word_any s k w hs hk hr).mono fun _ _ ⟨he, hb⟩ => ⟨by rw [he, h.out]; rfl, hb⟩

theorem new_cells (W : World) (cs : Array Value) (t : TypeId) : ∀ j u, cs.toList[j]? = some u → (W.alloc (.cells cs t)).cell? ((⟨W.heap.size, 0, none⟩ : Addr).add j) = some u := by
  intro j u h
  have e : (⟨W.heap.size, 0, none⟩ : Addr).add j = ⟨W.heap.size, j, none⟩ := by unfold Addr.add; split <;> simp_all
  rw [e, cell_of_row _ _ j cs t (0, 0) (heap_alloc_new W _), ← Array.getElem?_toList]
  exact h
theorem new_tk (W : World) (n : Nat) (hn : n = W.heap.size) (t : Tk) : ∀ j u, (tkC t)[j]? = some u → (W.alloc (.cells #[.int .i64 t.kind, .int .i64 t.at_, .int .i64 t.num, .string ⟨t.bytes.toArray⟩] 56)).cell? ((⟨n, 0, none⟩ : Addr).add j) = some u := by
  subst hn
  exact new_cells W #[.int .i64 t.kind, .int .i64 t.at_, .int .i64 t.num, .string ⟨t.bytes.toArray⟩] 56
theorem tkC_one (t : Tk) : ∀ u ∈ tkC t, u.oneCell' = true := by
  intro u hu
  simp [tkC] at hu
  rcases hu with rfl | rfl | rfl | rfl <;> rfl
theorem own_snoc {w : World} {b : Nat} {v : Value} {ts : List Tk} {t : Tk} (h : w.ownsRow b 56 4 v (ts.length + 1) (ts.flatMap tkC ++ tkC t)) : w.ownsRow b 56 4 v (ts ++ [t]).length ((ts ++ [t]).flatMap tkC) := by
  simpa using h
theorem blk_cells {w1 : World} {B : Nat} (h : w1.heap[B]? = some (.cells #[.int .i64 0, .int .i64 0] 26 (0, 0))) : w1.cell? ⟨B, 0, none⟩ = some (.int .i64 0) ∧ w1.cell? ⟨B, 1, none⟩ = some (.int .i64 0) ∧ w1.frozen? ⟨B, 0, none⟩ = false ∧ w1.frozen? ⟨B, 1, none⟩ = false ∧ B < w1.heap.size := by
  refine ⟨?_, ?_, ?_, ?_, lt_of_block h⟩
  · rw [cell_of_row _ _ _ _ _ _ h]; rfl
  · rw [cell_of_row _ _ _ _ _ _ h]; rfl
  · simp [World.frozen?, h]
  · simp [World.frozen?, h]
/-- Behind a word's append. -/
theorem step_app {w wr w3 w4 : World} {v : Value} {n : Nat} {xs : List Value} {kd nm : Int} {a : Nat} {bs : List UInt8} {o2 C : Obj} (hown : wr.ownsRow (w.heap.size + 1) 56 4 v n xs) (hb3 : Below wr.heap.size wr w3)
    (hg : ((w3.alloc (.cells #[.int .i64 kd, .int .i64 a, .int .i64 nm, .string ⟨bs.toArray⟩] 56)).alloc o2).grownBy w4 v.ownBlock) (hblk : wr.heap[w.heap.size]? = some C) (hb : Below w.heap.size w wr) (hz : w.heap.size + 1 ≤ wr.heap.size) :
    w4.heap[w.heap.size]? = some C ∧ Below w.heap.size w w4 ∧ w.heap.size + 1 ≤ w4.heap.size ∧ w4.cell? ⟨w3.heap.size, 3, none⟩ = some (.string ⟨bs.toArray⟩) := by
  have hs3 := hb3.size
  have hlt := hown.lt
  have h2 : Below w.heap.size w ((w3.alloc (.cells #[.int .i64 kd, .int .i64 a, .int .i64 nm, .string ⟨bs.toArray⟩] 56)).alloc o2) := ((hb.trans (hb3.mono (by omega))).alloc (by omega) _).alloc (by simp; omega) _
  refine ⟨?_, h2.grown hg (by simp; omega) (fun k hk => by have := hlt k hk; omega), ?_, ?_⟩
  · rw [hg.block _ (by simp; omega) (fun e => by have := hlt _ e.symm; omega), Below.heap_alloc _ _ _ (by simp; omega), Below.heap_alloc _ _ _ (by omega), hb3.block _ (by omega)]
    exact hblk
  · have := hg.size; simp at this; omega
  · refine hg.cell ?_ (fun e => by have := hlt _ e.symm; simp at this; omega)
    rw [World.cell?_alloc_lt _ _ _ (by simp), cell_of_row _ _ _ _ _ _ (heap_alloc_new w3 _)]
    rfl
/-- Behind the end's append. -/
theorem step_end {w wr w4 : World} {v : Value} {n : Nat} {xs : List Value} {o2 C : Obj} (hown : wr.ownsRow (w.heap.size + 1) 56 4 v n xs)
    (hg : (wr.alloc o2).grownBy w4 v.ownBlock) (hblk : wr.heap[w.heap.size]? = some C) (hb : Below w.heap.size w wr) (hz : w.heap.size + 1 ≤ wr.heap.size) :
    w4.heap[w.heap.size]? = some C ∧ Below w.heap.size w w4 := by
  have hlt := hown.lt
  have h2 : Below w.heap.size w (wr.alloc o2) := hb.alloc (by omega) _
  refine ⟨?_, h2.grown hg (by simp; omega) (fun k hk => by have := hlt k hk; omega)⟩
  rw [hg.block _ (by simp; omega) (fun e => by have := hlt _ e.symm; omega), Below.heap_alloc _ _ _ (by omega)]
  exact hblk

set_option maxRecDepth 100000 in
set_option maxHeartbeats 2000000 in
theorem lex_any (s : ByteArray) (w : World) (hs : s.size ≤ 1048576) (hr : Rng w) (R : List Tk) (O : Option Nat) (hL : lexS s.data.toList = (R, O)) :
    Calls Tryz.prog 9 #[.string s] w (LexPost s.size R O w) := by
  have hm : s.size ≤ maxLen := by unfold maxLen; omega
  have hw2 := hr.two
  have HR := Lib.hid hr
  clear hr
  obtain ⟨i0, hi, hz0, hz1, hz2⟩ := info_parts info32
  have Hi := Lib.hid hi
  have Hz0 := Lib.hid hz0
  have Hz1 := Lib.hid hz1
  have Hz2 := Lib.hid hz2
  clear hi hz0 hz1 hz2
  have hL0 : LexRel s R O [] (skipN false s.data.toList) := by
    unfold lexS at hL
    unfold LexRel
    rw [hL]
    exact ⟨rfl, rfl⟩
  have H0 := Lib.hid hL0
  have hk0 : skipN false s.data.toList ≤ s.size := by have := skipN_le false s.data.toList; rw [Array.length_toList] at this; exact this
  clear hL hL0
  go_enter Tryz.func9, Tryz.ntmps9
  go_wp2_with (first | (go_at_call 15; refine (sclone_any s _ (by omega)).mono ?_; rintro e w1 ⟨rfl, hb1⟩) | (go_at_call 16; refine (skip_any s 0 _ hm (by omega)).mono ?_; rintro e w2 ⟨rfl, hb2⟩))
  have hbB : Below (w.heap.size + 1) (w.alloc (.cells #[.int .i64 0, .int .i64 0] 26)) w2 := (hb1.mono (by simp)).trans (hb2.mono (by have := hb1.size; simp at this; omega))
  have hb0 : Below w.heap.size w w2 := ((Below.refl _ _).alloc (Nat.le_refl _) _).trans (hbB.mono (by omega))
  have hk2 : w2.heap[w.heap.size]? = some (.cells #[.int .i64 0, .int .i64 0] 26 (0, 0)) := (hbB.block _ (by omega)).trans (heap_alloc_new w _)
  have hz : w.heap.size + 1 ≤ w2.heap.size := by have := hbB.size; simpa using this
  clear hb1 hb2 hbB
  go_loopw [5, 6] (fun v a wr => ∃ (ts : List Tk) (j : Nat), j ≤ s.size ∧ a = .int .i64 j ∧ ts.length ≤ j ∧ Hid (LexRel s R O ts j) ∧ Hid (wr.ownsRow (w.heap.size + 1) 56 4 v ts.length (ts.flatMap tkC)) ∧ Hid (wr.heap[w.heap.size]? = some (.cells #[.int .i64 0, .int .i64 0] 26 (0, 0))) ∧ Below w.heap.size w wr ∧ w.heap.size + 1 ≤ wr.heap.size) (fun _ a _ => s.size - (intOf a).toNat)
  case atStart => exact ⟨[], skipN false s.data.toList, hk0, by simp, Nat.zero_le _, H0, World.ownsRow_nil _ _ _ _, hk2, hb0, hz⟩
  case round =>
    obtain ⟨ts, j, hj, rfl, hts, H, hown, hblk, hb, hz'⟩ := hrel
    have hrr : Rng wr := HR.out.below hb hw2
    clear hk2 hb0 hz
    by_cases hlt : j < s.size
    · rcases hw : wordT j (s.data.toList.drop j) with _ | ⟨kd, a, nm, bs⟩
      · have hO := Lib.hid (rel_bad H.out hlt hw)
        replace hw := Lib.hid hw
        clear H
        go_wp2_with (go_at_call 17; refine (word_bad s j _ (by omega) hlt hrr hw).mono ?_; rintro e w3 ⟨rfl, hb3⟩; obtain ⟨hc0, hc1, hf0, hf1, hlt3⟩ := blk_cells ((hb3.block _ (by omega)).trans hblk.out))
        refine bodyPost_ret (v := .tuple #[.slice none 0 0, .agg #[.int .i64 1, .int .i64 j]]) (by simp [results, Tryz.results9, go_sem, hc0, hc1, hlt3]) rfl (lexPost_bad hO.out ?_ rfl)
        have hs3 := hb3.size
        exact (((hb.trans (hb3.mono (by omega))).setCell (Nat.le_refl _) _).setCell (Nat.le_refl _) _).alloc (by simp [World.setCell]; omega) _
      · obtain ⟨g1, g2, g3, g4, g5⟩ := rel_good H.out hw hts hj
        have G1 := Lib.hid g1
        have G2 : (ts ++ [Tk.mk kd a nm bs]).length ≤ j + bs.length + skipN false (s.data.toList.drop (j + bs.length)) := g2
        have G3 : j + bs.length ≤ s.size := g3
        have G4 : 1 ≤ bs.length := g4
        have G5 : j + bs.length + skipN false (s.data.toList.drop (j + bs.length)) ≤ s.size := g5
        clear g1 g2 g3 g4 g5
        replace hw := Lib.hid hw
        clear H
        go_wp2_with (first | (go_at_call 17; refine (word_good s j _ (by omega) hlt hrr kd nm a bs hw).mono ?_; rintro e w3 ⟨rfl, hb3⟩; have hown3 := Lib.hid (own_below hown.out hb3); have hs3 := hb3.size) | (at_builtin; go_must (refine wpList_append_own _ rfl (.tmp 31) (.tmp 33) 34 rfl (w.heap.size + 1) 56 i0 (.agg #[.int .i64 0, .int .i64 0, .int .i64 0, .string ⟨#[]⟩]) 4 40 Tryz.underlying34 Hi.out Hz0.out Hz1.out Hz2.out rfl (by decide) _ ts.length (ts.flatMap tkC) rfl ((hown3.out.alloc _).alloc _) ⟨w3.heap.size + 1, 0, none⟩ 1 1 (tkC ⟨kd, a, nm, bs⟩) rfl rfl (new_tk _ _ (by simp) ⟨kd, a, nm, bs⟩) (tkC_one _) (by unfold maxLen; omega) (by omega) (by simp; omega) ?_); intro v' w4 hown4 hg4 _; replace hown4 := Lib.hid (own_snoc hown4); obtain ⟨hblk4, hb4, hz4, hc4⟩ := step_app hown.out hb3 hg4 hblk.out hb hz'; replace hblk4 := Lib.hid hblk4) | (go_at_call 16; refine (skip_from s _ (j + bs.length) (by simp) _ hm G3).mono ?_; rintro e w5 ⟨rfl, hb5⟩))
        have hs5 := hb5.size
        go_roundw
        case rel => exact ⟨ts ++ [Tk.mk kd a nm bs], j + bs.length + skipN false (s.data.toList.drop (j + bs.length)), G5, by go_num, G2, G1, own_below hown4.out hb5, (hb5.block _ (by omega)).trans hblk4.out, hb4.trans (hb5.mono (by omega)), by omega⟩
        case measure => simp [intOf]; omega
    · obtain ⟨rfl, rfl⟩ := rel_end H.out hlt
      clear H
      go_wp2_with (first | (at_builtin; go_must (refine wpList_append_own _ rfl (.tmp 42) (.tmp 46) 34 rfl (w.heap.size + 1) 56 i0 (.agg #[.int .i64 0, .int .i64 0, .int .i64 0, .string ⟨#[]⟩]) 4 40 Tryz.underlying34 Hi.out Hz0.out Hz1.out Hz2.out rfl (by decide) _ R.length (R.flatMap tkC) rfl (hown.out.alloc _) ⟨wr.heap.size, 0, none⟩ 1 1 (tkC (endT s.size)) rfl rfl (new_tk _ _ rfl (endT s.size)) (tkC_one _) (by unfold maxLen; omega) (by omega) (by simp; omega) ?_); intro v' w4 hown4 hg4 _; obtain ⟨g, cap, rfl, hgB, _⟩ := hown4.form (by omega); replace hown4 := Lib.hid (own_snoc hown4); obtain ⟨hblk4, hb4⟩ := step_end hown.out hg4 hblk.out hb hz'; obtain ⟨hc0, hc1, hf0, hf1, hlt4⟩ := blk_cells hblk4; clear hblk4))
      refine bodyPost_ret (v := .tuple #[.slice (some ⟨g, 0, none⟩) (R.length + 1) cap, .agg #[.int .i64 0, .int .i64 0]]) (by simp [results, Tryz.results9, go_sem, hc0, hc1]) rfl ⟨?_, g, cap, rfl, ?_⟩
      · exact (hb4.setCell (Nat.le_refl _) _).setCell (Nat.le_refl _) _
      · have h := hown4.out
        rw [List.length_append, List.length_singleton] at h
        exact ownsRow_setCell_below (ownsRow_setCell_below h (Nat.lt_succ_self _) _) (Nat.lt_succ_self _) _
end Go.Proofs.YtiadbeglhnocoaaGreatDoor
namespace Go.Proofs.YtiadbeglhnocoaaGreatDoor
set_option linter.unusedVariables false
set_option linter.unusedSimpArgs false
open Go.RowKit

theorem lex_good (s : ByteArray) (w : World) (hs : s.size ≤ 1048576) (hr : Rng w) (R : List Tk) (hL : Hid (lexS s.data.toList = (R, none))) :
    Calls Tryz.prog 9 #[.string s] w fun e w' => ∃ g cap, e = .returned (.tuple #[.slice (some ⟨g, 0, none⟩) (R.length + 1) cap, .agg #[.int .i64 0, .int .i64 0]]) ∧ Hid (w'.ownsRow (w.heap.size + 1) 56 4 (.slice (some ⟨g, 0, none⟩) (R.length + 1) cap) (R.length + 1) ((R ++ [endT s.size]).flatMap tkC)) ∧ Below w.heap.size w w' :=
  (lex_any s w hs hr R none hL.out).mono fun _ _ ⟨hb, g, cap, he, ho⟩ => ⟨g, cap, he, ho, hb⟩
theorem lex_bad (s : ByteArray) (w : World) (hs : s.size ≤ 1048576) (hr : Rng w) (R : List Tk) (p : Nat) (hL : Hid (lexS s.data.toList = (R, some p))) :
    Calls Tryz.prog 9 #[.string s] w fun e w' => e = .returned (.tuple #[.slice none 0 0, .agg #[.int .i64 1, .int .i64 p]]) ∧ Below w.heap.size w w' :=
  (lex_any s w hs hr R (some p) hL.out).mono fun _ _ ⟨hb, he⟩ => ⟨he, hb⟩
end Go.Proofs.YtiadbeglhnocoaaGreatDoor
