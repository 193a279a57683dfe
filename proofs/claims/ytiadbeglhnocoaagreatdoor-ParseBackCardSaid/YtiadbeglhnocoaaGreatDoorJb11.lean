/-
  What the parser's readers of statements come to, where there is no fault.
  What the parser's readers of statements come to.
  What the parser's readers of functions and programs come to, where there is no fault; that so much fuel suffices for any program.
-/
import Derived.Test.YtiadbeglhnocoaaGreatDoorJb10
namespace Go.Proofs.YtiadbeglhnocoaaGreatDoor
set_option linter.unusedVariables false
set_option linter.unusedSimpArgs false
open Go.RowKit

mutual
/-- An expression that begins with a name. -/
def NmE : Ex → Prop
  | .mk k _ _ _ _ _ kids => k = 3 ∨ k = 8 ∨ (k = 9 ∧ NmEs kids)
def NmEs : List Ex → Prop
  | [] => False
  | e :: _ => NmE e
end
/-- What a statement of this kind has. -/
def shS (k n : Int) (s : ByteArray) (p : Int) (kids : List Ex) (body els : List St) : Prop :=
  (k = 1 ∧ NameOk s.data.toList ∧ p = 0 ∧ kids.length = 1 ∧ body = [] ∧ els = []) ∨ (k = 2 ∧ NameOk s.data.toList ∧ p = 0 ∧ kids.length = 1 ∧ body = [] ∧ els = []) ∨ (k = 3 ∧ s = ⟨#[]⟩ ∧ p = 0 ∧ body = [] ∧ els = [] ∧ ∃ q y, kids = [q, y] ∧ NmE q ∧ exK q = 9) ∨ (k = 4 ∧ s = ⟨#[]⟩ ∧ p = 0 ∧ kids.length = 1) ∨ (k = 5 ∧ s = ⟨#[]⟩ ∧ p = 0 ∧ kids.length = 1 ∧ els = []) ∨ (k = 6 ∧ NameOk s.data.toList ∧ InI p ∧ p ≠ 0 ∧ kids.length = 2 ∧ els = []) ∨ ((k = 7 ∨ k = 8) ∧ s = ⟨#[]⟩ ∧ p = 0 ∧ kids = [] ∧ body = [] ∧ els = []) ∨ (k = 9 ∧ s = ⟨#[]⟩ ∧ p = 0 ∧ (kids = [] ∨ kids.length = 1) ∧ body = [] ∧ els = []) ∨ (k = 10 ∧ s = ⟨#[]⟩ ∧ p = 0 ∧ kids.length = 1 ∧ body = [] ∧ els = []) ∨ (k = 11 ∧ s = ⟨#[]⟩ ∧ p = 0 ∧ body = [] ∧ els = [] ∧ ∃ q, kids = [q] ∧ NmE q ∧ exK q = 8)
mutual
def WFS (D : Int) : St → Prop
  | .mk k _ n s p kids body els => D ≤ 256 ∧ n = 0 ∧ shS k n s p kids body els ∧ WFEs kids ∧ D + dEs kids ≤ 256 ∧ WFSs (D + 1) body ∧ WFSs (D + 1) els
def WFSs (D : Int) : List St → Prop
  | [] => True
  | x :: r => WFS D x ∧ WFSs D r
end
theorem WFSs_app {D : Int} {l m : List St} : WFSs D (l ++ m) ↔ WFSs D l ∧ WFSs D m := by
  induction l with
  | nil => simp [WFSs]
  | cons x r ih => simp [WFSs, ih, and_assoc]
theorem prSs_app (d : Nat) (l m : List St) : prSs d (l ++ m) = prSs d l ++ prSs d m := by
  induction l with
  | nil => simp [prSs]
  | cons x r ih => simp [prSs, ih]
/-- A good list of statements, read in so many bytes. -/
structure BlkR (D : Int) (b0 : Nat) (l : List St) (b2 : Nat) : Prop where
  wf : WFSs (D + 1) l
  len : ∀ d : Nat, (d : Int) ≤ D + 1 → (prSs d l).length + 160 * b2 ≤ 160 * b0
structure StR (D : Int) (b0 : Nat) (x : St) (b2 : Nat) : Prop where
  wf : WFS D x
  len : ∀ d : Nat, (d : Int) ≤ D → (prS d x).length + 160 * b2 ≤ 160 * b0
theorem down_ok {s : PS} (h : s.down.fk = 0) : s.down = { s with deep := s.deep + 1 } ∧ s.fk = 0 ∧ s.deep + 1 ≤ 256 := by
  unfold PS.down at h ⊢
  split at h
  · exact absurd h (fail_fk _ _ _ (by decide))
  · rename_i hn
    rw [if_neg hn]
    exact ⟨rfl, h, by omega⟩
theorem name_ok {s : PS} (hw : TkS s) (h : s.nameP.fk = 0) : s.nameP = s.next ∧ s.now.kind = 1 ∧ NameOk s.now.bytes ∧ s.fk = 0 := by
  unfold PS.nameP at h ⊢
  split at h
  · rename_i hk
    rw [if_pos hk]
    rw [next_fk] at h
    exact ⟨rfl, hk, hw.now.name hk, h⟩
  · exact absurd h (refuse_fk _ _)
theorem strB_list (l : List UInt8) : (strB l).data.toList = l := by simp [strB]
theorem nameOk_str {l : List UInt8} (h : NameOk l) : NameOk (strB l).data.toList := by rw [strB_list]; exact h
theorem nameOk_len {l : List UInt8} (h : NameOk l) : 1 ≤ l.length := by obtain ⟨c, r, rfl, _⟩ := h; simp
theorem wrap_in (n : Int) : InI (wrap64 n) := by unfold wrap64 InI; first | (simp only [IntKind.wrap]; omega) | omega | skip
theorem wrap_nz (n : Int) (h : InI n) (h0 : n ≠ 0) : wrap64 (-n) ≠ 0 := by unfold wrap64 InI at *; first | (simp only [IntKind.wrap]; omega) | omega | skip
theorem take_fk (s : PS) (x : List UInt8) : (s.takeP x).fk = s.fk := by unfold PS.takeP; split; exact next_fk s; rfl
/-- A loop's step. -/
theorem step_ok {s : PS} (hw : TkS s) (h : (stepP s).2.fk = 0) : s.fk = 0 ∧ InI (stepP s).1 ∧ (stepP s).1 ≠ 0 := by
  unfold stepP at h ⊢
  split at h
  · rename_i hb
    rw [if_pos hb]
    dsimp only at h ⊢
    have hw2 : TkS (s.next.takeP ([45] : List UInt8)) := hw.sub ((sub_next s).trans (sub_take _ _))
    split at h
    · exact absurd h (refuse_fk _ _)
    · rename_i hc
      rw [next_fk, take_fk, next_fk] at h
      have h2 : (s.next.takeP ([45] : List UInt8)).now.kind = 2 ∧ (s.next.takeP ([45] : List UInt8)).now.num ≠ 0 := by
        refine ⟨?_, fun e => hc (Or.inr e)⟩
        refine Classical.byContradiction fun e => hc (Or.inl e)
      have h3 := hw2.now.num h2.1
      refine ⟨h, ?_⟩
      split
      · exact ⟨wrap_in _, wrap_nz _ h3 h2.2⟩
      · exact ⟨h3, h2.2⟩
  · rename_i hb
    rw [if_neg hb]
    exact ⟨h, show InI 1 by unfold InI; decide, show (1 : Int) ≠ 0 by decide⟩
theorem sub_step (s : PS) : Sub s (stepP s).2 := (es_step s).2
theorem step_deep (s : PS) : (stepP s).2.deep = s.deep := (es_step s).1.2
theorem stepB_len (n : Int) : (stepB n).length ≤ 27 := by
  unfold stepB
  have h1 := dig_len n
  have h2 := dig_len (wrap64 (-n))
  split
  · simp
  · split <;> simp <;> omega
theorem lnP_size (d : Nat) (ws : List (List UInt8)) : (lnP d ws).length = d + ws.flatten.length + 1 := by simp [lnP]; omega
structure OutS (k : Nat) : Prop where
  block : ∀ s r, TkS s → blockK k s = some r → Sub s r.2 ∧ (r.2.fk = 0 → s.fk = 0 ∧ 1 ≤ s.b - r.2.b ∧ BlkR s.deep s.b r.1 (r.2.b + 2))
  stmts : ∀ l s r, TkS s → stmtsFK k l s = some r → Sub s r.2 ∧ (r.2.fk = 0 → s.fk = 0 ∧ ∃ m, r.1 = l ++ m ∧ BlkR s.deep s.b m r.2.b)
  stmt : ∀ s r, TkS s → stmtK k s = some r → Sub s r.2 ∧ (r.2.fk = 0 → s.fk = 0 ∧ StR (s.deep + 1) s.b r.1 r.2.b)
  choice : ∀ a s r, TkS s → s.deep ≤ 256 → choiceK k a s = some r → Sub s r.2 ∧ (r.2.fk = 0 → s.fk = 0 ∧ StR s.deep s.b r.1 r.2.b)
  els : ∀ s r, TkS s → elseK k s = some r → Sub s r.2 ∧ (r.2.fk = 0 → s.fk = 0 ∧ BlkR s.deep s.b r.1 r.2.b)
  whil : ∀ a s r, TkS s → s.deep ≤ 256 → whileK k a s = some r → Sub s r.2 ∧ (r.2.fk = 0 → s.fk = 0 ∧ StR s.deep s.b r.1 r.2.b)
  count : ∀ a s r, TkS s → s.deep ≤ 256 → countK k a s = some r → Sub s r.2 ∧ (r.2.fk = 0 → s.fk = 0 ∧ StR s.deep s.b r.1 r.2.b)
  simple : ∀ a s r, TkS s → s.deep ≤ 256 → simpleK k a s = some r → Sub s r.2 ∧ (r.2.fk = 0 → s.fk = 0 ∧ StR s.deep (s.b + 1) r.1 r.2.b)
  named : ∀ a t s r, t.kind = 1 → TkOk t → TkS s → s.deep ≤ 256 → namedK k a t s = some r → Sub s r.2 ∧ (r.2.fk = 0 → s.fk = 0 ∧ StR s.deep (s.b + t.bytes.length + 1) r.1 r.2.b)
theorem outS_zero : OutS 0 where
  block := fun s r _ h => by simp [blockK] at h
  stmts := fun _ s r _ h => by simp [stmtsFK] at h
  stmt := fun s r _ h => by simp [stmtK] at h
  choice := fun _ s r _ _ h => by simp [choiceK] at h
  els := fun s r _ h => by simp [elseK] at h
  whil := fun _ s r _ _ h => by simp [whileK] at h
  count := fun _ s r _ _ h => by simp [countK] at h
  simple := fun _ s r _ _ h => by simp [simpleK] at h
  named := fun _ _ s r _ _ _ _ h => by simp [namedK] at h
theorem dEs_nn (l : List Ex) : 0 ≤ dEs l := by
  induction l with
  | nil => exact Int.le_refl _
  | cons x r ih => simp only [dEs]; omega
/-- One expression, as a statement has it. -/
theorem one_e {D : Int} {b0 : Nat} {x : Part} {s2 : PS} (h : ResE D b0 x s2) : WFEs [x.1] ∧ D + dEs [x.1] ≤ 256 ∧ (prE x.1).length + 2 + 25 * s2.b ≤ 25 * b0 := by
  refine ⟨by simp only [WFEs, and_true]; exact h.gp.wf, ?_, h.len⟩
  have h1 := h.gp.deep
  rw [h.gp.d] at h1
  have h2 : D ≤ 256 ∨ 256 < D := by omega
  simp only [dEs]
  have h3 : 1 ≤ dE x.1 := by
    cases hx : x.1 with
    | mk k a t o n s kids =>
      rw [dE]
      have := dEs_nn kids
      omega
  omega
theorem two_e {D : Int} {b0 b1 : Nat} {x y : Part} {s2 s3 : PS} (h : ResE D b0 x s2) (k : ResE D b1 y s3) : WFEs [x.1, y.1] ∧ D + dEs [x.1, y.1] ≤ 256 := by
  obtain ⟨h1, h2, h3⟩ := one_e h
  obtain ⟨k1, k2, k3⟩ := one_e k
  refine ⟨by simp only [WFEs, and_true] at h1 k1 ⊢; exact ⟨h1, k1⟩, ?_⟩
  simp only [dEs] at h2 k2 ⊢
  omega
theorem kid0 (x : Ex) (r : List Ex) : kidP (x :: r) 0 = prE x := rfl
theorem kid1 (x y : Ex) (r : List Ex) : kidP (x :: y :: r) 1 = prE y := rfl
theorem called_nm {k : Nat} {t : Tk} {s : PS} {r : Part × PS} (h : calledK k t s = some r) : NmE r.1.1 ∧ (exK r.1.1 = 3 ∨ exK r.1.1 = 8) := by
  cases k with
  | zero => simp [calledK] at h
  | succ k =>
    simp only [calledK] at h
    split at h
    · cases ha : partsK k ([40] : List UInt8) ([41] : List UInt8) s with
      | none => rw [ha] at h; cases h
      | some q =>
        rw [ha] at h
        obtain rfl := Option.some.inj h
        unfold wholeP
        simp only [NmE, exK]
        exact ⟨by simp, by simp⟩
    · obtain rfl := Option.some.inj h
      unfold wholeP
      simp only [NmE, exK]
      exact ⟨by simp, by simp⟩
theorem counted_ex (lo hi : Nat) (s : PS) (k a o n : Int) (x : ByteArray) (l : List Part) : (countedP lo hi s k a o n x l).1.1 = .mk k a 0 o n x (l.map Prod.fst) := by unfold countedP wholeP; rfl
theorem index_nm : ∀ (k : Nat) (f : Part) (s : PS) (r : Part × PS), indexK k f s = some r → NmE f.1 → NmE r.1.1 ∧ (exK r.1.1 = exK f.1 ∨ exK r.1.1 = 9) ∧ (s.isB ([91] : List UInt8) = true → exK r.1.1 = 9)
  | 0, f, s, r, h, _ => by simp [indexK] at h
  | k + 1, f, s, r, h, hf => by
    simp only [indexK] at h
    split at h
    · cases ha : partsK k ([91] : List UInt8) ([93] : List UInt8) s with
      | none => rw [ha] at h; cases h
      | some q =>
        rw [ha] at h
        obtain ⟨l, s1⟩ := q
        simp only at h
        have e := counted_ex 2 3 s1 9 s.now.at_ 0 0 ⟨#[]⟩ (f :: l)
        have hn : NmE (countedP 2 3 s1 9 s.now.at_ 0 0 ⟨#[]⟩ (f :: l)).1.1 := by
          rw [e]
          simp only [NmE, List.map_cons, NmEs]
          simp [hf]
        obtain ⟨h1, h2, h3⟩ := index_nm k _ _ r h hn
        have h9 : exK r.1.1 = 9 := by
          rcases h2 with h2 | h2
          · rw [h2, e]; rfl
          · exact h2
        exact ⟨h1, Or.inr h9, fun _ => h9⟩
    · rename_i hb
      obtain rfl := Option.some.inj h
      exact ⟨hf, Or.inl rfl, fun e => absurd e hb⟩
end Go.Proofs.YtiadbeglhnocoaaGreatDoor
namespace Go.Proofs.YtiadbeglhnocoaaGreatDoor
set_option linter.unusedVariables false
set_option linter.unusedSimpArgs false
open Go.RowKit

theorem sub_expr {k : Nat} {s : PS} {r : Part × PS} (hw : TkS s) (h : exprK k s = some r) : Sub s r.2 ∧ r.2.deep = s.deep ∧ (r.2.fk = 0 → s.fk = 0 ∧ ResE s.deep s.b r.1 r.2) := (out_all k).expr s r hw h
/-- A word that must stand there, of one byte at least. -/
theorem need_b {s : PS} (hw : TkS s) {x : List UInt8} (h : (s.need1 x).fk = 0) : s.fk = 0 ∧ (s.need1 x).b + x.length = s.b := by
  obtain ⟨h1, h2, h3⟩ := need1_ok h
  have h4 := next_b hw
  rw [h1]
  rw [h2] at h4
  exact ⟨h3, h4⟩
theorem isB_n {s : PS} (hw : TkS s) {x : List UInt8} (h : s.isB x = true) : s.next.b + x.length = s.b := by
  have h4 := next_b hw
  rw [isB_b h] at h4
  exact h4
theorem outS_succ (k : Nat) (ih : OutS k) : OutS (k + 1) where
  block := fun s r hw h => by
    simp only [blockK] at h
    have hs1 : Sub s (s.need1 ([123] : List UInt8)).enter := (sub_need1 s _).trans (sub_enter _)
    cases ha : stmtsFK k [] (s.need1 ([123] : List UInt8)).enter with
    | none => rw [ha] at h; cases h
    | some q =>
      rw [ha] at h
      obtain ⟨l, s2⟩ := q
      obtain ⟨h1, h2⟩ := ih.stmts _ _ _ (hw.sub hs1) ha
      simp only at h h1 h2
      obtain rfl := Option.some.inj h
      refine ⟨((hs1.trans h1).trans (sub_need1 _ _)).trans (sub_leave _), fun h0 => ?_⟩
      have h0' : (s2.need1 ([125] : List UInt8)).fk = 0 := h0
      have e4 := need_b (hw.sub (hs1.trans h1)) h0'
      obtain ⟨h3, m, h4, h5⟩ := h2 e4.1
      have e5 := enter_ok h3
      have e6 := need_b hw e5.2
      have e7 := (enter_b h3).1
      rw [enter_deep, need1_deep] at h5
      rw [List.nil_append] at h4
      have e8 : s2.b ≤ (s.need1 ([123] : List UInt8)).enter.b := h1.b
      have e9 : (s2.need1 ([125] : List UInt8)).leave.b = (s2.need1 ([125] : List UInt8)).b := rfl
      simp only [List.length_cons, List.length_nil] at e4 e6
      refine ⟨e6.1, by rw [e9]; omega, ⟨by rw [h4]; exact h5.wf, fun d hd => ?_⟩⟩
      have := h5.len d hd
      show (prSs d l).length + 160 * ((s2.need1 ([125] : List UInt8)).b + 2) ≤ 160 * s.b
      rw [h4]
      omega
  stmts := fun l s r hw h => by
    simp only [stmtsFK] at h
    split at h
    · obtain rfl := Option.some.inj h
      exact ⟨Sub.refl s, fun h0 => ⟨h0, [], by simp, ⟨by simp [WFSs], fun d _ => by simp [prSs]⟩⟩⟩
    · cases ha : stmtK k s with
      | none => rw [ha] at h; cases h
      | some q =>
        rw [ha] at h
        obtain ⟨x, s1⟩ := q
        obtain ⟨h1, h2⟩ := ih.stmt _ _ hw ha
        simp only at h h1 h2
        obtain ⟨h3, h4⟩ := ih.stmts _ s1 r (hw.sub h1) h
        refine ⟨h1.trans h3, fun h0 => ?_⟩
        obtain ⟨h5, m, h6, h7⟩ := h4 h0
        obtain ⟨h8, h9⟩ := h2 h5
        have hd := ((pureS_all k).stmt _ _ ha).2
        simp only at hd
        rw [hd] at h7
        refine ⟨h8, x :: m, by rw [h6]; simp, ⟨by simp only [WFSs]; exact ⟨h9.wf, h7.wf⟩, fun d hd2 => ?_⟩⟩
        have e1 := h9.len d hd2
        have e2 := h7.len d hd2
        simp only [prSs, List.length_append]
        omega
  stmt := fun s r hw h => by
    rw [stmtK_succ] at h
    have hwd := hw.sub (sub_down s)
    -- what lies within
    have fin : ∀ (x : St) (s3 : PS), Sub s.down s3 → (s3.fk = 0 → s.down.fk = 0 ∧ (s.down.fk = 0 → StR (s.deep + 1) s.b x s3.b)) → some (x, s3.up) = some r → Sub s r.2 ∧ (r.2.fk = 0 → s.fk = 0 ∧ StR (s.deep + 1) s.b r.1 r.2.b) := fun x s3 h1 h2 h3 => by
      obtain rfl := Option.some.inj h3
      refine ⟨((sub_down s).trans h1).trans (sub_up _), fun h0 => ?_⟩
      have h0' : s3.fk = 0 := h0
      obtain ⟨h4, h5⟩ := h2 h0'
      exact ⟨(down_ok h4).2.1, h5 h4⟩
    have dn : s.down.fk = 0 → s.down.deep = s.deep + 1 ∧ s.down.b = s.b ∧ s.down.deep ≤ 256 := fun h0 => by
      obtain ⟨e1, e2, e3⟩ := down_ok h0
      rw [e1]
      exact ⟨rfl, rfl, e3⟩
    by_cases hdp : s.deep + 1 ≤ 256
    · have hdd : s.down.deep ≤ 256 := by rw [(down_deep s).2]; exact hdp
      by_cases c1 : s.down.isB ([105, 102] : List UInt8) = true
      · rw [if_pos c1] at h
        cases ha : choiceK k s.now.at_ s.down with
        | none => rw [ha] at h; cases h
        | some q =>
          rw [ha] at h
          obtain ⟨x, s3⟩ := q
          obtain ⟨h1, h2⟩ := ih.choice _ _ _ hwd hdd ha
          refine fin x s3 h1 (fun h0 => ?_) h
          obtain ⟨h3, h4⟩ := h2 h0
          obtain ⟨d1, d2, _⟩ := dn h3
          rw [d1, d2] at h4
          exact ⟨h3, fun _ => h4⟩
      · rw [if_neg c1] at h
        by_cases c2 : s.down.isB ([119, 104, 105, 108, 101] : List UInt8) = true
        · rw [if_pos c2] at h
          cases ha : whileK k s.now.at_ s.down with
          | none => rw [ha] at h; cases h
          | some q =>
            rw [ha] at h
            obtain ⟨x, s3⟩ := q
            obtain ⟨h1, h2⟩ := ih.whil _ _ _ hwd hdd ha
            refine fin x s3 h1 (fun h0 => ?_) h
            obtain ⟨h3, h4⟩ := h2 h0
            obtain ⟨d1, d2, _⟩ := dn h3
            rw [d1, d2] at h4
            exact ⟨h3, fun _ => h4⟩
        · rw [if_neg c2] at h
          by_cases c3 : s.down.isB ([102, 111, 114] : List UInt8) = true
          · rw [if_pos c3] at h
            cases ha : countK k s.now.at_ s.down with
            | none => rw [ha] at h; cases h
            | some q =>
              rw [ha] at h
              obtain ⟨x, s3⟩ := q
              obtain ⟨h1, h2⟩ := ih.count _ _ _ hwd hdd ha
              refine fin x s3 h1 (fun h0 => ?_) h
              obtain ⟨h3, h4⟩ := h2 h0
              obtain ⟨d1, d2, _⟩ := dn h3
              rw [d1, d2] at h4
              exact ⟨h3, fun _ => h4⟩
          · rw [if_neg c3] at h
            cases ha : simpleK k s.now.at_ s.down with
            | none => rw [ha] at h; cases h
            | some q =>
              rw [ha] at h
              obtain ⟨x, s3⟩ := q
              obtain ⟨h1, h2⟩ := ih.simple _ _ _ hwd hdd ha
              simp only at h h1 h2
              refine fin x (s3.need1 ([59] : List UInt8)) (h1.trans (sub_need1 _ _)) (fun h0 => ?_) h
              obtain ⟨e1, e2⟩ := need_b (hwd.sub h1) h0
              obtain ⟨h3, h4⟩ := h2 e1
              obtain ⟨d1, d2, _⟩ := dn h3
              rw [d1, d2] at h4
              simp only [List.length_cons, List.length_nil] at e2
              refine ⟨h3, fun _ => ⟨h4.wf, fun d hd => ?_⟩⟩
              have := h4.len d hd
              omega
    · -- too deep
      have hbad : s.down.fk ≠ 0 := fun e => hdp (down_ok e).2.2
      have hleft : s.down.left = [] := by unfold PS.down; rw [if_pos (by omega)]; rfl
      have hnow : s.down.now = Tk.none := by unfold PS.now; rw [hleft]
      have hisB : ∀ x : List UInt8, x ≠ [] → s.down.isB x = false := fun x hx => by
        unfold PS.isB
        rw [hnow]
        cases x with
        | nil => exact absurd rfl hx
        | cons a r => rfl
      rw [hisB _ (by decide), hisB _ (by decide), hisB _ (by decide)] at h
      simp only [Bool.false_eq_true, if_false] at h
      cases k with
      | zero => simp [simpleK] at h
      | succ k =>
        simp only [simpleK, hnow] at h
        rw [if_neg (by decide), if_neg (by decide), if_neg (by decide), if_neg (by decide), if_neg (by decide), if_neg (by decide)] at h
        refine fin _ _ (((sub_next _).trans (sub_refuse _ _)).trans (sub_need1 _ _)) (fun h0 => ?_) h
        exact absurd (need1_ok h0).2.2 (refuse_fk _ _)
  choice := fun a s r hw hdd h => by
    simp only [choiceK] at h
    cases ha : exprK k (s.need1 ([105, 102] : List UInt8)) with
    | none => rw [ha] at h; cases h
    | some q =>
      rw [ha] at h
      obtain ⟨x, s2⟩ := q
      obtain ⟨h1, h2, h3⟩ := sub_expr (hw.sub (sub_need1 s _)) ha
      simp only at h h1 h2 h3
      rw [need1_deep] at h2 h3
      have hs2 : Sub s s2 := (sub_need1 s _).trans h1
      cases hb : blockK k s2 with
      | none => rw [hb] at h; cases h
      | some q =>
        rw [hb] at h
        obtain ⟨b, s3⟩ := q
        obtain ⟨h4, h5⟩ := ih.block _ _ (hw.sub hs2) hb
        simp only at h h4 h5
        have hs3 := hs2.trans h4
        have hd3 : s3.deep = s.deep := by rw [((pureS_all k).block _ _ hb).2, h2]
        have com : s3.fk = 0 → s.fk = 0 ∧ WFEs [x.1] ∧ s.deep + dEs [x.1] ≤ 256 ∧ WFSs (s.deep + 1) b ∧ ∀ d : Nat, (d : Int) ≤ s.deep → (lnP d [[105, 102, 32], prE x.1, [32, 123]]).length + (prSs (d + 1) b).length + (lnP d [[125]]).length + 160 * s3.b ≤ 160 * s.b := fun h0 => by
          obtain ⟨h6, h7, h8⟩ := h5 h0
          obtain ⟨h9, h10⟩ := h3 h6
          obtain ⟨e1, e2⟩ := need_b hw h9
          obtain ⟨o1, o2, o3⟩ := one_e h10
          rw [h2] at h8
          refine ⟨e1, o1, o2, h8.wf, fun d hd => ?_⟩
          have e3 := h8.len (d + 1) (by omega)
          have e4 := h4.b
          simp only [List.length_cons, List.length_nil] at e2
          simp only [lnP_size, List.flatten_cons, List.flatten_nil, List.length_append, List.length_cons, List.length_nil]
          omega
        split at h
        · rename_i hel
          cases hc : elseK k s3.next with
          | none => rw [hc] at h; cases h
          | some q =>
            rw [hc] at h
            obtain ⟨e, s4⟩ := q
            obtain ⟨h6, h7⟩ := ih.els _ _ (hw.sub (hs3.trans (sub_next _))) hc
            simp only at h h6 h7
            obtain rfl := Option.some.inj h
            refine ⟨(hs3.trans (sub_next _)).trans h6, fun h0 => ?_⟩
            obtain ⟨h8, h9⟩ := h7 h0
            rw [next_fk] at h8
            rw [next_deep, hd3] at h9
            obtain ⟨c1, c2, c3, c4, c5⟩ := com h8
            have hnb := isB_n (hw.sub hs3) hel
            simp only [List.length_cons, List.length_nil] at hnb
            refine ⟨c1, ⟨?_, fun d hd => ?_⟩⟩
            · simp only [WFS]
              exact ⟨hdd, trivial, by unfold shS; simp, c2, c3, c4, h9.wf⟩
            · have e1 := c5 d hd
              have e2 := h9.len (d + 1) (by omega)
              have e3 := h6.b
              simp only [prS, kid0]
              have e4 : (if e.isEmpty = true then ([] : List UInt8) else lnP d [[125, 32, 101, 108, 115, 101, 32, 123]] ++ prSs (d + 1) e).length ≤ d + 9 + (prSs (d + 1) e).length := by
                split
                · simp
                · simp [lnP]; omega
              simp at e1 ⊢
              simp at e4
              omega
        · obtain rfl := Option.some.inj h
          refine ⟨hs3, fun h0 => ?_⟩
          obtain ⟨c1, c2, c3, c4, c5⟩ := com h0
          refine ⟨c1, ⟨?_, fun d hd => ?_⟩⟩
          · simp only [WFS]
            exact ⟨hdd, trivial, by unfold shS; simp, c2, c3, c4, trivial⟩
          · have e1 := c5 d hd
            simp only [prS, kid0]
            simp at e1 ⊢
            omega
  els := fun s r hw h => by
    simp only [elseK] at h
    split at h
    · cases ha : stmtK k s.enter with
      | none => rw [ha] at h; cases h
      | some q =>
        rw [ha] at h
        obtain ⟨x, s2⟩ := q
        obtain ⟨h1, h2⟩ := ih.stmt _ _ (hw.sub (sub_enter s)) ha
        simp only at h h1 h2
        obtain rfl := Option.some.inj h
        refine ⟨((sub_enter s).trans h1).trans (sub_leave _), fun h0 => ?_⟩
        obtain ⟨h3, h4⟩ := h2 h0
        rw [enter_deep, (enter_b h3).1] at h4
        refine ⟨(enter_ok h3).2, ⟨by simp only [WFSs, and_true]; exact h4.wf, fun d hd => ?_⟩⟩
        have := h4.len d hd
        simp only [prSs, List.append_nil]
        exact this
    · obtain ⟨h1, h2⟩ := ih.block s r hw h
      refine ⟨h1, fun h0 => ?_⟩
      obtain ⟨h3, h4, h5⟩ := h2 h0
      refine ⟨h3, ⟨h5.wf, fun d hd => ?_⟩⟩
      have := h5.len d hd
      omega
  whil := fun a s r hw hdd h => by
    simp only [whileK] at h
    cases ha : exprK k (s.need1 ([119, 104, 105, 108, 101] : List UInt8)) with
    | none => rw [ha] at h; cases h
    | some q =>
      rw [ha] at h
      obtain ⟨x, s2⟩ := q
      obtain ⟨h1, h2, h3⟩ := sub_expr (hw.sub (sub_need1 s _)) ha
      simp only at h h1 h2 h3
      rw [need1_deep] at h2 h3
      have hs2 : Sub s s2 := (sub_need1 s _).trans h1
      cases hb : blockK k s2 with
      | none => rw [hb] at h; cases h
      | some q =>
        rw [hb] at h
        obtain ⟨b, s3⟩ := q
        obtain ⟨h4, h5⟩ := ih.block _ _ (hw.sub hs2) hb
        simp only at h h4 h5
        obtain rfl := Option.some.inj h
        refine ⟨hs2.trans h4, fun h0 => ?_⟩
        obtain ⟨h6, h7, h8⟩ := h5 h0
        obtain ⟨h9, h10⟩ := h3 h6
        obtain ⟨e1, e2⟩ := need_b hw h9
        obtain ⟨o1, o2, o3⟩ := one_e h10
        rw [h2] at h8
        refine ⟨e1, ⟨?_, fun d hd => ?_⟩⟩
        · simp only [WFS]
          exact ⟨hdd, trivial, by unfold shS; simp, o1, o2, h8.wf, trivial⟩
        · have e3 := h8.len (d + 1) (by omega)
          have e4 := h4.b
          simp only [List.length_cons, List.length_nil] at e2
          simp only [prS, kid0]
          simp [lnP]
          omega
  count := fun a s r hw hdd h => by
    simp only [countK] at h
    cases ha : exprK k ((s.need1 ([102, 111, 114] : List UInt8)).nameP.need1 ([61] : List UInt8)) with
    | none => rw [ha] at h; cases h
    | some q =>
      rw [ha] at h
      obtain ⟨x, s2⟩ := q
      have hs1 : Sub s ((s.need1 ([102, 111, 114] : List UInt8)).nameP.need1 ([61] : List UInt8)) := ((sub_need1 s _).trans (sub_name _)).trans (sub_need1 _ _)
      have hd1 : ((s.need1 ([102, 111, 114] : List UInt8)).nameP.need1 ([61] : List UInt8)).deep = s.deep := by rw [need1_deep, (even_name _).2, need1_deep]
      obtain ⟨h1, h2, h3⟩ := sub_expr (hw.sub hs1) ha
      simp only at h h1 h2 h3
      rw [hd1] at h2 h3
      have hs2 := hs1.trans h1
      cases hb : exprK k (s2.need1 ([116, 111] : List UInt8)) with
      | none => rw [hb] at h; cases h
      | some q =>
        rw [hb] at h
        obtain ⟨y, s3⟩ := q
        obtain ⟨h4, h5, h6⟩ := sub_expr (hw.sub (hs2.trans (sub_need1 _ _))) hb
        simp only at h h4 h5 h6
        rw [need1_deep, h2] at h5 h6
        have hs3 := (hs2.trans (sub_need1 s2 ([116, 111] : List UInt8))).trans h4
        cases hc : blockK k (stepP s3).2 with
        | none => rw [hc] at h; cases h
        | some q =>
          rw [hc] at h
          obtain ⟨b, s4⟩ := q
          obtain ⟨h7, h8⟩ := ih.block _ _ (hw.sub (hs3.trans (sub_step s3))) hc
          simp only at h h7 h8
          obtain rfl := Option.some.inj h
          refine ⟨(hs3.trans (sub_step s3)).trans h7, fun h0 => ?_⟩
          obtain ⟨h9, h10, h11⟩ := h8 h0
          obtain ⟨t1, t2, t3⟩ := step_ok (hw.sub hs3) h9
          obtain ⟨h12, h13⟩ := h6 t1
          obtain ⟨e1, e2⟩ := need_b (hw.sub hs2) h12
          obtain ⟨h14, h15⟩ := h3 e1
          have hw1 := hw.sub (sub_need1 s ([102, 111, 114] : List UInt8))
          obtain ⟨e3, e4⟩ := need_b (hw1.sub (sub_name _)) h14
          obtain ⟨n1, n2, n3, n4⟩ := name_ok hw1 e3
          obtain ⟨e5, e6⟩ := need_b hw n4
          have e7 := next_b hw1
          obtain ⟨o1, o2⟩ := two_e h15 h13
          have l1 := h15.len
          have l2 := h13.len
          have l3 := (sub_step s3).b
          have l4 := h7.b
          have l5 := nameOk_len n3
          rw [step_deep, h5] at h11
          rw [n1] at e4 l1
          refine ⟨e5, ⟨?_, fun d hd => ?_⟩⟩
          · simp only [WFS]
            exact ⟨hdd, trivial, by unfold shS; simp; exact ⟨nameOk_str n3, t2, t3⟩, o1, o2, h11.wf, trivial⟩
          · have e8 := h11.len (d + 1) (by omega)
            have e9 := stepB_len (stepP s3).1
            simp only [List.length_cons, List.length_nil] at e2 e4 e6
            simp only [prS, kid0, kid1, strB_list]
            simp [lnP]
            omega
  simple := fun a s r hw hdd h => by
    simp only [simpleK] at h
    have hnb := next_b hw
    have hwn := hw.sub (sub_next s)
    split at h
    · rename_i hk
      obtain ⟨h1, h2⟩ := ih.named a s.now s.next r hk hw.now hwn (by rw [next_deep]; exact hdd) h
      refine ⟨(sub_next s).trans h1, fun h0 => ?_⟩
      obtain ⟨h3, h4⟩ := h2 h0
      rw [next_fk] at h3
      rw [next_deep, hnb] at h4
      exact ⟨h3, h4⟩
    · split at h
      · rename_i hb
        have hbb := eq_of_beq hb
        cases ha : exprK k (s.next.nameP.need1 ([61] : List UInt8)) with
        | none => rw [ha] at h; cases h
        | some q =>
          rw [ha] at h
          obtain ⟨x, s2⟩ := q
          have hs1 : Sub s (s.next.nameP.need1 ([61] : List UInt8)) := ((sub_next s).trans (sub_name _)).trans (sub_need1 _ _)
          have hd1 : (s.next.nameP.need1 ([61] : List UInt8)).deep = s.deep := by rw [need1_deep, (even_name _).2, next_deep]
          obtain ⟨h1, h2, h3⟩ := sub_expr (hw.sub hs1) ha
          simp only at h h1 h2 h3
          rw [hd1] at h2 h3
          obtain rfl := Option.some.inj h
          refine ⟨hs1.trans h1, fun h0 => ?_⟩
          obtain ⟨h9, h10⟩ := h3 h0
          obtain ⟨e3, e4⟩ := need_b (hwn.sub (sub_name _)) h9
          obtain ⟨n1, n2, n3, n4⟩ := name_ok hwn e3
          have e7 := next_b hwn
          rw [next_fk] at n4
          obtain ⟨o1, o2, o3⟩ := one_e h10
          have l5 := nameOk_len n3
          rw [n1] at e4 o3
          rw [hbb] at hnb
          refine ⟨n4, ⟨?_, fun d hd => ?_⟩⟩
          · simp only [WFS]
            exact ⟨hdd, trivial, by unfold shS; simp; exact nameOk_str n3, o1, o2, trivial, trivial⟩
          · simp only [List.length_cons, List.length_nil] at e4 hnb
            simp only [prS, kid0, strB_list]
            simp [lnP]
            omega
      · split at h
        · rename_i hb
          have hbb := eq_of_beq hb
          obtain rfl := Option.some.inj h
          refine ⟨sub_next s, fun h0 => ?_⟩
          rw [next_fk] at h0
          rw [hbb] at hnb
          refine ⟨h0, ⟨?_, fun d hd => ?_⟩⟩
          · simp only [WFS]
            exact ⟨hdd, trivial, by unfold shS; simp, trivial, by simp only [dEs]; omega, trivial, trivial⟩
          · simp only [List.length_cons, List.length_nil] at hnb
            simp only [prS]
            simp [lnP]
            omega
        · split at h
          · rename_i hb
            have hbb := eq_of_beq hb
            obtain rfl := Option.some.inj h
            refine ⟨sub_next s, fun h0 => ?_⟩
            rw [next_fk] at h0
            rw [hbb] at hnb
            refine ⟨h0, ⟨?_, fun d hd => ?_⟩⟩
            · simp only [WFS]
              exact ⟨hdd, trivial, by unfold shS; simp, trivial, by simp only [dEs]; omega, trivial, trivial⟩
            · simp only [List.length_cons, List.length_nil] at hnb
              simp only [prS]
              simp [lnP]
              omega
          · split at h
            · rename_i hb
              have hbb := eq_of_beq hb
              rw [hbb] at hnb
              simp only [List.length_cons, List.length_nil] at hnb
              split at h
              · obtain rfl := Option.some.inj h
                refine ⟨sub_next s, fun h0 => ?_⟩
                rw [next_fk] at h0
                refine ⟨h0, ⟨?_, fun d hd => ?_⟩⟩
                · simp only [WFS]
                  exact ⟨hdd, trivial, by unfold shS; simp, trivial, by simp only [dEs]; omega, trivial, trivial⟩
                · simp only [prS]
                  simp [lnP]
                  omega
              · cases ha : exprK k s.next with
                | none => rw [ha] at h; cases h
                | some q =>
                  rw [ha] at h
                  obtain ⟨x, s2⟩ := q
                  obtain ⟨h1, h2, h3⟩ := sub_expr hwn ha
                  simp only at h h1 h2 h3
                  rw [next_deep] at h2 h3
                  obtain rfl := Option.some.inj h
                  refine ⟨(sub_next s).trans h1, fun h0 => ?_⟩
                  obtain ⟨h9, h10⟩ := h3 h0
                  rw [next_fk] at h9
                  obtain ⟨o1, o2, o3⟩ := one_e h10
                  refine ⟨h9, ⟨?_, fun d hd => ?_⟩⟩
                  · simp only [WFS]
                    exact ⟨hdd, trivial, by unfold shS; simp, o1, o2, trivial, trivial⟩
                  · simp only [prS, kid0]
                    simp [lnP]
                    omega
            · split at h
              · rename_i hb
                have hbb := eq_of_beq hb
                rw [hbb] at hnb
                simp only [List.length_cons, List.length_nil] at hnb
                cases ha : exprK k s.next with
                | none => rw [ha] at h; cases h
                | some q =>
                  rw [ha] at h
                  obtain ⟨x, s2⟩ := q
                  obtain ⟨h1, h2, h3⟩ := sub_expr hwn ha
                  simp only at h h1 h2 h3
                  rw [next_deep] at h2 h3
                  obtain rfl := Option.some.inj h
                  refine ⟨(sub_next s).trans h1, fun h0 => ?_⟩
                  obtain ⟨h9, h10⟩ := h3 h0
                  rw [next_fk] at h9
                  obtain ⟨o1, o2, o3⟩ := one_e h10
                  refine ⟨h9, ⟨?_, fun d hd => ?_⟩⟩
                  · simp only [WFS]
                    exact ⟨hdd, trivial, by unfold shS; simp, o1, o2, trivial, trivial⟩
                  · simp only [prS, kid0]
                    simp [lnP]
                    omega
              · obtain rfl := Option.some.inj h
                exact ⟨(sub_next s).trans (sub_refuse _ _), fun h0 => absurd h0 (refuse_fk _ _)⟩
  named := fun a t s r ht hto hw hdd h => by
    simp only [namedK] at h
    have hname := hto.name ht
    have hl := nameOk_len hname
    split at h
    · rename_i hb
      have hnb := isB_n hw hb
      simp only [List.length_cons, List.length_nil] at hnb
      cases ha : exprK k s.next with
      | none => rw [ha] at h; cases h
      | some q =>
        rw [ha] at h
        obtain ⟨x, s2⟩ := q
        obtain ⟨h1, h2, h3⟩ := sub_expr (hw.sub (sub_next s)) ha
        simp only at h h1 h2 h3
        rw [next_deep] at h2 h3
        obtain rfl := Option.some.inj h
        refine ⟨(sub_next s).trans h1, fun h0 => ?_⟩
        obtain ⟨h9, h10⟩ := h3 h0
        rw [next_fk] at h9
        obtain ⟨o1, o2, o3⟩ := one_e h10
        refine ⟨h9, ⟨?_, fun d hd => ?_⟩⟩
        · simp only [WFS]
          exact ⟨hdd, trivial, by unfold shS; simp; exact nameOk_str hname, o1, o2, trivial, trivial⟩
        · simp only [prS, kid0, strB_list]
          simp [lnP]
          omega
    · split at h
      · rename_i hb
        cases ha : calledK k t s with
        | none => rw [ha] at h; cases h
        | some q =>
          rw [ha] at h
          obtain ⟨p, s1⟩ := q
          obtain ⟨h1, h2, h3⟩ := (out_all k).called t s _ ht hto hw ha
          have hn1 := called_nm ha
          simp only at h h1 h2 h3 hn1
          cases hc : indexK k p s1 with
          | none => rw [hc] at h; cases h
          | some q =>
            rw [hc] at h
            obtain ⟨q, s2⟩ := q
            obtain ⟨h4, h5, h6⟩ := (out_all k).index p s1 _ (hw.sub h1) hc
            have hn2 := index_nm k p s1 _ hc hn1.1
            simp only at h h4 h5 h6 hn2
            have hs2 := h1.trans h4
            have hq : s2.fk = 0 → s.fk = 0 ∧ ResE s.deep (s.b + t.bytes.length) q s2 := fun h0 => by
              obtain ⟨h7, h8⟩ := h6 h0
              obtain ⟨h9, h10⟩ := h3 h7
              rw [h2] at h8
              exact ⟨h9, h8 _ h10⟩
            split at h
            · rename_i h8
              obtain rfl := Option.some.inj h
              refine ⟨hs2, fun h0 => ?_⟩
              obtain ⟨h9, h10⟩ := hq h0
              obtain ⟨o1, o2, o3⟩ := one_e h10
              refine ⟨h9, ⟨?_, fun d hd => ?_⟩⟩
              · simp only [WFS]
                exact ⟨hdd, trivial, by unfold shS; simp; exact ⟨hn2.1, h8⟩, o1, o2, trivial, trivial⟩
              · simp only [prS, kid0]
                simp [lnP]
                omega
            · rename_i h8
              cases hd : exprK k (s2.need1 ([61] : List UInt8)) with
              | none => rw [hd] at h; cases h
              | some q' =>
                rw [hd] at h
                obtain ⟨y, s3⟩ := q'
                obtain ⟨h11, h12, h13⟩ := sub_expr (hw.sub (hs2.trans (sub_need1 _ _))) hd
                simp only at h h11 h12 h13
                obtain rfl := Option.some.inj h
                refine ⟨(hs2.trans (sub_need1 _ _)).trans h11, fun h0 => ?_⟩
                obtain ⟨h14, h15⟩ := h13 h0
                obtain ⟨e1, e2⟩ := need_b (hw.sub hs2) h14
                obtain ⟨h9, h10⟩ := hq e1
                rw [need1_deep, h5, h2] at h15
                have o12 := two_e h10 h15
                have l1 := h10.len
                have l2 := h15.len
                simp only [List.length_cons, List.length_nil] at e2
                have hq9 : exK q.1 = 9 := by
                  rcases hn2.2.1 with e | e
                  · rcases hn1.2 with e' | e'
                    · -- a name alone: the bracket stands there
                      have hb2 : s.isB ([91] : List UInt8) = true := by
                        cases k with
                        | zero => simp [calledK] at ha
                        | succ k =>
                          simp only [calledK] at ha
                          split at ha
                          · cases hx : partsK k ([40] : List UInt8) ([41] : List UInt8) s with
                            | none => rw [hx] at ha; cases ha
                            | some z =>
                              rw [hx] at ha
                              have := Option.some.inj ha
                              rw [← (Prod.mk.inj this).1] at e'
                              simp [wholeP, exK] at e'
                          · rename_i hb3
                            rcases hb with hb | hb
                            · exact absurd hb hb3
                            · exact hb
                      have hs1 : s1 = s ∨ s1.fk ≠ 0 := by
                        cases k with
                        | zero => simp [calledK] at ha
                        | succ k =>
                          simp only [calledK] at ha
                          have hb4 : ¬ s.isB ([40] : List UInt8) = true := fun e9 => by
                            have e10 := (isB_b e9).symm.trans (isB_b hb2)
                            exact absurd e10 (by decide)
                          rw [if_neg hb4] at ha
                          have := Option.some.inj ha
                          rw [← (Prod.mk.inj this).2]
                          split
                          · exact Or.inr (fail_fk _ _ _ (by decide))
                          · exact Or.inl rfl
                      have hf1 : s1.fk = 0 := (h6 e1).1
                      rcases hs1 with hs1 | hs1
                      · exact hn2.2.2 (by rw [hs1]; exact hb2)
                      · exact absurd hf1 hs1
                    · rw [e, e'] at h8; exact absurd rfl h8
                  · exact e
                refine ⟨h9, ⟨?_, fun d hd => ?_⟩⟩
                · simp only [WFS]
                  exact ⟨hdd, trivial, by unfold shS; simp; exact ⟨hn2.1, hq9⟩, o12.1, o12.2, trivial, trivial⟩
                · simp only [prS, kid0, kid1]
                  simp [lnP]
                  omega
      · obtain rfl := Option.some.inj h
        exact ⟨sub_refuse _ _, fun h0 => absurd h0 (refuse_fk _ _)⟩
theorem outS_all : ∀ k, OutS k
  | 0 => outS_zero
  | k + 1 => outS_succ k (outS_all k)
end Go.Proofs.YtiadbeglhnocoaaGreatDoor
namespace Go.Proofs.YtiadbeglhnocoaaGreatDoor
set_option linter.unusedVariables false
set_option linter.unusedSimpArgs false
open Go.RowKit

def WFP (p : Pa) : Prop := NameOk p.name.data.toList ∧ 1 ≤ p.type ∧ p.type ≤ 4
structure WFF (f : Fu) : Prop where
  name : NameOk f.name.data.toList
  pars : ∀ p ∈ f.params, WFP p
  few : f.params.length ≤ 16
  ret : 0 ≤ f.ret ∧ f.ret ≤ 4
  body : WFSs 1 f.body
  vars : f.vars = 0
theorem sub_type (s : PS) : Sub s (typeP s).2 := by
  unfold typeP
  split
  · exact sub_next s
  · split
    · exact sub_next s
    · split
      · exact ((sub_need1 s _).trans (sub_next _)).trans (sub_need1 _ _)
      · exact (sub_need1 s _).trans (sub_needs _ _)
theorem type_deep (s : PS) : (typeP s).2.deep = s.deep := by
  unfold typeP
  split
  · exact next_deep s
  · split
    · exact next_deep s
    · split
      · rw [need1_deep, next_deep, need1_deep]
      · rw [(even_needs _ _).2, need1_deep]
theorem type_ok {s : PS} (hw : TkS s) (h : (typeP s).2.fk = 0) : s.fk = 0 ∧ 1 ≤ (typeP s).1 ∧ (typeP s).1 ≤ 4 ∧ (typeP s).2.b + 3 ≤ s.b := by
  unfold typeP at h ⊢
  split at h
  · rename_i hb
    rw [if_pos hb]
    rw [next_fk] at h
    have := isB_n hw hb
    simp only [List.length_cons, List.length_nil] at this
    exact ⟨h, by dsimp only; decide, by dsimp only; decide, by simp only; omega⟩
  · rename_i hb
    rw [if_neg hb]
    split at h
    · rename_i hb
      rw [if_pos hb]
      rw [next_fk] at h
      have := isB_n hw hb
      simp only [List.length_cons, List.length_nil] at this
      exact ⟨h, by dsimp only; decide, by dsimp only; decide, by simp only; omega⟩
    · rename_i hb
      rw [if_neg hb]
      split at h
      · rename_i hb
        rw [if_pos hb]
        have hw1 := hw.sub (sub_need1 s ([91] : List UInt8))
        obtain ⟨e1, e2⟩ := need_b (hw1.sub (sub_next _)) h
        rw [next_fk] at e1
        obtain ⟨e3, e4⟩ := need_b hw e1
        have e5 := isB_n hw1 hb
        simp only [List.length_cons, List.length_nil] at e2 e4 e5
        exact ⟨e3, by dsimp only; decide, by dsimp only; decide, by simp only; omega⟩
      · rename_i hb
        rw [if_neg hb]
        simp only [PS.needs] at h
        have w1 := hw.sub (sub_need1 s ([91] : List UInt8))
        have w2 := w1.sub (sub_need1 (s.need1 ([91] : List UInt8)) ([91] : List UInt8))
        have w3 := w2.sub (sub_need1 ((s.need1 ([91] : List UInt8)).need1 ([91] : List UInt8)) ([105, 110, 116] : List UInt8))
        have w4 := w3.sub (sub_need1 (((s.need1 ([91] : List UInt8)).need1 ([91] : List UInt8)).need1 ([105, 110, 116] : List UInt8)) ([93] : List UInt8))
        obtain ⟨e1, e2⟩ := need_b w4 h
        obtain ⟨e3, e4⟩ := need_b w3 e1
        obtain ⟨e5, e6⟩ := need_b w2 e3
        obtain ⟨e7, e8⟩ := need_b w1 e5
        obtain ⟨e9, e10⟩ := need_b hw e7
        simp only [List.length_cons, List.length_nil] at e2 e4 e6 e8 e10
        exact ⟨e9, by dsimp only; decide, by dsimp only; decide, by simp only [PS.needs]; omega⟩
theorem sub_param (s : PS) : Sub s (paramP s).2 := ((sub_name s).trans (sub_need1 _ _)).trans (sub_type _)
theorem param_ok {s : PS} (hw : TkS s) (h : (paramP s).2.fk = 0) : s.fk = 0 ∧ WFP (paramP s).1 ∧ (paramP s).2.b + (paB (paramP s).1).length ≤ s.b + 7 ∧ (paramP s).2.b + (paramP s).1.name.data.toList.length + 4 ≤ s.b := by
  unfold paramP at h ⊢
  dsimp only at h ⊢
  have w1 := hw.sub (sub_name s)
  have w2 := w1.sub (sub_need1 s.nameP ([58] : List UInt8))
  obtain ⟨t1, t2, t3, t4⟩ := type_ok w2 h
  obtain ⟨e1, e2⟩ := need_b w1 t1
  obtain ⟨n1, n2, n3, n4⟩ := name_ok hw e1
  have e7 := next_b hw
  rw [n1] at e2
  simp only [List.length_cons, List.length_nil] at e2
  rw [n1] at t2 t3 t4 ⊢
  have hty : (typB (typeP (s.next.need1 ([58] : List UInt8))).1).length ≤ 7 := by
    generalize (typeP (s.next.need1 ([58] : List UInt8))).1 = y at t2 t3
    have : y = 1 ∨ y = 2 ∨ y = 3 ∨ y = 4 := by omega
    rcases this with rfl | rfl | rfl | rfl <;> decide
  refine ⟨n4, ⟨nameOk_str n3, t2, t3⟩, ?_, ?_⟩
  · unfold paB
    simp only [strB_list, List.length_append, List.length_cons, List.length_nil]
    omega
  · simp only [strB_list]
    omega
/-- How long arguments' texts are, with what lies between. -/
def lenA (l : List Pa) : Nat := (l.map fun p => (paB p).length + 2).sum
theorem lenA_app (l m : List Pa) : lenA (l ++ m) = lenA l + lenA m := by simp [lenA]
theorem arg_fk {l : List Pa} {s : PS} (h : (if l.length = 16 then s.fail 4 s.now.at_ else s).fk = 0) : l.length ≠ 16 ∧ (if l.length = 16 then s.fail 4 s.now.at_ else s) = s := by
  split at h
  · exact absurd h (fail_fk _ _ _ (by decide))
  · rename_i hc
    exact ⟨hc, by rw [if_neg hc]⟩
theorem arg_sub (l : List Pa) (s : PS) : Sub s (argP l s).2 := by
  unfold argP
  dsimp only
  split
  · exact (sub_fail _ _ _).trans (sub_param _)
  · exact sub_param s
theorem param_deep (s : PS) : (paramP s).2.deep = s.deep := by unfold paramP; dsimp only; rw [type_deep, need1_deep, (even_name _).2]
theorem arg_deep (l : List Pa) (s : PS) : (argP l s).2.deep = s.deep := by
  unfold argP
  dsimp only
  split
  · rw [param_deep]; rfl
  · exact param_deep s
theorem args_out : ∀ (k : Nat) (l : List Pa) (s : PS) (r : List Pa × PS), TkS s → argsK k l s = some r → Sub s r.2 ∧ r.2.deep = s.deep ∧ (r.2.fk = 0 → s.fk = 0 ∧ ∃ m, r.1 = l ++ m ∧ (∀ p ∈ m, WFP p) ∧ (l.length ≤ 16 → r.1.length ≤ 16) ∧ lenA m + 25 * r.2.b ≤ 25 * s.b)
  | 0, l, s, r, _, h => by simp [argsK] at h
  | k + 1, l, s, r, hw, h => by
    simp only [argsK] at h
    have hd := arg_deep l s
    have one : (argP l s).2.fk = 0 → s.fk = 0 ∧ l.length ≠ 16 ∧ ∃ p, (argP l s).1 = l ++ [p] ∧ WFP p ∧ lenA [p] + 25 * (argP l s).2.b ≤ 25 * s.b := fun h0 => by
      unfold argP at h0 ⊢
      dsimp only at h0 ⊢
      by_cases hc : l.length = 16
      · rw [if_pos hc] at h0
        exact absurd (param_ok (hw.sub (sub_fail _ _ _)) h0).1 (fail_fk _ _ _ (by decide))
      · rw [if_neg hc] at h0 ⊢
        obtain ⟨e1, e2, e3, e4⟩ := param_ok hw h0
        refine ⟨e1, hc, _, rfl, e2, ?_⟩
        have : lenA [(paramP s).1] = (paB (paramP s).1).length + 2 := by simp [lenA]
        omega
    split at h
    · rename_i hb
      obtain ⟨h1, h2, h3⟩ := args_out k _ _ r (hw.sub ((arg_sub l s).trans (sub_next _))) h
      refine ⟨((arg_sub l s).trans (sub_next _)).trans h1, by rw [h2, next_deep, hd], fun h0 => ?_⟩
      obtain ⟨h4, m, h5, h6, h7, h8⟩ := h3 h0
      rw [next_fk] at h4
      obtain ⟨e1, e2, p, e3, e4, e5⟩ := one h4
      have hnb := (sub_next (argP l s).2).b
      rw [e3] at h5 h7
      refine ⟨e1, p :: m, by rw [h5]; simp, fun q hq => ?_, fun hl => h7 (by simp; omega), ?_⟩
      · rcases List.mem_cons.mp hq with rfl | hq
        · exact e4
        · exact h6 q hq
      · have : lenA (p :: m) = lenA [p] + lenA m := by simp [lenA]
        omega
    · obtain rfl := Option.some.inj h
      refine ⟨arg_sub l s, hd, fun h0 => ?_⟩
      obtain ⟨e1, e2, p, e3, e4, e5⟩ := one h0
      refine ⟨e1, [p], e3, fun q hq => ?_, fun hl => ?_, e5⟩
      · rw [List.mem_singleton] at hq; subst hq; exact e4
      · rw [e3]; simp; omega
theorem params_out (k : Nat) (s : PS) (r : List Pa × PS) (hw : TkS s) (h : paramsK k s = some r) : Sub s r.2 ∧ r.2.deep = s.deep ∧ (r.2.fk = 0 → s.fk = 0 ∧ (∀ p ∈ r.1, WFP p) ∧ r.1.length ≤ 16 ∧ lenA r.1 + 50 + 25 * r.2.b ≤ 25 * s.b) := by
  unfold paramsK at h
  have hs1 : Sub s (s.need1 ([40] : List UInt8)).enter := (sub_need1 s _).trans (sub_enter _)
  have hd1 : (s.need1 ([40] : List UInt8)).enter.deep = s.deep := by rw [enter_deep, need1_deep]
  have hfine : (s.need1 ([40] : List UInt8)).enter.fk = 0 → s.fk = 0 ∧ (s.need1 ([40] : List UInt8)).enter.b + 1 = s.b := fun h0 => by
    have e1 := enter_ok h0
    have e2 := need_b hw e1.2
    rw [(enter_b h0).1]
    exact e2
  split at h
  · obtain rfl := Option.some.inj h
    refine ⟨(hs1.trans (sub_need1 _ _)).trans (sub_leave _), by show ((s.need1 ([40] : List UInt8)).enter.need1 _).deep = _; rw [need1_deep, hd1], fun h0 => ?_⟩
    have h0' : ((s.need1 ([40] : List UInt8)).enter.need1 ([41] : List UInt8)).fk = 0 := h0
    obtain ⟨e1, e2⟩ := need_b (hw.sub hs1) h0'
    obtain ⟨e3, e4⟩ := hfine e1
    simp only [List.length_cons, List.length_nil] at e2
    refine ⟨e3, fun p (hp : p ∈ ([] : List Pa)) => absurd hp (List.not_mem_nil), by simp, ?_⟩
    show 0 + 50 + 25 * ((s.need1 ([40] : List UInt8)).enter.need1 ([41] : List UInt8)).b ≤ _
    omega
  · cases ha : argsK k [] (s.need1 ([40] : List UInt8)).enter with
    | none => rw [ha] at h; cases h
    | some q =>
      rw [ha] at h
      obtain ⟨l, s2⟩ := q
      obtain ⟨h1, h2, h3⟩ := args_out k _ _ _ (hw.sub hs1) ha
      simp only at h h1 h2 h3
      obtain rfl := Option.some.inj h
      refine ⟨((hs1.trans h1).trans (sub_need1 _ _)).trans (sub_leave _), by show (s2.need1 _).deep = _; rw [need1_deep, h2, hd1], fun h0 => ?_⟩
      have h0' : (s2.need1 ([41] : List UInt8)).fk = 0 := h0
      obtain ⟨e1, e2⟩ := need_b (hw.sub (hs1.trans h1)) h0'
      obtain ⟨h4, m, h5, h6, h7, h8⟩ := h3 e1
      obtain ⟨e3, e4⟩ := hfine h4
      rw [List.nil_append] at h5
      simp only [List.length_cons, List.length_nil] at e2
      refine ⟨e3, by show ∀ p ∈ l, WFP p; rw [h5]; exact h6, h7 (by simp), ?_⟩
      show lenA l + 50 + 25 * (s2.need1 ([41] : List UInt8)).b ≤ _
      rw [h5]
      omega
theorem resB_len (t : Int) (h : 0 ≤ t ∧ t ≤ 4) : (resB t).length ≤ 9 := by
  have : t = 0 ∨ t = 1 ∨ t = 2 ∨ t = 3 ∨ t = 4 := by omega
  rcases this with rfl | rfl | rfl | rfl | rfl <;> decide
theorem jn_paB (l : List Pa) : (jn (l.map paB)).length ≤ lenA l := by
  have h := jn_len (l.map paB)
  rw [List.map_map] at h
  exact h
/-- One function. -/
theorem fn_out (k : Nat) (s : PS) (r : Fu × PS) (hw : TkS s) (hd : s.deep = 0) (h : fnK k s = some r) : Sub s r.2 ∧ (r.2.fk = 0 → s.fk = 0 ∧ r.2.deep = 0 ∧ WFF r.1 ∧ (prF r.1).length + 160 * r.2.b ≤ 160 * s.b) := by
  unfold fnK at h
  dsimp only at h
  have hs1 : Sub s (s.need1 ([102, 110] : List UInt8)).nameP := (sub_need1 s _).trans (sub_name _)
  cases ha : paramsK k (s.need1 ([102, 110] : List UInt8)).nameP with
  | none => rw [ha] at h; cases h
  | some q =>
    rw [ha] at h
    obtain ⟨l, s2⟩ := q
    obtain ⟨h1, h2, h3⟩ := params_out k _ _ (hw.sub hs1) ha
    simp only at h h1 h2 h3
    rw [(even_name _).2, need1_deep, hd] at h2
    have hs2 := hs1.trans h1
    obtain ⟨tr, htr⟩ : ∃ tr : Int × PS, tr = (if s2.isB ([58] : List UInt8) = true then typeP s2.next else (0, s2)) := ⟨_, rfl⟩
    rw [← htr] at h
    have hs3 : Sub s2 tr.2 ∧ tr.2.deep = 0 ∧ (tr.2.fk = 0 → s2.fk = 0 ∧ 0 ≤ tr.1 ∧ tr.1 ≤ 4 ∧ tr.2.b ≤ s2.b) := by
      rw [htr]
      split
      · refine ⟨(sub_next s2).trans (sub_type _), by rw [type_deep, next_deep, h2], fun h0 => ?_⟩
        obtain ⟨t1, t2, t3, t4⟩ := type_ok ((hw.sub hs2).sub (sub_next s2)) h0
        rw [next_fk] at t1
        have := (sub_next s2).b
        exact ⟨t1, by omega, t3, by omega⟩
      · exact ⟨Sub.refl _, h2, fun h0 => ⟨h0, by dsimp only; decide, by dsimp only; decide, Nat.le_refl _⟩⟩
    cases hb : blockK k tr.2 with
    | none => rw [hb] at h; cases h
    | some q =>
      rw [hb] at h
      obtain ⟨b, s3⟩ := q
      obtain ⟨h4, h5⟩ := (outS_all k).block _ _ ((hw.sub hs2).sub hs3.1) hb
      have hd3 := ((pureS_all k).block _ _ hb).2
      simp only at h h4 h5 hd3
      obtain rfl := Option.some.inj h
      refine ⟨(hs2.trans hs3.1).trans h4, fun h0 => ?_⟩
      obtain ⟨h6, h7, h8⟩ := h5 h0
      obtain ⟨t1, t2, t3, t4⟩ := hs3.2.2 h6
      obtain ⟨h9, h10, h11, h12⟩ := h3 t1
      have hw1 := hw.sub (sub_need1 s ([102, 110] : List UInt8))
      obtain ⟨n1, n2, n3, n4⟩ := name_ok hw1 h9
      obtain ⟨e5, e6⟩ := need_b hw n4
      have e7 := next_b hw1
      rw [hs3.2.1] at h8
      rw [n1] at h12
      refine ⟨e5, by show s3.deep = 0; rw [hd3, hs3.2.1], ⟨nameOk_str n3, h10, h11, ⟨t2, t3⟩, h8.wf, rfl⟩, ?_⟩
      have e8 := h8.len 1 (by decide)
      have e9 := resB_len tr.1 ⟨t2, t3⟩
      have e10 := jn_paB l
      have e11 := nameOk_len n3
      simp only [List.length_cons, List.length_nil] at e6
      unfold prF
      simp only [strB_list]
      simp [lnP]
      omega
theorem prT_app (l m : List Fu) : prT (l ++ m) = prT l ++ prT m := by
  induction l with
  | nil => simp [prT]
  | cons x r ih => simp [prT, ih]
/-- A program. -/
theorem prog_out : ∀ (k : Nat) (l : List Fu) (s : PS) (r : List Fu × PS), TkS s → s.deep = 0 → progK k l s = some r → r.2.fk = 0 → s.fk = 0 ∧ ∃ m, r.1 = l ++ m ∧ (∀ f ∈ m, WFF f) ∧ (l.length ≤ 256 → r.1.length ≤ 256) ∧ (prT m).length + 160 * r.2.b ≤ 160 * s.b
  | 0, l, s, r, _, _, h, _ => by simp [progK] at h
  | k + 1, l, s, r, hw, hd, h, h0 => by
    simp only [progK] at h
    split at h
    · obtain rfl := Option.some.inj h
      exact ⟨h0, [], by simp, fun f hf => absurd hf (List.not_mem_nil), fun hl => hl, by simp [prT]⟩
    · obtain ⟨S, hS⟩ : ∃ S, S = (if l.length = 256 then s.fail 4 s.now.at_ else s) := ⟨_, rfl⟩
      rw [← hS] at h
      have hSs : Sub s S ∧ S.deep = 0 ∧ (S.fk = 0 → l.length ≠ 256 ∧ S = s) := by
        rw [hS]
        split
        · exact ⟨sub_fail _ _ _, hd, fun e => absurd e (fail_fk _ _ _ (by decide))⟩
        · rename_i hc
          exact ⟨Sub.refl _, hd, fun _ => ⟨hc, rfl⟩⟩
      cases ha : fnK k S with
      | none => rw [ha] at h; cases h
      | some q =>
        rw [ha] at h
        obtain ⟨f, s1⟩ := q
        obtain ⟨h1, h2⟩ := fn_out k S _ (hw.sub hSs.1) hSs.2.1 ha
        simp only at h h1 h2
        have hdd : s1.deep = 0 := by
          -- also where there is a fault
          unfold fnK at ha
          dsimp only at ha
          cases hp : paramsK k (S.need1 ([102, 110] : List UInt8)).nameP with
          | none => rw [hp] at ha; cases ha
          | some q =>
            rw [hp] at ha
            obtain ⟨l2, s2⟩ := q
            obtain ⟨_, e2, _⟩ := params_out k _ _ ((hw.sub hSs.1).sub ((sub_need1 S _).trans (sub_name _))) hp
            simp only at ha e2
            rw [(even_name _).2, need1_deep, hSs.2.1] at e2
            cases hb : blockK k (if s2.isB ([58] : List UInt8) = true then typeP s2.next else (0, s2)).2 with
            | none => rw [hb] at ha; cases ha
            | some q =>
              rw [hb] at ha
              have e3 := ((pureS_all k).block _ _ hb).2
              have e4 := (Prod.mk.inj (Option.some.inj ha)).2
              rw [← e4, e3]
              split
              · rw [type_deep, next_deep, e2]
              · exact e2
        obtain ⟨h3, m, h4, h5, h6, h7⟩ := prog_out k _ s1 r (hw.sub (hSs.1.trans h1)) hdd h h0
        obtain ⟨h8, _, h9, h10⟩ := h2 h3
        obtain ⟨h11, h12⟩ := hSs.2.2 h8
        rw [h12] at h8 h10
        refine ⟨h8, f :: m, by rw [h4]; simp, fun g hg => ?_, fun hl => h6 (by simp; omega), ?_⟩
        · rcases List.mem_cons.mp hg with rfl | hg
          · exact h9
          · exact h5 g hg
        · simp only [prT, List.length_append]
          omega
/-! So much fuel suffices. -/
theorem args_suf : ∀ (k : Nat) (l : List Pa) (s : PS), s.left.length + 1 ≤ k → Wf s → ∃ r, argsK k l s = some r ∧ Sub s r.2
  | 0, l, s, h, _ => by omega
  | k + 1, l, s, h, hw => by
    simp only [argsK]
    split
    · rename_i hb
      have h1 := (arg_sub l s).len
      have h2 := next_lt (hw.sub (arg_sub l s)) (isB_ne hb (by decide))
      obtain ⟨r, h3, h4⟩ := args_suf k (argP l s).1 (argP l s).2.next (by omega) (hw.sub ((arg_sub l s).trans (sub_next _)))
      exact ⟨r, h3, ((arg_sub l s).trans (sub_next _)).trans h4⟩
    · exact ⟨_, rfl, arg_sub l s⟩
theorem params_suf (k : Nat) (s : PS) (h : s.left.length + 1 ≤ k) (hw : Wf s) : ∃ r, paramsK k s = some r ∧ Sub s r.2 := by
  unfold paramsK
  have hs1 : Sub s (s.need1 ([40] : List UInt8)).enter := (sub_need1 s _).trans (sub_enter _)
  split
  · exact ⟨_, rfl, (hs1.trans (sub_need1 _ _)).trans (sub_leave _)⟩
  · obtain ⟨⟨l, s2⟩, h1, h2⟩ := args_suf k [] _ (by have := hs1.len; omega) (hw.sub hs1)
    rw [h1]
    exact ⟨_, rfl, ((hs1.trans h2).trans (sub_need1 _ _)).trans (sub_leave _)⟩
theorem fn_suf (k : Nat) (s : PS) (h : 10 * s.left.length + 7 ≤ k) (hw : Wf s) : ∃ r, fnK k s = some r ∧ Sub (s.need1 ([102, 110] : List UInt8)) r.2 := by
  unfold fnK
  dsimp only
  have hs1 : Sub s (s.need1 ([102, 110] : List UInt8)).nameP := (sub_need1 s _).trans (sub_name _)
  obtain ⟨⟨l, s2⟩, h1, h2⟩ := params_suf k (s.need1 ([102, 110] : List UInt8)).nameP (by have := hs1.len; omega) (hw.sub hs1)
  rw [h1]
  simp only
  simp only at h2
  obtain ⟨tr, htr⟩ : ∃ tr : Int × PS, tr = (if s2.isB ([58] : List UInt8) = true then typeP s2.next else (0, s2)) := ⟨_, rfl⟩
  rw [← htr]
  have hs3 : Sub s2 tr.2 := by
    rw [htr]
    split
    · exact (sub_next s2).trans (sub_type _)
    · exact Sub.refl _
  have hs4 := (hs1.trans h2).trans hs3
  obtain ⟨⟨b, s3⟩, h3, h4⟩ := (sufS_all k).block tr.2 (hw.sub hs4) (by have := hs4.len; omega)
  rw [h3]
  exact ⟨_, rfl, (((sub_name _).trans h2).trans hs3).trans h4⟩
theorem prog_suf : ∀ (n k : Nat) (l : List Fu) (s : PS), s.left.length ≤ n → 12 * s.left.length + 9 ≤ k → Wf s → ∃ r, progK k l s = some r
  | n, 0, l, s, _, h, _ => by omega
  | n, k + 1, l, s, hn, h, hw => by
    simp only [progK]
    split
    · exact ⟨_, rfl⟩
    · rename_i hk
      have hpos : 1 ≤ s.left.length := by have := kind_lt hk; omega
      cases n with
      | zero => omega
      | succ n =>
        obtain ⟨S, hS⟩ : ∃ S, S = (if l.length = 256 then s.fail 4 s.now.at_ else s) := ⟨_, rfl⟩
        rw [← hS]
        have hSs : Sub s S := by
          rw [hS]
          split
          · exact sub_fail _ _ _
          · exact Sub.refl _
        obtain ⟨⟨f, s1⟩, h1, h2⟩ := fn_suf k S (by have := hSs.len; omega) (hw.sub hSs)
        rw [h1]
        simp only
        simp only at h2
        have hl1 : s1.left.length + 1 ≤ s.left.length := by
          have e1 := h2.len
          have e2 := hSs.len
          rcases need1_lt (hw.sub hSs) ([102, 110] : List UInt8) (by decide) with e3 | e3
          · omega
          · rw [e3] at e1; simp at e1; rw [e1]; simp; omega
        exact prog_suf n k _ s1 (by omega) (by omega) (hw.sub ((hSs.trans (sub_need1 S _)).trans h2))
end Go.Proofs.YtiadbeglhnocoaaGreatDoor
