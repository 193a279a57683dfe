/-
  How programs as trees lie in memory: what reads as which tree, and that it goes on reading so.
-/
import Derived.Test.YtpnpjlggikdinaaTrM1
import Derived.Below
namespace Go.Proofs.Ytpnpjlggikdinaa
open Go.RowKit

mutual
/-- The seven cells c 0 .. c 6 read as the expression; all blocks behind them are of S. -/
def RdE (w : World) (S : Nat → Prop) (c : Nat → Option Value) : Ex → Prop
  | .mk k a t o n s kids => c 0 = some (.int .i64 k) ∧ c 1 = some (.int .i64 a) ∧ c 2 = some (.int .i64 t) ∧ c 3 = some (.int .i64 o) ∧ c 4 = some (.int .i64 n) ∧ c 5 = some (.string s) ∧ ∃ A cap, c 6 = some (.slice A kids.length cap) ∧ RdEs w S A 0 kids
/-- From the i-th on the elements of a slice read as expressions. -/
def RdEs (w : World) (S : Nat → Prop) (A : Option Addr) (i : Nat) : List Ex → Prop
  | [] => True
  | e :: r => (∃ g o, A = some ⟨g, o, none⟩ ∧ S g ∧ RdE w S (fun j => w.cell? ⟨g, o + i * 7 + j, none⟩) e) ∧ RdEs w S A (i + 1) r
end
theorem add_blk (a : Addr) (n : Nat) : (a.add n).block = a.block := by unfold Addr.add; split <;> rfl
mutual
theorem RdE.keep {w w' : World} {S : Nat → Prop} (hb : ∀ p : Addr, S p.block → w'.cell? p = w.cell? p) (c : Nat → Option Value) : ∀ e : Ex, RdE w S c e → RdE w' S c e
  | .mk k a t o n s kids, h => by
    unfold RdE at h ⊢
    obtain ⟨h0, h1, h2, h3, h4, h5, A, cap, h6, hk⟩ := h
    exact ⟨h0, h1, h2, h3, h4, h5, A, cap, h6, RdEs.keep hb A 0 kids hk⟩
theorem RdEs.keep {w w' : World} {S : Nat → Prop} (hb : ∀ p : Addr, S p.block → w'.cell? p = w.cell? p) (A : Option Addr) (i : Nat) : ∀ l : List Ex, RdEs w S A i l → RdEs w' S A i l
  | [], _ => by unfold RdEs; trivial
  | e :: r, h => by
    unfold RdEs at h ⊢
    obtain ⟨⟨g, o, hA, hB, he⟩, hr⟩ := h
    refine ⟨⟨g, o, hA, hB, ?_⟩, RdEs.keep hb A (i + 1) r hr⟩
    have e1 : (fun j => w'.cell? ⟨g, o + i * 7 + j, none⟩) = fun j => w.cell? ⟨g, o + i * 7 + j, none⟩ := funext fun j => hb _ hB
    rw [e1]
    exact RdE.keep hb _ e he
end
mutual
theorem RdE.more {w : World} {S S' : Nat → Prop} (hB : ∀ b, S b → S' b) (c : Nat → Option Value) : ∀ e : Ex, RdE w S c e → RdE w S' c e
  | .mk k a t o n s kids, h => by
    unfold RdE at h ⊢
    obtain ⟨h0, h1, h2, h3, h4, h5, A, cap, h6, hk⟩ := h
    exact ⟨h0, h1, h2, h3, h4, h5, A, cap, h6, RdEs.more hB A 0 kids hk⟩
theorem RdEs.more {w : World} {S S' : Nat → Prop} (hB : ∀ b, S b → S' b) (A : Option Addr) (i : Nat) : ∀ l : List Ex, RdEs w S A i l → RdEs w S' A i l
  | [], _ => by unfold RdEs; trivial
  | e :: r, h => by
    unfold RdEs at h ⊢
    obtain ⟨⟨g, o, hA, hb, he⟩, hr⟩ := h
    exact ⟨⟨g, o, hA, hB _ hb, RdE.more hB _ e he⟩, RdEs.more hB A (i + 1) r hr⟩
end
theorem RdEs.at_ {w : World} {S : Nat → Prop} {i k : Nat} {A : Option Addr} {l : List Ex} {e : Ex} (h : RdEs w S A i l) (hk : l[k]? = some e) : ∃ g o, A = some ⟨g, o, none⟩ ∧ S g ∧ RdE w S (fun j => w.cell? ⟨g, o + (i + k) * 7 + j, none⟩) e := by
  induction l generalizing i k with
  | nil => simp at hk
  | cons x r ih =>
    unfold RdEs at h
    rcases k with _ | k
    · simp at hk; subst hk; exact h.1
    · have := ih (i := i + 1) (k := k) h.2 (by simpa using hk)
      have e1 : i + 1 + k = i + (k + 1) := by omega
      rw [e1] at this
      exact this
theorem RdEs.of_all {w : World} {S : Nat → Prop} {i : Nat} {A : Option Addr} {l : List Ex} (h : ∀ k e, l[k]? = some e → ∃ g o, A = some ⟨g, o, none⟩ ∧ S g ∧ RdE w S (fun j => w.cell? ⟨g, o + (i + k) * 7 + j, none⟩) e) : RdEs w S A i l := by
  induction l generalizing i with
  | nil => unfold RdEs; trivial
  | cons x r ih =>
    unfold RdEs
    refine ⟨h 0 x rfl, ih (fun k e hk => ?_)⟩
    have := h (k + 1) e (by simpa using hk)
    have e1 : i + (k + 1) = i + 1 + k := by omega
    rw [e1] at this
    exact this
/-- The same cells, told otherwise. -/
theorem RdE.cells {w : World} {S : Nat → Prop} {c c' : Nat → Option Value} {e : Ex} (h : RdE w S c e) (hc : ∀ j, j < 7 → c' j = c j) : RdE w S c' e := by
  cases e
  unfold RdE at h ⊢
  rw [hc 0 (by omega), hc 1 (by omega), hc 2 (by omega), hc 3 (by omega), hc 4 (by omega), hc 5 (by omega), hc 6 (by omega)]
  exact h

mutual
/-- The eight cells read as the statement. -/
def RdS (w : World) (S : Nat → Prop) (c : Nat → Option Value) : St → Prop
  | .mk k a n s p kids body els => c 0 = some (.int .i64 k) ∧ c 1 = some (.int .i64 a) ∧ c 2 = some (.int .i64 n) ∧ c 3 = some (.string s) ∧ c 4 = some (.int .i64 p) ∧ (∃ A cap, c 5 = some (.slice A kids.length cap) ∧ RdEs w S A 0 kids) ∧ (∃ A cap, c 6 = some (.slice A body.length cap) ∧ RdSs w S A 0 body) ∧ ∃ A cap, c 7 = some (.slice A els.length cap) ∧ RdSs w S A 0 els
def RdSs (w : World) (S : Nat → Prop) (A : Option Addr) (i : Nat) : List St → Prop
  | [] => True
  | e :: r => (∃ g o, A = some ⟨g, o, none⟩ ∧ S g ∧ RdS w S (fun j => w.cell? ⟨g, o + i * 8 + j, none⟩) e) ∧ RdSs w S A (i + 1) r
end
mutual
theorem RdS.keep {w w' : World} {S : Nat → Prop} (hb : ∀ p : Addr, S p.block → w'.cell? p = w.cell? p) (c : Nat → Option Value) : ∀ e : St, RdS w S c e → RdS w' S c e
  | .mk k a n s p kids body els, h => by
    unfold RdS at h ⊢
    obtain ⟨h0, h1, h2, h3, h4, ⟨A1, c1, h5, hk1⟩, ⟨A2, c2, h6, hk2⟩, A3, c3, h7, hk3⟩ := h
    exact ⟨h0, h1, h2, h3, h4, ⟨A1, c1, h5, RdEs.keep hb A1 0 kids hk1⟩, ⟨A2, c2, h6, RdSs.keep hb A2 0 body hk2⟩, A3, c3, h7, RdSs.keep hb A3 0 els hk3⟩
theorem RdSs.keep {w w' : World} {S : Nat → Prop} (hb : ∀ p : Addr, S p.block → w'.cell? p = w.cell? p) (A : Option Addr) (i : Nat) : ∀ l : List St, RdSs w S A i l → RdSs w' S A i l
  | [], _ => by unfold RdSs; trivial
  | e :: r, h => by
    unfold RdSs at h ⊢
    obtain ⟨⟨g, o, hA, hB, he⟩, hr⟩ := h
    refine ⟨⟨g, o, hA, hB, ?_⟩, RdSs.keep hb A (i + 1) r hr⟩
    have e1 : (fun j => w'.cell? ⟨g, o + i * 8 + j, none⟩) = fun j => w.cell? ⟨g, o + i * 8 + j, none⟩ := funext fun j => hb _ hB
    rw [e1]
    exact RdS.keep hb _ e he
end
mutual
theorem RdS.more {w : World} {S S' : Nat → Prop} (hB : ∀ b, S b → S' b) (c : Nat → Option Value) : ∀ e : St, RdS w S c e → RdS w S' c e
  | .mk k a n s p kids body els, h => by
    unfold RdS at h ⊢
    obtain ⟨h0, h1, h2, h3, h4, ⟨A1, c1, h5, hk1⟩, ⟨A2, c2, h6, hk2⟩, A3, c3, h7, hk3⟩ := h
    exact ⟨h0, h1, h2, h3, h4, ⟨A1, c1, h5, RdEs.more hB A1 0 kids hk1⟩, ⟨A2, c2, h6, RdSs.more hB A2 0 body hk2⟩, A3, c3, h7, RdSs.more hB A3 0 els hk3⟩
theorem RdSs.more {w : World} {S S' : Nat → Prop} (hB : ∀ b, S b → S' b) (A : Option Addr) (i : Nat) : ∀ l : List St, RdSs w S A i l → RdSs w S' A i l
  | [], _ => by unfold RdSs; trivial
  | e :: r, h => by
    unfold RdSs at h ⊢
    obtain ⟨⟨g, o, hA, hb, he⟩, hr⟩ := h
    exact ⟨⟨g, o, hA, hB _ hb, RdS.more hB _ e he⟩, RdSs.more hB A (i + 1) r hr⟩
end
theorem RdSs.at_ {w : World} {S : Nat → Prop} {i k : Nat} {A : Option Addr} {l : List St} {e : St} (h : RdSs w S A i l) (hk : l[k]? = some e) : ∃ g o, A = some ⟨g, o, none⟩ ∧ S g ∧ RdS w S (fun j => w.cell? ⟨g, o + (i + k) * 8 + j, none⟩) e := by
  induction l generalizing i k with
  | nil => simp at hk
  | cons x r ih =>
    unfold RdSs at h
    rcases k with _ | k
    · simp at hk; subst hk; exact h.1
    · have := ih (i := i + 1) (k := k) h.2 (by simpa using hk)
      have e1 : i + 1 + k = i + (k + 1) := by omega
      rw [e1] at this
      exact this
theorem RdSs.of_all {w : World} {S : Nat → Prop} {i : Nat} {A : Option Addr} {l : List St} (h : ∀ k e, l[k]? = some e → ∃ g o, A = some ⟨g, o, none⟩ ∧ S g ∧ RdS w S (fun j => w.cell? ⟨g, o + (i + k) * 8 + j, none⟩) e) : RdSs w S A i l := by
  induction l generalizing i with
  | nil => unfold RdSs; trivial
  | cons x r ih =>
    unfold RdSs
    refine ⟨h 0 x rfl, ih (fun k e hk => ?_)⟩
    have := h (k + 1) e (by simpa using hk)
    have e1 : i + (k + 1) = i + 1 + k := by omega
    rw [e1] at this
    exact this
theorem RdS.cells {w : World} {S : Nat → Prop} {c c' : Nat → Option Value} {e : St} (h : RdS w S c e) (hc : ∀ j, j < 8 → c' j = c j) : RdS w S c' e := by
  cases e
  unfold RdS at h ⊢
  rw [hc 0 (by omega), hc 1 (by omega), hc 2 (by omega), hc 3 (by omega), hc 4 (by omega), hc 5 (by omega), hc 6 (by omega), hc 7 (by omega)]
  exact h
end Go.Proofs.Ytpnpjlggikdinaa
