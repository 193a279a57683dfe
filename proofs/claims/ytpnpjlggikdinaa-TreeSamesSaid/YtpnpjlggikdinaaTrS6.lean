/-
  Statements that read alike are the same; the law's own ones are no longer than there may be.
-/
import Derived.Test.YtpnpjlggikdinaaTrS5
import Derived.Test.YtpnpjlggikdinaaTrT1
namespace Go.Proofs.Ytpnpjlggikdinaa
open Go.RowKit

def EqSs (l : List St) : Prop := ∀ (N : Nat) (A A' : Option Addr) (c c' : Nat) (w : World), N ≤ w.heap.size → RdSs w (fun b => b < N) A 0 l → RdSs w (fun b => b < N) A' 0 l →
  Calls Try.prog 16 #[.slice A l.length c, .slice A' l.length c', .func (.func 17) #[] #[]] w fun e w' => e = .returned (.bool true) ∧ Below w.heap.size w w'
/-- No list is longer than there may be. -/
inductive FineS : St → Prop
  | mk (k a n : Int) (s : ByteArray) (p : Int) (kids : List Ex) (body els : List St) (hk : kids.length ≤ 9223372036854775807) (h : ∀ e ∈ kids, Fine e) (hb : body.length ≤ 9223372036854775807) (h2 : ∀ e ∈ body, FineS e) (he : els.length ≤ 9223372036854775807) (h3 : ∀ e ∈ els, FineS e) : FineS (.mk k a n s p kids body els)
theorem fine_eqEs {l : List Ex} (h : ∀ e ∈ l, Fine e) : EqEs l := eqEs_of l (fun e he => (h e he).eqE)
/-- What a statement that reads so is, compared with another one that reads so. -/
def EqS (e : St) : Prop := ∀ (N : Nat) (A A' : Option Addr) (i : Nat) (w : World), N ≤ w.heap.size → (∃ g o, A = some ⟨g, o, none⟩ ∧ g < N ∧ RdS w (fun b => b < N) (fun j => w.cell? ⟨g, o + i * 8 + j, none⟩) e) → (∃ g o, A' = some ⟨g, o, none⟩ ∧ g < N ∧ RdS w (fun b => b < N) (fun j => w.cell? ⟨g, o + i * 8 + j, none⟩) e) → PairStmt w N A A' i true
theorem eqSs_of (l : List St) (hmax : l.length ≤ 9223372036854775807) (ih : ∀ e ∈ l, EqS e) : EqSs l := by
  intro N A A' c c' w hN hR hR'
  refine listAll_Stmt N A A' l.length c c' hmax w hN (fun i hi => ?_)
  have h1 := RdSs.at_ hR (List.getElem?_eq_getElem hi)
  have h2 := RdSs.at_ hR' (List.getElem?_eq_getElem hi)
  rw [Nat.zero_add] at h1 h2
  exact ih _ (List.getElem_mem hi) N A A' i w hN h1 h2
theorem FineS.eqS {e : St} (h : FineS e) : EqS e := by
  induction h with
  | mk k a n s p kids body els hk h hb h2 he h3 ihb ihe =>
    intro N A A' i w hN ⟨g, o, hA, hg, hr⟩ ⟨g', o', hA', hg', hr'⟩
    unfold RdS at hr hr'
    obtain ⟨c0, c1, c2, c3, c4, ⟨K, ck, c5, hkr⟩, ⟨B, cb, c6, hbr⟩, E, ce, c7, her⟩ := hr
    obtain ⟨d0, d1, d2, d3, d4, ⟨K', ck', d5, hkr'⟩, ⟨B', cb', d6, hbr'⟩, E', ce', d7, her'⟩ := hr'
    refine ⟨g, o, g', o', k, a, n, s, p, K, kids.length, ck, B, body.length, cb, E, els.length, ce, k, a, n, s, p, K', kids.length, ck', B', body.length, cb', E', els.length, ce', hA, hA', hg, hg', ⟨c0, c1, c2, c3, c4, c5, c6, c7⟩, ⟨d0, d1, d2, d3, d4, d5, d6, d7⟩, fun w2 hb2 hN2 => ?_⟩
    refine sameStmt_eq k a n s p K kids.length ck B body.length cb E els.length ce a n K' kids.length ck' B' body.length cb' E' els.length ce' w2 (fun w3 h3 => ?_) (fun w3 h3 => ?_) (fun w3 h3 => ?_)
    · have hb4 := hb2.trans (h3.mono hN2)
      exact fine_eqEs h N K K' ck ck' w3 (Nat.le_trans hN2 h3.size) hk (RdEs.keep (fun p hp => hb4.cell hp) _ _ _ hkr) (RdEs.keep (fun p hp => hb4.cell hp) _ _ _ hkr')
    · have hb4 := hb2.trans (h3.mono hN2)
      exact eqSs_of body hb ihb N B B' cb cb' w3 (Nat.le_trans hN2 h3.size) (RdSs.keep (fun p hp => hb4.cell hp) _ _ _ hbr) (RdSs.keep (fun p hp => hb4.cell hp) _ _ _ hbr')
    · have hb4 := hb2.trans (h3.mono hN2)
      exact eqSs_of els he ihe N E E' ce ce' w3 (Nat.le_trans hN2 h3.size) (RdSs.keep (fun p hp => hb4.cell hp) _ _ _ her) (RdSs.keep (fun p hp => hb4.cell hp) _ _ _ her')
theorem fineSs_eq {l : List St} (hmax : l.length ≤ 9223372036854775807) (h : ∀ e ∈ l, FineS e) : EqSs l := eqSs_of l hmax (fun e he => (h e he).eqS)

theorem kidsT_length (f : List EE → Ex × List EE) : ∀ (k : Nat) (l : List EE), (kidsT f k l).1.length = k
  | 0, _ => rfl
  | k + 1, l => by simp only [kidsT, List.length_cons, kidsT_length f k]
theorem kidsT_all {f : List EE → Ex × List EE} {p : Ex → Prop} (h : ∀ l, p (f l).1) : ∀ (k : Nat) (l : List EE), ∀ e ∈ (kidsT f k l).1, p e
  | 0, _ => fun e he => by simp [kidsT] at he
  | k + 1, l => fun e he => by
    simp only [kidsT, List.mem_cons] at he
    rcases he with rfl | he
    · exact h l
    · exact kidsT_all h k _ e he
theorem exprT_fine (d : Nat) (l : List EE) : Fine (exprT d l).1 := by
  induction d generalizing l with
  | zero =>
    cases l with
    | nil => exact Fine.mk _ _ _ _ _ _ [] (by simp) (fun e he => by simp at he)
    | cons x r => exact Fine.mk _ _ _ _ _ _ [] (by simp) (fun e he => by simp at he)
  | succ d ih =>
    cases l with
    | nil => exact Fine.mk _ _ _ _ _ _ [] (by simp) (fun e he => by simp at he)
    | cons x r => exact Fine.mk _ _ _ _ _ _ _ (by rw [kidsT_length]; omega) (kidsT_all ih _ _)
theorem stmtsK_fine {sub : List EE → List St} (d : Nat) (hs : ∀ l, (sub l).length ≤ 12 ∧ ∀ e ∈ sub l, FineS e) : ∀ (k : Nat) (l : List EE), ∀ e ∈ stmtsK sub d k l, FineS e
  | 0, _ => fun e he => by simp [stmtsK] at he
  | k + 1, [] => fun e he => by simp [stmtsK] at he
  | k + 1, x :: r => fun e he => by
    simp only [stmtsK, List.mem_cons] at he
    rcases he with rfl | he
    · unfold stmtT
      refine FineS.mk _ _ _ _ _ _ _ _ (by rw [List.length_replicate]; omega) (fun e he => ?_) ?_ ?_ ?_ ?_
      · rw [List.eq_of_mem_replicate he]
        exact exprT_fine 2 _
      · split
        · have := (hs r).1; omega
        · simp
      · split
        · exact (hs r).2
        · intro e he; simp at he
      · split
        · have := (hs (r.drop 1)).1; omega
        · simp
      · split
        · exact (hs (r.drop 1)).2
        · intro e he; simp at he
    · exact stmtsK_fine d hs k r e he
theorem stmtsT_fine (d : Nat) (l : List EE) : (stmtsT d l).length ≤ 12 ∧ ∀ e ∈ stmtsT d l, FineS e := by
  induction d generalizing l with
  | zero => exact ⟨by rw [stmtsT_eq, stmtsK_len]; omega, stmtsK_fine 0 (fun l => ⟨by simp, fun e he => by simp at he⟩) 12 l⟩
  | succ d ih => exact ⟨by rw [stmtsT_eq, stmtsK_len]; omega, stmtsK_fine (d + 1) ih 12 l⟩
end Go.Proofs.Ytpnpjlggikdinaa
