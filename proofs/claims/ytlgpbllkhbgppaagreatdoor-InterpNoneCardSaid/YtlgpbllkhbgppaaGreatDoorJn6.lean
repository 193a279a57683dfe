/-
  Programs as trees, as plain data: which say the same; what the law of layer 3 makes of a list.
-/
import Derived.WalkKit
namespace Go.Proofs.YtlgpbllkhbgppaaGreatDoor
set_option linter.unusedVariables false
set_option linter.unusedSimpArgs false
open Go.RowKit

/-- An expression. -/
inductive Ex where
  | mk (kind at_ ty op n : Int) (s : ByteArray) (kids : List Ex)
/-- A statement. -/
inductive St where
  | mk (kind at_ n : Int) (s : ByteArray) (step : Int) (kids : List Ex) (body els : List St)
structure Pa where
  name : ByteArray
  type : Int
structure Fu where
  name : ByteArray
  at_ : Int
  params : List Pa
  ret : Int
  body : List St
  vars : Int

def bytesB (a b : ByteArray) : Bool := a.data.toList == b.data.toList
theorem bytesB_refl (a : ByteArray) : bytesB a a = true := by simp [bytesB]

mutual
def sameE : Ex → Ex → Bool
  | .mk k _ _ o n s l, .mk k' _ _ o' n' s' l' => (k == k') && (o == o') && bytesB s s' && (!(decide (k = 1 ∨ k = 2)) || n == n') && sameEs l l'
def sameEs : List Ex → List Ex → Bool
  | [], [] => true
  | a :: r, b :: t => sameE a b && sameEs r t
  | _, _ => false
end
mutual
def sameS : St → St → Bool
  | .mk k _ _ s p l b e, .mk k' _ _ s' p' l' b' e' => (k == k') && bytesB s s' && (p == p') && sameEs l l' && sameSs b b' && sameSs e e'
def sameSs : List St → List St → Bool
  | [], [] => true
  | a :: r, b :: t => sameS a b && sameSs r t
  | _, _ => false
end
def sameP (a b : Pa) : Bool := bytesB a.name b.name && (a.type == b.type)
def allB {α : Type} (f : α → α → Bool) : List α → List α → Bool
  | [], [] => true
  | a :: r, b :: t => f a b && allB f r t
  | _, _ => false
def sameF (a b : Fu) : Bool := bytesB a.name b.name && (a.ret == b.ret) && allB sameP a.params b.params && sameSs a.body b.body
def sameT (a b : List Fu) : Bool := allB sameF a b

mutual
theorem sameE_refl (a : Ex) : sameE a a = true := by
  cases a
  unfold sameE
  simp [bytesB_refl, sameEs_refl]
theorem sameEs_refl (l : List Ex) : sameEs l l = true := by
  cases l
  · rfl
  · unfold sameEs
    simp [sameE_refl, sameEs_refl]
end
mutual
theorem sameS_refl (a : St) : sameS a a = true := by
  cases a
  unfold sameS
  simp [bytesB_refl, sameEs_refl, sameSs_refl]
theorem sameSs_refl (l : List St) : sameSs l l = true := by
  cases l
  · rfl
  · unfold sameSs
    simp [sameS_refl, sameSs_refl]
end
theorem allB_refl {α : Type} {f : α → α → Bool} (h : ∀ a, f a a = true) (l : List α) : allB f l l = true := by
  induction l with
  | nil => rfl
  | cons a r ih => unfold allB; simp [h, ih]
theorem sameP_refl (a : Pa) : sameP a a = true := by simp [sameP, bytesB_refl]
theorem sameF_refl (a : Fu) : sameF a a = true := by simp [sameF, bytesB_refl, sameSs_refl, allB_refl sameP_refl]
theorem sameT_refl (a : List Fu) : sameT a a = true := allB_refl sameF_refl a
/-- Lists of other lengths say something else. -/
theorem allB_len {α : Type} {f : α → α → Bool} (a b : List α) (h : a.length ≠ b.length) : allB f a b = false := by
  induction a generalizing b with
  | nil => cases b with
    | nil => exact absurd rfl h
    | cons _ _ => rfl
  | cons x r ih => cases b with
    | nil => rfl
    | cons y t =>
      unfold allB
      rw [ih t (fun e => h (by simp [e]))]
      simp
theorem sameEs_all (a b : List Ex) : sameEs a b = allB sameE a b := by
  induction a generalizing b with
  | nil => cases b <;> rfl
  | cons x r ih => cases b with
    | nil => rfl
    | cons y t => unfold sameEs allB; rw [ih]
theorem sameSs_all (a b : List St) : sameSs a b = allB sameS a b := by
  induction a generalizing b with
  | nil => cases b <;> rfl
  | cons x r ih => cases b with
    | nil => rfl
    | cons y t => unfold sameSs allB; rw [ih]

/-- What is asked of an argument of the law: one of its small ones. -/
structure EE where
  kind : Int
  op : Int
  n : Int
  s : ByteArray
  many : Int
/-- A text's first twenty bytes. -/
def cut20 (s : ByteArray) : ByteArray := s.extract 0 (min s.size 20)
def kidsT (f : List EE → Ex × List EE) : Nat → List EE → List Ex × List EE
  | 0, l => ([], l)
  | k + 1, l => ((f l).1 :: (kidsT f k (f l).2).1, (kidsT f k (f l).2).2)
def inputE : Ex := .mk 14 0 0 0 0 ⟨#[]⟩ []
/-- An expression of a list; the rest of the list. -/
def exprT : Nat → List EE → Ex × List EE
  | _, [] => (inputE, [])
  | 0, x :: r => (.mk x.kind 0 0 x.op x.n (cut20 x.s) [], r)
  | d + 1, x :: r => (.mk x.kind 0 0 x.op x.n (cut20 x.s) (kidsT (exprT d) (x.many % 4).toNat r).1, (kidsT (exprT d) (x.many % 4).toNat r).2)
theorem kidsT_len (f : List EE → Ex × List EE) (h : ∀ l, (f l).2.length ≤ l.length) (k : Nat) (l : List EE) : (kidsT f k l).2.length ≤ l.length := by
  induction k generalizing l with
  | zero => exact Nat.le_refl _
  | succ k ih => exact Nat.le_trans (ih _) (h l)
theorem exprT_len (d : Nat) (l : List EE) : (exprT d l).2.length ≤ l.length := by
  induction d generalizing l with
  | zero => cases l <;> simp [exprT]
  | succ d ih =>
    cases l with
    | nil => simp [exprT]
    | cons x r =>
      have := kidsT_len (exprT d) ih (x.many % 4).toNat r
      simp only [exprT, List.length_cons]
      omega
/-- The statement that stands i-th, of what is left from there on. -/
def stmtT (sub : List EE → List St) (deep : Nat) : List EE → St
  | [] => .mk 0 0 0 ⟨#[]⟩ 0 [] [] []
  | x :: r => .mk x.kind 0 0 (cut20 x.s) x.n (List.replicate ((x.many % 2).toNat + 1) (exprT 2 (x :: r)).1) (if deep ≠ 0 ∧ x.many / 2 % 2 = 1 then sub r else []) (if deep ≠ 0 ∧ x.many / 4 % 2 = 1 then sub (r.drop 1) else [])
/-- Statements of a list, at most so many. -/
def stmtsK (sub : List EE → List St) (deep : Nat) : Nat → List EE → List St
  | 0, _ => []
  | _ + 1, [] => []
  | k + 1, x :: r => stmtT sub deep (x :: r) :: stmtsK sub deep k r
def stmtsT : Nat → List EE → List St
  | 0, l => stmtsK (fun _ => []) 0 12 l
  | d + 1, l => stmtsK (stmtsT d) (d + 1) 12 l
end Go.Proofs.YtlgpbllkhbgppaaGreatDoor
