/-
  Programs as trees, as plain data: which say the same; what the law of layer 3 makes of a list.
  The parser as plain functions of what is left of the words: with fuel, 'none' where it does not suffice.
-/
import Derived.Test.YtiadbeglhnocoaaGreatDoorJb1
import Derived.WalkKit
namespace Go.Proofs.YtiadbeglhnocoaaGreatDoor
set_option linter.unusedVariables false
set_option linter.unusedSimpArgs false
open Go.RowKit

/-- An expression. -/
inductive Ex where
  | mk (kind at_ ty op n : Int) (s : ByteArray) (kids : List Ex)
/-- A statement. -/
inductive St where
  | mk (kind at_ n : Int) (s : ByteArray) (step : Int) (kids : List Ex) (body els : List St)
structure Pa where
  name : ByteArray
  type : Int
structure Fu where
  name : ByteArray
  at_ : Int
  params : List Pa
  ret : Int
  body : List St
  vars : Int

def bytesB (a b : ByteArray) : Bool := a.data.toList == b.data.toList
theorem bytesB_refl (a : ByteArray) : bytesB a a = true := by simp [bytesB]

mutual
def sameE : Ex → Ex → Bool
  | .mk k _ _ o n s l, .mk k' _ _ o' n' s' l' => (k == k') && (o == o') && bytesB s s' && (!(decide (k = 1 ∨ k = 2)) || n == n') && sameEs l l'
def sameEs : List Ex → List Ex → Bool
  | [], [] => true
  | a :: r, b :: t => sameE a b && sameEs r t
  | _, _ => false
end
mutual
def sameS : St → St → Bool
  | .mk k _ _ s p l b e, .mk k' _ _ s' p' l' b' e' => (k == k') && bytesB s s' && (p == p') && sameEs l l' && sameSs b b' && sameSs e e'
def sameSs : List St → List St → Bool
  | [], [] => true
  | a :: r, b :: t => sameS a b && sameSs r t
  | _, _ => false
end
def sameP (a b : Pa) : Bool := bytesB a.name b.name && (a.type == b.type)
def allB {α : Type} (f : α → α → Bool) : List α → List α → Bool
  | [], [] => true
  | a :: r, b :: t => f a b && allB f r t
  | _, _ => false
def sameF (a b : Fu) : Bool := bytesB a.name b.name && (a.ret == b.ret) && allB sameP a.params b.params && sameSs a.body b.body
def sameT (a b : List Fu) : Bool := allB sameF a b

mutual
theorem sameE_refl (a : Ex) : sameE a a = true := by
  cases a
  unfold sameE
  simp [bytesB_refl, sameEs_refl]
theorem sameEs_refl (l : List Ex) : sameEs l l = true := by
  cases l
  · rfl
  · unfold sameEs
    simp [sameE_refl, sameEs_refl]
end
mutual
theorem sameS_refl (a : St) : sameS a a = true := by
  cases a
  unfold sameS
  simp [bytesB_refl, sameEs_refl, sameSs_refl]
theorem sameSs_refl (l : List St) : sameSs l l = true := by
  cases l
  · rfl
  · unfold sameSs
    simp [sameS_refl, sameSs_refl]
end
theorem allB_refl {α : Type} {f : α → α → Bool} (h : ∀ a, f a a = true) (l : List α) : allB f l l = true := by
  induction l with
  | nil => rfl
  | cons a r ih => unfold allB; simp [h, ih]
theorem sameP_refl (a : Pa) : sameP a a = true := by simp [sameP, bytesB_refl]
theorem sameF_refl (a : Fu) : sameF a a = true := by simp [sameF, bytesB_refl, sameSs_refl, allB_refl sameP_refl]
theorem sameT_refl (a : List Fu) : sameT a a = true := allB_refl sameF_refl a
/-- Lists of other lengths say something else. -/
theorem allB_len {α : Type} {f : α → α → Bool} (a b : List α) (h : a.length ≠ b.length) : allB f a b = false := by
  induction a generalizing b with
  | nil => cases b with
    | nil => exact absurd rfl h
    | cons _ _ => rfl
  | cons x r ih => cases b with
    | nil => rfl
    | cons y t =>
      unfold allB
      rw [ih t (fun e => h (by simp [e]))]
      simp
theorem sameEs_all (a b : List Ex) : sameEs a b = allB sameE a b := by
  induction a generalizing b with
  | nil => cases b <;> rfl
  | cons x r ih => cases b with
    | nil => rfl
    | cons y t => unfold sameEs allB; rw [ih]
theorem sameSs_all (a b : List St) : sameSs a b = allB sameS a b := by
  induction a generalizing b with
  | nil => cases b <;> rfl
  | cons x r ih => cases b with
    | nil => rfl
    | cons y t => unfold sameSs allB; rw [ih]

/-- What is asked of an argument of the law: one of its small ones. -/
structure EE where
  kind : Int
  op : Int
  n : Int
  s : ByteArray
  many : Int
/-- A text's first twenty bytes. -/
def cut20 (s : ByteArray) : ByteArray := s.extract 0 (min s.size 20)
def kidsT (f : List EE → Ex × List EE) : Nat → List EE → List Ex × List EE
  | 0, l => ([], l)
  | k + 1, l => ((f l).1 :: (kidsT f k (f l).2).1, (kidsT f k (f l).2).2)
def inputE : Ex := .mk 14 0 0 0 0 ⟨#[]⟩ []
/-- An expression of a list; the rest of the list. -/
def exprT : Nat → List EE → Ex × List EE
  | _, [] => (inputE, [])
  | 0, x :: r => (.mk x.kind 0 0 x.op x.n (cut20 x.s) [], r)
  | d + 1, x :: r => (.mk x.kind 0 0 x.op x.n (cut20 x.s) (kidsT (exprT d) (x.many % 4).toNat r).1, (kidsT (exprT d) (x.many % 4).toNat r).2)
theorem kidsT_len (f : List EE → Ex × List EE) (h : ∀ l, (f l).2.length ≤ l.length) (k : Nat) (l : List EE) : (kidsT f k l).2.length ≤ l.length := by
  induction k generalizing l with
  | zero => exact Nat.le_refl _
  | succ k ih => exact Nat.le_trans (ih _) (h l)
theorem exprT_len (d : Nat) (l : List EE) : (exprT d l).2.length ≤ l.length := by
  induction d generalizing l with
  | zero => cases l <;> simp [exprT]
  | succ d ih =>
    cases l with
    | nil => simp [exprT]
    | cons x r =>
      have := kidsT_len (exprT d) ih (x.many % 4).toNat r
      simp only [exprT, List.length_cons]
      omega
/-- The statement that stands i-th, of what is left from there on. -/
def stmtT (sub : List EE → List St) (deep : Nat) : List EE → St
  | [] => .mk 0 0 0 ⟨#[]⟩ 0 [] [] []
  | x :: r => .mk x.kind 0 0 (cut20 x.s) x.n (List.replicate ((x.many % 2).toNat + 1) (exprT 2 (x :: r)).1) (if deep ≠ 0 ∧ x.many / 2 % 2 = 1 then sub r else []) (if deep ≠ 0 ∧ x.many / 4 % 2 = 1 then sub (r.drop 1) else [])
/-- Statements of a list, at most so many. -/
def stmtsK (sub : List EE → List St) (deep : Nat) : Nat → List EE → List St
  | 0, _ => []
  | _ + 1, [] => []
  | k + 1, x :: r => stmtT sub deep (x :: r) :: stmtsK sub deep k r
def stmtsT : Nat → List EE → List St
  | 0, l => stmtsK (fun _ => []) 0 12 l
  | d + 1, l => stmtsK (stmtsT d) (d + 1) 12 l
end Go.Proofs.YtiadbeglhnocoaaGreatDoor
namespace Go.Proofs.YtiadbeglhnocoaaGreatDoor
set_option linter.unusedVariables false
set_option linter.unusedSimpArgs false
open Go.RowKit

/-- Where the parser stands: the words that are left, the first fault, how deep it is. -/
structure PS where
  left : List Tk
  fk : Int
  fa : Int
  deep : Int
  nest : Int
abbrev Part := Ex × Int
def PS.now (s : PS) : Tk := match s.left with
  | [] => Tk.none
  | t :: _ => t
def PS.next (s : PS) : PS := if s.now.kind = 0 then s else { s with left := s.left.tail }
def PS.fail (s : PS) (k a : Int) : PS := { s with left := [], fk := if s.fk = 0 then k else s.fk, fa := if s.fk = 0 then a else s.fa }
def PS.refuse (s : PS) (t : Tk) : PS := s.fail 2 t.at_
def PS.isB (s : PS) (x : List UInt8) : Bool := s.now.bytes == x
def PS.takeP (s : PS) (x : List UInt8) : PS := if s.isB x = true then s.next else s
def PS.need1 (s : PS) (x : List UInt8) : PS := if s.isB x = true then s.next else s.refuse s.now
def PS.needs : List (List UInt8) → PS → PS
  | [], s => s
  | x :: r, s => PS.needs r (s.need1 x)
def PS.nameP (s : PS) : PS := if s.now.kind = 1 then s.next else s.next.refuse s.now
def PS.enter (s : PS) : PS := if s.nest + 1 > 1024 then ({ s with nest := s.nest + 1 } : PS).fail 4 s.now.at_ else { s with nest := s.nest + 1 }
def PS.leave (s : PS) : PS := { s with nest := s.nest - 1 }
def strB (l : List UInt8) : ByteArray := ⟨l.toArray⟩
def rankOf (x : List UInt8) : Int := if x == [124, 124] then 1 else if x == [38, 38] then 2 else if x == [61, 61] then 3 else if x == [33, 61] then 3 else if x == [60] then 3 else if x == [60, 61] then 3 else if x == [62] then 3 else if x == [62, 61] then 3 else if x == [124] then 4 else if x == [94] then 4 else if x == [38] then 5 else if x == [60, 60] then 6 else if x == [62, 62] then 6 else if x == [62, 62, 62] then 6 else if x == [43] then 7 else if x == [45] then 7 else if x == [42] then 8 else if x == [47] then 8 else if x == [37] then 8 else 0
def kindOf (r : Int) : Int := if r = 1 then 7 else if r = 2 then 6 else 5
def opOf (x : List UInt8) : Int := if x == [124] then 10 else if x == [94] then 11 else if x == [38] then 9 else if x == [60, 60] then 12 else if x == [62, 62] then 13 else if x == [62, 62, 62] then 14 else if x == [43] then 4 else if x == [45] then 5 else if x == [42] then 6 else if x == [47] then 7 else if x == [37] then 8 else if x == [61, 61] then 17 else if x == [33, 61] then 18 else if x == [60] then 19 else if x == [60, 61] then 20 else if x == [62] then 21 else if x == [62, 61] then 22 else 0
def turnOf (x : List UInt8) : Int := if x == [45] then 15 else if x == [126] then 16 else if x == [33] then 24 else 0
/-- The greatest depth of parts. -/
def deepest : List Part → Int
  | [] => 0
  | p :: r => max p.2 (deepest r)
def wholeP (s : PS) (k a o n : Int) (x : ByteArray) (l : List Part) : Part × PS :=
  ((.mk k a 0 o n x (l.map Prod.fst), deepest l + 1), if s.deep + (deepest l + 1) > 256 then s.fail 4 a else s)
def countedP (lo hi : Nat) (s : PS) (k a o n : Int) (x : ByteArray) (l : List Part) : Part × PS :=
  wholeP (if l.length < lo ∨ hi < l.length then s.fail 2 a else s) k a o n x l
def exK : Ex → Int
  | .mk k _ _ _ _ _ _ => k
mutual
def exprK : Nat → PS → Option (Part × PS)
  | 0, _ => none
  | k + 1, s => betwK k 1 s
def betwK : Nat → Int → PS → Option (Part × PS)
  | 0, _, _ => none
  | k + 1, least, s => match aheadK k s with
    | none => none
    | some (l, s1) => loopK k least l s1
def loopK : Nat → Int → Part → PS → Option (Part × PS)
  | 0, _, _, _ => none
  | k + 1, least, l, s =>
    if rankOf s.now.bytes < least then some (l, s) else
      match betwK k (rankOf s.now.bytes + 1) s.next with
      | none => none
      | some (r, s2) =>
        let p := wholeP s2 (kindOf (rankOf s.now.bytes)) s.now.at_ (opOf s.now.bytes) 0 ⟨#[]⟩ [l, r]
        loopK k least p.1 (if rankOf s.now.bytes = 3 ∧ rankOf p.2.now.bytes = 3 then p.2.refuse p.2.now else p.2)
def aheadK : Nat → PS → Option (Part × PS)
  | 0, _ => none
  | k + 1, s =>
    if turnOf s.now.bytes = 0 then
      match firstK k s with
      | none => none
      | some (f, s1) => indexK k f s1
    else
      match aheadK k s.next.enter with
      | none => none
      | some (x, s2) => let p := wholeP s2 4 s.now.at_ (turnOf s.now.bytes) 0 ⟨#[]⟩ [x]; some (p.1, p.2.leave)
def indexK : Nat → Part → PS → Option (Part × PS)
  | 0, _, _ => none
  | k + 1, f, s =>
    if s.isB ([91] : List UInt8) = true then
      match partsK k ([91] : List UInt8) ([93] : List UInt8) s with
      | none => none
      | some (l, s1) => let p := countedP 2 3 s1 9 s.now.at_ 0 0 ⟨#[]⟩ (f :: l); indexK k p.1 p.2
    else some (f, s)
def partsK : Nat → List UInt8 → List UInt8 → PS → Option (List Part × PS)
  | 0, _, _, _ => none
  | k + 1, o, e, s =>
    if (s.need1 o).enter.isB e = true then some ([], ((s.need1 o).enter.need1 e).leave)
    else match manyK k [] (s.need1 o).enter with
    | none => none
    | some (l, s2) => some (l, (s2.need1 e).leave)
def manyK : Nat → List Part → PS → Option (List Part × PS)
  | 0, _, _ => none
  | k + 1, l, s => match exprK k s with
    | none => none
    | some (x, s1) => if s1.isB ([44] : List UInt8) = true then manyK k (l ++ [x]) s1.next else some (l ++ [x], s1)
def firstK : Nat → PS → Option (Part × PS)
  | 0, _ => none
  | k + 1, s =>
    if s.isB ([40] : List UInt8) = true then
      match exprK k (s.need1 ([40] : List UInt8)).enter with
      | none => none
      | some (x, s2) => some (x, (s2.need1 ([41] : List UInt8)).leave)
    else if s.now.kind = 2 then some (wholeP s.next 1 s.now.at_ 0 s.now.num ⟨#[]⟩ [])
    else if s.now.kind = 1 then calledK k s.now s.next
    else keptK k s.now s.next
def calledK : Nat → Tk → PS → Option (Part × PS)
  | 0, _, _ => none
  | k + 1, t, s =>
    if s.isB ([40] : List UInt8) = true then
      match partsK k ([40] : List UInt8) ([41] : List UInt8) s with
      | none => none
      | some (l, s1) => some (wholeP s1 8 t.at_ 0 0 (strB t.bytes) l)
    else some (wholeP s 3 t.at_ 0 0 (strB t.bytes) [])
def keptK : Nat → Tk → PS → Option (Part × PS)
  | 0, _, _ => none
  | k + 1, t, s =>
    if t.bytes == ([116, 114, 117, 101] : List UInt8) then some (wholeP s 2 t.at_ 0 1 ⟨#[]⟩ [])
    else if t.bytes == ([102, 97, 108, 115, 101] : List UInt8) then some (wholeP s 2 t.at_ 0 0 ⟨#[]⟩ [])
    else if t.bytes == ([105, 110, 112, 117, 116] : List UInt8) then some (wholeP s 14 t.at_ 0 0 ⟨#[]⟩ [])
    else if t.bytes == ([110, 101, 119] : List UInt8) then
      match partsK k ([91] : List UInt8) ([93] : List UInt8) s with
      | none => none
      | some (l, s1) => some (countedP 1 2 s1 10 t.at_ 0 0 ⟨#[]⟩ l)
    else if t.bytes == ([108, 101, 110] : List UInt8) ∨ t.bytes == ([114, 111, 119, 115] : List UInt8) ∨ t.bytes == ([99, 111, 108, 115] : List UInt8) then
      match partsK k ([40] : List UInt8) ([41] : List UInt8) s with
      | none => none
      | some (l, s1) => some (countedP 1 1 s1 (if t.bytes == ([108, 101, 110] : List UInt8) then 11 else if t.bytes == ([114, 111, 119, 115] : List UInt8) then 12 else 13) t.at_ 0 0 ⟨#[]⟩ l)
    else some (wholeP (s.refuse t) 0 t.at_ 0 0 ⟨#[]⟩ [])
end
def stepP (s : PS) : Int × PS :=
  if s.isB ([115, 116, 101, 112] : List UInt8) = true then
    let s2 := s.next.takeP ([45] : List UInt8)
    let s4 := if s2.now.kind ≠ 2 ∨ s2.now.num = 0 then s2.next.refuse s2.now else s2.next
    (if s.next.isB ([45] : List UInt8) = true then wrap64 (-s2.now.num) else s2.now.num, s4)
  else (1, s)
def StK (k : Int) (s : St) : Prop := match s with
  | .mk k' _ _ _ _ _ _ _ => k = k'
mutual
def blockK : Nat → PS → Option (List St × PS)
  | 0, _ => none
  | k + 1, s => match stmtsFK k [] (s.need1 ([123] : List UInt8)).enter with
    | none => none
    | some (l, s2) => some (l, (s2.need1 ([125] : List UInt8)).leave)
def stmtsFK : Nat → List St → PS → Option (List St × PS)
  | 0, _, _ => none
  | k + 1, l, s =>
    if s.isB ([125] : List UInt8) = true ∨ s.now.kind = 0 then some (l, s)
    else match stmtK k s with
    | none => none
    | some (x, s1) => stmtsFK k (l ++ [x]) s1
def stmtK : Nat → PS → Option (St × PS)
  | 0, _ => none
  | k + 1, s =>
    let s2 := if s.deep + 1 > 256 then ({ s with deep := s.deep + 1 } : PS).fail 4 s.now.at_ else { s with deep := s.deep + 1 }
    match (if s2.isB ([105, 102] : List UInt8) = true then choiceK k s.now.at_ s2
      else if s2.isB ([119, 104, 105, 108, 101] : List UInt8) = true then whileK k s.now.at_ s2
      else if s2.isB ([102, 111, 114] : List UInt8) = true then countK k s.now.at_ s2
      else match simpleK k s.now.at_ s2 with
        | none => none
        | some (x, s3) => some (x, s3.need1 ([59] : List UInt8))) with
    | none => none
    | some (x, s3) => some (x, { s3 with deep := s3.deep - 1 })
def choiceK : Nat → Int → PS → Option (St × PS)
  | 0, _, _ => none
  | k + 1, a, s => match exprK k (s.need1 ([105, 102] : List UInt8)) with
    | none => none
    | some (x, s2) => match blockK k s2 with
      | none => none
      | some (b, s3) =>
        if s3.isB ([101, 108, 115, 101] : List UInt8) = true then
          match elseK k s3.next with
          | none => none
          | some (e, s4) => some (.mk 4 a 0 ⟨#[]⟩ 0 [x.1] b e, s4)
        else some (.mk 4 a 0 ⟨#[]⟩ 0 [x.1] b [], s3)
def elseK : Nat → PS → Option (List St × PS)
  | 0, _ => none
  | k + 1, s =>
    if s.isB ([105, 102] : List UInt8) = true then
      match stmtK k s.enter with
      | none => none
      | some (x, s2) => some ([x], s2.leave)
    else blockK k s
def whileK : Nat → Int → PS → Option (St × PS)
  | 0, _, _ => none
  | k + 1, a, s => match exprK k (s.need1 ([119, 104, 105, 108, 101] : List UInt8)) with
    | none => none
    | some (x, s2) => match blockK k s2 with
      | none => none
      | some (b, s3) => some (.mk 5 a 0 ⟨#[]⟩ 0 [x.1] b [], s3)
def countK : Nat → Int → PS → Option (St × PS)
  | 0, _, _ => none
  | k + 1, a, s =>
    let s1 := s.need1 ([102, 111, 114] : List UInt8)
    match exprK k (s1.nameP.need1 ([61] : List UInt8)) with
    | none => none
    | some (x, s2) => match exprK k (s2.need1 ([116, 111] : List UInt8)) with
      | none => none
      | some (y, s3) => match blockK k (stepP s3).2 with
        | none => none
        | some (b, s4) => some (.mk 6 a 0 (strB s1.now.bytes) (stepP s3).1 [x.1, y.1] b [], s4)
def simpleK : Nat → Int → PS → Option (St × PS)
  | 0, _, _ => none
  | k + 1, a, s =>
    let t := s.now
    let s1 := s.next
    if t.kind = 1 then namedK k a t s1
    else if t.bytes == ([118, 97, 114] : List UInt8) then
      match exprK k (s1.nameP.need1 ([61] : List UInt8)) with
      | none => none
      | some (x, s2) => some (.mk 1 a 0 (strB s1.now.bytes) 0 [x.1] [] [], s2)
    else if t.bytes == ([98, 114, 101, 97, 107] : List UInt8) then some (.mk 7 a 0 ⟨#[]⟩ 0 [] [] [], s1)
    else if t.bytes == ([99, 111, 110, 116, 105, 110, 117, 101] : List UInt8) then some (.mk 8 a 0 ⟨#[]⟩ 0 [] [] [], s1)
    else if t.bytes == ([114, 101, 116, 117, 114, 110] : List UInt8) then
      if s1.isB ([59] : List UInt8) = true then some (.mk 9 a 0 ⟨#[]⟩ 0 [] [] [], s1)
      else match exprK k s1 with
      | none => none
      | some (x, s2) => some (.mk 9 a 0 ⟨#[]⟩ 0 [x.1] [] [], s2)
    else if t.bytes == ([112, 114, 105, 110, 116] : List UInt8) then
      match exprK k s1 with
      | none => none
      | some (x, s2) => some (.mk 10 a 0 ⟨#[]⟩ 0 [x.1] [] [], s2)
    else some (.mk 0 a 0 ⟨#[]⟩ 0 [] [] [], s1.refuse t)
def namedK : Nat → Int → Tk → PS → Option (St × PS)
  | 0, _, _, _ => none
  | k + 1, a, t, s =>
    if s.isB ([61] : List UInt8) = true then
      match exprK k s.next with
      | none => none
      | some (x, s2) => some (.mk 2 a 0 (strB t.bytes) 0 [x.1] [] [], s2)
    else if s.isB ([40] : List UInt8) = true ∨ s.isB ([91] : List UInt8) = true then
      match calledK k t s with
      | none => none
      | some (p, s1) => match indexK k p s1 with
        | none => none
        | some (q, s2) =>
          if exK q.1 = 8 then some (.mk 11 a 0 ⟨#[]⟩ 0 [q.1] [] [], s2)
          else match exprK k (s2.need1 ([61] : List UInt8)) with
          | none => none
          | some (y, s3) => some (.mk 3 a 0 ⟨#[]⟩ 0 [q.1, y.1] [] [], s3)
    else some (.mk 0 a 0 ⟨#[]⟩ 0 [] [] [], s.refuse s.now)
end
/-- A type. -/
def typeP (s : PS) : Int × PS :=
  if s.isB ([105, 110, 116] : List UInt8) = true then (1, s.next)
  else if s.isB ([98, 111, 111, 108] : List UInt8) = true then (2, s.next)
  else if (s.need1 ([91] : List UInt8)).isB ([105, 110, 116] : List UInt8) = true then (3, (s.need1 ([91] : List UInt8)).next.need1 ([93] : List UInt8))
  else (4, PS.needs [([91] : List UInt8), ([105, 110, 116] : List UInt8), ([93] : List UInt8), ([93] : List UInt8)] (s.need1 ([91] : List UInt8)))
def paramP (s : PS) : Pa × PS := (⟨strB s.now.bytes, (typeP (s.nameP.need1 ([58] : List UInt8))).1⟩, (typeP (s.nameP.need1 ([58] : List UInt8))).2)
/-- One more argument. -/
def argP (l : List Pa) (s : PS) : List Pa × PS :=
  let s1 := if l.length = 16 then s.fail 4 s.now.at_ else s
  (l ++ [(paramP s1).1], (paramP s1).2)
def argsK : Nat → List Pa → PS → Option (List Pa × PS)
  | 0, _, _ => none
  | k + 1, l, s => if (argP l s).2.isB ([44] : List UInt8) = true then argsK k (argP l s).1 (argP l s).2.next else some (argP l s)
def paramsK (k : Nat) (s : PS) : Option (List Pa × PS) :=
  if (s.need1 ([40] : List UInt8)).enter.isB ([41] : List UInt8) = true then some ([], ((s.need1 ([40] : List UInt8)).enter.need1 ([41] : List UInt8)).leave)
  else match argsK k [] (s.need1 ([40] : List UInt8)).enter with
  | none => none
  | some (l, s2) => some (l, (s2.need1 ([41] : List UInt8)).leave)
def fnK (k : Nat) (s : PS) : Option (Fu × PS) :=
  let s1 := s.need1 ([102, 110] : List UInt8)
  match paramsK k s1.nameP with
  | none => none
  | some (l, s2) =>
    let r : Int × PS := if s2.isB ([58] : List UInt8) = true then typeP s2.next else (0, s2)
    match blockK k r.2 with
    | none => none
    | some (b, s3) => some (⟨strB s1.now.bytes, s.now.at_, l, r.1, b, 0⟩, s3)
def progK : Nat → List Fu → PS → Option (List Fu × PS)
  | 0, _, _ => none
  | k + 1, l, s =>
    if s.now.kind = 0 then some (l, s)
    else match fnK k (if l.length = 256 then s.fail 4 s.now.at_ else s) with
    | none => none
    | some (f, s1) => progK k (l ++ [f]) s1
end Go.Proofs.YtiadbeglhnocoaaGreatDoor
