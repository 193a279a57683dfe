/-
  Programs as texts, as plain functions: what package tree prints.
-/
import Derived.Test.YtiadbeglhnocoaaGreatDoorJb6
import Derived.Test.YtiadbeglhnocoaaGreatDoorJb7
namespace Go.Proofs.YtiadbeglhnocoaaGreatDoor
set_option linter.unusedVariables false
set_option linter.unusedSimpArgs false
open Go.RowKit

/-- A number's bits as a number from 0 on. -/
def u64M (n : Int) : Nat := (n % 18446744073709551616).toNat
theorem u64M_lt (n : Int) : u64M n < 18446744073709551616 := by unfold u64M; omega
theorem u64M_wrap (n : Int) : IntKind.u64.wrap n = (u64M n : Int) := by rw [IntKind.wrap_u64]; unfold u64M; omega
def digM (n : Int) : List UInt8 := Lib.decDigits (u64M n)
/-- Texts with a comma between them. -/
def jn : List (List UInt8) → List UInt8
  | [] => []
  | [x] => x
  | x :: y :: r => x ++ ([44, 32] ++ jn (y :: r))
theorem jn_snoc (l : List (List UInt8)) (x : List UInt8) : jn (l ++ [x]) = if l = [] then x else jn l ++ ([44, 32] ++ x) := by
  induction l with
  | nil => rfl
  | cons a r ih =>
    cases r with
    | nil => simp [jn]
    | cons b r =>
      have h1 : jn ((a :: b :: r) ++ [x]) = a ++ ([44, 32] ++ jn ((b :: r) ++ [x])) := rfl
      rw [h1, ih]
      simp [jn]
def lsP (o : List UInt8) (ks : List (List UInt8)) (c : List UInt8) : List UInt8 := o ++ jn ks ++ c
def pairP (ks : List (List UInt8)) (sg : List UInt8) : List UInt8 := lsP [40] (ks.take 1) ([32] ++ sg ++ [32]) ++ lsP [] ((ks.drop 1).take 1) [41]
def sgnB (op : Int) : List UInt8 := (signA op).data.toList
def truthB (n : Int) : List UInt8 := if n = 0 then [102, 97, 108, 115, 101] else [116, 114, 117, 101]
/-- An expression, by what its kids are as texts. -/
def prK (k op n : Int) (s : List UInt8) (ks : List (List UInt8)) : List UInt8 :=
  if k = 1 then digM n else if k = 2 then truthB n else if k = 3 then s
  else if k = 4 then lsP ([40] ++ sgnB op) (ks.take 1) [41]
  else if k = 5 then pairP ks (sgnB op)
  else if k = 6 then pairP ks [38, 38]
  else if k = 7 then pairP ks [124, 124]
  else if k = 8 then lsP (s ++ [40]) ks [41]
  else if k = 9 then lsP [] (ks.take 1) [] ++ lsP [91] (ks.drop 1) [93]
  else if k = 10 then lsP [110, 101, 119, 32, 91] ks [93]
  else if k = 11 then lsP [108, 101, 110, 40] (ks.take 1) [41]
  else if k = 12 then lsP [114, 111, 119, 115, 40] (ks.take 1) [41]
  else if k = 13 then lsP [99, 111, 108, 115, 40] (ks.take 1) [41]
  else if k = 14 then [105, 110, 112, 117, 116]
  else []
mutual
def prE : Ex → List UInt8
  | .mk k _ _ op n s kids => prK k op n s.data.toList (prEs kids)
def prEs : List Ex → List (List UInt8)
  | [] => []
  | e :: r => prE e :: prEs r
end
theorem prEs_map (l : List Ex) : prEs l = l.map prE := by
  induction l with
  | nil => rfl
  | cons e r ih => simp only [prEs, List.map_cons, ih]
/-- A line. -/
def lnP (d : Nat) (ws : List (List UInt8)) : List UInt8 := List.replicate d 9 ++ ws.flatten ++ [10]
def kidP (ks : List Ex) (i : Nat) : List UInt8 := match ks[i]? with
  | some e => prE e
  | none => []
def stepB (n : Int) : List UInt8 := if n = 1 then [] else if n < 0 then [32, 115, 116, 101, 112, 32, 45] ++ digM (wrap64 (-n)) else [32, 115, 116, 101, 112, 32] ++ digM n
mutual
def prS (d : Nat) : St → List UInt8
  | .mk k _ _ s p kids body els =>
    if k = 1 then lnP d [[118, 97, 114, 32], s.data.toList, [32, 61, 32], kidP kids 0, [59]]
    else if k = 2 then lnP d [s.data.toList, [32, 61, 32], kidP kids 0, [59]]
    else if k = 3 then lnP d [kidP kids 0, [32, 61, 32], kidP kids 1, [59]]
    else if k = 4 then lnP d [[105, 102, 32], kidP kids 0, [32, 123]] ++ prSs (d + 1) body ++ (if els.isEmpty = true then [] else lnP d [[125, 32, 101, 108, 115, 101, 32, 123]] ++ prSs (d + 1) els) ++ lnP d [[125]]
    else if k = 5 then lnP d [[119, 104, 105, 108, 101, 32], kidP kids 0, [32, 123]] ++ prSs (d + 1) body ++ lnP d [[125]]
    else if k = 6 then lnP d [[102, 111, 114, 32], s.data.toList, [32, 61, 32], kidP kids 0, [32, 116, 111, 32], kidP kids 1, stepB p, [32, 123]] ++ prSs (d + 1) body ++ lnP d [[125]]
    else if k = 7 then lnP d [[98, 114, 101, 97, 107, 59]]
    else if k = 8 then lnP d [[99, 111, 110, 116, 105, 110, 117, 101, 59]]
    else if k = 9 then (if kids.isEmpty = true then lnP d [[114, 101, 116, 117, 114, 110, 59]] else lnP d [[114, 101, 116, 117, 114, 110, 32], kidP kids 0, [59]])
    else if k = 10 then lnP d [[112, 114, 105, 110, 116, 32], kidP kids 0, [59]]
    else if k = 11 then lnP d [kidP kids 0, [59]]
    else []
def prSs (d : Nat) : List St → List UInt8
  | [] => []
  | s :: r => prS d s ++ prSs d r
end
def typB (t : Int) : List UInt8 := (typeA t).data.toList
def paB (p : Pa) : List UInt8 := p.name.data.toList ++ [58, 32] ++ typB p.type
def resB (t : Int) : List UInt8 := if t = 0 then [] else [58, 32] ++ typB t
def prF (f : Fu) : List UInt8 := lnP 0 [[102, 110, 32], f.name.data.toList, [40], jn (f.params.map paB), [41], resB f.ret, [32, 123]] ++ prSs 1 f.body ++ lnP 0 [[125]]
def prT : List Fu → List UInt8
  | [] => []
  | f :: r => prF f ++ prT r
end Go.Proofs.YtiadbeglhnocoaaGreatDoor
