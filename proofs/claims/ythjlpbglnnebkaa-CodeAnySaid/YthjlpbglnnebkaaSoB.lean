/-
  Programs that may be: asks, goes.
-/
import Derived.Test.YthjlpbglnnebkaaSoA
namespace Go.Proofs.Ythjlpbglnnebkaa
open Go.RowKit
set_option linter.unusedVariables false
set_option linter.unusedSimpArgs false

attribute [local go_sem] Oper.semAt_some

def asksP (r kind arg : Int) (ni : Nat) : Bool := if hasArgP r kind then decide (0 ≤ arg) && decide (arg < ni) else arg == -1
def manyS (kind : Int) : Option Int := if kind = 1 then some 1 else if kind = 2 then some 2 else if kind = 3 then some 0 else none
def inB (bn : Nat) (t : Int) : Bool := decide (1 ≤ t) && decide (t < bn)
def goesP (bn : Nat) (kind : Int) (to_ : List Int) : Bool := match manyS kind with
  | none => false
  | some m => if (to_.length : Int) = m then (if m = 2 ∧ to_.getD 0 0 = to_.getD 1 0 then false else to_.all (inB bn)) else false
end Go.Proofs.Ythjlpbglnnebkaa
