/-
  Programs that may be: shaped.
-/
import Derived.Test.YthjlpbglnnebkaaSoB
namespace Go.Proofs.Ythjlpbglnnebkaa
open Go.RowKit
set_option linter.unusedVariables false
set_option linter.unusedSimpArgs false

def okTerm (bn : Nat) (r : Int) (ni : Nat) (d : SB) : Bool := goesP bn d.kind d.to_ && asksP r d.kind d.arg ni
def shapedP (r : Int) (ni : Nat) (bl : List SB) : Bool := bl.all (okTerm bl.length r ni) && decide (0 < bl.length)
end Go.Proofs.Ythjlpbglnnebkaa
