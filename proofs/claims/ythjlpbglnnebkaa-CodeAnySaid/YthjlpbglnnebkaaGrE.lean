/-
  graph.Post: how blocks are left.
-/
import Derived.Test.YthjlpbglnnebkaaGrD
namespace Go.Proofs.Ythjlpbglnnebkaa
open Go.RowKit
set_option linter.unusedVariables false
set_option linter.unusedSimpArgs false

end Go.Proofs.Ythjlpbglnnebkaa
