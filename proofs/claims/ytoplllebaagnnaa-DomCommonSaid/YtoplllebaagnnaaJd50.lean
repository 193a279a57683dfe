/-
  All five laws of stage 9.
-/
import Derived.Test.YtoplllebaagnnaaJd38
import Derived.Test.YtoplllebaagnnaaJd42
import Derived.Test.YtoplllebaagnnaaJd43
import Derived.Test.YtoplllebaagnnaaJd46
import Derived.Test.YtoplllebaagnnaaJd47
import Derived.Test.YtoplllebaagnnaaJd49
namespace Go.Proofs.Ytoplllebaagnnaa
set_option linter.unusedVariables false
set_option linter.unusedSimpArgs false
end Go.Proofs.Ytoplllebaagnnaa
