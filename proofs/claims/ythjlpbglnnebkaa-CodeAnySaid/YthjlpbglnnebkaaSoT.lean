/-
  Programs that may be: the base over plain data: all that Func asks of its two functions.
-/
import Derived.Test.YthjlpbglnnebkaaSoD
namespace Go.Proofs.Ythjlpbglnnebkaa
open Go.RowKit
set_option linter.unusedVariables false
set_option linter.unusedSimpArgs false

def baseM : SF := ⟨[], 1, [⟨34, 1, [], 0, 0⟩, ⟨1, 1, [], 4, 0⟩, ⟨30, 3, [1], 0, 0⟩, ⟨1, 1, [], 0, 0⟩, ⟨3, 1, [3, 9], 0, 0⟩, ⟨19, 2, [4, 0], 0, 0⟩, ⟨26, 1, [2], 0, 0⟩, ⟨23, 2, [4, 6], 0, 0⟩, ⟨35, 0, [7], 1, 0⟩, ⟨4, 1, [4, 11], 0, 0⟩, ⟨32, 0, [2, 4, 0], 0, 0⟩, ⟨1, 1, [], 1, 0⟩, ⟨29, 1, [2, 3], 0, 0⟩, ⟨33, 0, [12], 0, 0⟩, ⟨36, 1, [12, 5], 0, 1⟩],
  [⟨[0, 1, 2, 3], [], 1, -1, [1]⟩, ⟨[4, 5], [0, 2], 2, 5, [2, 3]⟩, ⟨[11, 6, 7, 8, 10, 9], [1], 1, -1, [1]⟩, ⟨[12, 13, 14], [1], 3, 14, []⟩]⟩
def baseF : SF := ⟨[1, 2], 1, [⟨2, 1, [], 0, 0⟩, ⟨2, 2, [], 1, 0⟩, ⟨15, 1, [0], 0, 0⟩, ⟨25, 1, [1, 0, 2], 0, 0⟩], [⟨[0, 1, 2, 3], [], 3, 3, []⟩]⟩
def baseFs : List SF := [baseM, baseF]
end Go.Proofs.Ythjlpbglnnebkaa
