/-
  Programs that may be: the base over plain data: all that Func asks of its two functions.
  The base's two runs, step by step.
-/
import Derived.Test.YtagagpappjkgbaaJx1
import Derived.Test.YtagagpappjkgbaaJx3
namespace Go.Proofs.Ytagagpappjkgbaa
set_option linter.unusedVariables false
set_option linter.unusedSimpArgs false
open Go.RowKit

def baseM : SF := ⟨[], 1, [⟨34, 1, [], 0, 0⟩, ⟨1, 1, [], 4, 0⟩, ⟨30, 3, [1], 0, 0⟩, ⟨1, 1, [], 0, 0⟩, ⟨3, 1, [3, 9], 0, 0⟩, ⟨19, 2, [4, 0], 0, 0⟩, ⟨26, 1, [2], 0, 0⟩, ⟨23, 2, [4, 6], 0, 0⟩, ⟨35, 0, [7], 1, 0⟩, ⟨4, 1, [4, 11], 0, 0⟩, ⟨32, 0, [2, 4, 0], 0, 0⟩, ⟨1, 1, [], 1, 0⟩, ⟨29, 1, [2, 3], 0, 0⟩, ⟨33, 0, [12], 0, 0⟩, ⟨36, 1, [12, 5], 0, 1⟩],
  [⟨[0, 1, 2, 3], [], 1, -1, [1]⟩, ⟨[4, 5], [0, 2], 2, 5, [2, 3]⟩, ⟨[11, 6, 7, 8, 10, 9], [1], 1, -1, [1]⟩, ⟨[12, 13, 14], [1], 3, 14, []⟩]⟩
def baseF : SF := ⟨[1, 2], 1, [⟨2, 1, [], 0, 0⟩, ⟨2, 2, [], 1, 0⟩, ⟨15, 1, [0], 0, 0⟩, ⟨25, 1, [1, 0, 2], 0, 0⟩], [⟨[0, 1, 2, 3], [], 3, 3, []⟩]⟩
def baseFs : List SF := [baseM, baseF]
end Go.Proofs.Ytagagpappjkgbaa
namespace Go.Proofs.Ytagagpappjkgbaa
set_option linter.unusedVariables false
set_option linter.unusedSimpArgs false
open Go.RowKit

def pn (n d : Int) : XPl := ⟨⟨n, none⟩, d⟩
def cm0 : List (Int × Int) := [(0, 0), (0, 0), (1, 0), (0, 0)]
def cm1 : List (Int × Int) := [(0, 0)]
theorem cm0_ok : layX baseM = some cm0 ∧ cm0.length = 4 := ⟨by kernel_rfl, by kernel_rfl⟩
theorem cm1_ok : layX baseF = some cm1 ∧ cm1.length = 1 := ⟨by kernel_rfl, by kernel_rfl⟩
theorem run_more {fs : List SF} {cm : List (List (Int × Int))} {k : Nat} {r r' rE : XR} (h : r.stop.isSome = false) (h1 : stepX fs cm r = some r') (h2 : runX fs cm k r' = some rE) : runX fs cm (k + 1) r = some rE := by
  unfold runX
  rw [if_neg (by simp [h]), h1]
  exact h2
theorem run_done {fs : List SF} {cm : List (List (Int × Int))} {r : XR} (h : r.stop.isSome = true) : runX fs cm 0 r = some r := by
  unfold runX
  rw [if_pos h]
def rA0 : XR := ⟨[3], 1000, [], none, ⟨0, 0, 0, 0, 0⟩, [], [], [], [], [[pn 0 0, pn 0 0, pn 0 0, pn 0 0, pn 0 0, pn 0 0, pn 0 0, pn 0 0, pn 0 0, pn 0 0, pn 0 0, pn 0 0, pn 0 0, pn 0 0, pn 0 0], [pn 0 0, pn 0 0, pn 0 0, pn 0 0]], []⟩
def rA1 : XR := ⟨[], 999, [], none, ⟨0, 0, 1, 0, 0⟩, [], [], [⟨0, 0, pn 0 0⟩], [], [[pn 3 1, pn 0 0, pn 0 0, pn 0 0, pn 0 0, pn 0 0, pn 0 0, pn 0 0, pn 0 0, pn 0 0, pn 0 0, pn 0 0, pn 0 0, pn 0 0, pn 0 0], [pn 0 0, pn 0 0, pn 0 0, pn 0 0]], []⟩
def rA2 : XR := ⟨[], 998, [], none, ⟨0, 0, 2, 0, 0⟩, [], [], [⟨0, 0, pn 0 0⟩, ⟨0, 1, pn 0 0⟩], [], [[pn 3 1, pn 4 1, pn 0 0, pn 0 0, pn 0 0, pn 0 0, pn 0 0, pn 0 0, pn 0 0, pn 0 0, pn 0 0, pn 0 0, pn 0 0, pn 0 0, pn 0 0], [pn 0 0, pn 0 0, pn 0 0, pn 0 0]], []⟩
def rA3 : XR := ⟨[], 993, [], none, ⟨0, 0, 3, 0, 0⟩, [], [], [⟨0, 0, pn 0 0⟩, ⟨0, 1, pn 0 0⟩, ⟨0, 2, pn 0 0⟩], [], [[pn 3 1, pn 4 1, ⟨⟨0, (some 0)⟩, 1⟩, pn 0 0, pn 0 0, pn 0 0, pn 0 0, pn 0 0, pn 0 0, pn 0 0, pn 0 0, pn 0 0, pn 0 0, pn 0 0, pn 0 0], [pn 0 0, pn 0 0, pn 0 0, pn 0 0]], [⟨4, 1, [0, 0, 0, 0]⟩]⟩
def rA4 : XR := ⟨[], 992, [], none, ⟨0, 0, 4, 0, 0⟩, [], [], [⟨0, 0, pn 0 0⟩, ⟨0, 1, pn 0 0⟩, ⟨0, 2, pn 0 0⟩, ⟨0, 3, pn 0 0⟩], [], [[pn 3 1, pn 4 1, ⟨⟨0, (some 0)⟩, 1⟩, pn 0 1, pn 0 0, pn 0 0, pn 0 0, pn 0 0, pn 0 0, pn 0 0, pn 0 0, pn 0 0, pn 0 0, pn 0 0, pn 0 0], [pn 0 0, pn 0 0, pn 0 0, pn 0 0]], [⟨4, 1, [0, 0, 0, 0]⟩]⟩
def rA5 : XR := ⟨[], 991, [], none, ⟨0, 1, 0, 0, 0⟩, [], [], [⟨0, 0, pn 0 0⟩, ⟨0, 1, pn 0 0⟩, ⟨0, 2, pn 0 0⟩, ⟨0, 3, pn 0 0⟩], [⟨0, none⟩], [[pn 3 1, pn 4 1, ⟨⟨0, (some 0)⟩, 1⟩, pn 0 1, pn 0 0, pn 0 0, pn 0 0, pn 0 0, pn 0 0, pn 0 0, pn 0 0, pn 0 0, pn 0 0, pn 0 0, pn 0 0], [pn 0 0, pn 0 0, pn 0 0, pn 0 0]], [⟨4, 1, [0, 0, 0, 0]⟩]⟩
def rA6 : XR := ⟨[], 990, [], none, ⟨0, 1, 1, 0, 0⟩, [], [], [⟨0, 0, pn 0 0⟩, ⟨0, 1, pn 0 0⟩, ⟨0, 2, pn 0 0⟩, ⟨0, 3, pn 0 0⟩, ⟨0, 4, pn 0 0⟩], [⟨0, none⟩], [[pn 3 1, pn 4 1, ⟨⟨0, (some 0)⟩, 1⟩, pn 0 1, pn 0 1, pn 0 0, pn 0 0, pn 0 0, pn 0 0, pn 0 0, pn 0 0, pn 0 0, pn 0 0, pn 0 0, pn 0 0], [pn 0 0, pn 0 0, pn 0 0, pn 0 0]], [⟨4, 1, [0, 0, 0, 0]⟩]⟩
def rA7 : XR := ⟨[], 989, [], none, ⟨0, 1, 2, 0, 0⟩, [], [], [⟨0, 0, pn 0 0⟩, ⟨0, 1, pn 0 0⟩, ⟨0, 2, pn 0 0⟩, ⟨0, 3, pn 0 0⟩, ⟨0, 4, pn 0 0⟩, ⟨0, 5, pn 0 0⟩], [⟨0, none⟩], [[pn 3 1, pn 4 1, ⟨⟨0, (some 0)⟩, 1⟩, pn 0 1, pn 0 1, pn 1 1, pn 0 0, pn 0 0, pn 0 0, pn 0 0, pn 0 0, pn 0 0, pn 0 0, pn 0 0, pn 0 0], [pn 0 0, pn 0 0, pn 0 0, pn 0 0]], [⟨4, 1, [0, 0, 0, 0]⟩]⟩
def rA8 : XR := ⟨[], 988, [], none, ⟨0, 2, 0, 0, 0⟩, [], [], [⟨0, 0, pn 0 0⟩, ⟨0, 1, pn 0 0⟩, ⟨0, 2, pn 0 0⟩, ⟨0, 3, pn 0 0⟩, ⟨0, 4, pn 0 0⟩, ⟨0, 5, pn 0 0⟩], [], [[pn 3 1, pn 4 1, ⟨⟨0, (some 0)⟩, 1⟩, pn 0 1, pn 0 1, pn 1 1, pn 0 0, pn 0 0, pn 0 0, pn 0 0, pn 0 0, pn 0 0, pn 0 0, pn 0 0, pn 0 0], [pn 0 0, pn 0 0, pn 0 0, pn 0 0]], [⟨4, 1, [0, 0, 0, 0]⟩]⟩
def rA9 : XR := ⟨[], 987, [], none, ⟨0, 2, 1, 0, 0⟩, [], [], [⟨0, 0, pn 0 0⟩, ⟨0, 1, pn 0 0⟩, ⟨0, 2, pn 0 0⟩, ⟨0, 3, pn 0 0⟩, ⟨0, 4, pn 0 0⟩, ⟨0, 5, pn 0 0⟩, ⟨0, 11, pn 0 0⟩], [], [[pn 3 1, pn 4 1, ⟨⟨0, (some 0)⟩, 1⟩, pn 0 1, pn 0 1, pn 1 1, pn 0 0, pn 0 0, pn 0 0, pn 0 0, pn 0 0, pn 1 1, pn 0 0, pn 0 0, pn 0 0], [pn 0 0, pn 0 0, pn 0 0, pn 0 0]], [⟨4, 1, [0, 0, 0, 0]⟩]⟩
def rA10 : XR := ⟨[], 986, [], none, ⟨0, 2, 2, 0, 0⟩, [], [], [⟨0, 0, pn 0 0⟩, ⟨0, 1, pn 0 0⟩, ⟨0, 2, pn 0 0⟩, ⟨0, 3, pn 0 0⟩, ⟨0, 4, pn 0 0⟩, ⟨0, 5, pn 0 0⟩, ⟨0, 11, pn 0 0⟩, ⟨0, 6, pn 0 0⟩], [], [[pn 3 1, pn 4 1, ⟨⟨0, (some 0)⟩, 1⟩, pn 0 1, pn 0 1, pn 1 1, pn 4 1, pn 0 0, pn 0 0, pn 0 0, pn 0 0, pn 1 1, pn 0 0, pn 0 0, pn 0 0], [pn 0 0, pn 0 0, pn 0 0, pn 0 0]], [⟨4, 1, [0, 0, 0, 0]⟩]⟩
def rA11 : XR := ⟨[], 985, [], none, ⟨0, 2, 3, 0, 0⟩, [], [], [⟨0, 0, pn 0 0⟩, ⟨0, 1, pn 0 0⟩, ⟨0, 2, pn 0 0⟩, ⟨0, 3, pn 0 0⟩, ⟨0, 4, pn 0 0⟩, ⟨0, 5, pn 0 0⟩, ⟨0, 11, pn 0 0⟩, ⟨0, 6, pn 0 0⟩, ⟨0, 7, pn 0 0⟩], [], [[pn 3 1, pn 4 1, ⟨⟨0, (some 0)⟩, 1⟩, pn 0 1, pn 0 1, pn 1 1, pn 4 1, pn 1 1, pn 0 0, pn 0 0, pn 0 0, pn 1 1, pn 0 0, pn 0 0, pn 0 0], [pn 0 0, pn 0 0, pn 0 0, pn 0 0]], [⟨4, 1, [0, 0, 0, 0]⟩]⟩
def rA12 : XR := ⟨[], 984, [], none, ⟨0, 2, 4, 0, 0⟩, [], [], [⟨0, 0, pn 0 0⟩, ⟨0, 1, pn 0 0⟩, ⟨0, 2, pn 0 0⟩, ⟨0, 3, pn 0 0⟩, ⟨0, 4, pn 0 0⟩, ⟨0, 5, pn 0 0⟩, ⟨0, 11, pn 0 0⟩, ⟨0, 6, pn 0 0⟩, ⟨0, 7, pn 0 0⟩], [], [[pn 3 1, pn 4 1, ⟨⟨0, (some 0)⟩, 1⟩, pn 0 1, pn 0 1, pn 1 1, pn 4 1, pn 1 1, pn 0 0, pn 0 0, pn 0 0, pn 1 1, pn 0 0, pn 0 0, pn 0 0], [pn 0 0, pn 0 0, pn 0 0, pn 0 0]], [⟨4, 1, [0, 0, 0, 0]⟩]⟩
def rA13 : XR := ⟨[], 983, [], none, ⟨0, 2, 5, 0, 0⟩, [], [], [⟨0, 0, pn 0 0⟩, ⟨0, 1, pn 0 0⟩, ⟨0, 2, pn 0 0⟩, ⟨0, 3, pn 0 0⟩, ⟨0, 4, pn 0 0⟩, ⟨0, 5, pn 0 0⟩, ⟨0, 11, pn 0 0⟩, ⟨0, 6, pn 0 0⟩, ⟨0, 7, pn 0 0⟩], [], [[pn 3 1, pn 4 1, ⟨⟨0, (some 0)⟩, 1⟩, pn 0 1, pn 0 1, pn 1 1, pn 4 1, pn 1 1, pn 0 0, pn 0 0, pn 0 0, pn 1 1, pn 0 0, pn 0 0, pn 0 0], [pn 0 0, pn 0 0, pn 0 0, pn 0 0]], [⟨4, 1, [3, 0, 0, 0]⟩]⟩
def rA14 : XR := ⟨[], 982, [], none, ⟨0, 2, 6, 0, 0⟩, [], [], [⟨0, 0, pn 0 0⟩, ⟨0, 1, pn 0 0⟩, ⟨0, 2, pn 0 0⟩, ⟨0, 3, pn 0 0⟩, ⟨0, 4, pn 0 0⟩, ⟨0, 5, pn 0 0⟩, ⟨0, 11, pn 0 0⟩, ⟨0, 6, pn 0 0⟩, ⟨0, 7, pn 0 0⟩, ⟨0, 9, pn 0 0⟩], [], [[pn 3 1, pn 4 1, ⟨⟨0, (some 0)⟩, 1⟩, pn 0 1, pn 0 1, pn 1 1, pn 4 1, pn 1 1, pn 0 0, pn 1 1, pn 0 0, pn 1 1, pn 0 0, pn 0 0, pn 0 0], [pn 0 0, pn 0 0, pn 0 0, pn 0 0]], [⟨4, 1, [3, 0, 0, 0]⟩]⟩
def rA15 : XR := ⟨[], 981, [], none, ⟨0, 1, 0, 0, 0⟩, [], [], [⟨0, 0, pn 0 0⟩, ⟨0, 1, pn 0 0⟩, ⟨0, 2, pn 0 0⟩, ⟨0, 3, pn 0 0⟩, ⟨0, 4, pn 0 0⟩, ⟨0, 5, pn 0 0⟩, ⟨0, 11, pn 0 0⟩, ⟨0, 6, pn 0 0⟩, ⟨0, 7, pn 0 0⟩, ⟨0, 9, pn 0 0⟩], [⟨1, none⟩], [[pn 3 1, pn 4 1, ⟨⟨0, (some 0)⟩, 1⟩, pn 0 1, pn 0 1, pn 1 1, pn 4 1, pn 1 1, pn 0 0, pn 1 1, pn 0 0, pn 1 1, pn 0 0, pn 0 0, pn 0 0], [pn 0 0, pn 0 0, pn 0 0, pn 0 0]], [⟨4, 1, [3, 0, 0, 0]⟩]⟩
def rA16 : XR := ⟨[], 980, [], none, ⟨0, 1, 1, 0, 0⟩, [], [], [⟨0, 0, pn 0 0⟩, ⟨0, 1, pn 0 0⟩, ⟨0, 2, pn 0 0⟩, ⟨0, 3, pn 0 0⟩, ⟨0, 4, pn 0 0⟩, ⟨0, 5, pn 0 0⟩, ⟨0, 11, pn 0 0⟩, ⟨0, 6, pn 0 0⟩, ⟨0, 7, pn 0 0⟩, ⟨0, 9, pn 0 0⟩], [⟨1, none⟩], [[pn 3 1, pn 4 1, ⟨⟨0, (some 0)⟩, 1⟩, pn 0 1, pn 1 1, pn 1 1, pn 4 1, pn 1 1, pn 0 0, pn 1 1, pn 0 0, pn 1 1, pn 0 0, pn 0 0, pn 0 0], [pn 0 0, pn 0 0, pn 0 0, pn 0 0]], [⟨4, 1, [3, 0, 0, 0]⟩]⟩
def rA17 : XR := ⟨[], 979, [], none, ⟨0, 1, 2, 0, 0⟩, [], [], [⟨0, 0, pn 0 0⟩, ⟨0, 1, pn 0 0⟩, ⟨0, 2, pn 0 0⟩, ⟨0, 3, pn 0 0⟩, ⟨0, 4, pn 0 0⟩, ⟨0, 5, pn 0 0⟩, ⟨0, 11, pn 0 0⟩, ⟨0, 6, pn 0 0⟩, ⟨0, 7, pn 0 0⟩, ⟨0, 9, pn 0 0⟩], [⟨1, none⟩], [[pn 3 1, pn 4 1, ⟨⟨0, (some 0)⟩, 1⟩, pn 0 1, pn 1 1, pn 1 1, pn 4 1, pn 1 1, pn 0 0, pn 1 1, pn 0 0, pn 1 1, pn 0 0, pn 0 0, pn 0 0], [pn 0 0, pn 0 0, pn 0 0, pn 0 0]], [⟨4, 1, [3, 0, 0, 0]⟩]⟩
def rA18 : XR := ⟨[], 978, [], none, ⟨0, 2, 0, 0, 0⟩, [], [], [⟨0, 0, pn 0 0⟩, ⟨0, 1, pn 0 0⟩, ⟨0, 2, pn 0 0⟩, ⟨0, 3, pn 0 0⟩, ⟨0, 4, pn 0 0⟩, ⟨0, 5, pn 0 0⟩, ⟨0, 11, pn 0 0⟩, ⟨0, 6, pn 0 0⟩, ⟨0, 7, pn 0 0⟩, ⟨0, 9, pn 0 0⟩], [], [[pn 3 1, pn 4 1, ⟨⟨0, (some 0)⟩, 1⟩, pn 0 1, pn 1 1, pn 1 1, pn 4 1, pn 1 1, pn 0 0, pn 1 1, pn 0 0, pn 1 1, pn 0 0, pn 0 0, pn 0 0], [pn 0 0, pn 0 0, pn 0 0, pn 0 0]], [⟨4, 1, [3, 0, 0, 0]⟩]⟩
def rA19 : XR := ⟨[], 977, [], none, ⟨0, 2, 1, 0, 0⟩, [], [], [⟨0, 0, pn 0 0⟩, ⟨0, 1, pn 0 0⟩, ⟨0, 2, pn 0 0⟩, ⟨0, 3, pn 0 0⟩, ⟨0, 4, pn 0 0⟩, ⟨0, 5, pn 0 0⟩, ⟨0, 11, pn 0 0⟩, ⟨0, 6, pn 0 0⟩, ⟨0, 7, pn 0 0⟩, ⟨0, 9, pn 0 0⟩], [], [[pn 3 1, pn 4 1, ⟨⟨0, (some 0)⟩, 1⟩, pn 0 1, pn 1 1, pn 1 1, pn 4 1, pn 1 1, pn 0 0, pn 1 1, pn 0 0, pn 1 1, pn 0 0, pn 0 0, pn 0 0], [pn 0 0, pn 0 0, pn 0 0, pn 0 0]], [⟨4, 1, [3, 0, 0, 0]⟩]⟩
def rA20 : XR := ⟨[], 976, [], none, ⟨0, 2, 2, 0, 0⟩, [], [], [⟨0, 0, pn 0 0⟩, ⟨0, 1, pn 0 0⟩, ⟨0, 2, pn 0 0⟩, ⟨0, 3, pn 0 0⟩, ⟨0, 4, pn 0 0⟩, ⟨0, 5, pn 0 0⟩, ⟨0, 11, pn 0 0⟩, ⟨0, 6, pn 0 0⟩, ⟨0, 7, pn 0 0⟩, ⟨0, 9, pn 0 0⟩], [], [[pn 3 1, pn 4 1, ⟨⟨0, (some 0)⟩, 1⟩, pn 0 1, pn 1 1, pn 1 1, pn 4 1, pn 1 1, pn 0 0, pn 1 1, pn 0 0, pn 1 1, pn 0 0, pn 0 0, pn 0 0], [pn 0 0, pn 0 0, pn 0 0, pn 0 0]], [⟨4, 1, [3, 0, 0, 0]⟩]⟩
def rA21 : XR := ⟨[], 975, [], none, ⟨0, 2, 3, 0, 0⟩, [], [], [⟨0, 0, pn 0 0⟩, ⟨0, 1, pn 0 0⟩, ⟨0, 2, pn 0 0⟩, ⟨0, 3, pn 0 0⟩, ⟨0, 4, pn 0 0⟩, ⟨0, 5, pn 0 0⟩, ⟨0, 11, pn 0 0⟩, ⟨0, 6, pn 0 0⟩, ⟨0, 7, pn 0 0⟩, ⟨0, 9, pn 0 0⟩], [], [[pn 3 1, pn 4 1, ⟨⟨0, (some 0)⟩, 1⟩, pn 0 1, pn 1 1, pn 1 1, pn 4 1, pn 1 1, pn 0 0, pn 1 1, pn 0 0, pn 1 1, pn 0 0, pn 0 0, pn 0 0], [pn 0 0, pn 0 0, pn 0 0, pn 0 0]], [⟨4, 1, [3, 0, 0, 0]⟩]⟩
def rA22 : XR := ⟨[], 974, [], none, ⟨0, 2, 4, 0, 0⟩, [], [], [⟨0, 0, pn 0 0⟩, ⟨0, 1, pn 0 0⟩, ⟨0, 2, pn 0 0⟩, ⟨0, 3, pn 0 0⟩, ⟨0, 4, pn 0 0⟩, ⟨0, 5, pn 0 0⟩, ⟨0, 11, pn 0 0⟩, ⟨0, 6, pn 0 0⟩, ⟨0, 7, pn 0 0⟩, ⟨0, 9, pn 0 0⟩], [], [[pn 3 1, pn 4 1, ⟨⟨0, (some 0)⟩, 1⟩, pn 0 1, pn 1 1, pn 1 1, pn 4 1, pn 1 1, pn 0 0, pn 1 1, pn 0 0, pn 1 1, pn 0 0, pn 0 0, pn 0 0], [pn 0 0, pn 0 0, pn 0 0, pn 0 0]], [⟨4, 1, [3, 0, 0, 0]⟩]⟩
def rA23 : XR := ⟨[], 973, [], none, ⟨0, 2, 5, 0, 0⟩, [], [], [⟨0, 0, pn 0 0⟩, ⟨0, 1, pn 0 0⟩, ⟨0, 2, pn 0 0⟩, ⟨0, 3, pn 0 0⟩, ⟨0, 4, pn 0 0⟩, ⟨0, 5, pn 0 0⟩, ⟨0, 11, pn 0 0⟩, ⟨0, 6, pn 0 0⟩, ⟨0, 7, pn 0 0⟩, ⟨0, 9, pn 0 0⟩], [], [[pn 3 1, pn 4 1, ⟨⟨0, (some 0)⟩, 1⟩, pn 0 1, pn 1 1, pn 1 1, pn 4 1, pn 1 1, pn 0 0, pn 1 1, pn 0 0, pn 1 1, pn 0 0, pn 0 0, pn 0 0], [pn 0 0, pn 0 0, pn 0 0, pn 0 0]], [⟨4, 1, [3, 3, 0, 0]⟩]⟩
def rA24 : XR := ⟨[], 972, [], none, ⟨0, 2, 6, 0, 0⟩, [], [], [⟨0, 0, pn 0 0⟩, ⟨0, 1, pn 0 0⟩, ⟨0, 2, pn 0 0⟩, ⟨0, 3, pn 0 0⟩, ⟨0, 4, pn 0 0⟩, ⟨0, 5, pn 0 0⟩, ⟨0, 11, pn 0 0⟩, ⟨0, 6, pn 0 0⟩, ⟨0, 7, pn 0 0⟩, ⟨0, 9, pn 0 0⟩], [], [[pn 3 1, pn 4 1, ⟨⟨0, (some 0)⟩, 1⟩, pn 0 1, pn 1 1, pn 1 1, pn 4 1, pn 1 1, pn 0 0, pn 2 1, pn 0 0, pn 1 1, pn 0 0, pn 0 0, pn 0 0], [pn 0 0, pn 0 0, pn 0 0, pn 0 0]], [⟨4, 1, [3, 3, 0, 0]⟩]⟩
def rA25 : XR := ⟨[], 971, [], none, ⟨0, 1, 0, 0, 0⟩, [], [], [⟨0, 0, pn 0 0⟩, ⟨0, 1, pn 0 0⟩, ⟨0, 2, pn 0 0⟩, ⟨0, 3, pn 0 0⟩, ⟨0, 4, pn 0 0⟩, ⟨0, 5, pn 0 0⟩, ⟨0, 11, pn 0 0⟩, ⟨0, 6, pn 0 0⟩, ⟨0, 7, pn 0 0⟩, ⟨0, 9, pn 0 0⟩], [⟨2, none⟩], [[pn 3 1, pn 4 1, ⟨⟨0, (some 0)⟩, 1⟩, pn 0 1, pn 1 1, pn 1 1, pn 4 1, pn 1 1, pn 0 0, pn 2 1, pn 0 0, pn 1 1, pn 0 0, pn 0 0, pn 0 0], [pn 0 0, pn 0 0, pn 0 0, pn 0 0]], [⟨4, 1, [3, 3, 0, 0]⟩]⟩
def rA26 : XR := ⟨[], 970, [], none, ⟨0, 1, 1, 0, 0⟩, [], [], [⟨0, 0, pn 0 0⟩, ⟨0, 1, pn 0 0⟩, ⟨0, 2, pn 0 0⟩, ⟨0, 3, pn 0 0⟩, ⟨0, 4, pn 0 0⟩, ⟨0, 5, pn 0 0⟩, ⟨0, 11, pn 0 0⟩, ⟨0, 6, pn 0 0⟩, ⟨0, 7, pn 0 0⟩, ⟨0, 9, pn 0 0⟩], [⟨2, none⟩], [[pn 3 1, pn 4 1, ⟨⟨0, (some 0)⟩, 1⟩, pn 0 1, pn 2 1, pn 1 1, pn 4 1, pn 1 1, pn 0 0, pn 2 1, pn 0 0, pn 1 1, pn 0 0, pn 0 0, pn 0 0], [pn 0 0, pn 0 0, pn 0 0, pn 0 0]], [⟨4, 1, [3, 3, 0, 0]⟩]⟩
def rA27 : XR := ⟨[], 969, [], none, ⟨0, 1, 2, 0, 0⟩, [], [], [⟨0, 0, pn 0 0⟩, ⟨0, 1, pn 0 0⟩, ⟨0, 2, pn 0 0⟩, ⟨0, 3, pn 0 0⟩, ⟨0, 4, pn 0 0⟩, ⟨0, 5, pn 0 0⟩, ⟨0, 11, pn 0 0⟩, ⟨0, 6, pn 0 0⟩, ⟨0, 7, pn 0 0⟩, ⟨0, 9, pn 0 0⟩], [⟨2, none⟩], [[pn 3 1, pn 4 1, ⟨⟨0, (some 0)⟩, 1⟩, pn 0 1, pn 2 1, pn 1 1, pn 4 1, pn 1 1, pn 0 0, pn 2 1, pn 0 0, pn 1 1, pn 0 0, pn 0 0, pn 0 0], [pn 0 0, pn 0 0, pn 0 0, pn 0 0]], [⟨4, 1, [3, 3, 0, 0]⟩]⟩
def rA28 : XR := ⟨[], 968, [], none, ⟨0, 2, 0, 0, 0⟩, [], [], [⟨0, 0, pn 0 0⟩, ⟨0, 1, pn 0 0⟩, ⟨0, 2, pn 0 0⟩, ⟨0, 3, pn 0 0⟩, ⟨0, 4, pn 0 0⟩, ⟨0, 5, pn 0 0⟩, ⟨0, 11, pn 0 0⟩, ⟨0, 6, pn 0 0⟩, ⟨0, 7, pn 0 0⟩, ⟨0, 9, pn 0 0⟩], [], [[pn 3 1, pn 4 1, ⟨⟨0, (some 0)⟩, 1⟩, pn 0 1, pn 2 1, pn 1 1, pn 4 1, pn 1 1, pn 0 0, pn 2 1, pn 0 0, pn 1 1, pn 0 0, pn 0 0, pn 0 0], [pn 0 0, pn 0 0, pn 0 0, pn 0 0]], [⟨4, 1, [3, 3, 0, 0]⟩]⟩
def rA29 : XR := ⟨[], 967, [], none, ⟨0, 2, 1, 0, 0⟩, [], [], [⟨0, 0, pn 0 0⟩, ⟨0, 1, pn 0 0⟩, ⟨0, 2, pn 0 0⟩, ⟨0, 3, pn 0 0⟩, ⟨0, 4, pn 0 0⟩, ⟨0, 5, pn 0 0⟩, ⟨0, 11, pn 0 0⟩, ⟨0, 6, pn 0 0⟩, ⟨0, 7, pn 0 0⟩, ⟨0, 9, pn 0 0⟩], [], [[pn 3 1, pn 4 1, ⟨⟨0, (some 0)⟩, 1⟩, pn 0 1, pn 2 1, pn 1 1, pn 4 1, pn 1 1, pn 0 0, pn 2 1, pn 0 0, pn 1 1, pn 0 0, pn 0 0, pn 0 0], [pn 0 0, pn 0 0, pn 0 0, pn 0 0]], [⟨4, 1, [3, 3, 0, 0]⟩]⟩
def rA30 : XR := ⟨[], 966, [], none, ⟨0, 2, 2, 0, 0⟩, [], [], [⟨0, 0, pn 0 0⟩, ⟨0, 1, pn 0 0⟩, ⟨0, 2, pn 0 0⟩, ⟨0, 3, pn 0 0⟩, ⟨0, 4, pn 0 0⟩, ⟨0, 5, pn 0 0⟩, ⟨0, 11, pn 0 0⟩, ⟨0, 6, pn 0 0⟩, ⟨0, 7, pn 0 0⟩, ⟨0, 9, pn 0 0⟩], [], [[pn 3 1, pn 4 1, ⟨⟨0, (some 0)⟩, 1⟩, pn 0 1, pn 2 1, pn 1 1, pn 4 1, pn 1 1, pn 0 0, pn 2 1, pn 0 0, pn 1 1, pn 0 0, pn 0 0, pn 0 0], [pn 0 0, pn 0 0, pn 0 0, pn 0 0]], [⟨4, 1, [3, 3, 0, 0]⟩]⟩
def rA31 : XR := ⟨[], 965, [], none, ⟨0, 2, 3, 0, 0⟩, [], [], [⟨0, 0, pn 0 0⟩, ⟨0, 1, pn 0 0⟩, ⟨0, 2, pn 0 0⟩, ⟨0, 3, pn 0 0⟩, ⟨0, 4, pn 0 0⟩, ⟨0, 5, pn 0 0⟩, ⟨0, 11, pn 0 0⟩, ⟨0, 6, pn 0 0⟩, ⟨0, 7, pn 0 0⟩, ⟨0, 9, pn 0 0⟩], [], [[pn 3 1, pn 4 1, ⟨⟨0, (some 0)⟩, 1⟩, pn 0 1, pn 2 1, pn 1 1, pn 4 1, pn 1 1, pn 0 0, pn 2 1, pn 0 0, pn 1 1, pn 0 0, pn 0 0, pn 0 0], [pn 0 0, pn 0 0, pn 0 0, pn 0 0]], [⟨4, 1, [3, 3, 0, 0]⟩]⟩
def rA32 : XR := ⟨[], 964, [], none, ⟨0, 2, 4, 0, 0⟩, [], [], [⟨0, 0, pn 0 0⟩, ⟨0, 1, pn 0 0⟩, ⟨0, 2, pn 0 0⟩, ⟨0, 3, pn 0 0⟩, ⟨0, 4, pn 0 0⟩, ⟨0, 5, pn 0 0⟩, ⟨0, 11, pn 0 0⟩, ⟨0, 6, pn 0 0⟩, ⟨0, 7, pn 0 0⟩, ⟨0, 9, pn 0 0⟩], [], [[pn 3 1, pn 4 1, ⟨⟨0, (some 0)⟩, 1⟩, pn 0 1, pn 2 1, pn 1 1, pn 4 1, pn 1 1, pn 0 0, pn 2 1, pn 0 0, pn 1 1, pn 0 0, pn 0 0, pn 0 0], [pn 0 0, pn 0 0, pn 0 0, pn 0 0]], [⟨4, 1, [3, 3, 0, 0]⟩]⟩
def rA33 : XR := ⟨[], 963, [], none, ⟨0, 2, 5, 0, 0⟩, [], [], [⟨0, 0, pn 0 0⟩, ⟨0, 1, pn 0 0⟩, ⟨0, 2, pn 0 0⟩, ⟨0, 3, pn 0 0⟩, ⟨0, 4, pn 0 0⟩, ⟨0, 5, pn 0 0⟩, ⟨0, 11, pn 0 0⟩, ⟨0, 6, pn 0 0⟩, ⟨0, 7, pn 0 0⟩, ⟨0, 9, pn 0 0⟩], [], [[pn 3 1, pn 4 1, ⟨⟨0, (some 0)⟩, 1⟩, pn 0 1, pn 2 1, pn 1 1, pn 4 1, pn 1 1, pn 0 0, pn 2 1, pn 0 0, pn 1 1, pn 0 0, pn 0 0, pn 0 0], [pn 0 0, pn 0 0, pn 0 0, pn 0 0]], [⟨4, 1, [3, 3, 3, 0]⟩]⟩
def rA34 : XR := ⟨[], 962, [], none, ⟨0, 2, 6, 0, 0⟩, [], [], [⟨0, 0, pn 0 0⟩, ⟨0, 1, pn 0 0⟩, ⟨0, 2, pn 0 0⟩, ⟨0, 3, pn 0 0⟩, ⟨0, 4, pn 0 0⟩, ⟨0, 5, pn 0 0⟩, ⟨0, 11, pn 0 0⟩, ⟨0, 6, pn 0 0⟩, ⟨0, 7, pn 0 0⟩, ⟨0, 9, pn 0 0⟩], [], [[pn 3 1, pn 4 1, ⟨⟨0, (some 0)⟩, 1⟩, pn 0 1, pn 2 1, pn 1 1, pn 4 1, pn 1 1, pn 0 0, pn 3 1, pn 0 0, pn 1 1, pn 0 0, pn 0 0, pn 0 0], [pn 0 0, pn 0 0, pn 0 0, pn 0 0]], [⟨4, 1, [3, 3, 3, 0]⟩]⟩
def rA35 : XR := ⟨[], 961, [], none, ⟨0, 1, 0, 0, 0⟩, [], [], [⟨0, 0, pn 0 0⟩, ⟨0, 1, pn 0 0⟩, ⟨0, 2, pn 0 0⟩, ⟨0, 3, pn 0 0⟩, ⟨0, 4, pn 0 0⟩, ⟨0, 5, pn 0 0⟩, ⟨0, 11, pn 0 0⟩, ⟨0, 6, pn 0 0⟩, ⟨0, 7, pn 0 0⟩, ⟨0, 9, pn 0 0⟩], [⟨3, none⟩], [[pn 3 1, pn 4 1, ⟨⟨0, (some 0)⟩, 1⟩, pn 0 1, pn 2 1, pn 1 1, pn 4 1, pn 1 1, pn 0 0, pn 3 1, pn 0 0, pn 1 1, pn 0 0, pn 0 0, pn 0 0], [pn 0 0, pn 0 0, pn 0 0, pn 0 0]], [⟨4, 1, [3, 3, 3, 0]⟩]⟩
def rA36 : XR := ⟨[], 960, [], none, ⟨0, 1, 1, 0, 0⟩, [], [], [⟨0, 0, pn 0 0⟩, ⟨0, 1, pn 0 0⟩, ⟨0, 2, pn 0 0⟩, ⟨0, 3, pn 0 0⟩, ⟨0, 4, pn 0 0⟩, ⟨0, 5, pn 0 0⟩, ⟨0, 11, pn 0 0⟩, ⟨0, 6, pn 0 0⟩, ⟨0, 7, pn 0 0⟩, ⟨0, 9, pn 0 0⟩], [⟨3, none⟩], [[pn 3 1, pn 4 1, ⟨⟨0, (some 0)⟩, 1⟩, pn 0 1, pn 3 1, pn 1 1, pn 4 1, pn 1 1, pn 0 0, pn 3 1, pn 0 0, pn 1 1, pn 0 0, pn 0 0, pn 0 0], [pn 0 0, pn 0 0, pn 0 0, pn 0 0]], [⟨4, 1, [3, 3, 3, 0]⟩]⟩
def rA37 : XR := ⟨[], 959, [], none, ⟨0, 1, 2, 0, 0⟩, [], [], [⟨0, 0, pn 0 0⟩, ⟨0, 1, pn 0 0⟩, ⟨0, 2, pn 0 0⟩, ⟨0, 3, pn 0 0⟩, ⟨0, 4, pn 0 0⟩, ⟨0, 5, pn 0 0⟩, ⟨0, 11, pn 0 0⟩, ⟨0, 6, pn 0 0⟩, ⟨0, 7, pn 0 0⟩, ⟨0, 9, pn 0 0⟩], [⟨3, none⟩], [[pn 3 1, pn 4 1, ⟨⟨0, (some 0)⟩, 1⟩, pn 0 1, pn 3 1, pn 0 1, pn 4 1, pn 1 1, pn 0 0, pn 3 1, pn 0 0, pn 1 1, pn 0 0, pn 0 0, pn 0 0], [pn 0 0, pn 0 0, pn 0 0, pn 0 0]], [⟨4, 1, [3, 3, 3, 0]⟩]⟩
def rA38 : XR := ⟨[], 958, [], none, ⟨0, 3, 0, 0, 0⟩, [], [], [⟨0, 0, pn 0 0⟩, ⟨0, 1, pn 0 0⟩, ⟨0, 2, pn 0 0⟩, ⟨0, 3, pn 0 0⟩, ⟨0, 4, pn 0 0⟩, ⟨0, 5, pn 0 0⟩, ⟨0, 11, pn 0 0⟩, ⟨0, 6, pn 0 0⟩, ⟨0, 7, pn 0 0⟩, ⟨0, 9, pn 0 0⟩], [], [[pn 3 1, pn 4 1, ⟨⟨0, (some 0)⟩, 1⟩, pn 0 1, pn 3 1, pn 0 1, pn 4 1, pn 1 1, pn 0 0, pn 3 1, pn 0 0, pn 1 1, pn 0 0, pn 0 0, pn 0 0], [pn 0 0, pn 0 0, pn 0 0, pn 0 0]], [⟨4, 1, [3, 3, 3, 0]⟩]⟩
def rA39 : XR := ⟨[], 957, [], none, ⟨0, 3, 1, 0, 0⟩, [], [], [⟨0, 0, pn 0 0⟩, ⟨0, 1, pn 0 0⟩, ⟨0, 2, pn 0 0⟩, ⟨0, 3, pn 0 0⟩, ⟨0, 4, pn 0 0⟩, ⟨0, 5, pn 0 0⟩, ⟨0, 11, pn 0 0⟩, ⟨0, 6, pn 0 0⟩, ⟨0, 7, pn 0 0⟩, ⟨0, 9, pn 0 0⟩, ⟨0, 12, pn 0 0⟩], [], [[pn 3 1, pn 4 1, ⟨⟨0, (some 0)⟩, 1⟩, pn 0 1, pn 3 1, pn 0 1, pn 4 1, pn 1 1, pn 0 0, pn 3 1, pn 0 0, pn 1 1, pn 3 1, pn 0 0, pn 0 0], [pn 0 0, pn 0 0, pn 0 0, pn 0 0]], [⟨4, 1, [3, 3, 3, 0]⟩]⟩
def rA40 : XR := ⟨[], 956, [3], none, ⟨0, 3, 2, 0, 0⟩, [], [], [⟨0, 0, pn 0 0⟩, ⟨0, 1, pn 0 0⟩, ⟨0, 2, pn 0 0⟩, ⟨0, 3, pn 0 0⟩, ⟨0, 4, pn 0 0⟩, ⟨0, 5, pn 0 0⟩, ⟨0, 11, pn 0 0⟩, ⟨0, 6, pn 0 0⟩, ⟨0, 7, pn 0 0⟩, ⟨0, 9, pn 0 0⟩, ⟨0, 12, pn 0 0⟩], [], [[pn 3 1, pn 4 1, ⟨⟨0, (some 0)⟩, 1⟩, pn 0 1, pn 3 1, pn 0 1, pn 4 1, pn 1 1, pn 0 0, pn 3 1, pn 0 0, pn 1 1, pn 3 1, pn 0 0, pn 0 0], [pn 0 0, pn 0 0, pn 0 0, pn 0 0]], [⟨4, 1, [3, 3, 3, 0]⟩]⟩
def rA41 : XR := ⟨[], 955, [3], none, ⟨1, 0, 0, 0, 11⟩, [⟨0, 3, 3, 0, 0⟩], [⟨3, none⟩, ⟨0, none⟩], [⟨0, 0, pn 0 0⟩, ⟨0, 1, pn 0 0⟩, ⟨0, 2, pn 0 0⟩, ⟨0, 3, pn 0 0⟩, ⟨0, 4, pn 0 0⟩, ⟨0, 5, pn 0 0⟩, ⟨0, 11, pn 0 0⟩, ⟨0, 6, pn 0 0⟩, ⟨0, 7, pn 0 0⟩, ⟨0, 9, pn 0 0⟩, ⟨0, 12, pn 0 0⟩], [], [[pn 3 1, pn 4 1, ⟨⟨0, (some 0)⟩, 1⟩, pn 0 1, pn 3 1, pn 0 1, pn 4 1, pn 1 1, pn 0 0, pn 3 1, pn 0 0, pn 1 1, pn 3 1, pn 0 0, pn 0 0], [pn 0 0, pn 0 0, pn 0 0, pn 0 0]], [⟨4, 1, [3, 3, 3, 0]⟩]⟩
def rA42 : XR := ⟨[], 954, [3], none, ⟨1, 0, 1, 0, 11⟩, [⟨0, 3, 3, 0, 0⟩], [⟨3, none⟩, ⟨0, none⟩], [⟨0, 0, pn 0 0⟩, ⟨0, 1, pn 0 0⟩, ⟨0, 2, pn 0 0⟩, ⟨0, 3, pn 0 0⟩, ⟨0, 4, pn 0 0⟩, ⟨0, 5, pn 0 0⟩, ⟨0, 11, pn 0 0⟩, ⟨0, 6, pn 0 0⟩, ⟨0, 7, pn 0 0⟩, ⟨0, 9, pn 0 0⟩, ⟨0, 12, pn 0 0⟩, ⟨1, 0, pn 0 0⟩], [], [[pn 3 1, pn 4 1, ⟨⟨0, (some 0)⟩, 1⟩, pn 0 1, pn 3 1, pn 0 1, pn 4 1, pn 1 1, pn 0 0, pn 3 1, pn 0 0, pn 1 1, pn 3 1, pn 0 0, pn 0 0], [pn 3 2, pn 0 0, pn 0 0, pn 0 0]], [⟨4, 1, [3, 3, 3, 0]⟩]⟩
def rA43 : XR := ⟨[], 953, [3], none, ⟨1, 0, 2, 0, 11⟩, [⟨0, 3, 3, 0, 0⟩], [⟨3, none⟩, ⟨0, none⟩], [⟨0, 0, pn 0 0⟩, ⟨0, 1, pn 0 0⟩, ⟨0, 2, pn 0 0⟩, ⟨0, 3, pn 0 0⟩, ⟨0, 4, pn 0 0⟩, ⟨0, 5, pn 0 0⟩, ⟨0, 11, pn 0 0⟩, ⟨0, 6, pn 0 0⟩, ⟨0, 7, pn 0 0⟩, ⟨0, 9, pn 0 0⟩, ⟨0, 12, pn 0 0⟩, ⟨1, 0, pn 0 0⟩, ⟨1, 1, pn 0 0⟩], [], [[pn 3 1, pn 4 1, ⟨⟨0, (some 0)⟩, 1⟩, pn 0 1, pn 3 1, pn 0 1, pn 4 1, pn 1 1, pn 0 0, pn 3 1, pn 0 0, pn 1 1, pn 3 1, pn 0 0, pn 0 0], [pn 3 2, pn 0 2, pn 0 0, pn 0 0]], [⟨4, 1, [3, 3, 3, 0]⟩]⟩
def rA44 : XR := ⟨[], 952, [3], none, ⟨1, 0, 3, 0, 11⟩, [⟨0, 3, 3, 0, 0⟩], [⟨3, none⟩, ⟨0, none⟩], [⟨0, 0, pn 0 0⟩, ⟨0, 1, pn 0 0⟩, ⟨0, 2, pn 0 0⟩, ⟨0, 3, pn 0 0⟩, ⟨0, 4, pn 0 0⟩, ⟨0, 5, pn 0 0⟩, ⟨0, 11, pn 0 0⟩, ⟨0, 6, pn 0 0⟩, ⟨0, 7, pn 0 0⟩, ⟨0, 9, pn 0 0⟩, ⟨0, 12, pn 0 0⟩, ⟨1, 0, pn 0 0⟩, ⟨1, 1, pn 0 0⟩, ⟨1, 2, pn 0 0⟩], [], [[pn 3 1, pn 4 1, ⟨⟨0, (some 0)⟩, 1⟩, pn 0 1, pn 3 1, pn 0 1, pn 4 1, pn 1 1, pn 0 0, pn 3 1, pn 0 0, pn 1 1, pn 3 1, pn 0 0, pn 0 0], [pn 3 2, pn 0 2, pn (-3) 2, pn 0 0]], [⟨4, 1, [3, 3, 3, 0]⟩]⟩
def rA45 : XR := ⟨[], 951, [3], none, ⟨1, 0, 4, 0, 11⟩, [⟨0, 3, 3, 0, 0⟩], [⟨3, none⟩, ⟨0, none⟩], [⟨0, 0, pn 0 0⟩, ⟨0, 1, pn 0 0⟩, ⟨0, 2, pn 0 0⟩, ⟨0, 3, pn 0 0⟩, ⟨0, 4, pn 0 0⟩, ⟨0, 5, pn 0 0⟩, ⟨0, 11, pn 0 0⟩, ⟨0, 6, pn 0 0⟩, ⟨0, 7, pn 0 0⟩, ⟨0, 9, pn 0 0⟩, ⟨0, 12, pn 0 0⟩, ⟨1, 0, pn 0 0⟩, ⟨1, 1, pn 0 0⟩, ⟨1, 2, pn 0 0⟩, ⟨1, 3, pn 0 0⟩], [], [[pn 3 1, pn 4 1, ⟨⟨0, (some 0)⟩, 1⟩, pn 0 1, pn 3 1, pn 0 1, pn 4 1, pn 1 1, pn 0 0, pn 3 1, pn 0 0, pn 1 1, pn 3 1, pn 0 0, pn 0 0], [pn 3 2, pn 0 2, pn (-3) 2, pn (-3) 2]], [⟨4, 1, [3, 3, 3, 0]⟩]⟩
def rA46 : XR := ⟨[], 950, [3], none, ⟨0, 3, 3, 0, 0⟩, [], [], [⟨0, 0, pn 0 0⟩, ⟨0, 1, pn 0 0⟩, ⟨0, 2, pn 0 0⟩, ⟨0, 3, pn 0 0⟩, ⟨0, 4, pn 0 0⟩, ⟨0, 5, pn 0 0⟩, ⟨0, 11, pn 0 0⟩, ⟨0, 6, pn 0 0⟩, ⟨0, 7, pn 0 0⟩, ⟨0, 9, pn 0 0⟩, ⟨0, 12, pn 0 0⟩, ⟨0, 14, pn 0 0⟩], [], [[pn 3 1, pn 4 1, ⟨⟨0, (some 0)⟩, 1⟩, pn 0 1, pn 3 1, pn 0 1, pn 4 1, pn 1 1, pn 0 0, pn 3 1, pn 0 0, pn 1 1, pn 3 1, pn 0 0, pn (-3) 1], [pn 0 0, pn 0 0, pn 0 0, pn 0 0]], [⟨4, 1, [3, 3, 3, 0]⟩]⟩
def rA47 : XR := ⟨[], 949, [3], (some (1, (-3))), ⟨0, 3, 3, 0, 0⟩, [], [], [], [], [[pn 0 0, pn 0 0, pn 0 0, pn 0 0, pn 0 0, pn 0 0, pn 0 0, pn 0 0, pn 0 0, pn 0 0, pn 0 0, pn 0 0, pn 0 0, pn 0 0, pn 0 0], [pn 0 0, pn 0 0, pn 0 0, pn 0 0]], [⟨4, 1, [3, 3, 3, 0]⟩]⟩
theorem rA0_on : stepX baseFs [cm0, cm1] rA0 = some rA1 := by kernel_rfl
theorem rA1_on : stepX baseFs [cm0, cm1] rA1 = some rA2 := by kernel_rfl
theorem rA2_on : stepX baseFs [cm0, cm1] rA2 = some rA3 := by kernel_rfl
theorem rA3_on : stepX baseFs [cm0, cm1] rA3 = some rA4 := by kernel_rfl
theorem rA4_on : stepX baseFs [cm0, cm1] rA4 = some rA5 := by kernel_rfl
theorem rA5_on : stepX baseFs [cm0, cm1] rA5 = some rA6 := by kernel_rfl
theorem rA6_on : stepX baseFs [cm0, cm1] rA6 = some rA7 := by kernel_rfl
theorem rA7_on : stepX baseFs [cm0, cm1] rA7 = some rA8 := by kernel_rfl
theorem rA8_on : stepX baseFs [cm0, cm1] rA8 = some rA9 := by kernel_rfl
theorem rA9_on : stepX baseFs [cm0, cm1] rA9 = some rA10 := by kernel_rfl
theorem rA10_on : stepX baseFs [cm0, cm1] rA10 = some rA11 := by kernel_rfl
theorem rA11_on : stepX baseFs [cm0, cm1] rA11 = some rA12 := by kernel_rfl
theorem rA12_on : stepX baseFs [cm0, cm1] rA12 = some rA13 := by kernel_rfl
theorem rA13_on : stepX baseFs [cm0, cm1] rA13 = some rA14 := by kernel_rfl
theorem rA14_on : stepX baseFs [cm0, cm1] rA14 = some rA15 := by kernel_rfl
theorem rA15_on : stepX baseFs [cm0, cm1] rA15 = some rA16 := by kernel_rfl
theorem rA16_on : stepX baseFs [cm0, cm1] rA16 = some rA17 := by kernel_rfl
theorem rA17_on : stepX baseFs [cm0, cm1] rA17 = some rA18 := by kernel_rfl
theorem rA18_on : stepX baseFs [cm0, cm1] rA18 = some rA19 := by kernel_rfl
theorem rA19_on : stepX baseFs [cm0, cm1] rA19 = some rA20 := by kernel_rfl
theorem rA20_on : stepX baseFs [cm0, cm1] rA20 = some rA21 := by kernel_rfl
theorem rA21_on : stepX baseFs [cm0, cm1] rA21 = some rA22 := by kernel_rfl
theorem rA22_on : stepX baseFs [cm0, cm1] rA22 = some rA23 := by kernel_rfl
theorem rA23_on : stepX baseFs [cm0, cm1] rA23 = some rA24 := by kernel_rfl
theorem rA24_on : stepX baseFs [cm0, cm1] rA24 = some rA25 := by kernel_rfl
theorem rA25_on : stepX baseFs [cm0, cm1] rA25 = some rA26 := by kernel_rfl
theorem rA26_on : stepX baseFs [cm0, cm1] rA26 = some rA27 := by kernel_rfl
theorem rA27_on : stepX baseFs [cm0, cm1] rA27 = some rA28 := by kernel_rfl
theorem rA28_on : stepX baseFs [cm0, cm1] rA28 = some rA29 := by kernel_rfl
theorem rA29_on : stepX baseFs [cm0, cm1] rA29 = some rA30 := by kernel_rfl
theorem rA30_on : stepX baseFs [cm0, cm1] rA30 = some rA31 := by kernel_rfl
theorem rA31_on : stepX baseFs [cm0, cm1] rA31 = some rA32 := by kernel_rfl
theorem rA32_on : stepX baseFs [cm0, cm1] rA32 = some rA33 := by kernel_rfl
theorem rA33_on : stepX baseFs [cm0, cm1] rA33 = some rA34 := by kernel_rfl
theorem rA34_on : stepX baseFs [cm0, cm1] rA34 = some rA35 := by kernel_rfl
theorem rA35_on : stepX baseFs [cm0, cm1] rA35 = some rA36 := by kernel_rfl
theorem rA36_on : stepX baseFs [cm0, cm1] rA36 = some rA37 := by kernel_rfl
theorem rA37_on : stepX baseFs [cm0, cm1] rA37 = some rA38 := by kernel_rfl
theorem rA38_on : stepX baseFs [cm0, cm1] rA38 = some rA39 := by kernel_rfl
theorem rA39_on : stepX baseFs [cm0, cm1] rA39 = some rA40 := by kernel_rfl
theorem rA40_on : stepX baseFs [cm0, cm1] rA40 = some rA41 := by kernel_rfl
theorem rA41_on : stepX baseFs [cm0, cm1] rA41 = some rA42 := by kernel_rfl
theorem rA42_on : stepX baseFs [cm0, cm1] rA42 = some rA43 := by kernel_rfl
theorem rA43_on : stepX baseFs [cm0, cm1] rA43 = some rA44 := by kernel_rfl
theorem rA44_on : stepX baseFs [cm0, cm1] rA44 = some rA45 := by kernel_rfl
theorem rA45_on : stepX baseFs [cm0, cm1] rA45 = some rA46 := by kernel_rfl
theorem rA46_on : stepX baseFs [cm0, cm1] rA46 = some rA47 := by kernel_rfl
theorem rA_run : runX baseFs [cm0, cm1] 47 rA0 = some rA47 :=
  run_more rfl rA0_on (run_more rfl rA1_on (run_more rfl rA2_on (run_more rfl rA3_on (run_more rfl rA4_on (run_more rfl rA5_on (run_more rfl rA6_on (run_more rfl rA7_on (run_more rfl rA8_on (run_more rfl rA9_on (run_more rfl rA10_on (run_more rfl rA11_on (run_more rfl rA12_on (run_more rfl rA13_on (run_more rfl rA14_on (run_more rfl rA15_on (run_more rfl rA16_on (run_more rfl rA17_on (run_more rfl rA18_on (run_more rfl rA19_on (run_more rfl rA20_on (run_more rfl rA21_on (run_more rfl rA22_on (run_more rfl rA23_on (run_more rfl rA24_on (run_more rfl rA25_on (run_more rfl rA26_on (run_more rfl rA27_on (run_more rfl rA28_on (run_more rfl rA29_on (run_more rfl rA30_on (run_more rfl rA31_on (run_more rfl rA32_on (run_more rfl rA33_on (run_more rfl rA34_on (run_more rfl rA35_on (run_more rfl rA36_on (run_more rfl rA37_on (run_more rfl rA38_on (run_more rfl rA39_on (run_more rfl rA40_on (run_more rfl rA41_on (run_more rfl rA42_on (run_more rfl rA43_on (run_more rfl rA44_on (run_more rfl rA45_on (run_more rfl rA46_on (run_done rfl)))))))))))))))))))))))))))))))))))))))))))))))
def rB0 : XR := ⟨[], 0, [], none, ⟨0, 0, 0, 0, 0⟩, [], [], [], [], [[pn 0 0, pn 0 0, pn 0 0, pn 0 0, pn 0 0, pn 0 0, pn 0 0, pn 0 0, pn 0 0, pn 0 0, pn 0 0, pn 0 0, pn 0 0, pn 0 0, pn 0 0], [pn 0 0, pn 0 0, pn 0 0, pn 0 0]], []⟩
def rB1 : XR := ⟨[], 0, [], (some (0, 0)), ⟨0, 0, 0, 0, 0⟩, [], [], [], [], [[pn 0 0, pn 0 0, pn 0 0, pn 0 0, pn 0 0, pn 0 0, pn 0 0, pn 0 0, pn 0 0, pn 0 0, pn 0 0, pn 0 0, pn 0 0, pn 0 0, pn 0 0], [pn 0 0, pn 0 0, pn 0 0, pn 0 0]], []⟩
theorem rB0_on : stepX baseFs [cm0, cm1] rB0 = some rB1 := by kernel_rfl
theorem rB_run : runX baseFs [cm0, cm1] 1 rB0 = some rB1 :=
  run_more rfl rB0_on (run_done rfl)
theorem rA_begin : beginX baseFs [3] 1000 0 = rA0 := by kernel_rfl
theorem rB_begin : beginX baseFs [] 0 0 = rB0 := by kernel_rfl
def rA : XR := rA47
def rB : XR := rB1
theorem rA_ok : runX baseFs [cm0, cm1] 47 (beginX baseFs [3] 1000 0) = some rA := by rw [rA_begin]; exact rA_run
theorem rB_ok : runX baseFs [cm0, cm1] 1 (beginX baseFs [] 0 0) = some rB := by rw [rB_begin]; exact rB_run
end Go.Proofs.Ytagagpappjkgbaa
