/-
  No cell of these rows narrows 'for every input' (looked for: loops, veiled, ifaces, maps, wideKeys, modest, calm, conditions, laid).
  DERIVED. THE GIVEN ROWS OF THIS SEAT. 3 by the template 'for every input the law returns true; each argument reads behind the call as it read before'; 0 by the template 'total and deterministic' (their statements: YtglobeajmdieaaaTotals.lean).
  GIVEN WITH THE SEED: the statements are not yours to turn. If you find one false, say at which input.
  Laid BY PROGRAM, IN A SANDBOX (cutbox-rows.mjs): the forced cells as the released guide's own fill.sh prints them over the translation 0b9ebd217ba041cc… (all of the seat's roots in one cut). By AI agents, Wed Nov 11 2026. No macro, syntax, notation, axiom, sorry.
-/
import Derived.Test.YtglobeajmdieaaaChecked
import GoSem.Claim
import GoSem.ClaimJoined
import GoSem.ClaimMapViews
import Derived.JoinedTies
import Derived.KernelRfl
namespace Go.Proofs.Ytglobeajmdieaaa
/- THE CELL 'sum', in the pinned program and in every row, IS THE sha256 OF THE DUMP (.gsa) THAT YtglobeajmdieaaaProg.lean LOADS. Nothing in Lean hashes anything: it is a label: what it is worth is what the hold of that sum in a sandbox is worth. -/
noncomputable def Try.pinned : Pinned := { name := "ytglobeajmdieaaa", sum := "0b9ebd217ba041ccc0b519e1e18d3718b340d3147f2ea1fb8db947597794335a", checked := Try.checked }
namespace Rows
def none {H : Type} : Left H := { results := [], args := [] }

/-- 'distafflaw10.SoundNone': WHATEVER THE INPUT: true; the input reads as it did. -/
def soundNoneSpec : ChangeSpec := { name := "soundNone", fn := fun _ => fun
  | [d] => { results := [.lit (.bool true)], args := [d] }
  | _ => none }
def soundNoneRow : OpenClaim := { program := "ytglobeajmdieaaa", sum := "0b9ebd217ba041ccc0b519e1e18d3718b340d3147f2ea1fb8db947597794335a", func := "distaff/distafflaw10.SoundNone", spec := "soundNone", unfollowed := true, recurses := true, apart := false }
def SoundNoneSaid : Prop := soundNoneRow.holds Try.pinned (OpenSpec.ofChange soundNoneSpec)

/-- ITS FALSE NEIGHBOUR: 'it returns false'. Refute it at one input. -/
def soundNoneWrong : ChangeSpec := { name := "soundNone", fn := fun _ => fun
  | [d] => { results := [.lit (.bool false)], args := [d] }
  | _ => none }
def SoundNoneWrongFalsely : Prop := soundNoneRow.holds Try.pinned (OpenSpec.ofChange soundNoneWrong)

/-- 'distafflaw11.ExecFuel': WHATEVER THE INPUT: true; the input reads as it did. -/
def execFuelSpec : ChangeSpec := { name := "execFuel", fn := fun _ => fun
  | [d1, d2, d3] => { results := [.lit (.bool true)], args := [d1, d2, d3] }
  | _ => none }
def execFuelRow : OpenClaim := { program := "ytglobeajmdieaaa", sum := "0b9ebd217ba041ccc0b519e1e18d3718b340d3147f2ea1fb8db947597794335a", func := "distaff/distafflaw11.ExecFuel", spec := "execFuel", unfollowed := true, recurses := true, apart := false }
def ExecFuelSaid : Prop := execFuelRow.holds Try.pinned (OpenSpec.ofChange execFuelSpec)

/-- ITS FALSE NEIGHBOUR: 'it returns false'. Refute it at one input. -/
def execFuelWrong : ChangeSpec := { name := "execFuel", fn := fun _ => fun
  | [d1, d2, d3] => { results := [.lit (.bool false)], args := [d1, d2, d3] }
  | _ => none }
def ExecFuelWrongFalsely : Prop := execFuelRow.holds Try.pinned (OpenSpec.ofChange execFuelWrong)

/-- 'distafflaw11.ExecNone': WHATEVER THE INPUT: true; the input reads as it did. -/
def execNoneSpec : ChangeSpec := { name := "execNone", fn := fun _ => fun
  | [d] => { results := [.lit (.bool true)], args := [d] }
  | _ => none }
def execNoneRow : OpenClaim := { program := "ytglobeajmdieaaa", sum := "0b9ebd217ba041ccc0b519e1e18d3718b340d3147f2ea1fb8db947597794335a", func := "distaff/distafflaw11.ExecNone", spec := "execNone", unfollowed := true, recurses := true, apart := false }
def ExecNoneSaid : Prop := execNoneRow.holds Try.pinned (OpenSpec.ofChange execNoneSpec)

/-- ITS FALSE NEIGHBOUR: 'it returns false'. Refute it at one input. -/
def execNoneWrong : ChangeSpec := { name := "execNone", fn := fun _ => fun
  | [d] => { results := [.lit (.bool false)], args := [d] }
  | _ => none }
def ExecNoneWrongFalsely : Prop := execNoneRow.holds Try.pinned (OpenSpec.ofChange execNoneWrong)

/- THE SECOND FORM. 'bulk': how many values and letters a reading holds, each counted each time it is reached (what is shared counts as often as it is met; a slice's spare places count too). A statement '..UptoSaid' is the law's where the arguments, and the package variables that the reading takes, are together of bulk at most 1048576: NARROWER than '..Said'. Prove '..Said' where nothing that the law and all that it calls make is longer than what came in: it says more and counts as full. Else prove '..UptoSaid'. A law counts once. -/
mutual
def uptoBulk {H : Type} : DataW H → Nat
  | .lit (.string bytes) => bytes.length + 1
  | .lit _ => 1
  | .nil => 1
  | .ptr d => uptoBulk d + 1
  | .slice elems spare => uptoBulkAll elems + uptoBulkAll spare + 1
  | .agg parts => uptoBulkAll parts + 1
  | .iface _ d => uptoBulk d + 1
  | .map entries => uptoBulkEntries entries + 1
  | .held _ => 1
def uptoBulkAll {H : Type} : List (DataW H) → Nat
  | [] => 0
  | d :: r => uptoBulk d + uptoBulkAll r
def uptoBulkEntries {H : Type} : List (Lit × DataW H) → Nat
  | [] => 0
  | x :: r => uptoBulkEntry x + uptoBulkEntries r
def uptoBulkEntry {H : Type} : Lit × DataW H → Nat
  | (.string bytes, d) => bytes.length + uptoBulk d + 1
  | (_, d) => uptoBulk d + 1
 end
def uptoSmall : (H : Type) → List (DataW H) → Bool := fun _ ds => decide (uptoBulkAll ds ≤ 1048576)
def OpenSpec.upto (s : _root_.Go.ChangeSpec) : _root_.Go.OpenSpec := { _root_.Go.OpenSpec.ofChange s with cond := some uptoSmall }

/-- 'distafflaw10.SoundNone', WHERE WHAT IT READS IS OF BULK AT MOST 1048576: true; the input reads as it did. -/
def soundNoneUptoRow : OpenClaim := { program := "ytglobeajmdieaaa", sum := "0b9ebd217ba041ccc0b519e1e18d3718b340d3147f2ea1fb8db947597794335a", func := "distaff/distafflaw10.SoundNone", spec := "soundNone", unfollowed := true, recurses := true, apart := false, narrowed := true }
def SoundNoneUptoSaid : Prop := soundNoneUptoRow.holds Try.pinned (OpenSpec.upto soundNoneSpec)

/-- 'distafflaw11.ExecFuel', WHERE WHAT IT READS IS OF BULK AT MOST 1048576: true; the input reads as it did. -/
def execFuelUptoRow : OpenClaim := { program := "ytglobeajmdieaaa", sum := "0b9ebd217ba041ccc0b519e1e18d3718b340d3147f2ea1fb8db947597794335a", func := "distaff/distafflaw11.ExecFuel", spec := "execFuel", unfollowed := true, recurses := true, apart := false, narrowed := true }
def ExecFuelUptoSaid : Prop := execFuelUptoRow.holds Try.pinned (OpenSpec.upto execFuelSpec)

/-- 'distafflaw11.ExecNone', WHERE WHAT IT READS IS OF BULK AT MOST 1048576: true; the input reads as it did. -/
def execNoneUptoRow : OpenClaim := { program := "ytglobeajmdieaaa", sum := "0b9ebd217ba041ccc0b519e1e18d3718b340d3147f2ea1fb8db947597794335a", func := "distaff/distafflaw11.ExecNone", spec := "execNone", unfollowed := true, recurses := true, apart := false, narrowed := true }
def ExecNoneUptoSaid : Prop := execNoneUptoRow.holds Try.pinned (OpenSpec.upto execNoneSpec)

end Rows
end Go.Proofs.Ytglobeajmdieaaa
