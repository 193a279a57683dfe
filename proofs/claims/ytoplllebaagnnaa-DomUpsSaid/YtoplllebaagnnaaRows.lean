/-
  No cell of these rows narrows 'for every input' (looked for: loops, veiled, ifaces, maps, wideKeys, modest, calm, conditions, laid).
  DERIVED. THE GIVEN ROWS OF THIS SEAT. 6 by the template 'for every input the law returns true; each argument reads behind the call as it read before'; 0 by the template 'total and deterministic' (their statements: YtoplllebaagnnaaTotals.lean).
  GIVEN WITH THE SEED: the statements are not yours to turn. If you find one false, say at which input.
  Laid BY PROGRAM, IN A SANDBOX (cutbox-rows.mjs): the forced cells as the released guide's own fill.sh prints them over the translation 9795173e890c2259… (all of the seat's roots in one cut). By AI agents, Wed Nov 11 2026. No macro, syntax, notation, axiom, sorry.
-/
import Derived.Test.YtoplllebaagnnaaChecked
import GoSem.Claim
import GoSem.ClaimJoined
import GoSem.ClaimMapViews
import Derived.JoinedTies
import Derived.KernelRfl
namespace Go.Proofs.Ytoplllebaagnnaa
/- THE CELL 'sum', in the pinned program and in every row, IS THE sha256 OF THE DUMP (.gsa) THAT YtoplllebaagnnaaProg.lean LOADS. Nothing in Lean hashes anything: it is a label: what it is worth is what the hold of that sum in a sandbox is worth. -/
noncomputable def Try.pinned : Pinned := { name := "ytoplllebaagnnaa", sum := "9795173e890c22595b6ea536201d67259917358f89a9f36f23743c8e30454f5c", checked := Try.checked }
namespace Rows
def none {H : Type} : Left H := { results := [], args := [] }

/-- 'distafflaw09.DomOver': WHATEVER THE INPUT: true; the input reads as it did. -/
def domOverSpec : ChangeSpec := { name := "domOver", fn := fun _ => fun
  | [d] => { results := [.lit (.bool true)], args := [d] }
  | _ => none }
def domOverRow : OpenClaim := { program := "ytoplllebaagnnaa", sum := "9795173e890c22595b6ea536201d67259917358f89a9f36f23743c8e30454f5c", func := "distaff/distafflaw09.DomOver", spec := "domOver", unfollowed := true, recurses := true, apart := false }
def DomOverSaid : Prop := domOverRow.holds Try.pinned (OpenSpec.ofChange domOverSpec)

/-- ITS FALSE NEIGHBOUR: 'it returns false'. Refute it at one input. -/
def domOverWrong : ChangeSpec := { name := "domOver", fn := fun _ => fun
  | [d] => { results := [.lit (.bool false)], args := [d] }
  | _ => none }
def DomOverWrongFalsely : Prop := domOverRow.holds Try.pinned (OpenSpec.ofChange domOverWrong)

/-- 'distafflaw09.DomUps': WHATEVER THE INPUT: true; the input reads as it did. -/
def domUpsSpec : ChangeSpec := { name := "domUps", fn := fun _ => fun
  | [d] => { results := [.lit (.bool true)], args := [d] }
  | _ => none }
def domUpsRow : OpenClaim := { program := "ytoplllebaagnnaa", sum := "9795173e890c22595b6ea536201d67259917358f89a9f36f23743c8e30454f5c", func := "distaff/distafflaw09.DomUps", spec := "domUps", unfollowed := true, recurses := true, apart := false }
def DomUpsSaid : Prop := domUpsRow.holds Try.pinned (OpenSpec.ofChange domUpsSpec)

/-- ITS FALSE NEIGHBOUR: 'it returns false'. Refute it at one input. -/
def domUpsWrong : ChangeSpec := { name := "domUps", fn := fun _ => fun
  | [d] => { results := [.lit (.bool false)], args := [d] }
  | _ => none }
def DomUpsWrongFalsely : Prop := domUpsRow.holds Try.pinned (OpenSpec.ofChange domUpsWrong)

/-- 'distafflaw09.DomKids': WHATEVER THE INPUT: true; the input reads as it did. -/
def domKidsSpec : ChangeSpec := { name := "domKids", fn := fun _ => fun
  | [d] => { results := [.lit (.bool true)], args := [d] }
  | _ => none }
def domKidsRow : OpenClaim := { program := "ytoplllebaagnnaa", sum := "9795173e890c22595b6ea536201d67259917358f89a9f36f23743c8e30454f5c", func := "distaff/distafflaw09.DomKids", spec := "domKids", unfollowed := true, recurses := true, apart := false }
def DomKidsSaid : Prop := domKidsRow.holds Try.pinned (OpenSpec.ofChange domKidsSpec)

/-- ITS FALSE NEIGHBOUR: 'it returns false'. Refute it at one input. -/
def domKidsWrong : ChangeSpec := { name := "domKids", fn := fun _ => fun
  | [d] => { results := [.lit (.bool false)], args := [d] }
  | _ => none }
def DomKidsWrongFalsely : Prop := domKidsRow.holds Try.pinned (OpenSpec.ofChange domKidsWrong)

/-- 'distafflaw09.DomCommon': WHATEVER THE INPUT: true; the input reads as it did. -/
def domCommonSpec : ChangeSpec := { name := "domCommon", fn := fun _ => fun
  | [d] => { results := [.lit (.bool true)], args := [d] }
  | _ => none }
def domCommonRow : OpenClaim := { program := "ytoplllebaagnnaa", sum := "9795173e890c22595b6ea536201d67259917358f89a9f36f23743c8e30454f5c", func := "distaff/distafflaw09.DomCommon", spec := "domCommon", unfollowed := true, recurses := true, apart := false }
def DomCommonSaid : Prop := domCommonRow.holds Try.pinned (OpenSpec.ofChange domCommonSpec)

/-- ITS FALSE NEIGHBOUR: 'it returns false'. Refute it at one input. -/
def domCommonWrong : ChangeSpec := { name := "domCommon", fn := fun _ => fun
  | [d] => { results := [.lit (.bool false)], args := [d] }
  | _ => none }
def DomCommonWrongFalsely : Prop := domCommonRow.holds Try.pinned (OpenSpec.ofChange domCommonWrong)

/-- 'distafflaw09.DomFrontiers': WHATEVER THE INPUT: true; the input reads as it did. -/
def domFrontiersSpec : ChangeSpec := { name := "domFrontiers", fn := fun _ => fun
  | [d] => { results := [.lit (.bool true)], args := [d] }
  | _ => none }
def domFrontiersRow : OpenClaim := { program := "ytoplllebaagnnaa", sum := "9795173e890c22595b6ea536201d67259917358f89a9f36f23743c8e30454f5c", func := "distaff/distafflaw09.DomFrontiers", spec := "domFrontiers", unfollowed := true, recurses := true, apart := false }
def DomFrontiersSaid : Prop := domFrontiersRow.holds Try.pinned (OpenSpec.ofChange domFrontiersSpec)

/-- ITS FALSE NEIGHBOUR: 'it returns false'. Refute it at one input. -/
def domFrontiersWrong : ChangeSpec := { name := "domFrontiers", fn := fun _ => fun
  | [d] => { results := [.lit (.bool false)], args := [d] }
  | _ => none }
def DomFrontiersWrongFalsely : Prop := domFrontiersRow.holds Try.pinned (OpenSpec.ofChange domFrontiersWrong)

/-- 'distafflaw10.SoundNone': WHATEVER THE INPUT: true; the input reads as it did. -/
def soundNoneSpec : ChangeSpec := { name := "soundNone", fn := fun _ => fun
  | [d] => { results := [.lit (.bool true)], args := [d] }
  | _ => none }
def soundNoneRow : OpenClaim := { program := "ytoplllebaagnnaa", sum := "9795173e890c22595b6ea536201d67259917358f89a9f36f23743c8e30454f5c", func := "distaff/distafflaw10.SoundNone", spec := "soundNone", unfollowed := true, recurses := true, apart := false }
def SoundNoneSaid : Prop := soundNoneRow.holds Try.pinned (OpenSpec.ofChange soundNoneSpec)

/-- ITS FALSE NEIGHBOUR: 'it returns false'. Refute it at one input. -/
def soundNoneWrong : ChangeSpec := { name := "soundNone", fn := fun _ => fun
  | [d] => { results := [.lit (.bool false)], args := [d] }
  | _ => none }
def SoundNoneWrongFalsely : Prop := soundNoneRow.holds Try.pinned (OpenSpec.ofChange soundNoneWrong)

/- THE SECOND FORM. 'bulk': how many values and letters a reading holds, each counted each time it is reached (what is shared counts as often as it is met; a slice's spare places count too). A statement '..UptoSaid' is the law's where the arguments, and the package variables that the reading takes, are together of bulk at most 1048576: NARROWER than '..Said'. Prove '..Said' where nothing that the law and all that it calls make is longer than what came in: it says more and counts as full. Else prove '..UptoSaid'. A law counts once. -/
mutual
def uptoBulk {H : Type} : DataW H → Nat
  | .lit (.string bytes) => bytes.length + 1
  | .lit _ => 1
  | .nil => 1
  | .ptr d => uptoBulk d + 1
  | .slice elems spare => uptoBulkAll elems + uptoBulkAll spare + 1
  | .agg parts => uptoBulkAll parts + 1
  | .iface _ d => uptoBulk d + 1
  | .map entries => uptoBulkEntries entries + 1
  | .held _ => 1
def uptoBulkAll {H : Type} : List (DataW H) → Nat
  | [] => 0
  | d :: r => uptoBulk d + uptoBulkAll r
def uptoBulkEntries {H : Type} : List (Lit × DataW H) → Nat
  | [] => 0
  | x :: r => uptoBulkEntry x + uptoBulkEntries r
def uptoBulkEntry {H : Type} : Lit × DataW H → Nat
  | (.string bytes, d) => bytes.length + uptoBulk d + 1
  | (_, d) => uptoBulk d + 1
 end
def uptoSmall : (H : Type) → List (DataW H) → Bool := fun _ ds => decide (uptoBulkAll ds ≤ 1048576)
def OpenSpec.upto (s : _root_.Go.ChangeSpec) : _root_.Go.OpenSpec := { _root_.Go.OpenSpec.ofChange s with cond := some uptoSmall }

/-- 'distafflaw09.DomOver', WHERE WHAT IT READS IS OF BULK AT MOST 1048576: true; the input reads as it did. -/
def domOverUptoRow : OpenClaim := { program := "ytoplllebaagnnaa", sum := "9795173e890c22595b6ea536201d67259917358f89a9f36f23743c8e30454f5c", func := "distaff/distafflaw09.DomOver", spec := "domOver", unfollowed := true, recurses := true, apart := false, narrowed := true }
def DomOverUptoSaid : Prop := domOverUptoRow.holds Try.pinned (OpenSpec.upto domOverSpec)

/-- 'distafflaw09.DomUps', WHERE WHAT IT READS IS OF BULK AT MOST 1048576: true; the input reads as it did. -/
def domUpsUptoRow : OpenClaim := { program := "ytoplllebaagnnaa", sum := "9795173e890c22595b6ea536201d67259917358f89a9f36f23743c8e30454f5c", func := "distaff/distafflaw09.DomUps", spec := "domUps", unfollowed := true, recurses := true, apart := false, narrowed := true }
def DomUpsUptoSaid : Prop := domUpsUptoRow.holds Try.pinned (OpenSpec.upto domUpsSpec)

/-- 'distafflaw09.DomKids', WHERE WHAT IT READS IS OF BULK AT MOST 1048576: true; the input reads as it did. -/
def domKidsUptoRow : OpenClaim := { program := "ytoplllebaagnnaa", sum := "9795173e890c22595b6ea536201d67259917358f89a9f36f23743c8e30454f5c", func := "distaff/distafflaw09.DomKids", spec := "domKids", unfollowed := true, recurses := true, apart := false, narrowed := true }
def DomKidsUptoSaid : Prop := domKidsUptoRow.holds Try.pinned (OpenSpec.upto domKidsSpec)

/-- 'distafflaw09.DomCommon', WHERE WHAT IT READS IS OF BULK AT MOST 1048576: true; the input reads as it did. -/
def domCommonUptoRow : OpenClaim := { program := "ytoplllebaagnnaa", sum := "9795173e890c22595b6ea536201d67259917358f89a9f36f23743c8e30454f5c", func := "distaff/distafflaw09.DomCommon", spec := "domCommon", unfollowed := true, recurses := true, apart := false, narrowed := true }
def DomCommonUptoSaid : Prop := domCommonUptoRow.holds Try.pinned (OpenSpec.upto domCommonSpec)

/-- 'distafflaw09.DomFrontiers', WHERE WHAT IT READS IS OF BULK AT MOST 1048576: true; the input reads as it did. -/
def domFrontiersUptoRow : OpenClaim := { program := "ytoplllebaagnnaa", sum := "9795173e890c22595b6ea536201d67259917358f89a9f36f23743c8e30454f5c", func := "distaff/distafflaw09.DomFrontiers", spec := "domFrontiers", unfollowed := true, recurses := true, apart := false, narrowed := true }
def DomFrontiersUptoSaid : Prop := domFrontiersUptoRow.holds Try.pinned (OpenSpec.upto domFrontiersSpec)

/-- 'distafflaw10.SoundNone', WHERE WHAT IT READS IS OF BULK AT MOST 1048576: true; the input reads as it did. -/
def soundNoneUptoRow : OpenClaim := { program := "ytoplllebaagnnaa", sum := "9795173e890c22595b6ea536201d67259917358f89a9f36f23743c8e30454f5c", func := "distaff/distafflaw10.SoundNone", spec := "soundNone", unfollowed := true, recurses := true, apart := false, narrowed := true }
def SoundNoneUptoSaid : Prop := soundNoneUptoRow.holds Try.pinned (OpenSpec.upto soundNoneSpec)

end Rows
end Go.Proofs.Ytoplllebaagnnaa
