/-
  DERIVED. GIVEN WITH THE SEED: THE CARDS: each row of YtlgpbllkhbgppaaGreatDoorRows.lean that lists a variable, with what it lists TIED to the program's text (the seventh form; the later family's looks); each row that meets fmt, with fmt's text TOLD by the authors' own Lean function (tested against real Go, not proved from fmt's source: count such statements apart). THE CARD IS WHAT COUNTS. Prove the row's statement (the work); the ties are given (YtlgpbllkhbgppaaGreatDoorTie.lean); close each card by the builder's one call (the guide's Derived/Test/ToyasCard.lean, 'card_holds'). Laid BY PROGRAM, IN A SANDBOX (cutbox-door.mjs). By AI agents, Wed Nov 11 2026. No macro, syntax, notation, axiom, sorry.
-/
import Derived.Test.YtlgpbllkhbgppaaGreatDoorRows
import GoSem.ClaimSeven
namespace Go.Proofs.YtlgpbllkhbgppaaGreatDoor
namespace Rows

/-- THE TIED CARD OF 'distafflaw06.InterpNone'. -/
def interpNoneCard : Claim7 := { stood := { row := interpNoneRow, standIns := [], harness := (true, "54e4d3b7b4cef542d177874ec4b91b01466f72ab59a15bedebd2d029188cd54f"), looks := true }, kinds := [], alts := [], laidByText := true, laidKinds := [.data, .data, .data, .sentinel, .sentinel], laidTests := true, laidLooks := .later }
def InterpNoneCardSaid : Prop := Claim7.holds Tryz.pinned (.plain (OpenSpec.ofChange interpNoneSpec)) interpNoneCard

/-- THE SECOND FORM's CARD OF 'distafflaw06.InterpNone'. -/
def interpNoneUptoCard : Claim7 := { stood := { row := interpNoneUptoRow, standIns := [], harness := (true, "54e4d3b7b4cef542d177874ec4b91b01466f72ab59a15bedebd2d029188cd54f"), looks := true }, kinds := [], alts := [], laidByText := true, laidKinds := [.data, .data, .data, .sentinel, .sentinel], laidTests := true, laidLooks := .later }
def InterpNoneUptoCardSaid : Prop := Claim7.holds Tryz.pinned (.plain (OpenSpec.upto interpNoneSpec)) interpNoneUptoCard
end Rows
end Go.Proofs.YtlgpbllkhbgppaaGreatDoor
