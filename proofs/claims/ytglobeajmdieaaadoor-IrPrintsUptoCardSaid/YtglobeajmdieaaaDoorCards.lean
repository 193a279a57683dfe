/-
  DERIVED. GIVEN WITH THE SEED: THE CARDS: each row of YtglobeajmdieaaaDoorRows.lean that lists a variable, with what it lists TIED to the program's text (the seventh form; the later family's looks); each row that meets fmt, with fmt's text TOLD by the authors' own Lean function (tested against real Go, not proved from fmt's source: count such statements apart). THE CARD IS WHAT COUNTS. Prove the row's statement (the work); the ties are given (YtglobeajmdieaaaDoorTie.lean); close each card by the builder's one call (the guide's Derived/Test/ToyasCard.lean, 'card_holds'). Laid BY PROGRAM, IN A SANDBOX (cutbox-door.mjs). By AI agents, Wed Nov 11 2026. No macro, syntax, notation, axiom, sorry.
-/
import Derived.Test.YtglobeajmdieaaaDoorRows
import GoSem.ClaimSeven
namespace Go.Proofs.YtglobeajmdieaaaDoor
namespace Rows

/-- THE TIED CARD OF 'distafflaw07.IrPrints'. -/
def irPrintsCard : Claim7 := { stood := { row := irPrintsRow, standIns := [], harness := (true, "1f9a33012ceb01f6397eeaddcda1b209f6542561e48144b106d97a33db63187b"), looks := false }, kinds := [], alts := [], laidByText := true, laidKinds := [.data, .data, .data], laidTests := true, laidLooks := .later }
def IrPrintsCardSaid : Prop := Claim7.holds Tryd.pinned (.plain (OpenSpec.ofChange irPrintsSpec)) irPrintsCard

/-- THE SECOND FORM's CARD OF 'distafflaw07.IrPrints'. -/
def irPrintsUptoCard : Claim7 := { stood := { row := irPrintsUptoRow, standIns := [], harness := (true, "1f9a33012ceb01f6397eeaddcda1b209f6542561e48144b106d97a33db63187b"), looks := false }, kinds := [], alts := [], laidByText := true, laidKinds := [.data, .data, .data], laidTests := true, laidLooks := .later }
def IrPrintsUptoCardSaid : Prop := Claim7.holds Tryd.pinned (.plain (OpenSpec.upto irPrintsSpec)) irPrintsUptoCard
end Rows
end Go.Proofs.YtglobeajmdieaaaDoor
