/-
  DERIVED. GIVEN WITH THE SEED: THE CARDS: each row of YtnnjpegeefoecaaGreatDoorRows.lean that lists a variable, with what it lists TIED to the program's text (the seventh form; the later family's looks); each row that meets fmt, with fmt's text TOLD by the authors' own Lean function (tested against real Go, not proved from fmt's source: count such statements apart). THE CARD IS WHAT COUNTS. Prove the row's statement (the work); the ties are given (YtnnjpegeefoecaaGreatDoorTie.lean); close each card by the builder's one call (the guide's Derived/Test/ToyasCard.lean, 'card_holds'). Laid BY PROGRAM, IN A SANDBOX (cutbox-door.mjs). By AI agents, Wed Nov 11 2026. No macro, syntax, notation, axiom, sorry.
-/
import Derived.Test.YtnnjpegeefoecaaGreatDoorRows
import GoSem.ClaimSeven
namespace Go.Proofs.YtnnjpegeefoecaaGreatDoor
namespace Rows

/-- THE TIED CARD OF 'distafflaw04.ParseBack'. -/
def parseBackCard : Claim7 := { stood := { row := parseBackRow, standIns := [], harness := (true, "050a88c7e169721db72529e308038048d8d1951959e399b3031b9af014bb2a91"), looks := true }, kinds := [], alts := [], laidByText := true, laidKinds := [.data, .data, .data, .sentinel, .sentinel], laidTests := true, laidLooks := .later }
def ParseBackCardSaid : Prop := Claim7.holds Tryz.pinned (.plain (OpenSpec.ofChange parseBackSpec)) parseBackCard

/-- THE TIED CARD OF 'distafflaw04.ParseNests'. -/
def parseNestsCard : Claim7 := { stood := { row := parseNestsRow, standIns := [], harness := (true, "050a88c7e169721db72529e308038048d8d1951959e399b3031b9af014bb2a91"), looks := true }, kinds := [], alts := [], laidByText := true, laidKinds := [.data, .data, .data, .sentinel, .sentinel], laidTests := true, laidLooks := .later }
def ParseNestsCardSaid : Prop := Claim7.holds Tryz.pinned (.plain (OpenSpec.ofChange parseNestsSpec)) parseNestsCard

/-- THE TIED CARD OF 'distafflaw04.ParseMost'. -/
def parseMostCard : Claim7 := { stood := { row := parseMostRow, standIns := [], harness := (true, "050a88c7e169721db72529e308038048d8d1951959e399b3031b9af014bb2a91"), looks := true }, kinds := [], alts := [], laidByText := true, laidKinds := [.data, .data, .data, .sentinel, .sentinel], laidTests := true, laidLooks := .later }
def ParseMostCardSaid : Prop := Claim7.holds Tryz.pinned (.plain (OpenSpec.ofChange parseMostSpec)) parseMostCard

/-- THE TIED CARD OF 'distafflaw06.InterpFuel'. -/
def interpFuelCard : Claim7 := { stood := { row := interpFuelRow, standIns := [], harness := (true, "050a88c7e169721db72529e308038048d8d1951959e399b3031b9af014bb2a91"), looks := true }, kinds := [], alts := [], laidByText := true, laidKinds := [.data, .data, .data, .sentinel, .sentinel], laidTests := true, laidLooks := .later }
def InterpFuelCardSaid : Prop := Claim7.holds Tryz.pinned (.plain (OpenSpec.ofChange interpFuelSpec)) interpFuelCard

/-- THE TIED CARD OF 'distafflaw06.InterpInputs'. -/
def interpInputsCard : Claim7 := { stood := { row := interpInputsRow, standIns := [], harness := (true, "050a88c7e169721db72529e308038048d8d1951959e399b3031b9af014bb2a91"), looks := true }, kinds := [], alts := [], laidByText := true, laidKinds := [.data, .data, .data, .sentinel, .sentinel], laidTests := true, laidLooks := .later }
def InterpInputsCardSaid : Prop := Claim7.holds Tryz.pinned (.plain (OpenSpec.ofChange interpInputsSpec)) interpInputsCard

/-- THE TIED CARD OF 'distafflaw06.InterpNone'. -/
def interpNoneCard : Claim7 := { stood := { row := interpNoneRow, standIns := [], harness := (true, "050a88c7e169721db72529e308038048d8d1951959e399b3031b9af014bb2a91"), looks := true }, kinds := [], alts := [], laidByText := true, laidKinds := [.data, .data, .data, .sentinel, .sentinel], laidTests := true, laidLooks := .later }
def InterpNoneCardSaid : Prop := Claim7.holds Tryz.pinned (.plain (OpenSpec.ofChange interpNoneSpec)) interpNoneCard

/-- THE SECOND FORM's CARD OF 'distafflaw04.ParseBack'. -/
def parseBackUptoCard : Claim7 := { stood := { row := parseBackUptoRow, standIns := [], harness := (true, "050a88c7e169721db72529e308038048d8d1951959e399b3031b9af014bb2a91"), looks := true }, kinds := [], alts := [], laidByText := true, laidKinds := [.data, .data, .data, .sentinel, .sentinel], laidTests := true, laidLooks := .later }
def ParseBackUptoCardSaid : Prop := Claim7.holds Tryz.pinned (.plain (OpenSpec.upto parseBackSpec)) parseBackUptoCard

/-- THE SECOND FORM's CARD OF 'distafflaw04.ParseNests'. -/
def parseNestsUptoCard : Claim7 := { stood := { row := parseNestsUptoRow, standIns := [], harness := (true, "050a88c7e169721db72529e308038048d8d1951959e399b3031b9af014bb2a91"), looks := true }, kinds := [], alts := [], laidByText := true, laidKinds := [.data, .data, .data, .sentinel, .sentinel], laidTests := true, laidLooks := .later }
def ParseNestsUptoCardSaid : Prop := Claim7.holds Tryz.pinned (.plain (OpenSpec.upto parseNestsSpec)) parseNestsUptoCard

/-- THE SECOND FORM's CARD OF 'distafflaw04.ParseMost'. -/
def parseMostUptoCard : Claim7 := { stood := { row := parseMostUptoRow, standIns := [], harness := (true, "050a88c7e169721db72529e308038048d8d1951959e399b3031b9af014bb2a91"), looks := true }, kinds := [], alts := [], laidByText := true, laidKinds := [.data, .data, .data, .sentinel, .sentinel], laidTests := true, laidLooks := .later }
def ParseMostUptoCardSaid : Prop := Claim7.holds Tryz.pinned (.plain (OpenSpec.upto parseMostSpec)) parseMostUptoCard

/-- THE SECOND FORM's CARD OF 'distafflaw06.InterpFuel'. -/
def interpFuelUptoCard : Claim7 := { stood := { row := interpFuelUptoRow, standIns := [], harness := (true, "050a88c7e169721db72529e308038048d8d1951959e399b3031b9af014bb2a91"), looks := true }, kinds := [], alts := [], laidByText := true, laidKinds := [.data, .data, .data, .sentinel, .sentinel], laidTests := true, laidLooks := .later }
def InterpFuelUptoCardSaid : Prop := Claim7.holds Tryz.pinned (.plain (OpenSpec.upto interpFuelSpec)) interpFuelUptoCard

/-- THE SECOND FORM's CARD OF 'distafflaw06.InterpInputs'. -/
def interpInputsUptoCard : Claim7 := { stood := { row := interpInputsUptoRow, standIns := [], harness := (true, "050a88c7e169721db72529e308038048d8d1951959e399b3031b9af014bb2a91"), looks := true }, kinds := [], alts := [], laidByText := true, laidKinds := [.data, .data, .data, .sentinel, .sentinel], laidTests := true, laidLooks := .later }
def InterpInputsUptoCardSaid : Prop := Claim7.holds Tryz.pinned (.plain (OpenSpec.upto interpInputsSpec)) interpInputsUptoCard

/-- THE SECOND FORM's CARD OF 'distafflaw06.InterpNone'. -/
def interpNoneUptoCard : Claim7 := { stood := { row := interpNoneUptoRow, standIns := [], harness := (true, "050a88c7e169721db72529e308038048d8d1951959e399b3031b9af014bb2a91"), looks := true }, kinds := [], alts := [], laidByText := true, laidKinds := [.data, .data, .data, .sentinel, .sentinel], laidTests := true, laidLooks := .later }
def InterpNoneUptoCardSaid : Prop := Claim7.holds Tryz.pinned (.plain (OpenSpec.upto interpNoneSpec)) interpNoneUptoCard
end Rows
end Go.Proofs.YtnnjpegeefoecaaGreatDoor
