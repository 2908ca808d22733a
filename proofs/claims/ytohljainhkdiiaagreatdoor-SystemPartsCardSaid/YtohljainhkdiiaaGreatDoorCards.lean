/-
  DERIVED. GIVEN WITH THE SEED: THE CARDS: each row of YtohljainhkdiiaaGreatDoorRows.lean that lists a variable, with what it lists TIED to the program's text (the seventh form; the later family's looks); each row that meets fmt, with fmt's text TOLD by the authors' own Lean function (tested against real Go, not proved from fmt's source: count such statements apart). THE CARD IS WHAT COUNTS. Prove the row's statement (the work); the ties are given (YtohljainhkdiiaaGreatDoorTie.lean); close each card by the builder's one call (the guide's Derived/Test/ToyasCard.lean, 'card_holds'). Laid BY PROGRAM, IN A SANDBOX (cutbox-door.mjs). By AI agents, Wed Nov 11 2026. No macro, syntax, notation, axiom, sorry.
-/
import Derived.Test.YtohljainhkdiiaaGreatDoorRows
import GoSem.ClaimSeven
namespace Go.Proofs.YtohljainhkdiiaaGreatDoor
namespace Rows

/-- THE TIED CARD OF 'makeweightlaw02.SystemParts'. -/
def systemPartsCard : Claim7 := { stood := { row := systemPartsRow, standIns := [], harness := (true, "544e404d8b4c504503d01b055cf922ff22cfcfb0d30d53a3ee0bff96d986d636"), looks := true }, kinds := [], alts := [], laidByText := true, laidKinds := [.data, .data, .data, .data, .sentinel, .sentinel, .sentinel, .sentinel, .sentinel, .pinned], laidTests := true, laidLooks := .later }
def SystemPartsCardSaid : Prop := Claim7.holds Tryz.pinned (.plain (OpenSpec.ofChange systemPartsSpec)) systemPartsCard

/-- THE TIED CARD OF 'makeweightlaw03.SpecSatisfies'. -/
def specSatisfiesCard : Claim7 := { stood := { row := specSatisfiesRow, standIns := [], harness := (true, "544e404d8b4c504503d01b055cf922ff22cfcfb0d30d53a3ee0bff96d986d636"), looks := true }, kinds := [], alts := [], laidByText := true, laidKinds := [.data, .data, .data, .data, .sentinel, .sentinel, .sentinel, .sentinel, .sentinel, .pinned], laidTests := true, laidLooks := .later }
def SpecSatisfiesCardSaid : Prop := Claim7.holds Tryz.pinned (.plain (OpenSpec.ofChange specSatisfiesSpec)) specSatisfiesCard

/-- THE TIED CARD OF 'makeweightlaw03.SpecRight'. -/
def specRightCard : Claim7 := { stood := { row := specRightRow, standIns := [], harness := (true, "544e404d8b4c504503d01b055cf922ff22cfcfb0d30d53a3ee0bff96d986d636"), looks := true }, kinds := [], alts := [], laidByText := true, laidKinds := [.data, .data, .data, .data, .sentinel, .sentinel, .sentinel, .sentinel, .sentinel, .pinned], laidTests := true, laidLooks := .later }
def SpecRightCardSaid : Prop := Claim7.holds Tryz.pinned (.plain (OpenSpec.ofChange specRightSpec)) specRightCard

/-- THE SECOND FORM's CARD OF 'makeweightlaw02.SystemParts'. -/
def systemPartsUptoCard : Claim7 := { stood := { row := systemPartsUptoRow, standIns := [], harness := (true, "544e404d8b4c504503d01b055cf922ff22cfcfb0d30d53a3ee0bff96d986d636"), looks := true }, kinds := [], alts := [], laidByText := true, laidKinds := [.data, .data, .data, .data, .sentinel, .sentinel, .sentinel, .sentinel, .sentinel, .pinned], laidTests := true, laidLooks := .later }
def SystemPartsUptoCardSaid : Prop := Claim7.holds Tryz.pinned (.plain (OpenSpec.upto systemPartsSpec)) systemPartsUptoCard

/-- THE SECOND FORM's CARD OF 'makeweightlaw03.SpecSatisfies'. -/
def specSatisfiesUptoCard : Claim7 := { stood := { row := specSatisfiesUptoRow, standIns := [], harness := (true, "544e404d8b4c504503d01b055cf922ff22cfcfb0d30d53a3ee0bff96d986d636"), looks := true }, kinds := [], alts := [], laidByText := true, laidKinds := [.data, .data, .data, .data, .sentinel, .sentinel, .sentinel, .sentinel, .sentinel, .pinned], laidTests := true, laidLooks := .later }
def SpecSatisfiesUptoCardSaid : Prop := Claim7.holds Tryz.pinned (.plain (OpenSpec.upto specSatisfiesSpec)) specSatisfiesUptoCard

/-- THE SECOND FORM's CARD OF 'makeweightlaw03.SpecRight'. -/
def specRightUptoCard : Claim7 := { stood := { row := specRightUptoRow, standIns := [], harness := (true, "544e404d8b4c504503d01b055cf922ff22cfcfb0d30d53a3ee0bff96d986d636"), looks := true }, kinds := [], alts := [], laidByText := true, laidKinds := [.data, .data, .data, .data, .sentinel, .sentinel, .sentinel, .sentinel, .sentinel, .pinned], laidTests := true, laidLooks := .later }
def SpecRightUptoCardSaid : Prop := Claim7.holds Tryz.pinned (.plain (OpenSpec.upto specRightSpec)) specRightUptoCard
end Rows
end Go.Proofs.YtohljainhkdiiaaGreatDoor
