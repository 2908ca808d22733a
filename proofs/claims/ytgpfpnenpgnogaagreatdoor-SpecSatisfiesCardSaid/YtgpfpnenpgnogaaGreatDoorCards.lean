/-
  DERIVED. GIVEN WITH THE SEED: THE CARDS: each row of YtgpfpnenpgnogaaGreatDoorRows.lean that lists a variable, with what it lists TIED to the program's text (the seventh form; the later family's looks); each row that meets fmt, with fmt's text TOLD by the authors' own Lean function (tested against real Go, not proved from fmt's source: count such statements apart). THE CARD IS WHAT COUNTS. Prove the row's statement (the work); the ties are given (YtgpfpnenpgnogaaGreatDoorTie.lean); close each card by the builder's one call (the guide's Derived/Test/ToyasCard.lean, 'card_holds'). Laid BY PROGRAM, IN A SANDBOX (cutbox-door.mjs). By AI agents, Wed Nov 11 2026. No macro, syntax, notation, axiom, sorry.
-/
import Derived.Test.YtgpfpnenpgnogaaGreatDoorRows
import GoSem.ClaimSeven
namespace Go.Proofs.YtgpfpnenpgnogaaGreatDoor
namespace Rows

/-- THE TIED CARD OF 'makeweightlaw03.SpecSatisfies'. -/
def specSatisfiesCard : Claim7 := { stood := { row := specSatisfiesRow, standIns := [], harness := (true, "785562ad749b91c0107e2c2f6fb191ae1a2530b74de91e91a408c1d5e6dc9f0c"), looks := true }, kinds := [], alts := [], laidByText := true, laidKinds := [.data, .data, .data, .data, .sentinel, .sentinel, .sentinel, .sentinel, .sentinel, .pinned], laidTests := true, laidLooks := .later }
def SpecSatisfiesCardSaid : Prop := Claim7.holds Tryz.pinned (.plain (OpenSpec.ofChange specSatisfiesSpec)) specSatisfiesCard

/-- THE TIED CARD OF 'makeweightlaw03.SpecRight'. -/
def specRightCard : Claim7 := { stood := { row := specRightRow, standIns := [], harness := (true, "785562ad749b91c0107e2c2f6fb191ae1a2530b74de91e91a408c1d5e6dc9f0c"), looks := true }, kinds := [], alts := [], laidByText := true, laidKinds := [.data, .data, .data, .data, .sentinel, .sentinel, .sentinel, .sentinel, .sentinel, .pinned], laidTests := true, laidLooks := .later }
def SpecRightCardSaid : Prop := Claim7.holds Tryz.pinned (.plain (OpenSpec.ofChange specRightSpec)) specRightCard

/-- THE TIED CARD OF 'makeweightlaw02.SystemParts'. -/
def systemPartsCard : Claim7 := { stood := { row := systemPartsRow, standIns := [], harness := (true, "785562ad749b91c0107e2c2f6fb191ae1a2530b74de91e91a408c1d5e6dc9f0c"), looks := true }, kinds := [], alts := [], laidByText := true, laidKinds := [.data, .data, .data, .data, .sentinel, .sentinel, .sentinel, .sentinel, .sentinel, .pinned], laidTests := true, laidLooks := .later }
def SystemPartsCardSaid : Prop := Claim7.holds Tryz.pinned (.plain (OpenSpec.ofChange systemPartsSpec)) systemPartsCard

/-- THE SECOND FORM's CARD OF 'makeweightlaw03.SpecSatisfies'. -/
def specSatisfiesUptoCard : Claim7 := { stood := { row := specSatisfiesUptoRow, standIns := [], harness := (true, "785562ad749b91c0107e2c2f6fb191ae1a2530b74de91e91a408c1d5e6dc9f0c"), looks := true }, kinds := [], alts := [], laidByText := true, laidKinds := [.data, .data, .data, .data, .sentinel, .sentinel, .sentinel, .sentinel, .sentinel, .pinned], laidTests := true, laidLooks := .later }
def SpecSatisfiesUptoCardSaid : Prop := Claim7.holds Tryz.pinned (.plain (OpenSpec.upto specSatisfiesSpec)) specSatisfiesUptoCard

/-- THE SECOND FORM's CARD OF 'makeweightlaw03.SpecRight'. -/
def specRightUptoCard : Claim7 := { stood := { row := specRightUptoRow, standIns := [], harness := (true, "785562ad749b91c0107e2c2f6fb191ae1a2530b74de91e91a408c1d5e6dc9f0c"), looks := true }, kinds := [], alts := [], laidByText := true, laidKinds := [.data, .data, .data, .data, .sentinel, .sentinel, .sentinel, .sentinel, .sentinel, .pinned], laidTests := true, laidLooks := .later }
def SpecRightUptoCardSaid : Prop := Claim7.holds Tryz.pinned (.plain (OpenSpec.upto specRightSpec)) specRightUptoCard

/-- THE SECOND FORM's CARD OF 'makeweightlaw02.SystemParts'. -/
def systemPartsUptoCard : Claim7 := { stood := { row := systemPartsUptoRow, standIns := [], harness := (true, "785562ad749b91c0107e2c2f6fb191ae1a2530b74de91e91a408c1d5e6dc9f0c"), looks := true }, kinds := [], alts := [], laidByText := true, laidKinds := [.data, .data, .data, .data, .sentinel, .sentinel, .sentinel, .sentinel, .sentinel, .pinned], laidTests := true, laidLooks := .later }
def SystemPartsUptoCardSaid : Prop := Claim7.holds Tryz.pinned (.plain (OpenSpec.upto systemPartsSpec)) systemPartsUptoCard
end Rows
end Go.Proofs.YtgpfpnenpgnogaaGreatDoor
