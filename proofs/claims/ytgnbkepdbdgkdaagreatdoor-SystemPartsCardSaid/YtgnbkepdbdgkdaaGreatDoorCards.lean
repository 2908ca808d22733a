/-
  DERIVED. GIVEN WITH THE SEED: THE CARDS: each row of YtgnbkepdbdgkdaaGreatDoorRows.lean that lists a variable, with what it lists TIED to the program's text (the seventh form; the later family's looks); each row that meets fmt, with fmt's text TOLD by the authors' own Lean function (tested against real Go, not proved from fmt's source: count such statements apart). THE CARD IS WHAT COUNTS. Prove the row's statement (the work); the ties are given (YtgnbkepdbdgkdaaGreatDoorTie.lean); close each card by the builder's one call (the guide's Derived/Test/ToyasCard.lean, 'card_holds'). Laid BY PROGRAM, IN A SANDBOX (cutbox-door.mjs). By AI agents, Wed Nov 11 2026. No macro, syntax, notation, axiom, sorry.
-/
import Derived.Test.YtgnbkepdbdgkdaaGreatDoorRows
import GoSem.ClaimSeven
namespace Go.Proofs.YtgnbkepdbdgkdaaGreatDoor
namespace Rows

/-- THE TIED CARD OF 'makeweightlaw02.SystemParts'. -/
def systemPartsCard : Claim7 := { stood := { row := systemPartsRow, standIns := [], harness := (true, "1374951ac955fedc90aaf468d8f637c784d6692d714dacd8ec44a693991fa652"), looks := true }, kinds := [], alts := [], laidByText := true, laidKinds := [.data, .data, .data, .data, .sentinel, .sentinel, .sentinel, .sentinel, .sentinel, .pinned], laidTests := true, laidLooks := .later }
def SystemPartsCardSaid : Prop := Claim7.holds Tryz.pinned (.plain (OpenSpec.ofChange systemPartsSpec)) systemPartsCard

/-- THE TIED CARD OF 'makeweightlaw02.SystemProducts'. -/
def systemProductsCard : Claim7 := { stood := { row := systemProductsRow, standIns := [], harness := (true, "1374951ac955fedc90aaf468d8f637c784d6692d714dacd8ec44a693991fa652"), looks := true }, kinds := [], alts := [], laidByText := true, laidKinds := [.data, .data, .data, .data, .sentinel, .sentinel, .sentinel, .sentinel, .sentinel, .pinned], laidTests := true, laidLooks := .later }
def SystemProductsCardSaid : Prop := Claim7.holds Tryz.pinned (.plain (OpenSpec.ofChange systemProductsSpec)) systemProductsCard

/-- THE TIED CARD OF 'makeweightlaw02.SystemPairs'. -/
def systemPairsCard : Claim7 := { stood := { row := systemPairsRow, standIns := [], harness := (true, "1374951ac955fedc90aaf468d8f637c784d6692d714dacd8ec44a693991fa652"), looks := true }, kinds := [], alts := [], laidByText := true, laidKinds := [.data, .data, .data, .data, .sentinel, .sentinel, .sentinel, .sentinel, .sentinel, .pinned], laidTests := true, laidLooks := .later }
def SystemPairsCardSaid : Prop := Claim7.holds Tryz.pinned (.plain (OpenSpec.ofChange systemPairsSpec)) systemPairsCard

/-- THE TIED CARD OF 'makeweightlaw03.SpecOwn'. -/
def specOwnCard : Claim7 := { stood := { row := specOwnRow, standIns := [], harness := (true, "1374951ac955fedc90aaf468d8f637c784d6692d714dacd8ec44a693991fa652"), looks := true }, kinds := [], alts := [], laidByText := true, laidKinds := [.data, .data, .data, .data, .sentinel, .sentinel, .sentinel, .sentinel, .sentinel, .pinned], laidTests := true, laidLooks := .later }
def SpecOwnCardSaid : Prop := Claim7.holds Tryz.pinned (.plain (OpenSpec.ofChange specOwnSpec)) specOwnCard

/-- THE SECOND FORM's CARD OF 'makeweightlaw02.SystemParts'. -/
def systemPartsUptoCard : Claim7 := { stood := { row := systemPartsUptoRow, standIns := [], harness := (true, "1374951ac955fedc90aaf468d8f637c784d6692d714dacd8ec44a693991fa652"), looks := true }, kinds := [], alts := [], laidByText := true, laidKinds := [.data, .data, .data, .data, .sentinel, .sentinel, .sentinel, .sentinel, .sentinel, .pinned], laidTests := true, laidLooks := .later }
def SystemPartsUptoCardSaid : Prop := Claim7.holds Tryz.pinned (.plain (OpenSpec.upto systemPartsSpec)) systemPartsUptoCard

/-- THE SECOND FORM's CARD OF 'makeweightlaw02.SystemProducts'. -/
def systemProductsUptoCard : Claim7 := { stood := { row := systemProductsUptoRow, standIns := [], harness := (true, "1374951ac955fedc90aaf468d8f637c784d6692d714dacd8ec44a693991fa652"), looks := true }, kinds := [], alts := [], laidByText := true, laidKinds := [.data, .data, .data, .data, .sentinel, .sentinel, .sentinel, .sentinel, .sentinel, .pinned], laidTests := true, laidLooks := .later }
def SystemProductsUptoCardSaid : Prop := Claim7.holds Tryz.pinned (.plain (OpenSpec.upto systemProductsSpec)) systemProductsUptoCard

/-- THE SECOND FORM's CARD OF 'makeweightlaw02.SystemPairs'. -/
def systemPairsUptoCard : Claim7 := { stood := { row := systemPairsUptoRow, standIns := [], harness := (true, "1374951ac955fedc90aaf468d8f637c784d6692d714dacd8ec44a693991fa652"), looks := true }, kinds := [], alts := [], laidByText := true, laidKinds := [.data, .data, .data, .data, .sentinel, .sentinel, .sentinel, .sentinel, .sentinel, .pinned], laidTests := true, laidLooks := .later }
def SystemPairsUptoCardSaid : Prop := Claim7.holds Tryz.pinned (.plain (OpenSpec.upto systemPairsSpec)) systemPairsUptoCard

/-- THE SECOND FORM's CARD OF 'makeweightlaw03.SpecOwn'. -/
def specOwnUptoCard : Claim7 := { stood := { row := specOwnUptoRow, standIns := [], harness := (true, "1374951ac955fedc90aaf468d8f637c784d6692d714dacd8ec44a693991fa652"), looks := true }, kinds := [], alts := [], laidByText := true, laidKinds := [.data, .data, .data, .data, .sentinel, .sentinel, .sentinel, .sentinel, .sentinel, .pinned], laidTests := true, laidLooks := .later }
def SpecOwnUptoCardSaid : Prop := Claim7.holds Tryz.pinned (.plain (OpenSpec.upto specOwnSpec)) specOwnUptoCard
end Rows
end Go.Proofs.YtgnbkepdbdgkdaaGreatDoor
