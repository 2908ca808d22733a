/-
  DERIVED. GIVEN WITH THE SEED: THE CARDS: each row of YtfggahkjjmfkiaaGreatDoorRows.lean that lists a variable, with what it lists TIED to the program's text (the seventh form; the later family's looks); each row that meets fmt, with fmt's text TOLD by the authors' own Lean function (tested against real Go, not proved from fmt's source: count such statements apart). THE CARD IS WHAT COUNTS. Prove the row's statement (the work); the ties are given (YtfggahkjjmfkiaaGreatDoorTie.lean); close each card by the builder's one call (the guide's Derived/Test/ToyasCard.lean, 'card_holds'). Laid BY PROGRAM, IN A SANDBOX (cutbox-door.mjs). By AI agents, Wed Nov 11 2026. No macro, syntax, notation, axiom, sorry.
-/
import Derived.Test.YtfggahkjjmfkiaaGreatDoorRows
import GoSem.ClaimSeven
namespace Go.Proofs.YtfggahkjjmfkiaaGreatDoor
namespace Rows

/-- THE TIED CARD OF 'makeweightlaw03.SpecChecks'. -/
def specChecksCard : Claim7 := { stood := { row := specChecksRow, standIns := [], harness := (true, "109348ea8a30285a08e0256a086f229539507261dc588aea1d3990d383be1e2b"), looks := true }, kinds := [], alts := [], laidByText := true, laidKinds := [.data, .data, .data, .data, .sentinel, .sentinel, .sentinel, .sentinel, .sentinel, .pinned], laidTests := true, laidLooks := .later }
def SpecChecksCardSaid : Prop := Claim7.holds Tryz.pinned (.plain (OpenSpec.ofChange specChecksSpec)) specChecksCard

/-- THE TIED CARD OF 'makeweightlaw03.SpecStrings'. -/
def specStringsCard : Claim7 := { stood := { row := specStringsRow, standIns := [], harness := (true, "109348ea8a30285a08e0256a086f229539507261dc588aea1d3990d383be1e2b"), looks := true }, kinds := [], alts := [], laidByText := true, laidKinds := [.data, .data, .data, .data, .sentinel, .sentinel, .sentinel, .sentinel, .sentinel, .pinned], laidTests := true, laidLooks := .later }
def SpecStringsCardSaid : Prop := Claim7.holds Tryz.pinned (.plain (OpenSpec.ofChange specStringsSpec)) specStringsCard

/-- THE TIED CARD OF 'makeweightlaw03.SpecBack'. -/
def specBackCard : Claim7 := { stood := { row := specBackRow, standIns := [], harness := (true, "109348ea8a30285a08e0256a086f229539507261dc588aea1d3990d383be1e2b"), looks := true }, kinds := [], alts := [], laidByText := true, laidKinds := [.data, .data, .data, .data, .sentinel, .sentinel, .sentinel, .sentinel, .sentinel, .pinned], laidTests := true, laidLooks := .later }
def SpecBackCardSaid : Prop := Claim7.holds Tryz.pinned (.plain (OpenSpec.ofChange specBackSpec)) specBackCard

/-- THE TIED CARD OF 'makeweightlaw03.SpecWords'. -/
def specWordsCard : Claim7 := { stood := { row := specWordsRow, standIns := [], harness := (true, "109348ea8a30285a08e0256a086f229539507261dc588aea1d3990d383be1e2b"), looks := true }, kinds := [], alts := [], laidByText := true, laidKinds := [.data, .data, .data, .data, .sentinel, .sentinel, .sentinel, .sentinel, .sentinel, .pinned], laidTests := true, laidLooks := .later }
def SpecWordsCardSaid : Prop := Claim7.holds Tryz.pinned (.plain (OpenSpec.ofChange specWordsSpec)) specWordsCard

/-- THE TIED CARD OF 'makeweightlaw03.SpecSatisfies'. -/
def specSatisfiesCard : Claim7 := { stood := { row := specSatisfiesRow, standIns := [], harness := (true, "109348ea8a30285a08e0256a086f229539507261dc588aea1d3990d383be1e2b"), looks := true }, kinds := [], alts := [], laidByText := true, laidKinds := [.data, .data, .data, .data, .sentinel, .sentinel, .sentinel, .sentinel, .sentinel, .pinned], laidTests := true, laidLooks := .later }
def SpecSatisfiesCardSaid : Prop := Claim7.holds Tryz.pinned (.plain (OpenSpec.ofChange specSatisfiesSpec)) specSatisfiesCard

/-- THE TIED CARD OF 'makeweightlaw03.SpecRight'. -/
def specRightCard : Claim7 := { stood := { row := specRightRow, standIns := [], harness := (true, "109348ea8a30285a08e0256a086f229539507261dc588aea1d3990d383be1e2b"), looks := true }, kinds := [], alts := [], laidByText := true, laidKinds := [.data, .data, .data, .data, .sentinel, .sentinel, .sentinel, .sentinel, .sentinel, .pinned], laidTests := true, laidLooks := .later }
def SpecRightCardSaid : Prop := Claim7.holds Tryz.pinned (.plain (OpenSpec.ofChange specRightSpec)) specRightCard

/-- THE TIED CARD OF 'makeweightlaw03.SpecSimple'. -/
def specSimpleCard : Claim7 := { stood := { row := specSimpleRow, standIns := [], harness := (true, "109348ea8a30285a08e0256a086f229539507261dc588aea1d3990d383be1e2b"), looks := true }, kinds := [], alts := [], laidByText := true, laidKinds := [.data, .data, .data, .data, .sentinel, .sentinel, .sentinel, .sentinel, .sentinel, .pinned], laidTests := true, laidLooks := .later }
def SpecSimpleCardSaid : Prop := Claim7.holds Tryz.pinned (.plain (OpenSpec.ofChange specSimpleSpec)) specSimpleCard

/-- THE TIED CARD OF 'makeweightlaw03.SpecHolds'. -/
def specHoldsCard : Claim7 := { stood := { row := specHoldsRow, standIns := [], harness := (true, "109348ea8a30285a08e0256a086f229539507261dc588aea1d3990d383be1e2b"), looks := true }, kinds := [], alts := [], laidByText := true, laidKinds := [.data, .data, .data, .data, .sentinel, .sentinel, .sentinel, .sentinel, .sentinel, .pinned], laidTests := true, laidLooks := .later }
def SpecHoldsCardSaid : Prop := Claim7.holds Tryz.pinned (.plain (OpenSpec.ofChange specHoldsSpec)) specHoldsCard

/-- THE TIED CARD OF 'makeweightlaw03.SpecAlike'. -/
def specAlikeCard : Claim7 := { stood := { row := specAlikeRow, standIns := [], harness := (true, "109348ea8a30285a08e0256a086f229539507261dc588aea1d3990d383be1e2b"), looks := true }, kinds := [], alts := [], laidByText := true, laidKinds := [.data, .data, .data, .data, .sentinel, .sentinel, .sentinel, .sentinel, .sentinel, .pinned], laidTests := true, laidLooks := .later }
def SpecAlikeCardSaid : Prop := Claim7.holds Tryz.pinned (.plain (OpenSpec.ofChange specAlikeSpec)) specAlikeCard

/-- THE TIED CARD OF 'makeweightlaw03.SpecOwn'. -/
def specOwnCard : Claim7 := { stood := { row := specOwnRow, standIns := [], harness := (true, "109348ea8a30285a08e0256a086f229539507261dc588aea1d3990d383be1e2b"), looks := true }, kinds := [], alts := [], laidByText := true, laidKinds := [.data, .data, .data, .data, .sentinel, .sentinel, .sentinel, .sentinel, .sentinel, .pinned], laidTests := true, laidLooks := .later }
def SpecOwnCardSaid : Prop := Claim7.holds Tryz.pinned (.plain (OpenSpec.ofChange specOwnSpec)) specOwnCard

/-- THE SECOND FORM's CARD OF 'makeweightlaw03.SpecChecks'. -/
def specChecksUptoCard : Claim7 := { stood := { row := specChecksUptoRow, standIns := [], harness := (true, "109348ea8a30285a08e0256a086f229539507261dc588aea1d3990d383be1e2b"), looks := true }, kinds := [], alts := [], laidByText := true, laidKinds := [.data, .data, .data, .data, .sentinel, .sentinel, .sentinel, .sentinel, .sentinel, .pinned], laidTests := true, laidLooks := .later }
def SpecChecksUptoCardSaid : Prop := Claim7.holds Tryz.pinned (.plain (OpenSpec.upto specChecksSpec)) specChecksUptoCard

/-- THE SECOND FORM's CARD OF 'makeweightlaw03.SpecStrings'. -/
def specStringsUptoCard : Claim7 := { stood := { row := specStringsUptoRow, standIns := [], harness := (true, "109348ea8a30285a08e0256a086f229539507261dc588aea1d3990d383be1e2b"), looks := true }, kinds := [], alts := [], laidByText := true, laidKinds := [.data, .data, .data, .data, .sentinel, .sentinel, .sentinel, .sentinel, .sentinel, .pinned], laidTests := true, laidLooks := .later }
def SpecStringsUptoCardSaid : Prop := Claim7.holds Tryz.pinned (.plain (OpenSpec.upto specStringsSpec)) specStringsUptoCard

/-- THE SECOND FORM's CARD OF 'makeweightlaw03.SpecBack'. -/
def specBackUptoCard : Claim7 := { stood := { row := specBackUptoRow, standIns := [], harness := (true, "109348ea8a30285a08e0256a086f229539507261dc588aea1d3990d383be1e2b"), looks := true }, kinds := [], alts := [], laidByText := true, laidKinds := [.data, .data, .data, .data, .sentinel, .sentinel, .sentinel, .sentinel, .sentinel, .pinned], laidTests := true, laidLooks := .later }
def SpecBackUptoCardSaid : Prop := Claim7.holds Tryz.pinned (.plain (OpenSpec.upto specBackSpec)) specBackUptoCard

/-- THE SECOND FORM's CARD OF 'makeweightlaw03.SpecWords'. -/
def specWordsUptoCard : Claim7 := { stood := { row := specWordsUptoRow, standIns := [], harness := (true, "109348ea8a30285a08e0256a086f229539507261dc588aea1d3990d383be1e2b"), looks := true }, kinds := [], alts := [], laidByText := true, laidKinds := [.data, .data, .data, .data, .sentinel, .sentinel, .sentinel, .sentinel, .sentinel, .pinned], laidTests := true, laidLooks := .later }
def SpecWordsUptoCardSaid : Prop := Claim7.holds Tryz.pinned (.plain (OpenSpec.upto specWordsSpec)) specWordsUptoCard

/-- THE SECOND FORM's CARD OF 'makeweightlaw03.SpecSatisfies'. -/
def specSatisfiesUptoCard : Claim7 := { stood := { row := specSatisfiesUptoRow, standIns := [], harness := (true, "109348ea8a30285a08e0256a086f229539507261dc588aea1d3990d383be1e2b"), looks := true }, kinds := [], alts := [], laidByText := true, laidKinds := [.data, .data, .data, .data, .sentinel, .sentinel, .sentinel, .sentinel, .sentinel, .pinned], laidTests := true, laidLooks := .later }
def SpecSatisfiesUptoCardSaid : Prop := Claim7.holds Tryz.pinned (.plain (OpenSpec.upto specSatisfiesSpec)) specSatisfiesUptoCard

/-- THE SECOND FORM's CARD OF 'makeweightlaw03.SpecRight'. -/
def specRightUptoCard : Claim7 := { stood := { row := specRightUptoRow, standIns := [], harness := (true, "109348ea8a30285a08e0256a086f229539507261dc588aea1d3990d383be1e2b"), looks := true }, kinds := [], alts := [], laidByText := true, laidKinds := [.data, .data, .data, .data, .sentinel, .sentinel, .sentinel, .sentinel, .sentinel, .pinned], laidTests := true, laidLooks := .later }
def SpecRightUptoCardSaid : Prop := Claim7.holds Tryz.pinned (.plain (OpenSpec.upto specRightSpec)) specRightUptoCard

/-- THE SECOND FORM's CARD OF 'makeweightlaw03.SpecSimple'. -/
def specSimpleUptoCard : Claim7 := { stood := { row := specSimpleUptoRow, standIns := [], harness := (true, "109348ea8a30285a08e0256a086f229539507261dc588aea1d3990d383be1e2b"), looks := true }, kinds := [], alts := [], laidByText := true, laidKinds := [.data, .data, .data, .data, .sentinel, .sentinel, .sentinel, .sentinel, .sentinel, .pinned], laidTests := true, laidLooks := .later }
def SpecSimpleUptoCardSaid : Prop := Claim7.holds Tryz.pinned (.plain (OpenSpec.upto specSimpleSpec)) specSimpleUptoCard

/-- THE SECOND FORM's CARD OF 'makeweightlaw03.SpecHolds'. -/
def specHoldsUptoCard : Claim7 := { stood := { row := specHoldsUptoRow, standIns := [], harness := (true, "109348ea8a30285a08e0256a086f229539507261dc588aea1d3990d383be1e2b"), looks := true }, kinds := [], alts := [], laidByText := true, laidKinds := [.data, .data, .data, .data, .sentinel, .sentinel, .sentinel, .sentinel, .sentinel, .pinned], laidTests := true, laidLooks := .later }
def SpecHoldsUptoCardSaid : Prop := Claim7.holds Tryz.pinned (.plain (OpenSpec.upto specHoldsSpec)) specHoldsUptoCard

/-- THE SECOND FORM's CARD OF 'makeweightlaw03.SpecAlike'. -/
def specAlikeUptoCard : Claim7 := { stood := { row := specAlikeUptoRow, standIns := [], harness := (true, "109348ea8a30285a08e0256a086f229539507261dc588aea1d3990d383be1e2b"), looks := true }, kinds := [], alts := [], laidByText := true, laidKinds := [.data, .data, .data, .data, .sentinel, .sentinel, .sentinel, .sentinel, .sentinel, .pinned], laidTests := true, laidLooks := .later }
def SpecAlikeUptoCardSaid : Prop := Claim7.holds Tryz.pinned (.plain (OpenSpec.upto specAlikeSpec)) specAlikeUptoCard

/-- THE SECOND FORM's CARD OF 'makeweightlaw03.SpecOwn'. -/
def specOwnUptoCard : Claim7 := { stood := { row := specOwnUptoRow, standIns := [], harness := (true, "109348ea8a30285a08e0256a086f229539507261dc588aea1d3990d383be1e2b"), looks := true }, kinds := [], alts := [], laidByText := true, laidKinds := [.data, .data, .data, .data, .sentinel, .sentinel, .sentinel, .sentinel, .sentinel, .pinned], laidTests := true, laidLooks := .later }
def SpecOwnUptoCardSaid : Prop := Claim7.holds Tryz.pinned (.plain (OpenSpec.upto specOwnSpec)) specOwnUptoCard
end Rows
end Go.Proofs.YtfggahkjjmfkiaaGreatDoor
