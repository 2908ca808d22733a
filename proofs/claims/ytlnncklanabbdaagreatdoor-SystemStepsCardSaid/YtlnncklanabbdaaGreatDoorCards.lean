/-
  DERIVED. GIVEN WITH THE SEED: THE CARDS: each row of YtlnncklanabbdaaGreatDoorRows.lean that lists a variable, with what it lists TIED to the program's text (the seventh form; the later family's looks); each row that meets fmt, with fmt's text TOLD by the authors' own Lean function (tested against real Go, not proved from fmt's source: count such statements apart). THE CARD IS WHAT COUNTS. Prove the row's statement (the work); the ties are given (YtlnncklanabbdaaGreatDoorTie.lean); close each card by the builder's one call (the guide's Derived/Test/ToyasCard.lean, 'card_holds'). Laid BY PROGRAM, IN A SANDBOX (cutbox-door.mjs). By AI agents, Wed Nov 11 2026. No macro, syntax, notation, axiom, sorry.
-/
import Derived.Test.YtlnncklanabbdaaGreatDoorRows
import GoSem.ClaimSeven
namespace Go.Proofs.YtlnncklanabbdaaGreatDoor
namespace Rows

/-- THE TIED CARD OF 'makeweightlaw02.SystemChecks'. -/
def systemChecksCard : Claim7 := { stood := { row := systemChecksRow, standIns := [], harness := (true, "dff8a57351e20177c048b9e80f2753a377c54d24ce0bc832fb9fbaca5ad78afc"), looks := true }, kinds := [], alts := [], laidByText := true, laidKinds := [.data, .data, .data, .data, .sentinel, .sentinel, .sentinel, .sentinel, .sentinel, .pinned], laidTests := true, laidLooks := .later }
def SystemChecksCardSaid : Prop := Claim7.holds Tryz.pinned (.plain (OpenSpec.ofChange systemChecksSpec)) systemChecksCard

/-- THE TIED CARD OF 'makeweightlaw02.SystemStrings'. -/
def systemStringsCard : Claim7 := { stood := { row := systemStringsRow, standIns := [], harness := (true, "dff8a57351e20177c048b9e80f2753a377c54d24ce0bc832fb9fbaca5ad78afc"), looks := true }, kinds := [], alts := [], laidByText := true, laidKinds := [.data, .data, .data, .data, .sentinel, .sentinel, .sentinel, .sentinel, .sentinel, .pinned], laidTests := true, laidLooks := .later }
def SystemStringsCardSaid : Prop := Claim7.holds Tryz.pinned (.plain (OpenSpec.ofChange systemStringsSpec)) systemStringsCard

/-- THE TIED CARD OF 'makeweightlaw02.SystemBack'. -/
def systemBackCard : Claim7 := { stood := { row := systemBackRow, standIns := [], harness := (true, "dff8a57351e20177c048b9e80f2753a377c54d24ce0bc832fb9fbaca5ad78afc"), looks := true }, kinds := [], alts := [], laidByText := true, laidKinds := [.data, .data, .data, .data, .sentinel, .sentinel, .sentinel, .sentinel, .sentinel, .pinned], laidTests := true, laidLooks := .later }
def SystemBackCardSaid : Prop := Claim7.holds Tryz.pinned (.plain (OpenSpec.ofChange systemBackSpec)) systemBackCard

/-- THE TIED CARD OF 'makeweightlaw02.SystemSteps'. -/
def systemStepsCard : Claim7 := { stood := { row := systemStepsRow, standIns := [], harness := (true, "dff8a57351e20177c048b9e80f2753a377c54d24ce0bc832fb9fbaca5ad78afc"), looks := true }, kinds := [], alts := [], laidByText := true, laidKinds := [.data, .data, .data, .data, .sentinel, .sentinel, .sentinel, .sentinel, .sentinel, .pinned], laidTests := true, laidLooks := .later }
def SystemStepsCardSaid : Prop := Claim7.holds Tryz.pinned (.plain (OpenSpec.ofChange systemStepsSpec)) systemStepsCard

/-- THE TIED CARD OF 'makeweightlaw02.SystemParts'. -/
def systemPartsCard : Claim7 := { stood := { row := systemPartsRow, standIns := [], harness := (true, "dff8a57351e20177c048b9e80f2753a377c54d24ce0bc832fb9fbaca5ad78afc"), looks := true }, kinds := [], alts := [], laidByText := true, laidKinds := [.data, .data, .data, .data, .sentinel, .sentinel, .sentinel, .sentinel, .sentinel, .pinned], laidTests := true, laidLooks := .later }
def SystemPartsCardSaid : Prop := Claim7.holds Tryz.pinned (.plain (OpenSpec.ofChange systemPartsSpec)) systemPartsCard

/-- THE TIED CARD OF 'makeweightlaw02.SystemProducts'. -/
def systemProductsCard : Claim7 := { stood := { row := systemProductsRow, standIns := [], harness := (true, "dff8a57351e20177c048b9e80f2753a377c54d24ce0bc832fb9fbaca5ad78afc"), looks := true }, kinds := [], alts := [], laidByText := true, laidKinds := [.data, .data, .data, .data, .sentinel, .sentinel, .sentinel, .sentinel, .sentinel, .pinned], laidTests := true, laidLooks := .later }
def SystemProductsCardSaid : Prop := Claim7.holds Tryz.pinned (.plain (OpenSpec.ofChange systemProductsSpec)) systemProductsCard

/-- THE TIED CARD OF 'makeweightlaw02.SystemAlike'. -/
def systemAlikeCard : Claim7 := { stood := { row := systemAlikeRow, standIns := [], harness := (true, "dff8a57351e20177c048b9e80f2753a377c54d24ce0bc832fb9fbaca5ad78afc"), looks := true }, kinds := [], alts := [], laidByText := true, laidKinds := [.data, .data, .data, .data, .sentinel, .sentinel, .sentinel, .sentinel, .sentinel, .pinned], laidTests := true, laidLooks := .later }
def SystemAlikeCardSaid : Prop := Claim7.holds Tryz.pinned (.plain (OpenSpec.ofChange systemAlikeSpec)) systemAlikeCard

/-- THE TIED CARD OF 'makeweightlaw02.SystemPairs'. -/
def systemPairsCard : Claim7 := { stood := { row := systemPairsRow, standIns := [], harness := (true, "dff8a57351e20177c048b9e80f2753a377c54d24ce0bc832fb9fbaca5ad78afc"), looks := true }, kinds := [], alts := [], laidByText := true, laidKinds := [.data, .data, .data, .data, .sentinel, .sentinel, .sentinel, .sentinel, .sentinel, .pinned], laidTests := true, laidLooks := .later }
def SystemPairsCardSaid : Prop := Claim7.holds Tryz.pinned (.plain (OpenSpec.ofChange systemPairsSpec)) systemPairsCard

/-- THE TIED CARD OF 'makeweightlaw02.SystemLeast'. -/
def systemLeastCard : Claim7 := { stood := { row := systemLeastRow, standIns := [], harness := (true, "dff8a57351e20177c048b9e80f2753a377c54d24ce0bc832fb9fbaca5ad78afc"), looks := true }, kinds := [], alts := [], laidByText := true, laidKinds := [.data, .data, .data, .data, .sentinel, .sentinel, .sentinel, .sentinel, .sentinel, .pinned], laidTests := true, laidLooks := .later }
def SystemLeastCardSaid : Prop := Claim7.holds Tryz.pinned (.plain (OpenSpec.ofChange systemLeastSpec)) systemLeastCard

/-- THE TIED CARD OF 'makeweightlaw02.SystemOwn'. -/
def systemOwnCard : Claim7 := { stood := { row := systemOwnRow, standIns := [], harness := (true, "dff8a57351e20177c048b9e80f2753a377c54d24ce0bc832fb9fbaca5ad78afc"), looks := true }, kinds := [], alts := [], laidByText := true, laidKinds := [.data, .data, .data, .data, .sentinel, .sentinel, .sentinel, .sentinel, .sentinel, .pinned], laidTests := true, laidLooks := .later }
def SystemOwnCardSaid : Prop := Claim7.holds Tryz.pinned (.plain (OpenSpec.ofChange systemOwnSpec)) systemOwnCard

/-- THE SECOND FORM's CARD OF 'makeweightlaw02.SystemChecks'. -/
def systemChecksUptoCard : Claim7 := { stood := { row := systemChecksUptoRow, standIns := [], harness := (true, "dff8a57351e20177c048b9e80f2753a377c54d24ce0bc832fb9fbaca5ad78afc"), looks := true }, kinds := [], alts := [], laidByText := true, laidKinds := [.data, .data, .data, .data, .sentinel, .sentinel, .sentinel, .sentinel, .sentinel, .pinned], laidTests := true, laidLooks := .later }
def SystemChecksUptoCardSaid : Prop := Claim7.holds Tryz.pinned (.plain (OpenSpec.upto systemChecksSpec)) systemChecksUptoCard

/-- THE SECOND FORM's CARD OF 'makeweightlaw02.SystemStrings'. -/
def systemStringsUptoCard : Claim7 := { stood := { row := systemStringsUptoRow, standIns := [], harness := (true, "dff8a57351e20177c048b9e80f2753a377c54d24ce0bc832fb9fbaca5ad78afc"), looks := true }, kinds := [], alts := [], laidByText := true, laidKinds := [.data, .data, .data, .data, .sentinel, .sentinel, .sentinel, .sentinel, .sentinel, .pinned], laidTests := true, laidLooks := .later }
def SystemStringsUptoCardSaid : Prop := Claim7.holds Tryz.pinned (.plain (OpenSpec.upto systemStringsSpec)) systemStringsUptoCard

/-- THE SECOND FORM's CARD OF 'makeweightlaw02.SystemBack'. -/
def systemBackUptoCard : Claim7 := { stood := { row := systemBackUptoRow, standIns := [], harness := (true, "dff8a57351e20177c048b9e80f2753a377c54d24ce0bc832fb9fbaca5ad78afc"), looks := true }, kinds := [], alts := [], laidByText := true, laidKinds := [.data, .data, .data, .data, .sentinel, .sentinel, .sentinel, .sentinel, .sentinel, .pinned], laidTests := true, laidLooks := .later }
def SystemBackUptoCardSaid : Prop := Claim7.holds Tryz.pinned (.plain (OpenSpec.upto systemBackSpec)) systemBackUptoCard

/-- THE SECOND FORM's CARD OF 'makeweightlaw02.SystemSteps'. -/
def systemStepsUptoCard : Claim7 := { stood := { row := systemStepsUptoRow, standIns := [], harness := (true, "dff8a57351e20177c048b9e80f2753a377c54d24ce0bc832fb9fbaca5ad78afc"), looks := true }, kinds := [], alts := [], laidByText := true, laidKinds := [.data, .data, .data, .data, .sentinel, .sentinel, .sentinel, .sentinel, .sentinel, .pinned], laidTests := true, laidLooks := .later }
def SystemStepsUptoCardSaid : Prop := Claim7.holds Tryz.pinned (.plain (OpenSpec.upto systemStepsSpec)) systemStepsUptoCard

/-- THE SECOND FORM's CARD OF 'makeweightlaw02.SystemParts'. -/
def systemPartsUptoCard : Claim7 := { stood := { row := systemPartsUptoRow, standIns := [], harness := (true, "dff8a57351e20177c048b9e80f2753a377c54d24ce0bc832fb9fbaca5ad78afc"), looks := true }, kinds := [], alts := [], laidByText := true, laidKinds := [.data, .data, .data, .data, .sentinel, .sentinel, .sentinel, .sentinel, .sentinel, .pinned], laidTests := true, laidLooks := .later }
def SystemPartsUptoCardSaid : Prop := Claim7.holds Tryz.pinned (.plain (OpenSpec.upto systemPartsSpec)) systemPartsUptoCard

/-- THE SECOND FORM's CARD OF 'makeweightlaw02.SystemProducts'. -/
def systemProductsUptoCard : Claim7 := { stood := { row := systemProductsUptoRow, standIns := [], harness := (true, "dff8a57351e20177c048b9e80f2753a377c54d24ce0bc832fb9fbaca5ad78afc"), looks := true }, kinds := [], alts := [], laidByText := true, laidKinds := [.data, .data, .data, .data, .sentinel, .sentinel, .sentinel, .sentinel, .sentinel, .pinned], laidTests := true, laidLooks := .later }
def SystemProductsUptoCardSaid : Prop := Claim7.holds Tryz.pinned (.plain (OpenSpec.upto systemProductsSpec)) systemProductsUptoCard

/-- THE SECOND FORM's CARD OF 'makeweightlaw02.SystemAlike'. -/
def systemAlikeUptoCard : Claim7 := { stood := { row := systemAlikeUptoRow, standIns := [], harness := (true, "dff8a57351e20177c048b9e80f2753a377c54d24ce0bc832fb9fbaca5ad78afc"), looks := true }, kinds := [], alts := [], laidByText := true, laidKinds := [.data, .data, .data, .data, .sentinel, .sentinel, .sentinel, .sentinel, .sentinel, .pinned], laidTests := true, laidLooks := .later }
def SystemAlikeUptoCardSaid : Prop := Claim7.holds Tryz.pinned (.plain (OpenSpec.upto systemAlikeSpec)) systemAlikeUptoCard

/-- THE SECOND FORM's CARD OF 'makeweightlaw02.SystemPairs'. -/
def systemPairsUptoCard : Claim7 := { stood := { row := systemPairsUptoRow, standIns := [], harness := (true, "dff8a57351e20177c048b9e80f2753a377c54d24ce0bc832fb9fbaca5ad78afc"), looks := true }, kinds := [], alts := [], laidByText := true, laidKinds := [.data, .data, .data, .data, .sentinel, .sentinel, .sentinel, .sentinel, .sentinel, .pinned], laidTests := true, laidLooks := .later }
def SystemPairsUptoCardSaid : Prop := Claim7.holds Tryz.pinned (.plain (OpenSpec.upto systemPairsSpec)) systemPairsUptoCard

/-- THE SECOND FORM's CARD OF 'makeweightlaw02.SystemLeast'. -/
def systemLeastUptoCard : Claim7 := { stood := { row := systemLeastUptoRow, standIns := [], harness := (true, "dff8a57351e20177c048b9e80f2753a377c54d24ce0bc832fb9fbaca5ad78afc"), looks := true }, kinds := [], alts := [], laidByText := true, laidKinds := [.data, .data, .data, .data, .sentinel, .sentinel, .sentinel, .sentinel, .sentinel, .pinned], laidTests := true, laidLooks := .later }
def SystemLeastUptoCardSaid : Prop := Claim7.holds Tryz.pinned (.plain (OpenSpec.upto systemLeastSpec)) systemLeastUptoCard

/-- THE SECOND FORM's CARD OF 'makeweightlaw02.SystemOwn'. -/
def systemOwnUptoCard : Claim7 := { stood := { row := systemOwnUptoRow, standIns := [], harness := (true, "dff8a57351e20177c048b9e80f2753a377c54d24ce0bc832fb9fbaca5ad78afc"), looks := true }, kinds := [], alts := [], laidByText := true, laidKinds := [.data, .data, .data, .data, .sentinel, .sentinel, .sentinel, .sentinel, .sentinel, .pinned], laidTests := true, laidLooks := .later }
def SystemOwnUptoCardSaid : Prop := Claim7.holds Tryz.pinned (.plain (OpenSpec.upto systemOwnSpec)) systemOwnUptoCard
end Rows
end Go.Proofs.YtlnncklanabbdaaGreatDoor
