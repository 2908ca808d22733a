/-
  DERIVED. GIVEN WITH THE SEED: THE CARDS: each row of YtcbmlchlllpnoaaDoorRows.lean that lists a variable, with what it lists TIED to the program's text (the seventh form; the later family's looks); each row that meets fmt, with fmt's text TOLD by the authors' own Lean function (tested against real Go, not proved from fmt's source: count such statements apart). THE CARD IS WHAT COUNTS. Prove the row's statement (the work); the ties are given (YtcbmlchlllpnoaaDoorTie.lean); close each card by the builder's one call (the guide's Derived/Test/ToyasCard.lean, 'card_holds'). Laid BY PROGRAM, IN A SANDBOX (cutbox-door.mjs). By AI agents, Wed Nov 11 2026. No macro, syntax, notation, axiom, sorry.
-/
import Derived.Test.YtcbmlchlllpnoaaDoorRows
import GoSem.ClaimSeven
namespace Go.Proofs.YtcbmlchlllpnoaaDoor
namespace Rows

/-- THE TIED CARD OF 'makeweightlaw01.ActNames'. -/
def actNamesCard : Claim7 := { stood := { row := actNamesRow, standIns := [], harness := (true, "66ced0eb35fe41b98767aad9ad85569b54b8d442ad7be7f4b8da7c256ded5cef"), looks := true }, kinds := [], alts := [], laidByText := true, laidKinds := [.data, .data, .data, .sentinel, .sentinel, .sentinel, .pinned], laidTests := true, laidLooks := .later }
def ActNamesCardSaid : Prop := Claim7.holds Tryd.pinned (.plain (OpenSpec.ofChange actNamesSpec)) actNamesCard

/-- THE TIED CARD OF 'makeweightlaw01.ActStrings'. -/
def actStringsCard : Claim7 := { stood := { row := actStringsRow, standIns := [], harness := (true, "66ced0eb35fe41b98767aad9ad85569b54b8d442ad7be7f4b8da7c256ded5cef"), looks := true }, kinds := [], alts := [], laidByText := true, laidKinds := [.data, .data, .data, .sentinel, .sentinel, .sentinel, .pinned], laidTests := true, laidLooks := .later }
def ActStringsCardSaid : Prop := Claim7.holds Tryd.pinned (.plain (OpenSpec.ofChange actStringsSpec)) actStringsCard

/-- THE TIED CARD OF 'makeweightlaw01.ActSets'. -/
def actSetsCard : Claim7 := { stood := { row := actSetsRow, standIns := [], harness := (true, "66ced0eb35fe41b98767aad9ad85569b54b8d442ad7be7f4b8da7c256ded5cef"), looks := true }, kinds := [], alts := [], laidByText := true, laidKinds := [.data, .data, .data, .sentinel, .sentinel, .sentinel, .pinned], laidTests := true, laidLooks := .later }
def ActSetsCardSaid : Prop := Claim7.holds Tryd.pinned (.plain (OpenSpec.ofChange actSetsSpec)) actSetsCard

/-- THE TIED CARD OF 'makeweightlaw01.ActBack'. -/
def actBackCard : Claim7 := { stood := { row := actBackRow, standIns := [], harness := (true, "66ced0eb35fe41b98767aad9ad85569b54b8d442ad7be7f4b8da7c256ded5cef"), looks := true }, kinds := [], alts := [], laidByText := true, laidKinds := [.data, .data, .data, .sentinel, .sentinel, .sentinel, .pinned], laidTests := true, laidLooks := .later }
def ActBackCardSaid : Prop := Claim7.holds Tryd.pinned (.plain (OpenSpec.ofChange actBackSpec)) actBackCard

/-- THE TIED CARD OF 'makeweightlaw01.ActOwn'. -/
def actOwnCard : Claim7 := { stood := { row := actOwnRow, standIns := [], harness := (true, "66ced0eb35fe41b98767aad9ad85569b54b8d442ad7be7f4b8da7c256ded5cef"), looks := true }, kinds := [], alts := [], laidByText := true, laidKinds := [.data, .data, .data, .sentinel, .sentinel, .sentinel, .pinned], laidTests := true, laidLooks := .later }
def ActOwnCardSaid : Prop := Claim7.holds Tryd.pinned (.plain (OpenSpec.ofChange actOwnSpec)) actOwnCard

/-- THE SECOND FORM's CARD OF 'makeweightlaw01.ActNames'. -/
def actNamesUptoCard : Claim7 := { stood := { row := actNamesUptoRow, standIns := [], harness := (true, "66ced0eb35fe41b98767aad9ad85569b54b8d442ad7be7f4b8da7c256ded5cef"), looks := true }, kinds := [], alts := [], laidByText := true, laidKinds := [.data, .data, .data, .sentinel, .sentinel, .sentinel, .pinned], laidTests := true, laidLooks := .later }
def ActNamesUptoCardSaid : Prop := Claim7.holds Tryd.pinned (.plain (OpenSpec.upto actNamesSpec)) actNamesUptoCard

/-- THE SECOND FORM's CARD OF 'makeweightlaw01.ActStrings'. -/
def actStringsUptoCard : Claim7 := { stood := { row := actStringsUptoRow, standIns := [], harness := (true, "66ced0eb35fe41b98767aad9ad85569b54b8d442ad7be7f4b8da7c256ded5cef"), looks := true }, kinds := [], alts := [], laidByText := true, laidKinds := [.data, .data, .data, .sentinel, .sentinel, .sentinel, .pinned], laidTests := true, laidLooks := .later }
def ActStringsUptoCardSaid : Prop := Claim7.holds Tryd.pinned (.plain (OpenSpec.upto actStringsSpec)) actStringsUptoCard

/-- THE SECOND FORM's CARD OF 'makeweightlaw01.ActSets'. -/
def actSetsUptoCard : Claim7 := { stood := { row := actSetsUptoRow, standIns := [], harness := (true, "66ced0eb35fe41b98767aad9ad85569b54b8d442ad7be7f4b8da7c256ded5cef"), looks := true }, kinds := [], alts := [], laidByText := true, laidKinds := [.data, .data, .data, .sentinel, .sentinel, .sentinel, .pinned], laidTests := true, laidLooks := .later }
def ActSetsUptoCardSaid : Prop := Claim7.holds Tryd.pinned (.plain (OpenSpec.upto actSetsSpec)) actSetsUptoCard

/-- THE SECOND FORM's CARD OF 'makeweightlaw01.ActBack'. -/
def actBackUptoCard : Claim7 := { stood := { row := actBackUptoRow, standIns := [], harness := (true, "66ced0eb35fe41b98767aad9ad85569b54b8d442ad7be7f4b8da7c256ded5cef"), looks := true }, kinds := [], alts := [], laidByText := true, laidKinds := [.data, .data, .data, .sentinel, .sentinel, .sentinel, .pinned], laidTests := true, laidLooks := .later }
def ActBackUptoCardSaid : Prop := Claim7.holds Tryd.pinned (.plain (OpenSpec.upto actBackSpec)) actBackUptoCard

/-- THE SECOND FORM's CARD OF 'makeweightlaw01.ActOwn'. -/
def actOwnUptoCard : Claim7 := { stood := { row := actOwnUptoRow, standIns := [], harness := (true, "66ced0eb35fe41b98767aad9ad85569b54b8d442ad7be7f4b8da7c256ded5cef"), looks := true }, kinds := [], alts := [], laidByText := true, laidKinds := [.data, .data, .data, .sentinel, .sentinel, .sentinel, .pinned], laidTests := true, laidLooks := .later }
def ActOwnUptoCardSaid : Prop := Claim7.holds Tryd.pinned (.plain (OpenSpec.upto actOwnSpec)) actOwnUptoCard
end Rows
end Go.Proofs.YtcbmlchlllpnoaaDoor
