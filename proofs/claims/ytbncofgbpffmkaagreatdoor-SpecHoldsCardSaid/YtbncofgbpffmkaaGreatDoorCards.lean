/-
  DERIVED. GIVEN WITH THE SEED: THE CARDS: each row of YtbncofgbpffmkaaGreatDoorRows.lean that lists a variable, with what it lists TIED to the program's text (the seventh form; the later family's looks); each row that meets fmt, with fmt's text TOLD by the authors' own Lean function (tested against real Go, not proved from fmt's source: count such statements apart). THE CARD IS WHAT COUNTS. Prove the row's statement (the work); the ties are given (YtbncofgbpffmkaaGreatDoorTie.lean); close each card by the builder's one call (the guide's Derived/Test/ToyasCard.lean, 'card_holds'). Laid BY PROGRAM, IN A SANDBOX (cutbox-door.mjs). By AI agents, Wed Nov 11 2026. No macro, syntax, notation, axiom, sorry.
-/
import Derived.Test.YtbncofgbpffmkaaGreatDoorRows
import GoSem.ClaimSeven
namespace Go.Proofs.YtbncofgbpffmkaaGreatDoor
namespace Rows

/-- THE TIED CARD OF 'makeweightlaw03.SpecHolds'. -/
def specHoldsCard : Claim7 := { stood := { row := specHoldsRow, standIns := [], harness := (true, "ac96eef578190cece597cda584f55394a3075a86ac9237bc2705ea9f7f3f39fd"), looks := true }, kinds := [], alts := [], laidByText := true, laidKinds := [.data, .data, .data, .data, .sentinel, .sentinel, .sentinel, .sentinel, .sentinel, .pinned], laidTests := true, laidLooks := .later }
def SpecHoldsCardSaid : Prop := Claim7.holds Tryz.pinned (.plain (OpenSpec.ofChange specHoldsSpec)) specHoldsCard

/-- THE SECOND FORM's CARD OF 'makeweightlaw03.SpecHolds'. -/
def specHoldsUptoCard : Claim7 := { stood := { row := specHoldsUptoRow, standIns := [], harness := (true, "ac96eef578190cece597cda584f55394a3075a86ac9237bc2705ea9f7f3f39fd"), looks := true }, kinds := [], alts := [], laidByText := true, laidKinds := [.data, .data, .data, .data, .sentinel, .sentinel, .sentinel, .sentinel, .sentinel, .pinned], laidTests := true, laidLooks := .later }
def SpecHoldsUptoCardSaid : Prop := Claim7.holds Tryz.pinned (.plain (OpenSpec.upto specHoldsSpec)) specHoldsUptoCard
end Rows
end Go.Proofs.YtbncofgbpffmkaaGreatDoor
