/-
  NARROWER THAN 'FOR EVERY INPUT', by the rows' own cells (each row's printed sentence says how): ActNames: laid · ActStrings: laid · ActSets: laid · ActBack: laid · ActOwn: laid.
  DERIVED. THE GIVEN ROWS OF THIS SEAT. 5 by the template 'for every input the law returns true; each argument reads behind the call as it read before'; 0 by the template 'total and deterministic' (their statements: YtcbmlchlllpnoaaDoorTotals.lean).
  GIVEN WITH THE SEED: the statements are not yours to turn. If you find one false, say at which input.
  Laid BY PROGRAM, IN A SANDBOX (cutbox-rows.mjs): the forced cells as the released guide's own fill.sh prints them over the translation 080c512319a744e2… (all of the seat's roots in one cut). By AI agents, Wed Nov 11 2026. No macro, syntax, notation, axiom, sorry.
-/
import Derived.Test.YtcbmlchlllpnoaaDoorChecked
import GoSem.PinnedTables
import GoSem.Claim
import GoSem.ClaimJoined
import GoSem.ClaimMapViews
import Derived.JoinedTies
import Derived.KernelRfl
namespace Go.Proofs.YtcbmlchlllpnoaaDoor
/- THE CELL 'sum', in the pinned program and in every row, IS THE sha256 OF THE DUMP (.gsa) THAT YtcbmlchlllpnoaaDoorProg.lean LOADS. Nothing in Lean hashes anything: it is a label: what it is worth is what the hold of that sum in a sandbox is worth. -/
noncomputable def Tryd.pinned : Pinned := { name := "ytcbmlchlllpnoaadoor", sum := "080c512319a744e264dcde9a8110c7d9f2f0bea343e286437c184a10a0c6c904", checked := Tryd.checked }
namespace Rows
def none {H : Type} : Left H := { results := [], args := [] }

/- WHAT THE LISTED PACKAGE-LEVEL VARIABLES READ AS WHEN THE CALL BEGINS. Each datum BY PROGRAM (the guide's laid-datum.mjs) off the statement by which the dump's own 'gosem.cut.vars' lays the variable. In a bare row this is a premise. The card (YtcbmlchlllpnoaaDoorCards.lean) ties it to the program's text. -/
def laid_math_bits_deBruijn32tab {H : Type} : DataW H := .agg [.lit (.int .u8 0), .lit (.int .u8 1), .lit (.int .u8 28), .lit (.int .u8 2), .lit (.int .u8 29), .lit (.int .u8 14), .lit (.int .u8 24), .lit (.int .u8 3), .lit (.int .u8 30), .lit (.int .u8 22), .lit (.int .u8 20), .lit (.int .u8 15), .lit (.int .u8 25), .lit (.int .u8 17), .lit (.int .u8 4), .lit (.int .u8 8), .lit (.int .u8 31), .lit (.int .u8 27), .lit (.int .u8 13), .lit (.int .u8 23), .lit (.int .u8 21), .lit (.int .u8 19), .lit (.int .u8 16), .lit (.int .u8 7), .lit (.int .u8 26), .lit (.int .u8 12), .lit (.int .u8 18), .lit (.int .u8 6), .lit (.int .u8 11), .lit (.int .u8 5), .lit (.int .u8 10), .lit (.int .u8 9)]
def laid_math_bits_deBruijn64tab {H : Type} : DataW H := .agg [.lit (.int .u8 0), .lit (.int .u8 1), .lit (.int .u8 56), .lit (.int .u8 2), .lit (.int .u8 57), .lit (.int .u8 49), .lit (.int .u8 28), .lit (.int .u8 3), .lit (.int .u8 61), .lit (.int .u8 58), .lit (.int .u8 42), .lit (.int .u8 50), .lit (.int .u8 38), .lit (.int .u8 29), .lit (.int .u8 17), .lit (.int .u8 4), .lit (.int .u8 62), .lit (.int .u8 47), .lit (.int .u8 59), .lit (.int .u8 36), .lit (.int .u8 45), .lit (.int .u8 43), .lit (.int .u8 51), .lit (.int .u8 22), .lit (.int .u8 53), .lit (.int .u8 39), .lit (.int .u8 33), .lit (.int .u8 30), .lit (.int .u8 24), .lit (.int .u8 18), .lit (.int .u8 12), .lit (.int .u8 5), .lit (.int .u8 63), .lit (.int .u8 55), .lit (.int .u8 48), .lit (.int .u8 27), .lit (.int .u8 60), .lit (.int .u8 41), .lit (.int .u8 37), .lit (.int .u8 16), .lit (.int .u8 46), .lit (.int .u8 35), .lit (.int .u8 44), .lit (.int .u8 21), .lit (.int .u8 52), .lit (.int .u8 32), .lit (.int .u8 23), .lit (.int .u8 11), .lit (.int .u8 54), .lit (.int .u8 26), .lit (.int .u8 40), .lit (.int .u8 15), .lit (.int .u8 34), .lit (.int .u8 20), .lit (.int .u8 31), .lit (.int .u8 10), .lit (.int .u8 25), .lit (.int .u8 14), .lit (.int .u8 19), .lit (.int .u8 9), .lit (.int .u8 13), .lit (.int .u8 8), .lit (.int .u8 7), .lit (.int .u8 6)]
def laid_unicode_utf8_acceptRanges {H : Type} : DataW H := .agg [.agg [.lit (.int .u8 128), .lit (.int .u8 191)], .agg [.lit (.int .u8 160), .lit (.int .u8 191)], .agg [.lit (.int .u8 128), .lit (.int .u8 159)], .agg [.lit (.int .u8 144), .lit (.int .u8 191)], .agg [.lit (.int .u8 128), .lit (.int .u8 143)], .agg [.lit (.int .u8 0), .lit (.int .u8 0)], .agg [.lit (.int .u8 0), .lit (.int .u8 0)], .agg [.lit (.int .u8 0), .lit (.int .u8 0)], .agg [.lit (.int .u8 0), .lit (.int .u8 0)], .agg [.lit (.int .u8 0), .lit (.int .u8 0)], .agg [.lit (.int .u8 0), .lit (.int .u8 0)], .agg [.lit (.int .u8 0), .lit (.int .u8 0)], .agg [.lit (.int .u8 0), .lit (.int .u8 0)], .agg [.lit (.int .u8 0), .lit (.int .u8 0)], .agg [.lit (.int .u8 0), .lit (.int .u8 0)], .agg [.lit (.int .u8 0), .lit (.int .u8 0)]]
def laid_makeweight_act_errActions {H : Type} : DataW H := .iface "*errors.errorString" (.ptr (.agg [.lit (.string [110, 111, 116, 32, 97, 32, 108, 105, 115, 116, 32, 111, 102, 32, 97, 99, 116, 105, 111, 110, 115])]))
def laid_makeweight_act_errSet {H : Type} : DataW H := .iface "*errors.errorString" (.ptr (.agg [.lit (.string [110, 111, 116, 32, 97, 32, 115, 101, 116, 32, 111, 102, 32, 116, 104, 101, 32, 97, 99, 116, 105, 111, 110, 115])]))
def laid_makeweight_act_errText {H : Type} : DataW H := .iface "*errors.errorString" (.ptr (.agg [.lit (.string [110, 111, 116, 32, 116, 104, 101, 32, 115, 116, 114, 105, 110, 103, 32, 111, 102, 32, 97, 32, 115, 101, 116, 32, 111, 102, 32, 116, 104, 101, 32, 97, 99, 116, 105, 111, 110, 115])]))
/-- One of Go's own tables, pinned by name: the form's constant. -/
def laid_unicode_utf8_first : DataW Unit := Go.Pinned.utf8First

/-- 'makeweightlaw01.ActNames': WHATEVER THE INPUT: true; the input reads as it did. -/
def actNamesSpec : ChangeSpec := { name := "actNames", fn := fun _ => fun
  | [d1, d2] => { results := [.lit (.bool true)], args := [d1, d2] }
  | _ => none }
def actNamesRow : OpenClaim := { program := "ytcbmlchlllpnoaadoor", sum := "080c512319a744e264dcde9a8110c7d9f2f0bea343e286437c184a10a0c6c904", func := "makeweight/makeweightlaw01.ActNames", spec := "actNames", inPlace := ["internal/reflectlite.TypeOf", "internal/abi.NoEscape", "internal/bytealg.MakeNoZero", "internal/bytealg.IndexByteString", "internal/bytealg.IndexString"], unfollowed := true, recurses := true, named := ["makeweight/act.errActions", "makeweight/act.errSet", "makeweight/act.errText", "math/bits.deBruijn32tab", "math/bits.deBruijn64tab", "unicode/utf8.first", "unicode/utf8.acceptRanges", "internal/bytealg.MaxLen"], apart := false, laid := [("math/bits.deBruijn32tab", laid_math_bits_deBruijn32tab), ("math/bits.deBruijn64tab", laid_math_bits_deBruijn64tab), ("unicode/utf8.acceptRanges", laid_unicode_utf8_acceptRanges), ("makeweight/act.errActions", laid_makeweight_act_errActions), ("makeweight/act.errSet", laid_makeweight_act_errSet), ("makeweight/act.errText", laid_makeweight_act_errText), ("unicode/utf8.first", laid_unicode_utf8_first)] }
def ActNamesSaid : Prop := actNamesRow.holds Tryd.pinned (OpenSpec.ofChange actNamesSpec)

/-- ITS FALSE NEIGHBOUR: 'it returns false'. Refute it at one input. -/
def actNamesWrong : ChangeSpec := { name := "actNames", fn := fun _ => fun
  | [d1, d2] => { results := [.lit (.bool false)], args := [d1, d2] }
  | _ => none }
def ActNamesWrongFalsely : Prop := actNamesRow.holds Tryd.pinned (OpenSpec.ofChange actNamesWrong)

/-- 'makeweightlaw01.ActStrings': WHATEVER THE INPUT: true; the input reads as it did. -/
def actStringsSpec : ChangeSpec := { name := "actStrings", fn := fun _ => fun
  | [d1, d2, d3] => { results := [.lit (.bool true)], args := [d1, d2, d3] }
  | _ => none }
def actStringsRow : OpenClaim := { program := "ytcbmlchlllpnoaadoor", sum := "080c512319a744e264dcde9a8110c7d9f2f0bea343e286437c184a10a0c6c904", func := "makeweight/makeweightlaw01.ActStrings", spec := "actStrings", inPlace := ["internal/reflectlite.TypeOf", "internal/abi.NoEscape", "internal/bytealg.MakeNoZero", "internal/bytealg.IndexByteString", "internal/bytealg.IndexString"], unfollowed := true, recurses := true, named := ["makeweight/act.errSet", "makeweight/act.errActions", "makeweight/act.errText", "math/bits.deBruijn32tab", "math/bits.deBruijn64tab", "unicode/utf8.first", "unicode/utf8.acceptRanges", "internal/bytealg.MaxLen"], apart := false, laid := [("math/bits.deBruijn32tab", laid_math_bits_deBruijn32tab), ("math/bits.deBruijn64tab", laid_math_bits_deBruijn64tab), ("unicode/utf8.acceptRanges", laid_unicode_utf8_acceptRanges), ("makeweight/act.errActions", laid_makeweight_act_errActions), ("makeweight/act.errSet", laid_makeweight_act_errSet), ("makeweight/act.errText", laid_makeweight_act_errText), ("unicode/utf8.first", laid_unicode_utf8_first)] }
def ActStringsSaid : Prop := actStringsRow.holds Tryd.pinned (OpenSpec.ofChange actStringsSpec)

/-- ITS FALSE NEIGHBOUR: 'it returns false'. Refute it at one input. -/
def actStringsWrong : ChangeSpec := { name := "actStrings", fn := fun _ => fun
  | [d1, d2, d3] => { results := [.lit (.bool false)], args := [d1, d2, d3] }
  | _ => none }
def ActStringsWrongFalsely : Prop := actStringsRow.holds Tryd.pinned (OpenSpec.ofChange actStringsWrong)

/-- 'makeweightlaw01.ActSets': WHATEVER THE INPUT: true; the input reads as it did. -/
def actSetsSpec : ChangeSpec := { name := "actSets", fn := fun _ => fun
  | [d1, d2] => { results := [.lit (.bool true)], args := [d1, d2] }
  | _ => none }
def actSetsRow : OpenClaim := { program := "ytcbmlchlllpnoaadoor", sum := "080c512319a744e264dcde9a8110c7d9f2f0bea343e286437c184a10a0c6c904", func := "makeweight/makeweightlaw01.ActSets", spec := "actSets", inPlace := ["internal/reflectlite.TypeOf", "internal/abi.NoEscape", "internal/bytealg.MakeNoZero", "internal/bytealg.IndexByteString", "internal/bytealg.IndexString"], unfollowed := true, recurses := true, named := ["makeweight/act.errSet", "makeweight/act.errActions", "makeweight/act.errText", "math/bits.deBruijn32tab", "math/bits.deBruijn64tab", "unicode/utf8.first", "unicode/utf8.acceptRanges", "internal/bytealg.MaxLen"], apart := false, laid := [("math/bits.deBruijn32tab", laid_math_bits_deBruijn32tab), ("math/bits.deBruijn64tab", laid_math_bits_deBruijn64tab), ("unicode/utf8.acceptRanges", laid_unicode_utf8_acceptRanges), ("makeweight/act.errActions", laid_makeweight_act_errActions), ("makeweight/act.errSet", laid_makeweight_act_errSet), ("makeweight/act.errText", laid_makeweight_act_errText), ("unicode/utf8.first", laid_unicode_utf8_first)] }
def ActSetsSaid : Prop := actSetsRow.holds Tryd.pinned (OpenSpec.ofChange actSetsSpec)

/-- ITS FALSE NEIGHBOUR: 'it returns false'. Refute it at one input. -/
def actSetsWrong : ChangeSpec := { name := "actSets", fn := fun _ => fun
  | [d1, d2] => { results := [.lit (.bool false)], args := [d1, d2] }
  | _ => none }
def ActSetsWrongFalsely : Prop := actSetsRow.holds Tryd.pinned (OpenSpec.ofChange actSetsWrong)

/-- 'makeweightlaw01.ActBack': WHATEVER THE INPUT: true; the input reads as it did. -/
def actBackSpec : ChangeSpec := { name := "actBack", fn := fun _ => fun
  | [d1, d2] => { results := [.lit (.bool true)], args := [d1, d2] }
  | _ => none }
def actBackRow : OpenClaim := { program := "ytcbmlchlllpnoaadoor", sum := "080c512319a744e264dcde9a8110c7d9f2f0bea343e286437c184a10a0c6c904", func := "makeweight/makeweightlaw01.ActBack", spec := "actBack", inPlace := ["internal/reflectlite.TypeOf", "internal/abi.NoEscape", "internal/bytealg.MakeNoZero", "internal/bytealg.IndexByteString", "internal/bytealg.IndexString"], unfollowed := true, recurses := true, named := ["makeweight/act.errSet", "makeweight/act.errActions", "makeweight/act.errText", "math/bits.deBruijn32tab", "math/bits.deBruijn64tab", "unicode/utf8.first", "unicode/utf8.acceptRanges", "internal/bytealg.MaxLen"], apart := false, laid := [("math/bits.deBruijn32tab", laid_math_bits_deBruijn32tab), ("math/bits.deBruijn64tab", laid_math_bits_deBruijn64tab), ("unicode/utf8.acceptRanges", laid_unicode_utf8_acceptRanges), ("makeweight/act.errActions", laid_makeweight_act_errActions), ("makeweight/act.errSet", laid_makeweight_act_errSet), ("makeweight/act.errText", laid_makeweight_act_errText), ("unicode/utf8.first", laid_unicode_utf8_first)] }
def ActBackSaid : Prop := actBackRow.holds Tryd.pinned (OpenSpec.ofChange actBackSpec)

/-- ITS FALSE NEIGHBOUR: 'it returns false'. Refute it at one input. -/
def actBackWrong : ChangeSpec := { name := "actBack", fn := fun _ => fun
  | [d1, d2] => { results := [.lit (.bool false)], args := [d1, d2] }
  | _ => none }
def ActBackWrongFalsely : Prop := actBackRow.holds Tryd.pinned (OpenSpec.ofChange actBackWrong)

/-- 'makeweightlaw01.ActOwn': WHATEVER THE INPUT: true; the input reads as it did. -/
def actOwnSpec : ChangeSpec := { name := "actOwn", fn := fun _ => fun
  | [d1, d2, d3] => { results := [.lit (.bool true)], args := [d1, d2, d3] }
  | _ => none }
def actOwnRow : OpenClaim := { program := "ytcbmlchlllpnoaadoor", sum := "080c512319a744e264dcde9a8110c7d9f2f0bea343e286437c184a10a0c6c904", func := "makeweight/makeweightlaw01.ActOwn", spec := "actOwn", inPlace := ["internal/reflectlite.TypeOf", "internal/abi.NoEscape", "internal/bytealg.MakeNoZero", "internal/bytealg.IndexByteString", "internal/bytealg.IndexString"], unfollowed := true, recurses := true, named := ["makeweight/act.errSet", "makeweight/act.errActions", "makeweight/act.errText", "math/bits.deBruijn32tab", "math/bits.deBruijn64tab", "unicode/utf8.first", "unicode/utf8.acceptRanges", "internal/bytealg.MaxLen"], apart := false, laid := [("math/bits.deBruijn32tab", laid_math_bits_deBruijn32tab), ("math/bits.deBruijn64tab", laid_math_bits_deBruijn64tab), ("unicode/utf8.acceptRanges", laid_unicode_utf8_acceptRanges), ("makeweight/act.errActions", laid_makeweight_act_errActions), ("makeweight/act.errSet", laid_makeweight_act_errSet), ("makeweight/act.errText", laid_makeweight_act_errText), ("unicode/utf8.first", laid_unicode_utf8_first)] }
def ActOwnSaid : Prop := actOwnRow.holds Tryd.pinned (OpenSpec.ofChange actOwnSpec)

/-- ITS FALSE NEIGHBOUR: 'it returns false'. Refute it at one input. -/
def actOwnWrong : ChangeSpec := { name := "actOwn", fn := fun _ => fun
  | [d1, d2, d3] => { results := [.lit (.bool false)], args := [d1, d2, d3] }
  | _ => none }
def ActOwnWrongFalsely : Prop := actOwnRow.holds Tryd.pinned (OpenSpec.ofChange actOwnWrong)

/- THE SECOND FORM. 'bulk': how many values and letters a reading holds, each counted each time it is reached (what is shared counts as often as it is met; a slice's spare places count too). A statement '..UptoSaid' is the law's where the arguments, and the package variables that the reading takes, are together of bulk at most 1048576: NARROWER than '..Said'. Prove '..Said' where nothing that the law and all that it calls make is longer than what came in: it says more and counts as full. Else prove '..UptoSaid'. A law counts once. -/
mutual
def uptoBulk {H : Type} : DataW H → Nat
  | .lit (.string bytes) => bytes.length + 1
  | .lit _ => 1
  | .nil => 1
  | .ptr d => uptoBulk d + 1
  | .slice elems spare => uptoBulkAll elems + uptoBulkAll spare + 1
  | .agg parts => uptoBulkAll parts + 1
  | .iface _ d => uptoBulk d + 1
  | .map entries => uptoBulkEntries entries + 1
  | .held _ => 1
def uptoBulkAll {H : Type} : List (DataW H) → Nat
  | [] => 0
  | d :: r => uptoBulk d + uptoBulkAll r
def uptoBulkEntries {H : Type} : List (Lit × DataW H) → Nat
  | [] => 0
  | x :: r => uptoBulkEntry x + uptoBulkEntries r
def uptoBulkEntry {H : Type} : Lit × DataW H → Nat
  | (.string bytes, d) => bytes.length + uptoBulk d + 1
  | (_, d) => uptoBulk d + 1
 end
def uptoSmall : (H : Type) → List (DataW H) → Bool := fun _ ds => decide (uptoBulkAll ds ≤ 1048576)
def OpenSpec.upto (s : _root_.Go.ChangeSpec) : _root_.Go.OpenSpec := { _root_.Go.OpenSpec.ofChange s with cond := some uptoSmall }

/-- 'makeweightlaw01.ActNames', WHERE WHAT IT READS IS OF BULK AT MOST 1048576: true; the input reads as it did. -/
def actNamesUptoRow : OpenClaim := { program := "ytcbmlchlllpnoaadoor", sum := "080c512319a744e264dcde9a8110c7d9f2f0bea343e286437c184a10a0c6c904", func := "makeweight/makeweightlaw01.ActNames", spec := "actNames", inPlace := ["internal/reflectlite.TypeOf", "internal/abi.NoEscape", "internal/bytealg.MakeNoZero", "internal/bytealg.IndexByteString", "internal/bytealg.IndexString"], unfollowed := true, recurses := true, named := ["makeweight/act.errActions", "makeweight/act.errSet", "makeweight/act.errText", "math/bits.deBruijn32tab", "math/bits.deBruijn64tab", "unicode/utf8.first", "unicode/utf8.acceptRanges", "internal/bytealg.MaxLen"], apart := false, laid := [("math/bits.deBruijn32tab", laid_math_bits_deBruijn32tab), ("math/bits.deBruijn64tab", laid_math_bits_deBruijn64tab), ("unicode/utf8.acceptRanges", laid_unicode_utf8_acceptRanges), ("makeweight/act.errActions", laid_makeweight_act_errActions), ("makeweight/act.errSet", laid_makeweight_act_errSet), ("makeweight/act.errText", laid_makeweight_act_errText), ("unicode/utf8.first", laid_unicode_utf8_first)], narrowed := true }
def ActNamesUptoSaid : Prop := actNamesUptoRow.holds Tryd.pinned (OpenSpec.upto actNamesSpec)

/-- 'makeweightlaw01.ActStrings', WHERE WHAT IT READS IS OF BULK AT MOST 1048576: true; the input reads as it did. -/
def actStringsUptoRow : OpenClaim := { program := "ytcbmlchlllpnoaadoor", sum := "080c512319a744e264dcde9a8110c7d9f2f0bea343e286437c184a10a0c6c904", func := "makeweight/makeweightlaw01.ActStrings", spec := "actStrings", inPlace := ["internal/reflectlite.TypeOf", "internal/abi.NoEscape", "internal/bytealg.MakeNoZero", "internal/bytealg.IndexByteString", "internal/bytealg.IndexString"], unfollowed := true, recurses := true, named := ["makeweight/act.errSet", "makeweight/act.errActions", "makeweight/act.errText", "math/bits.deBruijn32tab", "math/bits.deBruijn64tab", "unicode/utf8.first", "unicode/utf8.acceptRanges", "internal/bytealg.MaxLen"], apart := false, laid := [("math/bits.deBruijn32tab", laid_math_bits_deBruijn32tab), ("math/bits.deBruijn64tab", laid_math_bits_deBruijn64tab), ("unicode/utf8.acceptRanges", laid_unicode_utf8_acceptRanges), ("makeweight/act.errActions", laid_makeweight_act_errActions), ("makeweight/act.errSet", laid_makeweight_act_errSet), ("makeweight/act.errText", laid_makeweight_act_errText), ("unicode/utf8.first", laid_unicode_utf8_first)], narrowed := true }
def ActStringsUptoSaid : Prop := actStringsUptoRow.holds Tryd.pinned (OpenSpec.upto actStringsSpec)

/-- 'makeweightlaw01.ActSets', WHERE WHAT IT READS IS OF BULK AT MOST 1048576: true; the input reads as it did. -/
def actSetsUptoRow : OpenClaim := { program := "ytcbmlchlllpnoaadoor", sum := "080c512319a744e264dcde9a8110c7d9f2f0bea343e286437c184a10a0c6c904", func := "makeweight/makeweightlaw01.ActSets", spec := "actSets", inPlace := ["internal/reflectlite.TypeOf", "internal/abi.NoEscape", "internal/bytealg.MakeNoZero", "internal/bytealg.IndexByteString", "internal/bytealg.IndexString"], unfollowed := true, recurses := true, named := ["makeweight/act.errSet", "makeweight/act.errActions", "makeweight/act.errText", "math/bits.deBruijn32tab", "math/bits.deBruijn64tab", "unicode/utf8.first", "unicode/utf8.acceptRanges", "internal/bytealg.MaxLen"], apart := false, laid := [("math/bits.deBruijn32tab", laid_math_bits_deBruijn32tab), ("math/bits.deBruijn64tab", laid_math_bits_deBruijn64tab), ("unicode/utf8.acceptRanges", laid_unicode_utf8_acceptRanges), ("makeweight/act.errActions", laid_makeweight_act_errActions), ("makeweight/act.errSet", laid_makeweight_act_errSet), ("makeweight/act.errText", laid_makeweight_act_errText), ("unicode/utf8.first", laid_unicode_utf8_first)], narrowed := true }
def ActSetsUptoSaid : Prop := actSetsUptoRow.holds Tryd.pinned (OpenSpec.upto actSetsSpec)

/-- 'makeweightlaw01.ActBack', WHERE WHAT IT READS IS OF BULK AT MOST 1048576: true; the input reads as it did. -/
def actBackUptoRow : OpenClaim := { program := "ytcbmlchlllpnoaadoor", sum := "080c512319a744e264dcde9a8110c7d9f2f0bea343e286437c184a10a0c6c904", func := "makeweight/makeweightlaw01.ActBack", spec := "actBack", inPlace := ["internal/reflectlite.TypeOf", "internal/abi.NoEscape", "internal/bytealg.MakeNoZero", "internal/bytealg.IndexByteString", "internal/bytealg.IndexString"], unfollowed := true, recurses := true, named := ["makeweight/act.errSet", "makeweight/act.errActions", "makeweight/act.errText", "math/bits.deBruijn32tab", "math/bits.deBruijn64tab", "unicode/utf8.first", "unicode/utf8.acceptRanges", "internal/bytealg.MaxLen"], apart := false, laid := [("math/bits.deBruijn32tab", laid_math_bits_deBruijn32tab), ("math/bits.deBruijn64tab", laid_math_bits_deBruijn64tab), ("unicode/utf8.acceptRanges", laid_unicode_utf8_acceptRanges), ("makeweight/act.errActions", laid_makeweight_act_errActions), ("makeweight/act.errSet", laid_makeweight_act_errSet), ("makeweight/act.errText", laid_makeweight_act_errText), ("unicode/utf8.first", laid_unicode_utf8_first)], narrowed := true }
def ActBackUptoSaid : Prop := actBackUptoRow.holds Tryd.pinned (OpenSpec.upto actBackSpec)

/-- 'makeweightlaw01.ActOwn', WHERE WHAT IT READS IS OF BULK AT MOST 1048576: true; the input reads as it did. -/
def actOwnUptoRow : OpenClaim := { program := "ytcbmlchlllpnoaadoor", sum := "080c512319a744e264dcde9a8110c7d9f2f0bea343e286437c184a10a0c6c904", func := "makeweight/makeweightlaw01.ActOwn", spec := "actOwn", inPlace := ["internal/reflectlite.TypeOf", "internal/abi.NoEscape", "internal/bytealg.MakeNoZero", "internal/bytealg.IndexByteString", "internal/bytealg.IndexString"], unfollowed := true, recurses := true, named := ["makeweight/act.errSet", "makeweight/act.errActions", "makeweight/act.errText", "math/bits.deBruijn32tab", "math/bits.deBruijn64tab", "unicode/utf8.first", "unicode/utf8.acceptRanges", "internal/bytealg.MaxLen"], apart := false, laid := [("math/bits.deBruijn32tab", laid_math_bits_deBruijn32tab), ("math/bits.deBruijn64tab", laid_math_bits_deBruijn64tab), ("unicode/utf8.acceptRanges", laid_unicode_utf8_acceptRanges), ("makeweight/act.errActions", laid_makeweight_act_errActions), ("makeweight/act.errSet", laid_makeweight_act_errSet), ("makeweight/act.errText", laid_makeweight_act_errText), ("unicode/utf8.first", laid_unicode_utf8_first)], narrowed := true }
def ActOwnUptoSaid : Prop := actOwnUptoRow.holds Tryd.pinned (OpenSpec.upto actOwnSpec)

end Rows
end Go.Proofs.YtcbmlchlllpnoaaDoor
