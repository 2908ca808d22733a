/-
  NARROWER THAN 'FOR EVERY INPUT', by the rows' own cells (each row's printed sentence says how): SystemChecks: laid · SystemStrings: laid · SystemBack: laid · SystemSteps: laid · SystemParts: laid · SystemProducts: laid · SystemAlike: laid · SystemPairs: laid · SystemLeast: laid · SystemOwn: laid.
  DERIVED. THE GIVEN ROWS OF THIS SEAT. 10 by the template 'for every input the law returns true; each argument reads behind the call as it read before'; 0 by the template 'total and deterministic' (their statements: YtlnncklanabbdaaGreatDoorTotals.lean).
  GIVEN WITH THE SEED: the statements are not yours to turn. If you find one false, say at which input.
  Laid BY PROGRAM, IN A SANDBOX (cutbox-rows.mjs): the forced cells as the released guide's own fill.sh prints them over the translation 447dea3f8af690fc… (all of the seat's roots in one cut). By AI agents, Wed Nov 11 2026. No macro, syntax, notation, axiom, sorry.
-/
import Derived.Test.YtlnncklanabbdaaGreatDoorChecked
import GoSem.PinnedTables
import GoSem.Claim
import GoSem.ClaimJoined
import GoSem.ClaimMapViews
import Derived.JoinedTies
import Derived.KernelRfl
namespace Go.Proofs.YtlnncklanabbdaaGreatDoor
/- THE CELL 'sum', in the pinned program and in every row, IS THE sha256 OF THE DUMP (.gsa) THAT YtlnncklanabbdaaGreatDoorProg.lean LOADS. Nothing in Lean hashes anything: it is a label: what it is worth is what the hold of that sum in a sandbox is worth. -/
noncomputable def Tryz.pinned : Pinned := { name := "ytlnncklanabbdaagreatdoor", sum := "447dea3f8af690fc849cd25ac5c64664dd89808397038218f0430c70bfbff959", checked := Tryz.checked }
namespace Rows
def none {H : Type} : Left H := { results := [], args := [] }

/- WHAT THE LISTED PACKAGE-LEVEL VARIABLES READ AS WHEN THE CALL BEGINS. Each datum BY PROGRAM (the guide's laid-datum.mjs) off the statement by which the dump's own 'gosem.cut.vars' lays the variable. In a bare row this is a premise. The card (YtlnncklanabbdaaGreatDoorCards.lean) ties it to the program's text. -/
def laid_math_bits_deBruijn32tab {H : Type} : DataW H := .agg [.lit (.int .u8 0), .lit (.int .u8 1), .lit (.int .u8 28), .lit (.int .u8 2), .lit (.int .u8 29), .lit (.int .u8 14), .lit (.int .u8 24), .lit (.int .u8 3), .lit (.int .u8 30), .lit (.int .u8 22), .lit (.int .u8 20), .lit (.int .u8 15), .lit (.int .u8 25), .lit (.int .u8 17), .lit (.int .u8 4), .lit (.int .u8 8), .lit (.int .u8 31), .lit (.int .u8 27), .lit (.int .u8 13), .lit (.int .u8 23), .lit (.int .u8 21), .lit (.int .u8 19), .lit (.int .u8 16), .lit (.int .u8 7), .lit (.int .u8 26), .lit (.int .u8 12), .lit (.int .u8 18), .lit (.int .u8 6), .lit (.int .u8 11), .lit (.int .u8 5), .lit (.int .u8 10), .lit (.int .u8 9)]
def laid_math_bits_deBruijn64tab {H : Type} : DataW H := .agg [.lit (.int .u8 0), .lit (.int .u8 1), .lit (.int .u8 56), .lit (.int .u8 2), .lit (.int .u8 57), .lit (.int .u8 49), .lit (.int .u8 28), .lit (.int .u8 3), .lit (.int .u8 61), .lit (.int .u8 58), .lit (.int .u8 42), .lit (.int .u8 50), .lit (.int .u8 38), .lit (.int .u8 29), .lit (.int .u8 17), .lit (.int .u8 4), .lit (.int .u8 62), .lit (.int .u8 47), .lit (.int .u8 59), .lit (.int .u8 36), .lit (.int .u8 45), .lit (.int .u8 43), .lit (.int .u8 51), .lit (.int .u8 22), .lit (.int .u8 53), .lit (.int .u8 39), .lit (.int .u8 33), .lit (.int .u8 30), .lit (.int .u8 24), .lit (.int .u8 18), .lit (.int .u8 12), .lit (.int .u8 5), .lit (.int .u8 63), .lit (.int .u8 55), .lit (.int .u8 48), .lit (.int .u8 27), .lit (.int .u8 60), .lit (.int .u8 41), .lit (.int .u8 37), .lit (.int .u8 16), .lit (.int .u8 46), .lit (.int .u8 35), .lit (.int .u8 44), .lit (.int .u8 21), .lit (.int .u8 52), .lit (.int .u8 32), .lit (.int .u8 23), .lit (.int .u8 11), .lit (.int .u8 54), .lit (.int .u8 26), .lit (.int .u8 40), .lit (.int .u8 15), .lit (.int .u8 34), .lit (.int .u8 20), .lit (.int .u8 31), .lit (.int .u8 10), .lit (.int .u8 25), .lit (.int .u8 14), .lit (.int .u8 19), .lit (.int .u8 9), .lit (.int .u8 13), .lit (.int .u8 8), .lit (.int .u8 7), .lit (.int .u8 6)]
def laid_internal_strconv_uint64pow10 {H : Type} : DataW H := .agg [.lit (.int .u64 1), .lit (.int .u64 10), .lit (.int .u64 100), .lit (.int .u64 1000), .lit (.int .u64 10000), .lit (.int .u64 100000), .lit (.int .u64 1000000), .lit (.int .u64 10000000), .lit (.int .u64 100000000), .lit (.int .u64 1000000000), .lit (.int .u64 10000000000), .lit (.int .u64 100000000000), .lit (.int .u64 1000000000000), .lit (.int .u64 10000000000000), .lit (.int .u64 100000000000000), .lit (.int .u64 1000000000000000), .lit (.int .u64 10000000000000000), .lit (.int .u64 100000000000000000), .lit (.int .u64 1000000000000000000), .lit (.int .u64 10000000000000000000)]
def laid_unicode_utf8_acceptRanges {H : Type} : DataW H := .agg [.agg [.lit (.int .u8 128), .lit (.int .u8 191)], .agg [.lit (.int .u8 160), .lit (.int .u8 191)], .agg [.lit (.int .u8 128), .lit (.int .u8 159)], .agg [.lit (.int .u8 144), .lit (.int .u8 191)], .agg [.lit (.int .u8 128), .lit (.int .u8 143)], .agg [.lit (.int .u8 0), .lit (.int .u8 0)], .agg [.lit (.int .u8 0), .lit (.int .u8 0)], .agg [.lit (.int .u8 0), .lit (.int .u8 0)], .agg [.lit (.int .u8 0), .lit (.int .u8 0)], .agg [.lit (.int .u8 0), .lit (.int .u8 0)], .agg [.lit (.int .u8 0), .lit (.int .u8 0)], .agg [.lit (.int .u8 0), .lit (.int .u8 0)], .agg [.lit (.int .u8 0), .lit (.int .u8 0)], .agg [.lit (.int .u8 0), .lit (.int .u8 0)], .agg [.lit (.int .u8 0), .lit (.int .u8 0)], .agg [.lit (.int .u8 0), .lit (.int .u8 0)]]
def laid_strconv_ErrRange {H : Type} : DataW H := .iface "*errors.errorString" (.ptr (.agg [.lit (.string [118, 97, 108, 117, 101, 32, 111, 117, 116, 32, 111, 102, 32, 114, 97, 110, 103, 101])]))
def laid_strconv_ErrSyntax {H : Type} : DataW H := .iface "*errors.errorString" (.ptr (.agg [.lit (.string [105, 110, 118, 97, 108, 105, 100, 32, 115, 121, 110, 116, 97, 120])]))
def laid_makeweight_act_errActions {H : Type} : DataW H := .iface "*errors.errorString" (.ptr (.agg [.lit (.string [110, 111, 116, 32, 97, 32, 108, 105, 115, 116, 32, 111, 102, 32, 97, 99, 116, 105, 111, 110, 115])]))
def laid_makeweight_act_errSet {H : Type} : DataW H := .iface "*errors.errorString" (.ptr (.agg [.lit (.string [110, 111, 116, 32, 97, 32, 115, 101, 116, 32, 111, 102, 32, 116, 104, 101, 32, 97, 99, 116, 105, 111, 110, 115])]))
def laid_makeweight_act_errText {H : Type} : DataW H := .iface "*errors.errorString" (.ptr (.agg [.lit (.string [110, 111, 116, 32, 116, 104, 101, 32, 115, 116, 114, 105, 110, 103, 32, 111, 102, 32, 97, 32, 115, 101, 116, 32, 111, 102, 32, 116, 104, 101, 32, 97, 99, 116, 105, 111, 110, 115])]))
/-- One of Go's own tables, pinned by name: the form's constant. -/
def laid_unicode_utf8_first : DataW Unit := Go.Pinned.utf8First

/-- 'makeweightlaw02.SystemChecks': WHATEVER THE INPUT: true; the input reads as it did. -/
def systemChecksSpec : ChangeSpec := { name := "systemChecks", fn := fun _ => fun
  | [d1, d2] => { results := [.lit (.bool true)], args := [d1, d2] }
  | _ => none }
def systemChecksRow : OpenClaim := { program := "ytlnncklanabbdaagreatdoor", sum := "447dea3f8af690fc849cd25ac5c64664dd89808397038218f0430c70bfbff959", func := "makeweight/makeweightlaw02.SystemChecks", spec := "systemChecks", inPlace := ["internal/reflectlite.TypeOf", "internal/abi.NoEscape", "internal/bytealg.MakeNoZero", "internal/bytealg.CountString", "internal/bytealg.IndexByteString", "internal/bytealg.IndexString"], unfollowed := true, recurses := true, named := ["makeweight/act.errActions", "makeweight/act.errSet", "makeweight/act.errText", "internal/strconv.uint64pow10", "math/bits.deBruijn32tab", "math/bits.deBruijn64tab", "unicode/utf8.first", "unicode/utf8.acceptRanges", "internal/bytealg.MaxLen", "strconv.ErrSyntax", "strconv.ErrRange"], plainKeys := false, apart := false, laid := [("math/bits.deBruijn32tab", laid_math_bits_deBruijn32tab), ("math/bits.deBruijn64tab", laid_math_bits_deBruijn64tab), ("internal/strconv.uint64pow10", laid_internal_strconv_uint64pow10), ("unicode/utf8.acceptRanges", laid_unicode_utf8_acceptRanges), ("strconv.ErrRange", laid_strconv_ErrRange), ("strconv.ErrSyntax", laid_strconv_ErrSyntax), ("makeweight/act.errActions", laid_makeweight_act_errActions), ("makeweight/act.errSet", laid_makeweight_act_errSet), ("makeweight/act.errText", laid_makeweight_act_errText), ("unicode/utf8.first", laid_unicode_utf8_first)] }
def SystemChecksSaid : Prop := systemChecksRow.holds Tryz.pinned (OpenSpec.ofChange systemChecksSpec)

/-- ITS FALSE NEIGHBOUR: 'it returns false'. Refute it at one input. -/
def systemChecksWrong : ChangeSpec := { name := "systemChecks", fn := fun _ => fun
  | [d1, d2] => { results := [.lit (.bool false)], args := [d1, d2] }
  | _ => none }
def SystemChecksWrongFalsely : Prop := systemChecksRow.holds Tryz.pinned (OpenSpec.ofChange systemChecksWrong)

/-- 'makeweightlaw02.SystemStrings': WHATEVER THE INPUT: true; the input reads as it did. -/
def systemStringsSpec : ChangeSpec := { name := "systemStrings", fn := fun _ => fun
  | [d1, d2] => { results := [.lit (.bool true)], args := [d1, d2] }
  | _ => none }
def systemStringsRow : OpenClaim := { program := "ytlnncklanabbdaagreatdoor", sum := "447dea3f8af690fc849cd25ac5c64664dd89808397038218f0430c70bfbff959", func := "makeweight/makeweightlaw02.SystemStrings", spec := "systemStrings", inPlace := ["internal/reflectlite.TypeOf", "internal/abi.NoEscape", "internal/bytealg.MakeNoZero", "internal/bytealg.CountString", "internal/bytealg.IndexByteString", "internal/bytealg.IndexString"], unfollowed := true, recurses := true, named := ["makeweight/act.errActions", "makeweight/act.errSet", "makeweight/act.errText", "internal/strconv.uint64pow10", "math/bits.deBruijn32tab", "math/bits.deBruijn64tab", "unicode/utf8.first", "unicode/utf8.acceptRanges", "internal/bytealg.MaxLen", "strconv.ErrSyntax", "strconv.ErrRange"], plainKeys := false, apart := false, laid := [("math/bits.deBruijn32tab", laid_math_bits_deBruijn32tab), ("math/bits.deBruijn64tab", laid_math_bits_deBruijn64tab), ("internal/strconv.uint64pow10", laid_internal_strconv_uint64pow10), ("unicode/utf8.acceptRanges", laid_unicode_utf8_acceptRanges), ("strconv.ErrRange", laid_strconv_ErrRange), ("strconv.ErrSyntax", laid_strconv_ErrSyntax), ("makeweight/act.errActions", laid_makeweight_act_errActions), ("makeweight/act.errSet", laid_makeweight_act_errSet), ("makeweight/act.errText", laid_makeweight_act_errText), ("unicode/utf8.first", laid_unicode_utf8_first)] }
def SystemStringsSaid : Prop := systemStringsRow.holds Tryz.pinned (OpenSpec.ofChange systemStringsSpec)

/-- ITS FALSE NEIGHBOUR: 'it returns false'. Refute it at one input. -/
def systemStringsWrong : ChangeSpec := { name := "systemStrings", fn := fun _ => fun
  | [d1, d2] => { results := [.lit (.bool false)], args := [d1, d2] }
  | _ => none }
def SystemStringsWrongFalsely : Prop := systemStringsRow.holds Tryz.pinned (OpenSpec.ofChange systemStringsWrong)

/-- 'makeweightlaw02.SystemBack': WHATEVER THE INPUT: true; the input reads as it did. -/
def systemBackSpec : ChangeSpec := { name := "systemBack", fn := fun _ => fun
  | [d] => { results := [.lit (.bool true)], args := [d] }
  | _ => none }
def systemBackRow : OpenClaim := { program := "ytlnncklanabbdaagreatdoor", sum := "447dea3f8af690fc849cd25ac5c64664dd89808397038218f0430c70bfbff959", func := "makeweight/makeweightlaw02.SystemBack", spec := "systemBack", inPlace := ["internal/reflectlite.TypeOf", "internal/abi.NoEscape", "internal/bytealg.MakeNoZero", "internal/bytealg.CountString", "internal/bytealg.IndexByteString", "internal/bytealg.IndexString"], unfollowed := true, recurses := true, named := ["makeweight/act.errActions", "makeweight/act.errSet", "makeweight/act.errText", "internal/strconv.uint64pow10", "math/bits.deBruijn32tab", "math/bits.deBruijn64tab", "unicode/utf8.first", "unicode/utf8.acceptRanges", "internal/bytealg.MaxLen", "strconv.ErrSyntax", "strconv.ErrRange"], plainKeys := false, apart := false, laid := [("math/bits.deBruijn32tab", laid_math_bits_deBruijn32tab), ("math/bits.deBruijn64tab", laid_math_bits_deBruijn64tab), ("internal/strconv.uint64pow10", laid_internal_strconv_uint64pow10), ("unicode/utf8.acceptRanges", laid_unicode_utf8_acceptRanges), ("strconv.ErrRange", laid_strconv_ErrRange), ("strconv.ErrSyntax", laid_strconv_ErrSyntax), ("makeweight/act.errActions", laid_makeweight_act_errActions), ("makeweight/act.errSet", laid_makeweight_act_errSet), ("makeweight/act.errText", laid_makeweight_act_errText), ("unicode/utf8.first", laid_unicode_utf8_first)] }
def SystemBackSaid : Prop := systemBackRow.holds Tryz.pinned (OpenSpec.ofChange systemBackSpec)

/-- ITS FALSE NEIGHBOUR: 'it returns false'. Refute it at one input. -/
def systemBackWrong : ChangeSpec := { name := "systemBack", fn := fun _ => fun
  | [d] => { results := [.lit (.bool false)], args := [d] }
  | _ => none }
def SystemBackWrongFalsely : Prop := systemBackRow.holds Tryz.pinned (OpenSpec.ofChange systemBackWrong)

/-- 'makeweightlaw02.SystemSteps': WHATEVER THE INPUT: true; the input reads as it did. -/
def systemStepsSpec : ChangeSpec := { name := "systemSteps", fn := fun _ => fun
  | [d1, d2, d3] => { results := [.lit (.bool true)], args := [d1, d2, d3] }
  | _ => none }
def systemStepsRow : OpenClaim := { program := "ytlnncklanabbdaagreatdoor", sum := "447dea3f8af690fc849cd25ac5c64664dd89808397038218f0430c70bfbff959", func := "makeweight/makeweightlaw02.SystemSteps", spec := "systemSteps", inPlace := ["internal/reflectlite.TypeOf", "internal/abi.NoEscape", "internal/bytealg.MakeNoZero", "internal/bytealg.CountString", "internal/bytealg.IndexByteString", "internal/bytealg.IndexString"], unfollowed := true, recurses := true, named := ["makeweight/act.errActions", "makeweight/act.errSet", "makeweight/act.errText", "internal/strconv.uint64pow10", "math/bits.deBruijn32tab", "math/bits.deBruijn64tab", "unicode/utf8.first", "unicode/utf8.acceptRanges", "internal/bytealg.MaxLen", "strconv.ErrSyntax", "strconv.ErrRange"], plainKeys := false, apart := false, laid := [("math/bits.deBruijn32tab", laid_math_bits_deBruijn32tab), ("math/bits.deBruijn64tab", laid_math_bits_deBruijn64tab), ("internal/strconv.uint64pow10", laid_internal_strconv_uint64pow10), ("unicode/utf8.acceptRanges", laid_unicode_utf8_acceptRanges), ("strconv.ErrRange", laid_strconv_ErrRange), ("strconv.ErrSyntax", laid_strconv_ErrSyntax), ("makeweight/act.errActions", laid_makeweight_act_errActions), ("makeweight/act.errSet", laid_makeweight_act_errSet), ("makeweight/act.errText", laid_makeweight_act_errText), ("unicode/utf8.first", laid_unicode_utf8_first)] }
def SystemStepsSaid : Prop := systemStepsRow.holds Tryz.pinned (OpenSpec.ofChange systemStepsSpec)

/-- ITS FALSE NEIGHBOUR: 'it returns false'. Refute it at one input. -/
def systemStepsWrong : ChangeSpec := { name := "systemSteps", fn := fun _ => fun
  | [d1, d2, d3] => { results := [.lit (.bool false)], args := [d1, d2, d3] }
  | _ => none }
def SystemStepsWrongFalsely : Prop := systemStepsRow.holds Tryz.pinned (OpenSpec.ofChange systemStepsWrong)

/-- 'makeweightlaw02.SystemParts': WHATEVER THE INPUT: true; the input reads as it did. -/
def systemPartsSpec : ChangeSpec := { name := "systemParts", fn := fun _ => fun
  | [d1, d2] => { results := [.lit (.bool true)], args := [d1, d2] }
  | _ => none }
def systemPartsRow : OpenClaim := { program := "ytlnncklanabbdaagreatdoor", sum := "447dea3f8af690fc849cd25ac5c64664dd89808397038218f0430c70bfbff959", func := "makeweight/makeweightlaw02.SystemParts", spec := "systemParts", inPlace := ["internal/reflectlite.TypeOf", "internal/abi.NoEscape", "internal/bytealg.MakeNoZero", "internal/bytealg.CountString", "internal/bytealg.IndexByteString", "internal/bytealg.IndexString"], unfollowed := true, recurses := true, named := ["makeweight/act.errActions", "makeweight/act.errSet", "makeweight/act.errText", "internal/strconv.uint64pow10", "math/bits.deBruijn32tab", "math/bits.deBruijn64tab", "unicode/utf8.first", "unicode/utf8.acceptRanges", "internal/bytealg.MaxLen", "strconv.ErrSyntax", "strconv.ErrRange"], plainKeys := false, apart := false, laid := [("math/bits.deBruijn32tab", laid_math_bits_deBruijn32tab), ("math/bits.deBruijn64tab", laid_math_bits_deBruijn64tab), ("internal/strconv.uint64pow10", laid_internal_strconv_uint64pow10), ("unicode/utf8.acceptRanges", laid_unicode_utf8_acceptRanges), ("strconv.ErrRange", laid_strconv_ErrRange), ("strconv.ErrSyntax", laid_strconv_ErrSyntax), ("makeweight/act.errActions", laid_makeweight_act_errActions), ("makeweight/act.errSet", laid_makeweight_act_errSet), ("makeweight/act.errText", laid_makeweight_act_errText), ("unicode/utf8.first", laid_unicode_utf8_first)] }
def SystemPartsSaid : Prop := systemPartsRow.holds Tryz.pinned (OpenSpec.ofChange systemPartsSpec)

/-- ITS FALSE NEIGHBOUR: 'it returns false'. Refute it at one input. -/
def systemPartsWrong : ChangeSpec := { name := "systemParts", fn := fun _ => fun
  | [d1, d2] => { results := [.lit (.bool false)], args := [d1, d2] }
  | _ => none }
def SystemPartsWrongFalsely : Prop := systemPartsRow.holds Tryz.pinned (OpenSpec.ofChange systemPartsWrong)

/-- 'makeweightlaw02.SystemProducts': WHATEVER THE INPUT: true; the input reads as it did. -/
def systemProductsSpec : ChangeSpec := { name := "systemProducts", fn := fun _ => fun
  | [d1, d2] => { results := [.lit (.bool true)], args := [d1, d2] }
  | _ => none }
def systemProductsRow : OpenClaim := { program := "ytlnncklanabbdaagreatdoor", sum := "447dea3f8af690fc849cd25ac5c64664dd89808397038218f0430c70bfbff959", func := "makeweight/makeweightlaw02.SystemProducts", spec := "systemProducts", inPlace := ["internal/reflectlite.TypeOf", "internal/abi.NoEscape", "internal/bytealg.MakeNoZero", "internal/bytealg.CountString", "internal/bytealg.IndexByteString", "internal/bytealg.IndexString"], unfollowed := true, recurses := true, named := ["makeweight/act.errActions", "makeweight/act.errSet", "makeweight/act.errText", "internal/strconv.uint64pow10", "math/bits.deBruijn32tab", "math/bits.deBruijn64tab", "unicode/utf8.first", "unicode/utf8.acceptRanges", "internal/bytealg.MaxLen", "strconv.ErrSyntax", "strconv.ErrRange"], plainKeys := false, apart := false, laid := [("math/bits.deBruijn32tab", laid_math_bits_deBruijn32tab), ("math/bits.deBruijn64tab", laid_math_bits_deBruijn64tab), ("internal/strconv.uint64pow10", laid_internal_strconv_uint64pow10), ("unicode/utf8.acceptRanges", laid_unicode_utf8_acceptRanges), ("strconv.ErrRange", laid_strconv_ErrRange), ("strconv.ErrSyntax", laid_strconv_ErrSyntax), ("makeweight/act.errActions", laid_makeweight_act_errActions), ("makeweight/act.errSet", laid_makeweight_act_errSet), ("makeweight/act.errText", laid_makeweight_act_errText), ("unicode/utf8.first", laid_unicode_utf8_first)] }
def SystemProductsSaid : Prop := systemProductsRow.holds Tryz.pinned (OpenSpec.ofChange systemProductsSpec)

/-- ITS FALSE NEIGHBOUR: 'it returns false'. Refute it at one input. -/
def systemProductsWrong : ChangeSpec := { name := "systemProducts", fn := fun _ => fun
  | [d1, d2] => { results := [.lit (.bool false)], args := [d1, d2] }
  | _ => none }
def SystemProductsWrongFalsely : Prop := systemProductsRow.holds Tryz.pinned (OpenSpec.ofChange systemProductsWrong)

/-- 'makeweightlaw02.SystemAlike': WHATEVER THE INPUT: true; the input reads as it did. -/
def systemAlikeSpec : ChangeSpec := { name := "systemAlike", fn := fun _ => fun
  | [d1, d2] => { results := [.lit (.bool true)], args := [d1, d2] }
  | _ => none }
def systemAlikeRow : OpenClaim := { program := "ytlnncklanabbdaagreatdoor", sum := "447dea3f8af690fc849cd25ac5c64664dd89808397038218f0430c70bfbff959", func := "makeweight/makeweightlaw02.SystemAlike", spec := "systemAlike", inPlace := ["internal/reflectlite.TypeOf", "internal/abi.NoEscape", "internal/bytealg.MakeNoZero", "internal/bytealg.CountString", "internal/bytealg.IndexByteString", "internal/bytealg.IndexString"], unfollowed := true, recurses := true, named := ["makeweight/act.errActions", "makeweight/act.errSet", "makeweight/act.errText", "internal/strconv.uint64pow10", "math/bits.deBruijn32tab", "math/bits.deBruijn64tab", "unicode/utf8.first", "unicode/utf8.acceptRanges", "internal/bytealg.MaxLen", "strconv.ErrSyntax", "strconv.ErrRange"], plainKeys := false, apart := false, laid := [("math/bits.deBruijn32tab", laid_math_bits_deBruijn32tab), ("math/bits.deBruijn64tab", laid_math_bits_deBruijn64tab), ("internal/strconv.uint64pow10", laid_internal_strconv_uint64pow10), ("unicode/utf8.acceptRanges", laid_unicode_utf8_acceptRanges), ("strconv.ErrRange", laid_strconv_ErrRange), ("strconv.ErrSyntax", laid_strconv_ErrSyntax), ("makeweight/act.errActions", laid_makeweight_act_errActions), ("makeweight/act.errSet", laid_makeweight_act_errSet), ("makeweight/act.errText", laid_makeweight_act_errText), ("unicode/utf8.first", laid_unicode_utf8_first)] }
def SystemAlikeSaid : Prop := systemAlikeRow.holds Tryz.pinned (OpenSpec.ofChange systemAlikeSpec)

/-- ITS FALSE NEIGHBOUR: 'it returns false'. Refute it at one input. -/
def systemAlikeWrong : ChangeSpec := { name := "systemAlike", fn := fun _ => fun
  | [d1, d2] => { results := [.lit (.bool false)], args := [d1, d2] }
  | _ => none }
def SystemAlikeWrongFalsely : Prop := systemAlikeRow.holds Tryz.pinned (OpenSpec.ofChange systemAlikeWrong)

/-- 'makeweightlaw02.SystemPairs': WHATEVER THE INPUT: true; the input reads as it did. -/
def systemPairsSpec : ChangeSpec := { name := "systemPairs", fn := fun _ => fun
  | [d1, d2, d3] => { results := [.lit (.bool true)], args := [d1, d2, d3] }
  | _ => none }
def systemPairsRow : OpenClaim := { program := "ytlnncklanabbdaagreatdoor", sum := "447dea3f8af690fc849cd25ac5c64664dd89808397038218f0430c70bfbff959", func := "makeweight/makeweightlaw02.SystemPairs", spec := "systemPairs", inPlace := ["internal/reflectlite.TypeOf", "internal/abi.NoEscape", "internal/bytealg.MakeNoZero", "internal/bytealg.CountString", "internal/bytealg.IndexByteString", "internal/bytealg.IndexString"], unfollowed := true, recurses := true, named := ["makeweight/act.errActions", "makeweight/act.errSet", "makeweight/act.errText", "internal/strconv.uint64pow10", "math/bits.deBruijn32tab", "math/bits.deBruijn64tab", "unicode/utf8.first", "unicode/utf8.acceptRanges", "internal/bytealg.MaxLen", "strconv.ErrSyntax", "strconv.ErrRange"], plainKeys := false, apart := false, laid := [("math/bits.deBruijn32tab", laid_math_bits_deBruijn32tab), ("math/bits.deBruijn64tab", laid_math_bits_deBruijn64tab), ("internal/strconv.uint64pow10", laid_internal_strconv_uint64pow10), ("unicode/utf8.acceptRanges", laid_unicode_utf8_acceptRanges), ("strconv.ErrRange", laid_strconv_ErrRange), ("strconv.ErrSyntax", laid_strconv_ErrSyntax), ("makeweight/act.errActions", laid_makeweight_act_errActions), ("makeweight/act.errSet", laid_makeweight_act_errSet), ("makeweight/act.errText", laid_makeweight_act_errText), ("unicode/utf8.first", laid_unicode_utf8_first)] }
def SystemPairsSaid : Prop := systemPairsRow.holds Tryz.pinned (OpenSpec.ofChange systemPairsSpec)

/-- ITS FALSE NEIGHBOUR: 'it returns false'. Refute it at one input. -/
def systemPairsWrong : ChangeSpec := { name := "systemPairs", fn := fun _ => fun
  | [d1, d2, d3] => { results := [.lit (.bool false)], args := [d1, d2, d3] }
  | _ => none }
def SystemPairsWrongFalsely : Prop := systemPairsRow.holds Tryz.pinned (OpenSpec.ofChange systemPairsWrong)

/-- 'makeweightlaw02.SystemLeast': WHATEVER THE INPUT: true; the input reads as it did. -/
def systemLeastSpec : ChangeSpec := { name := "systemLeast", fn := fun _ => fun
  | [d] => { results := [.lit (.bool true)], args := [d] }
  | _ => none }
def systemLeastRow : OpenClaim := { program := "ytlnncklanabbdaagreatdoor", sum := "447dea3f8af690fc849cd25ac5c64664dd89808397038218f0430c70bfbff959", func := "makeweight/makeweightlaw02.SystemLeast", spec := "systemLeast", inPlace := ["internal/reflectlite.TypeOf", "internal/abi.NoEscape", "internal/bytealg.MakeNoZero", "internal/bytealg.CountString", "internal/bytealg.IndexByteString", "internal/bytealg.IndexString"], unfollowed := true, recurses := true, named := ["makeweight/act.errActions", "makeweight/act.errSet", "makeweight/act.errText", "internal/strconv.uint64pow10", "math/bits.deBruijn32tab", "math/bits.deBruijn64tab", "unicode/utf8.first", "unicode/utf8.acceptRanges", "internal/bytealg.MaxLen", "strconv.ErrSyntax", "strconv.ErrRange"], plainKeys := false, apart := false, laid := [("math/bits.deBruijn32tab", laid_math_bits_deBruijn32tab), ("math/bits.deBruijn64tab", laid_math_bits_deBruijn64tab), ("internal/strconv.uint64pow10", laid_internal_strconv_uint64pow10), ("unicode/utf8.acceptRanges", laid_unicode_utf8_acceptRanges), ("strconv.ErrRange", laid_strconv_ErrRange), ("strconv.ErrSyntax", laid_strconv_ErrSyntax), ("makeweight/act.errActions", laid_makeweight_act_errActions), ("makeweight/act.errSet", laid_makeweight_act_errSet), ("makeweight/act.errText", laid_makeweight_act_errText), ("unicode/utf8.first", laid_unicode_utf8_first)] }
def SystemLeastSaid : Prop := systemLeastRow.holds Tryz.pinned (OpenSpec.ofChange systemLeastSpec)

/-- ITS FALSE NEIGHBOUR: 'it returns false'. Refute it at one input. -/
def systemLeastWrong : ChangeSpec := { name := "systemLeast", fn := fun _ => fun
  | [d] => { results := [.lit (.bool false)], args := [d] }
  | _ => none }
def SystemLeastWrongFalsely : Prop := systemLeastRow.holds Tryz.pinned (OpenSpec.ofChange systemLeastWrong)

/-- 'makeweightlaw02.SystemOwn': WHATEVER THE INPUT: true; the input reads as it did. -/
def systemOwnSpec : ChangeSpec := { name := "systemOwn", fn := fun _ => fun
  | [d1, d2] => { results := [.lit (.bool true)], args := [d1, d2] }
  | _ => none }
def systemOwnRow : OpenClaim := { program := "ytlnncklanabbdaagreatdoor", sum := "447dea3f8af690fc849cd25ac5c64664dd89808397038218f0430c70bfbff959", func := "makeweight/makeweightlaw02.SystemOwn", spec := "systemOwn", inPlace := ["internal/reflectlite.TypeOf", "internal/abi.NoEscape", "internal/bytealg.MakeNoZero", "internal/bytealg.CountString", "internal/bytealg.IndexByteString", "internal/bytealg.IndexString"], unfollowed := true, recurses := true, named := ["makeweight/act.errActions", "makeweight/act.errSet", "makeweight/act.errText", "internal/strconv.uint64pow10", "math/bits.deBruijn32tab", "math/bits.deBruijn64tab", "unicode/utf8.first", "unicode/utf8.acceptRanges", "internal/bytealg.MaxLen", "strconv.ErrSyntax", "strconv.ErrRange"], plainKeys := false, apart := false, laid := [("math/bits.deBruijn32tab", laid_math_bits_deBruijn32tab), ("math/bits.deBruijn64tab", laid_math_bits_deBruijn64tab), ("internal/strconv.uint64pow10", laid_internal_strconv_uint64pow10), ("unicode/utf8.acceptRanges", laid_unicode_utf8_acceptRanges), ("strconv.ErrRange", laid_strconv_ErrRange), ("strconv.ErrSyntax", laid_strconv_ErrSyntax), ("makeweight/act.errActions", laid_makeweight_act_errActions), ("makeweight/act.errSet", laid_makeweight_act_errSet), ("makeweight/act.errText", laid_makeweight_act_errText), ("unicode/utf8.first", laid_unicode_utf8_first)] }
def SystemOwnSaid : Prop := systemOwnRow.holds Tryz.pinned (OpenSpec.ofChange systemOwnSpec)

/-- ITS FALSE NEIGHBOUR: 'it returns false'. Refute it at one input. -/
def systemOwnWrong : ChangeSpec := { name := "systemOwn", fn := fun _ => fun
  | [d1, d2] => { results := [.lit (.bool false)], args := [d1, d2] }
  | _ => none }
def SystemOwnWrongFalsely : Prop := systemOwnRow.holds Tryz.pinned (OpenSpec.ofChange systemOwnWrong)

/- THE SECOND FORM. 'bulk': how many values and letters a reading holds, each counted each time it is reached (what is shared counts as often as it is met; a slice's spare places count too). A statement '..UptoSaid' is the law's where the arguments, and the package variables that the reading takes, are together of bulk at most 1048576: NARROWER than '..Said'. Prove '..Said' where nothing that the law and all that it calls make is longer than what came in: it says more and counts as full. Else prove '..UptoSaid'. A law counts once. -/
mutual
def uptoBulk {H : Type} : DataW H → Nat
  | .lit (.string bytes) => bytes.length + 1
  | .lit _ => 1
  | .nil => 1
  | .ptr d => uptoBulk d + 1
  | .slice elems spare => uptoBulkAll elems + uptoBulkAll spare + 1
  | .agg parts => uptoBulkAll parts + 1
  | .iface _ d => uptoBulk d + 1
  | .map entries => uptoBulkEntries entries + 1
  | .held _ => 1
def uptoBulkAll {H : Type} : List (DataW H) → Nat
  | [] => 0
  | d :: r => uptoBulk d + uptoBulkAll r
def uptoBulkEntries {H : Type} : List (Lit × DataW H) → Nat
  | [] => 0
  | x :: r => uptoBulkEntry x + uptoBulkEntries r
def uptoBulkEntry {H : Type} : Lit × DataW H → Nat
  | (.string bytes, d) => bytes.length + uptoBulk d + 1
  | (_, d) => uptoBulk d + 1
 end
def uptoSmall : (H : Type) → List (DataW H) → Bool := fun _ ds => decide (uptoBulkAll ds ≤ 1048576)
def OpenSpec.upto (s : _root_.Go.ChangeSpec) : _root_.Go.OpenSpec := { _root_.Go.OpenSpec.ofChange s with cond := some uptoSmall }

/-- 'makeweightlaw02.SystemChecks', WHERE WHAT IT READS IS OF BULK AT MOST 1048576: true; the input reads as it did. -/
def systemChecksUptoRow : OpenClaim := { program := "ytlnncklanabbdaagreatdoor", sum := "447dea3f8af690fc849cd25ac5c64664dd89808397038218f0430c70bfbff959", func := "makeweight/makeweightlaw02.SystemChecks", spec := "systemChecks", inPlace := ["internal/reflectlite.TypeOf", "internal/abi.NoEscape", "internal/bytealg.MakeNoZero", "internal/bytealg.CountString", "internal/bytealg.IndexByteString", "internal/bytealg.IndexString"], unfollowed := true, recurses := true, named := ["makeweight/act.errActions", "makeweight/act.errSet", "makeweight/act.errText", "internal/strconv.uint64pow10", "math/bits.deBruijn32tab", "math/bits.deBruijn64tab", "unicode/utf8.first", "unicode/utf8.acceptRanges", "internal/bytealg.MaxLen", "strconv.ErrSyntax", "strconv.ErrRange"], plainKeys := false, apart := false, laid := [("math/bits.deBruijn32tab", laid_math_bits_deBruijn32tab), ("math/bits.deBruijn64tab", laid_math_bits_deBruijn64tab), ("internal/strconv.uint64pow10", laid_internal_strconv_uint64pow10), ("unicode/utf8.acceptRanges", laid_unicode_utf8_acceptRanges), ("strconv.ErrRange", laid_strconv_ErrRange), ("strconv.ErrSyntax", laid_strconv_ErrSyntax), ("makeweight/act.errActions", laid_makeweight_act_errActions), ("makeweight/act.errSet", laid_makeweight_act_errSet), ("makeweight/act.errText", laid_makeweight_act_errText), ("unicode/utf8.first", laid_unicode_utf8_first)], narrowed := true }
def SystemChecksUptoSaid : Prop := systemChecksUptoRow.holds Tryz.pinned (OpenSpec.upto systemChecksSpec)

/-- 'makeweightlaw02.SystemStrings', WHERE WHAT IT READS IS OF BULK AT MOST 1048576: true; the input reads as it did. -/
def systemStringsUptoRow : OpenClaim := { program := "ytlnncklanabbdaagreatdoor", sum := "447dea3f8af690fc849cd25ac5c64664dd89808397038218f0430c70bfbff959", func := "makeweight/makeweightlaw02.SystemStrings", spec := "systemStrings", inPlace := ["internal/reflectlite.TypeOf", "internal/abi.NoEscape", "internal/bytealg.MakeNoZero", "internal/bytealg.CountString", "internal/bytealg.IndexByteString", "internal/bytealg.IndexString"], unfollowed := true, recurses := true, named := ["makeweight/act.errActions", "makeweight/act.errSet", "makeweight/act.errText", "internal/strconv.uint64pow10", "math/bits.deBruijn32tab", "math/bits.deBruijn64tab", "unicode/utf8.first", "unicode/utf8.acceptRanges", "internal/bytealg.MaxLen", "strconv.ErrSyntax", "strconv.ErrRange"], plainKeys := false, apart := false, laid := [("math/bits.deBruijn32tab", laid_math_bits_deBruijn32tab), ("math/bits.deBruijn64tab", laid_math_bits_deBruijn64tab), ("internal/strconv.uint64pow10", laid_internal_strconv_uint64pow10), ("unicode/utf8.acceptRanges", laid_unicode_utf8_acceptRanges), ("strconv.ErrRange", laid_strconv_ErrRange), ("strconv.ErrSyntax", laid_strconv_ErrSyntax), ("makeweight/act.errActions", laid_makeweight_act_errActions), ("makeweight/act.errSet", laid_makeweight_act_errSet), ("makeweight/act.errText", laid_makeweight_act_errText), ("unicode/utf8.first", laid_unicode_utf8_first)], narrowed := true }
def SystemStringsUptoSaid : Prop := systemStringsUptoRow.holds Tryz.pinned (OpenSpec.upto systemStringsSpec)

/-- 'makeweightlaw02.SystemBack', WHERE WHAT IT READS IS OF BULK AT MOST 1048576: true; the input reads as it did. -/
def systemBackUptoRow : OpenClaim := { program := "ytlnncklanabbdaagreatdoor", sum := "447dea3f8af690fc849cd25ac5c64664dd89808397038218f0430c70bfbff959", func := "makeweight/makeweightlaw02.SystemBack", spec := "systemBack", inPlace := ["internal/reflectlite.TypeOf", "internal/abi.NoEscape", "internal/bytealg.MakeNoZero", "internal/bytealg.CountString", "internal/bytealg.IndexByteString", "internal/bytealg.IndexString"], unfollowed := true, recurses := true, named := ["makeweight/act.errActions", "makeweight/act.errSet", "makeweight/act.errText", "internal/strconv.uint64pow10", "math/bits.deBruijn32tab", "math/bits.deBruijn64tab", "unicode/utf8.first", "unicode/utf8.acceptRanges", "internal/bytealg.MaxLen", "strconv.ErrSyntax", "strconv.ErrRange"], plainKeys := false, apart := false, laid := [("math/bits.deBruijn32tab", laid_math_bits_deBruijn32tab), ("math/bits.deBruijn64tab", laid_math_bits_deBruijn64tab), ("internal/strconv.uint64pow10", laid_internal_strconv_uint64pow10), ("unicode/utf8.acceptRanges", laid_unicode_utf8_acceptRanges), ("strconv.ErrRange", laid_strconv_ErrRange), ("strconv.ErrSyntax", laid_strconv_ErrSyntax), ("makeweight/act.errActions", laid_makeweight_act_errActions), ("makeweight/act.errSet", laid_makeweight_act_errSet), ("makeweight/act.errText", laid_makeweight_act_errText), ("unicode/utf8.first", laid_unicode_utf8_first)], narrowed := true }
def SystemBackUptoSaid : Prop := systemBackUptoRow.holds Tryz.pinned (OpenSpec.upto systemBackSpec)

/-- 'makeweightlaw02.SystemSteps', WHERE WHAT IT READS IS OF BULK AT MOST 1048576: true; the input reads as it did. -/
def systemStepsUptoRow : OpenClaim := { program := "ytlnncklanabbdaagreatdoor", sum := "447dea3f8af690fc849cd25ac5c64664dd89808397038218f0430c70bfbff959", func := "makeweight/makeweightlaw02.SystemSteps", spec := "systemSteps", inPlace := ["internal/reflectlite.TypeOf", "internal/abi.NoEscape", "internal/bytealg.MakeNoZero", "internal/bytealg.CountString", "internal/bytealg.IndexByteString", "internal/bytealg.IndexString"], unfollowed := true, recurses := true, named := ["makeweight/act.errActions", "makeweight/act.errSet", "makeweight/act.errText", "internal/strconv.uint64pow10", "math/bits.deBruijn32tab", "math/bits.deBruijn64tab", "unicode/utf8.first", "unicode/utf8.acceptRanges", "internal/bytealg.MaxLen", "strconv.ErrSyntax", "strconv.ErrRange"], plainKeys := false, apart := false, laid := [("math/bits.deBruijn32tab", laid_math_bits_deBruijn32tab), ("math/bits.deBruijn64tab", laid_math_bits_deBruijn64tab), ("internal/strconv.uint64pow10", laid_internal_strconv_uint64pow10), ("unicode/utf8.acceptRanges", laid_unicode_utf8_acceptRanges), ("strconv.ErrRange", laid_strconv_ErrRange), ("strconv.ErrSyntax", laid_strconv_ErrSyntax), ("makeweight/act.errActions", laid_makeweight_act_errActions), ("makeweight/act.errSet", laid_makeweight_act_errSet), ("makeweight/act.errText", laid_makeweight_act_errText), ("unicode/utf8.first", laid_unicode_utf8_first)], narrowed := true }
def SystemStepsUptoSaid : Prop := systemStepsUptoRow.holds Tryz.pinned (OpenSpec.upto systemStepsSpec)

/-- 'makeweightlaw02.SystemParts', WHERE WHAT IT READS IS OF BULK AT MOST 1048576: true; the input reads as it did. -/
def systemPartsUptoRow : OpenClaim := { program := "ytlnncklanabbdaagreatdoor", sum := "447dea3f8af690fc849cd25ac5c64664dd89808397038218f0430c70bfbff959", func := "makeweight/makeweightlaw02.SystemParts", spec := "systemParts", inPlace := ["internal/reflectlite.TypeOf", "internal/abi.NoEscape", "internal/bytealg.MakeNoZero", "internal/bytealg.CountString", "internal/bytealg.IndexByteString", "internal/bytealg.IndexString"], unfollowed := true, recurses := true, named := ["makeweight/act.errActions", "makeweight/act.errSet", "makeweight/act.errText", "internal/strconv.uint64pow10", "math/bits.deBruijn32tab", "math/bits.deBruijn64tab", "unicode/utf8.first", "unicode/utf8.acceptRanges", "internal/bytealg.MaxLen", "strconv.ErrSyntax", "strconv.ErrRange"], plainKeys := false, apart := false, laid := [("math/bits.deBruijn32tab", laid_math_bits_deBruijn32tab), ("math/bits.deBruijn64tab", laid_math_bits_deBruijn64tab), ("internal/strconv.uint64pow10", laid_internal_strconv_uint64pow10), ("unicode/utf8.acceptRanges", laid_unicode_utf8_acceptRanges), ("strconv.ErrRange", laid_strconv_ErrRange), ("strconv.ErrSyntax", laid_strconv_ErrSyntax), ("makeweight/act.errActions", laid_makeweight_act_errActions), ("makeweight/act.errSet", laid_makeweight_act_errSet), ("makeweight/act.errText", laid_makeweight_act_errText), ("unicode/utf8.first", laid_unicode_utf8_first)], narrowed := true }
def SystemPartsUptoSaid : Prop := systemPartsUptoRow.holds Tryz.pinned (OpenSpec.upto systemPartsSpec)

/-- 'makeweightlaw02.SystemProducts', WHERE WHAT IT READS IS OF BULK AT MOST 1048576: true; the input reads as it did. -/
def systemProductsUptoRow : OpenClaim := { program := "ytlnncklanabbdaagreatdoor", sum := "447dea3f8af690fc849cd25ac5c64664dd89808397038218f0430c70bfbff959", func := "makeweight/makeweightlaw02.SystemProducts", spec := "systemProducts", inPlace := ["internal/reflectlite.TypeOf", "internal/abi.NoEscape", "internal/bytealg.MakeNoZero", "internal/bytealg.CountString", "internal/bytealg.IndexByteString", "internal/bytealg.IndexString"], unfollowed := true, recurses := true, named := ["makeweight/act.errActions", "makeweight/act.errSet", "makeweight/act.errText", "internal/strconv.uint64pow10", "math/bits.deBruijn32tab", "math/bits.deBruijn64tab", "unicode/utf8.first", "unicode/utf8.acceptRanges", "internal/bytealg.MaxLen", "strconv.ErrSyntax", "strconv.ErrRange"], plainKeys := false, apart := false, laid := [("math/bits.deBruijn32tab", laid_math_bits_deBruijn32tab), ("math/bits.deBruijn64tab", laid_math_bits_deBruijn64tab), ("internal/strconv.uint64pow10", laid_internal_strconv_uint64pow10), ("unicode/utf8.acceptRanges", laid_unicode_utf8_acceptRanges), ("strconv.ErrRange", laid_strconv_ErrRange), ("strconv.ErrSyntax", laid_strconv_ErrSyntax), ("makeweight/act.errActions", laid_makeweight_act_errActions), ("makeweight/act.errSet", laid_makeweight_act_errSet), ("makeweight/act.errText", laid_makeweight_act_errText), ("unicode/utf8.first", laid_unicode_utf8_first)], narrowed := true }
def SystemProductsUptoSaid : Prop := systemProductsUptoRow.holds Tryz.pinned (OpenSpec.upto systemProductsSpec)

/-- 'makeweightlaw02.SystemAlike', WHERE WHAT IT READS IS OF BULK AT MOST 1048576: true; the input reads as it did. -/
def systemAlikeUptoRow : OpenClaim := { program := "ytlnncklanabbdaagreatdoor", sum := "447dea3f8af690fc849cd25ac5c64664dd89808397038218f0430c70bfbff959", func := "makeweight/makeweightlaw02.SystemAlike", spec := "systemAlike", inPlace := ["internal/reflectlite.TypeOf", "internal/abi.NoEscape", "internal/bytealg.MakeNoZero", "internal/bytealg.CountString", "internal/bytealg.IndexByteString", "internal/bytealg.IndexString"], unfollowed := true, recurses := true, named := ["makeweight/act.errActions", "makeweight/act.errSet", "makeweight/act.errText", "internal/strconv.uint64pow10", "math/bits.deBruijn32tab", "math/bits.deBruijn64tab", "unicode/utf8.first", "unicode/utf8.acceptRanges", "internal/bytealg.MaxLen", "strconv.ErrSyntax", "strconv.ErrRange"], plainKeys := false, apart := false, laid := [("math/bits.deBruijn32tab", laid_math_bits_deBruijn32tab), ("math/bits.deBruijn64tab", laid_math_bits_deBruijn64tab), ("internal/strconv.uint64pow10", laid_internal_strconv_uint64pow10), ("unicode/utf8.acceptRanges", laid_unicode_utf8_acceptRanges), ("strconv.ErrRange", laid_strconv_ErrRange), ("strconv.ErrSyntax", laid_strconv_ErrSyntax), ("makeweight/act.errActions", laid_makeweight_act_errActions), ("makeweight/act.errSet", laid_makeweight_act_errSet), ("makeweight/act.errText", laid_makeweight_act_errText), ("unicode/utf8.first", laid_unicode_utf8_first)], narrowed := true }
def SystemAlikeUptoSaid : Prop := systemAlikeUptoRow.holds Tryz.pinned (OpenSpec.upto systemAlikeSpec)

/-- 'makeweightlaw02.SystemPairs', WHERE WHAT IT READS IS OF BULK AT MOST 1048576: true; the input reads as it did. -/
def systemPairsUptoRow : OpenClaim := { program := "ytlnncklanabbdaagreatdoor", sum := "447dea3f8af690fc849cd25ac5c64664dd89808397038218f0430c70bfbff959", func := "makeweight/makeweightlaw02.SystemPairs", spec := "systemPairs", inPlace := ["internal/reflectlite.TypeOf", "internal/abi.NoEscape", "internal/bytealg.MakeNoZero", "internal/bytealg.CountString", "internal/bytealg.IndexByteString", "internal/bytealg.IndexString"], unfollowed := true, recurses := true, named := ["makeweight/act.errActions", "makeweight/act.errSet", "makeweight/act.errText", "internal/strconv.uint64pow10", "math/bits.deBruijn32tab", "math/bits.deBruijn64tab", "unicode/utf8.first", "unicode/utf8.acceptRanges", "internal/bytealg.MaxLen", "strconv.ErrSyntax", "strconv.ErrRange"], plainKeys := false, apart := false, laid := [("math/bits.deBruijn32tab", laid_math_bits_deBruijn32tab), ("math/bits.deBruijn64tab", laid_math_bits_deBruijn64tab), ("internal/strconv.uint64pow10", laid_internal_strconv_uint64pow10), ("unicode/utf8.acceptRanges", laid_unicode_utf8_acceptRanges), ("strconv.ErrRange", laid_strconv_ErrRange), ("strconv.ErrSyntax", laid_strconv_ErrSyntax), ("makeweight/act.errActions", laid_makeweight_act_errActions), ("makeweight/act.errSet", laid_makeweight_act_errSet), ("makeweight/act.errText", laid_makeweight_act_errText), ("unicode/utf8.first", laid_unicode_utf8_first)], narrowed := true }
def SystemPairsUptoSaid : Prop := systemPairsUptoRow.holds Tryz.pinned (OpenSpec.upto systemPairsSpec)

/-- 'makeweightlaw02.SystemLeast', WHERE WHAT IT READS IS OF BULK AT MOST 1048576: true; the input reads as it did. -/
def systemLeastUptoRow : OpenClaim := { program := "ytlnncklanabbdaagreatdoor", sum := "447dea3f8af690fc849cd25ac5c64664dd89808397038218f0430c70bfbff959", func := "makeweight/makeweightlaw02.SystemLeast", spec := "systemLeast", inPlace := ["internal/reflectlite.TypeOf", "internal/abi.NoEscape", "internal/bytealg.MakeNoZero", "internal/bytealg.CountString", "internal/bytealg.IndexByteString", "internal/bytealg.IndexString"], unfollowed := true, recurses := true, named := ["makeweight/act.errActions", "makeweight/act.errSet", "makeweight/act.errText", "internal/strconv.uint64pow10", "math/bits.deBruijn32tab", "math/bits.deBruijn64tab", "unicode/utf8.first", "unicode/utf8.acceptRanges", "internal/bytealg.MaxLen", "strconv.ErrSyntax", "strconv.ErrRange"], plainKeys := false, apart := false, laid := [("math/bits.deBruijn32tab", laid_math_bits_deBruijn32tab), ("math/bits.deBruijn64tab", laid_math_bits_deBruijn64tab), ("internal/strconv.uint64pow10", laid_internal_strconv_uint64pow10), ("unicode/utf8.acceptRanges", laid_unicode_utf8_acceptRanges), ("strconv.ErrRange", laid_strconv_ErrRange), ("strconv.ErrSyntax", laid_strconv_ErrSyntax), ("makeweight/act.errActions", laid_makeweight_act_errActions), ("makeweight/act.errSet", laid_makeweight_act_errSet), ("makeweight/act.errText", laid_makeweight_act_errText), ("unicode/utf8.first", laid_unicode_utf8_first)], narrowed := true }
def SystemLeastUptoSaid : Prop := systemLeastUptoRow.holds Tryz.pinned (OpenSpec.upto systemLeastSpec)

/-- 'makeweightlaw02.SystemOwn', WHERE WHAT IT READS IS OF BULK AT MOST 1048576: true; the input reads as it did. -/
def systemOwnUptoRow : OpenClaim := { program := "ytlnncklanabbdaagreatdoor", sum := "447dea3f8af690fc849cd25ac5c64664dd89808397038218f0430c70bfbff959", func := "makeweight/makeweightlaw02.SystemOwn", spec := "systemOwn", inPlace := ["internal/reflectlite.TypeOf", "internal/abi.NoEscape", "internal/bytealg.MakeNoZero", "internal/bytealg.CountString", "internal/bytealg.IndexByteString", "internal/bytealg.IndexString"], unfollowed := true, recurses := true, named := ["makeweight/act.errActions", "makeweight/act.errSet", "makeweight/act.errText", "internal/strconv.uint64pow10", "math/bits.deBruijn32tab", "math/bits.deBruijn64tab", "unicode/utf8.first", "unicode/utf8.acceptRanges", "internal/bytealg.MaxLen", "strconv.ErrSyntax", "strconv.ErrRange"], plainKeys := false, apart := false, laid := [("math/bits.deBruijn32tab", laid_math_bits_deBruijn32tab), ("math/bits.deBruijn64tab", laid_math_bits_deBruijn64tab), ("internal/strconv.uint64pow10", laid_internal_strconv_uint64pow10), ("unicode/utf8.acceptRanges", laid_unicode_utf8_acceptRanges), ("strconv.ErrRange", laid_strconv_ErrRange), ("strconv.ErrSyntax", laid_strconv_ErrSyntax), ("makeweight/act.errActions", laid_makeweight_act_errActions), ("makeweight/act.errSet", laid_makeweight_act_errSet), ("makeweight/act.errText", laid_makeweight_act_errText), ("unicode/utf8.first", laid_unicode_utf8_first)], narrowed := true }
def SystemOwnUptoSaid : Prop := systemOwnUptoRow.holds Tryz.pinned (OpenSpec.upto systemOwnSpec)

end Rows
end Go.Proofs.YtlnncklanabbdaaGreatDoor
