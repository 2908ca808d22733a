/- SpecChecks, whole: its awake returns true. -/
import Derived.Test.YtfggahkjjmfkiaaGreatDoorSChks
import Derived.Test.YtfggahkjjmfkiaaGreatDoorJoinD
namespace Go.Proofs.YtfggahkjjmfkiaaGreatDoor
open Go.RowKit Pl
theorem SpecChecks_any {w : World} (E : Env w) (T : Tab w) {a : Option Addr} {n c : Nat} {b : Option Addr} {k d : Nat} {m : Spc} {a' : Option Addr} {n' c' : Nat} {b' : Option Addr} {k' d' : Nat} {m' : Spc} (A : SpecArg w a n c b k d m) (A' : SpecArg w a' n' c' b' k' d' m') :
    Calls Tryz.prog 3 #[.agg #[.slice a n c, .slice b k d], .agg #[.slice a' n' c', .slice b' k' d']] w fun e w' => e = .returned (.bool true) ∧ Below w.heap.size w w' := by
  obtain ⟨e0, e1, e2, hE⟩ := E.errs
  exact SpecChecks_aw hE (Lib.hid fun W hb => awakeS_any (E.below hb) (T.below hb)) A A'
end Go.Proofs.YtfggahkjjmfkiaaGreatDoor
