/- SpecWords, whole: its awake returns true. -/
import Derived.Test.YtfggahkjjmfkiaaGreatDoorJoinG
import Derived.Test.YtfggahkjjmfkiaaGreatDoorJoinD
namespace Go.Proofs.YtfggahkjjmfkiaaGreatDoor
open Go.RowKit Pl
theorem SpecWords_any {w : World} (E : Env w) (T : Tab w) {a : Option Addr} {n c : Nat} {b : Option Addr} {k d : Nat} {s : Spc} {wa : Option Addr} {wn wc : Nat} {word : List Int} (A : SpecArg w a n c b k d s) (L : NumsArg w wa wn wc word) :
    Calls Tryz.prog 6 #[.agg #[.slice a n c, .slice b k d], .slice wa wn wc] w fun e w' => e = .returned (.bool true) ∧ Below w.heap.size w w' := by
  obtain ⟨e0, e1, e2, hE⟩ := E.errs
  exact SpecWords_aw hE (Lib.hid fun W hb => awakeS_any (E.below hb) (T.below hb)) A L
end Go.Proofs.YtfggahkjjmfkiaaGreatDoor
