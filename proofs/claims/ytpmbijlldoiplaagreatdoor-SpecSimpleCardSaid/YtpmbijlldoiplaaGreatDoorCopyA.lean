/- The reference's Copy, as an argument of another call. -/
import Derived.Test.YtpmbijlldoiplaaGreatDoorCopy
namespace Go.Proofs.YtpmbijlldoiplaaGreatDoor
open Go.RowKit Pl

/-- a copy, as an argument of another call -/
theorem CopyA_any {w : World} {a : Option Addr} {n c : Nat} {b : Option Addr} {k d : Nat} {m : Syst} (A : SysArg w a n c b k d m) (hq : m.acts.length + m.states.length + total m.states ≤ 1000000) :
    Calls Tryz.prog 13 #[.agg #[.slice a n c, .slice b k d]] w fun e w' => ∃ a2 c2 b2 d2, e = .returned (.agg #[.slice a2 m.acts.length c2, .slice b2 m.states.length d2]) ∧ SysArg w' a2 m.acts.length c2 b2 m.states.length d2 m ∧ Below w.heap.size w w' := by
  refine (Copy_any A hq).mono ?_
  rintro e w2 ⟨va, vs, rfl, hO, hb2⟩
  obtain ⟨a2, c2, b2, d2, rfl, rfl, hA2⟩ := hO.arg (by omega) (by omega) (fun i hi => by have := total_take_le m.states (i + 1); have := total_take m.states i hi; omega) (fun k hk => A.acts.sz k (by have := A.acts.len; omega))
  exact ⟨a2, c2, b2, d2, rfl, hA2, hb2⟩
end Go.Proofs.YtpmbijlldoiplaaGreatDoor
