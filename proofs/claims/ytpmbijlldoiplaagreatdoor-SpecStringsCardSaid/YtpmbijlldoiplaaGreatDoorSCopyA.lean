/- The reference's Copy of specifications, as an argument of another call. -/
import Derived.Test.YtpmbijlldoiplaaGreatDoorSCopy
namespace Go.Proofs.YtpmbijlldoiplaaGreatDoor
open Go.RowKit Pl

theorem SCopyA_any {w : World} {a : Option Addr} {n c : Nat} {b : Option Addr} {k d : Nat} {s : Spc} (A : SpecArg w a n c b k d s) (hq : s.acts.length + s.states.length + totalS s.states ≤ 1000000) :
    Calls Tryz.prog 22 #[.agg #[.slice a n c, .slice b k d]] w fun e w' => ∃ a2 c2 b2 d2, e = .returned (.agg #[.slice a2 s.acts.length c2, .slice b2 s.states.length d2]) ∧ SpecArg w' a2 s.acts.length c2 b2 s.states.length d2 s ∧ Below w.heap.size w w' := by
  refine (SCopy_any A hq).mono ?_
  rintro e w2 ⟨va, vs, rfl, hO, hb2⟩
  obtain ⟨a2, c2, b2, d2, rfl, rfl, hA2⟩ := hO.arg (by omega) (by omega) (fun i hi => by
    obtain ⟨_, _, _, _, _, _, _, _, _, _, _, h1, h2⟩ := A.rows i hi
    exact ⟨h1.fits, h2.fits⟩) (fun k hk => A.acts.sz k (by have := A.acts.len; omega))
  exact ⟨a2, c2, b2, d2, rfl, hA2, hb2⟩
end Go.Proofs.YtpmbijlldoiplaaGreatDoor
