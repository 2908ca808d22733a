/- spec.Same, and what it calls. -/
import Derived.Test.YtpmbijlldoiplaaGreatDoorSpec
import Derived.Test.YtpmbijlldoiplaaGreatDoorOwnKit
namespace Go.Proofs.YtpmbijlldoiplaaGreatDoor
open Go.RowKit Pl

theorem ints_ext {xs ys : List Int} (h : xs.length = ys.length) (h' : ∀ j, j < xs.length → xs.getD j 0 = ys.getD j 0) : xs = ys := by
  refine List.ext_getElem h fun j hj hj' => ?_
  have := h' j hj
  simpa [List.getD, List.getElem?_eq_getElem hj, List.getElem?_eq_getElem hj'] using this
theorem stes_ext {l m : List Ste} (h : l.length = m.length) (h' : ∀ k, k < l.length → teAt l k = teAt m k) : l = m := by
  refine List.ext_getElem h fun k hk hk' => ?_
  have := h' k hk
  unfold teAt at this
  rwa [List.getD_eq_getElem?_getD, List.getD_eq_getElem?_getD, List.getElem?_eq_getElem hk, List.getElem?_eq_getElem hk', Option.getD_some, Option.getD_some] at this
def sameP (s t : Spc) : Bool := decide (s.acts = t.acts) && decide (s.states = t.states)
theorem sameP_iff (s t : Spc) : sameP s t = true ↔ s = t := by
  cases s; cases t; simp [sameP]

end Go.Proofs.YtpmbijlldoiplaaGreatDoor
