/- The reference's IsRelation. -/
import Derived.Test.YtgnbkepdbdgkdaaGreatDoorRelPlL
import Derived.Test.YtgnbkepdbdgkdaaGreatDoorJq18
import Derived.BigQuiet
import Derived.StillTailTactics
namespace Go.Proofs.YtgnbkepdbdgkdaaGreatDoor
open Go.RowKit Pl

/-- where the table of the pairs stands -/
structure MkAt (w0 wr : World) (g k k' : Nat) (bl : List Nat) (F : Mat) : Prop where
  rel : RelAt wr w0.heap.size g k k' bl F
  below : Below w0.heap.size w0 wr
theorem MkAt.up {w0 wr wA : World} {g k k' : Nat} {bl : List Nat} {F : Mat} (h : MkAt w0 wr g k k' bl F) (hb : Below wr.heap.size wr wA) : MkAt w0 wA g k k' bl F :=
  ⟨h.rel.below hb, h.below.trans (hb.mono h.below.size)⟩
theorem MkAt.mark {w0 wr : World} {g k k' : Nat} {bl : List Nat} {F : Mat} (h : MkAt w0 wr g k k' bl F) {x y : Nat} (hx : x < k) (hy : y < k') : MkAt w0 (wr.setCell ⟨bl.getD x 0, y, none⟩ (.bool true)) g k k' bl (setF F x y) :=
  ⟨h.rel.set hx hy, h.below.setCell (show w0.heap.size ≤ bl.getD x 0 from own_ge (h.rel.rows x hx) _ rfl) _⟩
theorem edAt_get {L : List Edg} {r : Nat} (h : r < L.length) : L[r]? = some (edAt L r) := by simp [edAt, List.getD, h]

end Go.Proofs.YtgnbkepdbdgkdaaGreatDoor
