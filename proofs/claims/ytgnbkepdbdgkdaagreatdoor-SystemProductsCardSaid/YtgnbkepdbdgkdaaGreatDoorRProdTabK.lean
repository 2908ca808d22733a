/- The reference's Product: its table of places, and what its loops hold. -/
import Derived.Test.YtgnbkepdbdgkdaaGreatDoorSortedK
import Derived.Test.YtgnbkepdbdgkdaaGreatDoorJq30
import Derived.Test.YtgnbkepdbdgkdaaGreatDoorJq17
namespace Go.Proofs.YtgnbkepdbdgkdaaGreatDoor
open Go.RowKit Pl

theorem infoRowI : (Tryz.prog.info? 28).map (fun i => (i.zero, i.size, i.bytes)) = some (some (.slice none 0 0), 1, 24) := by kernel_rfl
/-- a table of numbers in the call's own memory -/
structure PlAt (W : World) (B g a b : Nat) (bl : List Nat) (F : Nat → Nat → Nat) : Prop where
  len : bl.length = a
  nod : ∀ x y, x < a → y < a → bl.getD x 0 = bl.getD y 0 → x = y
  outer : W.ownsRow B 28 1 (.slice (some ⟨g, 0, none⟩) a a) a (bl.map (rowV b))
  rows : ∀ x, x < a → W.ownsRow B 3 1 (rowV b (bl.getD x 0)) b (rowF b fun y => .int .i64 (F x y : Nat))
section
variable {W W' : World} {B g a b : Nat} {bl : List Nat} {F F' : Nat → Nat → Nat}
theorem PlAt.below (h : PlAt W B g a b bl F) (hb : Below W.heap.size W W') : PlAt W' B g a b bl F :=
  ⟨h.len, h.nod, own_up' h.outer hb, fun x hx => own_up' (h.rows x hx) hb⟩
theorem PlAt.cells (h : PlAt W B g a b bl F) {x y : Nat} (hx : x < a) (hy : y < b) :
    W.cell? ⟨g, x, none⟩ = some (rowV b (bl.getD x 0)) ∧ W.cell? ⟨bl.getD x 0, y, none⟩ = some (.int .i64 (F x y : Nat)) ∧ W.frozen? ⟨bl.getD x 0, y, none⟩ = false := by
  refine ⟨?_, ?_, (h.rows x hx).frozenAt y⟩
  · rw [h.outer.cellAt x (by omega), List.getElem?_map, List.getElem?_eq_getElem (by rw [h.len]; exact hx), List.getD_eq_getElem?_getD, List.getElem?_eq_getElem (by rw [h.len]; exact hx)]
    rfl
  · rw [(h.rows x hx).cellAt y (by omega), rowF_at _ hy]
theorem PlAt.kept {row : Option Nat} (h : PlAt W B g a b bl F) (hg : W.grownBy W' row) (h1 : some g ≠ row) (h2 : ∀ x, x < a → some (bl.getD x 0) ≠ row) : PlAt W' B g a b bl F :=
  ⟨h.len, h.nod, h.outer.kept hg (.inr h1), fun x hx => (h.rows x hx).kept hg (.inr (h2 x hx))⟩
theorem PlAt.set (h : PlAt W B g a b bl F) {x y : Nat} (hx : x < a) (hy : y < b) (v : Nat) (hF : ∀ z u, F' z u = if z = x ∧ u = y then v else F z u) : PlAt (W.setCell ⟨bl.getD x 0, y, none⟩ (.int .i64 (v : Nat))) B g a b bl F' := by
  have h1 := (h.rows x hx).stored y (.int .i64 (v : Nat))
  refine ⟨h.len, h.nod, h.outer.kept h1.2 (own_apart h.outer (h.rows x hx) (by decide)), fun z hz => ?_⟩
  by_cases e : z = x
  · subst e
    have h2 := h1.1
    rw [rowF_set _ _ hy] at h2
    rwa [rowF_congr (G := fun u => .int .i64 (F' z u : Nat)) (fun u _ => by rw [hF]; by_cases e9 : u = y <;> simp [e9])] at h2
  · have h2 := (h.rows z hz).kept h1.2 (.inr fun q => e (h.nod z x hz hx (by simp only [rowV, Value.ownBlock, Option.some.injEq] at q; exact q)))
    rwa [rowF_congr (G := fun u => .int .i64 (F' z u : Nat)) (fun u _ => by rw [hF, if_neg (fun q => e q.1)])] at h2
theorem PlAt.congr (h : PlAt W B g a b bl F) (hF : ∀ z u, z < a → u < b → F' z u = F z u) : PlAt W B g a b bl F' :=
  ⟨h.len, h.nod, h.outer, fun x hx => by
    have h2 := h.rows x hx
    rwa [rowF_congr (G := fun u => .int .i64 (F' x u : Nat)) (fun u hu => by rw [hF x u hx hu])] at h2⟩
theorem PlAt.inner (h : PlAt W B g a b bl F) {x : Nat} (hx : x < a) : B ≤ bl.getD x 0 ∧ bl.getD x 0 < W.heap.size := (h.rows x hx).lt _ rfl
end
/-- where the table is made, behind x rows -/
structure MkPl (w W : World) (g k b : Nat) (x : Nat) (bl : List Nat) : Prop where
  len : bl.length = x
  nod : ∀ y z, y < x → z < x → bl.getD y 0 = bl.getD z 0 → y = z
  outer : W.ownsRow w.heap.size 28 1 (.slice (some ⟨g, 0, none⟩) k k) k (bl.map (rowV b) ++ List.replicate (k - x) (.slice none 0 0))
  rows : ∀ y, y < x → W.ownsRow w.heap.size 3 1 (rowV b (bl.getD y 0)) b (rowF b fun _ => .int .i64 0)
  below : Below w.heap.size w W
theorem MkPl.next {w W W' : World} {g k b x : Nat} {bl : List Nat} (h : MkPl w W g k b x bl) (hx : x < k) (hrow : W'.ownsRow w.heap.size 3 1 (rowV b W.heap.size) b (rowF b fun _ => .int .i64 0)) (hg : W.grownBy W' none) :
    MkPl w (W'.setCell ⟨g, x, none⟩ (rowV b W.heap.size)) g k b (x + 1) (bl ++ [W.heap.size]) := by
  have ho := h.outer.kept hg (.inr (by simp [Value.ownBlock]))
  have hst := ho.stored x (rowV b W.heap.size)
  rw [set_next _ k x _ _ (by rw [List.length_map]; exact h.len) hx] at hst
  have hold : ∀ y, y < x → bl.getD y 0 < W.heap.size := fun y hy => ((h.rows y hy).lt _ rfl).2
  have hgl : ∀ y, y < x → (bl ++ [W.heap.size]).getD y 0 = bl.getD y 0 := fun y hy => by
    rw [List.getD_eq_getElem?_getD, List.getElem?_append_left (by rw [h.len]; exact hy), ← List.getD_eq_getElem?_getD]
  have hgx : (bl ++ [W.heap.size]).getD x 0 = W.heap.size := by
    rw [List.getD_eq_getElem?_getD, List.getElem?_append_right (by rw [h.len]; exact Nat.le_refl _), h.len, Nat.sub_self]; rfl
  refine ⟨by simp [h.len], fun y z hy hz e => ?_, ?_, fun y hy => ?_, ((h.below.grown hg h.below.size (fun q hq => by cases hq))).setCell (p := ⟨g, x, none⟩) (by have := own_ge h.outer g rfl; simpa using this) _⟩
  · by_cases e1 : y < x
    · by_cases e2 : z < x
      · rw [hgl y e1, hgl z e2] at e; exact h.nod y z e1 e2 e
      · obtain rfl : z = x := by omega
        rw [hgl y e1, hgx] at e; have := hold y e1; omega
    · obtain rfl : y = x := by omega
      by_cases e2 : z < y
      · rw [hgl z e2, hgx] at e; have := hold z e2; omega
      · omega
  · rw [List.map_append]; exact hst.1
  · by_cases e1 : y < x
    · rw [hgl y e1]
      exact ((h.rows y e1).kept hg (.inr (by simp [Value.ownBlock, rowV]))).kept hst.2 (own_apart ((h.rows y e1).kept hg (.inr (by simp [Value.ownBlock, rowV]))) ho (by decide))
    · obtain rfl : y = x := by omega
      rw [hgx]
      exact hrow.kept hst.2 (own_apart hrow ho (by decide))
theorem MkPl.done {w W : World} {g k b : Nat} {bl : List Nat} (h : MkPl w W g k b k bl) : PlAt W w.heap.size g k b bl (fun _ _ => 0) :=
  ⟨h.len, h.nod, by simpa using h.outer, h.rows⟩
end Go.Proofs.YtgnbkepdbdgkdaaGreatDoor
