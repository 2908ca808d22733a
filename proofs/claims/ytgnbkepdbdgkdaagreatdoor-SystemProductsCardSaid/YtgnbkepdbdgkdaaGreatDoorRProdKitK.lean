/- What the loops of the reference's Product hold, and its steps. -/
import Derived.Test.YtgnbkepdbdgkdaaGreatDoorRProdTabK
namespace Go.Proofs.YtgnbkepdbdgkdaaGreatDoor
open Go.RowKit Pl

/-! ### plain: as far as the two loops over edges have come -/
def jQ (l k : List Edg) (t u : Nat) : List Jn := jntR (l.take t) k ++ rRow (edAt l t) (k.take u)
theorem jQ_yes {l k : List Edg} {t u : Nat} (h : u < k.length) (he : (edAt k u).1 = (edAt l t).1) : jQ l k t (u + 1) = jQ l k t u ++ [((edAt l t).1, ((edAt l t).2.toNat, (edAt k u).2.toNat))] := by
  unfold jQ
  rw [rRow_yes h he, List.append_assoc]
theorem jQ_no {l k : List Edg} {t u : Nat} (h : u < k.length) (he : (edAt k u).1 ≠ (edAt l t).1) : jQ l k t (u + 1) = jQ l k t u := by
  unfold jQ
  rw [rRow_no h he]
theorem jQ_zero (l k : List Edg) (t : Nat) : jQ l k t 0 = jntR (l.take t) k := by
  unfold jQ
  simp [rRow]
theorem jQ_row {l k : List Edg} {t : Nat} (h : t < l.length) : jQ l k t k.length = jQ l k (t + 1) 0 := by
  rw [jQ_zero, jntR_next h]
  unfold jQ
  rw [List.take_length]
theorem jQ_all (l k : List Edg) : jQ l k l.length 0 = jntR l k := by rw [jQ_zero, List.take_length]
theorem jQ_pre {l k : List Edg} {t : Nat} (h : t < l.length) (u : Nat) : ∃ r, jntR l k = jQ l k t u ++ r := by
  obtain ⟨r1, h1⟩ := rRow_pre (d := edAt l t) (k := k) u
  obtain ⟨r2, h2⟩ := jntR_pre (l := l) (k := k) (t + 1)
  refine ⟨r1 ++ r2, ?_⟩
  rw [h2, jntR_next h, h1]
  unfold jQ
  simp
theorem prE_mono (L : List P2) (a r : List Jn) : (prE L a).length ≤ (prE L (a ++ r)).length := by
  rw [prE_app]
  exact (prE_pre r _).length_le
theorem edAt_mem {l : List Edg} {t : Nat} (h : t < l.length) : edAt l t ∈ l := by
  have e : edAt l t = l[t] := by simp [edAt, List.getD, h]
  rw [e]
  exact List.getElem_mem h
theorem mask_low {z : Int} (h : 0 ≤ z ∧ z < 8 * 4294967296) : bits .and .i64 z 4294967295 = z % 4294967296 := by
  obtain ⟨y, rfl⟩ := Int.eq_ofNat_of_zero_le h.1
  have h1 := i64_and_nat y 4294967295 (by omega) (by decide)
  have h2 : y &&& 4294967295 = y % 4294967296 := Nat.and_two_pow_sub_one_eq_mod y 32
  rw [h2] at h1
  have h3 : ((y % 4294967296 : Nat) : Int) = (y : Int) % 4294967296 := by omega
  exact Eq.trans h1 h3
/-! ### in memory -/
structure RpAt (w0 : World) (g k k' : Nat) (bl : List Nat) (B3 : Nat) (va vs pv : Value) (acts : List ByteArray) (L : List P2) (rs : List (List Edg)) (W : World) : Prop where
  tab : PlAt W w0.heap.size g k k' bl (plP L)
  prs : W.ownsRow w0.heap.size 48 2 pv L.length (pcells L)
  out : Whole W B3 25 #[va, vs]
  rows : RowsOwn W w0.heap.size vs rs
  acts : W.ownsRow w0.heap.size 9 1 va acts.length (acts.map Value.string)
  below : Below w0.heap.size w0 W
/-- a row of numbers apart from the table -/
structure CdAt (B k : Nat) (bl : List Nat) (cv : Value) (cs : List Int) (W : World) : Prop where
  row : W.ownsRow B 3 1 cv cs.length (cs.map (Value.int .i64))
  far : ∀ x, x < k → some (bl.getD x 0) ≠ cv.ownBlock
section
variable {w0 W W' : World} {g k k' : Nat} {bl : List Nat} {B3 : Nat} {va vs pv pv' cv : Value} {acts : List ByteArray} {L : List P2} {rs : List (List Edg)} {cs : List Int}
theorem RpAt.up (h : RpAt w0 g k k' bl B3 va vs pv acts L rs W) (hb : Below W.heap.size W W') : RpAt w0 g k k' bl B3 va vs pv acts L rs W' :=
  ⟨h.tab.below hb, own_up' h.prs hb, up_whole hb h.out, h.rows.below hb, own_up' h.acts hb, h.below.trans (hb.mono h.below.size)⟩
theorem CdAt.up {B : Nat} (h : CdAt B k bl cv cs W) (hb : Below W.heap.size W W') : CdAt B k bl cv cs W' := ⟨own_up' h.row hb, h.far⟩
theorem RpAt.codes (h : RpAt w0 g k k' bl B3 va vs pv acts L rs W) (hO : CdAt w0.heap.size k bl cv cs W) (hg : W.grownBy W' cv.ownBlock) : RpAt w0 g k k' bl B3 va vs pv acts L rs W' := by
  refine ⟨h.tab.kept hg ?_ hO.far, h.prs.kept hg (own_apart h.prs hO.row (by decide)), h.out.grown hg (own_whole hO.row h.out (by decide)), ?_, h.acts.kept hg (own_apart h.acts hO.row (by decide)), h.below.grown hg h.below.size (own_ge hO.row)⟩
  · intro e
    rcases own_apart h.tab.outer hO.row (by decide) with h1 | h1
    · cases h1
    · exact h1 e
  · obtain ⟨rows, r1, r2, r3⟩ := h.rows
    refine ⟨rows, r1, r2.kept hg (own_apart r2 hO.row (by decide)), fun i hi => ?_⟩
    obtain ⟨r, h1, h2⟩ := r3 i hi
    exact ⟨r, h1, World.ownsRow.kept h2 hg (own_apart h2 hO.row (by decide))⟩
/-- one pair more: the row of pairs -/
theorem RpAt.pair (h : RpAt w0 g k k' bl B3 va vs pv acts L rs W) {p q : Nat} (hg : W.grownBy W' pv.ownBlock) (hB : W'.ownsRow w0.heap.size 48 2 pv' (L.length + 1) (pcells L ++ [.int .i64 (p : Int), .int .i64 (q : Int)])) :
    PlAt W' w0.heap.size g k k' bl (plP L) ∧ (∀ {F : Nat → Nat → Nat} {W2 : World}, PlAt W2 w0.heap.size g k k' bl F → W'.grownBy W2 (some (bl.getD p 0)) → p < k → F = plP (L ++ [(p, q)]) → RpAt w0 g k k' bl B3 va vs pv' acts (L ++ [(p, q)]) rs W2) := by
  have t1 : PlAt W' w0.heap.size g k k' bl (plP L) := h.tab.kept hg (fun e => by
    rcases own_apart h.tab.outer h.prs (by decide) with h1 | h1
    · cases h1
    · exact h1 e) (fun x hx e => by
    rcases own_apart (h.tab.rows x hx) h.prs (by decide) with h1 | h1
    · cases h1
    · exact h1 e)
  refine ⟨t1, fun {F W2} hF hg2 hp e => ?_⟩
  subst e
  have hr := t1.rows p hp
  have g1 : ∀ {base : Nat} {e : TypeId} {size n : Nat} {v : Value} {xs : List Value}, W.ownsRow base e size v n xs → e ≠ 48 → e ≠ 3 → W2.ownsRow base e size v n xs := fun hO h1 h2 => by
    have a1 := hO.kept hg (own_apart hO h.prs h1)
    exact a1.kept hg2 (own_apart a1 hr h2)
  refine ⟨hF, ?_, ?_, ?_, g1 h.acts (by decide) (by decide), ?_⟩
  · rw [List.length_append, List.length_singleton, pcells_snoc2]
    exact hB.kept hg2 (own_apart hB hr (by decide))
  · have o1 := h.out.grown hg (own_whole h.prs h.out (by decide))
    exact o1.grown hg2 (own_whole hr o1 (by decide))
  · obtain ⟨rows, r1, r2, r3⟩ := h.rows
    refine ⟨rows, r1, g1 r2 (by decide) (by decide), fun i hi => ?_⟩
    obtain ⟨r, h1, h2⟩ := r3 i hi
    exact ⟨r, h1, g1 h2 (by decide) (by decide)⟩
  · have b1 := h.below.grown hg h.below.size (own_ge h.prs)
    exact b1.grown hg2 b1.size (fun q hq => by
      simp only [Option.some.injEq] at hq
      rw [← hq]
      exact (t1.inner hp).1)
/-- codes beside one pair more -/
theorem CdAt.pair (hO : CdAt w0.heap.size k bl cv cs W) (h : RpAt w0 g k k' bl B3 va vs pv acts L rs W) (hg : W.grownBy W' pv.ownBlock) : CdAt w0.heap.size k bl cv cs W' := ⟨hO.row.kept hg (own_apart hO.row h.prs (by decide)), hO.far⟩
theorem CdAt.put (hO : CdAt w0.heap.size k bl cv cs W) {p : Nat} (hp : p < k) (hg : W.grownBy W' (some (bl.getD p 0))) : CdAt w0.heap.size k bl cv cs W' := ⟨hO.row.kept hg (.inr (hO.far p hp).symm), hO.far⟩
theorem CdAt.snoc {wB : World} {v2 : Value} {x : Int} {o : Obj} (hO : CdAt w0.heap.size k bl cv cs W) (h : RpAt w0 g k k' bl B3 va vs pv acts L rs W) (hat : v2.ownBlock = cv.ownBlock ∨ v2.ownBlock = some (W.alloc o).heap.size)
    (hB : wB.ownsRow w0.heap.size 3 1 v2 (cs.length + 1) (cs.map (Value.int .i64) ++ [.int .i64 x])) : CdAt w0.heap.size k bl v2 (cs ++ [x]) wB := by
  refine ⟨by rw [List.length_append, List.map_append]; exact hB, fun z hz e => ?_⟩
  rcases hat with h1 | h1
  · exact hO.far z hz (e.trans h1)
  · rw [h1] at e
    have := (h.tab.inner hz).2
    simp only [Option.some.injEq] at e
    have h2 : (W.alloc o).heap.size = W.heap.size + 1 := by simp
    omega
theorem five_cells {wB : World} {g p q r0 k' e6 e8 ix b F : Nat} {u x y z : Value} (h : wB.cell? ⟨g, p, none⟩ = some (rowV k' b) ∧ wB.cell? ⟨b, q, none⟩ = some (.int .i64 (F : Nat)) ∧ wB.frozen? ⟨b, q, none⟩ = false) (hr : b = r0) (hF : F = ix + 1) (h6 : Whole wB e6 87 #[u, x]) (h8 : Whole wB e8 87 #[z, y]) :
    wB.cell? ⟨e6, 0, none⟩ = some u ∧ wB.cell? ⟨e6, 1, none⟩ = some x ∧ wB.cell? ⟨e8, 1, none⟩ = some y ∧ wB.cell? ⟨g, p, none⟩ = some (.slice (some ⟨r0, 0, none⟩) k' k') ∧ wB.cell? ⟨r0, q, none⟩ = some (.int .i64 ((ix + 1 : Nat) : Int)) := by
  subst hr
  subst hF
  exact ⟨h6.cell 0, h6.cell 1, h8.cell 1, h.1, h.2.1⟩
/-- one row more -/
theorem RpAt.snoc {wB : World} {v1 v2 : Value} {r : List Edg} {t : TypeId} (h : RpAt w0 g k k' bl B3 va vs pv acts L rs W) (hA : EdgeOwn W w0.heap.size v1 r) (h3 : w0.heap.size ≤ B3)
    (hgB : (W.alloc (.cells #[v1] t)).grownBy wB vs.ownBlock) (hB : ∀ rows, (W.alloc (.cells #[v1] t)).ownsRow w0.heap.size 77 1 vs rs.length rows → rows.length = rs.length → wB.ownsRow w0.heap.size 77 1 v2 (rs.length + 1) (rows ++ [v1])) :
    RpAt w0 g k k' bl B3 va v2 pv acts L (rs ++ [r]) (wB.setCell ⟨B3, 1, none⟩ v2) := by
  have al := (Below.refl _ W).alloc (Nat.le_refl _) (.cells #[v1] t)
  have hA' := h.up al
  obtain ⟨rows, r1, r2, r3⟩ := hA'.rows
  have hs := RowsOwn.snoc (w := W.alloc (.cells #[v1] t)) (w' := wB) (v' := v2) ⟨rows, r1, r2, r3⟩ (hA.alloc _) hgB hB
  have hw := hA'.out.grown hgB (own_whole r2 hA'.out (by decide))
  have hg2 := grown_self wB ⟨B3, 1, none⟩ v2
  have g1 : ∀ {base : Nat} {e : TypeId} {size n : Nat} {v : Value} {xs : List Value}, (W.alloc (.cells #[v1] t)).ownsRow base e size v n xs → e ≠ 77 → e ≠ 25 → (wB.setCell ⟨B3, 1, none⟩ v2).ownsRow base e size v n xs := fun hO h1 h2 => own_stored (hO.kept hgB (own_apart hO r2 h1)) hw h2
  refine ⟨⟨h.tab.len, h.tab.nod, g1 hA'.tab.outer (by decide) (by decide), fun x hx => g1 (hA'.tab.rows x hx) (by decide) (by decide)⟩, g1 hA'.prs (by decide) (by decide), by simpa using hw.set 1 v2, hs.kept hg2 (.inr (own_whole hs.choose_spec.2.1 hw (by decide)).symm) (fun r l hr => .inr (own_whole hr hw (by decide)).symm), g1 hA'.acts (by decide) (by decide), ?_⟩
  exact (hA'.below.grown hgB hA'.below.size (own_ge r2)).setCell h3 _
end
end Go.Proofs.YtgnbkepdbdgkdaaGreatDoor
