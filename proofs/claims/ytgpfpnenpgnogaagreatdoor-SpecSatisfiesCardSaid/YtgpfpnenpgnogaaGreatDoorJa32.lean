/- Texts joined: RePl. -/
import Derived.Test.YtgpfpnenpgnogaaGreatDoorJa30
import Derived.Test.YtgpfpnenpgnogaaGreatDoorJa31
/- Plain facts: the queue of pairs, level by level; rows of pairs; nothing here is about a program. -/
namespace Go.Proofs.YtgpfpnenpgnogaaGreatDoor
open Go.RowKit Pl

theorem okq_at {m : Syst} {s : Spc} (hm : sysB m = true) (hs : spcB s = true) : ∀ i, FitsTo m s i → OkQ m s (stQ m s i)
  | 0, _ => OkQ.zero ((sysB_iff m).1 hm).2.1 ((spcB_iff s).1 hs).2.1
  | i + 1, h => by
    obtain ⟨h1, h2⟩ := h i (by omega)
    have := (Bf.inq hm hs (bf_at hm hs i (fun k hk => h k (by omega)) h1) h2 _ (Nat.le_refl _)).1.ok
    exact this
theorem fits_next {m : Syst} {s : Spc} {i : Nat} (h : FitsTo m s i) (hi : i < (stQ m s i).1.length) (hf : fitB m s (wtAt (stQ m s i).1 i).x (wtAt (stQ m s i).1 i).y = true) : FitsTo m s (i + 1) := fun k hk => by
  by_cases e : k < i
  · exact h k e
  · obtain rfl : k = i := by omega
    exact ⟨hi, hf⟩
/-- from place i0 to N0 the words have d actions, behind it one more -/
structure Lev (q : List Wt × Mat) (i0 N0 d : Nat) : Prop where
  b0 : i0 ≤ N0
  b1 : N0 ≤ q.1.length
  lo : ∀ p, i0 ≤ p → p < N0 → lenQ q.1 p = d
  hi : ∀ p, N0 ≤ p → p < q.1.length → lenQ q.1 p = d + 1
theorem Lev.add {s : Spc} {q : List Wt × Mat} {i0 N0 d i y : Nat} {e : Edg} (h : Lev q i0 N0 d) (hB : Bef q.1) (hB' : Bef (addQ s i y q e).1) (h0 : i0 ≤ i) (hN : i < N0) : Lev (addQ s i y q e) i0 N0 d := by
  rcases addQ_two s i y q e with ⟨_, hq⟩ | ⟨_, hq⟩
  · rw [hq]; exact h
  · rw [hq] at hB' ⊢
    obtain ⟨T, hT⟩ : ∃ T : Wt, (⟨i, e.1, e.2.toNat, nextY s y e.1⟩ : Wt) = T := ⟨_, rfl⟩
    have T1 : T.before = i := by rw [← hT]
    rw [hT] at hB' ⊢
    have b1 := h.b1
    have hlen : (q.1 ++ [T]).length = q.1.length + 1 := by simp
    refine ⟨h.b0, by show N0 ≤ (q.1 ++ [T]).length; omega, fun p h1 h2 => ?_, fun p h1 h2 => ?_⟩
    · show lenQ (q.1 ++ [T]) p = d
      rw [lenQ_app hB hB' (by omega)]; exact h.lo p h1 h2
    · show lenQ (q.1 ++ [T]) p = d + 1
      have h2' : p < q.1.length + 1 := by rw [← hlen]; exact h2
      by_cases e : p < q.1.length
      · rw [lenQ_app hB hB' e]; exact h.hi p h1 e
      · obtain rfl : p = q.1.length := by omega
        have hsn : wtAt (q.1 ++ [T]) q.1.length = T := wtAt_snoc _ _
        rw [lenQ_next hB' (by rw [hlen]; omega) (by omega), hsn, T1, lenQ_app hB hB' (by omega), h.lo i h0 hN]
theorem Lev.inq {m : Syst} {s : Spc} (hm : sysB m = true) (hs : spcB s = true) {i i0 N0 d : Nat} {q : List Wt × Mat} (h : Lev q i0 N0 d) (hb : Bf m s i 0 q) (hf : fitB m s (wtAt q.1 i).x (wtAt q.1 i).y = true) (h0 : i0 ≤ i) (hN : i < N0) :
    ∀ j, j ≤ (stAt m.states (wtAt q.1 i).x).length → Lev (inQ m s i q j) i0 N0 d
  | 0, _ => by rw [inQ_zero]; exact h
  | j + 1, hj => by
    have ih := Lev.inq hm hs h hb hf h0 hN j (by omega)
    have h1 := (Bf.inq hm hs hb hf j (by omega)).1.ok.bef
    have h2 := (Bf.inq hm hs hb hf (j + 1) hj).1.ok.bef
    rw [inQ_next m s i q j (by omega)] at h2 ⊢
    exact ih.add h1 h2 h0 hN
theorem Lev.level {q : List Wt × Mat} {i0 N0 d : Nat} (h : Lev q i0 N0 d) : Lev q N0 q.1.length (d + 1) :=
  ⟨h.b1, Nat.le_refl _, h.hi, fun p h1 h2 => by omega⟩
theorem Lev.zero (m : Syst) (s : Spc) : Lev (stQ m s 0) 0 1 0 := ⟨by omega, Nat.le_refl _, fun p _ h => by
  obtain rfl : p = 0 := by omega
  rfl, fun p h1 h2 => by
  have : (stQ m s 0).1.length = 1 := rfl
  omega⟩
/-- the states of the places from n on -/
def xyL (Q : List Wt) (n : Nat) : List (Nat × Nat) := (Q.drop n).map fun t => (t.x, t.y)
theorem xyL_len (Q : List Wt) (n : Nat) : (xyL Q n).length = Q.length - n := by simp [xyL]
theorem xyL_snoc (Q : List Wt) (T : Wt) {n : Nat} (h : n ≤ Q.length) : xyL (Q ++ [T]) n = xyL Q n ++ [(T.x, T.y)] := by
  unfold xyL
  rw [List.drop_append_of_le_length h]
  simp
theorem xyL_at {Q : List Wt} {n r : Nat} (h : n + r < Q.length) : (xyL Q n)[r]? = some ((wtAt Q (n + r)).x, (wtAt Q (n + r)).y) := by
  unfold xyL wtAt
  rw [List.getElem?_map, List.getElem?_drop, List.getElem?_eq_getElem h, List.getD_eq_getElem?_getD, List.getElem?_eq_getElem h]
  rfl
theorem xyL_end (Q : List Wt) : xyL Q Q.length = [] := by simp [xyL]
theorem pcells_snoc (L : List (Nat × Nat)) (x y : Nat) : pcells (L ++ [(x, y)]) = pcells L ++ [.int .i64 x, .int .i64 y] := by simp [pcells]
theorem pcells_len : ∀ L : List (Nat × Nat), (pcells L).length = L.length * 2
  | [] => rfl
  | p :: L => by
    have := pcells_len L
    unfold pcells at this ⊢
    rw [List.flatMap_cons, List.length_append, this]
    simp
    omega
theorem pcells_at : ∀ (L : List (Nat × Nat)) (k : Nat) (x y : Nat), L[k]? = some (x, y) → (pcells L)[k * 2]? = some (.int .i64 x) ∧ (pcells L)[k * 2 + 1]? = some (.int .i64 y)
  | [], k, x, y, h => by simp at h
  | p :: L, 0, x, y, h => by
    simp at h
    subst h
    simp [pcells]
  | p :: L, k + 1, x, y, h => by
    have ih := pcells_at L k x y (by simpa using h)
    have e : pcells (p :: L) = [.int .i64 p.1, .int .i64 p.2] ++ pcells L := by simp [pcells]
    rw [e, show (k + 1) * 2 = 2 + k * 2 by omega, show 2 + k * 2 + 1 = 2 + (k * 2 + 1) by omega]
    rw [List.getElem?_append_right (by simp), List.getElem?_append_right (by simp)]
    simpa using ih
end Go.Proofs.YtgpfpnenpgnogaaGreatDoor
