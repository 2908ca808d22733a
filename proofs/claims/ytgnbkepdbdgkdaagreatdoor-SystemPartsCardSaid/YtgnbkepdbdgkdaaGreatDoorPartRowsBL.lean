/- Plain facts: the two ways to the system of the states that can be reached; nothing here is about a program. -/
import Derived.Test.YtgnbkepdbdgkdaaGreatDoorJq19
import Derived.Test.YtgnbkepdbdgkdaaGreatDoorPPartBL
namespace Go.Proofs.YtgnbkepdbdgkdaaGreatDoor
open Go Go.Lib Pl

theorem prefix_idx {l L : List Nat} (h : l <+: L) {y : Nat} (hy : y ∈ l) : L.idxOf y = l.idxOf y := by
  obtain ⟨t, rfl⟩ := h
  rw [List.idxOf_append, if_pos hy]
theorem prefix_getD {l L : List Nat} (h : l <+: L) {r : Nat} (hr : r < l.length) : L.getD r 0 = l.getD r 0 := by
  obtain ⟨t, rfl⟩ := h
  rw [List.getD_eq_getElem?_getD, List.getElem?_append_left hr, List.getD_eq_getElem?_getD]
theorem toK_at {k : Nat} {L : List Nat} (hn : L.Nodup) (hk : ∀ y ∈ L, y < k) {y : Nat} (hy : y ∈ L) : ∀ j, j ≤ L.length → L.idxOf y < j → (toK k L j).getD y 0 = ((L.idxOf y : Nat) : Int)
  | 0, _, h => by omega
  | j + 1, hj, h => by
    have hjl : j < L.length := by omega
    have e1 : L.getD j 0 = L[j] := by simp [List.getD, hjl]
    have hyk : y < (toK k L j).length := by rw [toK_len]; exact hk y hy
    unfold toK
    rw [List.getD_eq_getElem?_getD, List.getElem?_set, e1]
    by_cases e : L[j] = y
    · have e2 : L.idxOf y = j := by rw [← e]; exact hn.idxOf_getElem j hjl
      rw [if_pos e, if_pos (by rw [e]; exact hyk), e2]
      rfl
    · rw [if_neg e, ← List.getD_eq_getElem?_getD]
      refine toK_at hn hk hy j (by omega) ?_
      rcases Nat.lt_or_eq_of_le (Nat.le_of_lt_succ h) with h1 | h1
      · exact h1
      · exfalso
        apply e
        subst h1
        exact List.getElem_idxOf hjl
theorem edges_rise {na ns : Nat} {l : List Edg} (h : edgesB na ns l = true) : Rise l := by
  have h1 := (edgesB_iff na ns l).1 h
  have h2 : ∀ k, k + 1 < l.length → ltE (edAt l k) (edAt l (k + 1)) = true := fun k hk => by
    cases h9 : ltE (edAt l k) (edAt l (k + 1))
    · have := edgeB_back (na := na) (ns := ns) (l := l) (k := k + 1) (by omega) (by simpa using h9)
      rw [h1 (k + 1) hk] at this
      cases this
    · rfl
  have h3 : ∀ d k, k + d + 1 < l.length → ltE (edAt l k) (edAt l (k + d + 1)) = true := fun d => by
    induction d with
    | zero => intro k hk; exact h2 k hk
    | succ d ih =>
      intro k hk
      exact lt_trans_E (ih k (by omega)) (h2 (k + d + 1) hk)
  unfold Rise
  rw [List.pairwise_iff_getElem]
  intro i j hi hj hij
  have h4 := h3 (j - i - 1) i (by omega)
  rw [show i + (j - i - 1) + 1 = j by omega] at h4
  have e1 : edAt l i = l[i] := by simp [edAt, List.getD, hi]
  have e2 : edAt l j = l[j] := by simp [edAt, List.getD, hj]
  rw [e1, e2] at h4
  exact h4
theorem part_rows {m : Syst} (hm : sysB m = true) {st : Nat} (hst : st < m.states.length) {i : Nat} (hS : OStp m st i) (hl : (ordQ m st i).length = i) : rowsQ m st i = (partS m (ordQ m st i)).states := by
  have hok := ordQ_ok hm hst i hS
  refine List.ext_getElem (by simp [rowsQ, partS, hl]) fun r h1 h2 => ?_
  have hr : r < i := by simpa [rowsQ] using h1
  have p0 := ordQ_pre m st r (i - r)
  rw [show r + (i - r) = i by omega] at p0
  have p1 := ordQ_pre m st (r + 1) (i - (r + 1))
  rw [show r + 1 + (i - (r + 1)) = i by omega] at p1
  have hrl := hS r hr
  have hri : r < (ordQ m st i).length := by omega
  have ex := prefix_getD p0 hrl
  have exx : (ordQ m st i)[r] = (ordQ m st r).getD r 0 := by
    rw [← ex]
    simp [List.getD, hri]
  simp only [rowsQ, partS, List.getElem_map, List.getElem_range, exx]
  obtain ⟨x, hx⟩ : ∃ x, (ordQ m st r).getD r 0 = x := ⟨_, rfl⟩
  have hxm : x < m.states.length := by
    rw [← hx, ← exx]
    exact hok.2 _ (List.getElem_mem hri)
  have e1 : ordQ m st (r + 1) = ordE (ordQ m st r) (stAt m.states x) := by
    show ordE (ordQ m st r) (stAt m.states ((ordQ m st r).getD r 0)) = _
    rw [hx]
  rw [hx]
  rw [e1] at p1
  have hidx : ∀ e ∈ stAt m.states x, (ordE (ordQ m st r) (stAt m.states x)).idxOf e.2.toNat = (ordQ m st i).idxOf e.2.toNat := fun e he => (prefix_idx p1 (mem_ordE _ _ he)).symm
  have hmem : ∀ e ∈ stAt m.states x, e.2.toNat ∈ ordQ m st i := fun e he => p1.subset (mem_ordE _ _ he)
  have er : redL (ordQ m st r) (stAt m.states x) = (stAt m.states x).map fun e => (e.1, (((ordQ m st i).idxOf e.2.toNat : Nat) : Int)) := List.map_congr_left fun e he => by rw [hidx e he]
  have hrise := edges_rise (((sysB_iff m).1 hm).2.2.2.1 x hxm)
  have hpos : ∀ e ∈ stAt m.states x, 0 ≤ e.2 := fun e he => by
    obtain ⟨q, hq, rfl⟩ := List.getElem_of_mem he
    have h9 := (edge_ok hm hxm hq).2.2.1
    have e9 : edAt (stAt m.states x) q = (stAt m.states x)[q] := by simp [edAt, List.getD, hq]
    rwa [e9] at h9
  have hnd : ((stAt m.states x).map fun e => (e.1, (((ordQ m st i).idxOf e.2.toNat : Nat) : Int))).Nodup := by
    unfold List.Nodup
    rw [List.pairwise_map]
    refine (rise_nodup hrise).imp_of_mem fun {a b} ha hb hab h9 => hab ?_
    simp only [Prod.mk.injEq] at h9
    have ha2 := hmem a ha
    have hb2 := hmem b hb
    have h10 : (ordQ m st i).idxOf a.2.toNat = (ordQ m st i).idxOf b.2.toNat := by exact_mod_cast h9.2
    have h11 : a.2.toNat = b.2.toNat := by
      have g1 := List.getElem_idxOf (List.idxOf_lt_length_of_mem ha2)
      have g2 := List.getElem_idxOf (List.idxOf_lt_length_of_mem hb2)
      rw [← g1, ← g2]
      congr 1
    have := hpos a ha
    have := hpos b hb
    exact Prod.ext h9.1 (by omega)
  rw [er, sort_fold hnd, List.foldl_map]
  unfold edP
  have hfold : ∀ (es acc : List Edg), (∀ e ∈ es, e ∈ stAt m.states x) → es.foldl (fun acc e => insE acc (e.1, (((ordQ m st i).idxOf e.2.toNat : Nat) : Int))) acc = es.foldl (fun acc e => insE acc (e.1, (toK m.states.length (ordQ m st i) (ordQ m st i).length).getD e.2.toNat 0)) acc := by
    intro es
    induction es with
    | nil => intro acc _; rfl
    | cons e es ih =>
      intro acc h
      have hy := hmem e (h e (by simp))
      rw [List.foldl_cons, List.foldl_cons, toK_at hok.1 hok.2 hy _ (Nat.le_refl _) (List.idxOf_lt_length_of_mem hy)]
      exact ih _ (fun z hz => h z (by simp [hz]))
  exact hfold _ _ (fun e he => he)
end Go.Proofs.YtgnbkepdbdgkdaaGreatDoor
