/- Texts joined: BfPl, CrowdPl. -/
import Derived.Test.YtohljainhkdiiaaGreatDoorJp22
import Derived.Test.YtohljainhkdiiaaGreatDoorJp27
import Derived.Test.YtohljainhkdiiaaGreatDoorJp25
/- Plain facts: the queue of pairs stands in the order of the lengths of their words; the word of a pair that does not fit is a fault; nothing here is about a program. -/
namespace Go.Proofs.YtohljainhkdiiaaGreatDoor
open Pl

/-- how long the word of a place is -/
def lenQ (Q : List Wt) (p : Nat) : Nat := (spellQ Q p p).length
theorem lenQ_zero (Q : List Wt) : lenQ Q 0 = 0 := rfl
theorem lenQ_next {Q : List Wt} (hb : Bef Q) {p : Nat} (hp : p < Q.length) (h0 : 0 < p) : lenQ Q p = lenQ Q (wtAt Q p).before + 1 := by
  unfold lenQ
  rw [spell_next hb hp h0, List.length_append]
  rfl
theorem spell_app {Q R : List Wt} (hb : Bef Q) (hbR : Bef (Q ++ R)) : ∀ p, p < Q.length → spellQ (Q ++ R) p p = spellQ Q p p := by
  intro p
  induction p using Nat.strongRecOn with
  | ind p ih =>
    intro hp
    rcases Nat.eq_zero_or_pos p with rfl | h0
    · rfl
    · have h1 := hb p hp h0
      rw [spell_next hb hp h0, spell_next hbR (by rw [List.length_append]; omega) h0, wtAt_app hp, ih _ h1 (by omega)]
theorem lenQ_app {Q R : List Wt} (hb : Bef Q) (hbR : Bef (Q ++ R)) {p : Nat} (hp : p < Q.length) : lenQ (Q ++ R) p = lenQ Q p := by
  unfold lenQ
  rw [spell_app hb hbR p hp]
theorem addQ_two (s : Spc) (i y : Nat) (q : List Wt × Mat) (e : Edg) :
    (getF q.2 e.2.toNat (nextY s y e.1) = true ∧ addQ s i y q e = q) ∨
    (getF q.2 e.2.toNat (nextY s y e.1) = false ∧ addQ s i y q e = (q.1 ++ [⟨i, e.1, e.2.toNat, nextY s y e.1⟩], setF q.2 e.2.toNat (nextY s y e.1))) := by
  unfold addQ
  cases h : getF q.2 e.2.toNat (nextY s y e.1)
  · exact .inr ⟨rfl, if_neg (by decide)⟩
  · exact .inl ⟨rfl, if_pos rfl⟩

/-- the queue, the marks, while place i is worked, j of its edges done -/
structure Bf (m : Syst) (s : Spc) (i j : Nat) (q : List Wt × Mat) : Prop where
  ok : OkQ m s q
  pos : i < q.1.length
  z0 : (wtAt q.1 0).x = 0 ∧ (wtAt q.1 0).y = 0
  mono : ∀ p p', p ≤ p' → p' < q.1.length → lenQ q.1 p ≤ lenQ q.1 p'
  top : ∀ p, p < q.1.length → lenQ q.1 p ≤ lenQ q.1 i + 1
  mark : ∀ x y, x < m.states.length → y < s.states.length → getF q.2 x y = true → ∃ p, p < q.1.length ∧ (wtAt q.1 p).x = x ∧ (wtAt q.1 p).y = y
  closed : ∀ p t, p < q.1.length → t < (stAt m.states (wtAt q.1 p).x).length → (p < i ∨ p = i ∧ t < j) → ∃ p', p' < q.1.length ∧ (wtAt q.1 p').x = (edAt (stAt m.states (wtAt q.1 p).x) t).2.toNat ∧ (wtAt q.1 p').y = nextY s (wtAt q.1 p).y (edAt (stAt m.states (wtAt q.1 p).x) t).1 ∧ lenQ q.1 p' ≤ lenQ q.1 p + 1
  par : ∀ p, p < q.1.length → 0 < p → ∃ t, t < (stAt m.states (wtAt q.1 (wtAt q.1 p).before).x).length ∧ (wtAt q.1 p).last = (edAt (stAt m.states (wtAt q.1 (wtAt q.1 p).before).x) t).1 ∧ (wtAt q.1 p).x = (edAt (stAt m.states (wtAt q.1 (wtAt q.1 p).before).x) t).2.toNat ∧ (wtAt q.1 p).y = nextY s (wtAt q.1 (wtAt q.1 p).before).y (wtAt q.1 p).last
theorem Bf.add {m : Syst} {s : Spc} (hm : sysB m = true) (hs : spcB s = true) {i j : Nat} {q : List Wt × Mat} (h : Bf m s i j q) (hj : j < (stAt m.states (wtAt q.1 i).x).length) (hf : fitB m s (wtAt q.1 i).x (wtAt q.1 i).y = true) :
    Bf m s i (j + 1) (addQ s i (wtAt q.1 i).y q (edAt (stAt m.states (wtAt q.1 i).x) j)) := by
  obtain ⟨r1, r2⟩ := h.ok.rng i h.pos
  obtain ⟨e1, e2, e3, e4⟩ := edge_ok hm r1 hj
  obtain ⟨n1, n2, n3⟩ := fit_next hm hs r1 r2 hf hj
  have hx' : (edAt (stAt m.states (wtAt q.1 i).x) j).2.toNat < m.states.length := by omega
  have hy' : nextY s (wtAt q.1 i).y (edAt (stAt m.states (wtAt q.1 i).x) j).1 < s.states.length := by unfold nextY; omega
  have hok := h.ok.add (i := i) (y := (wtAt q.1 i).y) (e := edAt (stAt m.states (wtAt q.1 i).x) j) h.pos hx' hy'
  rcases addQ_two s i (wtAt q.1 i).y q (edAt (stAt m.states (wtAt q.1 i).x) j) with ⟨hg, hq⟩ | ⟨hg, hq⟩
  · rw [hq]
    refine ⟨h.ok, h.pos, h.z0, h.mono, h.top, h.mark, fun p t hp ht hc => ?_, h.par⟩
    by_cases hn : p = i ∧ t = j
    · obtain ⟨rfl, rfl⟩ := hn
      obtain ⟨p', h1, h2, h3⟩ := h.mark _ _ hx' hy' hg
      exact ⟨p', h1, h2, h3, h.top p' h1⟩
    · exact h.closed p t hp ht (by omega)
  · rw [hq] at hok ⊢
    have hB : Bef q.1 := h.ok.bef
    have hB' : Bef (q.1 ++ [⟨i, (edAt (stAt m.states (wtAt q.1 i).x) j).1, (edAt (stAt m.states (wtAt q.1 i).x) j).2.toNat, nextY s (wtAt q.1 i).y (edAt (stAt m.states (wtAt q.1 i).x) j).1⟩]) := hok.bef
    obtain ⟨T, hT⟩ : ∃ T : Wt, (⟨i, (edAt (stAt m.states (wtAt q.1 i).x) j).1, (edAt (stAt m.states (wtAt q.1 i).x) j).2.toNat, nextY s (wtAt q.1 i).y (edAt (stAt m.states (wtAt q.1 i).x) j).1⟩ : Wt) = T := ⟨_, rfl⟩
    have T1 : T.before = i := by rw [← hT]
    have T2 : T.last = (edAt (stAt m.states (wtAt q.1 i).x) j).1 := by rw [← hT]
    have T3 : T.x = (edAt (stAt m.states (wtAt q.1 i).x) j).2.toNat := by rw [← hT]
    have T4 : T.y = nextY s (wtAt q.1 i).y (edAt (stAt m.states (wtAt q.1 i).x) j).1 := by rw [← hT]
    rw [hT] at hok hB' ⊢
    have hlen : (q.1 ++ [T]).length = q.1.length + 1 := by simp
    have hsn : wtAt (q.1 ++ [T]) q.1.length = T := wtAt_snoc _ _
    have hl : ∀ p, p < q.1.length → lenQ (q.1 ++ [T]) p = lenQ q.1 p := fun p hp => lenQ_app hB hB' hp
    have hln : lenQ (q.1 ++ [T]) q.1.length = lenQ q.1 i + 1 := by
      rw [lenQ_next hB' (by rw [hlen]; omega) (by have := h.pos; omega), hsn, T1, hl i h.pos]
    have hat : ∀ p, p < q.1.length → wtAt (q.1 ++ [T]) p = wtAt q.1 p := fun p hp => wtAt_app hp
    have hpos := h.pos
    have hbnd : ∀ p, p < q.1.length + 1 → lenQ (q.1 ++ [T]) p ≤ lenQ q.1 i + 1 := fun p hp => by
      by_cases e : p < q.1.length
      · rw [hl p e]; exact h.top p e
      · obtain rfl : p = q.1.length := by omega
        rw [hln]; exact Nat.le_refl _
    refine ⟨hok, by show i < (q.1 ++ [T]).length; omega, ?_, fun p p' hpp hp' => ?_, fun p hp => ?_, fun x y hx hy hg' => ?_, fun p t hp ht hc => ?_, fun p hp h0 => ?_⟩
    · show (wtAt (q.1 ++ [T]) 0).x = 0 ∧ (wtAt (q.1 ++ [T]) 0).y = 0
      rw [hat 0 (by omega)]; exact h.z0
    · have hp'2 : p' < q.1.length + 1 := by rw [← hlen]; exact hp'
      show lenQ (q.1 ++ [T]) p ≤ lenQ (q.1 ++ [T]) p'
      by_cases e : p' < q.1.length
      · rw [hl p (by omega), hl p' e]; exact h.mono p p' hpp e
      · obtain rfl : p' = q.1.length := by omega
        rw [hln]; exact hbnd p (by omega)
    · show lenQ (q.1 ++ [T]) p ≤ lenQ (q.1 ++ [T]) i + 1
      rw [hl i hpos]
      exact hbnd p (by rw [← hlen]; exact hp)
    · rw [setF_get h.ok.shp hx' hy', Bool.or_eq_true] at hg'
      rcases hg' with hg' | hg'
      · obtain ⟨p, h1, h2⟩ := h.mark x y hx hy hg'
        exact ⟨p, by show p < (q.1 ++ [T]).length; omega, by show (wtAt (q.1 ++ [T]) p).x = x ∧ (wtAt (q.1 ++ [T]) p).y = y; rw [hat p h1]; exact h2⟩
      · rw [Bool.and_eq_true, decide_eq_true_eq, decide_eq_true_eq] at hg'
        exact ⟨q.1.length, by show q.1.length < (q.1 ++ [T]).length; omega, by show (wtAt (q.1 ++ [T]) q.1.length).x = x ∧ (wtAt (q.1 ++ [T]) q.1.length).y = y; rw [hsn, T3, T4]; exact ⟨hg'.1.symm, hg'.2.symm⟩⟩
    · have hpl : p < q.1.length := by rcases hc with hc | hc <;> omega
      change t < (stAt m.states (wtAt (q.1 ++ [T]) p).x).length at ht
      rw [hat p hpl] at ht
      show ∃ p', p' < (q.1 ++ [T]).length ∧ (wtAt (q.1 ++ [T]) p').x = (edAt (stAt m.states (wtAt (q.1 ++ [T]) p).x) t).2.toNat ∧ (wtAt (q.1 ++ [T]) p').y = nextY s (wtAt (q.1 ++ [T]) p).y (edAt (stAt m.states (wtAt (q.1 ++ [T]) p).x) t).1 ∧ lenQ (q.1 ++ [T]) p' ≤ lenQ (q.1 ++ [T]) p + 1
      rw [hat p hpl, hl p hpl]
      by_cases hn : p = i ∧ t = j
      · obtain ⟨rfl, rfl⟩ := hn
        exact ⟨q.1.length, by omega, by rw [hsn, T3], by rw [hsn, T4], by rw [hln]; exact Nat.le_refl _⟩
      · obtain ⟨p', h1, h2, h3, h4⟩ := h.closed p t hpl ht (by omega)
        exact ⟨p', by omega, by rw [hat p' h1]; exact h2, by rw [hat p' h1]; exact h3, by rw [hl p' h1]; exact h4⟩
    · show ∃ t, t < (stAt m.states (wtAt (q.1 ++ [T]) (wtAt (q.1 ++ [T]) p).before).x).length ∧ (wtAt (q.1 ++ [T]) p).last = (edAt (stAt m.states (wtAt (q.1 ++ [T]) (wtAt (q.1 ++ [T]) p).before).x) t).1 ∧ (wtAt (q.1 ++ [T]) p).x = (edAt (stAt m.states (wtAt (q.1 ++ [T]) (wtAt (q.1 ++ [T]) p).before).x) t).2.toNat ∧ (wtAt (q.1 ++ [T]) p).y = nextY s (wtAt (q.1 ++ [T]) (wtAt (q.1 ++ [T]) p).before).y (wtAt (q.1 ++ [T]) p).last
      by_cases e : p < q.1.length
      · have hb := hB p e h0
        rw [hat p e, hat _ (by omega)]
        exact h.par p e h0
      · have hp2 : p < q.1.length + 1 := by rw [← hlen]; exact hp
        obtain rfl : p = q.1.length := by omega
        rw [hsn, T1, hat i hpos]
        exact ⟨j, hj, T2, T3, by rw [T4, T2]⟩
theorem Bf.inq {m : Syst} {s : Spc} (hm : sysB m = true) (hs : spcB s = true) {i : Nat} {q : List Wt × Mat} (h : Bf m s i 0 q) (hf : fitB m s (wtAt q.1 i).x (wtAt q.1 i).y = true) :
    ∀ j, j ≤ (stAt m.states (wtAt q.1 i).x).length → Bf m s i j (inQ m s i q j) ∧ wtAt (inQ m s i q j).1 i = wtAt q.1 i
  | 0, _ => by rw [inQ_zero]; exact ⟨h, rfl⟩
  | j + 1, hj => by
    obtain ⟨h1, h2⟩ := Bf.inq hm hs h hf j (by omega)
    rw [inQ_next m s i q j (by omega)]
    have h3 := Bf.add hm hs h1 (by rw [h2]; omega) (by rw [h2]; exact hf)
    rw [h2] at h3
    exact ⟨h3, by rw [addQ_at _ _ _ _ _ h1.pos, h2]⟩
theorem Bf.zero {m : Syst} {s : Spc} (hm : 1 ≤ m.states.length) (hs : 1 ≤ s.states.length) : Bf m s 0 0 (stQ m s 0) := by
  have hl : (stQ m s 0).1.length = 1 := rfl
  refine ⟨OkQ.zero hm hs, by omega, ⟨rfl, rfl⟩, fun p p' h1 h2 => ?_, fun p hp => ?_, fun x y hx hy hg => ?_, fun p t hp ht hc => by omega, fun p hp h0 => by omega⟩
  · have e1 : p = 0 := by omega
    have e2 : p' = 0 := by omega
    rw [e1, e2]; exact Nat.le_refl _
  · have e1 : p = 0 := by omega
    rw [e1]; exact Nat.le_succ _
  · have h := noF_shp m.states.length s.states.length
    have e : (stQ m s 0).2 = setF (noF m.states.length s.states.length) 0 0 := rfl
    rw [e, setF_get h (by omega) (by omega), noF_get, Bool.false_or, Bool.and_eq_true, decide_eq_true_eq, decide_eq_true_eq] at hg
    exact ⟨0, by omega, hg.1.symm, hg.2.symm⟩
theorem bf_at {m : Syst} {s : Spc} (hm : sysB m = true) (hs : spcB s = true) : ∀ i, FitsTo m s i → i < (stQ m s i).1.length → Bf m s i 0 (stQ m s i)
  | 0, _, _ => Bf.zero ((sysB_iff m).1 hm).2.1 ((spcB_iff s).1 hs).2.1
  | i + 1, hF, hi => by
    have hFi : FitsTo m s i := fun k hk => hF k (by omega)
    obtain ⟨h1, h2⟩ := hF i (by omega)
    have ih := bf_at hm hs i hFi h1
    obtain ⟨h3, h4⟩ := Bf.inq hm hs ih h2 _ (Nat.le_refl _)
    change Bf m s i _ (stQ m s (i + 1)) at h3
    change wtAt (stQ m s (i + 1)).1 i = _ at h4
    refine ⟨h3.ok, hi, h3.z0, h3.mono, fun p hp => ?_, h3.mark, fun p t hp ht hc => ?_, h3.par⟩
    · have := h3.top p hp
      have := h3.mono i (i + 1) (by omega) hi
      omega
    · have hpi : p < i ∨ p = i := by omega
      rcases hpi with e | e
      · exact h3.closed p t hp ht (.inl e)
      · subst e
        exact h3.closed p t hp ht (.inr ⟨rfl, by rw [h4] at ht; exact ht⟩)
/-- a place is what it was -/
theorem stQ_grow {m : Syst} {s : Spc} {i : Nat} {q : List Wt × Mat} : ∀ j, q.1.length ≤ (inQ m s i q j).1.length ∧ ∀ k, k < q.1.length → wtAt (inQ m s i q j).1 k = wtAt q.1 k
  | 0 => by rw [inQ_zero]; exact ⟨Nat.le_refl _, fun _ _ => rfl⟩
  | j + 1 => by
    obtain ⟨h1, h2⟩ := stQ_grow (m := m) (s := s) (i := i) (q := q) j
    by_cases hj : j < (stAt m.states (wtAt q.1 i).x).length
    · rw [inQ_next m s i q j hj]
      exact ⟨Nat.le_trans h1 (addQ_len _ _ _ _ _), fun k hk => by rw [addQ_at _ _ _ _ _ (by omega), h2 k hk]⟩
    · have e : inQ m s i q (j + 1) = inQ m s i q j := by
        unfold inQ
        rw [List.take_of_length_le (by omega), List.take_of_length_le (by omega)]
      rw [e]; exact ⟨h1, h2⟩
theorem stQ_mono {m : Syst} {s : Spc} (i : Nat) : ∀ k, (stQ m s i).1.length ≤ (stQ m s (i + k)).1.length ∧ ∀ p, p < (stQ m s i).1.length → wtAt (stQ m s (i + k)).1 p = wtAt (stQ m s i).1 p
  | 0 => ⟨Nat.le_refl _, fun _ _ => rfl⟩
  | k + 1 => by
    obtain ⟨h1, h2⟩ := stQ_mono (m := m) (s := s) i k
    have h3 := stQ_grow (m := m) (s := s) (i := i + k) (q := stQ m s (i + k)) (stAt m.states (wtAt (stQ m s (i + k)).1 (i + k)).x).length
    change _ ≤ (stQ m s (i + k + 1)).1.length ∧ ∀ p, _ → wtAt (stQ m s (i + k + 1)).1 p = _ at h3
    exact ⟨Nat.le_trans h1 h3.1, fun p hp => by rw [show i + (k + 1) = i + k + 1 from rfl, h3.2 p (by omega), h2 p hp]⟩

theorem next_has {m : Syst} {l : List Nat} {x y t : Nat} {a : Int} (hx : x ∈ l) (ht : t < (stAt m.states x).length) (h1 : (edAt (stAt m.states x) t).1 = a) (h2 : (edAt (stAt m.states x) t).2 = (y : Int)) (hy : y < m.states.length) : y ∈ nextL m.states l a := by
  rw [nextL_mem]
  refine ⟨hy, ?_⟩
  unfold hitP leads
  rw [List.any_eq_true]
  refine ⟨x, hx, ?_⟩
  rw [List.any_eq_true]
  exact ⟨_, edAt_mem ht, by rw [h1, h2]; simp⟩
theorem next_from {m : Syst} {l : List Nat} {y : Nat} {a : Int} (h : y ∈ nextL m.states l a) : ∃ x, x ∈ l ∧ ∃ t, t < (stAt m.states x).length ∧ (edAt (stAt m.states x) t).1 = a ∧ (edAt (stAt m.states x) t).2 = (y : Int) := by
  rw [nextL_mem] at h
  have h2 := h.2
  unfold hitP leads at h2
  rw [List.any_eq_true] at h2
  obtain ⟨x, hx, h3⟩ := h2
  rw [List.any_eq_true] at h3
  obtain ⟨e, he, h4⟩ := h3
  rw [Bool.and_eq_true, decide_eq_true_eq, decide_eq_true_eq] at h4
  obtain ⟨t, ht, rfl⟩ := List.getElem_of_mem he
  have e2 : edAt (stAt m.states x) t = (stAt m.states x)[t] := by simp [edAt, List.getD, ht]
  exact ⟨x, hx, t, ht, by rw [e2]; exact h4.1, by rw [e2]; exact h4.2⟩
theorem afterL_app (ss : List (List Edg)) (w : List Int) (a : Int) : afterL ss (w ++ [a]) = nextL ss (afterL ss w) a := by simp [afterL]

/-- along the word of a place, up to place i, which is the first that does not fit -/
theorem fault_path {m : Syst} {s : Spc} (hm : sysB m = true) (hs : spcB s = true) {i : Nat} (hF : FitsTo m s i) (hi : i < (stQ m s i).1.length) : ∀ p, p ≤ i →
    (∀ w2, faultF m s (spellQ (stQ m s i).1 p p ++ w2) [0] 0 = faultF m s w2 (afterL m.states (spellQ (stQ m s i).1 p p)) ((wtAt (stQ m s i).1 p).y : Int)) ∧
    (wtAt (stQ m s i).1 p).x ∈ afterL m.states (spellQ (stQ m s i).1 p p) ∧
    (∀ x ∈ afterL m.states (spellQ (stQ m s i).1 p p), ∃ r, r < (stQ m s i).1.length ∧ (wtAt (stQ m s i).1 r).x = x ∧ (wtAt (stQ m s i).1 r).y = (wtAt (stQ m s i).1 p).y ∧ lenQ (stQ m s i).1 r ≤ lenQ (stQ m s i).1 p) ∧
    (∀ a ∈ spellQ (stQ m s i).1 p p, 0 ≤ a ∧ a < m.acts.length) := by
  have hB := bf_at hm hs i hF hi
  have hfit : ∀ r, r < i → fitB m s (wtAt (stQ m s i).1 r).x (wtAt (stQ m s i).1 r).y = true := fun r hr => by
    obtain ⟨h1, h2⟩ := hF r hr
    obtain ⟨k, rfl⟩ : ∃ k, i = r + k := ⟨i - r, by omega⟩
    rw [(stQ_mono (m := m) (s := s) r k).2 r h1]
    exact h2
  obtain ⟨q, hq⟩ : ∃ q, stQ m s i = q := ⟨_, rfl⟩
  rw [hq] at hB hi hfit ⊢
  intro p
  induction p using Nat.strongRecOn with
  | ind p ih =>
    intro hp
    rcases Nat.eq_zero_or_pos p with rfl | h0
    · have e : spellQ q.1 0 0 = [] := rfl
      have ea : afterL m.states [] = [0] := rfl
      rw [e, ea, hB.z0.1, hB.z0.2]
      refine ⟨fun w2 => rfl, by simp, fun x hx => ?_, fun a ha => by cases ha⟩
      rw [List.mem_singleton] at hx
      exact ⟨0, by omega, by rw [hB.z0.1, hx], hB.z0.2, Nat.le_refl _⟩
    · have hpl : p < q.1.length := by omega
      have hbf : Bef q.1 := hB.ok.bef
      have hb := hbf p hpl h0
      obtain ⟨t, t1, t2, t3, t4⟩ := hB.par p hpl h0
      obtain ⟨I1, I2, I3, I4⟩ := ih _ hb (by omega)
      have hsp := spell_next hbf hpl h0
      have hln := lenQ_next hbf hpl h0
      have hmi := hB.mono p i hp hi
      have hbl : (wtAt q.1 p).before < q.1.length := by omega
      obtain ⟨r1, r2⟩ := hB.ok.rng _ hbl
      obtain ⟨g1, g2, g3, g4⟩ := edge_ok hm r1 t1
      have hfb := hfit _ (show (wtAt q.1 p).before < i by omega)
      obtain ⟨n1, n2, n3⟩ := fit_next hm hs r1 r2 hfb t1
      have hI : nextI s ((wtAt q.1 (wtAt q.1 p).before).y : Int) (wtAt q.1 p).last = ((wtAt q.1 p).y : Int) := by
        rw [t4]
        unfold nextI nextY
        rw [Int.toNat_natCast, t2]
        omega
      have hgood : ¬ (afterL m.states (spellQ q.1 (wtAt q.1 p).before (wtAt q.1 p).before) = [] ∨ badB m s (afterL m.states (spellQ q.1 (wtAt q.1 p).before (wtAt q.1 p).before)) ((wtAt q.1 (wtAt q.1 p).before).y : Int) = true) := by
        rintro (e | e)
        · rw [e] at I2; cases I2
        · unfold badB at e
          rw [List.any_eq_true] at e
          obtain ⟨x, hx, hx2⟩ := e
          obtain ⟨r, h1, h2, h3, h4⟩ := I3 x hx
          have hri : r < i := by
            rcases Nat.lt_or_ge r i with h5 | h5
            · exact h5
            · have := hB.mono i r h5 h1
              omega
          have h6 := hfit r hri
          rw [h2, h3] at h6
          unfold goodB at hx2
          rw [Int.toNat_natCast, h6, decide_eq_true (by omega)] at hx2
          simp at hx2
      have hpx : (wtAt q.1 p).x < m.states.length := (hB.ok.rng p hpl).1
      refine ⟨fun w2 => ?_, ?_, fun x hx => ?_, fun a ha => ?_⟩
      · rw [hsp, List.append_assoc, I1]
        show faultF m s ((wtAt q.1 p).last :: w2) _ _ = _
        rw [faultF_go hgood (by rw [hI]; omega), hI, afterL_app]
      · rw [hsp, afterL_app]
        exact next_has I2 t1 t2.symm (by rw [t3]; omega) hpx
      · rw [hsp, afterL_app] at hx
        obtain ⟨x', hx', t', k1, k2, k3⟩ := next_from hx
        obtain ⟨r, h1, h2, h3, h4⟩ := I3 x' hx'
        have hri : r < i := by
          rcases Nat.lt_or_ge r i with h5 | h5
          · exact h5
          · have := hB.mono i r h5 h1
            omega
        rw [← h2] at k1 k2 k3
        obtain ⟨r', c1, c2, c3, c4⟩ := hB.closed r t' h1 k1 (.inl hri)
        refine ⟨r', c1, by rw [c2, k3, Int.toNat_natCast], by rw [c3, k2, h3, t4], by omega⟩
      · rw [hsp] at ha
        rcases List.mem_append.1 ha with ha | ha
        · exact I4 a ha
        · rw [List.mem_singleton] at ha
          rw [ha, t2]
          exact ⟨g1, g2⟩
/-- the word of the first pair that does not fit is a fault -/
theorem fault_ok {m : Syst} {s : Spc} (hm : sysB m = true) (hs : spcB s = true) {i : Nat} (hF : FitsTo m s i) (hi : i < (stQ m s i).1.length) (hn : fitB m s (wtAt (stQ m s i).1 i).x (wtAt (stQ m s i).1 i).y = false) :
    faultB m s (spellQ (stQ m s i).1 i i) ((wtAt (stQ m s i).1 i).x : Int) = true := by
  obtain ⟨h1, h2, h3, h4⟩ := fault_path hm hs hF hi i (Nat.le_refl _)
  have h5 := h1 []
  rw [List.append_nil] at h5
  unfold faultB
  rw [h5]
  have ha : actsK m.acts.length (spellQ (stQ m s i).1 i i) = true := by
    unfold actsK
    rw [List.all_eq_true]
    intro a ha
    exact (actK_iff _ _).2 (h4 a ha)
  rw [ha]
  show (true && (decide (((wtAt (stQ m s i).1 i).x : Int) ∈ (afterL m.states (spellQ (stQ m s i).1 i i)).map (fun (x : Nat) => (x : Int))) && !goodB m s ((wtAt (stQ m s i).1 i).x : Int).toNat ((wtAt (stQ m s i).1 i).y : Int))) = true
  rw [decide_eq_true (List.mem_map.2 ⟨_, h2, rfl⟩)]
  unfold goodB
  rw [Int.toNat_natCast, Int.toNat_natCast, hn]
  simp
/-- only one place is the first that does not fit, or the last -/
theorem fit_once {m : Syst} {s : Spc} {i i' : Nat} (h : FitsTo m s i) (h' : FitsTo m s i') (hs : (stQ m s i).1.length = i ∨ fitB m s (wtAt (stQ m s i).1 i).x (wtAt (stQ m s i).1 i).y = false) (hs' : (stQ m s i').1.length = i' ∨ fitB m s (wtAt (stQ m s i').1 i').x (wtAt (stQ m s i').1 i').y = false) : i = i' := by
  rcases Nat.lt_trichotomy i i' with e | e | e
  · obtain ⟨h1, h2⟩ := h' i e
    rcases hs with h3 | h3
    · omega
    · rw [h2] at h3; cases h3
  · exact e
  · obtain ⟨h1, h2⟩ := h i' e
    rcases hs' with h3 | h3
    · omega
    · rw [h2] at h3; cases h3
end Go.Proofs.YtohljainhkdiiaaGreatDoor
/- Plain facts: the states in which a system may be, in the order in which they are met; nothing here is about a program. -/
namespace Go.Proofs.YtohljainhkdiiaaGreatDoor.Pl
open Go Go.Lib

def cAdd (l : List Nat) (y : Nat) : List Nat := if y ∈ l then l else l ++ [y]
def crE (a : Int) (acc : List Nat) (es : List Edg) : List Nat := es.foldl (fun acc e => if e.1 = a then cAdd acc e.2.toNat else acc) acc
def crN (ss : List (List Edg)) (l : List Nat) (a : Int) (acc : List Nat) : List Nat := l.foldl (fun acc x => crE a acc (stAt ss x)) acc
theorem cAdd_mem (l : List Nat) (y z : Nat) : z ∈ cAdd l y ↔ z ∈ l ∨ z = y := by
  unfold cAdd
  split
  · rename_i h
    constructor
    · exact .inl
    · rintro (h1 | rfl)
      · exact h1
      · exact h
  · simp
/-- no state twice, each one of the system's -/
def CrOk (k : Nat) (l : List Nat) : Prop := l.Nodup ∧ ∀ y ∈ l, y < k
theorem CrOk.nil (k : Nat) : CrOk k [] := ⟨List.nodup_nil, fun y h => by simp at h⟩
theorem CrOk.add {k : Nat} {l : List Nat} (h : CrOk k l) {y : Nat} (hy : y < k) : CrOk k (cAdd l y) := by
  refine ⟨?_, fun z hz => ?_⟩
  · unfold cAdd
    split
    · exact h.1
    · rename_i hn
      rw [List.nodup_append]
      refine ⟨h.1, by simp, ?_⟩
      intro a ha b hb e
      rw [List.mem_singleton] at hb
      subst hb
      subst e
      exact hn ha
  · rcases (cAdd_mem l y z).1 hz with h1 | rfl
    · exact h.2 z h1
    · exact hy
theorem nodup_le : ∀ (k : Nat) (l : List Nat), l.Nodup → (∀ y ∈ l, y < k) → l.length ≤ k
  | 0, l, _, h => by
    cases l with
    | nil => exact Nat.le_refl _
    | cons x l => exact absurd (h x (List.mem_cons_self ..)) (by omega)
  | k + 1, l, hn, h => by
    have h1 := nodup_le k (l.erase k) (hn.erase k) (fun y hy => by
      rw [hn.mem_erase_iff] at hy
      have := h y hy.2
      omega)
    have h2 := List.length_erase (a := k) (l := l)
    split at h2 <;> omega
theorem CrOk.len {k : Nat} {l : List Nat} (h : CrOk k l) : l.length ≤ k := nodup_le k l h.1 h.2
theorem crE_snoc (a : Int) (acc : List Nat) (es : List Edg) (e : Edg) : crE a acc (es ++ [e]) = if e.1 = a then cAdd (crE a acc es) e.2.toNat else crE a acc es := by simp [crE]
theorem crN_snoc (ss : List (List Edg)) (l : List Nat) (a : Int) (acc : List Nat) (x : Nat) : crN ss (l ++ [x]) a acc = crE a (crN ss l a acc) (stAt ss x) := by simp [crN]
theorem crE_mem (a : Int) (z : Nat) : ∀ (es : List Edg) (acc : List Nat), z ∈ crE a acc es ↔ z ∈ acc ∨ ∃ e ∈ es, e.1 = a ∧ e.2.toNat = z
  | [], acc => by simp [crE]
  | e :: es, acc => by
    have ih := crE_mem a z es (if e.1 = a then cAdd acc e.2.toNat else acc)
    have e1 : crE a acc (e :: es) = crE a (if e.1 = a then cAdd acc e.2.toNat else acc) es := rfl
    rw [e1, ih]
    by_cases h : e.1 = a
    · rw [if_pos h, cAdd_mem]
      constructor
      · rintro ((h1 | rfl) | ⟨f, h1, h2⟩)
        · exact .inl h1
        · exact .inr ⟨e, List.mem_cons_self .., h, rfl⟩
        · exact .inr ⟨f, List.mem_cons_of_mem _ h1, h2⟩
      · rintro (h1 | ⟨f, h1, h2, rfl⟩)
        · exact .inl (.inl h1)
        · rcases List.mem_cons.1 h1 with rfl | h1
          · exact .inl (.inr rfl)
          · exact .inr ⟨f, h1, h2, rfl⟩
    · rw [if_neg h]
      constructor
      · rintro (h1 | ⟨f, h1, h2⟩)
        · exact .inl h1
        · exact .inr ⟨f, List.mem_cons_of_mem _ h1, h2⟩
      · rintro (h1 | ⟨f, h1, h2, h3⟩)
        · exact .inl h1
        · rcases List.mem_cons.1 h1 with rfl | h1
          · exact absurd h2 h
          · exact .inr ⟨f, h1, h2, h3⟩
theorem crN_mem (ss : List (List Edg)) (a : Int) (z : Nat) : ∀ (l acc : List Nat), z ∈ crN ss l a acc ↔ z ∈ acc ∨ ∃ x ∈ l, ∃ e ∈ stAt ss x, e.1 = a ∧ e.2.toNat = z
  | [], acc => by simp [crN]
  | x :: l, acc => by
    have ih := crN_mem ss a z l (crE a acc (stAt ss x))
    have e1 : crN ss (x :: l) a acc = crN ss l a (crE a acc (stAt ss x)) := rfl
    rw [e1, ih, crE_mem]
    constructor
    · rintro ((h1 | h1) | ⟨y, h1, h2⟩)
      · exact .inl h1
      · exact .inr ⟨x, List.mem_cons_self .., h1⟩
      · exact .inr ⟨y, List.mem_cons_of_mem _ h1, h2⟩
    · rintro (h1 | ⟨y, h1, h2⟩)
      · exact .inl (.inl h1)
      · rcases List.mem_cons.1 h1 with rfl | h1
        · exact .inl (.inr h2)
        · exact .inr ⟨y, h1, h2⟩
theorem mem_edAt {l : List Edg} {e : Edg} (h : e ∈ l) : ∃ t, t < l.length ∧ edAt l t = e := by
  obtain ⟨t, ht, rfl⟩ := List.getElem_of_mem h
  exact ⟨t, ht, by simp [edAt, List.getD, ht]⟩
/-- the same states as the reference's -/
theorem crN_next {m : Syst} (hm : sysB m = true) {l l' : List Nat} (hl : ∀ x ∈ l, x < m.states.length) (hs : ∀ x, x ∈ l ↔ x ∈ l') (a : Int) (z : Nat) : z ∈ crN m.states l a [] ↔ z ∈ nextL m.states l' a := by
  rw [crN_mem]
  constructor
  · rintro (h | ⟨x, hx, e, he, h1, h2⟩)
    · simp at h
    · obtain ⟨t, ht, rfl⟩ := mem_edAt he
      have h3 := edge_ok hm (hl x hx) ht
      exact next_has ((hs x).1 hx) ht h1 (by omega) (by omega)
  · intro h
    obtain ⟨x, hx, t, ht, h1, h2⟩ := next_from h
    exact .inr ⟨x, (hs x).2 hx, edAt (stAt m.states x) t, edAt_mem ht, h1, by rw [h2]; simp⟩
theorem crE_ok {m : Syst} (hm : sysB m = true) {x : Nat} (hx : x < m.states.length) (a : Int) {acc : List Nat} (h : CrOk m.states.length acc) : ∀ j, j ≤ (stAt m.states x).length → CrOk m.states.length (crE a acc ((stAt m.states x).take j))
  | 0, _ => by simpa [crE] using h
  | j + 1, hj => by
    have ih := crE_ok hm hx a h j (by omega)
    have hj' : j < (stAt m.states x).length := by omega
    rw [List.take_succ_eq_append_getElem hj', crE_snoc]
    split
    · have h3 := edge_ok hm hx hj'
      have e2 : edAt (stAt m.states x) j = (stAt m.states x)[j] := by simp [edAt, List.getD, hj']
      rw [e2] at h3
      exact ih.add (by omega)
    · exact ih
theorem crE_next {es : List Edg} {j : Nat} (hj : j < es.length) (a : Int) (acc : List Nat) : crE a acc (es.take (j + 1)) = if (edAt es j).1 = a then cAdd (crE a acc (es.take j)) (edAt es j).2.toNat else crE a acc (es.take j) := by
  have e2 : edAt es j = es[j] := by simp [edAt, List.getD, hj]
  rw [List.take_succ_eq_append_getElem hj, crE_snoc, e2]
theorem crN_next' {ss : List (List Edg)} {l : List Nat} {r x : Nat} (h : l[r]? = some x) (a : Int) : crN ss (l.take (r + 1)) a [] = crE a (crN ss (l.take r) a []) (stAt ss x) := by
  obtain ⟨hr, rfl⟩ := List.getElem?_eq_some_iff.1 h
  rw [List.take_succ_eq_append_getElem hr, crN_snoc]
theorem crN_ok {m : Syst} (hm : sysB m = true) {l : List Nat} (hl : ∀ x ∈ l, x < m.states.length) (a : Int) : ∀ r, CrOk m.states.length (crN m.states (l.take r) a [])
  | 0 => by simpa [crN] using CrOk.nil _
  | r + 1 => by
    rcases Nat.lt_or_ge r l.length with h | h
    · rw [crN_next' (List.getElem?_eq_getElem h)]
      have h1 := crE_ok hm (hl l[r] (List.getElem_mem h)) a (crN_ok hm hl a r) _ (Nat.le_refl _)
      rwa [List.take_length] at h1
    · rw [List.take_of_length_le (by omega)]
      have := crN_ok hm hl a r
      rwa [List.take_of_length_le h] at this

/-! ### along a word -/
def faultC (m : Syst) (s : Spc) : List Int → List Nat → Int → Option (List Nat × Int)
  | [], l, y => some (l, y)
  | a :: w, l, y => if badB m s l y = true then none else if crN m.states l a [] = [] then none else faultC m s w (crN m.states l a []) (nextI s y a)
def endC (m : Syst) (s : Spc) (at_ : Int) : Option (List Nat × Int) → Bool
  | none => false
  | some (l, y) => decide (at_ ∈ l.map (fun (x : Nat) => (x : Int))) && !goodB m s at_.toNat y
theorem endC_empty (m : Syst) (s : Spc) (at_ : Int) : ∀ (w : List Int) (y : Int), endC m s at_ (faultF m s w [] y) = false
  | [], y => by simp [faultF, endC]
  | a :: w, y => by rw [faultF_stop (.inl rfl)]; rfl
theorem badB_set {m : Syst} {s : Spc} {l l' : List Nat} (h : ∀ x, x ∈ l ↔ x ∈ l') (y : Int) : badB m s l y = badB m s l' y := by
  unfold badB
  rw [Bool.eq_iff_iff, List.any_eq_true, List.any_eq_true]
  constructor
  · rintro ⟨x, h1, h2⟩; exact ⟨x, (h x).1 h1, h2⟩
  · rintro ⟨x, h1, h2⟩; exact ⟨x, (h x).2 h1, h2⟩
theorem good_fit {m : Syst} {s : Spc} {l : List Nat} {y : Int} (h : ¬ badB m s l y = true) {x : Nat} (hx : x ∈ l) : 0 ≤ y ∧ fitB m s x y.toNat = true := by
  unfold badB at h
  rw [List.any_eq_true] at h
  have h1 : goodB m s x y = true := by
    cases e : goodB m s x y
    · exact absurd ⟨x, hx, by rw [e]; rfl⟩ h
    · rfl
  unfold goodB at h1
  rw [Bool.and_eq_true, decide_eq_true_eq] at h1
  exact h1
theorem actsK_cons (n : Nat) (a : Int) (w : List Int) : actsK n (a :: w) = (decide (0 ≤ a ∧ a < n) && actsK n w) := by
  rw [Bool.eq_iff_iff, Bool.and_eq_true, decide_eq_true_eq, actsK_iff, actsK_iff]
  constructor
  · intro h
    exact ⟨h 0 (by simp), fun k hk => h (k + 1) (by simpa using hk)⟩
  · rintro ⟨h1, h2⟩ k hk
    cases k with
    | zero => exact h1
    | succ k => exact h2 k (by simpa using hk)
theorem step_some {m : Syst} {s : Spc} (hm : sysB m = true) (hs : spcB s = true) {l : List Nat} {y a : Int} (hl : ∀ x ∈ l, x < m.states.length) (hy : 0 ≤ y ∧ y < s.states.length) (hb : ¬ badB m s l y = true) (hn : crN m.states l a [] ≠ []) :
    (0 ≤ a ∧ a < m.acts.length) ∧ 0 ≤ nextI s y a ∧ nextI s y a < s.states.length ∧ a.toNat < (teAt s.states y.toNat).2.length := by
  obtain ⟨z, hz⟩ := List.exists_mem_of_ne_nil _ hn
  rw [crN_mem] at hz
  rcases hz with h | ⟨x, hx, e, he, h1, h2⟩
  · simp at h
  · obtain ⟨t, ht, rfl⟩ := mem_edAt he
    have h3 := edge_ok hm (hl x hx) ht
    have h4 := fit_next hm hs (hl x hx) (y := y.toNat) (by omega) (good_fit hb hx).2 ht
    rw [h1] at h3 h4
    exact ⟨⟨h3.1, h3.2.1⟩, h4.2.1, h4.2.2, h4.1⟩
theorem faultC_eq {m : Syst} {s : Spc} (hm : sysB m = true) (hs : spcB s = true) (at_ : Int) : ∀ (w : List Int) (l l' : List Nat) (y : Int), (∀ x ∈ l, x < m.states.length) → (∀ x, x ∈ l ↔ x ∈ l') → l ≠ [] → 0 ≤ y ∧ y < s.states.length →
    endC m s at_ (faultC m s w l y) = (actsK m.acts.length w && endC m s at_ (faultF m s w l' y))
  | [], l, l', y, _, hss, _, _ => by
    have e : (at_ ∈ l.map (fun (x : Nat) => (x : Int))) ↔ (at_ ∈ l'.map (fun (x : Nat) => (x : Int))) := by
      rw [List.mem_map, List.mem_map]
      constructor
      · rintro ⟨x, h1, h2⟩; exact ⟨x, (hss x).1 h1, h2⟩
      · rintro ⟨x, h1, h2⟩; exact ⟨x, (hss x).2 h1, h2⟩
    rw [show actsK m.acts.length [] = true from rfl, Bool.true_and]
    show (decide (at_ ∈ l.map (fun (x : Nat) => (x : Int))) && !goodB m s at_.toNat y) = (decide (at_ ∈ l'.map (fun (x : Nat) => (x : Int))) && !goodB m s at_.toNat y)
    rw [decide_eq_decide.2 e]
  | a :: w, l, l', y, hl, hss, hne, hy => by
    have hne' : l' ≠ [] := fun e => by
      obtain ⟨x, hx⟩ := List.exists_mem_of_ne_nil _ hne
      rw [hss, e] at hx
      simp at hx
    rw [faultC]
    by_cases hb : badB m s l y = true
    · have hb' : badB m s l' y = true := by rw [← badB_set hss]; exact hb
      rw [if_pos hb, faultF_stop (.inr hb')]
      show false = _
      rw [show endC m s at_ none = false from rfl, Bool.and_false]
    · have hb' : ¬ (l' = [] ∨ badB m s l' y = true) := by
        rintro (e | e)
        · exact hne' e
        · rw [← badB_set hss] at e
          exact hb e
      rw [if_neg hb]
      by_cases hn : crN m.states l a [] = []
      · rw [if_pos hn]
        have hn' : nextL m.states l' a = [] := by
          cases e : nextL m.states l' a with
          | nil => rfl
          | cons z r =>
            have := (crN_next hm hl hss a z).2 (by rw [e]; exact List.mem_cons_self ..)
            rw [hn] at this
            simp at this
        show false = _
        by_cases hlost : nextI s y a < 0 ∧ nextL m.states l' a = []
        · rw [faultF_lost hb' hlost, show endC m s at_ none = false from rfl, Bool.and_false]
        · rw [faultF_go hb' hlost, hn', endC_empty, Bool.and_false]
      · rw [if_neg hn]
        obtain ⟨h1, h2, h3, _⟩ := step_some hm hs hl hy hb hn
        rw [faultF_go hb' (fun q => by omega), faultC_eq hm hs at_ w (crN m.states l a []) (nextL m.states l' a) (nextI s y a) (fun x hx => nextL_lt x ((crN_next hm hl hss a x).1 hx)) (fun x => crN_next hm hl hss a x) hn ⟨h2, h3⟩, actsK_cons, decide_eq_true h1, Bool.true_and]
theorem faultB_crowd {m : Syst} {s : Spc} (hm : sysB m = true) (hs : spcB s = true) (word : List Int) (at_ : Int) : faultB m s word at_ = endC m s at_ (faultC m s word [0] 0) := by
  have h1 := ((sysB_iff m).1 hm).2.1
  have h2 := ((spcB_iff s).1 hs).2.1
  rw [faultC_eq hm hs at_ word [0] [0] 0 (fun x hx => by rw [List.mem_singleton] at hx; omega) (fun _ => Iff.rfl) (by simp) ⟨Int.le_refl _, by omega⟩]
  unfold faultB
  congr 1
end Go.Proofs.YtohljainhkdiiaaGreatDoor.Pl
