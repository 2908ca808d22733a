/- Texts joined: BfPl, RePl, SatZ. -/
import Derived.Test.YtbncofgbpffmkaaGreatDoorJc18
import Derived.Test.YtbncofgbpffmkaaGreatDoorJc21
import Derived.Test.YtbncofgbpffmkaaGreatDoorJc19
import Derived.ChangeKeysEq
/- Plain facts: the queue of pairs stands in the order of the lengths of their words; the word of a pair that does not fit is a fault; nothing here is about a program. -/
namespace Go.Proofs.YtbncofgbpffmkaaGreatDoor
open Pl

/-- how long the word of a place is -/
def lenQ (Q : List Wt) (p : Nat) : Nat := (spellQ Q p p).length
theorem lenQ_zero (Q : List Wt) : lenQ Q 0 = 0 := rfl
theorem lenQ_next {Q : List Wt} (hb : Bef Q) {p : Nat} (hp : p < Q.length) (h0 : 0 < p) : lenQ Q p = lenQ Q (wtAt Q p).before + 1 := by
  unfold lenQ
  rw [spell_next hb hp h0, List.length_append]
  rfl
theorem spell_app {Q R : List Wt} (hb : Bef Q) (hbR : Bef (Q ++ R)) : ∀ p, p < Q.length → spellQ (Q ++ R) p p = spellQ Q p p := by
  intro p
  induction p using Nat.strongRecOn with
  | ind p ih =>
    intro hp
    rcases Nat.eq_zero_or_pos p with rfl | h0
    · rfl
    · have h1 := hb p hp h0
      rw [spell_next hb hp h0, spell_next hbR (by rw [List.length_append]; omega) h0, wtAt_app hp, ih _ h1 (by omega)]
theorem lenQ_app {Q R : List Wt} (hb : Bef Q) (hbR : Bef (Q ++ R)) {p : Nat} (hp : p < Q.length) : lenQ (Q ++ R) p = lenQ Q p := by
  unfold lenQ
  rw [spell_app hb hbR p hp]
theorem addQ_two (s : Spc) (i y : Nat) (q : List Wt × Mat) (e : Edg) :
    (getF q.2 e.2.toNat (nextY s y e.1) = true ∧ addQ s i y q e = q) ∨
    (getF q.2 e.2.toNat (nextY s y e.1) = false ∧ addQ s i y q e = (q.1 ++ [⟨i, e.1, e.2.toNat, nextY s y e.1⟩], setF q.2 e.2.toNat (nextY s y e.1))) := by
  unfold addQ
  cases h : getF q.2 e.2.toNat (nextY s y e.1)
  · exact .inr ⟨rfl, if_neg (by decide)⟩
  · exact .inl ⟨rfl, if_pos rfl⟩

/-- the queue, the marks, while place i is worked, j of its edges done -/
structure Bf (m : Syst) (s : Spc) (i j : Nat) (q : List Wt × Mat) : Prop where
  ok : OkQ m s q
  pos : i < q.1.length
  z0 : (wtAt q.1 0).x = 0 ∧ (wtAt q.1 0).y = 0
  mono : ∀ p p', p ≤ p' → p' < q.1.length → lenQ q.1 p ≤ lenQ q.1 p'
  top : ∀ p, p < q.1.length → lenQ q.1 p ≤ lenQ q.1 i + 1
  mark : ∀ x y, x < m.states.length → y < s.states.length → getF q.2 x y = true → ∃ p, p < q.1.length ∧ (wtAt q.1 p).x = x ∧ (wtAt q.1 p).y = y
  closed : ∀ p t, p < q.1.length → t < (stAt m.states (wtAt q.1 p).x).length → (p < i ∨ p = i ∧ t < j) → ∃ p', p' < q.1.length ∧ (wtAt q.1 p').x = (edAt (stAt m.states (wtAt q.1 p).x) t).2.toNat ∧ (wtAt q.1 p').y = nextY s (wtAt q.1 p).y (edAt (stAt m.states (wtAt q.1 p).x) t).1 ∧ lenQ q.1 p' ≤ lenQ q.1 p + 1
  par : ∀ p, p < q.1.length → 0 < p → ∃ t, t < (stAt m.states (wtAt q.1 (wtAt q.1 p).before).x).length ∧ (wtAt q.1 p).last = (edAt (stAt m.states (wtAt q.1 (wtAt q.1 p).before).x) t).1 ∧ (wtAt q.1 p).x = (edAt (stAt m.states (wtAt q.1 (wtAt q.1 p).before).x) t).2.toNat ∧ (wtAt q.1 p).y = nextY s (wtAt q.1 (wtAt q.1 p).before).y (wtAt q.1 p).last
theorem Bf.add {m : Syst} {s : Spc} (hm : sysB m = true) (hs : spcB s = true) {i j : Nat} {q : List Wt × Mat} (h : Bf m s i j q) (hj : j < (stAt m.states (wtAt q.1 i).x).length) (hf : fitB m s (wtAt q.1 i).x (wtAt q.1 i).y = true) :
    Bf m s i (j + 1) (addQ s i (wtAt q.1 i).y q (edAt (stAt m.states (wtAt q.1 i).x) j)) := by
  obtain ⟨r1, r2⟩ := h.ok.rng i h.pos
  obtain ⟨e1, e2, e3, e4⟩ := edge_ok hm r1 hj
  obtain ⟨n1, n2, n3⟩ := fit_next hm hs r1 r2 hf hj
  have hx' : (edAt (stAt m.states (wtAt q.1 i).x) j).2.toNat < m.states.length := by omega
  have hy' : nextY s (wtAt q.1 i).y (edAt (stAt m.states (wtAt q.1 i).x) j).1 < s.states.length := by unfold nextY; omega
  have hok := h.ok.add (i := i) (y := (wtAt q.1 i).y) (e := edAt (stAt m.states (wtAt q.1 i).x) j) h.pos hx' hy'
  rcases addQ_two s i (wtAt q.1 i).y q (edAt (stAt m.states (wtAt q.1 i).x) j) with ⟨hg, hq⟩ | ⟨hg, hq⟩
  · rw [hq]
    refine ⟨h.ok, h.pos, h.z0, h.mono, h.top, h.mark, fun p t hp ht hc => ?_, h.par⟩
    by_cases hn : p = i ∧ t = j
    · obtain ⟨rfl, rfl⟩ := hn
      obtain ⟨p', h1, h2, h3⟩ := h.mark _ _ hx' hy' hg
      exact ⟨p', h1, h2, h3, h.top p' h1⟩
    · exact h.closed p t hp ht (by omega)
  · rw [hq] at hok ⊢
    have hB : Bef q.1 := h.ok.bef
    have hB' : Bef (q.1 ++ [⟨i, (edAt (stAt m.states (wtAt q.1 i).x) j).1, (edAt (stAt m.states (wtAt q.1 i).x) j).2.toNat, nextY s (wtAt q.1 i).y (edAt (stAt m.states (wtAt q.1 i).x) j).1⟩]) := hok.bef
    obtain ⟨T, hT⟩ : ∃ T : Wt, (⟨i, (edAt (stAt m.states (wtAt q.1 i).x) j).1, (edAt (stAt m.states (wtAt q.1 i).x) j).2.toNat, nextY s (wtAt q.1 i).y (edAt (stAt m.states (wtAt q.1 i).x) j).1⟩ : Wt) = T := ⟨_, rfl⟩
    have T1 : T.before = i := by rw [← hT]
    have T2 : T.last = (edAt (stAt m.states (wtAt q.1 i).x) j).1 := by rw [← hT]
    have T3 : T.x = (edAt (stAt m.states (wtAt q.1 i).x) j).2.toNat := by rw [← hT]
    have T4 : T.y = nextY s (wtAt q.1 i).y (edAt (stAt m.states (wtAt q.1 i).x) j).1 := by rw [← hT]
    rw [hT] at hok hB' ⊢
    have hlen : (q.1 ++ [T]).length = q.1.length + 1 := by simp
    have hsn : wtAt (q.1 ++ [T]) q.1.length = T := wtAt_snoc _ _
    have hl : ∀ p, p < q.1.length → lenQ (q.1 ++ [T]) p = lenQ q.1 p := fun p hp => lenQ_app hB hB' hp
    have hln : lenQ (q.1 ++ [T]) q.1.length = lenQ q.1 i + 1 := by
      rw [lenQ_next hB' (by rw [hlen]; omega) (by have := h.pos; omega), hsn, T1, hl i h.pos]
    have hat : ∀ p, p < q.1.length → wtAt (q.1 ++ [T]) p = wtAt q.1 p := fun p hp => wtAt_app hp
    have hpos := h.pos
    have hbnd : ∀ p, p < q.1.length + 1 → lenQ (q.1 ++ [T]) p ≤ lenQ q.1 i + 1 := fun p hp => by
      by_cases e : p < q.1.length
      · rw [hl p e]; exact h.top p e
      · obtain rfl : p = q.1.length := by omega
        rw [hln]; exact Nat.le_refl _
    refine ⟨hok, by show i < (q.1 ++ [T]).length; omega, ?_, fun p p' hpp hp' => ?_, fun p hp => ?_, fun x y hx hy hg' => ?_, fun p t hp ht hc => ?_, fun p hp h0 => ?_⟩
    · show (wtAt (q.1 ++ [T]) 0).x = 0 ∧ (wtAt (q.1 ++ [T]) 0).y = 0
      rw [hat 0 (by omega)]; exact h.z0
    · have hp'2 : p' < q.1.length + 1 := by rw [← hlen]; exact hp'
      show lenQ (q.1 ++ [T]) p ≤ lenQ (q.1 ++ [T]) p'
      by_cases e : p' < q.1.length
      · rw [hl p (by omega), hl p' e]; exact h.mono p p' hpp e
      · obtain rfl : p' = q.1.length := by omega
        rw [hln]; exact hbnd p (by omega)
    · show lenQ (q.1 ++ [T]) p ≤ lenQ (q.1 ++ [T]) i + 1
      rw [hl i hpos]
      exact hbnd p (by rw [← hlen]; exact hp)
    · rw [setF_get h.ok.shp hx' hy', Bool.or_eq_true] at hg'
      rcases hg' with hg' | hg'
      · obtain ⟨p, h1, h2⟩ := h.mark x y hx hy hg'
        exact ⟨p, by show p < (q.1 ++ [T]).length; omega, by show (wtAt (q.1 ++ [T]) p).x = x ∧ (wtAt (q.1 ++ [T]) p).y = y; rw [hat p h1]; exact h2⟩
      · rw [Bool.and_eq_true, decide_eq_true_eq, decide_eq_true_eq] at hg'
        exact ⟨q.1.length, by show q.1.length < (q.1 ++ [T]).length; omega, by show (wtAt (q.1 ++ [T]) q.1.length).x = x ∧ (wtAt (q.1 ++ [T]) q.1.length).y = y; rw [hsn, T3, T4]; exact ⟨hg'.1.symm, hg'.2.symm⟩⟩
    · have hpl : p < q.1.length := by rcases hc with hc | hc <;> omega
      change t < (stAt m.states (wtAt (q.1 ++ [T]) p).x).length at ht
      rw [hat p hpl] at ht
      show ∃ p', p' < (q.1 ++ [T]).length ∧ (wtAt (q.1 ++ [T]) p').x = (edAt (stAt m.states (wtAt (q.1 ++ [T]) p).x) t).2.toNat ∧ (wtAt (q.1 ++ [T]) p').y = nextY s (wtAt (q.1 ++ [T]) p).y (edAt (stAt m.states (wtAt (q.1 ++ [T]) p).x) t).1 ∧ lenQ (q.1 ++ [T]) p' ≤ lenQ (q.1 ++ [T]) p + 1
      rw [hat p hpl, hl p hpl]
      by_cases hn : p = i ∧ t = j
      · obtain ⟨rfl, rfl⟩ := hn
        exact ⟨q.1.length, by omega, by rw [hsn, T3], by rw [hsn, T4], by rw [hln]; exact Nat.le_refl _⟩
      · obtain ⟨p', h1, h2, h3, h4⟩ := h.closed p t hpl ht (by omega)
        exact ⟨p', by omega, by rw [hat p' h1]; exact h2, by rw [hat p' h1]; exact h3, by rw [hl p' h1]; exact h4⟩
    · show ∃ t, t < (stAt m.states (wtAt (q.1 ++ [T]) (wtAt (q.1 ++ [T]) p).before).x).length ∧ (wtAt (q.1 ++ [T]) p).last = (edAt (stAt m.states (wtAt (q.1 ++ [T]) (wtAt (q.1 ++ [T]) p).before).x) t).1 ∧ (wtAt (q.1 ++ [T]) p).x = (edAt (stAt m.states (wtAt (q.1 ++ [T]) (wtAt (q.1 ++ [T]) p).before).x) t).2.toNat ∧ (wtAt (q.1 ++ [T]) p).y = nextY s (wtAt (q.1 ++ [T]) (wtAt (q.1 ++ [T]) p).before).y (wtAt (q.1 ++ [T]) p).last
      by_cases e : p < q.1.length
      · have hb := hB p e h0
        rw [hat p e, hat _ (by omega)]
        exact h.par p e h0
      · have hp2 : p < q.1.length + 1 := by rw [← hlen]; exact hp
        obtain rfl : p = q.1.length := by omega
        rw [hsn, T1, hat i hpos]
        exact ⟨j, hj, T2, T3, by rw [T4, T2]⟩
theorem Bf.inq {m : Syst} {s : Spc} (hm : sysB m = true) (hs : spcB s = true) {i : Nat} {q : List Wt × Mat} (h : Bf m s i 0 q) (hf : fitB m s (wtAt q.1 i).x (wtAt q.1 i).y = true) :
    ∀ j, j ≤ (stAt m.states (wtAt q.1 i).x).length → Bf m s i j (inQ m s i q j) ∧ wtAt (inQ m s i q j).1 i = wtAt q.1 i
  | 0, _ => by rw [inQ_zero]; exact ⟨h, rfl⟩
  | j + 1, hj => by
    obtain ⟨h1, h2⟩ := Bf.inq hm hs h hf j (by omega)
    rw [inQ_next m s i q j (by omega)]
    have h3 := Bf.add hm hs h1 (by rw [h2]; omega) (by rw [h2]; exact hf)
    rw [h2] at h3
    exact ⟨h3, by rw [addQ_at _ _ _ _ _ h1.pos, h2]⟩
theorem Bf.zero {m : Syst} {s : Spc} (hm : 1 ≤ m.states.length) (hs : 1 ≤ s.states.length) : Bf m s 0 0 (stQ m s 0) := by
  have hl : (stQ m s 0).1.length = 1 := rfl
  refine ⟨OkQ.zero hm hs, by omega, ⟨rfl, rfl⟩, fun p p' h1 h2 => ?_, fun p hp => ?_, fun x y hx hy hg => ?_, fun p t hp ht hc => by omega, fun p hp h0 => by omega⟩
  · have e1 : p = 0 := by omega
    have e2 : p' = 0 := by omega
    rw [e1, e2]; exact Nat.le_refl _
  · have e1 : p = 0 := by omega
    rw [e1]; exact Nat.le_succ _
  · have h := noF_shp m.states.length s.states.length
    have e : (stQ m s 0).2 = setF (noF m.states.length s.states.length) 0 0 := rfl
    rw [e, setF_get h (by omega) (by omega), noF_get, Bool.false_or, Bool.and_eq_true, decide_eq_true_eq, decide_eq_true_eq] at hg
    exact ⟨0, by omega, hg.1.symm, hg.2.symm⟩
theorem bf_at {m : Syst} {s : Spc} (hm : sysB m = true) (hs : spcB s = true) : ∀ i, FitsTo m s i → i < (stQ m s i).1.length → Bf m s i 0 (stQ m s i)
  | 0, _, _ => Bf.zero ((sysB_iff m).1 hm).2.1 ((spcB_iff s).1 hs).2.1
  | i + 1, hF, hi => by
    have hFi : FitsTo m s i := fun k hk => hF k (by omega)
    obtain ⟨h1, h2⟩ := hF i (by omega)
    have ih := bf_at hm hs i hFi h1
    obtain ⟨h3, h4⟩ := Bf.inq hm hs ih h2 _ (Nat.le_refl _)
    change Bf m s i _ (stQ m s (i + 1)) at h3
    change wtAt (stQ m s (i + 1)).1 i = _ at h4
    refine ⟨h3.ok, hi, h3.z0, h3.mono, fun p hp => ?_, h3.mark, fun p t hp ht hc => ?_, h3.par⟩
    · have := h3.top p hp
      have := h3.mono i (i + 1) (by omega) hi
      omega
    · have hpi : p < i ∨ p = i := by omega
      rcases hpi with e | e
      · exact h3.closed p t hp ht (.inl e)
      · subst e
        exact h3.closed p t hp ht (.inr ⟨rfl, by rw [h4] at ht; exact ht⟩)
/-- a place is what it was -/
theorem stQ_grow {m : Syst} {s : Spc} {i : Nat} {q : List Wt × Mat} : ∀ j, q.1.length ≤ (inQ m s i q j).1.length ∧ ∀ k, k < q.1.length → wtAt (inQ m s i q j).1 k = wtAt q.1 k
  | 0 => by rw [inQ_zero]; exact ⟨Nat.le_refl _, fun _ _ => rfl⟩
  | j + 1 => by
    obtain ⟨h1, h2⟩ := stQ_grow (m := m) (s := s) (i := i) (q := q) j
    by_cases hj : j < (stAt m.states (wtAt q.1 i).x).length
    · rw [inQ_next m s i q j hj]
      exact ⟨Nat.le_trans h1 (addQ_len _ _ _ _ _), fun k hk => by rw [addQ_at _ _ _ _ _ (by omega), h2 k hk]⟩
    · have e : inQ m s i q (j + 1) = inQ m s i q j := by
        unfold inQ
        rw [List.take_of_length_le (by omega), List.take_of_length_le (by omega)]
      rw [e]; exact ⟨h1, h2⟩
theorem stQ_mono {m : Syst} {s : Spc} (i : Nat) : ∀ k, (stQ m s i).1.length ≤ (stQ m s (i + k)).1.length ∧ ∀ p, p < (stQ m s i).1.length → wtAt (stQ m s (i + k)).1 p = wtAt (stQ m s i).1 p
  | 0 => ⟨Nat.le_refl _, fun _ _ => rfl⟩
  | k + 1 => by
    obtain ⟨h1, h2⟩ := stQ_mono (m := m) (s := s) i k
    have h3 := stQ_grow (m := m) (s := s) (i := i + k) (q := stQ m s (i + k)) (stAt m.states (wtAt (stQ m s (i + k)).1 (i + k)).x).length
    change _ ≤ (stQ m s (i + k + 1)).1.length ∧ ∀ p, _ → wtAt (stQ m s (i + k + 1)).1 p = _ at h3
    exact ⟨Nat.le_trans h1 h3.1, fun p hp => by rw [show i + (k + 1) = i + k + 1 from rfl, h3.2 p (by omega), h2 p hp]⟩

theorem next_has {m : Syst} {l : List Nat} {x y t : Nat} {a : Int} (hx : x ∈ l) (ht : t < (stAt m.states x).length) (h1 : (edAt (stAt m.states x) t).1 = a) (h2 : (edAt (stAt m.states x) t).2 = (y : Int)) (hy : y < m.states.length) : y ∈ nextL m.states l a := by
  rw [nextL_mem]
  refine ⟨hy, ?_⟩
  unfold hitP leads
  rw [List.any_eq_true]
  refine ⟨x, hx, ?_⟩
  rw [List.any_eq_true]
  exact ⟨_, edAt_mem ht, by rw [h1, h2]; simp⟩
theorem next_from {m : Syst} {l : List Nat} {y : Nat} {a : Int} (h : y ∈ nextL m.states l a) : ∃ x, x ∈ l ∧ ∃ t, t < (stAt m.states x).length ∧ (edAt (stAt m.states x) t).1 = a ∧ (edAt (stAt m.states x) t).2 = (y : Int) := by
  rw [nextL_mem] at h
  have h2 := h.2
  unfold hitP leads at h2
  rw [List.any_eq_true] at h2
  obtain ⟨x, hx, h3⟩ := h2
  rw [List.any_eq_true] at h3
  obtain ⟨e, he, h4⟩ := h3
  rw [Bool.and_eq_true, decide_eq_true_eq, decide_eq_true_eq] at h4
  obtain ⟨t, ht, rfl⟩ := List.getElem_of_mem he
  have e2 : edAt (stAt m.states x) t = (stAt m.states x)[t] := by simp [edAt, List.getD, ht]
  exact ⟨x, hx, t, ht, by rw [e2]; exact h4.1, by rw [e2]; exact h4.2⟩
theorem afterL_app (ss : List (List Edg)) (w : List Int) (a : Int) : afterL ss (w ++ [a]) = nextL ss (afterL ss w) a := by simp [afterL]

/-- along the word of a place, up to place i, which is the first that does not fit -/
theorem fault_path {m : Syst} {s : Spc} (hm : sysB m = true) (hs : spcB s = true) {i : Nat} (hF : FitsTo m s i) (hi : i < (stQ m s i).1.length) : ∀ p, p ≤ i →
    (∀ w2, faultF m s (spellQ (stQ m s i).1 p p ++ w2) [0] 0 = faultF m s w2 (afterL m.states (spellQ (stQ m s i).1 p p)) ((wtAt (stQ m s i).1 p).y : Int)) ∧
    (wtAt (stQ m s i).1 p).x ∈ afterL m.states (spellQ (stQ m s i).1 p p) ∧
    (∀ x ∈ afterL m.states (spellQ (stQ m s i).1 p p), ∃ r, r < (stQ m s i).1.length ∧ (wtAt (stQ m s i).1 r).x = x ∧ (wtAt (stQ m s i).1 r).y = (wtAt (stQ m s i).1 p).y ∧ lenQ (stQ m s i).1 r ≤ lenQ (stQ m s i).1 p) ∧
    (∀ a ∈ spellQ (stQ m s i).1 p p, 0 ≤ a ∧ a < m.acts.length) := by
  have hB := bf_at hm hs i hF hi
  have hfit : ∀ r, r < i → fitB m s (wtAt (stQ m s i).1 r).x (wtAt (stQ m s i).1 r).y = true := fun r hr => by
    obtain ⟨h1, h2⟩ := hF r hr
    obtain ⟨k, rfl⟩ : ∃ k, i = r + k := ⟨i - r, by omega⟩
    rw [(stQ_mono (m := m) (s := s) r k).2 r h1]
    exact h2
  obtain ⟨q, hq⟩ : ∃ q, stQ m s i = q := ⟨_, rfl⟩
  rw [hq] at hB hi hfit ⊢
  intro p
  induction p using Nat.strongRecOn with
  | ind p ih =>
    intro hp
    rcases Nat.eq_zero_or_pos p with rfl | h0
    · have e : spellQ q.1 0 0 = [] := rfl
      have ea : afterL m.states [] = [0] := rfl
      rw [e, ea, hB.z0.1, hB.z0.2]
      refine ⟨fun w2 => rfl, by simp, fun x hx => ?_, fun a ha => by cases ha⟩
      rw [List.mem_singleton] at hx
      exact ⟨0, by omega, by rw [hB.z0.1, hx], hB.z0.2, Nat.le_refl _⟩
    · have hpl : p < q.1.length := by omega
      have hbf : Bef q.1 := hB.ok.bef
      have hb := hbf p hpl h0
      obtain ⟨t, t1, t2, t3, t4⟩ := hB.par p hpl h0
      obtain ⟨I1, I2, I3, I4⟩ := ih _ hb (by omega)
      have hsp := spell_next hbf hpl h0
      have hln := lenQ_next hbf hpl h0
      have hmi := hB.mono p i hp hi
      have hbl : (wtAt q.1 p).before < q.1.length := by omega
      obtain ⟨r1, r2⟩ := hB.ok.rng _ hbl
      obtain ⟨g1, g2, g3, g4⟩ := edge_ok hm r1 t1
      have hfb := hfit _ (show (wtAt q.1 p).before < i by omega)
      obtain ⟨n1, n2, n3⟩ := fit_next hm hs r1 r2 hfb t1
      have hI : nextI s ((wtAt q.1 (wtAt q.1 p).before).y : Int) (wtAt q.1 p).last = ((wtAt q.1 p).y : Int) := by
        rw [t4]
        unfold nextI nextY
        rw [Int.toNat_natCast, t2]
        omega
      have hgood : ¬ (afterL m.states (spellQ q.1 (wtAt q.1 p).before (wtAt q.1 p).before) = [] ∨ badB m s (afterL m.states (spellQ q.1 (wtAt q.1 p).before (wtAt q.1 p).before)) ((wtAt q.1 (wtAt q.1 p).before).y : Int) = true) := by
        rintro (e | e)
        · rw [e] at I2; cases I2
        · unfold badB at e
          rw [List.any_eq_true] at e
          obtain ⟨x, hx, hx2⟩ := e
          obtain ⟨r, h1, h2, h3, h4⟩ := I3 x hx
          have hri : r < i := by
            rcases Nat.lt_or_ge r i with h5 | h5
            · exact h5
            · have := hB.mono i r h5 h1
              omega
          have h6 := hfit r hri
          rw [h2, h3] at h6
          unfold goodB at hx2
          rw [Int.toNat_natCast, h6, decide_eq_true (by omega)] at hx2
          simp at hx2
      have hpx : (wtAt q.1 p).x < m.states.length := (hB.ok.rng p hpl).1
      refine ⟨fun w2 => ?_, ?_, fun x hx => ?_, fun a ha => ?_⟩
      · rw [hsp, List.append_assoc, I1]
        show faultF m s ((wtAt q.1 p).last :: w2) _ _ = _
        rw [faultF_go hgood (by rw [hI]; omega), hI, afterL_app]
      · rw [hsp, afterL_app]
        exact next_has I2 t1 t2.symm (by rw [t3]; omega) hpx
      · rw [hsp, afterL_app] at hx
        obtain ⟨x', hx', t', k1, k2, k3⟩ := next_from hx
        obtain ⟨r, h1, h2, h3, h4⟩ := I3 x' hx'
        have hri : r < i := by
          rcases Nat.lt_or_ge r i with h5 | h5
          · exact h5
          · have := hB.mono i r h5 h1
            omega
        rw [← h2] at k1 k2 k3
        obtain ⟨r', c1, c2, c3, c4⟩ := hB.closed r t' h1 k1 (.inl hri)
        refine ⟨r', c1, by rw [c2, k3, Int.toNat_natCast], by rw [c3, k2, h3, t4], by omega⟩
      · rw [hsp] at ha
        rcases List.mem_append.1 ha with ha | ha
        · exact I4 a ha
        · rw [List.mem_singleton] at ha
          rw [ha, t2]
          exact ⟨g1, g2⟩
/-- the word of the first pair that does not fit is a fault -/
theorem fault_ok {m : Syst} {s : Spc} (hm : sysB m = true) (hs : spcB s = true) {i : Nat} (hF : FitsTo m s i) (hi : i < (stQ m s i).1.length) (hn : fitB m s (wtAt (stQ m s i).1 i).x (wtAt (stQ m s i).1 i).y = false) :
    faultB m s (spellQ (stQ m s i).1 i i) ((wtAt (stQ m s i).1 i).x : Int) = true := by
  obtain ⟨h1, h2, h3, h4⟩ := fault_path hm hs hF hi i (Nat.le_refl _)
  have h5 := h1 []
  rw [List.append_nil] at h5
  unfold faultB
  rw [h5]
  have ha : actsK m.acts.length (spellQ (stQ m s i).1 i i) = true := by
    unfold actsK
    rw [List.all_eq_true]
    intro a ha
    exact (actK_iff _ _).2 (h4 a ha)
  rw [ha]
  show (true && (decide (((wtAt (stQ m s i).1 i).x : Int) ∈ (afterL m.states (spellQ (stQ m s i).1 i i)).map (fun (x : Nat) => (x : Int))) && !goodB m s ((wtAt (stQ m s i).1 i).x : Int).toNat ((wtAt (stQ m s i).1 i).y : Int))) = true
  rw [decide_eq_true (List.mem_map.2 ⟨_, h2, rfl⟩)]
  unfold goodB
  rw [Int.toNat_natCast, Int.toNat_natCast, hn]
  simp
/-- only one place is the first that does not fit, or the last -/
theorem fit_once {m : Syst} {s : Spc} {i i' : Nat} (h : FitsTo m s i) (h' : FitsTo m s i') (hs : (stQ m s i).1.length = i ∨ fitB m s (wtAt (stQ m s i).1 i).x (wtAt (stQ m s i).1 i).y = false) (hs' : (stQ m s i').1.length = i' ∨ fitB m s (wtAt (stQ m s i').1 i').x (wtAt (stQ m s i').1 i').y = false) : i = i' := by
  rcases Nat.lt_trichotomy i i' with e | e | e
  · obtain ⟨h1, h2⟩ := h' i e
    rcases hs with h3 | h3
    · omega
    · rw [h2] at h3; cases h3
  · exact e
  · obtain ⟨h1, h2⟩ := h i' e
    rcases hs' with h3 | h3
    · omega
    · rw [h2] at h3; cases h3
end Go.Proofs.YtbncofgbpffmkaaGreatDoor
/- Plain facts: the queue of pairs, level by level; rows of pairs; nothing here is about a program. -/
namespace Go.Proofs.YtbncofgbpffmkaaGreatDoor
open Go.RowKit Pl

theorem okq_at {m : Syst} {s : Spc} (hm : sysB m = true) (hs : spcB s = true) : ∀ i, FitsTo m s i → OkQ m s (stQ m s i)
  | 0, _ => OkQ.zero ((sysB_iff m).1 hm).2.1 ((spcB_iff s).1 hs).2.1
  | i + 1, h => by
    obtain ⟨h1, h2⟩ := h i (by omega)
    have := (Bf.inq hm hs (bf_at hm hs i (fun k hk => h k (by omega)) h1) h2 _ (Nat.le_refl _)).1.ok
    exact this
theorem fits_next {m : Syst} {s : Spc} {i : Nat} (h : FitsTo m s i) (hi : i < (stQ m s i).1.length) (hf : fitB m s (wtAt (stQ m s i).1 i).x (wtAt (stQ m s i).1 i).y = true) : FitsTo m s (i + 1) := fun k hk => by
  by_cases e : k < i
  · exact h k e
  · obtain rfl : k = i := by omega
    exact ⟨hi, hf⟩
/-- from place i0 to N0 the words have d actions, behind it one more -/
structure Lev (q : List Wt × Mat) (i0 N0 d : Nat) : Prop where
  b0 : i0 ≤ N0
  b1 : N0 ≤ q.1.length
  lo : ∀ p, i0 ≤ p → p < N0 → lenQ q.1 p = d
  hi : ∀ p, N0 ≤ p → p < q.1.length → lenQ q.1 p = d + 1
theorem Lev.add {s : Spc} {q : List Wt × Mat} {i0 N0 d i y : Nat} {e : Edg} (h : Lev q i0 N0 d) (hB : Bef q.1) (hB' : Bef (addQ s i y q e).1) (h0 : i0 ≤ i) (hN : i < N0) : Lev (addQ s i y q e) i0 N0 d := by
  rcases addQ_two s i y q e with ⟨_, hq⟩ | ⟨_, hq⟩
  · rw [hq]; exact h
  · rw [hq] at hB' ⊢
    obtain ⟨T, hT⟩ : ∃ T : Wt, (⟨i, e.1, e.2.toNat, nextY s y e.1⟩ : Wt) = T := ⟨_, rfl⟩
    have T1 : T.before = i := by rw [← hT]
    rw [hT] at hB' ⊢
    have b1 := h.b1
    have hlen : (q.1 ++ [T]).length = q.1.length + 1 := by simp
    refine ⟨h.b0, by show N0 ≤ (q.1 ++ [T]).length; omega, fun p h1 h2 => ?_, fun p h1 h2 => ?_⟩
    · show lenQ (q.1 ++ [T]) p = d
      rw [lenQ_app hB hB' (by omega)]; exact h.lo p h1 h2
    · show lenQ (q.1 ++ [T]) p = d + 1
      have h2' : p < q.1.length + 1 := by rw [← hlen]; exact h2
      by_cases e : p < q.1.length
      · rw [lenQ_app hB hB' e]; exact h.hi p h1 e
      · obtain rfl : p = q.1.length := by omega
        have hsn : wtAt (q.1 ++ [T]) q.1.length = T := wtAt_snoc _ _
        rw [lenQ_next hB' (by rw [hlen]; omega) (by omega), hsn, T1, lenQ_app hB hB' (by omega), h.lo i h0 hN]
theorem Lev.inq {m : Syst} {s : Spc} (hm : sysB m = true) (hs : spcB s = true) {i i0 N0 d : Nat} {q : List Wt × Mat} (h : Lev q i0 N0 d) (hb : Bf m s i 0 q) (hf : fitB m s (wtAt q.1 i).x (wtAt q.1 i).y = true) (h0 : i0 ≤ i) (hN : i < N0) :
    ∀ j, j ≤ (stAt m.states (wtAt q.1 i).x).length → Lev (inQ m s i q j) i0 N0 d
  | 0, _ => by rw [inQ_zero]; exact h
  | j + 1, hj => by
    have ih := Lev.inq hm hs h hb hf h0 hN j (by omega)
    have h1 := (Bf.inq hm hs hb hf j (by omega)).1.ok.bef
    have h2 := (Bf.inq hm hs hb hf (j + 1) hj).1.ok.bef
    rw [inQ_next m s i q j (by omega)] at h2 ⊢
    exact ih.add h1 h2 h0 hN
theorem Lev.level {q : List Wt × Mat} {i0 N0 d : Nat} (h : Lev q i0 N0 d) : Lev q N0 q.1.length (d + 1) :=
  ⟨h.b1, Nat.le_refl _, h.hi, fun p h1 h2 => by omega⟩
theorem Lev.zero (m : Syst) (s : Spc) : Lev (stQ m s 0) 0 1 0 := ⟨by omega, Nat.le_refl _, fun p _ h => by
  obtain rfl : p = 0 := by omega
  rfl, fun p h1 h2 => by
  have : (stQ m s 0).1.length = 1 := rfl
  omega⟩
/-- the states of the places from n on -/
def xyL (Q : List Wt) (n : Nat) : List (Nat × Nat) := (Q.drop n).map fun t => (t.x, t.y)
theorem xyL_len (Q : List Wt) (n : Nat) : (xyL Q n).length = Q.length - n := by simp [xyL]
theorem xyL_snoc (Q : List Wt) (T : Wt) {n : Nat} (h : n ≤ Q.length) : xyL (Q ++ [T]) n = xyL Q n ++ [(T.x, T.y)] := by
  unfold xyL
  rw [List.drop_append_of_le_length h]
  simp
theorem xyL_at {Q : List Wt} {n r : Nat} (h : n + r < Q.length) : (xyL Q n)[r]? = some ((wtAt Q (n + r)).x, (wtAt Q (n + r)).y) := by
  unfold xyL wtAt
  rw [List.getElem?_map, List.getElem?_drop, List.getElem?_eq_getElem h, List.getD_eq_getElem?_getD, List.getElem?_eq_getElem h]
  rfl
theorem xyL_end (Q : List Wt) : xyL Q Q.length = [] := by simp [xyL]
theorem pcells_snoc (L : List (Nat × Nat)) (x y : Nat) : pcells (L ++ [(x, y)]) = pcells L ++ [.int .i64 x, .int .i64 y] := by simp [pcells]
theorem pcells_len : ∀ L : List (Nat × Nat), (pcells L).length = L.length * 2
  | [] => rfl
  | p :: L => by
    have := pcells_len L
    unfold pcells at this ⊢
    rw [List.flatMap_cons, List.length_append, this]
    simp
    omega
theorem pcells_at : ∀ (L : List (Nat × Nat)) (k : Nat) (x y : Nat), L[k]? = some (x, y) → (pcells L)[k * 2]? = some (.int .i64 x) ∧ (pcells L)[k * 2 + 1]? = some (.int .i64 y)
  | [], k, x, y, h => by simp at h
  | p :: L, 0, x, y, h => by
    simp at h
    subst h
    simp [pcells]
  | p :: L, k + 1, x, y, h => by
    have ih := pcells_at L k x y (by simpa using h)
    have e : pcells (p :: L) = [.int .i64 p.1, .int .i64 p.2] ++ pcells L := by simp [pcells]
    rw [e, show (k + 1) * 2 = 2 + k * 2 by omega, show 2 + k * 2 + 1 = 2 + (k * 2 + 1) by omega]
    rw [List.getElem?_append_right (by simp), List.getElem?_append_right (by simp)]
    simpa using ih
end Go.Proofs.YtbncofgbpffmkaaGreatDoor
/- The reference's SamePairs at equal rows of pairs; the law's zero at the zero verdict. -/
namespace Go.Proofs.YtbncofgbpffmkaaGreatDoor
open Go.RowKit Pl

theorem neqP (a b : Int) (w : World) : (binOp .neq 69 (.agg #[.int .i64 a, .int .i64 b]) (.agg #[.int .i64 a, .int .i64 b])).run Tryz.prog w = .ok (.bool false) w := by
  obtain ⟨i, hi, _, _, _⟩ := info_parts infoInt
  have u3 := Tryz.underlying3
  have a3 := Tryz.isAgg3
  have z3 := Tryz.sizeOf3
  have hc : Tryz.prog.cellsOf 3 = 1 := by kernel_rfl
  rw [run_neq_struct, show (10000 : Nat) = 9999 + 1 from rfl, run_equalIn_array w 9999 _ _ Tryz.underlying69 hi, hc, show List.range 2 = [0, 1] from rfl]
  simp only [Op.eqItems]
  go_simp
theorem guardP (op : BinOp) (x y : Operand) (xs ys : Array Value) (w : World) : (eqGuard op 69 x y (.agg xs) (.agg ys)).run Tryz.prog w = .ok () w := run_eqGuard_agg w op _ x y xs ys (by kernel_rfl)
/-- the cells of a pair of a row -/
theorem pair_cells2 {W : World} {B n : Nat} {v : Value} {L : List (Nat × Nat)} (h : W.ownsRow B 69 2 v n (pcells L)) {r x y : Nat} (hr : r < n) (hL : L[r]? = some (x, y)) :
    ∃ b c, v = .slice (some ⟨b, 0, none⟩) n c ∧ W.cell? ⟨b, r * 2, none⟩ = some (.int .i64 x) ∧ W.cell? ⟨b, r * 2 + 1, none⟩ = some (.int .i64 y) := by
  have h0 := h
  rcases h.2 with ⟨e, e0⟩ | ⟨b, cap, cur, e, _⟩
  · omega
  · subst e
    obtain ⟨h1, h2⟩ := pcells_at L r x y hL
    exact ⟨b, _, rfl, (h0.cellAt _ (by omega)).trans h1, (h0.cellAt _ (by omega)).trans h2⟩
end Go.Proofs.YtbncofgbpffmkaaGreatDoor
