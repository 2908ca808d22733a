/- Plain facts: the relations that show that a system satisfies a specification; nothing here is about a program. -/
import Derived.Test.YtgnbkepdbdgkdaaGreatDoorJq11
namespace Go.Proofs.YtgnbkepdbdgkdaaGreatDoor.Pl
open Go Go.Lib

/-- a pair of states of the one and of the other -/
def inP (k k' : Nat) (p : Int × Int) : Bool := decide (0 ≤ p.1) && decide (p.1 < k) && decide (0 ≤ p.2) && decide (p.2 < k')
theorem inP_iff (k k' : Nat) (p : Int × Int) : inP k k' p = true ↔ 0 ≤ p.1 ∧ p.1 < k ∧ 0 ≤ p.2 ∧ p.2 < k' := by
  unfold inP
  simp only [Bool.and_eq_true, decide_eq_true_eq]
  constructor
  · rintro ⟨⟨⟨h1, h2⟩, h3⟩, h4⟩; exact ⟨h1, h2, h3, h4⟩
  · rintro ⟨h1, h2, h3, h4⟩; exact ⟨⟨⟨h1, h2⟩, h3⟩, h4⟩
/-- the marks of the pairs of a list -/
def markF (F : Mat) (L : List (Int × Int)) : Mat := L.foldl (fun F p => setF F p.1.toNat p.2.toNat) F
/-- what follows a pair of states is marked -/
def closeB (m : Syst) (s : Spc) (F : Mat) (x y : Nat) : Bool := (stAt m.states x).all fun e => getF F e.2.toNat (nextY s y e.1)
def pairB (m : Syst) (s : Spc) (F : Mat) (x y : Nat) : Bool := fitB m s x y && closeB m s F x y
def relB (m : Syst) (s : Spc) (L : List (Int × Int)) : Bool :=
  L.all (inP m.states.length s.states.length) && (L.all fun p => pairB m s (markF (noF m.states.length s.states.length) L) p.1.toNat p.2.toNat) && getF (markF (noF m.states.length s.states.length) L) 0 0
theorem markF_snoc (F : Mat) (L : List (Int × Int)) (p : Int × Int) : markF F (L ++ [p]) = setF (markF F L) p.1.toNat p.2.toNat := by simp [markF]
theorem take_one {α : Type} {L : List α} {j : Nat} {p : α} (h : L[j]? = some p) : L.take (j + 1) = L.take j ++ [p] := by
  obtain ⟨hj, e⟩ := List.getElem?_eq_some_iff.1 h
  rw [List.take_succ_eq_append_getElem hj, e]
theorem markF_shp {k k' : Nat} : ∀ (L : List (Int × Int)) (F : Mat), Shp F k k' → Shp (markF F L) k k'
  | [], _, h => h
  | p :: L, F, h => markF_shp L (setF F p.1.toNat p.2.toNat) (setF_shp h _ _)
theorem markF_get {k k' : Nat} : ∀ (L : List (Int × Int)) (F : Mat), Shp F k k' → (∀ p ∈ L, inP k k' p = true) → ∀ u v : Nat, getF (markF F L) u v = true ↔ getF F u v = true ∨ ((u : Int), (v : Int)) ∈ L
  | [], F, _, _, u, v => by simp [markF]
  | p :: L, F, h, hp, u, v => by
    have hq := (inP_iff k k' p).1 (hp p (List.mem_cons_self ..))
    have ih := markF_get L (setF F p.1.toNat p.2.toNat) (setF_shp h _ _) (fun q hq => hp q (List.mem_cons_of_mem _ hq)) u v
    have e : markF F (p :: L) = markF (setF F p.1.toNat p.2.toNat) L := rfl
    rw [e, ih, setF_get h (by omega) (by omega), Bool.or_eq_true, Bool.and_eq_true, decide_eq_true_eq, decide_eq_true_eq, List.mem_cons, or_assoc]
    have e2 : (u = p.1.toNat ∧ v = p.2.toNat) ↔ ((u : Int), (v : Int)) = p := by
      constructor
      · rintro ⟨h1, h2⟩
        refine Prod.ext ?_ ?_
        · show (u : Int) = p.1
          omega
        · show (v : Int) = p.2
          omega
      · intro h1
        have h2 : (u : Int) = p.1 := congrArg Prod.fst h1
        have h3 : (v : Int) = p.2 := congrArg Prod.snd h1
        omega
    rw [e2]
theorem rowF_mem (r : List Bool) (y : Nat) : y ∈ rowF r ↔ r.getD y false = true := by
  unfold rowF
  rw [List.mem_filter, List.mem_range]
  constructor
  · exact fun h => h.2
  · intro h
    refine ⟨?_, h⟩
    rcases Nat.lt_or_ge y r.length with h1 | h1
    · exact h1
    · rw [List.getD_eq_getElem?_getD, List.getElem?_eq_none h1] at h
      cases h
theorem allF_mem (F : Mat) (x y : Nat) : (x, y) ∈ allF F ↔ getF F x y = true := by
  unfold allF
  rw [List.mem_flatMap]
  constructor
  · rintro ⟨a, ha, hb⟩
    rw [List.mem_map] at hb
    obtain ⟨b, hb, e⟩ := hb
    obtain ⟨rfl, rfl⟩ := Prod.mk.inj e
    exact (rowF_mem _ _).1 hb
  · intro h
    refine ⟨x, ?_, List.mem_map.2 ⟨y, (rowF_mem _ _).2 h, rfl⟩⟩
    rw [List.mem_range]
    rcases Nat.lt_or_ge x F.length with h1 | h1
    · exact h1
    · unfold getF at h
      rw [List.getD_eq_getElem?_getD (l := F), List.getElem?_eq_none h1] at h
      cases h
theorem noF_none (k k' u v : Nat) : ¬ getF (noF k k') u v = true := by
  rw [noF_get]
  exact Bool.false_ne_true
/-- the pairs of the list are what is marked -/
theorem mark_all {k k' : Nat} {L : List (Int × Int)} (hp : ∀ p ∈ L, inP k k' p = true) (f : Nat → Nat → Bool) :
    ((allF (markF (noF k k') L)).all fun p => f p.1 p.2) = L.all fun p => f p.1.toNat p.2.toNat := by
  rw [Bool.eq_iff_iff, List.all_eq_true, List.all_eq_true]
  constructor
  · intro h p hpL
    have hq := (inP_iff k k' p).1 (hp p hpL)
    have h1 : (p.1.toNat, p.2.toNat) ∈ allF (markF (noF k k') L) := by
      rw [allF_mem, markF_get L _ (noF_shp k k') hp]
      refine .inr ?_
      have e : ((p.1.toNat : Int), (p.2.toNat : Int)) = p := by
        refine Prod.ext ?_ ?_
        · show (p.1.toNat : Int) = p.1
          omega
        · show (p.2.toNat : Int) = p.2
          omega
      rw [e]
      exact hpL
    exact h _ h1
  · rintro h ⟨x, y⟩ hx
    rw [allF_mem, markF_get L _ (noF_shp k k') hp] at hx
    rcases hx with hx | hx
    · exact absurd hx (noF_none _ _ _ _)
    · have := h _ hx
      simpa using this
/-- .. told by what is marked -/
theorem relB_marks {m : Syst} {s : Spc} {L : List (Int × Int)} (hp : L.all (inP m.states.length s.states.length) = true) :
    relB m s L = (((allF (markF (noF m.states.length s.states.length) L)).all fun p => pairB m s (markF (noF m.states.length s.states.length) L) p.1 p.2) && getF (markF (noF m.states.length s.states.length) L) 0 0) := by
  unfold relB
  rw [hp, Bool.true_and, mark_all (List.all_eq_true.1 hp) (fun x y => pairB m s (markF (noF m.states.length s.states.length) L) x y)]
theorem all_stop {α : Type} {f : α → Bool} {L : List α} {j : Nat} {p : α} (h : L[j]? = some p) (hf : f p = false) : L.all f = false := by
  rw [Bool.eq_false_iff]
  intro h1
  have := List.all_eq_true.1 h1 p (List.mem_of_getElem? h)
  rw [hf] at this
  cases this
theorem all_next {α : Type} {f : α → Bool} {L : List α} {j : Nat} {p : α} (h : L[j]? = some p) (hf : f p = true) (hj : (L.take j).all f = true) : (L.take (j + 1)).all f = true := by
  rw [take_one h, List.all_append, hj]
  simp [hf]
theorem all_end {α : Type} {f : α → Bool} {L : List α} {j : Nat} (h : L.length ≤ j) (hj : (L.take j).all f = true) : L.all f = true := by
  rwa [List.take_of_length_le h] at hj
end Go.Proofs.YtgnbkepdbdgkdaaGreatDoor.Pl
