/- Plain facts: words of actions; the states after a word; nothing here is about a program. -/
import Derived.Test.YtpmbijlldoiplaaGreatDoorSysPl
namespace Go.Proofs.YtpmbijlldoiplaaGreatDoor.Pl
open Go Go.Lib

def actK (n : Nat) (a : Int) : Bool := decide (0 ≤ a) && decide (a < n)
theorem actK_iff (n : Nat) (a : Int) : actK n a = true ↔ 0 ≤ a ∧ a < n := by simp [actK]
theorem actK_no {n : Nat} {a : Int} (h : a < 0 ∨ n ≤ a) : actK n a = false := by
  rw [Bool.eq_false_iff, Ne, actK_iff]; omega
def actsK (n : Nat) (l : List Int) : Bool := l.all (actK n)
theorem actsK_iff (n : Nat) (l : List Int) : actsK n l = true ↔ ∀ k, k < l.length → 0 ≤ l.getD k 0 ∧ l.getD k 0 < n := by
  unfold actsK
  rw [List.all_eq_true]
  constructor
  · intro h k hk
    have := h (l.getD k 0) (by rw [List.getD_eq_getElem?_getD, List.getElem?_eq_getElem hk]; exact List.getElem_mem hk)
    exact (actK_iff _ _).1 this
  · intro h x hx
    obtain ⟨k, hk, rfl⟩ := List.getElem_of_mem hx
    have := h k hk
    rw [List.getD_eq_getElem?_getD, List.getElem?_eq_getElem hk] at this
    exact (actK_iff _ _).2 this
theorem actsK_bad {n : Nat} {l : List Int} {k : Nat} (hk : k < l.length) (h : actK n (l.getD k 0) = false) : actsK n l = false := by
  rw [Bool.eq_false_iff, Ne, actsK_iff]
  intro h'
  rw [(actK_iff _ _).2 (h' k hk)] at h
  cases h
def wordB (n : Nat) (l : List Int) : Bool := decide (l.length ≤ 10000) && actsK n l

/-- whether an edge with an action leads from some states to another one -/
def leads (l : List Edg) (a : Int) (y : Nat) : Bool := l.any fun e => decide (e.1 = a) && decide (e.2 = (y : Int))
def hitP (ss : List (List Edg)) (from_ : List Nat) (a : Int) (y : Nat) : Bool := from_.any fun x => leads (stAt ss x) a y
def nextL (ss : List (List Edg)) (from_ : List Nat) (a : Int) : List Nat := (List.range ss.length).filter (hitP ss from_ a)
def afterL (ss : List (List Edg)) (word : List Int) : List Nat := word.foldl (nextL ss) [0]
theorem nextL_lt {ss : List (List Edg)} {l : List Nat} {a : Int} : ∀ y ∈ nextL ss l a, y < ss.length := fun y h => by
  unfold nextL at h
  rw [List.mem_filter, List.mem_range] at h
  exact h.1
theorem nextL_mem {ss : List (List Edg)} {l : List Nat} {a : Int} {y : Nat} : y ∈ nextL ss l a ↔ y < ss.length ∧ hitP ss l a y = true := by
  unfold nextL
  rw [List.mem_filter, List.mem_range]
theorem nextL_len (ss : List (List Edg)) (l : List Nat) (a : Int) : (nextL ss l a).length ≤ ss.length := by
  have := List.length_filter_le (hitP ss l a) (List.range ss.length)
  rwa [List.length_range] at this
theorem nextL_sorted (ss : List (List Edg)) (l : List Nat) (a : Int) : (nextL ss l a).Pairwise (· < ·) := List.Pairwise.filter _ List.pairwise_lt_range
theorem afterL_next (ss : List (List Edg)) (word : List Int) (j : Nat) (h : j < word.length) : afterL ss (word.take (j + 1)) = nextL ss (afterL ss (word.take j)) (word.getD j 0) := by
  unfold afterL
  rw [take_next word j 0 h, List.foldl_append]
  rfl
theorem afterL_zero (ss : List (List Edg)) (word : List Int) : afterL ss (word.take 0) = [0] := rfl
theorem afterL_facts {ss : List (List Edg)} (h : 1 ≤ ss.length) (word : List Int) : ∀ j, j ≤ word.length → (∀ y ∈ afterL ss (word.take j), y < ss.length) ∧ (afterL ss (word.take j)).length ≤ ss.length ∧ (afterL ss (word.take j)).Pairwise (· < ·)
  | 0, _ => by
    rw [afterL_zero]
    exact ⟨fun y hy => by simp at hy; omega, by simpa using h, by simp⟩
  | j + 1, hj => by
    rw [afterL_next ss word j (by omega)]
    exact ⟨nextL_lt, nextL_len _ _ _, nextL_sorted _ _ _⟩
theorem leads_take {l : List Edg} {t : Nat} (h : t < l.length) (a : Int) (y : Nat) : leads (l.take (t + 1)) a y = (leads (l.take t) a y || (decide ((l.getD t (0, 0)).1 = a) && decide ((l.getD t (0, 0)).2 = (y : Int)))) := by
  unfold leads
  rw [take_next l t (0, 0) h, List.any_append]
  simp
theorem hitP_take {ss : List (List Edg)} {l : List Nat} {j : Nat} (h : j < l.length) (a : Int) (y : Nat) : hitP ss (l.take (j + 1)) a y = (hitP ss (l.take j) a y || leads (stAt ss (l.getD j 0)) a y) := by
  unfold hitP
  rw [take_next l j 0 h, List.any_append]
  simp

/-! ### rows of Booleans -/
def boolsP (k : Nat) (P : Nat → Bool) : List Value := (List.range k).map fun y => .bool (P y)
theorem boolsP_length (k : Nat) (P : Nat → Bool) : (boolsP k P).length = k := by simp [boolsP]
theorem boolsP_at {k y : Nat} (P : Nat → Bool) (h : y < k) : (boolsP k P)[y]? = some (.bool (P y)) := by simp [boolsP, h]
theorem boolsP_congr {k : Nat} {P Q : Nat → Bool} (h : ∀ y, y < k → P y = Q y) : boolsP k P = boolsP k Q := by
  unfold boolsP
  refine List.map_congr_left fun y hy => ?_
  rw [h y (List.mem_range.1 hy)]
theorem boolsP_set {k t : Nat} (P : Nat → Bool) (ht : t < k) : (boolsP k P).set t (.bool true) = boolsP k (fun y => P y || decide (y = t)) := by
  refine List.ext_getElem? fun i => ?_
  rw [List.getElem?_set]
  by_cases hi : i < k
  · by_cases e : t = i
    · subst e
      rw [if_pos rfl, if_pos (by rw [boolsP_length]; exact hi), boolsP_at _ hi]
      simp
    · rw [if_neg e, boolsP_at P hi, boolsP_at _ hi, decide_eq_false (fun h => e h.symm), Bool.or_false]
  · rw [List.getElem?_eq_none (by rw [boolsP_length]; omega)]
    by_cases e : t = i
    · omega
    · rw [if_neg e, List.getElem?_eq_none (by rw [boolsP_length]; omega)]
theorem boolsP_none (k : Nat) : List.replicate k (Value.bool false) = boolsP k (fun _ => false) := by
  refine List.ext_getElem (by simp [boolsP]) fun i h1 h2 => ?_
  simp [boolsP]
end Go.Proofs.YtpmbijlldoiplaaGreatDoor.Pl
