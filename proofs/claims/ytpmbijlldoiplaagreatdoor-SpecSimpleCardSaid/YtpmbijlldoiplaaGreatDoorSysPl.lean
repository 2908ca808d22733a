/- Plain facts about systems: validity, and the lists of edges; nothing here is about a program. -/
import Derived.Test.YtpmbijlldoiplaaGreatDoorPlain
namespace Go.Proofs.YtpmbijlldoiplaaGreatDoor.Pl
open Go Go.Lib

abbrev Edg := Int × Int
/-- a system: the names of its actions, and the edges (action, state) of each state -/
structure Syst where
  acts : List ByteArray
  states : List (List Edg)

def stAt (s : List (List Edg)) (i : Nat) : List Edg := s.getD i []
def edAt (l : List Edg) (k : Nat) : Edg := l.getD k (0, 0)
/-- an edge precedes another one -/
def ltE (d e : Edg) : Bool := decide (d.1 < e.1) || (decide (d.1 = e.1) && decide (d.2 < e.2))
theorem ltE_iff (d e : Edg) : ltE d e = true ↔ d.1 < e.1 ∨ (d.1 = e.1 ∧ d.2 < e.2) := by simp [ltE]
theorem ltE_false (d e : Edg) : ltE d e = false ↔ e.1 < d.1 ∨ (d.1 = e.1 ∧ e.2 ≤ d.2) := by
  rw [Bool.eq_false_iff, Ne, ltE_iff]; omega
def okE (na ns : Nat) (e : Edg) : Bool := decide (0 ≤ e.1) && decide (e.1 < na) && decide (0 ≤ e.2) && decide (e.2 < ns)
theorem okE_iff (na ns : Nat) (e : Edg) : okE na ns e = true ↔ 0 ≤ e.1 ∧ e.1 < na ∧ 0 ≤ e.2 ∧ e.2 < ns := by simp [okE, and_assoc]
/-- the test of the edge at a place -/
def edgeB (na ns : Nat) (l : List Edg) (k : Nat) : Bool := okE na ns (edAt l k) && (decide (k = 0) || ltE (edAt l (k - 1)) (edAt l k))
def edgesB (na ns : Nat) (l : List Edg) : Bool := (List.range l.length).all (edgeB na ns l)
theorem edgesB_iff (na ns : Nat) (l : List Edg) : edgesB na ns l = true ↔ ∀ k, k < l.length → edgeB na ns l k = true := by simp [edgesB]
theorem edgesB_bad {na ns : Nat} {l : List Edg} {k : Nat} (hk : k < l.length) (h : edgeB na ns l k = false) : edgesB na ns l = false := by
  rw [Bool.eq_false_iff, Ne, edgesB_iff]
  intro h'
  rw [h' k hk] at h; cases h
theorem edgesB_good {na ns : Nat} {l : List Edg} (h : ∀ k, k < l.length → edgeB na ns l k = true) : edgesB na ns l = true := (edgesB_iff na ns l).2 h
theorem edgeB_out {na ns : Nat} {l : List Edg} {k : Nat} (h : okE na ns (edAt l k) = false) : edgeB na ns l k = false := by simp [edgeB, h]
theorem edgeB_back {na ns : Nat} {l : List Edg} {k : Nat} (h0 : 0 < k) (h : ltE (edAt l (k - 1)) (edAt l k) = false) : edgeB na ns l k = false := by
  have : decide (k = 0) = false := by simp; omega
  simp [edgeB, h, this]
theorem edgeB_zero {na ns : Nat} {l : List Edg} (h : okE na ns (edAt l 0) = true) : edgeB na ns l 0 = true := by simp [edgeB, h]
theorem edgeB_next {na ns : Nat} {l : List Edg} {k : Nat} (h : okE na ns (edAt l k) = true) (h' : ltE (edAt l (k - 1)) (edAt l k) = true) : edgeB na ns l k = true := by simp [edgeB, h, h']

/-- the number of edges -/
def total (s : List (List Edg)) : Nat := (s.map List.length).sum
theorem total_nil : total [] = 0 := rfl
theorem total_snoc (s : List (List Edg)) (l : List Edg) : total (s ++ [l]) = total s + l.length := by simp [total]
theorem take_next {α : Type} (s : List α) (k : Nat) (d : α) (h : k < s.length) : s.take (k + 1) = s.take k ++ [s.getD k d] := by
  rw [List.take_succ_eq_append_getElem h, List.getD_eq_getElem?_getD, List.getElem?_eq_getElem h]; rfl
theorem total_take (s : List (List Edg)) (k : Nat) (h : k < s.length) : total (s.take (k + 1)) = total (s.take k) + (stAt s k).length := by
  rw [take_next s k [] h, total_snoc]; rfl
theorem total_take_le (s : List (List Edg)) : ∀ (k : Nat), total (s.take k) ≤ total s := by
  intro k
  have e : total s = total (s.take k) + total (s.drop k) := by
    unfold total
    rw [List.map_take, List.map_drop, ← List.sum_append, List.take_append_drop]
  omega

/-- a valid system -/
def sysB (m : Syst) : Bool :=
  actsB m.acts && decide (1 ≤ m.states.length) && decide (m.states.length ≤ 5000) && (List.range m.states.length).all (fun i => edgesB m.acts.length m.states.length (stAt m.states i)) && decide (total m.states ≤ 400000)
theorem sysB_iff (m : Syst) : sysB m = true ↔ actsB m.acts = true ∧ 1 ≤ m.states.length ∧ m.states.length ≤ 5000 ∧ (∀ i, i < m.states.length → edgesB m.acts.length m.states.length (stAt m.states i) = true) ∧ total m.states ≤ 400000 := by
  simp [sysB, and_assoc]
theorem sysB_acts {m : Syst} (h : actsB m.acts = false) : sysB m = false := by simp [sysB, h]
theorem sysB_few {m : Syst} (h : m.states.length < 1) : sysB m = false := by
  rw [Bool.eq_false_iff, Ne, sysB_iff]; omega
theorem sysB_many {m : Syst} (h : 5000 < m.states.length) : sysB m = false := by
  rw [Bool.eq_false_iff, Ne, sysB_iff]; omega
theorem sysB_total {m : Syst} (h : 400000 < total m.states) : sysB m = false := by
  rw [Bool.eq_false_iff, Ne, sysB_iff]; omega
theorem sysB_edges {m : Syst} (i : Nat) (hi : i < m.states.length) (h : edgesB m.acts.length m.states.length (stAt m.states i) = false) : sysB m = false := by
  rw [Bool.eq_false_iff, Ne, sysB_iff]
  rintro ⟨_, _, _, h', _⟩
  rw [h' i hi] at h; cases h
theorem sysB_good {m : Syst} (h1 : actsB m.acts = true) (h2 : 1 ≤ m.states.length) (h3 : m.states.length ≤ 5000) (h4 : ∀ i, i < m.states.length → edgesB m.acts.length m.states.length (stAt m.states i) = true) (h5 : total m.states ≤ 400000) : sysB m = true :=
  (sysB_iff m).2 ⟨h1, h2, h3, h4, h5⟩

/-- at most so many parts -/
def fewB (m : Syst) (most : Nat) : Bool := decide (m.acts.length + m.states.length + total m.states ≤ most)
theorem fewB_iff (m : Syst) (most : Nat) : fewB m most = true ↔ m.acts.length + m.states.length + total m.states ≤ most := by simp [fewB]
end Go.Proofs.YtpmbijlldoiplaaGreatDoor.Pl
