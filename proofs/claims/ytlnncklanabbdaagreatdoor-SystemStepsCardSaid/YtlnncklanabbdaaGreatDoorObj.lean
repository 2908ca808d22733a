/- Plain facts: what a string of an object is read as, whatever its kind and the rows of its states; nothing here is about a program. -/
import Derived.Test.YtlnncklanabbdaaGreatDoorPState
namespace Go.Proofs.YtlnncklanabbdaaGreatDoor.Pl
open Go Go.Lib

/-- the actions of a first line of a kind -/
def headK (kw : List UInt8) (line : List UInt8) : Option (List ByteArray) :=
  match sp 32 line with
  | [] => none
  | h :: r => if h = kw ∧ actsB (r.map mk) = true then some (r.map mk) else none
/-- the line of a state -/
def rowK {R : Type} (rp : List ByteArray → List (List UInt8) → Option R) (acts : List ByteArray) (i : Nat) (line : List UInt8) : Option R :=
  match sp 32 line with
  | [] => none
  | h :: r => if h = decDigits i ++ [58] then rp acts r else none
def rowsK {R : Type} (rp : List ByteArray → List (List UInt8) → Option R) (acts : List ByteArray) : Nat → List (List UInt8) → Option (List R)
  | _, [] => some []
  | i, l :: r => match rowK rp acts i l with
    | none => none
    | some es => (rowsK rp acts (i + 1) r).map fun ss => es :: ss
/-- the actions, the rows, the error -/
def textK {R : Type} (kw : List UInt8) (rp : List ByteArray → List (List UInt8) → Option R) (s : List UInt8) : List ByteArray × List R × Int :=
  if 60000 < s.length then ([], [], 2) else
  match sp 10 (cut1 s) with
  | [] => ([], [], 11)
  | l0 :: ls =>
    match headK kw l0 with
    | none => ([], [], 11)
    | some acts =>
      match rowsK rp acts 0 ls with
      | none => ([], [], 11)
      | some ss => (acts, ss, 0)
theorem rowsK_bad {R : Type} {rp : List ByteArray → List (List UInt8) → Option R} {acts : List ByteArray} : ∀ (ls : List (List UInt8)) (i k : Nat), k < ls.length → rowK rp acts (i + k) (ls.getD k []) = none → rowsK rp acts i ls = none
  | [], i, k, h, _ => by simp at h
  | l :: ls, i, 0, _, h => by
    unfold rowsK
    have : rowK rp acts i l = none := by simpa using h
    rw [this]
  | l :: ls, i, k + 1, hk, h => by
    have ih := rowsK_bad ls (i + 1) k (by simpa using hk) (by rw [Nat.add_right_comm, Nat.add_assoc]; simpa using h)
    unfold rowsK
    rw [ih]
    split <;> rfl
theorem rowsK_good {R : Type} {rp : List ByteArray → List (List UInt8) → Option R} {acts : List ByteArray} : ∀ (ls : List (List UInt8)) (i : Nat) (ss : List R), ss.length = ls.length → (∀ k, k < ls.length → ∃ x, ss[k]? = some x ∧ rowK rp acts (i + k) (ls.getD k []) = some x) → rowsK rp acts i ls = some ss
  | [], i, ss, h, _ => by
    have : ss = [] := List.length_eq_zero_iff.1 (by simpa using h)
    subst this; rfl
  | l :: ls, i, [], h, _ => by simp at h
  | l :: ls, i, es :: ss, h, hg => by
    obtain ⟨x0, h0, h0'⟩ := hg 0 (by simp)
    have ih := rowsK_good ls (i + 1) ss (by simpa using h) (fun k hk => by
      obtain ⟨x, h1, h2⟩ := hg (k + 1) (by simpa using hk)
      exact ⟨x, by simpa using h1, by rw [Nat.add_right_comm, Nat.add_assoc]; simpa using h2⟩)
    unfold rowsK
    have h1 : rowK rp acts i l = some es := by
      simp at h0
      rw [h0]; simpa using h0'
    rw [h1, ih]
    rfl
theorem textK_large {R : Type} {kw : List UInt8} {rp : List ByteArray → List (List UInt8) → Option R} {l : List UInt8} (h : 60000 < l.length) : textK kw rp l = ([], [], 2) := if_pos h
theorem cut1_le (l : List UInt8) : (cut1 l).length ≤ l.length := by
  unfold cut1 Lib.trimSuffix
  split
  · rw [List.length_take]; omega
  · exact Nat.le_refl _
theorem mkd (l : List UInt8) : (mk l).data.toList = l := by simp [mk]
theorem mk_iff (h : List UInt8) (x : ByteArray) : mk h = x ↔ h = x.data.toList := ⟨fun q => by rw [← q, mkd], fun q => by rw [q]; exact mk_of x⟩
end Go.Proofs.YtlnncklanabbdaaGreatDoor.Pl
namespace Go.Proofs.YtlnncklanabbdaaGreatDoor
open Go.RowKit Pl
/-- the lines behind the first one -/
theorem textK_lines {R : Type} (kw : List UInt8) (rp : List ByteArray → List (List UInt8) → Option R) {s : ByteArray} (h : ¬ 60000 < s.data.toList.length) :
    ∃ ls : List (List UInt8), (spB 10 (mk (cut1 s.data.toList))).drop 1 = ls.map mk ∧ (spB 10 (mk (cut1 s.data.toList))).length = ls.length + 1 ∧
    textK kw rp s.data.toList = match headK kw (at_ (spB 10 (mk (cut1 s.data.toList))) 0).data.toList with
      | none => ([], [], 11)
      | some acts => match rowsK rp acts 0 ls with
        | none => ([], [], 11)
        | some ss => (acts, ss, 0) := by
  unfold textK spB
  rw [if_neg h, mkd]
  cases e : sp 10 (cut1 s.data.toList) with
  | nil => exact absurd e (sp_ne _ _)
  | cons l0 ls =>
    refine ⟨ls, rfl, by simp, ?_⟩
    have e1 : (at_ ((l0 :: ls).map mk) 0).data.toList = l0 := by
      show (mk l0).data.toList = l0
      exact mkd l0
    rw [e1]
theorem headK_eq (kw : ByteArray) (s : ByteArray) : headK kw.data.toList s.data.toList = if at_ (spB 32 s) 0 = kw ∧ actsB ((spB 32 s).drop 1) = true then some ((spB 32 s).drop 1) else none := by
  unfold headK spB
  cases e : sp 32 s.data.toList with
  | nil => exact absurd e (sp_ne _ _)
  | cons h r =>
    have e1 : at_ ((h :: r).map mk) 0 = mk h := rfl
    have e2 : ((h :: r).map mk).drop 1 = r.map mk := rfl
    rw [e1, e2]
    simp only [mk_iff]
theorem rowK_eq {R : Type} (rp : List ByteArray → List (List UInt8) → Option R) (acts : List ByteArray) (i : Nat) (s : ByteArray) : ∃ r : List (List UInt8), (spB 32 s).drop 1 = r.map mk ∧ (spB 32 s).length = r.length + 1 ∧ (∀ x ∈ r, x.length ≤ s.size) ∧
    rowK rp acts i s.data.toList = if at_ (spB 32 s) 0 = mk (Lib.decDigits i ++ [58]) then rp acts r else none := by
  have hall : ∀ x ∈ spB 32 s, x.size ≤ s.size := fun x hx => spB_size hx
  unfold rowK
  unfold spB at hall ⊢
  cases e : sp 32 s.data.toList with
  | nil => exact absurd e (sp_ne _ _)
  | cons h r =>
    refine ⟨r, rfl, by simp, fun x hx => ?_, ?_⟩
    · have := hall (mk x) (by rw [e]; exact List.mem_map_of_mem (List.mem_cons_of_mem _ hx))
      rwa [mk_size'] at this
    · have e1 : at_ ((h :: r).map mk) 0 = mk h := rfl
      rw [e1]
      simp only [mk_iff, mkd]
/-- what is read of a system -/
theorem rowsO_K (acts : List ByteArray) : ∀ (ls : List (List UInt8)) (i : Nat), rowsO acts i ls = rowsK edgesO acts i ls
  | [], _ => rfl
  | l :: ls, i => by
    have e : rowO acts i l = rowK edgesO acts i l := by unfold rowO rowK; cases sp 32 l <;> rfl
    unfold rowsO rowsK
    rw [rowsO_K acts ls (i + 1), e]
    cases rowK edgesO acts i l <;> rfl
theorem parseS_K (s : List UInt8) : parseS s = if (textK bSystem edgesO s).2.2 = 0 then (if sysB ⟨(textK bSystem edgesO s).1, (textK bSystem edgesO s).2.1⟩ = true then (⟨(textK bSystem edgesO s).1, (textK bSystem edgesO s).2.1⟩, 0) else (noSys, 20)) else (noSys, (textK bSystem edgesO s).2.2) := by
  unfold parseS textK
  by_cases h : 60000 < s.length
  · rw [if_pos h, if_pos h]; rfl
  · rw [if_neg h, if_neg h]
    cases e : sp 10 (cut1 s) with
    | nil => rfl
    | cons l0 ls =>
      have e1 : headO l0 = headK bSystem l0 := rfl
      simp only [e1]
      cases headK bSystem l0 with
      | none => rfl
      | some acts =>
        simp only [rowsO_K]
        cases rowsK edgesO acts 0 ls with
        | none => rfl
        | some ss => rfl
end Go.Proofs.YtlnncklanabbdaaGreatDoor
