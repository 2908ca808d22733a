/- Plain facts about specifications: validity, parts; nothing here is about a program. -/
import Derived.Test.YtpmbijlldoiplaaGreatDoorSysPl
namespace Go.Proofs.YtpmbijlldoiplaaGreatDoor.Pl
open Go Go.Lib

/-! ### x &^ L -/
theorem wrap_zero (r : BitVec 64) : IntKind.i64.wrap (r.toNat : Int) = 0 ↔ r = 0#64 := by
  have h := r.isLt
  rw [IntKind.wrap_i64]
  constructor
  · intro e
    apply BitVec.eq_of_toNat_eq
    simp only [BitVec.toNat_ofNat]
    omega
  · rintro rfl
    simp
theorem andNot_zero (x : Int) (h1 : -9223372036854775808 ≤ x) (h2 : x ≤ 9223372036854775807) (L : Nat) (hL : L < 256) :
    bits .andNot .i64 x (L : Int) = 0 ↔ (0 ≤ x ∧ ∀ a, a < 64 → x.toNat.testBit a = true → L.testBit a = true) := by
  show IntKind.i64.wrap ((BitVec.ofInt 64 x &&& ~~~(BitVec.ofInt 64 (L : Int))).toNat : Int) = 0 ↔ _
  rw [wrap_zero]
  have hLb : ∀ i, i < 64 → (BitVec.ofInt 64 (L : Int)).getLsbD i = L.testBit i := fun i hi => by
    rw [BitVec.ofInt_natCast, BitVec.getLsbD_ofNat]
    simp [hi]
  by_cases hx : 0 ≤ x
  · obtain ⟨n, rfl⟩ := Int.eq_ofNat_of_zero_le hx
    have hn : ∀ i, i < 64 → (BitVec.ofInt 64 (n : Int)).getLsbD i = n.testBit i := fun i hi => by
      rw [BitVec.ofInt_natCast, BitVec.getLsbD_ofNat]
      simp [hi]
    constructor
    · intro e
      refine ⟨by omega, fun a ha hb => ?_⟩
      have := congrArg (fun r : BitVec 64 => r.getLsbD a) e
      simp only [BitVec.getLsbD_and, BitVec.getLsbD_not, hn a ha, hLb a ha, BitVec.getLsbD_zero] at this
      simp only [Int.toNat_natCast] at hb
      rw [hb] at this
      simp [ha] at this
      exact this
    · rintro ⟨_, h⟩
      apply BitVec.eq_of_getLsbD_eq
      intro i hi
      rw [BitVec.getLsbD_and, BitVec.getLsbD_not, hn i hi, hLb i hi, BitVec.getLsbD_zero]
      have := h i hi
      simp only [Int.toNat_natCast] at this
      cases hb : n.testBit i
      · simp
      · rw [this hb]; simp
  · constructor
    · intro e
      exfalso
      have := congrArg (fun r : BitVec 64 => r.getLsbD 63) e
      simp only [BitVec.getLsbD_and, BitVec.getLsbD_not, hLb 63 (by decide), BitVec.getLsbD_zero] at this
      have hl : L.testBit 63 = false := Nat.testBit_lt_two_pow (Nat.lt_of_lt_of_le hL (by decide))
      have hm : (BitVec.ofInt 64 x).getLsbD 63 = true := by
        have hm2 : (BitVec.ofInt 64 x).toNat = (x % 18446744073709551616).toNat := by simp [BitVec.toNat_ofInt]
        have hb := BitVec.msb_eq_decide (BitVec.ofInt 64 x)
        rw [BitVec.msb_eq_getLsbD_last] at hb
        rw [show (64 - 1 : Nat) = 63 from rfl] at hb
        rw [hb, decide_eq_true_eq, hm2]
        omega
      rw [hl, hm] at this
      simp at this
    · rintro ⟨h, _⟩
      exact absurd h hx

/-- a state: the sets that it accepts, and the next states -/
abbrev Ste := List Int × List Int
structure Spc where
  acts : List ByteArray
  states : List Ste
def teAt (s : List Ste) (i : Nat) : Ste := s.getD i ([], [])
def okNext (ns : Nat) (k : Int) : Bool := decide (-1 ≤ k) && decide (k < ns)
theorem okNext_iff (ns : Nat) (k : Int) : okNext ns k = true ↔ -1 ≤ k ∧ k < ns := by simp [okNext]
def nextB (na ns : Nat) (next : List Int) : Bool := decide (next.length = na) && (List.range next.length).all (fun j => okNext ns (next.getD j 0))
theorem nextB_iff (na ns : Nat) (next : List Int) : nextB na ns next = true ↔ next.length = na ∧ ∀ j, j < next.length → okNext ns (next.getD j 0) = true := by
  simp only [nextB, Bool.and_eq_true, decide_eq_true_eq, List.all_eq_true, List.mem_range]
/-- an action that leads on -/
def leadP (next : List Int) (a : Nat) : Bool := decide (a < next.length) && decide (next.getD a 0 ≠ -1)
/-- the set of the actions that lead on -/
def leadN (next : List Int) : Nat → Nat
  | 0 => 0
  | j + 1 => if next.getD j 0 ≠ -1 then leadN next j ||| 2 ^ j else leadN next j
theorem leadN_bit (next : List Int) (a : Nat) : ∀ j, (leadN next j).testBit a = (decide (a < j) && decide (next.getD a 0 ≠ -1))
  | 0 => by simp [leadN]
  | j + 1 => by
    have ih := leadN_bit next a j
    unfold leadN
    by_cases h : next.getD j 0 ≠ -1
    · rw [if_pos h, Nat.testBit_or, ih, Nat.testBit_two_pow]
      by_cases e : a = j
      · subst e
        rw [decide_eq_true h]
        simp
      · rw [decide_eq_false (fun e2 : j = a => e e2.symm), Bool.or_false]
        congr 1
        rw [decide_eq_decide]
        omega
    · rw [if_neg h, ih]
      by_cases e : a = j
      · subst e
        rw [decide_eq_false h]
        simp
      · congr 1
        rw [decide_eq_decide]
        omega
theorem leadN_lt (next : List Int) : ∀ j, j ≤ 8 → leadN next j < 256
  | 0, _ => by simp [leadN]
  | j + 1, h => by
    have ih := leadN_lt next j (by omega)
    unfold leadN
    split
    · exact Nat.or_lt_two_pow (n := 8) ih (Nat.pow_lt_pow_right (by decide) (by omega))
    · exact ih
def okSet (next : List Int) (x : Int) : Bool := decide (0 ≤ x) && (List.range 64).all (fun a => !(x.toNat.testBit a) || leadP next a)
theorem okSet_iff (next : List Int) (x : Int) : okSet next x = true ↔ 0 ≤ x ∧ ∀ a, a < 64 → x.toNat.testBit a = true → leadP next a = true := by
  simp only [okSet, Bool.and_eq_true, decide_eq_true_eq, List.all_eq_true, List.mem_range, Bool.or_eq_true, Bool.not_eq_true']
  constructor
  · rintro ⟨h0, h⟩
    exact ⟨h0, fun a ha hb => by
      rcases h a ha with h | h
      · rw [hb] at h; cases h
      · exact h⟩
  · rintro ⟨h0, h⟩
    exact ⟨h0, fun a ha => by
      cases hb : x.toNat.testBit a
      · exact .inl rfl
      · exact .inr (h a ha hb)⟩
theorem okSet_lead {next : List Int} (hn : next.length ≤ 8) (x : Int) (h1 : -9223372036854775808 ≤ x) (h2 : x ≤ 9223372036854775807) :
    (bits .andNot .i64 x (leadN next next.length : Int) = 0) ↔ okSet next x = true := by
  rw [andNot_zero x h1 h2 _ (leadN_lt next _ hn), okSet_iff]
  simp only [leadN_bit, leadP]
def risB (acc : List Int) (i : Nat) : Bool := decide (i = 0) || decide (acc.getD (i - 1) 0 < acc.getD i 0)
def accB (acc next : List Int) : Bool := (List.range acc.length).all (fun i => okSet next (acc.getD i 0) && risB acc i)
theorem accB_iff (acc next : List Int) : accB acc next = true ↔ ∀ i, i < acc.length → okSet next (acc.getD i 0) = true ∧ risB acc i = true := by
  simp only [accB, List.all_eq_true, List.mem_range, Bool.and_eq_true]
theorem accB_bad {acc next : List Int} {i : Nat} (hi : i < acc.length) (h : okSet next (acc.getD i 0) = false ∨ risB acc i = false) : accB acc next = false := by
  rw [Bool.eq_false_iff, Ne, accB_iff]
  intro h'
  obtain ⟨a, b⟩ := h' i hi
  rcases h with h | h
  · rw [a] at h; cases h
  · rw [b] at h; cases h
def steB (na ns : Nat) (t : Ste) : Bool := nextB na ns t.2 && accB t.1 t.2
/-- a valid specification -/
def spcB (s : Spc) : Bool := actsB s.acts && decide (1 ≤ s.states.length) && decide (s.states.length ≤ 500) && (List.range s.states.length).all (fun i => steB s.acts.length s.states.length (teAt s.states i))
theorem spcB_iff (s : Spc) : spcB s = true ↔ actsB s.acts = true ∧ 1 ≤ s.states.length ∧ s.states.length ≤ 500 ∧ ∀ i, i < s.states.length → steB s.acts.length s.states.length (teAt s.states i) = true := by
  simp only [spcB, Bool.and_eq_true, decide_eq_true_eq, List.all_eq_true, List.mem_range, and_assoc]
theorem spcB_acts {s : Spc} (h : actsB s.acts = false) : spcB s = false := by simp [spcB, h]
theorem spcB_few {s : Spc} (h : s.states.length < 1) : spcB s = false := by
  rw [Bool.eq_false_iff, Ne, spcB_iff]; omega
theorem spcB_many {s : Spc} (h : 500 < s.states.length) : spcB s = false := by
  rw [Bool.eq_false_iff, Ne, spcB_iff]; omega
theorem spcB_ste {s : Spc} (i : Nat) (hi : i < s.states.length) (h : steB s.acts.length s.states.length (teAt s.states i) = false) : spcB s = false := by
  rw [Bool.eq_false_iff, Ne, spcB_iff]
  rintro ⟨_, _, _, h'⟩
  rw [h' i hi] at h; cases h
/-- the numbers of its states -/
def totalS (s : List Ste) : Nat := (s.map fun t => t.1.length + t.2.length).sum
theorem totalS_snoc (s : List Ste) (t : Ste) : totalS (s ++ [t]) = totalS s + (t.1.length + t.2.length) := by simp [totalS]
theorem totalS_take (s : List Ste) (k : Nat) (h : k < s.length) : totalS (s.take (k + 1)) = totalS (s.take k) + ((teAt s k).1.length + (teAt s k).2.length) := by
  rw [take_next s k ([], []) h, totalS_snoc]; rfl
theorem totalS_take_le (s : List Ste) : ∀ (k : Nat), totalS (s.take k) ≤ totalS s := by
  intro k
  have e : totalS s = totalS (s.take k) + totalS (s.drop k) := by
    unfold totalS
    rw [List.map_take, List.map_drop, ← List.sum_append, List.take_append_drop]
  omega
def fewS (s : Spc) (most : Nat) : Bool := decide (s.acts.length + s.states.length + totalS s.states ≤ most)
theorem fewS_iff (s : Spc) (most : Nat) : fewS s most = true ↔ s.acts.length + s.states.length + totalS s.states ≤ most := by simp [fewS]
end Go.Proofs.YtpmbijlldoiplaaGreatDoor.Pl
