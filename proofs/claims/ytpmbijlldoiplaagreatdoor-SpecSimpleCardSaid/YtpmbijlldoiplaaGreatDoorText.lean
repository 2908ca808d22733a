/- Plain facts about the string of a system: its lines, its words, and how it is read back; nothing here is about a program. -/
import Derived.Test.YtpmbijlldoiplaaGreatDoorSysPl
import Derived.Test.YtpmbijlldoiplaaGreatDoorParts
import Derived.Lib.ItoaNum
import Derived.Lib.AtoiAllCases
import Derived.Lib.Split
import Derived.Lib.IndexBytes
namespace Go.Proofs.YtpmbijlldoiplaaGreatDoor.Pl
open Go Go.Lib

/-! ### the parts of a string between some bytes -/
def sp (c : UInt8) : List UInt8 → List (List UInt8)
  | [] => [[]]
  | x :: r => if x = c then [] :: sp c r else match sp c r with | [] => [[x]] | p :: ps => (x :: p) :: ps
theorem sp_ne (c : UInt8) (l : List UInt8) : sp c l ≠ [] := by
  cases l with
  | nil => simp [sp]
  | cons x r =>
    unfold sp
    split
    · simp
    · split <;> simp
theorem sp_at (c : UInt8) (r : List UInt8) : sp c (c :: r) = [] :: sp c r := by simp [sp]
theorem sp_other {c x : UInt8} (h : x ≠ c) (r : List UInt8) : ∃ p ps, sp c r = p :: ps ∧ sp c (x :: r) = (x :: p) :: ps := by
  cases e : sp c r with
  | nil => exact absurd e (sp_ne c r)
  | cons p ps => exact ⟨p, ps, rfl, by simp [sp, h, e]⟩
theorem sp_plain (c : UInt8) : ∀ x : List UInt8, c ∉ x → sp c x = [x]
  | [], _ => rfl
  | y :: r, h => by
    have hc : y ≠ c := fun e => h (by simp [e])
    obtain ⟨p, ps, h1, h2⟩ := sp_other hc r
    rw [sp_plain c r (fun hm => h (by simp [hm]))] at h1
    cases h1
    exact h2
theorem sp_app (c : UInt8) : ∀ (x l : List UInt8), c ∉ x → sp c (x ++ c :: l) = x :: sp c l
  | [], l, _ => sp_at c l
  | y :: r, l, h => by
    have hc : y ≠ c := fun e => h (by simp [e])
    obtain ⟨p, ps, h1, h2⟩ := sp_other hc (r ++ c :: l)
    rw [sp_app c r l (fun hm => h (by simp [hm]))] at h1
    cases h1
    exact h2
theorem sp_join (c : UInt8) : ∀ xs : List (List UInt8), xs ≠ [] → (∀ x ∈ xs, c ∉ x) → sp c (join xs [c]) = xs
  | [], h, _ => absurd rfl h
  | [x], _, h => by rw [join_one]; exact sp_plain c x (h x (by simp))
  | x :: y :: r, _, h => by
    have ih := sp_join c (y :: r) (by simp) (fun z hz => h z (List.mem_cons_of_mem _ hz))
    have e : join (x :: y :: r) [c] = x ++ c :: join (y :: r) [c] := by
      rw [join_cons, join_cons]
      simp [joinTail]
    rw [e, sp_app c x _ (h x (by simp)), ih]
theorem sp_miss (c : UInt8) : ∀ l : List UInt8, index l [c] = -1 → sp c l = [l] := fun l h => by
  rw [index_one] at h
  refine sp_plain c l ?_
  induction l with
  | nil => simp
  | cons x r ih =>
    unfold indexByte at h
    have hg := indexByte_ge r c
    by_cases hc : x = c
    · rw [if_pos (by simp [hc])] at h; omega
    · rw [if_neg (by simp [hc])] at h
      by_cases hr : indexByte r c = -1
      · intro hm
        rcases List.mem_cons.1 hm with h1 | h1
        · exact hc h1.symm
        · exact ih hr h1
      · rw [if_neg (by simpa using hr)] at h; omega
theorem byte_hit (c : UInt8) : ∀ (l : List UInt8) (i : Nat), indexByte l c = i → i < l.length ∧ c ∉ l.take i ∧ l = l.take i ++ c :: l.drop (i + 1)
  | [], i, h => by unfold indexByte at h; omega
  | x :: r, i, h => by
    unfold indexByte at h
    have hg := indexByte_ge r c
    by_cases hc : x = c
    · rw [if_pos (by simp [hc])] at h
      obtain rfl : i = 0 := by omega
      subst hc
      exact ⟨by simp, by simp, by simp⟩
    · rw [if_neg (by simp [hc])] at h
      by_cases hr : indexByte r c = -1
      · rw [if_pos (by simpa using hr)] at h; omega
      · rw [if_neg (by simpa using hr)] at h
        obtain ⟨j, rfl⟩ : ∃ j, i = j + 1 := ⟨i - 1, by omega⟩
        obtain ⟨h1, h2, h3⟩ := byte_hit c r j (by omega)
        refine ⟨by simp; omega, ?_, ?_⟩
        · intro hm
          rw [List.take_succ_cons] at hm
          rcases List.mem_cons.1 hm with h4 | h4
          · exact hc h4.symm
          · exact h2 h4
        · rw [List.take_succ_cons, List.drop_succ_cons, List.cons_append, ← h3]
theorem sp_hit (c : UInt8) (l : List UInt8) (i : Nat) (h : index l [c] = i) : i < l.length ∧ sp c l = l.take i :: sp c (l.drop (i + 1)) := by
  rw [index_one] at h
  obtain ⟨h1, h2, h3⟩ := byte_hit c l i h
  refine ⟨h1, ?_⟩
  conv => lhs; rw [h3]
  exact sp_app c _ _ h2
theorem split_sp (c : UInt8) : ∀ (n : Nat) (l : List UInt8), l.length ≤ n → splitK [c] 0 (count l [c]) l = sp c l := by
  intro n
  induction n with
  | zero =>
    intro l h
    have : l = [] := List.length_eq_zero_iff.1 (by omega)
    subst this
    rfl
  | succ n ih =>
    intro l hl
    by_cases hm : index l [c] = -1
    · rw [count_miss hm, sp_miss c l hm]; rfl
    · obtain ⟨i, hi⟩ : ∃ i : Nat, index l [c] = i := by
        have hg := indexByte_ge l c
        rw [← index_one] at hg
        exact Int.eq_ofNat_of_zero_le (by omega)
      obtain ⟨h1, h2⟩ := sp_hit c l i hi
      rw [count_hit (by simp) hi, Nat.add_comm 1, splitK, if_neg (by simpa using hm), hi, h2]
      simp only [Int.toNat_natCast, Nat.add_zero, List.length_cons, List.length_nil, Nat.zero_add]
      rw [ih _ (by rw [List.length_drop]; omega)]

/-! ### numbers -/
theorem dec_split (n : Nat) : decDigits n = (if n < 10 then [] else decDigits (n / 10)) ++ [UInt8.ofNat (48 + n % 10)] := by
  rw [decDigits]
  by_cases h : n < 10
  · rw [dif_pos h, if_pos h, Nat.mod_eq_of_lt h]; rfl
  · rw [dif_neg h, if_neg h]
def digB (c : UInt8) : Bool := decide (48 ≤ c.toNat) && decide (c.toNat ≤ 57)
theorem digB_iff (c : UInt8) : digB c = true ↔ 48 ≤ c.toNat ∧ c.toNat ≤ 57 := by simp [digB]
theorem dig_of (d : Nat) (h : d < 10) : (UInt8.ofNat (48 + d)).toNat = 48 + d := by
  rw [UInt8.toNat_ofNat']; omega
/-- what digits spell -/
def decV (l : List UInt8) : Nat := l.foldl (fun n c => 10 * n + (c.toNat - 48)) 0
theorem decV_snoc (l : List UInt8) (c : UInt8) : decV (l ++ [c]) = 10 * decV l + (c.toNat - 48) := by simp [decV]
theorem dec_facts (n : Nat) : (decDigits n).all digB = true ∧ decV (decDigits n) = n ∧ decDigits n ≠ [] ∧ (1 < (decDigits n).length → (decDigits n).head? ≠ some 48) := by
  induction n using Nat.strongRecOn with
  | ind n ih =>
    rw [dec_split]
    by_cases h : n < 10
    · rw [if_pos h, List.nil_append, Nat.mod_eq_of_lt h]
      have e := dig_of n h
      refine ⟨?_, ?_, by simp, by simp⟩
      · rw [List.all_cons, List.all_nil, Bool.and_true, digB_iff, e]; omega
      · simp only [decV, List.foldl_cons, List.foldl_nil, e]; omega
    · rw [if_neg h]
      obtain ⟨i1, i2, i3, i4⟩ := ih (n / 10) (by omega)
      have e := dig_of (n % 10) (by omega)
      refine ⟨?_, ?_, by simp, fun _ => ?_⟩
      · rw [List.all_append, i1, List.all_cons, List.all_nil, Bool.and_true, Bool.true_and, digB_iff, e]; omega
      · rw [decV_snoc, i2, e]; omega
      · cases hd : decDigits (n / 10) with
        | nil => exact absurd hd i3
        | cons x r =>
          rw [List.cons_append, List.head?_cons]
          rw [hd] at i4
          cases r with
          | nil =>
            -- one digit: it is that of n / 10, which is not 0
            intro hx
            cases hx
            have : decV (decDigits (n / 10)) = 0 := by rw [hd]; rfl
            omega
          | cons y r => exact i4 (by simp)
/-- the number of a string, at most the greatest int -/
def numV (l : List UInt8) : Option Int :=
  if l = [] then none else if 1 < l.length ∧ l.head? = some 48 then none else if l.all digB = true then some (min (decV l : Int) 9223372036854775807) else none
theorem numV_dec (n : Nat) (h : n ≤ 9223372036854775807) : numV (decDigits n) = some (n : Int) := by
  obtain ⟨h1, h2, h3, h4⟩ := dec_facts n
  unfold numV
  rw [if_neg h3, if_neg (fun hh => h4 hh.1 hh.2), if_pos h1, h2]
  congr 1
  omega
theorem numV_nil : numV [] = none := rfl
theorem numV_lead {l : List UInt8} (h1 : 1 < l.length) (h2 : l.head? = some 48) : numV l = none := by
  unfold numV
  split
  · rfl
  · rw [if_pos ⟨h1, h2⟩]
theorem numV_bad {l : List UInt8} (h : l.all digB = false) : numV l = none := by
  unfold numV
  split
  · rfl
  · split
    · rfl
    · rw [if_neg (by rw [h]; simp)]
theorem numV_good {l : List UInt8} (h0 : l ≠ []) (h1 : ¬ (1 < l.length ∧ l.head? = some 48)) (h2 : l.all digB = true) : numV l = some (min (decV l : Int) 9223372036854775807) := by
  unfold numV
  rw [if_neg h0, if_neg h1, if_pos h2]
theorem numV_range {l : List UInt8} {x : Int} (h : numV l = some x) : 0 ≤ x ∧ x ≤ 9223372036854775807 := by
  unfold numV at h
  split at h
  · cases h
  · split at h
    · cases h
    · split at h
      · cases h
        omega
      · cases h

/-! ### strconv.Atoi at digits -/
theorem uint_digits : ∀ (l : List UInt8) (acc : Nat), l.all digB = true → acc < 18446744073709551616 →
    (parseUint10 acc l = .ok (l.foldl (fun n c => 10 * n + (c.toNat - 48)) acc) ∧ l.foldl (fun n c => 10 * n + (c.toNat - 48)) acc < 18446744073709551616) ∨
      (parseUint10 acc l = .range ∧ 18446744073709551616 ≤ l.foldl (fun n c => 10 * n + (c.toNat - 48)) acc)
  | [], acc, _, ha => .inl ⟨rfl, ha⟩
  | c :: r, acc, h, ha => by
    rw [List.all_cons, Bool.and_eq_true, digB_iff] at h
    have grow : ∀ (r : List UInt8) (a : Nat), a ≤ r.foldl (fun n c => 10 * n + (c.toNat - 48)) a := by
      intro r
      induction r with
      | nil => intro a; exact Nat.le_refl _
      | cons c r ih => intro a; rw [List.foldl_cons]; exact Nat.le_trans (by omega) (ih _)
    rw [List.foldl_cons]
    simp only [parseUint10]
    rw [if_pos h.1]
    have e : acc * 10 + (c.toNat - 48) = 10 * acc + (c.toNat - 48) := by omega
    by_cases h1 : 1844674407370955162 ≤ acc
    · rw [if_pos h1]
      refine .inr ⟨rfl, ?_⟩
      have := grow r (10 * acc + (c.toNat - 48))
      omega
    · rw [if_neg h1, e]
      by_cases h2 : 18446744073709551616 ≤ 10 * acc + (c.toNat - 48)
      · rw [if_pos h2]
        exact .inr ⟨rfl, Nat.le_trans h2 (grow r _)⟩
      · rw [if_neg h2]
        exact uint_digits r _ h.2 (by omega)
/-- what Atoi hands back beside its error, at digits -/
theorem atoi_digits {l : List UInt8} (h0 : l ≠ []) (h : l.all digB = true) :
    (atoiAll l = .ok (min (decV l : Int) 9223372036854775807)) ∨ (atoiAll l = .range ∧ atoiSat l = min (decV l : Int) 9223372036854775807) := by
  cases l with
  | nil => exact absurd rfl h0
  | cons c r =>
    have hc := h
    rw [List.all_cons, Bool.and_eq_true, digB_iff] at hc
    have hu := uint_digits (c :: r) 0 h (by omega)
    have hd : (c :: r).foldl (fun n c => 10 * n + (c.toNat - 48)) 0 = decV (c :: r) := rfl
    rw [hd] at hu
    rw [atoiAll_plain c r (by omega) (by omega), atoiSat_other c r (by omega)]
    have hm : parseMag (c :: r) = parseUint10 0 (c :: r) := by unfold parseMag; rw [if_neg (by simp)]
    rw [hm]
    rcases hu with ⟨h1, h2⟩ | ⟨h1, h2⟩
    · rw [h1]
      unfold signless
      by_cases h3 : 9223372036854775808 ≤ decV (c :: r)
      · right
        simp only [if_pos h3]
        exact ⟨trivial, by omega⟩
      · left
        simp only [if_neg h3]
        congr 1
        omega
    · right
      rw [h1]
      exact ⟨rfl, by omega⟩
end Go.Proofs.YtpmbijlldoiplaaGreatDoor.Pl
