/- Texts joined: Plain, Names, Lists, Is. -/
import Derived.Laws.Strings
import Derived.Lib.SlicesS
import Derived.Lib.Hide
import Derived.Laws.BitsLemmas
import Derived.Lib.Join
import Derived.Test.YtgnbkepdbdgkdaaGreatDoorChecked
import Derived.WalkKit
import Derived.WalkSpells
import Derived.WalkLawsBesides
import Derived.IntWalk
import Derived.BigGuard
import Derived.LaidEql
import Derived.Stop.Asserts
import Derived.RowKitTokens
/- Plain facts about names, lists of actions and sets of them; nothing here is about a program. -/
namespace Go.Proofs.YtgnbkepdbdgkdaaGreatDoor.Pl
open Go Go.Lib

/-! ### bytes of names -/
def letB (c : Int) : Bool := (decide (97 ≤ c) && decide (c ≤ 122)) || (decide (65 ≤ c) && decide (c ≤ 90))
def nmB (c : Int) : Bool := letB c || (decide (48 ≤ c) && decide (c ≤ 57)) || decide (c = 45) || decide (c = 95)
theorem letB_iff (c : Int) : letB c = true ↔ (97 ≤ c ∧ c ≤ 122) ∨ (65 ≤ c ∧ c ≤ 90) := by simp [letB]
theorem nmB_iff (c : Int) : nmB c = true ↔ letB c = true ∨ (48 ≤ c ∧ c ≤ 57) ∨ c = 45 ∨ c = 95 := by simp [nmB, or_assoc]

/-- the byte at a place, 0 behind the end -/
def byteAt (s : ByteArray) (k : Nat) : Int := ((s.data.toList.getD k 0).toNat : Int)
theorem byteAt_lt (s : ByteArray) (k : Nat) (h : k < s.size) : byteAt s k = (s[k].toNat : Int) := by
  unfold byteAt
  have e : s.data.toList.getD k 0 = s[k] := by
    rw [List.getD_eq_getElem?_getD, Array.getElem?_toList, Array.getElem?_eq_getElem (by exact h)]; rfl
  rw [e]
theorem byteAt_range (s : ByteArray) (k : Nat) : 0 ≤ byteAt s k ∧ byteAt s k ≤ 255 := by
  unfold byteAt
  have := (s.data.toList.getD k 0).toNat_lt
  omega

/-- a name: 1 to 20 bytes, a letter first, bytes of names -/
def nameB (s : ByteArray) : Bool :=
  decide (1 ≤ s.size) && decide (s.size ≤ 20) && letB (byteAt s 0) && (List.range s.size).all (fun k => nmB (byteAt s k))
theorem nameB_iff (s : ByteArray) : nameB s = true ↔ 1 ≤ s.size ∧ s.size ≤ 20 ∧ letB (byteAt s 0) = true ∧ ∀ k, k < s.size → nmB (byteAt s k) = true := by
  simp [nameB, and_assoc]
theorem nameB_short (s : ByteArray) (h : s.size < 1) : nameB s = false := by
  rw [Bool.eq_false_iff, Ne, nameB_iff]; omega
theorem nameB_long (s : ByteArray) (h : 20 < s.size) : nameB s = false := by
  rw [Bool.eq_false_iff, Ne, nameB_iff]; omega
theorem nameB_head (s : ByteArray) (h : letB (byteAt s 0) = false) : nameB s = false := by
  rw [Bool.eq_false_iff, Ne, nameB_iff]; rintro ⟨_, _, h', _⟩; rw [h] at h'; cases h'
theorem nameB_bad (s : ByteArray) (k : Nat) (hk : k < s.size) (h : nmB (byteAt s k) = false) : nameB s = false := by
  rw [Bool.eq_false_iff, Ne, nameB_iff]; rintro ⟨_, _, _, h'⟩; rw [h' k hk] at h; cases h
theorem nameB_good (s : ByteArray) (h1 : 1 ≤ s.size) (h2 : s.size ≤ 20) (h3 : letB (byteAt s 0) = true) (h4 : ∀ k, k < s.size → nmB (byteAt s k) = true) : nameB s = true :=
  (nameB_iff s).2 ⟨h1, h2, h3, h4⟩

/-! ### bits of ints -/
theorem wraps_i64 (n : Int) (h0 : 0 ≤ n) (h1 : n < 2 ^ 63) : IntKind.i64.wrap n = n := by rw [IntKind.wrap_i64]; omega
theorem i64_and_nat (a b : Nat) (ha : a < 2 ^ 63) (hb : b < 2 ^ 63) : bits .and .i64 (a : Int) (b : Int) = ((a &&& b : Nat) : Int) :=
  (bits_nat .i64 63 (by decide) wraps_i64 a b ha hb).1
theorem i64_or_nat (a b : Nat) (ha : a < 2 ^ 63) (hb : b < 2 ^ 63) : bits .or .i64 (a : Int) (b : Int) = ((a ||| b : Nat) : Int) :=
  (bits_nat .i64 63 (by decide) wraps_i64 a b ha hb).2
theorem has_bit (X k : Nat) (hX : X < 2 ^ 63) : (bits .and .i64 ((X : Int) / 2 ^ k) 1 == 1) = X.testBit k := by
  have e : ((X : Int) / 2 ^ k) = ((X / 2 ^ k : Nat) : Int) := by simp
  have h1 : X / 2 ^ k ≤ X := Nat.div_le_self _ _
  rw [e, show (1 : Int) = ((1 : Nat) : Int) from rfl, i64_and_nat _ _ (by omega) (by decide), Nat.testBit_eq_decide_div_mod_eq, Nat.and_one_is_mod, Bool.eq_iff_iff]
  rw [beq_iff_eq, decide_eq_true_eq]
  omega
theorem pow_le (n : Nat) (hn : n ≤ 62) : (1 : Int) ≤ 2 ^ n ∧ (2 : Int) ^ n ≤ 4611686018427387904 := by
  have h1 : 2 ^ n ≤ 2 ^ 62 := Nat.pow_le_pow_right (by decide) hn
  have h2 : 1 ≤ 2 ^ n := Nat.one_le_two_pow
  have h3 : ((2 ^ n : Nat) : Int) = (2 : Int) ^ n := by norm_cast
  have h4 : (2 : Nat) ^ 62 = 4611686018427387904 := by decide
  omega
/-- a number is a set of so many actions -/
def setB (n : Nat) (x : Int) : Bool := decide (0 ≤ x) && decide (x < 2 ^ n)
theorem setB_iff (n : Nat) (x : Int) : setB n x = true ↔ 0 ≤ x ∧ x < 2 ^ n := by simp [setB]

/-! ### lists of actions -/
def at_ (ss : List ByteArray) (k : Nat) : ByteArray := ss.getD k ByteArray.empty
/-- a list of actions: at most 8 different names -/
def actsB (ss : List ByteArray) : Bool := decide (ss.length ≤ 8) && (List.range ss.length).all (fun k => nameB (at_ ss k) && !containsS (ss.take k) (at_ ss k))
theorem actsB_iff (ss : List ByteArray) : actsB ss = true ↔ ss.length ≤ 8 ∧ ∀ k, k < ss.length → nameB (at_ ss k) = true ∧ containsS (ss.take k) (at_ ss k) = false := by
  simp [actsB]
theorem actsB_long (ss : List ByteArray) (h : 8 < ss.length) : actsB ss = false := by
  rw [Bool.eq_false_iff, Ne, actsB_iff]; omega
theorem actsB_name (ss : List ByteArray) (k : Nat) (hk : k < ss.length) (h : nameB (at_ ss k) = false) : actsB ss = false := by
  rw [Bool.eq_false_iff, Ne, actsB_iff]; rintro ⟨_, h'⟩; rw [(h' k hk).1] at h; cases h
theorem actsB_twice (ss : List ByteArray) (k : Nat) (hk : k < ss.length) (h : containsS (ss.take k) (at_ ss k) = true) : actsB ss = false := by
  rw [Bool.eq_false_iff, Ne, actsB_iff]; rintro ⟨_, h'⟩; rw [(h' k hk).2] at h; cases h
theorem idx_first (ss : List ByteArray) (k : Nat) (hk : k < ss.length) : idxOfS ss (at_ ss k) = k ↔ containsS (ss.take k) (at_ ss k) = false := by
  have mem : ∀ x, x ∈ ss.take k ↔ ∃ j, j < k ∧ at_ ss j = x := fun x => by
    rw [List.mem_iff_getElem?]
    constructor
    · rintro ⟨j, hj⟩
      have hjk : j < k := by
        rcases Nat.lt_or_ge j k with h | h
        · exact h
        · rw [List.getElem?_eq_none (by rw [List.length_take]; omega)] at hj; cases hj
      rw [List.getElem?_take_of_lt hjk] at hj
      exact ⟨j, hjk, by unfold at_; rw [List.getD_eq_getElem?_getD, hj]; rfl⟩
    · rintro ⟨j, hjk, h⟩
      refine ⟨j, ?_⟩
      rw [List.getElem?_take_of_lt hjk, ← h]
      unfold at_
      rw [List.getD_eq_getElem?_getD, List.getElem?_eq_getElem (by omega)]; rfl
  constructor
  · intro h
    rw [Bool.eq_false_iff, Ne, containsS_iff, mem]
    rintro ⟨j, hj, he⟩
    -- the first such place
    have : ∃ m, m < k ∧ at_ ss m = at_ ss k ∧ ∀ i, i < m → at_ ss i ≠ at_ ss k := by
      clear h
      induction j using Nat.strongRecOn with
      | ind j ih =>
        by_cases hex : ∃ i, i < j ∧ at_ ss i = at_ ss k
        · obtain ⟨i, hi, hie⟩ := hex
          exact ih i hi (by omega) hie
        · exact ⟨j, hj, he, fun i hi e => hex ⟨i, hi, e⟩⟩
    obtain ⟨m, hm, hme, hmin⟩ := this
    have h2 := idxOfS_hit ss ss.length m (at_ ss k) (by omega) (Nat.le_refl _) hme hmin
    rw [List.take_length, h] at h2
    omega
  · intro h
    rw [Bool.eq_false_iff, Ne, containsS_iff, mem] at h
    have h2 := idxOfS_hit ss ss.length k (at_ ss k) hk (Nat.le_refl _) rfl (fun j hj e => h ⟨j, hj, e⟩)
    rwa [List.take_length] at h2
theorem actsB_good (ss : List ByteArray) (h : ss.length ≤ 8) (h' : ∀ k, k < ss.length → nameB (at_ ss k) = true ∧ containsS (ss.take k) (at_ ss k) = false) : actsB ss = true :=
  (actsB_iff ss).2 ⟨h, h'⟩

/-! ### strings of sets -/
/-- the members of a set of at most 8 actions, in increasing order -/
def memL (x : Nat) : List Nat := (List.range 8).filter fun k => x.testBit k
/-- the bytes of the string of a set -/
def setS (ss : List ByteArray) (y : Nat) : List UInt8 := [123] ++ join ((memL y).map fun k => (at_ ss k).data.toList) [44] ++ [125]
theorem lens_bound (m : Nat) : ∀ (xs : List (List UInt8)), (∀ x ∈ xs, x.length ≤ m) → lens xs ≤ m * xs.length
  | [], _ => by simp [lens]
  | x :: r, h => by
    have h1 := h x (by simp)
    have h2 := lens_bound m r (fun y hy => h y (by simp [hy]))
    have e : lens (x :: r) = x.length + lens r := by simp [lens]
    rw [e, List.length_cons, Nat.mul_add, Nat.mul_one]
    omega
theorem join_bound (m : Nat) (xs : List (List UInt8)) (h : ∀ x ∈ xs, x.length ≤ m) : (join xs [44]).length ≤ (m + 1) * xs.length := by
  cases xs with
  | nil => simp [join_nil]
  | cons x r =>
    have h1 := lens_bound m (x :: r) h
    have h2 : (join (x :: r) [44]).length = r.length + lens (x :: r) := by rw [join_length]; simp
    rw [h2, Nat.add_mul, List.length_cons]
    rw [List.length_cons] at h1
    omega
theorem name_size {s : ByteArray} (h : nameB s = true) : s.data.toList.length ≤ 20 := by
  have := ((nameB_iff s).1 h).2.1
  simpa using this
end Go.Proofs.YtgnbkepdbdgkdaaGreatDoor.Pl
/- The contracts of the functions about names: each only computes. -/
namespace Go.Proofs.YtgnbkepdbdgkdaaGreatDoor
open Go.RowKit Pl

theorem ret_int {k : IntKind} {a b : Int} (h : a = b) : Ending.returned (.int k a) = .returned (.int k b) := by rw [h]
theorem ret_bool {a b : Bool} (h : a = b) : Ending.returned (.bool a) = .returned (.bool b) := by rw [h]

theorem letter_any (c : Int) (w : World) :
    Calls Tryz.prog 120 #[.int .u8 c] w fun e w' => e = .returned (.bool (letB c)) ∧ w = w' := by
  have hL := letB_iff c
  by_cases a1 : 97 ≤ c <;> by_cases a2 : c ≤ 122 <;> by_cases a3 : 65 ≤ c <;> by_cases a4 : c ≤ 90 <;> try (exfalso; omega)
  all_goals
    have HB : Hid (letB c = decide ((97 ≤ c ∧ c ≤ 122) ∨ (65 ≤ c ∧ c ≤ 90))) := Lib.hid (by rw [Bool.eq_iff_iff, hL]; simp)
    clear hL
    go_enter Tryz.func120, Tryz.ntmps120
    go_wp2
    go_ret
    refine ⟨?_, rfl⟩
    rw [HB.out]
    simp [*]
theorem isLetter_any (c : Int) (w : World) :
    Calls Tryz.prog 173 #[.int .u8 c] w fun e w' => e = .returned (.bool (letB c)) ∧ w = w' := by
  have hL := letB_iff c
  by_cases a1 : 97 ≤ c <;> by_cases a2 : c ≤ 122 <;> by_cases a3 : 65 ≤ c <;> by_cases a4 : c ≤ 90 <;> try (exfalso; omega)
  all_goals
    have HB : Hid (letB c = decide ((97 ≤ c ∧ c ≤ 122) ∨ (65 ≤ c ∧ c ≤ 90))) := Lib.hid (by rw [Bool.eq_iff_iff, hL]; simp)
    clear hL
    go_enter Tryz.func173, Tryz.ntmps173
    go_wp2
    go_ret
    refine ⟨?_, rfl⟩
    rw [HB.out]
    simp [*]

/-- both ways of isLetter apart, for tests -/
theorem isLetter_yes (c : Int) (w : World) (h : letB c = true) : Calls Tryz.prog 173 #[.int .u8 c] w fun e w' => e = .returned (.bool true) ∧ w = w' := by
  rw [← h]; exact isLetter_any c w
theorem isLetter_no (c : Int) (w : World) (h : letB c = false) : Calls Tryz.prog 173 #[.int .u8 c] w fun e w' => e = .returned (.bool false) ∧ w = w' := by
  rw [← h]; exact isLetter_any c w
theorem letter_yes (c : Int) (w : World) (h : letB c = true) : Calls Tryz.prog 120 #[.int .u8 c] w fun e w' => e = .returned (.bool true) ∧ w = w' := by
  rw [← h]; exact letter_any c w
theorem letter_no (c : Int) (w : World) (h : letB c = false) : Calls Tryz.prog 120 #[.int .u8 c] w fun e w' => e = .returned (.bool false) ∧ w = w' := by
  rw [← h]; exact letter_any c w

theorem isNameByte_any (c : Int) (w : World) :
    Calls Tryz.prog 174 #[.int .u8 c] w fun e w' => e = .returned (.bool (nmB c)) ∧ w = w' := by
  have hN := nmB_iff c
  cases hl : letB c
  · by_cases a3 : c = 45
    · subst a3
      have HL : Hid (letB 45 = false) := Lib.hid hl
      clear hN hl
      go_enter Tryz.func174, Tryz.ntmps174
      go_wp2_with (go_at_call 173; refine (isLetter_no _ _ HL).mono ?_; rintro e w' ⟨rfl, rfl⟩)
      go_ret
      exact ⟨rfl, rfl⟩
    by_cases a4 : c = 95
    · subst a4
      have HL : Hid (letB 95 = false) := Lib.hid hl
      clear hN hl a3
      go_enter Tryz.func174, Tryz.ntmps174
      go_wp2_with (go_at_call 173; refine (isLetter_no _ _ HL).mono ?_; rintro e w' ⟨rfl, rfl⟩)
      go_ret
      exact ⟨rfl, rfl⟩
    have b3 : (c == 45) = false := beq_eq_false_iff_ne.2 a3
    have b4 : (c == 95) = false := beq_eq_false_iff_ne.2 a4
    by_cases a1 : 48 ≤ c <;> by_cases a2 : c ≤ 57 <;> try (exfalso; omega)
    all_goals
      have HB : Hid (nmB c = decide (48 ≤ c ∧ c ≤ 57)) := Lib.hid (by rw [Bool.eq_iff_iff, hN, hl]; simp [a3, a4])
      have HL : Hid (letB c = false) := Lib.hid hl
      clear hN hl a3 a4
      go_enter Tryz.func174, Tryz.ntmps174
      go_wp2_with (go_at_call 173; refine (isLetter_no _ _ HL).mono ?_; rintro e w' ⟨rfl, rfl⟩)
      go_ret
      refine ⟨?_, rfl⟩
      rw [HB.out]
      simp [*]
  · have HB : Hid (nmB c = true) := Lib.hid (hN.2 (.inl hl))
    have HL : Hid (letB c = true) := Lib.hid hl
    clear hN hl
    go_enter Tryz.func174, Tryz.ntmps174
    go_wp2_with (go_at_call 173; refine (isLetter_yes _ _ HL).mono ?_; rintro e w' ⟨rfl, rfl⟩)
    go_ret
    exact ⟨by rw [HB.out]; rfl, rfl⟩
theorem isNameByte_yes (c : Int) (w : World) (h : nmB c = true) : Calls Tryz.prog 174 #[.int .u8 c] w fun e w' => e = .returned (.bool true) ∧ w = w' := by
  rw [← h]; exact isNameByte_any c w
theorem isNameByte_no (c : Int) (w : World) (h : nmB c = false) : Calls Tryz.prog 174 #[.int .u8 c] w fun e w' => e = .returned (.bool false) ∧ w = w' := by
  rw [← h]; exact isNameByte_any c w

set_option maxHeartbeats 400000 in
/-- act.isName: whether the string is a name. -/
theorem isName_any (s : ByteArray) (w : World) (hs : s.size ≤ 9223372036854775807) :
    Calls Tryz.prog 141 #[.string s] w fun e w' => e = .returned (.bool (nameB s)) ∧ w = w' := by
  by_cases h1 : s.size = 0
  · have HB := Lib.hid (nameB_short s (by omega))
    have g1 : (s.size == 0) = true := by simpa using h1
    have g2 : ((s.size : Int) == 0) = true := by simpa using h1
    clear h1
    go_enter Tryz.func141, Tryz.ntmps141
    go_wp2
    go_ret
    exact ⟨by rw [HB.out]; rfl, rfl⟩
  have g2 : ((s.size : Int) == 0) = false := by rw [beq_eq_false_iff_ne]; omega
  by_cases h2 : 20 < s.size
  · have HB := Lib.hid (nameB_long s (by omega))
    clear h1
    go_enter Tryz.func141, Tryz.ntmps141
    go_wp2
    go_ret
    exact ⟨by rw [HB.out]; rfl, rfl⟩
  have hp : 0 < s.size := by omega
  have H0 := Lib.hid (byteAt_lt s 0 hp)
  cases h3 : letB (byteAt s 0)
  · have HB := Lib.hid (nameB_head s h3)
    have HL : Hid (letB (s[0].toNat : Int) = false) := Lib.hid (by rw [← H0.out]; exact h3)
    clear h1 h3
    go_enter Tryz.func141, Tryz.ntmps141
    go_wp2_with (go_at_call 173; refine (isLetter_no _ _ HL).mono ?_; rintro e w' ⟨rfl, rfl⟩)
    go_ret
    exact ⟨by rw [HB.out]; rfl, rfl⟩
  have H3 := Lib.hid h3
  have HL : Hid (letB (s[0].toNat : Int) = true) := Lib.hid (by rw [← H0.out]; exact h3)
  clear h1 h3
  go_enter Tryz.func141, Tryz.ntmps141
  go_wp2_with (go_at_call 173; refine (isLetter_yes _ _ HL).mono ?_; rintro e w' ⟨rfl, rfl⟩)
  go_loop [3, 20] (fun _ i => ∃ k : Nat, k ≤ s.size ∧ i = .int .i64 k ∧ Hid (∀ j, j < k → nmB (byteAt s j) = true)) (fun _ i => s.size - (intOf i).toNat)
  case atStart => exact ⟨0, Nat.zero_le _, rfl, Lib.hid fun j hj => absurd hj (Nat.not_lt_zero _)⟩
  case round =>
    obtain ⟨k, hk, rfl, hall⟩ := hrel
    by_cases hlt : k < s.size
    · have Hk := Lib.hid (byteAt_lt s k hlt)
      cases hn : nmB (byteAt s k)
      · have HB := Lib.hid (nameB_bad s k hlt hn)
        have HN : Hid (nmB (s[k].toNat : Int) = false) := Lib.hid (by rw [← Hk.out]; exact hn)
        clear hn
        go_wp2_with (go_at_call 174; refine (isNameByte_no _ _ HN).mono ?_; rintro e w' ⟨rfl, rfl⟩)
        go_ret
        exact ⟨by rw [HB.out]; rfl, rfl⟩
      · have HN : Hid (nmB (s[k].toNat : Int) = true) := Lib.hid (by rw [← Hk.out]; exact hn)
        have hall' : Hid (∀ j, j < k + 1 → nmB (byteAt s j) = true) := Lib.hid fun j hj => by
          by_cases e : j = k
          · rw [e]; exact hn
          · exact hall.out j (by omega)
        clear hn
        go_wp2_with (go_at_call 174; refine (isNameByte_yes _ _ HN).mono ?_; rintro e w' ⟨rfl, rfl⟩)
        go_round
        case rel => exact ⟨k + 1, by omega, by go_num, hall'⟩
        case measure => simp [intOf]; omega
    · have HB := Lib.hid (nameB_good s (by omega) (by omega) H3.out (fun j hj => hall.out j (by omega)))
      go_wp2
      go_ret
      exact ⟨by rw [HB.out]; rfl, rfl⟩

set_option maxHeartbeats 400000 in
/-- the reference's Name: the same -/
theorem Name_any (s : ByteArray) (w : World) (hs : s.size ≤ 9223372036854775807) :
    Calls Tryz.prog 91 #[.string s] w fun e w' => e = .returned (.bool (nameB s)) ∧ w = w' := by
  by_cases h1 : s.size < 1
  · have HB := Lib.hid (nameB_short s (by omega))
    go_enter Tryz.func91, Tryz.ntmps91
    go_wp2
    go_ret
    exact ⟨by rw [HB.out]; rfl, rfl⟩
  by_cases h2 : 20 < s.size
  · have HB := Lib.hid (nameB_long s (by omega))
    go_enter Tryz.func91, Tryz.ntmps91
    go_wp2
    go_ret
    exact ⟨by rw [HB.out]; rfl, rfl⟩
  have hp : 0 < s.size := by omega
  have H0 := Lib.hid (byteAt_lt s 0 hp)
  cases h3 : letB (byteAt s 0)
  · have HB := Lib.hid (nameB_head s h3)
    have HL : Hid (letB (s[0].toNat : Int) = false) := Lib.hid (by rw [← H0.out]; exact h3)
    clear h3
    go_enter Tryz.func91, Tryz.ntmps91
    go_wp2_with (go_at_call 120; refine (letter_no _ _ HL).mono ?_; rintro e w' ⟨rfl, rfl⟩)
    go_ret
    exact ⟨by rw [HB.out]; rfl, rfl⟩
  have H3 := Lib.hid h3
  have HL : Hid (letB (s[0].toNat : Int) = true) := Lib.hid (by rw [← H0.out]; exact h3)
  clear h3
  go_enter Tryz.func91, Tryz.ntmps91
  go_wp2_with (go_at_call 120; refine (letter_yes _ _ HL).mono ?_; rintro e w' ⟨rfl, rfl⟩)
  go_loop [3, 4, 21] (fun _ _ i => ∃ k : Nat, k ≤ s.size ∧ i = .int .i64 k ∧ Hid (∀ j, j < k → nmB (byteAt s j) = true)) (fun _ _ i => s.size - (intOf i).toNat)
  case atStart => exact ⟨0, Nat.zero_le _, rfl, Lib.hid fun j hj => absurd hj (Nat.not_lt_zero _)⟩
  case round =>
    obtain ⟨k, hk, rfl, hall⟩ := hrel
    by_cases hlt : k < s.size
    · have Hk := Lib.hid (byteAt_lt s k hlt)
      have hn := nmB_iff (s[k].toNat : Int)
      cases hb : nmB (s[k].toNat : Int)
      · have HB := Lib.hid (nameB_bad s k hlt (by rw [Hk.out]; exact hb))
        rw [hb] at hn
        have HN : Hid (letB (s[k].toNat : Int) = false) := Lib.hid (by rw [Bool.eq_false_iff]; intro h; have := hn.2 (.inl h); cases this)
        have c1 : ((s[k].toNat : Int) != 45) = true := by rw [bne_iff_ne]; intro h; have := hn.2 (.inr (.inr (.inl h))); cases this
        have c2 : ((s[k].toNat : Int) != 95) = true := by rw [bne_iff_ne]; intro h; have := hn.2 (.inr (.inr (.inr h))); cases this
        by_cases d1 : (s[k].toNat : Int) < 48
        · clear hb hn
          go_wp2_with (go_at_call 120; refine (letter_no _ _ HN).mono ?_; rintro e w' ⟨rfl, rfl⟩)
          go_ret
          exact ⟨by rw [HB.out]; rfl, rfl⟩
        · have d2 : 57 < (s[k].toNat : Int) := by
            refine Int.not_le.1 fun h => ?_
            have := hn.2 (.inr (.inl ⟨by omega, h⟩)); cases this
          clear hb hn
          go_wp2_with (go_at_call 120; refine (letter_no _ _ HN).mono ?_; rintro e w' ⟨rfl, rfl⟩)
          go_ret
          exact ⟨by rw [HB.out]; rfl, rfl⟩
      · have hall' : Hid (∀ j, j < k + 1 → nmB (byteAt s j) = true) := Lib.hid fun j hj => by
          by_cases e : j = k
          · rw [e, Hk.out]; exact hb
          · exact hall.out j (by omega)
        cases hl : letB (s[k].toNat : Int)
        · have HN : Hid (letB (s[k].toNat : Int) = false) := Lib.hid hl
          have hd : (48 ≤ (s[k].toNat : Int) ∧ (s[k].toNat : Int) ≤ 57) ∨ (s[k].toNat : Int) = 45 ∨ (s[k].toNat : Int) = 95 := by
            rcases hn.1 hb with h | h
            · rw [hl] at h; cases h
            · exact h
          clear hb hl hn
          by_cases c1 : (s[k].toNat : Int) = 45
          · have e1 : ((s[k].toNat : Int) != 45) = false := by rw [c1]; rfl
            have e2 : (s[k].toNat : Int) < 48 := by omega
            clear hd c1
            go_wp2_with (go_at_call 120; refine (letter_no _ _ HN).mono ?_; rintro e w' ⟨rfl, rfl⟩)
            go_round
            case rel => exact ⟨k + 1, by omega, by go_num, hall'⟩
            case measure => simp [intOf]; omega
          have e1 : ((s[k].toNat : Int) != 45) = true := by rw [bne_iff_ne]; exact c1
          by_cases c2 : (s[k].toNat : Int) = 95
          · have e3 : ((s[k].toNat : Int) != 95) = false := by rw [c2]; rfl
            have e2 : 57 < (s[k].toNat : Int) := by omega
            clear hd c1 c2
            go_wp2_with (go_at_call 120; refine (letter_no _ _ HN).mono ?_; rintro e w' ⟨rfl, rfl⟩)
            go_round
            case rel => exact ⟨k + 1, by omega, by go_num, hall'⟩
            case measure => simp [intOf]; omega
          have e2 : 48 ≤ (s[k].toNat : Int) := by omega
          have e3 : (s[k].toNat : Int) ≤ 57 := by omega
          clear hd c1 c2
          go_wp2_with (go_at_call 120; refine (letter_no _ _ HN).mono ?_; rintro e w' ⟨rfl, rfl⟩)
          go_round
          case rel => exact ⟨k + 1, by omega, by go_num, hall'⟩
          case measure => simp [intOf]; omega
        · have HN : Hid (letB (s[k].toNat : Int) = true) := Lib.hid hl
          clear hb hl hn
          go_wp2_with (go_at_call 120; refine (letter_yes _ _ HN).mono ?_; rintro e w' ⟨rfl, rfl⟩)
          go_round
          case rel => exact ⟨k + 1, by omega, by go_num, hall'⟩
          case measure => simp [intOf]; omega
    · have HB := Lib.hid (nameB_good s (by omega) (by omega) H3.out (fun j hj => hall.out j (by omega)))
      go_wp2
      go_ret
      exact ⟨by rw [HB.out]; rfl, rfl⟩
end Go.Proofs.YtgnbkepdbdgkdaaGreatDoor
/- Lists in memory, and the contracts of the functions that look lists through: each only computes. -/
namespace Go.Proofs.YtgnbkepdbdgkdaaGreatDoor
open Go.RowKit Pl

/-- the cells behind a slice's address hold these strings -/
def StrsIn (w : World) (a : Option Addr) (ss : List ByteArray) : Prop :=
  ∀ j, j < ss.length → ∃ b off, a = some ⟨b, off, none⟩ ∧ w.cell? ⟨b, off + j, none⟩ = some (.string (ss.getD j ByteArray.empty))
/-- the cells behind a slice's address hold these numbers -/
def IntsIn (w : World) (a : Option Addr) (xs : List Int) : Prop :=
  ∀ j, j < xs.length → ∃ b off, a = some ⟨b, off, none⟩ ∧ w.cell? ⟨b, off + j, none⟩ = some (.int .i64 (xs.getD j 0))
theorem StrsIn.take {w : World} {a : Option Addr} {ss : List ByteArray} (h : StrsIn w a ss) (k : Nat) : StrsIn w a (ss.take k) := fun j hj => by
  rw [List.length_take] at hj
  obtain ⟨b, off, e, hc⟩ := h j (by omega)
  exact ⟨b, off, e, by rw [hc]; simp [List.getD, show j < k from by omega]⟩
theorem StrsIn.nil (w : World) (a : Option Addr) : StrsIn w a [] := fun _ hj => absurd hj (Nat.not_lt_zero _)
theorem IntsIn.nil (w : World) (a : Option Addr) : IntsIn w a [] := fun _ hj => absurd hj (Nat.not_lt_zero _)
theorem lt_of_cell {w : World} {p : Addr} {v : Value} (h : w.cell? p = some v) : p.block < w.heap.size := by
  unfold World.cell? at h
  cases ho : w.heap[p.block]? with
  | none => rw [ho] at h; simp at h
  | some o => exact (Array.getElem?_eq_some_iff.1 ho).1
theorem StrsIn.below {w w' : World} {a : Option Addr} {ss : List ByteArray} (h : StrsIn w a ss) (hb : Below w.heap.size w w') : StrsIn w' a ss := fun j hj => by
  obtain ⟨b, off, e, hc⟩ := h j hj
  exact ⟨b, off, e, (hb.cell (lt_of_cell hc)).trans hc⟩
theorem IntsIn.below {w w' : World} {a : Option Addr} {xs : List Int} (h : IntsIn w a xs) (hb : Below w.heap.size w w') : IntsIn w' a xs := fun j hj => by
  obtain ⟨b, off, e, hc⟩ := h j hj
  exact ⟨b, off, e, (hb.cell (lt_of_cell hc)).trans hc⟩

set_option maxHeartbeats 400000 in
/-- slices.Index at []string -/
theorem index_any (a : Option Addr) (n c : Nat) (ss : List ByteArray) (x : ByteArray) (w : World) (hn : n = ss.length) (hbig : n ≤ 9223372036854775807) (hc : StrsIn w a ss) :
    Calls Tryz.prog 154 #[.slice a n c, .string x] w fun e w' => e = .returned (.int .i64 (Lib.idxOfS ss x)) ∧ w = w' := by
  have HN := Lib.hid hn
  have HC := Lib.hid hc
  clear hn hc
  go_enter Tryz.func154, Tryz.ntmps154
  go_wp2
  go_loop [5, 8] (fun _ i => ∃ k : Nat, k ≤ n ∧ i = .int .i64 k ∧ Hid (∀ j, j < k → ss.getD j ByteArray.empty ≠ x)) (fun _ i => n - (intOf i).toNat)
  case atStart => exact ⟨0, Nat.zero_le _, rfl, Lib.hid fun j hj => absurd hj (Nat.not_lt_zero _)⟩
  case round =>
    obtain ⟨k, hk, rfl, hne⟩ := hrel
    by_cases hlt : k < n
    · obtain ⟨b, off, rfl, hcell⟩ := HC.out k (by have := HN.out; omega)
      obtain ⟨y, hy⟩ : ∃ y, ss.getD k ByteArray.empty = y := ⟨_, rfl⟩
      rw [hy] at hcell
      have HY := Lib.hid hy
      clear hy
      by_cases he : y = x
      · have heq : (x.toList == y.toList) = true := (Lib.bytes_beq_iff _ _).2 he.symm
        have HE := Lib.hid he
        clear he
        go_wp2
        go_ret
        refine ⟨?_, rfl⟩
        have := Lib.idxOfS_hit ss n k x hlt (by have := HN.out; omega) (by rw [HY.out]; exact HE.out) hne.out
        rw [HN.out, List.take_length] at this
        rw [this]; rfl
      · have heq : (x.toList == y.toList) = false := (Lib.bytes_beq_false_iff _ _).2 (fun e => he e.symm)
        have hne' : Hid (∀ j, j < k + 1 → ss.getD j ByteArray.empty ≠ x) := Lib.hid fun j hj => by
          by_cases e : j = k
          · rw [e, HY.out]; exact he
          · exact hne.out j (by omega)
        clear he
        go_wp2
        go_round
        case rel => exact ⟨k + 1, by omega, by go_num, hne'⟩
        case measure => simp [intOf]; omega
    · go_wp2
      go_ret
      refine ⟨?_, rfl⟩
      have := Lib.idxOfS_miss ss n x (fun j hj => hne.out j (by omega))
      rw [HN.out, List.take_length] at this
      rw [this]; rfl

set_option maxHeartbeats 400000 in
/-- the reference's Index -/
theorem Index_any (a : Option Addr) (n c : Nat) (ss : List ByteArray) (x : ByteArray) (w : World) (hn : n = ss.length) (hbig : n ≤ 9223372036854775807) (hc : StrsIn w a ss) :
    Calls Tryz.prog 92 #[.slice a n c, .string x] w fun e w' => e = .returned (.int .i64 (Lib.idxOfS ss x)) ∧ w = w' := by
  have HN := Lib.hid hn
  have HC := Lib.hid hc
  clear hn hc
  go_enter Tryz.func92, Tryz.ntmps92
  go_wp2
  go_loop [5, 6, 9] (fun _ _ i => ∃ k : Nat, k ≤ n ∧ i = .int .i64 k ∧ Hid (∀ j, j < k → ss.getD j ByteArray.empty ≠ x)) (fun _ _ i => n - (intOf i).toNat)
  case atStart => exact ⟨0, Nat.zero_le _, rfl, Lib.hid fun j hj => absurd hj (Nat.not_lt_zero _)⟩
  case round =>
    obtain ⟨k, hk, rfl, hne⟩ := hrel
    by_cases hlt : k < n
    · obtain ⟨b, off, rfl, hcell⟩ := HC.out k (by have := HN.out; omega)
      obtain ⟨y, hy⟩ : ∃ y, ss.getD k ByteArray.empty = y := ⟨_, rfl⟩
      rw [hy] at hcell
      have HY := Lib.hid hy
      clear hy
      by_cases he : y = x
      · have heq : (y.toList == x.toList) = true := (Lib.bytes_beq_iff _ _).2 he
        have HE := Lib.hid he
        clear he
        go_wp2
        go_ret
        refine ⟨?_, rfl⟩
        have := Lib.idxOfS_hit ss n k x hlt (by have := HN.out; omega) (by rw [HY.out]; exact HE.out) hne.out
        rw [HN.out, List.take_length] at this
        rw [this]; rfl
      · have heq : (y.toList == x.toList) = false := (Lib.bytes_beq_false_iff _ _).2 he
        have hne' : Hid (∀ j, j < k + 1 → ss.getD j ByteArray.empty ≠ x) := Lib.hid fun j hj => by
          by_cases e : j = k
          · rw [e, HY.out]; exact he
          · exact hne.out j (by omega)
        clear he
        go_wp2
        go_round
        case rel => exact ⟨k + 1, by omega, by go_num, hne'⟩
        case measure => simp [intOf]; omega
    · go_wp2
      go_ret
      refine ⟨?_, rfl⟩
      have := Lib.idxOfS_miss ss n x (fun j hj => hne.out j (by omega))
      rw [HN.out, List.take_length] at this
      rw [this]; rfl

/-- slices.Contains at []string -/
theorem contains_any (a : Option Addr) (n c : Nat) (ss : List ByteArray) (x : ByteArray) (w : World) (hn : n = ss.length) (hbig : n ≤ 9223372036854775807) (hc : StrsIn w a ss) :
    Calls Tryz.prog 142 #[.slice a n c, .string x] w fun e w' => e = .returned (.bool (Lib.containsS ss x)) ∧ w = w' := by
  unfold Lib.containsS
  have HN := Lib.hid hn
  have HC := Lib.hid hc
  clear hn hc
  go_enter Tryz.func142, Tryz.ntmps142
  go_wp2_with (go_at_call 154; refine (index_any a n c ss x _ HN.out hbig HC.out).mono ?_; rintro e w' ⟨rfl, rfl⟩)
  go_ret
  exact ⟨rfl, rfl⟩

set_option maxHeartbeats 400000 in
/-- the reference's SameInts -/
theorem SameInts_any (a : Option Addr) (n c : Nat) (xs : List Int) (a' : Option Addr) (n' c' : Nat) (ys : List Int) (w : World) (hn : n = xs.length) (hn' : n' = ys.length) (hbig : n ≤ 9223372036854775807) (hbig' : n' ≤ 9223372036854775807) (hc : IntsIn w a xs) (hc' : IntsIn w a' ys) :
    Calls Tryz.prog 14 #[.slice a n c, .slice a' n' c'] w fun e w' => e = .returned (.bool (decide (xs = ys))) ∧ w = w' := by
  have HN := Lib.hid hn
  have HC := Lib.hid hc
  have HN' := Lib.hid hn'
  have HC' := Lib.hid hc'
  clear hn hc hn' hc'
  by_cases hl : n = n'
  · subst hl
    have hq : ((n : Int) != n) = false := by simp
    go_enter Tryz.func14, Tryz.ntmps14
    go_wp2
    go_loop [5, 6, 14] (fun _ _ i => ∃ k : Nat, k ≤ n ∧ i = .int .i64 k ∧ Hid (∀ j, j < k → xs.getD j 0 = ys.getD j 0)) (fun _ _ i => n - (intOf i).toNat)
    case atStart => exact ⟨0, Nat.zero_le _, rfl, Lib.hid fun j hj => absurd hj (Nat.not_lt_zero _)⟩
    case round =>
      obtain ⟨k, hk, rfl, hne⟩ := hrel
      by_cases hlt : k < n
      · obtain ⟨b, off, rfl, hcell⟩ := HC.out k (by have := HN.out; omega)
        obtain ⟨b', off', rfl, hcell'⟩ := HC'.out k (by have := HN'.out; omega)
        obtain ⟨x, hx⟩ : ∃ x, xs.getD k 0 = x := ⟨_, rfl⟩
        obtain ⟨y, hy⟩ : ∃ y, ys.getD k 0 = y := ⟨_, rfl⟩
        rw [hx] at hcell
        rw [hy] at hcell'
        have HX := Lib.hid hx
        have HY := Lib.hid hy
        clear hx hy
        by_cases he : x = y
        · have hne' : Hid (∀ j, j < k + 1 → xs.getD j 0 = ys.getD j 0) := Lib.hid fun j hj => by
            by_cases e : j = k
            · rw [e, HX.out, HY.out]; exact he
            · exact hne.out j (by omega)
          subst he
          have hq2 : (x != x) = false := by simp
          go_wp2
          go_round
          case rel => exact ⟨k + 1, by omega, by go_num, hne'⟩
          case measure => simp [intOf]; omega
        · have heq : (x != y) = true := by simpa using he
          have HE : Hid (xs ≠ ys) := Lib.hid fun e => he (by rw [← HX.out, ← HY.out, e])
          clear he
          go_wp2
          go_ret
          exact ⟨by rw [decide_eq_false HE.out]; rfl, rfl⟩
      · have HE : Hid (xs = ys) := Lib.hid (by
          have h1 := HN.out
          have h2 := HN'.out
          refine List.ext_getElem (by omega) fun j hj hj' => ?_
          have := hne.out j (by omega)
          simpa [List.getD, List.getElem?_eq_getElem hj, List.getElem?_eq_getElem hj'] using this)
        go_wp2
        go_ret
        exact ⟨by rw [decide_eq_true HE.out]; rfl, rfl⟩
  · have hq : ((n : Int) != n') = true := by rw [bne_iff_ne]; omega
    have HE : Hid (xs ≠ ys) := Lib.hid fun e => hl (by rw [HN.out, HN'.out, e])
    clear hl
    go_enter Tryz.func14, Tryz.ntmps14
    go_wp2
    go_ret
    exact ⟨by rw [decide_eq_false HE.out]; rfl, rfl⟩
set_option maxHeartbeats 400000 in
/-- the reference's SameStrings -/
theorem SameStrings_any (a : Option Addr) (n c : Nat) (xs : List ByteArray) (a' : Option Addr) (n' c' : Nat) (ys : List ByteArray) (w : World) (hn : n = xs.length) (hn' : n' = ys.length) (hbig : n ≤ 9223372036854775807) (hbig' : n' ≤ 9223372036854775807) (hc : StrsIn w a xs) (hc' : StrsIn w a' ys) :
    Calls Tryz.prog 50 #[.slice a n c, .slice a' n' c'] w fun e w' => e = .returned (.bool (decide (xs = ys))) ∧ w = w' := by
  have HN := Lib.hid hn
  have HC := Lib.hid hc
  have HN' := Lib.hid hn'
  have HC' := Lib.hid hc'
  clear hn hc hn' hc'
  by_cases hl : n = n'
  · subst hl
    have hq : ((n : Int) != n) = false := by simp
    go_enter Tryz.func50, Tryz.ntmps50
    go_wp2
    go_loop [5, 6, 14] (fun _ _ i => ∃ k : Nat, k ≤ n ∧ i = .int .i64 k ∧ Hid (∀ j, j < k → xs.getD j ByteArray.empty = ys.getD j ByteArray.empty)) (fun _ _ i => n - (intOf i).toNat)
    case atStart => exact ⟨0, Nat.zero_le _, rfl, Lib.hid fun j hj => absurd hj (Nat.not_lt_zero _)⟩
    case round =>
      obtain ⟨k, hk, rfl, hne⟩ := hrel
      by_cases hlt : k < n
      · obtain ⟨b, off, rfl, hcell⟩ := HC.out k (by have := HN.out; omega)
        obtain ⟨b', off', rfl, hcell'⟩ := HC'.out k (by have := HN'.out; omega)
        obtain ⟨x, hx⟩ : ∃ x, xs.getD k ByteArray.empty = x := ⟨_, rfl⟩
        obtain ⟨y, hy⟩ : ∃ y, ys.getD k ByteArray.empty = y := ⟨_, rfl⟩
        rw [hx] at hcell
        rw [hy] at hcell'
        have HX := Lib.hid hx
        have HY := Lib.hid hy
        clear hx hy
        by_cases he : x = y
        · have hne' : Hid (∀ j, j < k + 1 → xs.getD j ByteArray.empty = ys.getD j ByteArray.empty) := Lib.hid fun j hj => by
            by_cases e : j = k
            · rw [e, HX.out, HY.out]; exact he
            · exact hne.out j (by omega)
          subst he
          have hq2 : (x.toList == x.toList) = true := by simp
          go_wp2
          go_round
          case rel => exact ⟨k + 1, by omega, by go_num, hne'⟩
          case measure => simp [intOf]; omega
        · have heq : (x.toList == y.toList) = false := (Lib.bytes_beq_false_iff _ _).2 he
          have HE : Hid (xs ≠ ys) := Lib.hid fun e => he (by rw [← HX.out, ← HY.out, e])
          clear he
          go_wp2
          go_ret
          exact ⟨by rw [decide_eq_false HE.out]; rfl, rfl⟩
      · have HE : Hid (xs = ys) := Lib.hid (by
          have h1 := HN.out
          have h2 := HN'.out
          refine List.ext_getElem (by omega) fun j hj hj' => ?_
          have := hne.out j (by omega)
          simpa [List.getD, List.getElem?_eq_getElem hj, List.getElem?_eq_getElem hj'] using this)
        go_wp2
        go_ret
        exact ⟨by rw [decide_eq_true HE.out]; rfl, rfl⟩
  · have hq : ((n : Int) != n') = true := by rw [bne_iff_ne]; omega
    have HE : Hid (xs ≠ ys) := Lib.hid fun e => hl (by rw [HN.out, HN'.out, e])
    clear hl
    go_enter Tryz.func50, Tryz.ntmps50
    go_wp2
    go_ret
    exact ⟨by rw [decide_eq_false HE.out]; rfl, rfl⟩


set_option maxHeartbeats 400000 in
/-- the reference's Is -/
theorem Is_any (a : Option Addr) (n c : Nat) (ss : List ByteArray) (w : World) (hn : n = ss.length) (hbig : n ≤ 9223372036854775807) (hs : ∀ k, k < n → (at_ ss k).size ≤ 9223372036854775807) (hc : StrsIn w a ss) :
    Calls Tryz.prog 41 #[.slice a n c] w fun e w' => e = .returned (.bool (actsB ss)) ∧ w = w' := by
  have HN := Lib.hid hn
  have HC := Lib.hid hc
  have HS := Lib.hid hs
  clear hn hc hs
  by_cases h8 : 8 < n
  · have HB := Lib.hid (actsB_long ss (by have := HN.out; omega))
    go_enter Tryz.func41, Tryz.ntmps41
    go_wp2
    go_ret
    exact ⟨ret_bool HB.out.symm, rfl⟩
  go_enter Tryz.func41, Tryz.ntmps41
  go_wp2
  go_loop [3, 4, 10] (fun _ _ i => ∃ k : Nat, k ≤ n ∧ i = .int .i64 k ∧ Hid (∀ j, j < k → nameB (at_ ss j) = true ∧ Lib.containsS (ss.take j) (at_ ss j) = false)) (fun _ _ i => n - (intOf i).toNat)
  case atStart => exact ⟨0, Nat.zero_le _, rfl, Lib.hid fun j hj => absurd hj (Nat.not_lt_zero _)⟩
  case round =>
    obtain ⟨k, hk, rfl, hne⟩ := hrel
    by_cases hlt : k < n
    · obtain ⟨b, off, rfl, hcell⟩ := HC.out k (by have := HN.out; omega)
      have hsz := HS.out k hlt
      change w.cell? _ = some (.string (at_ ss k)) at hcell
      cases hnm : nameB (at_ ss k)
      · have HB := Lib.hid (actsB_name ss k (by have := HN.out; omega) hnm)
        have HM := Lib.hid hnm
        clear hnm
        obtain ⟨y, HY⟩ : ∃ y, Hid (at_ ss k = y) := ⟨_, Lib.hid rfl⟩
        rw [HY.out] at hcell HM hsz
        go_wp2_with fail
        refine (Name_any y _ hsz).mono ?_
        rw [HM.out]
        rintro e w' ⟨rfl, rfl⟩
        go_wp2
        go_ret
        exact ⟨ret_bool HB.out.symm, rfl⟩
      · have HM := Lib.hid hnm
        have HF := Lib.hid (idx_first ss k (by have := HN.out; omega))
        have HI := Lib.hid (Index_any (some ⟨b, off, none⟩) n c ss (at_ ss k) w HN.out hbig HC.out)
        cases hq : Lib.containsS (ss.take k) (at_ ss k)
        · have hne' : Hid (∀ j, j < k + 1 → nameB (at_ ss j) = true ∧ Lib.containsS (ss.take j) (at_ ss j) = false) := Lib.hid fun j hj => by
            by_cases e : j = k
            · rw [e]; exact ⟨hnm, hq⟩
            · exact hne.out j (by omega)
          have HX : Hid (Lib.idxOfS ss (at_ ss k) = k) := Lib.hid (HF.out.2 hq)
          clear hnm hq
          obtain ⟨y, HY⟩ : ∃ y, Hid (at_ ss k = y) := ⟨_, Lib.hid rfl⟩
          rw [HY.out] at hcell HM HX HI hsz
          rw [HX.out] at HI
          have hkk : ((k : Int) != k) = false := by simp
          go_wp2_with fail
          refine (Name_any y _ hsz).mono ?_
          rw [HM.out]
          rintro e w' ⟨rfl, rfl⟩
          go_wp2_with fail
          refine HI.out.mono ?_
          rintro e w' ⟨rfl, rfl⟩
          go_wp2
          go_round
          case rel => exact ⟨k + 1, by omega, by go_num, hne'⟩
          case measure => simp [intOf]; omega
        · have HB := Lib.hid (actsB_twice ss k (by have := HN.out; omega) hq)
          have hx : ¬ Lib.idxOfS ss (at_ ss k) = k := fun h => by rw [HF.out.1 h] at hq; cases hq
          clear hnm hq
          obtain ⟨y, HY⟩ : ∃ y, Hid (at_ ss k = y) := ⟨_, Lib.hid rfl⟩
          rw [HY.out] at hcell HM HI hsz hx
          have hkk : (Lib.idxOfS ss y != (k : Int)) = true := by rw [bne_iff_ne]; exact hx
          clear hx
          go_wp2_with fail
          refine (Name_any y _ hsz).mono ?_
          rw [HM.out]
          rintro e w' ⟨rfl, rfl⟩
          go_wp2_with fail
          refine HI.out.mono ?_
          rintro e w' ⟨rfl, rfl⟩
          go_wp2
          go_ret
          exact ⟨ret_bool HB.out.symm, rfl⟩
    · have HB := Lib.hid (actsB_good ss (by have := HN.out; omega) (fun j hj => hne.out j (by have := HN.out; omega)))
      go_wp2
      go_ret
      exact ⟨ret_bool HB.out.symm, rfl⟩
end Go.Proofs.YtgnbkepdbdgkdaaGreatDoor
/- errors.Is, for an error of errors.New's make or nil beside such a one. -/
namespace Go.Proofs.YtgnbkepdbdgkdaaGreatDoor
open Go.RowKit Go.Extern.Stop Go.Stop Go.Extern

theorem isTypeOf (v : Value) (w : World) : (Extern.ReflectliteType.typeOf #[.iface 314 v]).run Tryz.prog w = .ok (.iface 269 (.agg #[.pointer (some ⟨11, 314, none⟩)])) w := by kernel_rfl
theorem isComparable (w : World) : (callFunc 246 #[.agg #[.pointer (some ⟨11, 314, none⟩)]]).run Tryz.prog w = .ok (Next.value (.bool true)) w := by kernel_rfl
theorem isMethodComparable (v : Value) (w : World) : (Go.method 447 269 v "Comparable").run Tryz.prog w = .ok (246, v) w := by kernel_rfl
theorem isComp : (Tryz.prog.info? 314).map (·.comparable) = some true := by kernel_rfl
theorem isSize : (Tryz.prog.info? 316).map (·.size) = some 1 := by kernel_rfl
theorem noIsE (v : Value) (xT : TypeId) (w : World) : (Instr.typeAssert (.iface 314 v) xT 271 true).run Tryz.prog w = .ok (.tuple #[.nilIface, .bool false]) w := run_typeAssert_lacksB Tryz.underlying271 (by kernel_rfl) (by kernel_rfl) v xT w
theorem noUnwrapE (v : Value) (xT : TypeId) (w : World) : (Instr.typeAssert (.iface 314 v) xT 274 true).run Tryz.prog w = .ok (.tuple #[.nilIface, .bool false]) w := run_typeAssert_lacksB Tryz.underlying274 (by kernel_rfl) (by kernel_rfl) v xT w
theorem noUnwrapsE (v : Value) (xT : TypeId) (w : World) : (Instr.typeAssert (.iface 314 v) xT 276 true).run Tryz.prog w = .ok (.tuple #[.nilIface, .bool false]) w := run_typeAssert_lacksB Tryz.underlying276 (by kernel_rfl) (by kernel_rfl) v xT w

set_option maxRecDepth 100000 in
/-- errors.Is(x, x) -/
theorem is_same (a : Addr) (w : World) :
    Calls Tryz.prog 140 #[.iface 314 (.pointer (some a)), .iface 314 (.pointer (some a))] w fun e w' => e = .returned (.bool true) ∧ w = w' := by
  obtain ⟨i, hi, hcmp⟩ := Option.map_eq_some_iff.1 isComp
  obtain ⟨j, hj, _⟩ := Option.map_eq_some_iff.1 isSize
  have h8 := @run_callFunc_extern Tryz.prog 171 _ Extern.ReflectliteType.typeOf Tryz.func171 (by kernel_rfl) (by kernel_rfl) (by kernel_rfl) (by kernel_rfl)
  have tT := isTypeOf
  have cT := isComparable
  have mR := isMethodComparable
  have heq := run_eql_iface_ptr_same (P := Tryz.prog) w a Tryz.underlying157 Tryz.underlying314 hi hcmp hj
  go_enter Tryz.func140, Tryz.ntmps140
  go_wp2
  refine wp_loop_rounds 1 ?_
  rw [rounds_succ]
  go_wp2
  go_ret
  exact ⟨rfl, rfl⟩

set_option maxRecDepth 100000 in
/-- errors.Is(nil, x) -/
theorem is_nil (b : Addr) (w : World) :
    Calls Tryz.prog 140 #[.nilIface, .iface 314 (.pointer (some b))] w fun e w' => e = .returned (.bool false) ∧ w = w' := by
  have hn := run_eql_iface_nil_left (P := Tryz.prog) w 314 (.pointer (some b)) Tryz.underlying157
  go_enter Tryz.func140, Tryz.ntmps140
  go_wp2
  go_ret
  exact ⟨rfl, rfl⟩

set_option maxRecDepth 100000 in
/-- errors.Is(x, y), two different ones -/
theorem is_other (a b : Addr) (ca cb : Array Value) (ta tb : TypeId) (w : World) (hne : a ≠ b) (ha : w.heap[a.block]? = some (.cells ca ta (0, 0))) (hb : w.heap[b.block]? = some (.cells cb tb (0, 0))) :
    Calls Tryz.prog 140 #[.iface 314 (.pointer (some a)), .iface 314 (.pointer (some b))] w fun e w' => e = .returned (.bool false) ∧ w = w' := by
  obtain ⟨i, hi, hcmp⟩ := Option.map_eq_some_iff.1 isComp
  obtain ⟨j, hj, hjs⟩ := Option.map_eq_some_iff.1 isSize
  have h8 := @run_callFunc_extern Tryz.prog 171 _ Extern.ReflectliteType.typeOf Tryz.func171 (by kernel_rfl) (by kernel_rfl) (by kernel_rfl) (by kernel_rfl)
  have tT := isTypeOf
  have cT := isComparable
  have mR := isMethodComparable
  have nE := noIsE
  have uE := noUnwrapE
  have vE := noUnwrapsE
  have heq := run_eql_iface_ptr_other (P := Tryz.prog) w Tryz.underlying157 Tryz.underlying314 hi hcmp hj (by rw [hjs]; decide) hne ha hb
  go_enter Tryz.func140, Tryz.ntmps140
  go_wp2
  refine wp_loop_rounds 1 ?_
  rw [rounds_succ]
  go_wp2
  go_ret
  exact ⟨rfl, rfl⟩
end Go.Proofs.YtgnbkepdbdgkdaaGreatDoor
