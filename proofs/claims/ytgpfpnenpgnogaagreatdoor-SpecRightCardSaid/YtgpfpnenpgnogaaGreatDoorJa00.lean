/- Texts joined: Plain, SysPl, SpecPl. -/
import Derived.Laws.Strings
import Derived.Lib.SlicesS
import Derived.Lib.Hide
import Derived.Laws.BitsLemmas
import Derived.Lib.Join
/- Plain facts about names, lists of actions and sets of them; nothing here is about a program. -/
namespace Go.Proofs.YtgpfpnenpgnogaaGreatDoor.Pl
open Go Go.Lib

/-! ### bytes of names -/
def letB (c : Int) : Bool := (decide (97 ≤ c) && decide (c ≤ 122)) || (decide (65 ≤ c) && decide (c ≤ 90))
def nmB (c : Int) : Bool := letB c || (decide (48 ≤ c) && decide (c ≤ 57)) || decide (c = 45) || decide (c = 95)
theorem letB_iff (c : Int) : letB c = true ↔ (97 ≤ c ∧ c ≤ 122) ∨ (65 ≤ c ∧ c ≤ 90) := by simp [letB]
theorem nmB_iff (c : Int) : nmB c = true ↔ letB c = true ∨ (48 ≤ c ∧ c ≤ 57) ∨ c = 45 ∨ c = 95 := by simp [nmB, or_assoc]

/-- the byte at a place, 0 behind the end -/
def byteAt (s : ByteArray) (k : Nat) : Int := ((s.data.toList.getD k 0).toNat : Int)
theorem byteAt_lt (s : ByteArray) (k : Nat) (h : k < s.size) : byteAt s k = (s[k].toNat : Int) := by
  unfold byteAt
  have e : s.data.toList.getD k 0 = s[k] := by
    rw [List.getD_eq_getElem?_getD, Array.getElem?_toList, Array.getElem?_eq_getElem (by exact h)]; rfl
  rw [e]
theorem byteAt_range (s : ByteArray) (k : Nat) : 0 ≤ byteAt s k ∧ byteAt s k ≤ 255 := by
  unfold byteAt
  have := (s.data.toList.getD k 0).toNat_lt
  omega

/-- a name: 1 to 20 bytes, a letter first, bytes of names -/
def nameB (s : ByteArray) : Bool :=
  decide (1 ≤ s.size) && decide (s.size ≤ 20) && letB (byteAt s 0) && (List.range s.size).all (fun k => nmB (byteAt s k))
theorem nameB_iff (s : ByteArray) : nameB s = true ↔ 1 ≤ s.size ∧ s.size ≤ 20 ∧ letB (byteAt s 0) = true ∧ ∀ k, k < s.size → nmB (byteAt s k) = true := by
  simp [nameB, and_assoc]
theorem nameB_short (s : ByteArray) (h : s.size < 1) : nameB s = false := by
  rw [Bool.eq_false_iff, Ne, nameB_iff]; omega
theorem nameB_long (s : ByteArray) (h : 20 < s.size) : nameB s = false := by
  rw [Bool.eq_false_iff, Ne, nameB_iff]; omega
theorem nameB_head (s : ByteArray) (h : letB (byteAt s 0) = false) : nameB s = false := by
  rw [Bool.eq_false_iff, Ne, nameB_iff]; rintro ⟨_, _, h', _⟩; rw [h] at h'; cases h'
theorem nameB_bad (s : ByteArray) (k : Nat) (hk : k < s.size) (h : nmB (byteAt s k) = false) : nameB s = false := by
  rw [Bool.eq_false_iff, Ne, nameB_iff]; rintro ⟨_, _, _, h'⟩; rw [h' k hk] at h; cases h
theorem nameB_good (s : ByteArray) (h1 : 1 ≤ s.size) (h2 : s.size ≤ 20) (h3 : letB (byteAt s 0) = true) (h4 : ∀ k, k < s.size → nmB (byteAt s k) = true) : nameB s = true :=
  (nameB_iff s).2 ⟨h1, h2, h3, h4⟩

/-! ### bits of ints -/
theorem wraps_i64 (n : Int) (h0 : 0 ≤ n) (h1 : n < 2 ^ 63) : IntKind.i64.wrap n = n := by rw [IntKind.wrap_i64]; omega
theorem i64_and_nat (a b : Nat) (ha : a < 2 ^ 63) (hb : b < 2 ^ 63) : bits .and .i64 (a : Int) (b : Int) = ((a &&& b : Nat) : Int) :=
  (bits_nat .i64 63 (by decide) wraps_i64 a b ha hb).1
theorem i64_or_nat (a b : Nat) (ha : a < 2 ^ 63) (hb : b < 2 ^ 63) : bits .or .i64 (a : Int) (b : Int) = ((a ||| b : Nat) : Int) :=
  (bits_nat .i64 63 (by decide) wraps_i64 a b ha hb).2
theorem has_bit (X k : Nat) (hX : X < 2 ^ 63) : (bits .and .i64 ((X : Int) / 2 ^ k) 1 == 1) = X.testBit k := by
  have e : ((X : Int) / 2 ^ k) = ((X / 2 ^ k : Nat) : Int) := by simp
  have h1 : X / 2 ^ k ≤ X := Nat.div_le_self _ _
  rw [e, show (1 : Int) = ((1 : Nat) : Int) from rfl, i64_and_nat _ _ (by omega) (by decide), Nat.testBit_eq_decide_div_mod_eq, Nat.and_one_is_mod, Bool.eq_iff_iff]
  rw [beq_iff_eq, decide_eq_true_eq]
  omega
theorem pow_le (n : Nat) (hn : n ≤ 62) : (1 : Int) ≤ 2 ^ n ∧ (2 : Int) ^ n ≤ 4611686018427387904 := by
  have h1 : 2 ^ n ≤ 2 ^ 62 := Nat.pow_le_pow_right (by decide) hn
  have h2 : 1 ≤ 2 ^ n := Nat.one_le_two_pow
  have h3 : ((2 ^ n : Nat) : Int) = (2 : Int) ^ n := by norm_cast
  have h4 : (2 : Nat) ^ 62 = 4611686018427387904 := by decide
  omega
/-- a number is a set of so many actions -/
def setB (n : Nat) (x : Int) : Bool := decide (0 ≤ x) && decide (x < 2 ^ n)
theorem setB_iff (n : Nat) (x : Int) : setB n x = true ↔ 0 ≤ x ∧ x < 2 ^ n := by simp [setB]

/-! ### lists of actions -/
def at_ (ss : List ByteArray) (k : Nat) : ByteArray := ss.getD k ByteArray.empty
/-- a list of actions: at most 8 different names -/
def actsB (ss : List ByteArray) : Bool := decide (ss.length ≤ 8) && (List.range ss.length).all (fun k => nameB (at_ ss k) && !containsS (ss.take k) (at_ ss k))
theorem actsB_iff (ss : List ByteArray) : actsB ss = true ↔ ss.length ≤ 8 ∧ ∀ k, k < ss.length → nameB (at_ ss k) = true ∧ containsS (ss.take k) (at_ ss k) = false := by
  simp [actsB]
theorem actsB_long (ss : List ByteArray) (h : 8 < ss.length) : actsB ss = false := by
  rw [Bool.eq_false_iff, Ne, actsB_iff]; omega
theorem actsB_name (ss : List ByteArray) (k : Nat) (hk : k < ss.length) (h : nameB (at_ ss k) = false) : actsB ss = false := by
  rw [Bool.eq_false_iff, Ne, actsB_iff]; rintro ⟨_, h'⟩; rw [(h' k hk).1] at h; cases h
theorem actsB_twice (ss : List ByteArray) (k : Nat) (hk : k < ss.length) (h : containsS (ss.take k) (at_ ss k) = true) : actsB ss = false := by
  rw [Bool.eq_false_iff, Ne, actsB_iff]; rintro ⟨_, h'⟩; rw [(h' k hk).2] at h; cases h
theorem idx_first (ss : List ByteArray) (k : Nat) (hk : k < ss.length) : idxOfS ss (at_ ss k) = k ↔ containsS (ss.take k) (at_ ss k) = false := by
  have mem : ∀ x, x ∈ ss.take k ↔ ∃ j, j < k ∧ at_ ss j = x := fun x => by
    rw [List.mem_iff_getElem?]
    constructor
    · rintro ⟨j, hj⟩
      have hjk : j < k := by
        rcases Nat.lt_or_ge j k with h | h
        · exact h
        · rw [List.getElem?_eq_none (by rw [List.length_take]; omega)] at hj; cases hj
      rw [List.getElem?_take_of_lt hjk] at hj
      exact ⟨j, hjk, by unfold at_; rw [List.getD_eq_getElem?_getD, hj]; rfl⟩
    · rintro ⟨j, hjk, h⟩
      refine ⟨j, ?_⟩
      rw [List.getElem?_take_of_lt hjk, ← h]
      unfold at_
      rw [List.getD_eq_getElem?_getD, List.getElem?_eq_getElem (by omega)]; rfl
  constructor
  · intro h
    rw [Bool.eq_false_iff, Ne, containsS_iff, mem]
    rintro ⟨j, hj, he⟩
    -- the first such place
    have : ∃ m, m < k ∧ at_ ss m = at_ ss k ∧ ∀ i, i < m → at_ ss i ≠ at_ ss k := by
      clear h
      induction j using Nat.strongRecOn with
      | ind j ih =>
        by_cases hex : ∃ i, i < j ∧ at_ ss i = at_ ss k
        · obtain ⟨i, hi, hie⟩ := hex
          exact ih i hi (by omega) hie
        · exact ⟨j, hj, he, fun i hi e => hex ⟨i, hi, e⟩⟩
    obtain ⟨m, hm, hme, hmin⟩ := this
    have h2 := idxOfS_hit ss ss.length m (at_ ss k) (by omega) (Nat.le_refl _) hme hmin
    rw [List.take_length, h] at h2
    omega
  · intro h
    rw [Bool.eq_false_iff, Ne, containsS_iff, mem] at h
    have h2 := idxOfS_hit ss ss.length k (at_ ss k) hk (Nat.le_refl _) rfl (fun j hj e => h ⟨j, hj, e⟩)
    rwa [List.take_length] at h2
theorem actsB_good (ss : List ByteArray) (h : ss.length ≤ 8) (h' : ∀ k, k < ss.length → nameB (at_ ss k) = true ∧ containsS (ss.take k) (at_ ss k) = false) : actsB ss = true :=
  (actsB_iff ss).2 ⟨h, h'⟩

/-! ### strings of sets -/
/-- the members of a set of at most 8 actions, in increasing order -/
def memL (x : Nat) : List Nat := (List.range 8).filter fun k => x.testBit k
/-- the bytes of the string of a set -/
def setS (ss : List ByteArray) (y : Nat) : List UInt8 := [123] ++ join ((memL y).map fun k => (at_ ss k).data.toList) [44] ++ [125]
theorem lens_bound (m : Nat) : ∀ (xs : List (List UInt8)), (∀ x ∈ xs, x.length ≤ m) → lens xs ≤ m * xs.length
  | [], _ => by simp [lens]
  | x :: r, h => by
    have h1 := h x (by simp)
    have h2 := lens_bound m r (fun y hy => h y (by simp [hy]))
    have e : lens (x :: r) = x.length + lens r := by simp [lens]
    rw [e, List.length_cons, Nat.mul_add, Nat.mul_one]
    omega
theorem join_bound (m : Nat) (xs : List (List UInt8)) (h : ∀ x ∈ xs, x.length ≤ m) : (join xs [44]).length ≤ (m + 1) * xs.length := by
  cases xs with
  | nil => simp [join_nil]
  | cons x r =>
    have h1 := lens_bound m (x :: r) h
    have h2 : (join (x :: r) [44]).length = r.length + lens (x :: r) := by rw [join_length]; simp
    rw [h2, Nat.add_mul, List.length_cons]
    rw [List.length_cons] at h1
    omega
theorem name_size {s : ByteArray} (h : nameB s = true) : s.data.toList.length ≤ 20 := by
  have := ((nameB_iff s).1 h).2.1
  simpa using this
end Go.Proofs.YtgpfpnenpgnogaaGreatDoor.Pl
/- Plain facts about systems: validity, and the lists of edges; nothing here is about a program. -/
namespace Go.Proofs.YtgpfpnenpgnogaaGreatDoor.Pl
open Go Go.Lib

abbrev Edg := Int × Int
/-- a system: the names of its actions, and the edges (action, state) of each state -/
structure Syst where
  acts : List ByteArray
  states : List (List Edg)

def stAt (s : List (List Edg)) (i : Nat) : List Edg := s.getD i []
def edAt (l : List Edg) (k : Nat) : Edg := l.getD k (0, 0)
/-- an edge precedes another one -/
def ltE (d e : Edg) : Bool := decide (d.1 < e.1) || (decide (d.1 = e.1) && decide (d.2 < e.2))
theorem ltE_iff (d e : Edg) : ltE d e = true ↔ d.1 < e.1 ∨ (d.1 = e.1 ∧ d.2 < e.2) := by simp [ltE]
theorem ltE_false (d e : Edg) : ltE d e = false ↔ e.1 < d.1 ∨ (d.1 = e.1 ∧ e.2 ≤ d.2) := by
  rw [Bool.eq_false_iff, Ne, ltE_iff]; omega
def okE (na ns : Nat) (e : Edg) : Bool := decide (0 ≤ e.1) && decide (e.1 < na) && decide (0 ≤ e.2) && decide (e.2 < ns)
theorem okE_iff (na ns : Nat) (e : Edg) : okE na ns e = true ↔ 0 ≤ e.1 ∧ e.1 < na ∧ 0 ≤ e.2 ∧ e.2 < ns := by simp [okE, and_assoc]
/-- the test of the edge at a place -/
def edgeB (na ns : Nat) (l : List Edg) (k : Nat) : Bool := okE na ns (edAt l k) && (decide (k = 0) || ltE (edAt l (k - 1)) (edAt l k))
def edgesB (na ns : Nat) (l : List Edg) : Bool := (List.range l.length).all (edgeB na ns l)
theorem edgesB_iff (na ns : Nat) (l : List Edg) : edgesB na ns l = true ↔ ∀ k, k < l.length → edgeB na ns l k = true := by simp [edgesB]
theorem edgesB_bad {na ns : Nat} {l : List Edg} {k : Nat} (hk : k < l.length) (h : edgeB na ns l k = false) : edgesB na ns l = false := by
  rw [Bool.eq_false_iff, Ne, edgesB_iff]
  intro h'
  rw [h' k hk] at h; cases h
theorem edgesB_good {na ns : Nat} {l : List Edg} (h : ∀ k, k < l.length → edgeB na ns l k = true) : edgesB na ns l = true := (edgesB_iff na ns l).2 h
theorem edgeB_out {na ns : Nat} {l : List Edg} {k : Nat} (h : okE na ns (edAt l k) = false) : edgeB na ns l k = false := by simp [edgeB, h]
theorem edgeB_back {na ns : Nat} {l : List Edg} {k : Nat} (h0 : 0 < k) (h : ltE (edAt l (k - 1)) (edAt l k) = false) : edgeB na ns l k = false := by
  have : decide (k = 0) = false := by simp; omega
  simp [edgeB, h, this]
theorem edgeB_zero {na ns : Nat} {l : List Edg} (h : okE na ns (edAt l 0) = true) : edgeB na ns l 0 = true := by simp [edgeB, h]
theorem edgeB_next {na ns : Nat} {l : List Edg} {k : Nat} (h : okE na ns (edAt l k) = true) (h' : ltE (edAt l (k - 1)) (edAt l k) = true) : edgeB na ns l k = true := by simp [edgeB, h, h']

/-- the number of edges -/
def total (s : List (List Edg)) : Nat := (s.map List.length).sum
theorem total_nil : total [] = 0 := rfl
theorem total_snoc (s : List (List Edg)) (l : List Edg) : total (s ++ [l]) = total s + l.length := by simp [total]
theorem take_next {α : Type} (s : List α) (k : Nat) (d : α) (h : k < s.length) : s.take (k + 1) = s.take k ++ [s.getD k d] := by
  rw [List.take_succ_eq_append_getElem h, List.getD_eq_getElem?_getD, List.getElem?_eq_getElem h]; rfl
theorem total_take (s : List (List Edg)) (k : Nat) (h : k < s.length) : total (s.take (k + 1)) = total (s.take k) + (stAt s k).length := by
  rw [take_next s k [] h, total_snoc]; rfl
theorem total_take_le (s : List (List Edg)) : ∀ (k : Nat), total (s.take k) ≤ total s := by
  intro k
  have e : total s = total (s.take k) + total (s.drop k) := by
    unfold total
    rw [List.map_take, List.map_drop, ← List.sum_append, List.take_append_drop]
  omega

/-- a valid system -/
def sysB (m : Syst) : Bool :=
  actsB m.acts && decide (1 ≤ m.states.length) && decide (m.states.length ≤ 5000) && (List.range m.states.length).all (fun i => edgesB m.acts.length m.states.length (stAt m.states i)) && decide (total m.states ≤ 400000)
theorem sysB_iff (m : Syst) : sysB m = true ↔ actsB m.acts = true ∧ 1 ≤ m.states.length ∧ m.states.length ≤ 5000 ∧ (∀ i, i < m.states.length → edgesB m.acts.length m.states.length (stAt m.states i) = true) ∧ total m.states ≤ 400000 := by
  simp [sysB, and_assoc]
theorem sysB_acts {m : Syst} (h : actsB m.acts = false) : sysB m = false := by simp [sysB, h]
theorem sysB_few {m : Syst} (h : m.states.length < 1) : sysB m = false := by
  rw [Bool.eq_false_iff, Ne, sysB_iff]; omega
theorem sysB_many {m : Syst} (h : 5000 < m.states.length) : sysB m = false := by
  rw [Bool.eq_false_iff, Ne, sysB_iff]; omega
theorem sysB_total {m : Syst} (h : 400000 < total m.states) : sysB m = false := by
  rw [Bool.eq_false_iff, Ne, sysB_iff]; omega
theorem sysB_edges {m : Syst} (i : Nat) (hi : i < m.states.length) (h : edgesB m.acts.length m.states.length (stAt m.states i) = false) : sysB m = false := by
  rw [Bool.eq_false_iff, Ne, sysB_iff]
  rintro ⟨_, _, _, h', _⟩
  rw [h' i hi] at h; cases h
theorem sysB_good {m : Syst} (h1 : actsB m.acts = true) (h2 : 1 ≤ m.states.length) (h3 : m.states.length ≤ 5000) (h4 : ∀ i, i < m.states.length → edgesB m.acts.length m.states.length (stAt m.states i) = true) (h5 : total m.states ≤ 400000) : sysB m = true :=
  (sysB_iff m).2 ⟨h1, h2, h3, h4, h5⟩

/-- at most so many parts -/
def fewB (m : Syst) (most : Nat) : Bool := decide (m.acts.length + m.states.length + total m.states ≤ most)
theorem fewB_iff (m : Syst) (most : Nat) : fewB m most = true ↔ m.acts.length + m.states.length + total m.states ≤ most := by simp [fewB]
end Go.Proofs.YtgpfpnenpgnogaaGreatDoor.Pl
/- Plain facts about specifications: validity, parts; nothing here is about a program. -/
namespace Go.Proofs.YtgpfpnenpgnogaaGreatDoor.Pl
open Go Go.Lib

/-! ### x &^ L -/
theorem wrap_zero (r : BitVec 64) : IntKind.i64.wrap (r.toNat : Int) = 0 ↔ r = 0#64 := by
  have h := r.isLt
  rw [IntKind.wrap_i64]
  constructor
  · intro e
    apply BitVec.eq_of_toNat_eq
    simp only [BitVec.toNat_ofNat]
    omega
  · rintro rfl
    simp
theorem andNot_zero (x : Int) (h1 : -9223372036854775808 ≤ x) (h2 : x ≤ 9223372036854775807) (L : Nat) (hL : L < 256) :
    bits .andNot .i64 x (L : Int) = 0 ↔ (0 ≤ x ∧ ∀ a, a < 64 → x.toNat.testBit a = true → L.testBit a = true) := by
  show IntKind.i64.wrap ((BitVec.ofInt 64 x &&& ~~~(BitVec.ofInt 64 (L : Int))).toNat : Int) = 0 ↔ _
  rw [wrap_zero]
  have hLb : ∀ i, i < 64 → (BitVec.ofInt 64 (L : Int)).getLsbD i = L.testBit i := fun i hi => by
    rw [BitVec.ofInt_natCast, BitVec.getLsbD_ofNat]
    simp [hi]
  by_cases hx : 0 ≤ x
  · obtain ⟨n, rfl⟩ := Int.eq_ofNat_of_zero_le hx
    have hn : ∀ i, i < 64 → (BitVec.ofInt 64 (n : Int)).getLsbD i = n.testBit i := fun i hi => by
      rw [BitVec.ofInt_natCast, BitVec.getLsbD_ofNat]
      simp [hi]
    constructor
    · intro e
      refine ⟨by omega, fun a ha hb => ?_⟩
      have := congrArg (fun r : BitVec 64 => r.getLsbD a) e
      simp only [BitVec.getLsbD_and, BitVec.getLsbD_not, hn a ha, hLb a ha, BitVec.getLsbD_zero] at this
      simp only [Int.toNat_natCast] at hb
      rw [hb] at this
      simp [ha] at this
      exact this
    · rintro ⟨_, h⟩
      apply BitVec.eq_of_getLsbD_eq
      intro i hi
      rw [BitVec.getLsbD_and, BitVec.getLsbD_not, hn i hi, hLb i hi, BitVec.getLsbD_zero]
      have := h i hi
      simp only [Int.toNat_natCast] at this
      cases hb : n.testBit i
      · simp
      · rw [this hb]; simp
  · constructor
    · intro e
      exfalso
      have := congrArg (fun r : BitVec 64 => r.getLsbD 63) e
      simp only [BitVec.getLsbD_and, BitVec.getLsbD_not, hLb 63 (by decide), BitVec.getLsbD_zero] at this
      have hl : L.testBit 63 = false := Nat.testBit_lt_two_pow (Nat.lt_of_lt_of_le hL (by decide))
      have hm : (BitVec.ofInt 64 x).getLsbD 63 = true := by
        have hm2 : (BitVec.ofInt 64 x).toNat = (x % 18446744073709551616).toNat := by simp [BitVec.toNat_ofInt]
        have hb := BitVec.msb_eq_decide (BitVec.ofInt 64 x)
        rw [BitVec.msb_eq_getLsbD_last] at hb
        rw [show (64 - 1 : Nat) = 63 from rfl] at hb
        rw [hb, decide_eq_true_eq, hm2]
        omega
      rw [hl, hm] at this
      simp at this
    · rintro ⟨h, _⟩
      exact absurd h hx

/-- a state: the sets that it accepts, and the next states -/
abbrev Ste := List Int × List Int
structure Spc where
  acts : List ByteArray
  states : List Ste
def teAt (s : List Ste) (i : Nat) : Ste := s.getD i ([], [])
def okNext (ns : Nat) (k : Int) : Bool := decide (-1 ≤ k) && decide (k < ns)
theorem okNext_iff (ns : Nat) (k : Int) : okNext ns k = true ↔ -1 ≤ k ∧ k < ns := by simp [okNext]
def nextB (na ns : Nat) (next : List Int) : Bool := decide (next.length = na) && (List.range next.length).all (fun j => okNext ns (next.getD j 0))
theorem nextB_iff (na ns : Nat) (next : List Int) : nextB na ns next = true ↔ next.length = na ∧ ∀ j, j < next.length → okNext ns (next.getD j 0) = true := by
  simp only [nextB, Bool.and_eq_true, decide_eq_true_eq, List.all_eq_true, List.mem_range]
/-- an action that leads on -/
def leadP (next : List Int) (a : Nat) : Bool := decide (a < next.length) && decide (next.getD a 0 ≠ -1)
/-- the set of the actions that lead on -/
def leadN (next : List Int) : Nat → Nat
  | 0 => 0
  | j + 1 => if next.getD j 0 ≠ -1 then leadN next j ||| 2 ^ j else leadN next j
theorem leadN_bit (next : List Int) (a : Nat) : ∀ j, (leadN next j).testBit a = (decide (a < j) && decide (next.getD a 0 ≠ -1))
  | 0 => by simp [leadN]
  | j + 1 => by
    have ih := leadN_bit next a j
    unfold leadN
    by_cases h : next.getD j 0 ≠ -1
    · rw [if_pos h, Nat.testBit_or, ih, Nat.testBit_two_pow]
      by_cases e : a = j
      · subst e
        rw [decide_eq_true h]
        simp
      · rw [decide_eq_false (fun e2 : j = a => e e2.symm), Bool.or_false]
        congr 1
        rw [decide_eq_decide]
        omega
    · rw [if_neg h, ih]
      by_cases e : a = j
      · subst e
        rw [decide_eq_false h]
        simp
      · congr 1
        rw [decide_eq_decide]
        omega
theorem leadN_lt (next : List Int) : ∀ j, j ≤ 8 → leadN next j < 256
  | 0, _ => by simp [leadN]
  | j + 1, h => by
    have ih := leadN_lt next j (by omega)
    unfold leadN
    split
    · exact Nat.or_lt_two_pow (n := 8) ih (Nat.pow_lt_pow_right (by decide) (by omega))
    · exact ih
def okSet (next : List Int) (x : Int) : Bool := decide (0 ≤ x) && (List.range 64).all (fun a => !(x.toNat.testBit a) || leadP next a)
theorem okSet_iff (next : List Int) (x : Int) : okSet next x = true ↔ 0 ≤ x ∧ ∀ a, a < 64 → x.toNat.testBit a = true → leadP next a = true := by
  simp only [okSet, Bool.and_eq_true, decide_eq_true_eq, List.all_eq_true, List.mem_range, Bool.or_eq_true, Bool.not_eq_true']
  constructor
  · rintro ⟨h0, h⟩
    exact ⟨h0, fun a ha hb => by
      rcases h a ha with h | h
      · rw [hb] at h; cases h
      · exact h⟩
  · rintro ⟨h0, h⟩
    exact ⟨h0, fun a ha => by
      cases hb : x.toNat.testBit a
      · exact .inl rfl
      · exact .inr (h a ha hb)⟩
theorem okSet_lead {next : List Int} (hn : next.length ≤ 8) (x : Int) (h1 : -9223372036854775808 ≤ x) (h2 : x ≤ 9223372036854775807) :
    (bits .andNot .i64 x (leadN next next.length : Int) = 0) ↔ okSet next x = true := by
  rw [andNot_zero x h1 h2 _ (leadN_lt next _ hn), okSet_iff]
  simp only [leadN_bit, leadP]
def risB (acc : List Int) (i : Nat) : Bool := decide (i = 0) || decide (acc.getD (i - 1) 0 < acc.getD i 0)
def accB (acc next : List Int) : Bool := (List.range acc.length).all (fun i => okSet next (acc.getD i 0) && risB acc i)
theorem accB_iff (acc next : List Int) : accB acc next = true ↔ ∀ i, i < acc.length → okSet next (acc.getD i 0) = true ∧ risB acc i = true := by
  simp only [accB, List.all_eq_true, List.mem_range, Bool.and_eq_true]
theorem accB_bad {acc next : List Int} {i : Nat} (hi : i < acc.length) (h : okSet next (acc.getD i 0) = false ∨ risB acc i = false) : accB acc next = false := by
  rw [Bool.eq_false_iff, Ne, accB_iff]
  intro h'
  obtain ⟨a, b⟩ := h' i hi
  rcases h with h | h
  · rw [a] at h; cases h
  · rw [b] at h; cases h
def steB (na ns : Nat) (t : Ste) : Bool := nextB na ns t.2 && accB t.1 t.2
/-- a valid specification -/
def spcB (s : Spc) : Bool := actsB s.acts && decide (1 ≤ s.states.length) && decide (s.states.length ≤ 500) && (List.range s.states.length).all (fun i => steB s.acts.length s.states.length (teAt s.states i))
theorem spcB_iff (s : Spc) : spcB s = true ↔ actsB s.acts = true ∧ 1 ≤ s.states.length ∧ s.states.length ≤ 500 ∧ ∀ i, i < s.states.length → steB s.acts.length s.states.length (teAt s.states i) = true := by
  simp only [spcB, Bool.and_eq_true, decide_eq_true_eq, List.all_eq_true, List.mem_range, and_assoc]
theorem spcB_acts {s : Spc} (h : actsB s.acts = false) : spcB s = false := by simp [spcB, h]
theorem spcB_few {s : Spc} (h : s.states.length < 1) : spcB s = false := by
  rw [Bool.eq_false_iff, Ne, spcB_iff]; omega
theorem spcB_many {s : Spc} (h : 500 < s.states.length) : spcB s = false := by
  rw [Bool.eq_false_iff, Ne, spcB_iff]; omega
theorem spcB_ste {s : Spc} (i : Nat) (hi : i < s.states.length) (h : steB s.acts.length s.states.length (teAt s.states i) = false) : spcB s = false := by
  rw [Bool.eq_false_iff, Ne, spcB_iff]
  rintro ⟨_, _, _, h'⟩
  rw [h' i hi] at h; cases h
/-- the numbers of its states -/
def totalS (s : List Ste) : Nat := (s.map fun t => t.1.length + t.2.length).sum
theorem totalS_snoc (s : List Ste) (t : Ste) : totalS (s ++ [t]) = totalS s + (t.1.length + t.2.length) := by simp [totalS]
theorem totalS_take (s : List Ste) (k : Nat) (h : k < s.length) : totalS (s.take (k + 1)) = totalS (s.take k) + ((teAt s k).1.length + (teAt s k).2.length) := by
  rw [take_next s k ([], []) h, totalS_snoc]; rfl
theorem totalS_take_le (s : List Ste) : ∀ (k : Nat), totalS (s.take k) ≤ totalS s := by
  intro k
  have e : totalS s = totalS (s.take k) + totalS (s.drop k) := by
    unfold totalS
    rw [List.map_take, List.map_drop, ← List.sum_append, List.take_append_drop]
  omega
def fewS (s : Spc) (most : Nat) : Bool := decide (s.acts.length + s.states.length + totalS s.states ≤ most)
theorem fewS_iff (s : Spc) (most : Nat) : fewS s most = true ↔ s.acts.length + s.states.length + totalS s.states ≤ most := by simp [fewS]
end Go.Proofs.YtgpfpnenpgnogaaGreatDoor.Pl
