/- Texts joined: SysPl, SpecPl, SatPl. -/
import Derived.Test.YtbncofgbpffmkaaGreatDoorJc00
/- Plain facts about systems: validity, and the lists of edges; nothing here is about a program. -/
namespace Go.Proofs.YtbncofgbpffmkaaGreatDoor.Pl
open Go Go.Lib

abbrev Edg := Int × Int
/-- a system: the names of its actions, and the edges (action, state) of each state -/
structure Syst where
  acts : List ByteArray
  states : List (List Edg)

def stAt (s : List (List Edg)) (i : Nat) : List Edg := s.getD i []
def edAt (l : List Edg) (k : Nat) : Edg := l.getD k (0, 0)
/-- an edge precedes another one -/
def ltE (d e : Edg) : Bool := decide (d.1 < e.1) || (decide (d.1 = e.1) && decide (d.2 < e.2))
theorem ltE_iff (d e : Edg) : ltE d e = true ↔ d.1 < e.1 ∨ (d.1 = e.1 ∧ d.2 < e.2) := by simp [ltE]
theorem ltE_false (d e : Edg) : ltE d e = false ↔ e.1 < d.1 ∨ (d.1 = e.1 ∧ e.2 ≤ d.2) := by
  rw [Bool.eq_false_iff, Ne, ltE_iff]; omega
def okE (na ns : Nat) (e : Edg) : Bool := decide (0 ≤ e.1) && decide (e.1 < na) && decide (0 ≤ e.2) && decide (e.2 < ns)
theorem okE_iff (na ns : Nat) (e : Edg) : okE na ns e = true ↔ 0 ≤ e.1 ∧ e.1 < na ∧ 0 ≤ e.2 ∧ e.2 < ns := by simp [okE, and_assoc]
/-- the test of the edge at a place -/
def edgeB (na ns : Nat) (l : List Edg) (k : Nat) : Bool := okE na ns (edAt l k) && (decide (k = 0) || ltE (edAt l (k - 1)) (edAt l k))
def edgesB (na ns : Nat) (l : List Edg) : Bool := (List.range l.length).all (edgeB na ns l)
theorem edgesB_iff (na ns : Nat) (l : List Edg) : edgesB na ns l = true ↔ ∀ k, k < l.length → edgeB na ns l k = true := by simp [edgesB]
theorem edgesB_bad {na ns : Nat} {l : List Edg} {k : Nat} (hk : k < l.length) (h : edgeB na ns l k = false) : edgesB na ns l = false := by
  rw [Bool.eq_false_iff, Ne, edgesB_iff]
  intro h'
  rw [h' k hk] at h; cases h
theorem edgesB_good {na ns : Nat} {l : List Edg} (h : ∀ k, k < l.length → edgeB na ns l k = true) : edgesB na ns l = true := (edgesB_iff na ns l).2 h
theorem edgeB_out {na ns : Nat} {l : List Edg} {k : Nat} (h : okE na ns (edAt l k) = false) : edgeB na ns l k = false := by simp [edgeB, h]
theorem edgeB_back {na ns : Nat} {l : List Edg} {k : Nat} (h0 : 0 < k) (h : ltE (edAt l (k - 1)) (edAt l k) = false) : edgeB na ns l k = false := by
  have : decide (k = 0) = false := by simp; omega
  simp [edgeB, h, this]
theorem edgeB_zero {na ns : Nat} {l : List Edg} (h : okE na ns (edAt l 0) = true) : edgeB na ns l 0 = true := by simp [edgeB, h]
theorem edgeB_next {na ns : Nat} {l : List Edg} {k : Nat} (h : okE na ns (edAt l k) = true) (h' : ltE (edAt l (k - 1)) (edAt l k) = true) : edgeB na ns l k = true := by simp [edgeB, h, h']

/-- the number of edges -/
def total (s : List (List Edg)) : Nat := (s.map List.length).sum
theorem total_nil : total [] = 0 := rfl
theorem total_snoc (s : List (List Edg)) (l : List Edg) : total (s ++ [l]) = total s + l.length := by simp [total]
theorem take_next {α : Type} (s : List α) (k : Nat) (d : α) (h : k < s.length) : s.take (k + 1) = s.take k ++ [s.getD k d] := by
  rw [List.take_succ_eq_append_getElem h, List.getD_eq_getElem?_getD, List.getElem?_eq_getElem h]; rfl
theorem total_take (s : List (List Edg)) (k : Nat) (h : k < s.length) : total (s.take (k + 1)) = total (s.take k) + (stAt s k).length := by
  rw [take_next s k [] h, total_snoc]; rfl
theorem total_take_le (s : List (List Edg)) : ∀ (k : Nat), total (s.take k) ≤ total s := by
  intro k
  have e : total s = total (s.take k) + total (s.drop k) := by
    unfold total
    rw [List.map_take, List.map_drop, ← List.sum_append, List.take_append_drop]
  omega

/-- a valid system -/
def sysB (m : Syst) : Bool :=
  actsB m.acts && decide (1 ≤ m.states.length) && decide (m.states.length ≤ 5000) && (List.range m.states.length).all (fun i => edgesB m.acts.length m.states.length (stAt m.states i)) && decide (total m.states ≤ 400000)
theorem sysB_iff (m : Syst) : sysB m = true ↔ actsB m.acts = true ∧ 1 ≤ m.states.length ∧ m.states.length ≤ 5000 ∧ (∀ i, i < m.states.length → edgesB m.acts.length m.states.length (stAt m.states i) = true) ∧ total m.states ≤ 400000 := by
  simp [sysB, and_assoc]
theorem sysB_acts {m : Syst} (h : actsB m.acts = false) : sysB m = false := by simp [sysB, h]
theorem sysB_few {m : Syst} (h : m.states.length < 1) : sysB m = false := by
  rw [Bool.eq_false_iff, Ne, sysB_iff]; omega
theorem sysB_many {m : Syst} (h : 5000 < m.states.length) : sysB m = false := by
  rw [Bool.eq_false_iff, Ne, sysB_iff]; omega
theorem sysB_total {m : Syst} (h : 400000 < total m.states) : sysB m = false := by
  rw [Bool.eq_false_iff, Ne, sysB_iff]; omega
theorem sysB_edges {m : Syst} (i : Nat) (hi : i < m.states.length) (h : edgesB m.acts.length m.states.length (stAt m.states i) = false) : sysB m = false := by
  rw [Bool.eq_false_iff, Ne, sysB_iff]
  rintro ⟨_, _, _, h', _⟩
  rw [h' i hi] at h; cases h
theorem sysB_good {m : Syst} (h1 : actsB m.acts = true) (h2 : 1 ≤ m.states.length) (h3 : m.states.length ≤ 5000) (h4 : ∀ i, i < m.states.length → edgesB m.acts.length m.states.length (stAt m.states i) = true) (h5 : total m.states ≤ 400000) : sysB m = true :=
  (sysB_iff m).2 ⟨h1, h2, h3, h4, h5⟩

/-- at most so many parts -/
def fewB (m : Syst) (most : Nat) : Bool := decide (m.acts.length + m.states.length + total m.states ≤ most)
theorem fewB_iff (m : Syst) (most : Nat) : fewB m most = true ↔ m.acts.length + m.states.length + total m.states ≤ most := by simp [fewB]
end Go.Proofs.YtbncofgbpffmkaaGreatDoor.Pl
/- Plain facts about specifications: validity, parts; nothing here is about a program. -/
namespace Go.Proofs.YtbncofgbpffmkaaGreatDoor.Pl
open Go Go.Lib

/-! ### x &^ L -/
theorem wrap_zero (r : BitVec 64) : IntKind.i64.wrap (r.toNat : Int) = 0 ↔ r = 0#64 := by
  have h := r.isLt
  rw [IntKind.wrap_i64]
  constructor
  · intro e
    apply BitVec.eq_of_toNat_eq
    simp only [BitVec.toNat_ofNat]
    omega
  · rintro rfl
    simp
theorem andNot_zero (x : Int) (h1 : -9223372036854775808 ≤ x) (h2 : x ≤ 9223372036854775807) (L : Nat) (hL : L < 256) :
    bits .andNot .i64 x (L : Int) = 0 ↔ (0 ≤ x ∧ ∀ a, a < 64 → x.toNat.testBit a = true → L.testBit a = true) := by
  show IntKind.i64.wrap ((BitVec.ofInt 64 x &&& ~~~(BitVec.ofInt 64 (L : Int))).toNat : Int) = 0 ↔ _
  rw [wrap_zero]
  have hLb : ∀ i, i < 64 → (BitVec.ofInt 64 (L : Int)).getLsbD i = L.testBit i := fun i hi => by
    rw [BitVec.ofInt_natCast, BitVec.getLsbD_ofNat]
    simp [hi]
  by_cases hx : 0 ≤ x
  · obtain ⟨n, rfl⟩ := Int.eq_ofNat_of_zero_le hx
    have hn : ∀ i, i < 64 → (BitVec.ofInt 64 (n : Int)).getLsbD i = n.testBit i := fun i hi => by
      rw [BitVec.ofInt_natCast, BitVec.getLsbD_ofNat]
      simp [hi]
    constructor
    · intro e
      refine ⟨by omega, fun a ha hb => ?_⟩
      have := congrArg (fun r : BitVec 64 => r.getLsbD a) e
      simp only [BitVec.getLsbD_and, BitVec.getLsbD_not, hn a ha, hLb a ha, BitVec.getLsbD_zero] at this
      simp only [Int.toNat_natCast] at hb
      rw [hb] at this
      simp [ha] at this
      exact this
    · rintro ⟨_, h⟩
      apply BitVec.eq_of_getLsbD_eq
      intro i hi
      rw [BitVec.getLsbD_and, BitVec.getLsbD_not, hn i hi, hLb i hi, BitVec.getLsbD_zero]
      have := h i hi
      simp only [Int.toNat_natCast] at this
      cases hb : n.testBit i
      · simp
      · rw [this hb]; simp
  · constructor
    · intro e
      exfalso
      have := congrArg (fun r : BitVec 64 => r.getLsbD 63) e
      simp only [BitVec.getLsbD_and, BitVec.getLsbD_not, hLb 63 (by decide), BitVec.getLsbD_zero] at this
      have hl : L.testBit 63 = false := Nat.testBit_lt_two_pow (Nat.lt_of_lt_of_le hL (by decide))
      have hm : (BitVec.ofInt 64 x).getLsbD 63 = true := by
        have hm2 : (BitVec.ofInt 64 x).toNat = (x % 18446744073709551616).toNat := by simp [BitVec.toNat_ofInt]
        have hb := BitVec.msb_eq_decide (BitVec.ofInt 64 x)
        rw [BitVec.msb_eq_getLsbD_last] at hb
        rw [show (64 - 1 : Nat) = 63 from rfl] at hb
        rw [hb, decide_eq_true_eq, hm2]
        omega
      rw [hl, hm] at this
      simp at this
    · rintro ⟨h, _⟩
      exact absurd h hx

/-- a state: the sets that it accepts, and the next states -/
abbrev Ste := List Int × List Int
structure Spc where
  acts : List ByteArray
  states : List Ste
def teAt (s : List Ste) (i : Nat) : Ste := s.getD i ([], [])
def okNext (ns : Nat) (k : Int) : Bool := decide (-1 ≤ k) && decide (k < ns)
theorem okNext_iff (ns : Nat) (k : Int) : okNext ns k = true ↔ -1 ≤ k ∧ k < ns := by simp [okNext]
def nextB (na ns : Nat) (next : List Int) : Bool := decide (next.length = na) && (List.range next.length).all (fun j => okNext ns (next.getD j 0))
theorem nextB_iff (na ns : Nat) (next : List Int) : nextB na ns next = true ↔ next.length = na ∧ ∀ j, j < next.length → okNext ns (next.getD j 0) = true := by
  simp only [nextB, Bool.and_eq_true, decide_eq_true_eq, List.all_eq_true, List.mem_range]
/-- an action that leads on -/
def leadP (next : List Int) (a : Nat) : Bool := decide (a < next.length) && decide (next.getD a 0 ≠ -1)
/-- the set of the actions that lead on -/
def leadN (next : List Int) : Nat → Nat
  | 0 => 0
  | j + 1 => if next.getD j 0 ≠ -1 then leadN next j ||| 2 ^ j else leadN next j
theorem leadN_bit (next : List Int) (a : Nat) : ∀ j, (leadN next j).testBit a = (decide (a < j) && decide (next.getD a 0 ≠ -1))
  | 0 => by simp [leadN]
  | j + 1 => by
    have ih := leadN_bit next a j
    unfold leadN
    by_cases h : next.getD j 0 ≠ -1
    · rw [if_pos h, Nat.testBit_or, ih, Nat.testBit_two_pow]
      by_cases e : a = j
      · subst e
        rw [decide_eq_true h]
        simp
      · rw [decide_eq_false (fun e2 : j = a => e e2.symm), Bool.or_false]
        congr 1
        rw [decide_eq_decide]
        omega
    · rw [if_neg h, ih]
      by_cases e : a = j
      · subst e
        rw [decide_eq_false h]
        simp
      · congr 1
        rw [decide_eq_decide]
        omega
theorem leadN_lt (next : List Int) : ∀ j, j ≤ 8 → leadN next j < 256
  | 0, _ => by simp [leadN]
  | j + 1, h => by
    have ih := leadN_lt next j (by omega)
    unfold leadN
    split
    · exact Nat.or_lt_two_pow (n := 8) ih (Nat.pow_lt_pow_right (by decide) (by omega))
    · exact ih
def okSet (next : List Int) (x : Int) : Bool := decide (0 ≤ x) && (List.range 64).all (fun a => !(x.toNat.testBit a) || leadP next a)
theorem okSet_iff (next : List Int) (x : Int) : okSet next x = true ↔ 0 ≤ x ∧ ∀ a, a < 64 → x.toNat.testBit a = true → leadP next a = true := by
  simp only [okSet, Bool.and_eq_true, decide_eq_true_eq, List.all_eq_true, List.mem_range, Bool.or_eq_true, Bool.not_eq_true']
  constructor
  · rintro ⟨h0, h⟩
    exact ⟨h0, fun a ha hb => by
      rcases h a ha with h | h
      · rw [hb] at h; cases h
      · exact h⟩
  · rintro ⟨h0, h⟩
    exact ⟨h0, fun a ha => by
      cases hb : x.toNat.testBit a
      · exact .inl rfl
      · exact .inr (h a ha hb)⟩
theorem okSet_lead {next : List Int} (hn : next.length ≤ 8) (x : Int) (h1 : -9223372036854775808 ≤ x) (h2 : x ≤ 9223372036854775807) :
    (bits .andNot .i64 x (leadN next next.length : Int) = 0) ↔ okSet next x = true := by
  rw [andNot_zero x h1 h2 _ (leadN_lt next _ hn), okSet_iff]
  simp only [leadN_bit, leadP]
def risB (acc : List Int) (i : Nat) : Bool := decide (i = 0) || decide (acc.getD (i - 1) 0 < acc.getD i 0)
def accB (acc next : List Int) : Bool := (List.range acc.length).all (fun i => okSet next (acc.getD i 0) && risB acc i)
theorem accB_iff (acc next : List Int) : accB acc next = true ↔ ∀ i, i < acc.length → okSet next (acc.getD i 0) = true ∧ risB acc i = true := by
  simp only [accB, List.all_eq_true, List.mem_range, Bool.and_eq_true]
theorem accB_bad {acc next : List Int} {i : Nat} (hi : i < acc.length) (h : okSet next (acc.getD i 0) = false ∨ risB acc i = false) : accB acc next = false := by
  rw [Bool.eq_false_iff, Ne, accB_iff]
  intro h'
  obtain ⟨a, b⟩ := h' i hi
  rcases h with h | h
  · rw [a] at h; cases h
  · rw [b] at h; cases h
def steB (na ns : Nat) (t : Ste) : Bool := nextB na ns t.2 && accB t.1 t.2
/-- a valid specification -/
def spcB (s : Spc) : Bool := actsB s.acts && decide (1 ≤ s.states.length) && decide (s.states.length ≤ 500) && (List.range s.states.length).all (fun i => steB s.acts.length s.states.length (teAt s.states i))
theorem spcB_iff (s : Spc) : spcB s = true ↔ actsB s.acts = true ∧ 1 ≤ s.states.length ∧ s.states.length ≤ 500 ∧ ∀ i, i < s.states.length → steB s.acts.length s.states.length (teAt s.states i) = true := by
  simp only [spcB, Bool.and_eq_true, decide_eq_true_eq, List.all_eq_true, List.mem_range, and_assoc]
theorem spcB_acts {s : Spc} (h : actsB s.acts = false) : spcB s = false := by simp [spcB, h]
theorem spcB_few {s : Spc} (h : s.states.length < 1) : spcB s = false := by
  rw [Bool.eq_false_iff, Ne, spcB_iff]; omega
theorem spcB_many {s : Spc} (h : 500 < s.states.length) : spcB s = false := by
  rw [Bool.eq_false_iff, Ne, spcB_iff]; omega
theorem spcB_ste {s : Spc} (i : Nat) (hi : i < s.states.length) (h : steB s.acts.length s.states.length (teAt s.states i) = false) : spcB s = false := by
  rw [Bool.eq_false_iff, Ne, spcB_iff]
  rintro ⟨_, _, _, h'⟩
  rw [h' i hi] at h; cases h
/-- the numbers of its states -/
def totalS (s : List Ste) : Nat := (s.map fun t => t.1.length + t.2.length).sum
theorem totalS_snoc (s : List Ste) (t : Ste) : totalS (s ++ [t]) = totalS s + (t.1.length + t.2.length) := by simp [totalS]
theorem totalS_take (s : List Ste) (k : Nat) (h : k < s.length) : totalS (s.take (k + 1)) = totalS (s.take k) + ((teAt s k).1.length + (teAt s k).2.length) := by
  rw [take_next s k ([], []) h, totalS_snoc]; rfl
theorem totalS_take_le (s : List Ste) : ∀ (k : Nat), totalS (s.take k) ≤ totalS s := by
  intro k
  have e : totalS s = totalS (s.take k) + totalS (s.drop k) := by
    unfold totalS
    rw [List.map_take, List.map_drop, ← List.sum_append, List.take_append_drop]
  omega
def fewS (s : Spc) (most : Nat) : Bool := decide (s.acts.length + s.states.length + totalS s.states ≤ most)
theorem fewS_iff (s : Spc) (most : Nat) : fewS s most = true ↔ s.acts.length + s.states.length + totalS s.states ≤ most := by simp [fewS]
end Go.Proofs.YtbncofgbpffmkaaGreatDoor.Pl
/- Plain facts: how a system is held against a specification, pair by pair; nothing here is about a program. -/
namespace Go.Proofs.YtbncofgbpffmkaaGreatDoor.Pl
open Go Go.Lib

/-- the set that edges offer -/
def offS (l : List Edg) : Nat := l.foldl (fun s e => s ||| 2 ^ e.1.toNat) 0

/-! ### tables of marks -/
abbrev Mat := List (List Bool)
def getF (F : Mat) (x y : Nat) : Bool := (F.getD x []).getD y false
def setF (F : Mat) (x y : Nat) : Mat := F.set x ((F.getD x []).set y true)
def Shp (F : Mat) (a b : Nat) : Prop := F.length = a ∧ ∀ x, x < a → (F.getD x []).length = b
def noF (a b : Nat) : Mat := List.replicate a (List.replicate b false)
theorem noF_shp (a b : Nat) : Shp (noF a b) a b := ⟨by simp [noF], fun x hx => by simp [noF, List.getD, hx]⟩
theorem noF_get (a b x y : Nat) : getF (noF a b) x y = false := by
  unfold getF noF
  by_cases hx : x < a
  · by_cases hy : y < b
    · simp [List.getD, hx, hy]
    · simp [List.getD, hx, hy]
  · simp [List.getD, hx]
theorem setF_shp {F : Mat} {a b : Nat} (h : Shp F a b) (x y : Nat) : Shp (setF F x y) a b := by
  refine ⟨by simp [setF, h.1], fun z hz => ?_⟩
  unfold setF
  rw [List.getD_eq_getElem?_getD, List.getElem?_set]
  by_cases e : x = z
  · subst e
    rw [if_pos rfl, if_pos (by rw [h.1]; exact hz)]
    simpa using h.2 x hz
  · rw [if_neg e, ← List.getD_eq_getElem?_getD]
    exact h.2 z hz
theorem setF_get {F : Mat} {a b : Nat} (h : Shp F a b) {x y : Nat} (hx : x < a) (hy : y < b) (u v : Nat) : getF (setF F x y) u v = (getF F u v || (decide (u = x) && decide (v = y))) := by
  unfold getF setF
  by_cases e : x = u
  · subst e
    have h1 : (F.set x ((F.getD x []).set y true)).getD x [] = (F.getD x []).set y true := by
      rw [List.getD_eq_getElem?_getD, List.getElem?_set, if_pos rfl, if_pos (by rw [h.1]; exact hx)]; rfl
    rw [h1, List.getD_eq_getElem?_getD, List.getElem?_set]
    by_cases e2 : y = v
    · subst e2
      rw [if_pos rfl, if_pos (by rw [h.2 x hx]; exact hy)]
      simp
    · rw [if_neg e2, ← List.getD_eq_getElem?_getD]
      have : decide (v = y) = false := decide_eq_false (fun e => e2 e.symm)
      simp [this]
  · have h1 : (F.set x ((F.getD x []).set y true)).getD u [] = F.getD u [] := by
      rw [List.getD_eq_getElem?_getD, List.getElem?_set, if_neg e, ← List.getD_eq_getElem?_getD]
    rw [h1]
    have : decide (u = x) = false := decide_eq_false (fun e2 => e e2.symm)
    simp [this]
def cntR (r : List Bool) : Nat := r.countP id
def cntF (F : Mat) : Nat := (F.map cntR).sum
theorem cntR_set : ∀ (r : List Bool) (y : Nat), y < r.length → r.getD y false = false → cntR (r.set y true) = cntR r + 1
  | [], _, h, _ => by simp at h
  | b :: r, 0, _, h => by
    have : b = false := by simpa using h
    subst this
    simp [cntR]
  | b :: r, y + 1, h, h2 => by
    have ih := cntR_set r y (by simpa using h) (by simpa using h2)
    unfold cntR at ih ⊢
    rw [List.set_cons_succ, List.countP_cons, List.countP_cons, ih]
    omega
theorem cntF_upd : ∀ (F : Mat) (x : Nat) (r : List Bool), x < F.length → cntR r = cntR (F.getD x []) + 1 → cntF (F.set x r) = cntF F + 1
  | [], _, _, h, _ => by simp at h
  | q :: F, 0, r, _, h => by
    have : cntR r = cntR q + 1 := by simpa using h
    simp [cntF, this]; omega
  | q :: F, x + 1, r, h, h2 => by
    have ih := cntF_upd F x r (by simpa using h) (by simpa using h2)
    unfold cntF at ih ⊢
    rw [List.set_cons_succ, List.map_cons, List.map_cons, List.sum_cons, List.sum_cons, ih]
    omega
theorem cntF_set {F : Mat} {a b x y : Nat} (h : Shp F a b) (hx : x < a) (hy : y < b) (hg : getF F x y = false) : cntF (setF F x y) = cntF F + 1 :=
  cntF_upd F x _ (by rw [h.1]; exact hx) (cntR_set _ y (by rw [h.2 x hx]; exact hy) hg)
theorem cntF_le {F : Mat} : ∀ {a b : Nat}, Shp F a b → cntF F ≤ a * b := by
  induction F with
  | nil => intro a b h; simp [cntF]
  | cons r F ih =>
    intro a b h
    have h1 := h.1
    obtain ⟨a', rfl⟩ : ∃ a', a = a' + 1 := ⟨F.length, by simpa using h1.symm⟩
    have h2 := ih (a := a') (b := b) ⟨by simpa using h1, fun x hx => by simpa using h.2 (x + 1) (by omega)⟩
    have h3 : cntR r ≤ b := by
      have := h.2 0 (by omega)
      have e : r.length = b := by simpa using this
      rw [← e]
      exact List.countP_le_length
    unfold cntF at h2 ⊢
    rw [List.map_cons, List.sum_cons, Nat.succ_mul]
    omega
theorem cntF_no (a b : Nat) : cntF (noF a b) = 0 := by
  unfold cntF noF
  rw [List.map_replicate]
  have : cntR (List.replicate b false) = 0 := by simp [cntR]
  rw [this]
  simp
/-- the marked pairs in order -/
def rowF (r : List Bool) : List Nat := (List.range r.length).filter fun y => r.getD y false
def allF (F : Mat) : List (Nat × Nat) := (List.range F.length).flatMap fun x => (rowF (F.getD x [])).map fun y => (x, y)

/-! ### the queue -/
/-- a pair that waits: the place before it, the action that led to it, its two states -/
structure Wt where
  before : Nat
  last : Int
  x : Nat
  y : Nat
instance : Inhabited Wt := ⟨⟨0, 0, 0, 0⟩⟩
def wtAt (Q : List Wt) (i : Nat) : Wt := Q.getD i ⟨0, 0, 0, 0⟩
/-- where an action leads from a state of the specification -/
def nextY (s : Spc) (y : Nat) (a : Int) : Nat := ((teAt s.states y).2.getD a.toNat 0).toNat
def addQ (s : Spc) (i y : Nat) (q : List Wt × Mat) (e : Edg) : List Wt × Mat :=
  if getF q.2 e.2.toNat (nextY s y e.1) = true then q else (q.1 ++ [⟨i, e.1, e.2.toNat, nextY s y e.1⟩], setF q.2 e.2.toNat (nextY s y e.1))
/-- behind the first j edges of the pair at place i -/
def inQ (m : Syst) (s : Spc) (i : Nat) (q : List Wt × Mat) (j : Nat) : List Wt × Mat := ((stAt m.states (wtAt q.1 i).x).take j).foldl (addQ s i (wtAt q.1 i).y) q
def stQ (m : Syst) (s : Spc) : Nat → List Wt × Mat
  | 0 => ([⟨0, 0, 0, 0⟩], setF (noF m.states.length s.states.length) 0 0)
  | i + 1 => inQ m s i (stQ m s i) (stAt m.states (wtAt (stQ m s i).1 i).x).length
/-- what a state of the system offers is accepted -/
def fitB (m : Syst) (s : Spc) (x y : Nat) : Bool := decide ((offS (stAt m.states x) : Int) ∈ (teAt s.states y).1)
/-- the first i places fit -/
def FitsTo (m : Syst) (s : Spc) (i : Nat) : Prop := ∀ k, k < i → k < (stQ m s k).1.length ∧ fitB m s (wtAt (stQ m s k).1 k).x (wtAt (stQ m s k).1 k).y = true
theorem inQ_zero (m : Syst) (s : Spc) (i : Nat) (q : List Wt × Mat) : inQ m s i q 0 = q := by simp [inQ]
theorem inQ_next (m : Syst) (s : Spc) (i : Nat) (q : List Wt × Mat) (j : Nat) (h : j < (stAt m.states (wtAt q.1 i).x).length) :
    inQ m s i q (j + 1) = addQ s i (wtAt q.1 i).y (inQ m s i q j) (edAt (stAt m.states (wtAt q.1 i).x) j) := by
  unfold inQ
  rw [take_next _ j (0, 0) h, List.foldl_append]
  rfl
/-- what holds of the queue and of the marks -/
structure OkQ (m : Syst) (s : Spc) (q : List Wt × Mat) : Prop where
  shp : Shp q.2 m.states.length s.states.length
  rng : ∀ k, k < q.1.length → (wtAt q.1 k).x < m.states.length ∧ (wtAt q.1 k).y < s.states.length
  cnt : cntF q.2 = q.1.length
  bef : ∀ k, k < q.1.length → 0 < k → (wtAt q.1 k).before < k
theorem wtAt_app {Q R : List Wt} {k : Nat} (h : k < Q.length) : wtAt (Q ++ R) k = wtAt Q k := by simp [wtAt, List.getD, List.getElem?_append_left h]
theorem wtAt_snoc (Q : List Wt) (t : Wt) : wtAt (Q ++ [t]) Q.length = t := by simp [wtAt, List.getD]
theorem OkQ.add {m : Syst} {s : Spc} {q : List Wt × Mat} (h : OkQ m s q) {i y : Nat} {e : Edg} (hi : i < q.1.length) (h1 : e.2.toNat < m.states.length) (h2 : nextY s y e.1 < s.states.length) : OkQ m s (addQ s i y q e) := by
  unfold addQ
  split
  · exact h
  · rename_i hg
    have hg : getF q.2 e.2.toNat (nextY s y e.1) = false := by simpa using hg
    refine ⟨setF_shp h.shp _ _, fun k hk => ?_, ?_, fun k hk h0 => ?_⟩
    · simp only [List.length_append, List.length_singleton] at hk
      by_cases e2 : k < q.1.length
      · rw [wtAt_app e2]; exact h.rng k e2
      · obtain rfl : k = q.1.length := by omega
        rw [wtAt_snoc]; exact ⟨h1, h2⟩
    · rw [cntF_set h.shp h1 h2 hg, h.cnt]; simp
    · simp only [List.length_append, List.length_singleton] at hk
      by_cases e2 : k < q.1.length
      · rw [wtAt_app e2]; exact h.bef k e2 h0
      · obtain rfl : k = q.1.length := by omega
        rw [wtAt_snoc]; exact hi
theorem addQ_len (s : Spc) (i y : Nat) (q : List Wt × Mat) (e : Edg) : q.1.length ≤ (addQ s i y q e).1.length := by
  unfold addQ
  split
  · exact Nat.le_refl _
  · simp
theorem addQ_at (s : Spc) (i y : Nat) (q : List Wt × Mat) (e : Edg) {k : Nat} (h : k < q.1.length) : wtAt (addQ s i y q e).1 k = wtAt q.1 k := by
  unfold addQ
  split
  · rfl
  · exact wtAt_app h
theorem OkQ.zero {m : Syst} {s : Spc} (hm : 1 ≤ m.states.length) (hs : 1 ≤ s.states.length) : OkQ m s (stQ m s 0) := by
  have h := noF_shp m.states.length s.states.length
  refine ⟨setF_shp h 0 0, fun k hk => ?_, ?_, fun k hk h0 => ?_⟩
  · have hk' : k < 1 := hk
    obtain rfl : k = 0 := by omega
    exact ⟨hm, hs⟩
  · show cntF (setF (noF m.states.length s.states.length) 0 0) = 1
    rw [cntF_set h (by omega) (by omega) (noF_get _ _ _ _), cntF_no]
  · have hk' : k < 1 := hk
    omega
theorem OkQ.few {m : Syst} {s : Spc} {q : List Wt × Mat} (h : OkQ m s q) : q.1.length ≤ m.states.length * s.states.length := by
  rw [← h.cnt]; exact cntF_le h.shp

theorem offS_bit (a : Nat) : ∀ (l : List Edg) (s : Nat), (l.foldl (fun s e => s ||| 2 ^ e.1.toNat) s).testBit a = (s.testBit a || l.any fun e => decide (e.1.toNat = a))
  | [], s => by simp
  | e :: l, s => by
    rw [List.foldl_cons, offS_bit a l, Nat.testBit_or, Nat.testBit_two_pow, List.any_cons, Bool.or_assoc]
theorem edAt_mem {l : List Edg} {k : Nat} (h : k < l.length) : edAt l k ∈ l := by
  unfold edAt
  rw [List.getD_eq_getElem?_getD, List.getElem?_eq_getElem h]
  exact List.getElem_mem h
theorem edge_ok {m : Syst} (hm : sysB m = true) {x k : Nat} (hx : x < m.states.length) (hk : k < (stAt m.states x).length) :
    0 ≤ (edAt (stAt m.states x) k).1 ∧ (edAt (stAt m.states x) k).1 < m.acts.length ∧ 0 ≤ (edAt (stAt m.states x) k).2 ∧ (edAt (stAt m.states x) k).2 < m.states.length := by
  have h := (edgesB_iff _ _ _).1 (((sysB_iff m).1 hm).2.2.2.1 x hx) k hk
  unfold edgeB at h
  rw [Bool.and_eq_true, okE_iff] at h
  exact h.1
/-- where an edge leads from a pair that fits -/
theorem fit_next {m : Syst} {s : Spc} (hm : sysB m = true) (hs : spcB s = true) {x y : Nat} (hx : x < m.states.length) (hy : y < s.states.length) (hf : fitB m s x y = true) {k : Nat} (hk : k < (stAt m.states x).length) :
    (edAt (stAt m.states x) k).1.toNat < (teAt s.states y).2.length ∧ 0 ≤ (teAt s.states y).2.getD (edAt (stAt m.states x) k).1.toNat 0 ∧ (teAt s.states y).2.getD (edAt (stAt m.states x) k).1.toNat 0 < s.states.length := by
  obtain ⟨h1, h2, h3, h4⟩ := edge_ok hm hx hk
  have h8 := ((actsB_iff m.acts).1 ((sysB_iff m).1 hm).1).1
  have hst := ((spcB_iff s).1 hs).2.2.2 y hy
  unfold steB at hst
  rw [Bool.and_eq_true, nextB_iff, accB_iff] at hst
  obtain ⟨⟨g1, g2⟩, g3⟩ := hst
  unfold fitB at hf
  rw [decide_eq_true_eq] at hf
  obtain ⟨i, hi, e⟩ := List.getElem_of_mem hf
  have g4 := (g3 i hi).1
  rw [List.getD_eq_getElem?_getD, List.getElem?_eq_getElem hi, Option.getD_some, e, okSet_iff, Int.toNat_natCast] at g4
  have hb : (offS (stAt m.states x)).testBit (edAt (stAt m.states x) k).1.toNat = true := by
    unfold offS
    rw [offS_bit, Bool.or_eq_true]
    exact .inr (List.any_eq_true.2 ⟨_, edAt_mem hk, by simp⟩)
  have g5 := g4.2 _ (by omega) hb
  unfold leadP at g5
  rw [Bool.and_eq_true, decide_eq_true_eq, decide_eq_true_eq] at g5
  have g6 := (okNext_iff _ _).1 (g2 _ g5.1)
  exact ⟨g5.1, by omega, g6.2⟩
theorem offS_lt {l : List Edg} (h : ∀ k, k < l.length → 0 ≤ (edAt l k).1 ∧ (edAt l k).1 < 8) : offS l < 256 := by
  refine Nat.lt_pow_two_of_testBit (n := 8) _ (fun i hi => ?_)
  unfold offS
  rw [offS_bit]
  simp only [Nat.zero_testBit, Bool.false_or]
  rw [Bool.eq_false_iff]
  intro hc
  obtain ⟨e, he, h2⟩ := List.any_eq_true.1 hc
  obtain ⟨k, hk, rfl⟩ := List.getElem_of_mem he
  have h3 := h k hk
  have e2 : edAt l k = l[k] := by simp [edAt, List.getD, hk]
  rw [e2] at h3
  rw [decide_eq_true_eq] at h2
  omega
end Go.Proofs.YtbncofgbpffmkaaGreatDoor.Pl
