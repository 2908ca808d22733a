/- Texts joined: SatPl, RelPl. -/
import Derived.Test.YtgpfpnenpgnogaaGreatDoorJa00
/- Plain facts: how a system is held against a specification, pair by pair; nothing here is about a program. -/
namespace Go.Proofs.YtgpfpnenpgnogaaGreatDoor.Pl
open Go Go.Lib

/-- the set that edges offer -/
def offS (l : List Edg) : Nat := l.foldl (fun s e => s ||| 2 ^ e.1.toNat) 0

/-! ### tables of marks -/
abbrev Mat := List (List Bool)
def getF (F : Mat) (x y : Nat) : Bool := (F.getD x []).getD y false
def setF (F : Mat) (x y : Nat) : Mat := F.set x ((F.getD x []).set y true)
def Shp (F : Mat) (a b : Nat) : Prop := F.length = a ∧ ∀ x, x < a → (F.getD x []).length = b
def noF (a b : Nat) : Mat := List.replicate a (List.replicate b false)
theorem noF_shp (a b : Nat) : Shp (noF a b) a b := ⟨by simp [noF], fun x hx => by simp [noF, List.getD, hx]⟩
theorem noF_get (a b x y : Nat) : getF (noF a b) x y = false := by
  unfold getF noF
  by_cases hx : x < a
  · by_cases hy : y < b
    · simp [List.getD, hx, hy]
    · simp [List.getD, hx, hy]
  · simp [List.getD, hx]
theorem setF_shp {F : Mat} {a b : Nat} (h : Shp F a b) (x y : Nat) : Shp (setF F x y) a b := by
  refine ⟨by simp [setF, h.1], fun z hz => ?_⟩
  unfold setF
  rw [List.getD_eq_getElem?_getD, List.getElem?_set]
  by_cases e : x = z
  · subst e
    rw [if_pos rfl, if_pos (by rw [h.1]; exact hz)]
    simpa using h.2 x hz
  · rw [if_neg e, ← List.getD_eq_getElem?_getD]
    exact h.2 z hz
theorem setF_get {F : Mat} {a b : Nat} (h : Shp F a b) {x y : Nat} (hx : x < a) (hy : y < b) (u v : Nat) : getF (setF F x y) u v = (getF F u v || (decide (u = x) && decide (v = y))) := by
  unfold getF setF
  by_cases e : x = u
  · subst e
    have h1 : (F.set x ((F.getD x []).set y true)).getD x [] = (F.getD x []).set y true := by
      rw [List.getD_eq_getElem?_getD, List.getElem?_set, if_pos rfl, if_pos (by rw [h.1]; exact hx)]; rfl
    rw [h1, List.getD_eq_getElem?_getD, List.getElem?_set]
    by_cases e2 : y = v
    · subst e2
      rw [if_pos rfl, if_pos (by rw [h.2 x hx]; exact hy)]
      simp
    · rw [if_neg e2, ← List.getD_eq_getElem?_getD]
      have : decide (v = y) = false := decide_eq_false (fun e => e2 e.symm)
      simp [this]
  · have h1 : (F.set x ((F.getD x []).set y true)).getD u [] = F.getD u [] := by
      rw [List.getD_eq_getElem?_getD, List.getElem?_set, if_neg e, ← List.getD_eq_getElem?_getD]
    rw [h1]
    have : decide (u = x) = false := decide_eq_false (fun e2 => e e2.symm)
    simp [this]
def cntR (r : List Bool) : Nat := r.countP id
def cntF (F : Mat) : Nat := (F.map cntR).sum
theorem cntR_set : ∀ (r : List Bool) (y : Nat), y < r.length → r.getD y false = false → cntR (r.set y true) = cntR r + 1
  | [], _, h, _ => by simp at h
  | b :: r, 0, _, h => by
    have : b = false := by simpa using h
    subst this
    simp [cntR]
  | b :: r, y + 1, h, h2 => by
    have ih := cntR_set r y (by simpa using h) (by simpa using h2)
    unfold cntR at ih ⊢
    rw [List.set_cons_succ, List.countP_cons, List.countP_cons, ih]
    omega
theorem cntF_upd : ∀ (F : Mat) (x : Nat) (r : List Bool), x < F.length → cntR r = cntR (F.getD x []) + 1 → cntF (F.set x r) = cntF F + 1
  | [], _, _, h, _ => by simp at h
  | q :: F, 0, r, _, h => by
    have : cntR r = cntR q + 1 := by simpa using h
    simp [cntF, this]; omega
  | q :: F, x + 1, r, h, h2 => by
    have ih := cntF_upd F x r (by simpa using h) (by simpa using h2)
    unfold cntF at ih ⊢
    rw [List.set_cons_succ, List.map_cons, List.map_cons, List.sum_cons, List.sum_cons, ih]
    omega
theorem cntF_set {F : Mat} {a b x y : Nat} (h : Shp F a b) (hx : x < a) (hy : y < b) (hg : getF F x y = false) : cntF (setF F x y) = cntF F + 1 :=
  cntF_upd F x _ (by rw [h.1]; exact hx) (cntR_set _ y (by rw [h.2 x hx]; exact hy) hg)
theorem cntF_le {F : Mat} : ∀ {a b : Nat}, Shp F a b → cntF F ≤ a * b := by
  induction F with
  | nil => intro a b h; simp [cntF]
  | cons r F ih =>
    intro a b h
    have h1 := h.1
    obtain ⟨a', rfl⟩ : ∃ a', a = a' + 1 := ⟨F.length, by simpa using h1.symm⟩
    have h2 := ih (a := a') (b := b) ⟨by simpa using h1, fun x hx => by simpa using h.2 (x + 1) (by omega)⟩
    have h3 : cntR r ≤ b := by
      have := h.2 0 (by omega)
      have e : r.length = b := by simpa using this
      rw [← e]
      exact List.countP_le_length
    unfold cntF at h2 ⊢
    rw [List.map_cons, List.sum_cons, Nat.succ_mul]
    omega
theorem cntF_no (a b : Nat) : cntF (noF a b) = 0 := by
  unfold cntF noF
  rw [List.map_replicate]
  have : cntR (List.replicate b false) = 0 := by simp [cntR]
  rw [this]
  simp
/-- the marked pairs in order -/
def rowF (r : List Bool) : List Nat := (List.range r.length).filter fun y => r.getD y false
def allF (F : Mat) : List (Nat × Nat) := (List.range F.length).flatMap fun x => (rowF (F.getD x [])).map fun y => (x, y)

/-! ### the queue -/
/-- a pair that waits: the place before it, the action that led to it, its two states -/
structure Wt where
  before : Nat
  last : Int
  x : Nat
  y : Nat
instance : Inhabited Wt := ⟨⟨0, 0, 0, 0⟩⟩
def wtAt (Q : List Wt) (i : Nat) : Wt := Q.getD i ⟨0, 0, 0, 0⟩
/-- where an action leads from a state of the specification -/
def nextY (s : Spc) (y : Nat) (a : Int) : Nat := ((teAt s.states y).2.getD a.toNat 0).toNat
def addQ (s : Spc) (i y : Nat) (q : List Wt × Mat) (e : Edg) : List Wt × Mat :=
  if getF q.2 e.2.toNat (nextY s y e.1) = true then q else (q.1 ++ [⟨i, e.1, e.2.toNat, nextY s y e.1⟩], setF q.2 e.2.toNat (nextY s y e.1))
/-- behind the first j edges of the pair at place i -/
def inQ (m : Syst) (s : Spc) (i : Nat) (q : List Wt × Mat) (j : Nat) : List Wt × Mat := ((stAt m.states (wtAt q.1 i).x).take j).foldl (addQ s i (wtAt q.1 i).y) q
def stQ (m : Syst) (s : Spc) : Nat → List Wt × Mat
  | 0 => ([⟨0, 0, 0, 0⟩], setF (noF m.states.length s.states.length) 0 0)
  | i + 1 => inQ m s i (stQ m s i) (stAt m.states (wtAt (stQ m s i).1 i).x).length
/-- what a state of the system offers is accepted -/
def fitB (m : Syst) (s : Spc) (x y : Nat) : Bool := decide ((offS (stAt m.states x) : Int) ∈ (teAt s.states y).1)
/-- the first i places fit -/
def FitsTo (m : Syst) (s : Spc) (i : Nat) : Prop := ∀ k, k < i → k < (stQ m s k).1.length ∧ fitB m s (wtAt (stQ m s k).1 k).x (wtAt (stQ m s k).1 k).y = true
theorem inQ_zero (m : Syst) (s : Spc) (i : Nat) (q : List Wt × Mat) : inQ m s i q 0 = q := by simp [inQ]
theorem inQ_next (m : Syst) (s : Spc) (i : Nat) (q : List Wt × Mat) (j : Nat) (h : j < (stAt m.states (wtAt q.1 i).x).length) :
    inQ m s i q (j + 1) = addQ s i (wtAt q.1 i).y (inQ m s i q j) (edAt (stAt m.states (wtAt q.1 i).x) j) := by
  unfold inQ
  rw [take_next _ j (0, 0) h, List.foldl_append]
  rfl
/-- what holds of the queue and of the marks -/
structure OkQ (m : Syst) (s : Spc) (q : List Wt × Mat) : Prop where
  shp : Shp q.2 m.states.length s.states.length
  rng : ∀ k, k < q.1.length → (wtAt q.1 k).x < m.states.length ∧ (wtAt q.1 k).y < s.states.length
  cnt : cntF q.2 = q.1.length
  bef : ∀ k, k < q.1.length → 0 < k → (wtAt q.1 k).before < k
theorem wtAt_app {Q R : List Wt} {k : Nat} (h : k < Q.length) : wtAt (Q ++ R) k = wtAt Q k := by simp [wtAt, List.getD, List.getElem?_append_left h]
theorem wtAt_snoc (Q : List Wt) (t : Wt) : wtAt (Q ++ [t]) Q.length = t := by simp [wtAt, List.getD]
theorem OkQ.add {m : Syst} {s : Spc} {q : List Wt × Mat} (h : OkQ m s q) {i y : Nat} {e : Edg} (hi : i < q.1.length) (h1 : e.2.toNat < m.states.length) (h2 : nextY s y e.1 < s.states.length) : OkQ m s (addQ s i y q e) := by
  unfold addQ
  split
  · exact h
  · rename_i hg
    have hg : getF q.2 e.2.toNat (nextY s y e.1) = false := by simpa using hg
    refine ⟨setF_shp h.shp _ _, fun k hk => ?_, ?_, fun k hk h0 => ?_⟩
    · simp only [List.length_append, List.length_singleton] at hk
      by_cases e2 : k < q.1.length
      · rw [wtAt_app e2]; exact h.rng k e2
      · obtain rfl : k = q.1.length := by omega
        rw [wtAt_snoc]; exact ⟨h1, h2⟩
    · rw [cntF_set h.shp h1 h2 hg, h.cnt]; simp
    · simp only [List.length_append, List.length_singleton] at hk
      by_cases e2 : k < q.1.length
      · rw [wtAt_app e2]; exact h.bef k e2 h0
      · obtain rfl : k = q.1.length := by omega
        rw [wtAt_snoc]; exact hi
theorem addQ_len (s : Spc) (i y : Nat) (q : List Wt × Mat) (e : Edg) : q.1.length ≤ (addQ s i y q e).1.length := by
  unfold addQ
  split
  · exact Nat.le_refl _
  · simp
theorem addQ_at (s : Spc) (i y : Nat) (q : List Wt × Mat) (e : Edg) {k : Nat} (h : k < q.1.length) : wtAt (addQ s i y q e).1 k = wtAt q.1 k := by
  unfold addQ
  split
  · rfl
  · exact wtAt_app h
theorem OkQ.zero {m : Syst} {s : Spc} (hm : 1 ≤ m.states.length) (hs : 1 ≤ s.states.length) : OkQ m s (stQ m s 0) := by
  have h := noF_shp m.states.length s.states.length
  refine ⟨setF_shp h 0 0, fun k hk => ?_, ?_, fun k hk h0 => ?_⟩
  · have hk' : k < 1 := hk
    obtain rfl : k = 0 := by omega
    exact ⟨hm, hs⟩
  · show cntF (setF (noF m.states.length s.states.length) 0 0) = 1
    rw [cntF_set h (by omega) (by omega) (noF_get _ _ _ _), cntF_no]
  · have hk' : k < 1 := hk
    omega
theorem OkQ.few {m : Syst} {s : Spc} {q : List Wt × Mat} (h : OkQ m s q) : q.1.length ≤ m.states.length * s.states.length := by
  rw [← h.cnt]; exact cntF_le h.shp

theorem offS_bit (a : Nat) : ∀ (l : List Edg) (s : Nat), (l.foldl (fun s e => s ||| 2 ^ e.1.toNat) s).testBit a = (s.testBit a || l.any fun e => decide (e.1.toNat = a))
  | [], s => by simp
  | e :: l, s => by
    rw [List.foldl_cons, offS_bit a l, Nat.testBit_or, Nat.testBit_two_pow, List.any_cons, Bool.or_assoc]
theorem edAt_mem {l : List Edg} {k : Nat} (h : k < l.length) : edAt l k ∈ l := by
  unfold edAt
  rw [List.getD_eq_getElem?_getD, List.getElem?_eq_getElem h]
  exact List.getElem_mem h
theorem edge_ok {m : Syst} (hm : sysB m = true) {x k : Nat} (hx : x < m.states.length) (hk : k < (stAt m.states x).length) :
    0 ≤ (edAt (stAt m.states x) k).1 ∧ (edAt (stAt m.states x) k).1 < m.acts.length ∧ 0 ≤ (edAt (stAt m.states x) k).2 ∧ (edAt (stAt m.states x) k).2 < m.states.length := by
  have h := (edgesB_iff _ _ _).1 (((sysB_iff m).1 hm).2.2.2.1 x hx) k hk
  unfold edgeB at h
  rw [Bool.and_eq_true, okE_iff] at h
  exact h.1
/-- where an edge leads from a pair that fits -/
theorem fit_next {m : Syst} {s : Spc} (hm : sysB m = true) (hs : spcB s = true) {x y : Nat} (hx : x < m.states.length) (hy : y < s.states.length) (hf : fitB m s x y = true) {k : Nat} (hk : k < (stAt m.states x).length) :
    (edAt (stAt m.states x) k).1.toNat < (teAt s.states y).2.length ∧ 0 ≤ (teAt s.states y).2.getD (edAt (stAt m.states x) k).1.toNat 0 ∧ (teAt s.states y).2.getD (edAt (stAt m.states x) k).1.toNat 0 < s.states.length := by
  obtain ⟨h1, h2, h3, h4⟩ := edge_ok hm hx hk
  have h8 := ((actsB_iff m.acts).1 ((sysB_iff m).1 hm).1).1
  have hst := ((spcB_iff s).1 hs).2.2.2 y hy
  unfold steB at hst
  rw [Bool.and_eq_true, nextB_iff, accB_iff] at hst
  obtain ⟨⟨g1, g2⟩, g3⟩ := hst
  unfold fitB at hf
  rw [decide_eq_true_eq] at hf
  obtain ⟨i, hi, e⟩ := List.getElem_of_mem hf
  have g4 := (g3 i hi).1
  rw [List.getD_eq_getElem?_getD, List.getElem?_eq_getElem hi, Option.getD_some, e, okSet_iff, Int.toNat_natCast] at g4
  have hb : (offS (stAt m.states x)).testBit (edAt (stAt m.states x) k).1.toNat = true := by
    unfold offS
    rw [offS_bit, Bool.or_eq_true]
    exact .inr (List.any_eq_true.2 ⟨_, edAt_mem hk, by simp⟩)
  have g5 := g4.2 _ (by omega) hb
  unfold leadP at g5
  rw [Bool.and_eq_true, decide_eq_true_eq, decide_eq_true_eq] at g5
  have g6 := (okNext_iff _ _).1 (g2 _ g5.1)
  exact ⟨g5.1, by omega, g6.2⟩
theorem offS_lt {l : List Edg} (h : ∀ k, k < l.length → 0 ≤ (edAt l k).1 ∧ (edAt l k).1 < 8) : offS l < 256 := by
  refine Nat.lt_pow_two_of_testBit (n := 8) _ (fun i hi => ?_)
  unfold offS
  rw [offS_bit]
  simp only [Nat.zero_testBit, Bool.false_or]
  rw [Bool.eq_false_iff]
  intro hc
  obtain ⟨e, he, h2⟩ := List.any_eq_true.1 hc
  obtain ⟨k, hk, rfl⟩ := List.getElem_of_mem he
  have h3 := h k hk
  have e2 : edAt l k = l[k] := by simp [edAt, List.getD, hk]
  rw [e2] at h3
  rw [decide_eq_true_eq] at h2
  omega
end Go.Proofs.YtgpfpnenpgnogaaGreatDoor.Pl
/- Plain facts: the relations that show that a system satisfies a specification; nothing here is about a program. -/
namespace Go.Proofs.YtgpfpnenpgnogaaGreatDoor.Pl
open Go Go.Lib

/-- a pair of states of the one and of the other -/
def inP (k k' : Nat) (p : Int × Int) : Bool := decide (0 ≤ p.1) && decide (p.1 < k) && decide (0 ≤ p.2) && decide (p.2 < k')
theorem inP_iff (k k' : Nat) (p : Int × Int) : inP k k' p = true ↔ 0 ≤ p.1 ∧ p.1 < k ∧ 0 ≤ p.2 ∧ p.2 < k' := by
  unfold inP
  simp only [Bool.and_eq_true, decide_eq_true_eq]
  constructor
  · rintro ⟨⟨⟨h1, h2⟩, h3⟩, h4⟩; exact ⟨h1, h2, h3, h4⟩
  · rintro ⟨h1, h2, h3, h4⟩; exact ⟨⟨⟨h1, h2⟩, h3⟩, h4⟩
/-- the marks of the pairs of a list -/
def markF (F : Mat) (L : List (Int × Int)) : Mat := L.foldl (fun F p => setF F p.1.toNat p.2.toNat) F
/-- what follows a pair of states is marked -/
def closeB (m : Syst) (s : Spc) (F : Mat) (x y : Nat) : Bool := (stAt m.states x).all fun e => getF F e.2.toNat (nextY s y e.1)
def pairB (m : Syst) (s : Spc) (F : Mat) (x y : Nat) : Bool := fitB m s x y && closeB m s F x y
def relB (m : Syst) (s : Spc) (L : List (Int × Int)) : Bool :=
  L.all (inP m.states.length s.states.length) && (L.all fun p => pairB m s (markF (noF m.states.length s.states.length) L) p.1.toNat p.2.toNat) && getF (markF (noF m.states.length s.states.length) L) 0 0
theorem markF_snoc (F : Mat) (L : List (Int × Int)) (p : Int × Int) : markF F (L ++ [p]) = setF (markF F L) p.1.toNat p.2.toNat := by simp [markF]
theorem take_one {α : Type} {L : List α} {j : Nat} {p : α} (h : L[j]? = some p) : L.take (j + 1) = L.take j ++ [p] := by
  obtain ⟨hj, e⟩ := List.getElem?_eq_some_iff.1 h
  rw [List.take_succ_eq_append_getElem hj, e]
theorem markF_shp {k k' : Nat} : ∀ (L : List (Int × Int)) (F : Mat), Shp F k k' → Shp (markF F L) k k'
  | [], _, h => h
  | p :: L, F, h => markF_shp L (setF F p.1.toNat p.2.toNat) (setF_shp h _ _)
theorem markF_get {k k' : Nat} : ∀ (L : List (Int × Int)) (F : Mat), Shp F k k' → (∀ p ∈ L, inP k k' p = true) → ∀ u v : Nat, getF (markF F L) u v = true ↔ getF F u v = true ∨ ((u : Int), (v : Int)) ∈ L
  | [], F, _, _, u, v => by simp [markF]
  | p :: L, F, h, hp, u, v => by
    have hq := (inP_iff k k' p).1 (hp p (List.mem_cons_self ..))
    have ih := markF_get L (setF F p.1.toNat p.2.toNat) (setF_shp h _ _) (fun q hq => hp q (List.mem_cons_of_mem _ hq)) u v
    have e : markF F (p :: L) = markF (setF F p.1.toNat p.2.toNat) L := rfl
    rw [e, ih, setF_get h (by omega) (by omega), Bool.or_eq_true, Bool.and_eq_true, decide_eq_true_eq, decide_eq_true_eq, List.mem_cons, or_assoc]
    have e2 : (u = p.1.toNat ∧ v = p.2.toNat) ↔ ((u : Int), (v : Int)) = p := by
      constructor
      · rintro ⟨h1, h2⟩
        refine Prod.ext ?_ ?_
        · show (u : Int) = p.1
          omega
        · show (v : Int) = p.2
          omega
      · intro h1
        have h2 : (u : Int) = p.1 := congrArg Prod.fst h1
        have h3 : (v : Int) = p.2 := congrArg Prod.snd h1
        omega
    rw [e2]
theorem rowF_mem (r : List Bool) (y : Nat) : y ∈ rowF r ↔ r.getD y false = true := by
  unfold rowF
  rw [List.mem_filter, List.mem_range]
  constructor
  · exact fun h => h.2
  · intro h
    refine ⟨?_, h⟩
    rcases Nat.lt_or_ge y r.length with h1 | h1
    · exact h1
    · rw [List.getD_eq_getElem?_getD, List.getElem?_eq_none h1] at h
      cases h
theorem allF_mem (F : Mat) (x y : Nat) : (x, y) ∈ allF F ↔ getF F x y = true := by
  unfold allF
  rw [List.mem_flatMap]
  constructor
  · rintro ⟨a, ha, hb⟩
    rw [List.mem_map] at hb
    obtain ⟨b, hb, e⟩ := hb
    obtain ⟨rfl, rfl⟩ := Prod.mk.inj e
    exact (rowF_mem _ _).1 hb
  · intro h
    refine ⟨x, ?_, List.mem_map.2 ⟨y, (rowF_mem _ _).2 h, rfl⟩⟩
    rw [List.mem_range]
    rcases Nat.lt_or_ge x F.length with h1 | h1
    · exact h1
    · unfold getF at h
      rw [List.getD_eq_getElem?_getD (l := F), List.getElem?_eq_none h1] at h
      cases h
theorem noF_none (k k' u v : Nat) : ¬ getF (noF k k') u v = true := by
  rw [noF_get]
  exact Bool.false_ne_true
/-- the pairs of the list are what is marked -/
theorem mark_all {k k' : Nat} {L : List (Int × Int)} (hp : ∀ p ∈ L, inP k k' p = true) (f : Nat → Nat → Bool) :
    ((allF (markF (noF k k') L)).all fun p => f p.1 p.2) = L.all fun p => f p.1.toNat p.2.toNat := by
  rw [Bool.eq_iff_iff, List.all_eq_true, List.all_eq_true]
  constructor
  · intro h p hpL
    have hq := (inP_iff k k' p).1 (hp p hpL)
    have h1 : (p.1.toNat, p.2.toNat) ∈ allF (markF (noF k k') L) := by
      rw [allF_mem, markF_get L _ (noF_shp k k') hp]
      refine .inr ?_
      have e : ((p.1.toNat : Int), (p.2.toNat : Int)) = p := by
        refine Prod.ext ?_ ?_
        · show (p.1.toNat : Int) = p.1
          omega
        · show (p.2.toNat : Int) = p.2
          omega
      rw [e]
      exact hpL
    exact h _ h1
  · rintro h ⟨x, y⟩ hx
    rw [allF_mem, markF_get L _ (noF_shp k k') hp] at hx
    rcases hx with hx | hx
    · exact absurd hx (noF_none _ _ _ _)
    · have := h _ hx
      simpa using this
/-- .. told by what is marked -/
theorem relB_marks {m : Syst} {s : Spc} {L : List (Int × Int)} (hp : L.all (inP m.states.length s.states.length) = true) :
    relB m s L = (((allF (markF (noF m.states.length s.states.length) L)).all fun p => pairB m s (markF (noF m.states.length s.states.length) L) p.1 p.2) && getF (markF (noF m.states.length s.states.length) L) 0 0) := by
  unfold relB
  rw [hp, Bool.true_and, mark_all (List.all_eq_true.1 hp) (fun x y => pairB m s (markF (noF m.states.length s.states.length) L) x y)]
theorem all_stop {α : Type} {f : α → Bool} {L : List α} {j : Nat} {p : α} (h : L[j]? = some p) (hf : f p = false) : L.all f = false := by
  rw [Bool.eq_false_iff]
  intro h1
  have := List.all_eq_true.1 h1 p (List.mem_of_getElem? h)
  rw [hf] at this
  cases this
theorem all_next {α : Type} {f : α → Bool} {L : List α} {j : Nat} {p : α} (h : L[j]? = some p) (hf : f p = true) (hj : (L.take j).all f = true) : (L.take (j + 1)).all f = true := by
  rw [take_one h, List.all_append, hj]
  simp [hf]
theorem all_end {α : Type} {f : α → Bool} {L : List α} {j : Nat} (h : L.length ≤ j) (hj : (L.take j).all f = true) : L.all f = true := by
  rwa [List.take_of_length_le h] at hj
end Go.Proofs.YtgpfpnenpgnogaaGreatDoor.Pl
