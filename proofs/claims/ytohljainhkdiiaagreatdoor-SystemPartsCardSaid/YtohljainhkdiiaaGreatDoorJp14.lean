/- Texts joined: SatPl, Spec. -/
import Derived.Test.YtohljainhkdiiaaGreatDoorJp13
import Derived.Test.YtohljainhkdiiaaGreatDoorJp03
/- Plain facts: how a system is held against a specification, pair by pair; nothing here is about a program. -/
namespace Go.Proofs.YtohljainhkdiiaaGreatDoor.Pl
open Go Go.Lib

/-- the set that edges offer -/
def offS (l : List Edg) : Nat := l.foldl (fun s e => s ||| 2 ^ e.1.toNat) 0

/-! ### tables of marks -/
abbrev Mat := List (List Bool)
def getF (F : Mat) (x y : Nat) : Bool := (F.getD x []).getD y false
def setF (F : Mat) (x y : Nat) : Mat := F.set x ((F.getD x []).set y true)
def Shp (F : Mat) (a b : Nat) : Prop := F.length = a ∧ ∀ x, x < a → (F.getD x []).length = b
def noF (a b : Nat) : Mat := List.replicate a (List.replicate b false)
theorem noF_shp (a b : Nat) : Shp (noF a b) a b := ⟨by simp [noF], fun x hx => by simp [noF, List.getD, hx]⟩
theorem noF_get (a b x y : Nat) : getF (noF a b) x y = false := by
  unfold getF noF
  by_cases hx : x < a
  · by_cases hy : y < b
    · simp [List.getD, hx, hy]
    · simp [List.getD, hx, hy]
  · simp [List.getD, hx]
theorem setF_shp {F : Mat} {a b : Nat} (h : Shp F a b) (x y : Nat) : Shp (setF F x y) a b := by
  refine ⟨by simp [setF, h.1], fun z hz => ?_⟩
  unfold setF
  rw [List.getD_eq_getElem?_getD, List.getElem?_set]
  by_cases e : x = z
  · subst e
    rw [if_pos rfl, if_pos (by rw [h.1]; exact hz)]
    simpa using h.2 x hz
  · rw [if_neg e, ← List.getD_eq_getElem?_getD]
    exact h.2 z hz
theorem setF_get {F : Mat} {a b : Nat} (h : Shp F a b) {x y : Nat} (hx : x < a) (hy : y < b) (u v : Nat) : getF (setF F x y) u v = (getF F u v || (decide (u = x) && decide (v = y))) := by
  unfold getF setF
  by_cases e : x = u
  · subst e
    have h1 : (F.set x ((F.getD x []).set y true)).getD x [] = (F.getD x []).set y true := by
      rw [List.getD_eq_getElem?_getD, List.getElem?_set, if_pos rfl, if_pos (by rw [h.1]; exact hx)]; rfl
    rw [h1, List.getD_eq_getElem?_getD, List.getElem?_set]
    by_cases e2 : y = v
    · subst e2
      rw [if_pos rfl, if_pos (by rw [h.2 x hx]; exact hy)]
      simp
    · rw [if_neg e2, ← List.getD_eq_getElem?_getD]
      have : decide (v = y) = false := decide_eq_false (fun e => e2 e.symm)
      simp [this]
  · have h1 : (F.set x ((F.getD x []).set y true)).getD u [] = F.getD u [] := by
      rw [List.getD_eq_getElem?_getD, List.getElem?_set, if_neg e, ← List.getD_eq_getElem?_getD]
    rw [h1]
    have : decide (u = x) = false := decide_eq_false (fun e2 => e e2.symm)
    simp [this]
def cntR (r : List Bool) : Nat := r.countP id
def cntF (F : Mat) : Nat := (F.map cntR).sum
theorem cntR_set : ∀ (r : List Bool) (y : Nat), y < r.length → r.getD y false = false → cntR (r.set y true) = cntR r + 1
  | [], _, h, _ => by simp at h
  | b :: r, 0, _, h => by
    have : b = false := by simpa using h
    subst this
    simp [cntR]
  | b :: r, y + 1, h, h2 => by
    have ih := cntR_set r y (by simpa using h) (by simpa using h2)
    unfold cntR at ih ⊢
    rw [List.set_cons_succ, List.countP_cons, List.countP_cons, ih]
    omega
theorem cntF_upd : ∀ (F : Mat) (x : Nat) (r : List Bool), x < F.length → cntR r = cntR (F.getD x []) + 1 → cntF (F.set x r) = cntF F + 1
  | [], _, _, h, _ => by simp at h
  | q :: F, 0, r, _, h => by
    have : cntR r = cntR q + 1 := by simpa using h
    simp [cntF, this]; omega
  | q :: F, x + 1, r, h, h2 => by
    have ih := cntF_upd F x r (by simpa using h) (by simpa using h2)
    unfold cntF at ih ⊢
    rw [List.set_cons_succ, List.map_cons, List.map_cons, List.sum_cons, List.sum_cons, ih]
    omega
theorem cntF_set {F : Mat} {a b x y : Nat} (h : Shp F a b) (hx : x < a) (hy : y < b) (hg : getF F x y = false) : cntF (setF F x y) = cntF F + 1 :=
  cntF_upd F x _ (by rw [h.1]; exact hx) (cntR_set _ y (by rw [h.2 x hx]; exact hy) hg)
theorem cntF_le {F : Mat} : ∀ {a b : Nat}, Shp F a b → cntF F ≤ a * b := by
  induction F with
  | nil => intro a b h; simp [cntF]
  | cons r F ih =>
    intro a b h
    have h1 := h.1
    obtain ⟨a', rfl⟩ : ∃ a', a = a' + 1 := ⟨F.length, by simpa using h1.symm⟩
    have h2 := ih (a := a') (b := b) ⟨by simpa using h1, fun x hx => by simpa using h.2 (x + 1) (by omega)⟩
    have h3 : cntR r ≤ b := by
      have := h.2 0 (by omega)
      have e : r.length = b := by simpa using this
      rw [← e]
      exact List.countP_le_length
    unfold cntF at h2 ⊢
    rw [List.map_cons, List.sum_cons, Nat.succ_mul]
    omega
theorem cntF_no (a b : Nat) : cntF (noF a b) = 0 := by
  unfold cntF noF
  rw [List.map_replicate]
  have : cntR (List.replicate b false) = 0 := by simp [cntR]
  rw [this]
  simp
/-- the marked pairs in order -/
def rowF (r : List Bool) : List Nat := (List.range r.length).filter fun y => r.getD y false
def allF (F : Mat) : List (Nat × Nat) := (List.range F.length).flatMap fun x => (rowF (F.getD x [])).map fun y => (x, y)

/-! ### the queue -/
/-- a pair that waits: the place before it, the action that led to it, its two states -/
structure Wt where
  before : Nat
  last : Int
  x : Nat
  y : Nat
instance : Inhabited Wt := ⟨⟨0, 0, 0, 0⟩⟩
def wtAt (Q : List Wt) (i : Nat) : Wt := Q.getD i ⟨0, 0, 0, 0⟩
/-- where an action leads from a state of the specification -/
def nextY (s : Spc) (y : Nat) (a : Int) : Nat := ((teAt s.states y).2.getD a.toNat 0).toNat
def addQ (s : Spc) (i y : Nat) (q : List Wt × Mat) (e : Edg) : List Wt × Mat :=
  if getF q.2 e.2.toNat (nextY s y e.1) = true then q else (q.1 ++ [⟨i, e.1, e.2.toNat, nextY s y e.1⟩], setF q.2 e.2.toNat (nextY s y e.1))
/-- behind the first j edges of the pair at place i -/
def inQ (m : Syst) (s : Spc) (i : Nat) (q : List Wt × Mat) (j : Nat) : List Wt × Mat := ((stAt m.states (wtAt q.1 i).x).take j).foldl (addQ s i (wtAt q.1 i).y) q
def stQ (m : Syst) (s : Spc) : Nat → List Wt × Mat
  | 0 => ([⟨0, 0, 0, 0⟩], setF (noF m.states.length s.states.length) 0 0)
  | i + 1 => inQ m s i (stQ m s i) (stAt m.states (wtAt (stQ m s i).1 i).x).length
/-- what a state of the system offers is accepted -/
def fitB (m : Syst) (s : Spc) (x y : Nat) : Bool := decide ((offS (stAt m.states x) : Int) ∈ (teAt s.states y).1)
/-- the first i places fit -/
def FitsTo (m : Syst) (s : Spc) (i : Nat) : Prop := ∀ k, k < i → k < (stQ m s k).1.length ∧ fitB m s (wtAt (stQ m s k).1 k).x (wtAt (stQ m s k).1 k).y = true
theorem inQ_zero (m : Syst) (s : Spc) (i : Nat) (q : List Wt × Mat) : inQ m s i q 0 = q := by simp [inQ]
theorem inQ_next (m : Syst) (s : Spc) (i : Nat) (q : List Wt × Mat) (j : Nat) (h : j < (stAt m.states (wtAt q.1 i).x).length) :
    inQ m s i q (j + 1) = addQ s i (wtAt q.1 i).y (inQ m s i q j) (edAt (stAt m.states (wtAt q.1 i).x) j) := by
  unfold inQ
  rw [take_next _ j (0, 0) h, List.foldl_append]
  rfl
/-- what holds of the queue and of the marks -/
structure OkQ (m : Syst) (s : Spc) (q : List Wt × Mat) : Prop where
  shp : Shp q.2 m.states.length s.states.length
  rng : ∀ k, k < q.1.length → (wtAt q.1 k).x < m.states.length ∧ (wtAt q.1 k).y < s.states.length
  cnt : cntF q.2 = q.1.length
  bef : ∀ k, k < q.1.length → 0 < k → (wtAt q.1 k).before < k
theorem wtAt_app {Q R : List Wt} {k : Nat} (h : k < Q.length) : wtAt (Q ++ R) k = wtAt Q k := by simp [wtAt, List.getD, List.getElem?_append_left h]
theorem wtAt_snoc (Q : List Wt) (t : Wt) : wtAt (Q ++ [t]) Q.length = t := by simp [wtAt, List.getD]
theorem OkQ.add {m : Syst} {s : Spc} {q : List Wt × Mat} (h : OkQ m s q) {i y : Nat} {e : Edg} (hi : i < q.1.length) (h1 : e.2.toNat < m.states.length) (h2 : nextY s y e.1 < s.states.length) : OkQ m s (addQ s i y q e) := by
  unfold addQ
  split
  · exact h
  · rename_i hg
    have hg : getF q.2 e.2.toNat (nextY s y e.1) = false := by simpa using hg
    refine ⟨setF_shp h.shp _ _, fun k hk => ?_, ?_, fun k hk h0 => ?_⟩
    · simp only [List.length_append, List.length_singleton] at hk
      by_cases e2 : k < q.1.length
      · rw [wtAt_app e2]; exact h.rng k e2
      · obtain rfl : k = q.1.length := by omega
        rw [wtAt_snoc]; exact ⟨h1, h2⟩
    · rw [cntF_set h.shp h1 h2 hg, h.cnt]; simp
    · simp only [List.length_append, List.length_singleton] at hk
      by_cases e2 : k < q.1.length
      · rw [wtAt_app e2]; exact h.bef k e2 h0
      · obtain rfl : k = q.1.length := by omega
        rw [wtAt_snoc]; exact hi
theorem addQ_len (s : Spc) (i y : Nat) (q : List Wt × Mat) (e : Edg) : q.1.length ≤ (addQ s i y q e).1.length := by
  unfold addQ
  split
  · exact Nat.le_refl _
  · simp
theorem addQ_at (s : Spc) (i y : Nat) (q : List Wt × Mat) (e : Edg) {k : Nat} (h : k < q.1.length) : wtAt (addQ s i y q e).1 k = wtAt q.1 k := by
  unfold addQ
  split
  · rfl
  · exact wtAt_app h
theorem OkQ.zero {m : Syst} {s : Spc} (hm : 1 ≤ m.states.length) (hs : 1 ≤ s.states.length) : OkQ m s (stQ m s 0) := by
  have h := noF_shp m.states.length s.states.length
  refine ⟨setF_shp h 0 0, fun k hk => ?_, ?_, fun k hk h0 => ?_⟩
  · have hk' : k < 1 := hk
    obtain rfl : k = 0 := by omega
    exact ⟨hm, hs⟩
  · show cntF (setF (noF m.states.length s.states.length) 0 0) = 1
    rw [cntF_set h (by omega) (by omega) (noF_get _ _ _ _), cntF_no]
  · have hk' : k < 1 := hk
    omega
theorem OkQ.few {m : Syst} {s : Spc} {q : List Wt × Mat} (h : OkQ m s q) : q.1.length ≤ m.states.length * s.states.length := by
  rw [← h.cnt]; exact cntF_le h.shp

theorem offS_bit (a : Nat) : ∀ (l : List Edg) (s : Nat), (l.foldl (fun s e => s ||| 2 ^ e.1.toNat) s).testBit a = (s.testBit a || l.any fun e => decide (e.1.toNat = a))
  | [], s => by simp
  | e :: l, s => by
    rw [List.foldl_cons, offS_bit a l, Nat.testBit_or, Nat.testBit_two_pow, List.any_cons, Bool.or_assoc]
theorem edAt_mem {l : List Edg} {k : Nat} (h : k < l.length) : edAt l k ∈ l := by
  unfold edAt
  rw [List.getD_eq_getElem?_getD, List.getElem?_eq_getElem h]
  exact List.getElem_mem h
theorem edge_ok {m : Syst} (hm : sysB m = true) {x k : Nat} (hx : x < m.states.length) (hk : k < (stAt m.states x).length) :
    0 ≤ (edAt (stAt m.states x) k).1 ∧ (edAt (stAt m.states x) k).1 < m.acts.length ∧ 0 ≤ (edAt (stAt m.states x) k).2 ∧ (edAt (stAt m.states x) k).2 < m.states.length := by
  have h := (edgesB_iff _ _ _).1 (((sysB_iff m).1 hm).2.2.2.1 x hx) k hk
  unfold edgeB at h
  rw [Bool.and_eq_true, okE_iff] at h
  exact h.1
/-- where an edge leads from a pair that fits -/
theorem fit_next {m : Syst} {s : Spc} (hm : sysB m = true) (hs : spcB s = true) {x y : Nat} (hx : x < m.states.length) (hy : y < s.states.length) (hf : fitB m s x y = true) {k : Nat} (hk : k < (stAt m.states x).length) :
    (edAt (stAt m.states x) k).1.toNat < (teAt s.states y).2.length ∧ 0 ≤ (teAt s.states y).2.getD (edAt (stAt m.states x) k).1.toNat 0 ∧ (teAt s.states y).2.getD (edAt (stAt m.states x) k).1.toNat 0 < s.states.length := by
  obtain ⟨h1, h2, h3, h4⟩ := edge_ok hm hx hk
  have h8 := ((actsB_iff m.acts).1 ((sysB_iff m).1 hm).1).1
  have hst := ((spcB_iff s).1 hs).2.2.2 y hy
  unfold steB at hst
  rw [Bool.and_eq_true, nextB_iff, accB_iff] at hst
  obtain ⟨⟨g1, g2⟩, g3⟩ := hst
  unfold fitB at hf
  rw [decide_eq_true_eq] at hf
  obtain ⟨i, hi, e⟩ := List.getElem_of_mem hf
  have g4 := (g3 i hi).1
  rw [List.getD_eq_getElem?_getD, List.getElem?_eq_getElem hi, Option.getD_some, e, okSet_iff, Int.toNat_natCast] at g4
  have hb : (offS (stAt m.states x)).testBit (edAt (stAt m.states x) k).1.toNat = true := by
    unfold offS
    rw [offS_bit, Bool.or_eq_true]
    exact .inr (List.any_eq_true.2 ⟨_, edAt_mem hk, by simp⟩)
  have g5 := g4.2 _ (by omega) hb
  unfold leadP at g5
  rw [Bool.and_eq_true, decide_eq_true_eq, decide_eq_true_eq] at g5
  have g6 := (okNext_iff _ _).1 (g2 _ g5.1)
  exact ⟨g5.1, by omega, g6.2⟩
theorem offS_lt {l : List Edg} (h : ∀ k, k < l.length → 0 ≤ (edAt l k).1 ∧ (edAt l k).1 < 8) : offS l < 256 := by
  refine Nat.lt_pow_two_of_testBit (n := 8) _ (fun i hi => ?_)
  unfold offS
  rw [offS_bit]
  simp only [Nat.zero_testBit, Bool.false_or]
  rw [Bool.eq_false_iff]
  intro hc
  obtain ⟨e, he, h2⟩ := List.any_eq_true.1 hc
  obtain ⟨k, hk, rfl⟩ := List.getElem_of_mem he
  have h3 := h k hk
  have e2 : edAt l k = l[k] := by simp [edAt, List.getD, hk]
  rw [e2] at h3
  rw [decide_eq_true_eq] at h2
  omega
end Go.Proofs.YtohljainhkdiiaaGreatDoor.Pl
/- A specification in memory; the reference's Few; spec.Check. -/
namespace Go.Proofs.YtohljainhkdiiaaGreatDoor
open Go.RowKit Pl

/-- numbers of ints that lie in memory -/
structure NumsArg (w : World) (a : Option Addr) (n c : Nat) (xs : List Int) : Prop where
  arg : IntArg w a n c xs
  few : n ≤ 17592186044416
  rng : ∀ j, j < xs.length → -9223372036854775808 ≤ xs.getD j 0 ∧ xs.getD j 0 ≤ 9223372036854775807
theorem NumsArg.below {w w' : World} {a : Option Addr} {n c : Nat} {xs : List Int} (h : NumsArg w a n c xs) (hb : Below w.heap.size w w') : NumsArg w' a n c xs := ⟨h.arg.below hb, h.few, h.rng⟩
/-- the states: each two slices -/
def StesIn (w : World) (b : Option Addr) (ss : List Ste) : Prop :=
  ∀ i, i < ss.length → ∃ bb off, b = some ⟨bb, off, none⟩ ∧ ∃ a1 n1 c1 a2 n2 c2, w.cell? ⟨bb, off + i * 2, none⟩ = some (.slice a1 n1 c1) ∧ w.cell? ⟨bb, off + i * 2 + 1, none⟩ = some (.slice a2 n2 c2) ∧
    NumsArg w a1 n1 c1 (teAt ss i).1 ∧ NumsArg w a2 n2 c2 (teAt ss i).2
theorem StesIn.below {w w' : World} {b : Option Addr} {ss : List Ste} (h : StesIn w b ss) (hb : Below w.heap.size w w') : StesIn w' b ss := fun i hi => by
  obtain ⟨bb, off, e, a1, n1, c1, a2, n2, c2, h1, h2, h3, h4⟩ := h i hi
  exact ⟨bb, off, e, a1, n1, c1, a2, n2, c2, (hb.cell (lt_of_cell h1)).trans h1, (hb.cell (lt_of_cell h2)).trans h2, h3.below hb, h4.below hb⟩
/-- a specification as its two slices hold it -/
structure SpecArg (w : World) (a : Option Addr) (n c : Nat) (b : Option Addr) (k d : Nat) (s : Spc) : Prop where
  acts : StrArg w a n c s.acts
  abig : n ≤ 140737488355328
  nil : b = none → d = 0
  len : k = s.states.length
  cap : k ≤ d
  big : k ≤ 140737488355328
  rows : StesIn w b s.states
theorem SpecArg.below {w w' : World} {a : Option Addr} {n c : Nat} {b : Option Addr} {k d : Nat} {s : Spc} (h : SpecArg w a n c b k d s) (hb : Below w.heap.size w w') : SpecArg w' a n c b k d s :=
  ⟨h.acts.below hb, h.abig, h.nil, h.len, h.cap, h.big, h.rows.below hb⟩

theorem fewS_no {s : Spc} {most i : Nat} (h : most < s.acts.length + s.states.length + totalS (s.states.take i)) : fewS s most = false := by
  have := totalS_take_le s.states i
  rw [Bool.eq_false_iff, Ne, fewS_iff]; omega
set_option maxHeartbeats 1000000 in
theorem SFew_any {w : World} {a : Option Addr} {n c : Nat} {b : Option Addr} {k d : Nat} {s : Spc} (most : Nat) (hm : most ≤ 4611686018427387904) (A : SpecArg w a n c b k d s) :
    Calls Tryz.prog 14 #[.agg #[.slice a n c, .slice b k d], .int .i64 most] w fun e w' => e = .returned (.bool (fewS s most)) ∧ Below w.heap.size w w' := by
  have HA := Lib.hid A
  have h1 : n ≤ 140737488355328 := A.abig
  have h2 : k ≤ 140737488355328 := A.big
  have hB := (Below.refl w.heap.size w).alloc (Nat.le_refl _) (.cells #[.slice a n c, .slice b k d] 40)
  have HX := Lib.hid (hB.cell (p := ⟨w.heap.size, 1, none⟩))
  have HB := Lib.hid hB
  clear A hB HX
  go_enter Tryz.func14, Tryz.ntmps14
  go_wp2
  go_loopw [5, 6] (fun q i wr => ∃ j t : Nat, j ≤ k ∧ i = .int .i64 j ∧ q = .int .i64 t ∧ Hid (t = s.acts.length + s.states.length + totalS (s.states.take j)) ∧ t ≤ 4611686018427387904 + 281474976710656 ∧ Below (w.heap.size + 1) (w.alloc (.cells #[.slice a n c, .slice b k d] 40)) wr) (fun _ i _ => k - (intOf i).toNat)
  case atStart => exact ⟨0, n + k, Nat.zero_le _, rfl, by go_num, Lib.hid (by have := HA.out.len; have := HA.out.acts.len; simp [totalS]; omega), by omega, Below.refl _ _⟩
  case round =>
    obtain ⟨j, t, hj, rfl, rfl, ht, htb, hb⟩ := hrel
    have q1 : wr.cell? ⟨w.heap.size, 1, none⟩ = some (.slice b k d) := by rw [hb.cell (by simp)]; simp
    have HBr := Lib.hid hb
    have HBw := Lib.hid (HB.out.trans (hb.mono (by omega)))
    clear hb
    by_cases hlt : j < k
    · by_cases hle : t ≤ most
      · obtain ⟨bb, off, rfl, a1, n1, c1, a2, n2, c2, d1, d2, hN1, hN2⟩ := (HA.out.rows.below HBw.out) j (by have := HA.out.len; omega)
        have h3 := hN1.few
        have h4 := hN2.few
        have HT : Hid (t + (n1 + n2) = s.acts.length + s.states.length + totalS (s.states.take (j + 1))) := Lib.hid (by
          have := ht.out; have := totalS_take s.states j (by have := HA.out.len; omega); have := hN1.arg.len; have := hN2.arg.len; omega)
        have hj0 : (0 : Int) ≤ (j : Int) := by omega
        have hj1 : (j : Int) < (k : Int) := by omega
        have hw1 : IntKind.i64.wrap ((n1 : Int) + n2) = (n1 : Int) + n2 := IntWalk.i64_in _ (by omega)
        have hw2 : IntKind.i64.wrap ((t : Int) + ((n1 : Int) + n2)) = (t : Int) + ((n1 : Int) + n2) := IntWalk.i64_in _ (by omega)
        clear hN1 hN2
        go_wp2
        go_quiet (fail)
        go_wp2
        go_roundw
        case rel => exact ⟨j + 1, t + (n1 + n2), by omega, by go_num, by go_num, HT, by omega, below_drewN HBr.out _⟩
        case measure => simp [intOf]; omega
      · have HV := Lib.hid (fewS_no (s := s) (most := most) (i := j) (by have := ht.out; omega))
        go_wp2
        go_ret
        exact ⟨by rw [HV.out]; rfl, HBw.out⟩
    · have HT : Hid (fewS s most = decide (t ≤ most)) := Lib.hid (by
        have := ht.out
        rw [List.take_of_length_le (by have := HA.out.len; omega)] at this
        rw [this]; rfl)
      by_cases hle : t ≤ most
      · have HV : Hid (fewS s most = true) := Lib.hid (by rw [HT.out]; exact decide_eq_true hle)
        go_wp2
        go_ret
        exact ⟨by rw [HV.out]; rfl, HBw.out⟩
      · have HV : Hid (fewS s most = false) := Lib.hid (by rw [HT.out]; exact decide_eq_false hle)
        go_wp2
        go_ret
        exact ⟨by rw [HV.out]; rfl, HBw.out⟩

set_option maxHeartbeats 1000000 in
theorem isNext_any {w : World} {a : Option Addr} {n c : Nat} {next : List Int} (na ns : Nat) (hna : na ≤ 9223372036854775807) (_hns : ns ≤ 9223372036854775807) (A : IntArg w a n c next) :
    Calls Tryz.prog 108 #[.slice a n c, .int .i64 na, .int .i64 ns] w fun e w' => e = .returned (.bool (nextB na ns next)) ∧ w = w' := by
  have HA := Lib.hid A
  have HL := Lib.hid A.len
  have hbig : n ≤ 9223372036854775807 := A.big
  clear A
  by_cases hl : n = na
  · subst hl
    have hq : ((n : Int) != n) = false := by simp
    go_enter Tryz.func108, Tryz.ntmps108
    go_wp2
    go_loop [8, 15] (fun _ i => ∃ j : Nat, j ≤ n ∧ i = .int .i64 j ∧ Hid (∀ x, x < j → okNext ns (next.getD x 0) = true)) (fun _ i => n - (intOf i).toNat)
    case atStart => exact ⟨0, Nat.zero_le _, rfl, Lib.hid fun x hx => by omega⟩
    case round =>
      obtain ⟨j, hj, rfl, hg⟩ := hrel
      by_cases hlt : j < n
      · obtain ⟨bl, ol, rfl, c1⟩ := HA.out.cells j (by have := HL.out; omega)
        obtain ⟨x, HX⟩ : ∃ x, Hid (next.getD j 0 = x) := ⟨_, Lib.hid rfl⟩
        rw [HX.out] at c1
        cases hok : okNext ns x
        · have HB : Hid (nextB n ns next = false) := Lib.hid (by
            rw [Bool.eq_false_iff, Ne, nextB_iff]
            rintro ⟨_, h⟩
            have := h j (by have := HL.out; omega)
            rw [HX.out, hok] at this
            cases this)
          have hno : x < -1 ∨ (ns : Int) ≤ x := by
            rw [Bool.eq_false_iff, Ne, okNext_iff] at hok
            omega
          have hne : (x != -1) = true := by rw [bne_iff_ne]; omega
          clear hok
          rcases hno with h | h
          · have hx0 : x < 0 := by omega
            go_wp2
            go_ret
            exact ⟨by rw [HB.out]; rfl, rfl⟩
          · have hx0 : ¬ x < 0 := by omega
            go_wp2
            go_ret
            exact ⟨by rw [HB.out]; rfl, rfl⟩
        · have HG : Hid (∀ z, z < j + 1 → okNext ns (next.getD z 0) = true) := Lib.hid fun z hz => by
            by_cases e : z = j
            · rw [e, HX.out]; exact hok
            · exact hg.out z (by omega)
          have hyes := (okNext_iff _ _).1 hok
          clear hok
          by_cases hm : x = -1
          · have hne : (x != -1) = false := by rw [bne_eq_false_iff_eq]; exact hm
            clear hm
            go_wp2
            go_round
            case rel => exact ⟨j + 1, by omega, by go_num, HG⟩
            case measure => simp [intOf]; omega
          · have hne : (x != -1) = true := by rw [bne_iff_ne]; exact hm
            have hx0 : ¬ x < 0 := by omega
            have hx1 : ¬ (ns : Int) ≤ x := by omega
            clear hm
            go_wp2
            go_round
            case rel => exact ⟨j + 1, by omega, by go_num, HG⟩
            case measure => simp [intOf]; omega
      · have HB : Hid (nextB n ns next = true) := Lib.hid ((nextB_iff _ _ _).2 ⟨HL.out.symm, fun z hz => hg.out z (by have := HL.out; omega)⟩)
        go_wp2
        go_ret
        exact ⟨by rw [HB.out]; rfl, rfl⟩
  · have hq : ((n : Int) != na) = true := by rw [bne_iff_ne]; omega
    have HB : Hid (nextB na ns next = false) := Lib.hid (by
      rw [Bool.eq_false_iff, Ne, nextB_iff]
      rintro ⟨h, _⟩
      have := HL.out
      omega)
    clear hl
    go_enter Tryz.func108, Tryz.ntmps108
    go_wp2
    go_ret
    exact ⟨by rw [HB.out]; rfl, rfl⟩

set_option maxHeartbeats 2000000 in
theorem isAccept_any {w : World} {a : Option Addr} {n c : Nat} {acc : List Int} {a2 : Option Addr} {n2 c2 : Nat} {next : List Int} (A : NumsArg w a n c acc) (N : IntArg w a2 n2 c2 next) (h8 : next.length ≤ 8) :
    Calls Tryz.prog 109 #[.slice a n c, .slice a2 n2 c2] w fun e w' => e = .returned (.bool (accB acc next)) ∧ w = w' := by
  have HA := Lib.hid A.arg
  have HR := Lib.hid A.rng
  have HL := Lib.hid A.arg.len
  have HN := Lib.hid N
  have HNL := Lib.hid N.len
  have hbig : n ≤ 17592186044416 := A.few
  have hn8 : n2 ≤ 8 := by have := N.len; omega
  have H8 := Lib.hid h8
  clear A N h8
  go_enter Tryz.func109, Tryz.ntmps109
  go_wp2
  go_loop [5, 6, 7, 12] (fun q _ _ i => ∃ j t : Nat, j ≤ n2 ∧ i = .int .i64 j ∧ q = .int .i64 t ∧ t < 256 ∧ Hid (t = leadN next j)) (fun _ _ _ i => n2 - (intOf i).toNat)
  case atStart => exact ⟨0, 0, Nat.zero_le _, rfl, rfl, by decide, Lib.hid rfl⟩
  case round =>
    obtain ⟨j, t, hj, rfl, rfl, ht, htb⟩ := hrel
    by_cases hlt : j < n2
    · obtain ⟨bl, ol, rfl, c1⟩ := HN.out.cells j (by have := HNL.out; omega)
      obtain ⟨x, HX⟩ : ∃ x, Hid (next.getD j 0 = x) := ⟨_, Lib.hid rfl⟩
      rw [HX.out] at c1
      by_cases hm : x = -1
      · have hne : (x != -1) = false := by rw [bne_eq_false_iff_eq]; exact hm
        have HT : Hid (t = leadN next (j + 1)) := Lib.hid (by rw [leadN, if_neg (by rw [HX.out, hm]; simp)]; exact htb.out)
        clear hm
        go_wp2
        go_round
        case rel => exact ⟨j + 1, t, by omega, by go_num, rfl, ht, HT⟩
        case measure => simp [intOf]; omega
      · have hne : (x != -1) = true := by rw [bne_iff_ne]; exact hm
        obtain ⟨R, HRr⟩ : ∃ R : Nat, Hid (R = t ||| 2 ^ j) := ⟨_, Lib.hid rfl⟩
        have hR : R < 256 := by rw [HRr.out]; exact Nat.or_lt_two_pow (n := 8) ht (Nat.pow_lt_pow_right (by decide) (by omega))
        have HT : Hid (R = leadN next (j + 1)) := Lib.hid (by rw [leadN, if_pos (by rw [HX.out]; exact hm), ← htb.out]; exact HRr.out)
        have HO : Hid (bits .or .i64 (t : Int) (wrap64 (2 ^ j)) = (R : Int)) := Lib.hid (by
          have h2 := pow_le j (by omega)
          have h3 : ((2 ^ j : Nat) : Int) = (2 : Int) ^ j := by norm_cast
          have h4 : 2 ^ j < 256 := Nat.pow_lt_pow_right (n := 8) (by decide) (by omega)
          rw [IntWalk.wrap64_in _ ⟨by omega, by omega⟩, ← h3, HRr.out]
          exact i64_or_nat t _ (by omega) (by omega))
        clear hm
        go_wp2
        rw [HO.out]
        go_wp2
        go_round
        case rel => exact ⟨j + 1, R, by omega, by go_num, rfl, hR, HT⟩
        case measure => simp [intOf]; omega
    · have HT : Hid (t = leadN next next.length) := Lib.hid (by rw [htb.out, show j = next.length from by have := HNL.out; omega])
      go_wp2
      go_loop [8, 9, 26] (fun _ _ i => ∃ y : Nat, y ≤ n ∧ i = .int .i64 y ∧ Hid (∀ z, z < y → okSet next (acc.getD z 0) = true ∧ risB acc z = true)) (fun _ _ i => n - (intOf i).toNat)
      case atStart => exact ⟨0, Nat.zero_le _, rfl, Lib.hid fun x hx => by omega⟩
      case round =>
        obtain ⟨y, hy, rfl, hg⟩ := hrel
        by_cases hlt2 : y < n
        · obtain ⟨bl, ol, rfl, c1⟩ := HA.out.cells y (by have := HL.out; omega)
          obtain ⟨x, HX⟩ : ∃ x, Hid (acc.getD y 0 = x) := ⟨_, Lib.hid rfl⟩
          have hrx := HR.out y (by have := HL.out; omega)
          rw [HX.out] at c1 hrx
          have hos := okSet_lead H8.out x hrx.1 hrx.2
          rw [← HT.out] at hos
          cases hok : okSet next x
          · have hq : (bits .andNot .i64 x (t : Int) != 0) = true := by rw [bne_iff_ne]; intro e; rw [hos.1 e] at hok; cases hok
            have HB : Hid (accB acc next = false) := Lib.hid (accB_bad (i := y) (by have := HL.out; omega) (.inl (by rw [HX.out]; exact hok)))
            clear hok hos
            go_wp2
            go_ret
            exact ⟨by rw [HB.out]; rfl, rfl⟩
          · have hq : (bits .andNot .i64 x (t : Int) != 0) = false := by rw [bne_eq_false_iff_eq]; exact hos.2 hok
            have HOk : Hid (okSet next (acc.getD y 0) = true) := Lib.hid (by rw [HX.out]; exact hok)
            clear hok hos
            by_cases h0 : 0 < y
            · obtain ⟨p, rfl⟩ : ∃ p, y = p + 1 := ⟨y - 1, by omega⟩
              obtain ⟨bl', ol', e, c3⟩ := HA.out.cells p (by have := HL.out; omega)
              cases e
              obtain ⟨z, HZ⟩ : ∃ z, Hid (acc.getD p 0 = z) := ⟨_, Lib.hid rfl⟩
              rw [HZ.out] at c3
              have hg1 : decide ((0 : Int) < (p + 1 : Nat)) = true := decide_eq_true (by omega)
              have hk1 : IntKind.i64.wrap (p : Int) = (p : Int) := IntWalk.i64_in _ (by omega)
              have hk2 : (0 : Int) ≤ (p : Int) := by omega
              have hk4 : (p : Int) < n := by omega
              by_cases hzx : z < x
              · have HG : Hid (∀ q, q < p + 1 + 1 → okSet next (acc.getD q 0) = true ∧ risB acc q = true) := Lib.hid fun q hq => by
                  by_cases e : q = p + 1
                  · rw [e]
                    refine ⟨HOk.out, ?_⟩
                    unfold risB
                    rw [Nat.add_sub_cancel, HX.out, HZ.out, decide_eq_true hzx, Bool.or_true]
                  · exact hg.out q (by omega)
                have hzx2 : ¬ x ≤ z := by omega
                go_wp2
                go_round
                case rel => exact ⟨p + 1 + 1, by omega, by go_num, HG⟩
                case measure => simp [intOf]; omega
              · have HB : Hid (accB acc next = false) := Lib.hid (accB_bad (i := p + 1) (by have := HL.out; omega) (.inr (by
                  unfold risB
                  rw [Nat.add_sub_cancel, HX.out, HZ.out, decide_eq_false hzx]
                  simp)))
                have hzx2 : x ≤ z := by omega
                go_wp2
                go_ret
                exact ⟨by rw [HB.out]; rfl, rfl⟩
            · have hg1 : decide ((0 : Int) < y) = false := decide_eq_false (by omega)
              have HG : Hid (∀ q, q < y + 1 → okSet next (acc.getD q 0) = true ∧ risB acc q = true) := Lib.hid fun q hq => by
                obtain rfl : q = y := by omega
                refine ⟨HOk.out, ?_⟩
                unfold risB
                rw [decide_eq_true (show q = 0 by omega), Bool.true_or]
              go_wp2
              go_round
              case rel => exact ⟨y + 1, by omega, by go_num, HG⟩
              case measure => simp [intOf]; omega
        · have HB : Hid (accB acc next = true) := Lib.hid ((accB_iff _ _).2 fun z hz => hg.out z (by have := HL.out; omega))
          go_wp2
          go_ret
          exact ⟨by rw [HB.out]; rfl, rfl⟩
end Go.Proofs.YtohljainhkdiiaaGreatDoor
