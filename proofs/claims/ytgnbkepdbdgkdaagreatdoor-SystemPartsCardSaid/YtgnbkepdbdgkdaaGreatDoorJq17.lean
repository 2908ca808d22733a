/- Texts joined: RSpc, RSpc2, RFault, BfPl, Range2, SatH. -/
import Derived.Test.YtgnbkepdbdgkdaaGreatDoorJq10
import Derived.Test.YtgnbkepdbdgkdaaGreatDoorJq16
import Derived.Test.YtgnbkepdbdgkdaaGreatDoorJq02
import Derived.Test.YtgnbkepdbdgkdaaGreatDoorJq11
import Derived.Test.YtgnbkepdbdgkdaaGreatDoorJq09
import Derived.Test.YtgnbkepdbdgkdaaGreatDoorJq12
/- The reference's Rising and state. -/
namespace Go.Proofs.YtgnbkepdbdgkdaaGreatDoor
open Go.RowKit Pl

def risAll (l : List Int) : Bool := (List.range l.length).all (risB l)
theorem risAll_iff (l : List Int) : risAll l = true ↔ ∀ i, i < l.length → risB l i = true := by
  simp only [risAll, List.all_eq_true, List.mem_range]
theorem ris_next {l : List Int} {p : Nat} {z x : Int} (hz : l.getD p 0 = z) (hx : l.getD (p + 1) 0 = x) (h : z < x) : risB l (p + 1) = true := by
  unfold risB
  rw [Nat.add_sub_cancel, hz, hx, decide_eq_true h, Bool.or_true]
theorem ris_bad {l : List Int} {p : Nat} {z x : Int} (hz : l.getD p 0 = z) (hx : l.getD (p + 1) 0 = x) (h : ¬ z < x) : risB l (p + 1) = false := by
  unfold risB
  rw [Nat.add_sub_cancel, hz, hx, decide_eq_false h, Bool.or_false]
  exact decide_eq_false (by omega)
theorem accB_ris {acc next : List Int} (h : risAll acc = false) : accB acc next = false := by
  rw [Bool.eq_false_iff, Ne, accB_iff]
  intro h'
  rw [Bool.eq_false_iff, Ne, risAll_iff] at h
  exact h fun i hi => (h' i hi).2
theorem nextB_len {na ns : Nat} {next : List Int} (h : next.length ≠ na) : nextB na ns next = false := by
  rw [Bool.eq_false_iff, Ne, nextB_iff]
  exact fun h' => h h'.1
theorem nextB_out {na ns : Nat} {next : List Int} (j : Nat) (hj : j < next.length) (h : okNext ns (next.getD j 0) = false) : nextB na ns next = false := by
  rw [Bool.eq_false_iff, Ne, nextB_iff]
  intro h'
  rw [h'.2 j hj] at h
  cases h
theorem ste_next {na ns : Nat} {t : Ste} (h : nextB na ns t.2 = false) : steB na ns t = false := by unfold steB; rw [h]; rfl
theorem ste_acc {na ns : Nat} {t : Ste} (h : accB t.1 t.2 = false) : steB na ns t = false := by unfold steB; rw [h, Bool.and_false]
theorem okSet_of {na X : Nat} {next : List Int} (hna : na ≤ 8) (hl : next.length = na) (hX : X < 2 ^ na) : okSet next (X : Int) = true ↔ ∀ a ∈ bitsL na X, leadP next a = true := by
  rw [okSet_iff, Int.toNat_natCast]
  constructor
  · rintro ⟨_, h⟩ a ha
    obtain ⟨h1, h2⟩ := List.mem_filter.1 ha
    exact h a (by have := List.mem_range.1 h1; omega) h2
  · intro h
    refine ⟨by omega, fun a _ hb => h a (List.mem_filter.2 ⟨List.mem_range.2 ?_, hb⟩)⟩
    by_cases e : a < na
    · exact e
    · rw [Nat.testBit_lt_two_pow (Nat.lt_of_lt_of_le hX (Nat.pow_le_pow_right (by decide) (by omega)))] at hb
      cases hb
theorem okSet_set {na : Nat} {x : Int} {next : List Int} (hl : next.length = na) (hx : x ≤ 9223372036854775807) (h : setB na x = false) : okSet next x = false := by
  rw [Bool.eq_false_iff, Ne, okSet_iff]
  rintro ⟨h0, h1⟩
  have h2 : x.toNat < 2 ^ na := Nat.lt_pow_two_of_testBit _ fun i hi => by
    by_cases h64 : i < 64
    · cases hb : x.toNat.testBit i
      · rfl
      · have := h1 i h64 hb
        unfold leadP at this
        rw [decide_eq_false (by omega)] at this
        cases this
    · exact Nat.testBit_lt_two_pow (Nat.lt_of_lt_of_le (show x.toNat < 2 ^ 64 by omega) (Nat.pow_le_pow_right (by decide) (by omega)))
  have h3 : x < 2 ^ na := by
    have : ((2 ^ na : Nat) : Int) = (2 : Int) ^ na := by norm_cast
    omega
  rw [setB, decide_eq_true h0, decide_eq_true h3] at h
  cases h
theorem set_nat {na : Nat} {x : Int} (h : setB na x = true) : ∃ X : Nat, x = (X : Int) ∧ X < 2 ^ na := by
  unfold setB at h
  rw [Bool.and_eq_true, decide_eq_true_eq, decide_eq_true_eq] at h
  refine ⟨x.toNat, by omega, ?_⟩
  have : ((2 ^ na : Nat) : Int) = (2 : Int) ^ na := by norm_cast
  omega

def natsI (l : List Nat) : List Int := l.map fun (x : Nat) => (x : Int)
theorem natsI_length (l : List Nat) : (natsI l).length = l.length := by simp [natsI]
theorem natsI_at {l : List Nat} {j : Nat} (h : j < l.length) : (natsI l).getD j 0 = ((l.getD j 0 : Nat) : Int) := by
  unfold natsI
  rw [List.getD_eq_getElem?_getD, List.getElem?_map, List.getElem?_eq_getElem h, List.getD_eq_getElem?_getD, List.getElem?_eq_getElem h]
  rfl
theorem nats_arg {w : World} {base : Nat} {v : Value} {l : List Nat} (h : w.ownsRow base 3 1 v l.length (l.map fun k : Nat => Value.int .i64 k)) (hl : l.length ≤ 140737488355328) : ∃ a c, v = .slice a l.length c ∧ IntArg w a l.length c (natsI l) := by
  rcases h.2 with ⟨rfl, h0⟩ | ⟨g, cap, cur, rfl, hg, hh, hc, hm, hz, ht⟩
  · rw [h0]
    exact ⟨none, 0, rfl, ⟨fun _ => rfl, by rw [natsI_length, h0], Nat.le_refl _, by omega, fun j hj => by rw [natsI_length, h0] at hj; omega⟩⟩
  · refine ⟨some ⟨g, 0, none⟩, cap, rfl, ⟨(fun h => by cases h), (natsI_length l).symm, hc, by omega, fun j hj => ⟨g, 0, rfl, ?_⟩⟩⟩
    rw [natsI_length] at hj
    rw [Nat.zero_add, World.ownsRow.cellAt h j (by omega), List.getElem?_map, List.getElem?_eq_getElem hj, natsI_at hj, List.getD_eq_getElem?_getD, List.getElem?_eq_getElem hj]
    rfl

end Go.Proofs.YtgnbkepdbdgkdaaGreatDoor
/- The reference's Is and Same of specifications. -/
namespace Go.Proofs.YtgnbkepdbdgkdaaGreatDoor
open Go.RowKit Pl

end Go.Proofs.YtgnbkepdbdgkdaaGreatDoor
/- The reference's IsFault; both, the error that a system and a specification cause. -/
namespace Go.Proofs.YtgnbkepdbdgkdaaGreatDoor
open Go.RowKit Pl

def bothC (m : Syst) (s : Spc) : Int := if sysB m = true then (if spcB s = true then (if m.acts = s.acts then 0 else 10) else 30) else 20
theorem zs_len (l : List Nat) : (zs l).length = l.length := by simp [zs]
theorem zs_nil {l : List Nat} (h : l.length = 0) : l = [] := List.length_eq_zero_iff.1 h
theorem litI_arg (W : World) (x : Int) : IntArg (W.alloc (.cells #[.int .i64 x] 3)) (some ⟨W.heap.size, 0, none⟩) 1 1 [x] :=
  ⟨(fun h => by cases h), rfl, Nat.le_refl _, by decide, fun j hj => ⟨W.heap.size, 0, rfl, by
    obtain rfl : j = 0 := by simpa using hj
    exact (Whole.new W 3 #[.int .i64 x]).cell 0⟩⟩

end Go.Proofs.YtgnbkepdbdgkdaaGreatDoor
/- Plain facts: the queue of pairs stands in the order of the lengths of their words; the word of a pair that does not fit is a fault; nothing here is about a program. -/
namespace Go.Proofs.YtgnbkepdbdgkdaaGreatDoor
open Pl

/-- how long the word of a place is -/
def lenQ (Q : List Wt) (p : Nat) : Nat := (spellQ Q p p).length
theorem lenQ_zero (Q : List Wt) : lenQ Q 0 = 0 := rfl
theorem lenQ_next {Q : List Wt} (hb : Bef Q) {p : Nat} (hp : p < Q.length) (h0 : 0 < p) : lenQ Q p = lenQ Q (wtAt Q p).before + 1 := by
  unfold lenQ
  rw [spell_next hb hp h0, List.length_append]
  rfl
theorem spell_app {Q R : List Wt} (hb : Bef Q) (hbR : Bef (Q ++ R)) : ∀ p, p < Q.length → spellQ (Q ++ R) p p = spellQ Q p p := by
  intro p
  induction p using Nat.strongRecOn with
  | ind p ih =>
    intro hp
    rcases Nat.eq_zero_or_pos p with rfl | h0
    · rfl
    · have h1 := hb p hp h0
      rw [spell_next hb hp h0, spell_next hbR (by rw [List.length_append]; omega) h0, wtAt_app hp, ih _ h1 (by omega)]
theorem lenQ_app {Q R : List Wt} (hb : Bef Q) (hbR : Bef (Q ++ R)) {p : Nat} (hp : p < Q.length) : lenQ (Q ++ R) p = lenQ Q p := by
  unfold lenQ
  rw [spell_app hb hbR p hp]
theorem addQ_two (s : Spc) (i y : Nat) (q : List Wt × Mat) (e : Edg) :
    (getF q.2 e.2.toNat (nextY s y e.1) = true ∧ addQ s i y q e = q) ∨
    (getF q.2 e.2.toNat (nextY s y e.1) = false ∧ addQ s i y q e = (q.1 ++ [⟨i, e.1, e.2.toNat, nextY s y e.1⟩], setF q.2 e.2.toNat (nextY s y e.1))) := by
  unfold addQ
  cases h : getF q.2 e.2.toNat (nextY s y e.1)
  · exact .inr ⟨rfl, if_neg (by decide)⟩
  · exact .inl ⟨rfl, if_pos rfl⟩

/-- the queue, the marks, while place i is worked, j of its edges done -/
structure Bf (m : Syst) (s : Spc) (i j : Nat) (q : List Wt × Mat) : Prop where
  ok : OkQ m s q
  pos : i < q.1.length
  z0 : (wtAt q.1 0).x = 0 ∧ (wtAt q.1 0).y = 0
  mono : ∀ p p', p ≤ p' → p' < q.1.length → lenQ q.1 p ≤ lenQ q.1 p'
  top : ∀ p, p < q.1.length → lenQ q.1 p ≤ lenQ q.1 i + 1
  mark : ∀ x y, x < m.states.length → y < s.states.length → getF q.2 x y = true → ∃ p, p < q.1.length ∧ (wtAt q.1 p).x = x ∧ (wtAt q.1 p).y = y
  closed : ∀ p t, p < q.1.length → t < (stAt m.states (wtAt q.1 p).x).length → (p < i ∨ p = i ∧ t < j) → ∃ p', p' < q.1.length ∧ (wtAt q.1 p').x = (edAt (stAt m.states (wtAt q.1 p).x) t).2.toNat ∧ (wtAt q.1 p').y = nextY s (wtAt q.1 p).y (edAt (stAt m.states (wtAt q.1 p).x) t).1 ∧ lenQ q.1 p' ≤ lenQ q.1 p + 1
  par : ∀ p, p < q.1.length → 0 < p → ∃ t, t < (stAt m.states (wtAt q.1 (wtAt q.1 p).before).x).length ∧ (wtAt q.1 p).last = (edAt (stAt m.states (wtAt q.1 (wtAt q.1 p).before).x) t).1 ∧ (wtAt q.1 p).x = (edAt (stAt m.states (wtAt q.1 (wtAt q.1 p).before).x) t).2.toNat ∧ (wtAt q.1 p).y = nextY s (wtAt q.1 (wtAt q.1 p).before).y (wtAt q.1 p).last
theorem Bf.add {m : Syst} {s : Spc} (hm : sysB m = true) (hs : spcB s = true) {i j : Nat} {q : List Wt × Mat} (h : Bf m s i j q) (hj : j < (stAt m.states (wtAt q.1 i).x).length) (hf : fitB m s (wtAt q.1 i).x (wtAt q.1 i).y = true) :
    Bf m s i (j + 1) (addQ s i (wtAt q.1 i).y q (edAt (stAt m.states (wtAt q.1 i).x) j)) := by
  obtain ⟨r1, r2⟩ := h.ok.rng i h.pos
  obtain ⟨e1, e2, e3, e4⟩ := edge_ok hm r1 hj
  obtain ⟨n1, n2, n3⟩ := fit_next hm hs r1 r2 hf hj
  have hx' : (edAt (stAt m.states (wtAt q.1 i).x) j).2.toNat < m.states.length := by omega
  have hy' : nextY s (wtAt q.1 i).y (edAt (stAt m.states (wtAt q.1 i).x) j).1 < s.states.length := by unfold nextY; omega
  have hok := h.ok.add (i := i) (y := (wtAt q.1 i).y) (e := edAt (stAt m.states (wtAt q.1 i).x) j) h.pos hx' hy'
  rcases addQ_two s i (wtAt q.1 i).y q (edAt (stAt m.states (wtAt q.1 i).x) j) with ⟨hg, hq⟩ | ⟨hg, hq⟩
  · rw [hq]
    refine ⟨h.ok, h.pos, h.z0, h.mono, h.top, h.mark, fun p t hp ht hc => ?_, h.par⟩
    by_cases hn : p = i ∧ t = j
    · obtain ⟨rfl, rfl⟩ := hn
      obtain ⟨p', h1, h2, h3⟩ := h.mark _ _ hx' hy' hg
      exact ⟨p', h1, h2, h3, h.top p' h1⟩
    · exact h.closed p t hp ht (by omega)
  · rw [hq] at hok ⊢
    have hB : Bef q.1 := h.ok.bef
    have hB' : Bef (q.1 ++ [⟨i, (edAt (stAt m.states (wtAt q.1 i).x) j).1, (edAt (stAt m.states (wtAt q.1 i).x) j).2.toNat, nextY s (wtAt q.1 i).y (edAt (stAt m.states (wtAt q.1 i).x) j).1⟩]) := hok.bef
    obtain ⟨T, hT⟩ : ∃ T : Wt, (⟨i, (edAt (stAt m.states (wtAt q.1 i).x) j).1, (edAt (stAt m.states (wtAt q.1 i).x) j).2.toNat, nextY s (wtAt q.1 i).y (edAt (stAt m.states (wtAt q.1 i).x) j).1⟩ : Wt) = T := ⟨_, rfl⟩
    have T1 : T.before = i := by rw [← hT]
    have T2 : T.last = (edAt (stAt m.states (wtAt q.1 i).x) j).1 := by rw [← hT]
    have T3 : T.x = (edAt (stAt m.states (wtAt q.1 i).x) j).2.toNat := by rw [← hT]
    have T4 : T.y = nextY s (wtAt q.1 i).y (edAt (stAt m.states (wtAt q.1 i).x) j).1 := by rw [← hT]
    rw [hT] at hok hB' ⊢
    have hlen : (q.1 ++ [T]).length = q.1.length + 1 := by simp
    have hsn : wtAt (q.1 ++ [T]) q.1.length = T := wtAt_snoc _ _
    have hl : ∀ p, p < q.1.length → lenQ (q.1 ++ [T]) p = lenQ q.1 p := fun p hp => lenQ_app hB hB' hp
    have hln : lenQ (q.1 ++ [T]) q.1.length = lenQ q.1 i + 1 := by
      rw [lenQ_next hB' (by rw [hlen]; omega) (by have := h.pos; omega), hsn, T1, hl i h.pos]
    have hat : ∀ p, p < q.1.length → wtAt (q.1 ++ [T]) p = wtAt q.1 p := fun p hp => wtAt_app hp
    have hpos := h.pos
    have hbnd : ∀ p, p < q.1.length + 1 → lenQ (q.1 ++ [T]) p ≤ lenQ q.1 i + 1 := fun p hp => by
      by_cases e : p < q.1.length
      · rw [hl p e]; exact h.top p e
      · obtain rfl : p = q.1.length := by omega
        rw [hln]; exact Nat.le_refl _
    refine ⟨hok, by show i < (q.1 ++ [T]).length; omega, ?_, fun p p' hpp hp' => ?_, fun p hp => ?_, fun x y hx hy hg' => ?_, fun p t hp ht hc => ?_, fun p hp h0 => ?_⟩
    · show (wtAt (q.1 ++ [T]) 0).x = 0 ∧ (wtAt (q.1 ++ [T]) 0).y = 0
      rw [hat 0 (by omega)]; exact h.z0
    · have hp'2 : p' < q.1.length + 1 := by rw [← hlen]; exact hp'
      show lenQ (q.1 ++ [T]) p ≤ lenQ (q.1 ++ [T]) p'
      by_cases e : p' < q.1.length
      · rw [hl p (by omega), hl p' e]; exact h.mono p p' hpp e
      · obtain rfl : p' = q.1.length := by omega
        rw [hln]; exact hbnd p (by omega)
    · show lenQ (q.1 ++ [T]) p ≤ lenQ (q.1 ++ [T]) i + 1
      rw [hl i hpos]
      exact hbnd p (by rw [← hlen]; exact hp)
    · rw [setF_get h.ok.shp hx' hy', Bool.or_eq_true] at hg'
      rcases hg' with hg' | hg'
      · obtain ⟨p, h1, h2⟩ := h.mark x y hx hy hg'
        exact ⟨p, by show p < (q.1 ++ [T]).length; omega, by show (wtAt (q.1 ++ [T]) p).x = x ∧ (wtAt (q.1 ++ [T]) p).y = y; rw [hat p h1]; exact h2⟩
      · rw [Bool.and_eq_true, decide_eq_true_eq, decide_eq_true_eq] at hg'
        exact ⟨q.1.length, by show q.1.length < (q.1 ++ [T]).length; omega, by show (wtAt (q.1 ++ [T]) q.1.length).x = x ∧ (wtAt (q.1 ++ [T]) q.1.length).y = y; rw [hsn, T3, T4]; exact ⟨hg'.1.symm, hg'.2.symm⟩⟩
    · have hpl : p < q.1.length := by rcases hc with hc | hc <;> omega
      change t < (stAt m.states (wtAt (q.1 ++ [T]) p).x).length at ht
      rw [hat p hpl] at ht
      show ∃ p', p' < (q.1 ++ [T]).length ∧ (wtAt (q.1 ++ [T]) p').x = (edAt (stAt m.states (wtAt (q.1 ++ [T]) p).x) t).2.toNat ∧ (wtAt (q.1 ++ [T]) p').y = nextY s (wtAt (q.1 ++ [T]) p).y (edAt (stAt m.states (wtAt (q.1 ++ [T]) p).x) t).1 ∧ lenQ (q.1 ++ [T]) p' ≤ lenQ (q.1 ++ [T]) p + 1
      rw [hat p hpl, hl p hpl]
      by_cases hn : p = i ∧ t = j
      · obtain ⟨rfl, rfl⟩ := hn
        exact ⟨q.1.length, by omega, by rw [hsn, T3], by rw [hsn, T4], by rw [hln]; exact Nat.le_refl _⟩
      · obtain ⟨p', h1, h2, h3, h4⟩ := h.closed p t hpl ht (by omega)
        exact ⟨p', by omega, by rw [hat p' h1]; exact h2, by rw [hat p' h1]; exact h3, by rw [hl p' h1]; exact h4⟩
    · show ∃ t, t < (stAt m.states (wtAt (q.1 ++ [T]) (wtAt (q.1 ++ [T]) p).before).x).length ∧ (wtAt (q.1 ++ [T]) p).last = (edAt (stAt m.states (wtAt (q.1 ++ [T]) (wtAt (q.1 ++ [T]) p).before).x) t).1 ∧ (wtAt (q.1 ++ [T]) p).x = (edAt (stAt m.states (wtAt (q.1 ++ [T]) (wtAt (q.1 ++ [T]) p).before).x) t).2.toNat ∧ (wtAt (q.1 ++ [T]) p).y = nextY s (wtAt (q.1 ++ [T]) (wtAt (q.1 ++ [T]) p).before).y (wtAt (q.1 ++ [T]) p).last
      by_cases e : p < q.1.length
      · have hb := hB p e h0
        rw [hat p e, hat _ (by omega)]
        exact h.par p e h0
      · have hp2 : p < q.1.length + 1 := by rw [← hlen]; exact hp
        obtain rfl : p = q.1.length := by omega
        rw [hsn, T1, hat i hpos]
        exact ⟨j, hj, T2, T3, by rw [T4, T2]⟩
theorem Bf.inq {m : Syst} {s : Spc} (hm : sysB m = true) (hs : spcB s = true) {i : Nat} {q : List Wt × Mat} (h : Bf m s i 0 q) (hf : fitB m s (wtAt q.1 i).x (wtAt q.1 i).y = true) :
    ∀ j, j ≤ (stAt m.states (wtAt q.1 i).x).length → Bf m s i j (inQ m s i q j) ∧ wtAt (inQ m s i q j).1 i = wtAt q.1 i
  | 0, _ => by rw [inQ_zero]; exact ⟨h, rfl⟩
  | j + 1, hj => by
    obtain ⟨h1, h2⟩ := Bf.inq hm hs h hf j (by omega)
    rw [inQ_next m s i q j (by omega)]
    have h3 := Bf.add hm hs h1 (by rw [h2]; omega) (by rw [h2]; exact hf)
    rw [h2] at h3
    exact ⟨h3, by rw [addQ_at _ _ _ _ _ h1.pos, h2]⟩
theorem Bf.zero {m : Syst} {s : Spc} (hm : 1 ≤ m.states.length) (hs : 1 ≤ s.states.length) : Bf m s 0 0 (stQ m s 0) := by
  have hl : (stQ m s 0).1.length = 1 := rfl
  refine ⟨OkQ.zero hm hs, by omega, ⟨rfl, rfl⟩, fun p p' h1 h2 => ?_, fun p hp => ?_, fun x y hx hy hg => ?_, fun p t hp ht hc => by omega, fun p hp h0 => by omega⟩
  · have e1 : p = 0 := by omega
    have e2 : p' = 0 := by omega
    rw [e1, e2]; exact Nat.le_refl _
  · have e1 : p = 0 := by omega
    rw [e1]; exact Nat.le_succ _
  · have h := noF_shp m.states.length s.states.length
    have e : (stQ m s 0).2 = setF (noF m.states.length s.states.length) 0 0 := rfl
    rw [e, setF_get h (by omega) (by omega), noF_get, Bool.false_or, Bool.and_eq_true, decide_eq_true_eq, decide_eq_true_eq] at hg
    exact ⟨0, by omega, hg.1.symm, hg.2.symm⟩
theorem bf_at {m : Syst} {s : Spc} (hm : sysB m = true) (hs : spcB s = true) : ∀ i, FitsTo m s i → i < (stQ m s i).1.length → Bf m s i 0 (stQ m s i)
  | 0, _, _ => Bf.zero ((sysB_iff m).1 hm).2.1 ((spcB_iff s).1 hs).2.1
  | i + 1, hF, hi => by
    have hFi : FitsTo m s i := fun k hk => hF k (by omega)
    obtain ⟨h1, h2⟩ := hF i (by omega)
    have ih := bf_at hm hs i hFi h1
    obtain ⟨h3, h4⟩ := Bf.inq hm hs ih h2 _ (Nat.le_refl _)
    change Bf m s i _ (stQ m s (i + 1)) at h3
    change wtAt (stQ m s (i + 1)).1 i = _ at h4
    refine ⟨h3.ok, hi, h3.z0, h3.mono, fun p hp => ?_, h3.mark, fun p t hp ht hc => ?_, h3.par⟩
    · have := h3.top p hp
      have := h3.mono i (i + 1) (by omega) hi
      omega
    · have hpi : p < i ∨ p = i := by omega
      rcases hpi with e | e
      · exact h3.closed p t hp ht (.inl e)
      · subst e
        exact h3.closed p t hp ht (.inr ⟨rfl, by rw [h4] at ht; exact ht⟩)
/-- a place is what it was -/
theorem stQ_grow {m : Syst} {s : Spc} {i : Nat} {q : List Wt × Mat} : ∀ j, q.1.length ≤ (inQ m s i q j).1.length ∧ ∀ k, k < q.1.length → wtAt (inQ m s i q j).1 k = wtAt q.1 k
  | 0 => by rw [inQ_zero]; exact ⟨Nat.le_refl _, fun _ _ => rfl⟩
  | j + 1 => by
    obtain ⟨h1, h2⟩ := stQ_grow (m := m) (s := s) (i := i) (q := q) j
    by_cases hj : j < (stAt m.states (wtAt q.1 i).x).length
    · rw [inQ_next m s i q j hj]
      exact ⟨Nat.le_trans h1 (addQ_len _ _ _ _ _), fun k hk => by rw [addQ_at _ _ _ _ _ (by omega), h2 k hk]⟩
    · have e : inQ m s i q (j + 1) = inQ m s i q j := by
        unfold inQ
        rw [List.take_of_length_le (by omega), List.take_of_length_le (by omega)]
      rw [e]; exact ⟨h1, h2⟩
theorem stQ_mono {m : Syst} {s : Spc} (i : Nat) : ∀ k, (stQ m s i).1.length ≤ (stQ m s (i + k)).1.length ∧ ∀ p, p < (stQ m s i).1.length → wtAt (stQ m s (i + k)).1 p = wtAt (stQ m s i).1 p
  | 0 => ⟨Nat.le_refl _, fun _ _ => rfl⟩
  | k + 1 => by
    obtain ⟨h1, h2⟩ := stQ_mono (m := m) (s := s) i k
    have h3 := stQ_grow (m := m) (s := s) (i := i + k) (q := stQ m s (i + k)) (stAt m.states (wtAt (stQ m s (i + k)).1 (i + k)).x).length
    change _ ≤ (stQ m s (i + k + 1)).1.length ∧ ∀ p, _ → wtAt (stQ m s (i + k + 1)).1 p = _ at h3
    exact ⟨Nat.le_trans h1 h3.1, fun p hp => by rw [show i + (k + 1) = i + k + 1 from rfl, h3.2 p (by omega), h2 p hp]⟩

theorem next_has {m : Syst} {l : List Nat} {x y t : Nat} {a : Int} (hx : x ∈ l) (ht : t < (stAt m.states x).length) (h1 : (edAt (stAt m.states x) t).1 = a) (h2 : (edAt (stAt m.states x) t).2 = (y : Int)) (hy : y < m.states.length) : y ∈ nextL m.states l a := by
  rw [nextL_mem]
  refine ⟨hy, ?_⟩
  unfold hitP leads
  rw [List.any_eq_true]
  refine ⟨x, hx, ?_⟩
  rw [List.any_eq_true]
  exact ⟨_, edAt_mem ht, by rw [h1, h2]; simp⟩
theorem next_from {m : Syst} {l : List Nat} {y : Nat} {a : Int} (h : y ∈ nextL m.states l a) : ∃ x, x ∈ l ∧ ∃ t, t < (stAt m.states x).length ∧ (edAt (stAt m.states x) t).1 = a ∧ (edAt (stAt m.states x) t).2 = (y : Int) := by
  rw [nextL_mem] at h
  have h2 := h.2
  unfold hitP leads at h2
  rw [List.any_eq_true] at h2
  obtain ⟨x, hx, h3⟩ := h2
  rw [List.any_eq_true] at h3
  obtain ⟨e, he, h4⟩ := h3
  rw [Bool.and_eq_true, decide_eq_true_eq, decide_eq_true_eq] at h4
  obtain ⟨t, ht, rfl⟩ := List.getElem_of_mem he
  have e2 : edAt (stAt m.states x) t = (stAt m.states x)[t] := by simp [edAt, List.getD, ht]
  exact ⟨x, hx, t, ht, by rw [e2]; exact h4.1, by rw [e2]; exact h4.2⟩
theorem afterL_app (ss : List (List Edg)) (w : List Int) (a : Int) : afterL ss (w ++ [a]) = nextL ss (afterL ss w) a := by simp [afterL]

/-- along the word of a place, up to place i, which is the first that does not fit -/
theorem fault_path {m : Syst} {s : Spc} (hm : sysB m = true) (hs : spcB s = true) {i : Nat} (hF : FitsTo m s i) (hi : i < (stQ m s i).1.length) : ∀ p, p ≤ i →
    (∀ w2, faultF m s (spellQ (stQ m s i).1 p p ++ w2) [0] 0 = faultF m s w2 (afterL m.states (spellQ (stQ m s i).1 p p)) ((wtAt (stQ m s i).1 p).y : Int)) ∧
    (wtAt (stQ m s i).1 p).x ∈ afterL m.states (spellQ (stQ m s i).1 p p) ∧
    (∀ x ∈ afterL m.states (spellQ (stQ m s i).1 p p), ∃ r, r < (stQ m s i).1.length ∧ (wtAt (stQ m s i).1 r).x = x ∧ (wtAt (stQ m s i).1 r).y = (wtAt (stQ m s i).1 p).y ∧ lenQ (stQ m s i).1 r ≤ lenQ (stQ m s i).1 p) ∧
    (∀ a ∈ spellQ (stQ m s i).1 p p, 0 ≤ a ∧ a < m.acts.length) := by
  have hB := bf_at hm hs i hF hi
  have hfit : ∀ r, r < i → fitB m s (wtAt (stQ m s i).1 r).x (wtAt (stQ m s i).1 r).y = true := fun r hr => by
    obtain ⟨h1, h2⟩ := hF r hr
    obtain ⟨k, rfl⟩ : ∃ k, i = r + k := ⟨i - r, by omega⟩
    rw [(stQ_mono (m := m) (s := s) r k).2 r h1]
    exact h2
  obtain ⟨q, hq⟩ : ∃ q, stQ m s i = q := ⟨_, rfl⟩
  rw [hq] at hB hi hfit ⊢
  intro p
  induction p using Nat.strongRecOn with
  | ind p ih =>
    intro hp
    rcases Nat.eq_zero_or_pos p with rfl | h0
    · have e : spellQ q.1 0 0 = [] := rfl
      have ea : afterL m.states [] = [0] := rfl
      rw [e, ea, hB.z0.1, hB.z0.2]
      refine ⟨fun w2 => rfl, by simp, fun x hx => ?_, fun a ha => by cases ha⟩
      rw [List.mem_singleton] at hx
      exact ⟨0, by omega, by rw [hB.z0.1, hx], hB.z0.2, Nat.le_refl _⟩
    · have hpl : p < q.1.length := by omega
      have hbf : Bef q.1 := hB.ok.bef
      have hb := hbf p hpl h0
      obtain ⟨t, t1, t2, t3, t4⟩ := hB.par p hpl h0
      obtain ⟨I1, I2, I3, I4⟩ := ih _ hb (by omega)
      have hsp := spell_next hbf hpl h0
      have hln := lenQ_next hbf hpl h0
      have hmi := hB.mono p i hp hi
      have hbl : (wtAt q.1 p).before < q.1.length := by omega
      obtain ⟨r1, r2⟩ := hB.ok.rng _ hbl
      obtain ⟨g1, g2, g3, g4⟩ := edge_ok hm r1 t1
      have hfb := hfit _ (show (wtAt q.1 p).before < i by omega)
      obtain ⟨n1, n2, n3⟩ := fit_next hm hs r1 r2 hfb t1
      have hI : nextI s ((wtAt q.1 (wtAt q.1 p).before).y : Int) (wtAt q.1 p).last = ((wtAt q.1 p).y : Int) := by
        rw [t4]
        unfold nextI nextY
        rw [Int.toNat_natCast, t2]
        omega
      have hgood : ¬ (afterL m.states (spellQ q.1 (wtAt q.1 p).before (wtAt q.1 p).before) = [] ∨ badB m s (afterL m.states (spellQ q.1 (wtAt q.1 p).before (wtAt q.1 p).before)) ((wtAt q.1 (wtAt q.1 p).before).y : Int) = true) := by
        rintro (e | e)
        · rw [e] at I2; cases I2
        · unfold badB at e
          rw [List.any_eq_true] at e
          obtain ⟨x, hx, hx2⟩ := e
          obtain ⟨r, h1, h2, h3, h4⟩ := I3 x hx
          have hri : r < i := by
            rcases Nat.lt_or_ge r i with h5 | h5
            · exact h5
            · have := hB.mono i r h5 h1
              omega
          have h6 := hfit r hri
          rw [h2, h3] at h6
          unfold goodB at hx2
          rw [Int.toNat_natCast, h6, decide_eq_true (by omega)] at hx2
          simp at hx2
      have hpx : (wtAt q.1 p).x < m.states.length := (hB.ok.rng p hpl).1
      refine ⟨fun w2 => ?_, ?_, fun x hx => ?_, fun a ha => ?_⟩
      · rw [hsp, List.append_assoc, I1]
        show faultF m s ((wtAt q.1 p).last :: w2) _ _ = _
        rw [faultF_go hgood (by rw [hI]; omega), hI, afterL_app]
      · rw [hsp, afterL_app]
        exact next_has I2 t1 t2.symm (by rw [t3]; omega) hpx
      · rw [hsp, afterL_app] at hx
        obtain ⟨x', hx', t', k1, k2, k3⟩ := next_from hx
        obtain ⟨r, h1, h2, h3, h4⟩ := I3 x' hx'
        have hri : r < i := by
          rcases Nat.lt_or_ge r i with h5 | h5
          · exact h5
          · have := hB.mono i r h5 h1
            omega
        rw [← h2] at k1 k2 k3
        obtain ⟨r', c1, c2, c3, c4⟩ := hB.closed r t' h1 k1 (.inl hri)
        refine ⟨r', c1, by rw [c2, k3, Int.toNat_natCast], by rw [c3, k2, h3, t4], by omega⟩
      · rw [hsp] at ha
        rcases List.mem_append.1 ha with ha | ha
        · exact I4 a ha
        · rw [List.mem_singleton] at ha
          rw [ha, t2]
          exact ⟨g1, g2⟩
/-- the word of the first pair that does not fit is a fault -/
theorem fault_ok {m : Syst} {s : Spc} (hm : sysB m = true) (hs : spcB s = true) {i : Nat} (hF : FitsTo m s i) (hi : i < (stQ m s i).1.length) (hn : fitB m s (wtAt (stQ m s i).1 i).x (wtAt (stQ m s i).1 i).y = false) :
    faultB m s (spellQ (stQ m s i).1 i i) ((wtAt (stQ m s i).1 i).x : Int) = true := by
  obtain ⟨h1, h2, h3, h4⟩ := fault_path hm hs hF hi i (Nat.le_refl _)
  have h5 := h1 []
  rw [List.append_nil] at h5
  unfold faultB
  rw [h5]
  have ha : actsK m.acts.length (spellQ (stQ m s i).1 i i) = true := by
    unfold actsK
    rw [List.all_eq_true]
    intro a ha
    exact (actK_iff _ _).2 (h4 a ha)
  rw [ha]
  show (true && (decide (((wtAt (stQ m s i).1 i).x : Int) ∈ (afterL m.states (spellQ (stQ m s i).1 i i)).map (fun (x : Nat) => (x : Int))) && !goodB m s ((wtAt (stQ m s i).1 i).x : Int).toNat ((wtAt (stQ m s i).1 i).y : Int))) = true
  rw [decide_eq_true (List.mem_map.2 ⟨_, h2, rfl⟩)]
  unfold goodB
  rw [Int.toNat_natCast, Int.toNat_natCast, hn]
  simp
/-- only one place is the first that does not fit, or the last -/
theorem fit_once {m : Syst} {s : Spc} {i i' : Nat} (h : FitsTo m s i) (h' : FitsTo m s i') (hs : (stQ m s i).1.length = i ∨ fitB m s (wtAt (stQ m s i).1 i).x (wtAt (stQ m s i).1 i).y = false) (hs' : (stQ m s i').1.length = i' ∨ fitB m s (wtAt (stQ m s i').1 i').x (wtAt (stQ m s i').1 i').y = false) : i = i' := by
  rcases Nat.lt_trichotomy i i' with e | e | e
  · obtain ⟨h1, h2⟩ := h' i e
    rcases hs with h3 | h3
    · omega
    · rw [h2] at h3; cases h3
  · exact e
  · obtain ⟨h1, h2⟩ := h i' e
    rcases hs' with h3 | h3
    · omega
    · rw [h2] at h3; cases h3
end Go.Proofs.YtgnbkepdbdgkdaaGreatDoor
/- A range over a function whose assignment makes memory (the variable of the round lies in a box of its own): the law of XRange, the state behind the assignment told apart. Nothing here is about a program. -/
namespace Go.Proofs.YtgnbkepdbdgkdaaGreatDoor
open Go.RowKit

theorem range_lawA {α : Type} {P : Program} {g : Operand} {ps : Array Tmp} {assign body : Code} {Q : Exit → Act → World → Prop} {a : Act} {w : World} {gf : Nat} {lb : Array Value}
    (hg : a.eval g = .func (.func gf) #[] lb) (eg : ∀ args w, (callFunc gf args).run P w = .ok (.enter gf args) w)
    {encs : α → Array Value} (hps : ∀ x, (encs x).size = ps.size) {ok : List α → α → Prop} {S : List α → Prop}
    (I : List α → World → Prop) (Ix : Code → List α → World → Prop) (hI : OwnFrom w.heap.size I) (hIx : ∀ c, OwnFrom w.heap.size (Ix c)) (h0 : I [] w)
    (J : List α → α → Act → World → Prop) (hJ : ∀ pre x a1, OwnFrom w.heap.size (fun (_ : Unit) => J pre x a1))
    (hit : IterOf P gf lb encs ok S w.heap.size I Ix)
    (hassign : ∀ (l : Nat) (pre : List α) (x : α) (W : World) (K : Act → World → Prop), I pre W → ok pre x → (∀ a1 W1, Stays w.heap.size W W1 → J pre x a1 W1 → K a1 W1) →
      assign.wpIn (Fence.wide.inRound l) 1 P (Exit.then K (fun _ _ _ => False)) { tmps := (ps.zip (encs x)).foldl (fun t (p, v) => t.setIfInBounds p v) a.tmps, defers := [] } W)
    (hbody : ∀ (l : Nat) (pre : List α) (x : α) (a1 : Act) (W : World), J pre x a1 W → ok pre x → body.wpIn (Fence.wide.inRound l) 1 P (leftPost w.heap.size I Ix (pre ++ [x]) W) a1 W)
    (hdone : ∀ (D : Nat) (xs : List α) (W : World), w.heap.size ≤ D → S xs → I xs W → W.heap[D]? = some (.deferred (some [])) → Q .normal { a with defers := { target := .collected D, args := #[] } :: a.defers } W)
    (hstop : ∀ (D : Nat) (c : Code) (pre : List α) (W : World), w.heap.size ≤ D → Ix c pre W → W.heap[D]? = some (.deferred (some [])) → c.wpIn Fence.wide 3 P Q { a with defers := { target := .collected D, args := #[] } :: a.defers } W) :
    (Code.rangeFunc g ps assign body).wpIn Fence.wide 3 P Q a w := by
  refine wpIn_rangeFunc fun fn hfn => ?_
  let rec_ : LoopState → Option Code → Obj := fun st pe => .loop { state := st, pending := pe, fn, tmps := a.tmps, params := ps, assign, body, defers := w.heap.size }
  let At : LoopState → Option Code → World → Prop := fun st pe W => w.heap.size + 1 < W.heap.size ∧ W.heap[w.heap.size + 1]? = some (rec_ st pe) ∧ W.heap[w.heap.size]? = some (.deferred (some []))
  have stay : ∀ st pe V V', At st pe V → Stays w.heap.size V V' → At st pe V' := fun st pe V V' h hs =>
    ⟨Nat.lt_of_lt_of_le h.1 hs.size, hs.same _ _ (by omega) h.2.1 rfl, hs.same _ _ (Nat.le_refl _) h.2.2 rfl⟩
  have put : ∀ st pe st' pe' V, At st pe V → At st' pe' (V.putObj (w.heap.size + 1) (rec_ st' pe')) := fun st pe st' pe' V h =>
    ⟨by rw [World.putObj_size]; exact h.1, World.putObj_heap_same h.1, (World.putObj_heap_other (by omega)).trans h.2.2⟩
  have own : ∀ {β : Type} {J : β → World → Prop} (s : β) st pe o V, OwnFrom w.heap.size J → J s V → At st pe V → J s (V.putObj (w.heap.size + 1) o) := fun s st pe o V hJ hs h =>
    hJ.putObj o hs (by omega) h.2.1 rfl
  have a1 : At .ready none ((w.alloc (.deferred (some []))).alloc (rec_ .ready none)) := by
    refine ⟨by simp, ?_, ?_⟩
    · have := World.alloc_heap_new (w.alloc (.deferred (some []))) (rec_ .ready none)
      rwa [World.size_alloc] at this
    · exact (Below.heap_alloc _ _ _ (by simp)).trans (World.alloc_heap_new w _)
  obtain ⟨W1, hW1⟩ : ∃ W1, (w.alloc (.deferred (some []))).alloc (rec_ .ready none) = W1 := ⟨_, rfl⟩
  have h1 : I [] W1 := by rw [← hW1]; exact hI.alloc _ (hI.alloc _ h0)
  rw [hW1] at a1
  refine ⟨w.heap.size + 1, [{ target := .collected w.heap.size, args := #[] }], W1, { target := .fn (.func gf) lb, args := #[.func (.yield (w.heap.size + 1)) #[] #[]] }, W1, gf, #[.func (.yield (w.heap.size + 1)) #[] #[]] ++ lb, W1, by rw [← hW1]; exact run_enterLoop_outer _ _ _ _ _, ?_, fun _ _ => trivial, ?_, fun _ => by decide, ?_⟩
  · simp only [resolve, hg]
    simp [go_sem]
  · simp [invoke, go_sem, eg]
  refine (hit (w.heap.size + 1) (At .ready none) (fun c => At .done (some c)) _ (stay _ _) (fun c => stay _ _) ?_ h1 a1).mono ?_
  · -- one round
    intro _ pre x V hi hat hok
    have hy := run_yield (P := P) (args := encs x) hat.2.1 (hps x)
    refine ⟨fn, _, assign, body, hy, roundIn_of_wpIn hfn (hassign _ pre x V _ hi hok fun a2 V1 hs1 hj => ⟨_, run_beginRound (stay _ _ _ _ hat hs1).2.1 rfl, ?_⟩)⟩
    have hat1 := stay _ _ _ _ hat hs1
    have hb := put _ _ .busy none V1 hat1
    refine wpIn_mono (hbody _ pre x a2 _ (own () _ _ (rec_ .busy none) V1 (hJ pre x a2) hj hat1) hok) ?_
    rintro e a3 W3 hp
    cases e with
    | normal =>
      have h3 := stay _ _ _ _ hb hp.1
      exact ⟨_, _, run_endRound (P := P) none h3.2.1, .inl ⟨rfl, own _ _ _ _ _ hI hp.2 h3, put _ _ .ready none _ h3⟩⟩
    | ret =>
      have h3 := stay _ _ _ _ hb hp.1
      exact ⟨_, _, run_endRound (P := P) (some .ret) h3.2.1, .inr ⟨rfl, .ret, own _ _ _ _ _ (hIx _) hp.2 h3, put _ _ .done (some .ret) _ h3⟩⟩
    | exit id =>
      have h3 := stay _ _ _ _ hb hp.1
      exact ⟨_, _, run_endRound (P := P) (some (.exit id)) h3.2.1, .inr ⟨rfl, .exit id, own _ _ _ _ _ (hIx _) hp.2 h3, put _ _ .done (some (.exit id)) _ h3⟩⟩
    | goto t =>
      have h3 := stay _ _ _ _ hb hp.1
      exact ⟨_, _, run_endRound (P := P) (some (.goto t)) h3.2.1, .inr ⟨rfl, .goto t, own _ _ _ _ _ (hIx _) hp.2 h3, put _ _ .done (some (.goto t)) _ h3⟩⟩
    | panic ch => exact hp.elim
    | outgrown => exact hp.elim
  · rintro e V ⟨⟨v, rfl⟩, (⟨xs, s, hS, hi, hat⟩ | ⟨pre, c, hi, hat⟩)⟩
    · exact ⟨none, _, run_endLoop (P := P) hat.2.1 (by simp), hdone _ xs _ (Nat.le_refl _) hS (own _ _ _ _ _ hI hi hat) (put _ _ .exhausted none _ hat).2.2⟩
    · exact ⟨some c, _, run_endLoop (P := P) hat.2.1 (by simp), hstop _ c pre _ (Nat.le_refl _) (own _ _ _ _ _ (hIx c) hi hat) (put _ _ .exhausted (some c) _ hat).2.2⟩
end Go.Proofs.YtgnbkepdbdgkdaaGreatDoor
/- noPairs: the table without marks. -/
namespace Go.Proofs.YtgnbkepdbdgkdaaGreatDoor
open Go.RowKit Pl

theorem made_falses (k : Nat) : (madeCells (Value.bool false).cells (k * 1)).toList = (List.replicate k false).map Value.bool := by
  refine List.ext_getElem (by simp [madeCells]) fun i h1 h2 => ?_
  simp [madeCells, Value.cells, Nat.mod_one]
theorem made_nils (k : Nat) : (madeCells (Value.slice none 0 0).cells (k * 1)).toList = List.replicate k (.slice none 0 0) := by
  refine List.ext_getElem (by simp [madeCells]) fun i h1 h2 => ?_
  simp [madeCells, Value.cells, Nat.mod_one]
theorem set_next (l : List Value) (k x : Nat) (v z : Value) (hl : l.length = x) (hx : x < k) : (l ++ List.replicate (k - x) z).set x v = (l ++ [v]) ++ List.replicate (k - (x + 1)) z := by
  rw [List.set_append_right _ _ (by omega), hl, Nat.sub_self, show k - x = (k - (x + 1)) + 1 by omega, List.replicate_succ, List.set_cons_zero]
  simp
/-- where noPairs stands behind x rows -/
structure NoAt (w W : World) (g k b : Nat) (x : Nat) (bl : List Nat) : Prop where
  len : bl.length = x
  nod : ∀ y z, y < x → z < x → bl.getD y 0 = bl.getD z 0 → y = z
  outer : W.ownsRow w.heap.size 173 1 (.slice (some ⟨g, 0, none⟩) k k) k (bl.map (rowV b) ++ List.replicate (k - x) (.slice none 0 0))
  rows : ∀ y, y < x → W.ownsRow w.heap.size 4 1 (rowV b (bl.getD y 0)) b ((List.replicate b false).map Value.bool)
  below : Below w.heap.size w W
theorem NoAt.next {w W W' : World} {g k b x : Nat} {bl : List Nat} (h : NoAt w W g k b x bl) (hx : x < k) (hrow : W'.ownsRow w.heap.size 4 1 (rowV b W.heap.size) b ((List.replicate b false).map Value.bool)) (hg : W.grownBy W' none) :
    NoAt w (W'.setCell ⟨g, x, none⟩ (rowV b W.heap.size)) g k b (x + 1) (bl ++ [W.heap.size]) := by
  have ho := h.outer.kept hg (.inr (by simp [Value.ownBlock]))
  have hst := ho.stored x (rowV b W.heap.size)
  rw [set_next _ k x _ _ (by rw [List.length_map]; exact h.len) hx] at hst
  have hold : ∀ y, y < x → bl.getD y 0 < W.heap.size := fun y hy => ((h.rows y hy).lt _ rfl).2
  have hgl : ∀ y, y < x → (bl ++ [W.heap.size]).getD y 0 = bl.getD y 0 := fun y hy => by
    rw [List.getD_eq_getElem?_getD, List.getElem?_append_left (by rw [h.len]; exact hy), ← List.getD_eq_getElem?_getD]
  have hgx : (bl ++ [W.heap.size]).getD x 0 = W.heap.size := by
    rw [List.getD_eq_getElem?_getD, List.getElem?_append_right (by rw [h.len]; exact Nat.le_refl _), h.len, Nat.sub_self]; rfl
  refine ⟨by simp [h.len], fun y z hy hz e => ?_, ?_, fun y hy => ?_, ((h.below.grown hg h.below.size (fun q hq => by cases hq))).setCell (p := ⟨g, x, none⟩) (by have := own_ge h.outer g rfl; simpa using this) _⟩
  · by_cases e1 : y < x
    · by_cases e2 : z < x
      · rw [hgl y e1, hgl z e2] at e; exact h.nod y z e1 e2 e
      · obtain rfl : z = x := by omega
        rw [hgl y e1, hgx] at e; have := hold y e1; omega
    · obtain rfl : y = x := by omega
      by_cases e2 : z < y
      · rw [hgl z e2, hgx] at e; have := hold z e2; omega
      · omega
  · rw [List.map_append]; exact hst.1
  · by_cases e1 : y < x
    · rw [hgl y e1]
      exact ((h.rows y e1).kept hg (.inr (by simp [Value.ownBlock, rowV]))).kept hst.2 (own_apart ((h.rows y e1).kept hg (.inr (by simp [Value.ownBlock, rowV]))) ho (by decide))
    · obtain rfl : y = x := by omega
      rw [hgx]
      exact hrow.kept hst.2 (own_apart hrow ho (by decide))

set_option maxRecDepth 100000 in
set_option maxHeartbeats 4000000 in
theorem noPairs_any {w : World} {a : Option Addr} {n c : Nat} {b : Option Addr} {k d : Nat} {a' : Option Addr} {n' c' : Nat} {b' : Option Addr} {k' d' : Nat} {oa : Option Addr} {oc R : Nat} (hk : k ≤ 1000000) (hk' : k' ≤ 1000000) :
    Calls Tryz.prog 62 #[.agg #[.slice a n c, .slice b k d, .slice a' n' c', .slice b' k' d', .slice oa k oc, .slice (some ⟨R, 0, none⟩) k' k']] w fun e w' => ∃ g bl, e = .returned (.slice (some ⟨g, 0, none⟩) k k) ∧ RelAt w' w.heap.size g k k' bl (noF k k') ∧ Below w.heap.size w w' := by
  obtain ⟨i1, hi1, hz10, hz11, hz12⟩ := info_parts infoRowB
  obtain ⟨i2, hi2, hz20, hz21, hz22⟩ := info_parts infoBoolV
  have hb1 := (Below.refl w.heap.size w).alloc (Nat.le_refl _) (.cells #[.slice a n c, .slice b k d, .slice a' n' c', .slice b' k' d', .slice oa k oc, .slice (some ⟨R, 0, none⟩) k' k'] 123)
  have hX := Whole.new w 123 #[.slice a n c, .slice b k d, .slice a' n' c', .slice b' k' d', .slice oa k oc, .slice (some ⟨R, 0, none⟩) k' k']
  have HB1 := Lib.hid hb1
  have HX := Lib.hid hX
  clear hb1 hX
  go_enter Tryz.func62, Tryz.ntmps62
  go_wp2_with (at_make; refine wpList_make_full _ rfl _ _ 127 rfl w.heap.size 173 i1 (.slice none 0 0) 1 Tryz.underlying127 hi1 hz10 hz11 .i64 .i64 k k k rfl rfl rfl rfl (by rw [hz12]; omega) (by unfold maxLen; omega) (by simp) ?_; intro w1 hrow hg1; refine Hid.out ?_)
  refine Lib.hid ?_
  rw [made_nils] at hrow
  simp only [World.size_alloc] at hrow
  have hbw := HB1.out.grown hg1 (by simp) (fun q hq => by cases hq)
  have hN0 : NoAt w w1 (w.heap.size + 1) k k' 0 [] := ⟨rfl, fun y z hy => by omega, by simpa using hrow, fun y hy => by omega, hbw⟩
  have HN0 := Lib.hid hN0
  have HX1 : Hid (Whole w1 w.heap.size 123 #[.slice a n c, .slice b k d, .slice a' n' c', .slice b' k' d', .slice oa k oc, .slice (some ⟨R, 0, none⟩) k' k']) := Lib.hid (HX.out.grown hg1 (by simp))
  obtain ⟨g, HGg⟩ : ∃ g, Hid (w.heap.size + 1 = g) := ⟨_, Lib.hid rfl⟩
  rw [HGg.out] at HN0 ⊢
  clear hrow hg1 hbw hN0
  go_wp2
  go_loopw [4, 12] (fun _ i wr => ∃ (x : Nat) (bl : List Nat), i = .int .i64 x ∧ x ≤ k ∧ Hid (NoAt w wr g k k' x bl) ∧ Hid (Whole wr w.heap.size 123 #[.slice a n c, .slice b k d, .slice a' n' c', .slice b' k' d', .slice oa k oc, .slice (some ⟨R, 0, none⟩) k' k'])) (fun _ i _ => k - (intOf i).toNat)
  case atStart => exact ⟨0, [], rfl, Nat.zero_le _, HN0, HX1⟩
  case round =>
    obtain ⟨x, bl, rfl, hx, hN, hX⟩ := hrel
    have hzr := hN.out.below.size
    have p3 := hX.out.cell 3
    have hXl := hX.out.lt
    simp only [List.getElem?_toArray, List.getElem?_cons_succ, List.getElem?_cons_zero] at p3
    by_cases hlt : x < k
    · have i0 : (0 : Int) ≤ (x : Int) := by omega
      have i1' : (x : Int) < (k : Int) := by omega
      go_wp2_with (at_make; refine wpList_make_full _ rfl _ _ 173 rfl w.heap.size 4 i2 (.bool false) 1 Tryz.underlying173 hi2 hz20 hz21 .i64 .i64 k' k' k' rfl rfl rfl rfl (by rw [hz22]; omega) (by unfold maxLen; omega) hzr ?_; intro w2 hrow hg2; refine Hid.out ?_)
      refine Lib.hid ?_
      rw [made_falses] at hrow
      have hNx := hN.out.next hlt hrow hg2
      have ho := hN.out.outer.kept hg2 (.inr (by simp [Value.ownBlock]))
      have c1 := ho.cellAt x (by omega)
      have c2 := ho.frozenAt x
      rw [List.getElem?_append_right (by rw [List.length_map, hN.out.len]; exact Nat.le_refl _), List.length_map, hN.out.len, Nat.sub_self, List.getElem?_replicate, if_pos (by omega)] at c1
      have HNx := Lib.hid hNx
      have hXx := (hX.out.grown hg2 (by simp)).grown (ho.stored x (rowV k' wr.heap.size)).2 (own_whole ho (hX.out.grown hg2 (by simp)) (by decide))
      have HXx := Lib.hid hXx
      unfold rowV at HNx HXx
      clear hrow hg2 hNx ho hXx p3
      go_wp2
      go_roundw
      case rel => exact ⟨x + 1, _, by go_num, by omega, HNx, HXx⟩
      case measure => simp [intOf]; omega
    · have hxk : x = k := by omega
      subst hxk
      have HF : Hid (RelAt wr w.heap.size g x k' bl (noF x k')) := Lib.hid (by
        have h1 := hN.out
        refine ⟨noF_shp x k', h1.len, h1.nod, ?_, fun y hy => ?_⟩
        · have := h1.outer
          rwa [Nat.sub_self, List.replicate_zero, List.append_nil] at this
        · have := h1.rows y hy
          have e : (noF x k').getD y [] = List.replicate k' false := by simp [noF, List.getD, hy]
          rw [e]; exact this)
      go_wp2
      go_ret
      exact ⟨g, bl, rfl, HF.out, hN.out.below⟩
end Go.Proofs.YtgnbkepdbdgkdaaGreatDoor
