/- A specification in the call's own memory. -/
import Derived.Test.YtpmbijlldoiplaaGreatDoorSpec
import Derived.Test.YtpmbijlldoiplaaGreatDoorOwnKit
namespace Go.Proofs.YtpmbijlldoiplaaGreatDoor
open Go.RowKit Pl

theorem infoState : (Tryz.prog.info? 101).map (fun i => (i.zero, i.size, i.bytes)) = some (some (.agg #[.slice none 0 0, .slice none 0 0]), 2, 48) := by kernel_rfl
theorem numsrc {w : World} {a : Option Addr} {n c : Nat} {l : List Int} (A : IntArg w a n c l) : SrcAt w a (l.map (Value.int .i64)) := fun j u hu => by
  have hj : j < l.length := by simpa using (List.getElem?_eq_some_iff.1 hu).1
  obtain ⟨b, off, rfl, hc⟩ := A.cells j hj
  refine ⟨_, rfl, ?_⟩
  rw [add_plainly, hc, ← hu, List.getElem?_map, List.getElem?_eq_getElem hj]
  simp [List.getD, hj]
theorem numone (l : List Int) : ∀ u ∈ l.map (Value.int .i64), u.oneCell' = true := fun u hu => by
  obtain ⟨x, _, rfl⟩ := List.mem_map.1 hu
  rfl
theorem IntArg.nils {w : World} {a : Option Addr} {n c : Nat} {l : List Int} (A : IntArg w a n c l) : a = none → n = 0 ∧ c = 0 := fun h => by
  have := A.nil h
  have := A.cap
  omega
theorem pair_src (W : World) (u v : Value) (t : TypeId) : SrcAt (W.alloc (.cells #[u, v] t)) (some ⟨W.heap.size, 0, none⟩) [u, v] := fun j x hx => by
  have hj : j < 2 := by simpa using (List.getElem?_eq_some_iff.1 hx).1
  refine ⟨_, rfl, ?_⟩
  rw [add_plainly, (Whole.new W t #[u, v]).cell, ← hx]
  simp
/-- numbers in the call's own memory -/
def NumO (w : World) (base : Nat) (v : Value) (l : List Int) : Prop := w.ownsRow base 3 1 v l.length (l.map (Value.int .i64))
theorem NumO.one {w : World} {base : Nat} {v : Value} {l : List Int} (h : NumO w base v l) : v.oneCell' = true := by
  rcases h.2 with ⟨rfl, _⟩ | ⟨g, cap, cur, rfl, _⟩ <;> rfl
theorem NumO.kept {w w' : World} {base : Nat} {v : Value} {l : List Int} {row : Option Nat} (h : NumO w base v l) (hg : w.grownBy w' row) (hne : v.ownBlock = none ∨ v.ownBlock ≠ row) : NumO w' base v l := World.ownsRow.kept h hg hne
theorem NumO.alloc {w : World} {base : Nat} {v : Value} {l : List Int} (h : NumO w base v l) (o : Obj) : NumO (w.alloc o) base v l := World.ownsRow.alloc h o
theorem NumO.below {w w' : World} {base : Nat} {v : Value} {l : List Int} (h : NumO w base v l) (hb : Below w.heap.size w w') : NumO w' base v l :=
  h.kept (row := Option.none) ⟨hb.os, hb.tape, hb.output, hb.size, fun k hk _ => hb.block k hk⟩ (by cases e : v.ownBlock <;> simp)
theorem NumO.arg {w : World} {base : Nat} {v : Value} {l : List Int} (h : NumO w base v l) (hl : l.length ≤ 17592186044416) (hr : ∀ j, j < l.length → -9223372036854775808 ≤ l.getD j 0 ∧ l.getD j 0 ≤ 9223372036854775807) :
    ∃ a c, v = .slice a l.length c ∧ NumsArg w a l.length c l := by
  rcases h.2 with ⟨rfl, h0⟩ | ⟨g, cap, cur, rfl, hg, hh, hc, hm, hz, ht⟩
  · rw [h0]
    exact ⟨none, 0, rfl, ⟨⟨fun _ => rfl, h0.symm, Nat.le_refl _, by omega, fun j hj => by omega⟩, by omega, hr⟩⟩
  · refine ⟨some ⟨g, 0, none⟩, cap, rfl, ⟨⟨(fun h => by cases h), rfl, hc, by omega, fun j hj => ⟨g, 0, rfl, ?_⟩⟩, hl, hr⟩⟩
    rw [Nat.zero_add, World.ownsRow.cellAt h j (by omega), List.getElem?_map, List.getElem?_eq_getElem hj, List.getD_eq_getElem?_getD, List.getElem?_eq_getElem hj]
    rfl

def rcells (rows : List (Value × Value)) : List Value := rows.flatMap fun r => [r.1, r.2]
theorem rcells_length : ∀ l : List (Value × Value), (rcells l).length = l.length * 2
  | [] => rfl
  | r :: l => by
    have := rcells_length l
    simp only [rcells, List.flatMap_cons, List.length_append, List.length_cons, List.length_nil] at this ⊢
    omega
theorem rcells_at : ∀ (l : List (Value × Value)) (k : Nat) (r : Value × Value), l[k]? = some r → (rcells l)[k * 2]? = some r.1 ∧ (rcells l)[k * 2 + 1]? = some r.2
  | [], _, _, h => by simp at h
  | x :: l, 0, r, h => by
    simp only [List.getElem?_cons_zero, Option.some.injEq] at h
    subst h
    simp [rcells]
  | x :: l, k + 1, r, h => by
    have := rcells_at l k r (by simpa using h)
    have e : rcells (x :: l) = x.1 :: x.2 :: rcells l := rfl
    rw [e, show (k + 1) * 2 = k * 2 + 1 + 1 by omega]
    simpa using this
theorem rcells_snoc (l : List (Value × Value)) (r : Value × Value) : rcells (l ++ [r]) = rcells l ++ [r.1, r.2] := by simp [rcells]
/-- states in the call's own memory -/
def StesOwn (w : World) (base : Nat) (v : Value) (ss : List Ste) : Prop :=
  ∃ rows : List (Value × Value), rows.length = ss.length ∧ w.ownsRow base 101 2 v ss.length (rcells rows) ∧ ∀ i, i < ss.length → ∃ r, rows[i]? = some r ∧ NumO w base r.1 (teAt ss i).1 ∧ NumO w base r.2 (teAt ss i).2
theorem StesOwn.none (w : World) (base : Nat) : StesOwn w base (.slice none 0 0) [] := ⟨[], rfl, World.ownsRow_nil _ _ _ _, fun i hi => by simp at hi⟩
theorem StesOwn.kept {w w' : World} {base : Nat} {v : Value} {ss : List Ste} {row : Option Nat} (h : StesOwn w base v ss) (hg : w.grownBy w' row) (hne : v.ownBlock = Option.none ∨ v.ownBlock ≠ row)
    (hne' : ∀ r l, NumO w base r l → r.ownBlock = Option.none ∨ r.ownBlock ≠ row) : StesOwn w' base v ss := by
  obtain ⟨rows, h1, h2, h3⟩ := h
  refine ⟨rows, h1, h2.kept hg hne, fun i hi => ?_⟩
  obtain ⟨r, h4, h5, h6⟩ := h3 i hi
  exact ⟨r, h4, h5.kept hg (hne' _ _ h5), h6.kept hg (hne' _ _ h6)⟩
theorem StesOwn.below {w w' : World} {base : Nat} {v : Value} {ss : List Ste} (h : StesOwn w base v ss) (hb : Below w.heap.size w w') : StesOwn w' base v ss :=
  h.kept (row := Option.none) ⟨hb.os, hb.tape, hb.output, hb.size, fun k hk _ => hb.block k hk⟩ (by cases e : v.ownBlock <;> simp) (fun r _ _ => by cases e : r.ownBlock <;> simp)
theorem StesOwn.alloc {w : World} {base : Nat} {v : Value} {ss : List Ste} (h : StesOwn w base v ss) (o : Obj) : StesOwn (w.alloc o) base v ss :=
  h.below ((Below.refl _ w).alloc (Nat.le_refl _) o)
theorem teAt_snoc (ss : List Ste) (t : Ste) : teAt (ss ++ [t]) ss.length = t := by simp [teAt, List.getD]
theorem teAt_app (ss ss' : List Ste) (i : Nat) (h : i < ss.length) : teAt (ss ++ ss') i = teAt ss i := by simp [teAt, List.getD, List.getElem?_append_left h]
/-- one state more: what an append of its two values leaves -/
theorem StesOwn.snoc {w w' : World} {base : Nat} {v v' p q : Value} {ss : List Ste} {t : Ste} (h : StesOwn w base v ss) (hp : NumO w base p t.1) (hq : NumO w base q t.2) (hg : w.grownBy w' v.ownBlock)
    (hown : ∀ rows, w.ownsRow base 101 2 v ss.length (rcells rows) → rows.length = ss.length → w'.ownsRow base 101 2 v' (ss.length + 1) (rcells rows ++ [p, q])) : StesOwn w' base v' (ss ++ [t]) := by
  obtain ⟨rows, h1, h2, h3⟩ := h
  have h4 := hown rows h2 h1
  rw [← rcells_snoc rows (p, q)] at h4
  refine ⟨rows ++ [(p, q)], by simp [h1], by simpa using h4, fun i hi => ?_⟩
  rw [List.length_append, List.length_singleton] at hi
  by_cases e : i < ss.length
  · obtain ⟨r', h5, h6, h7⟩ := h3 i e
    exact ⟨r', by rw [List.getElem?_append_left (by omega)]; exact h5, by rw [teAt_app _ _ _ e]; exact h6.kept hg (own_apart h6 h2 (by decide)), by rw [teAt_app _ _ _ e]; exact h7.kept hg (own_apart h7 h2 (by decide))⟩
  · obtain rfl : i = ss.length := by omega
    exact ⟨(p, q), by rw [List.getElem?_append_right (by omega), h1, Nat.sub_self]; rfl, by rw [teAt_snoc]; exact hp.kept hg (own_apart hp h2 (by decide)), by rw [teAt_snoc]; exact hq.kept hg (own_apart hq h2 (by decide))⟩
/-- numbers that an int can be, and not too many -/
def Fits (l : List Int) : Prop := l.length ≤ 17592186044416 ∧ ∀ j, j < l.length → -9223372036854775808 ≤ l.getD j 0 ∧ l.getD j 0 ≤ 9223372036854775807
theorem NumsArg.fits {w : World} {a : Option Addr} {n c : Nat} {l : List Int} (h : NumsArg w a n c l) : Fits l := ⟨by have := h.few; have := h.arg.len; omega, h.rng⟩
theorem StesOwn.arg {w : World} {base : Nat} {v : Value} {ss : List Ste} (h : StesOwn w base v ss) (hl : ∀ i, i < ss.length → Fits (teAt ss i).1 ∧ Fits (teAt ss i).2) : ∃ b d, v = .slice b ss.length d ∧ ss.length ≤ d ∧ (b = Option.none → d = 0) ∧ StesIn w b ss := by
  obtain ⟨rows, h1, h2, h3⟩ := h
  rcases h2.2 with ⟨rfl, h0⟩ | ⟨g, cap, cur, rfl, _, hh, hn, hm, hz, ht⟩
  · have e : ss = [] := List.length_eq_zero_iff.1 h0
    subst e
    exact ⟨Option.none, 0, rfl, Nat.le_refl _, fun _ => rfl, fun i hi => by simp at hi⟩
  · refine ⟨some ⟨g, 0, Option.none⟩, cap, rfl, hn, (fun h => by cases h), fun i hi => ⟨g, 0, rfl, ?_⟩⟩
    obtain ⟨r, h4, h5, h6⟩ := h3 i hi
    obtain ⟨⟨f1, f2⟩, f3, f4⟩ := hl i hi
    obtain ⟨a1, c1, e1, hE1⟩ := h5.arg f1 f2
    obtain ⟨a2, c2, e2, hE2⟩ := h6.arg f3 f4
    obtain ⟨g1, g2⟩ := rcells_at rows i r h4
    rw [e1] at g1
    rw [e2] at g2
    have k1 := h2.cells (g := g) rfl _ _ g1
    have k2 := h2.cells (g := g) rfl _ _ g2
    rw [add_plainly] at k1 k2
    exact ⟨a1, _, c1, a2, _, c2, k1, by rw [Nat.add_assoc]; exact k2, hE1, hE2⟩
/-- a specification in the call's own memory -/
structure SpcOwn (w : World) (base : Nat) (va vs : Value) (s : Spc) : Prop where
  acts : w.ownsRow base 9 1 va s.acts.length (s.acts.map Value.string)
  rows : StesOwn w base vs s.states
theorem SpcOwn.arg {w : World} {base : Nat} {va vs : Value} {s : Spc} (h : SpcOwn w base va vs s) (h1 : s.acts.length ≤ 140737488355328) (h2 : s.states.length ≤ 140737488355328) (h3 : ∀ i, i < s.states.length → Fits (teAt s.states i).1 ∧ Fits (teAt s.states i).2)
    (hs : ∀ k, k < s.acts.length → (at_ s.acts k).size ≤ 9223372036854775807) : ∃ a c b d, va = .slice a s.acts.length c ∧ vs = .slice b s.states.length d ∧ SpecArg w a s.acts.length c b s.states.length d s := by
  obtain ⟨b, d, rfl, hd, hnil, hrows⟩ := h.rows.arg h3
  rcases h.acts.2 with ⟨rfl, h0⟩ | ⟨g, cap, cur, rfl, hg, hh, hc, hm, hz, ht⟩
  · rw [h0]
    exact ⟨Option.none, 0, b, d, rfl, rfl, ⟨⟨fun _ => rfl, h0.symm, Nat.le_refl _, by omega, fun k hk => by omega, fun j hj => by omega⟩, by omega, hnil, rfl, hd, h2, hrows⟩⟩
  · refine ⟨some ⟨g, 0, Option.none⟩, cap, b, d, rfl, rfl, ⟨⟨(fun h => by cases h), rfl, hc, by omega, hs, fun j hj => ⟨g, 0, rfl, ?_⟩⟩, h1, hnil, rfl, hd, h2, hrows⟩⟩
    have h9 := h.acts.cells (g := g) rfl j (.string (s.acts.getD j ByteArray.empty)) (by rw [List.getElem?_map, List.getElem?_eq_getElem hj]; simp [List.getD, hj])
    rw [add_plainly] at h9
    exact h9
end Go.Proofs.YtpmbijlldoiplaaGreatDoor
