/- Texts joined: SOwn, Kp, SatPl, PCheck, StepPl, RNext, PSame. -/
import Derived.Test.YtgnbkepdbdgkdaaGreatDoorJq10
import Derived.Test.YtgnbkepdbdgkdaaGreatDoorJq02
import Derived.Test.YtgnbkepdbdgkdaaGreatDoorJq07
import Derived.Test.YtgnbkepdbdgkdaaGreatDoorJq09
import Derived.Test.YtgnbkepdbdgkdaaGreatDoorJq01
import Derived.Test.YtgnbkepdbdgkdaaGreatDoorJq06
import Derived.Test.YtgnbkepdbdgkdaaGreatDoorJq03
import Derived.Test.YtgnbkepdbdgkdaaGreatDoorJq04
/- A specification in the call's own memory. -/
namespace Go.Proofs.YtgnbkepdbdgkdaaGreatDoor
open Go.RowKit Pl

theorem infoState : (Tryz.prog.info? 119).map (fun i => (i.zero, i.size, i.bytes)) = some (some (.agg #[.slice none 0 0, .slice none 0 0]), 2, 48) := by kernel_rfl
theorem numsrc {w : World} {a : Option Addr} {n c : Nat} {l : List Int} (A : IntArg w a n c l) : SrcAt w a (l.map (Value.int .i64)) := fun j u hu => by
  have hj : j < l.length := by simpa using (List.getElem?_eq_some_iff.1 hu).1
  obtain ⟨b, off, rfl, hc⟩ := A.cells j hj
  refine ⟨_, rfl, ?_⟩
  rw [add_plainly, hc, ← hu, List.getElem?_map, List.getElem?_eq_getElem hj]
  simp [List.getD, hj]
theorem numone (l : List Int) : ∀ u ∈ l.map (Value.int .i64), u.oneCell' = true := fun u hu => by
  obtain ⟨x, _, rfl⟩ := List.mem_map.1 hu
  rfl
theorem IntArg.nils {w : World} {a : Option Addr} {n c : Nat} {l : List Int} (A : IntArg w a n c l) : a = none → n = 0 ∧ c = 0 := fun h => by
  have := A.nil h
  have := A.cap
  omega
theorem pair_src (W : World) (u v : Value) (t : TypeId) : SrcAt (W.alloc (.cells #[u, v] t)) (some ⟨W.heap.size, 0, none⟩) [u, v] := fun j x hx => by
  have hj : j < 2 := by simpa using (List.getElem?_eq_some_iff.1 hx).1
  refine ⟨_, rfl, ?_⟩
  rw [add_plainly, (Whole.new W t #[u, v]).cell, ← hx]
  simp
/-- numbers in the call's own memory -/
def NumO (w : World) (base : Nat) (v : Value) (l : List Int) : Prop := w.ownsRow base 3 1 v l.length (l.map (Value.int .i64))
theorem NumO.one {w : World} {base : Nat} {v : Value} {l : List Int} (h : NumO w base v l) : v.oneCell' = true := by
  rcases h.2 with ⟨rfl, _⟩ | ⟨g, cap, cur, rfl, _⟩ <;> rfl
theorem NumO.kept {w w' : World} {base : Nat} {v : Value} {l : List Int} {row : Option Nat} (h : NumO w base v l) (hg : w.grownBy w' row) (hne : v.ownBlock = none ∨ v.ownBlock ≠ row) : NumO w' base v l := World.ownsRow.kept h hg hne
theorem NumO.alloc {w : World} {base : Nat} {v : Value} {l : List Int} (h : NumO w base v l) (o : Obj) : NumO (w.alloc o) base v l := World.ownsRow.alloc h o
theorem NumO.below {w w' : World} {base : Nat} {v : Value} {l : List Int} (h : NumO w base v l) (hb : Below w.heap.size w w') : NumO w' base v l :=
  h.kept (row := Option.none) ⟨hb.os, hb.tape, hb.output, hb.size, fun k hk _ => hb.block k hk⟩ (by cases e : v.ownBlock <;> simp)
theorem NumO.arg {w : World} {base : Nat} {v : Value} {l : List Int} (h : NumO w base v l) (hl : l.length ≤ 17592186044416) (hr : ∀ j, j < l.length → -9223372036854775808 ≤ l.getD j 0 ∧ l.getD j 0 ≤ 9223372036854775807) :
    ∃ a c, v = .slice a l.length c ∧ NumsArg w a l.length c l := by
  rcases h.2 with ⟨rfl, h0⟩ | ⟨g, cap, cur, rfl, hg, hh, hc, hm, hz, ht⟩
  · rw [h0]
    exact ⟨none, 0, rfl, ⟨⟨fun _ => rfl, h0.symm, Nat.le_refl _, by omega, fun j hj => by omega⟩, by omega, hr⟩⟩
  · refine ⟨some ⟨g, 0, none⟩, cap, rfl, ⟨⟨(fun h => by cases h), rfl, hc, by omega, fun j hj => ⟨g, 0, rfl, ?_⟩⟩, hl, hr⟩⟩
    rw [Nat.zero_add, World.ownsRow.cellAt h j (by omega), List.getElem?_map, List.getElem?_eq_getElem hj, List.getD_eq_getElem?_getD, List.getElem?_eq_getElem hj]
    rfl

def rcells (rows : List (Value × Value)) : List Value := rows.flatMap fun r => [r.1, r.2]
theorem rcells_length : ∀ l : List (Value × Value), (rcells l).length = l.length * 2
  | [] => rfl
  | r :: l => by
    have := rcells_length l
    simp only [rcells, List.flatMap_cons, List.length_append, List.length_cons, List.length_nil] at this ⊢
    omega
theorem rcells_at : ∀ (l : List (Value × Value)) (k : Nat) (r : Value × Value), l[k]? = some r → (rcells l)[k * 2]? = some r.1 ∧ (rcells l)[k * 2 + 1]? = some r.2
  | [], _, _, h => by simp at h
  | x :: l, 0, r, h => by
    simp only [List.getElem?_cons_zero, Option.some.injEq] at h
    subst h
    simp [rcells]
  | x :: l, k + 1, r, h => by
    have := rcells_at l k r (by simpa using h)
    have e : rcells (x :: l) = x.1 :: x.2 :: rcells l := rfl
    rw [e, show (k + 1) * 2 = k * 2 + 1 + 1 by omega]
    simpa using this
theorem rcells_snoc (l : List (Value × Value)) (r : Value × Value) : rcells (l ++ [r]) = rcells l ++ [r.1, r.2] := by simp [rcells]
/-- states in the call's own memory -/
def StesOwn (w : World) (base : Nat) (v : Value) (ss : List Ste) : Prop :=
  ∃ rows : List (Value × Value), rows.length = ss.length ∧ w.ownsRow base 119 2 v ss.length (rcells rows) ∧ ∀ i, i < ss.length → ∃ r, rows[i]? = some r ∧ NumO w base r.1 (teAt ss i).1 ∧ NumO w base r.2 (teAt ss i).2
theorem StesOwn.none (w : World) (base : Nat) : StesOwn w base (.slice none 0 0) [] := ⟨[], rfl, World.ownsRow_nil _ _ _ _, fun i hi => by simp at hi⟩
theorem StesOwn.kept {w w' : World} {base : Nat} {v : Value} {ss : List Ste} {row : Option Nat} (h : StesOwn w base v ss) (hg : w.grownBy w' row) (hne : v.ownBlock = Option.none ∨ v.ownBlock ≠ row)
    (hne' : ∀ r l, NumO w base r l → r.ownBlock = Option.none ∨ r.ownBlock ≠ row) : StesOwn w' base v ss := by
  obtain ⟨rows, h1, h2, h3⟩ := h
  refine ⟨rows, h1, h2.kept hg hne, fun i hi => ?_⟩
  obtain ⟨r, h4, h5, h6⟩ := h3 i hi
  exact ⟨r, h4, h5.kept hg (hne' _ _ h5), h6.kept hg (hne' _ _ h6)⟩
theorem StesOwn.below {w w' : World} {base : Nat} {v : Value} {ss : List Ste} (h : StesOwn w base v ss) (hb : Below w.heap.size w w') : StesOwn w' base v ss :=
  h.kept (row := Option.none) ⟨hb.os, hb.tape, hb.output, hb.size, fun k hk _ => hb.block k hk⟩ (by cases e : v.ownBlock <;> simp) (fun r _ _ => by cases e : r.ownBlock <;> simp)
theorem StesOwn.alloc {w : World} {base : Nat} {v : Value} {ss : List Ste} (h : StesOwn w base v ss) (o : Obj) : StesOwn (w.alloc o) base v ss :=
  h.below ((Below.refl _ w).alloc (Nat.le_refl _) o)
theorem teAt_snoc (ss : List Ste) (t : Ste) : teAt (ss ++ [t]) ss.length = t := by simp [teAt, List.getD]
theorem teAt_app (ss ss' : List Ste) (i : Nat) (h : i < ss.length) : teAt (ss ++ ss') i = teAt ss i := by simp [teAt, List.getD, List.getElem?_append_left h]
/-- one state more: what an append of its two values leaves -/
theorem StesOwn.snoc {w w' : World} {base : Nat} {v v' p q : Value} {ss : List Ste} {t : Ste} (h : StesOwn w base v ss) (hp : NumO w base p t.1) (hq : NumO w base q t.2) (hg : w.grownBy w' v.ownBlock)
    (hown : ∀ rows, w.ownsRow base 119 2 v ss.length (rcells rows) → rows.length = ss.length → w'.ownsRow base 119 2 v' (ss.length + 1) (rcells rows ++ [p, q])) : StesOwn w' base v' (ss ++ [t]) := by
  obtain ⟨rows, h1, h2, h3⟩ := h
  have h4 := hown rows h2 h1
  rw [← rcells_snoc rows (p, q)] at h4
  refine ⟨rows ++ [(p, q)], by simp [h1], by simpa using h4, fun i hi => ?_⟩
  rw [List.length_append, List.length_singleton] at hi
  by_cases e : i < ss.length
  · obtain ⟨r', h5, h6, h7⟩ := h3 i e
    exact ⟨r', by rw [List.getElem?_append_left (by omega)]; exact h5, by rw [teAt_app _ _ _ e]; exact h6.kept hg (own_apart h6 h2 (by decide)), by rw [teAt_app _ _ _ e]; exact h7.kept hg (own_apart h7 h2 (by decide))⟩
  · obtain rfl : i = ss.length := by omega
    exact ⟨(p, q), by rw [List.getElem?_append_right (by omega), h1, Nat.sub_self]; rfl, by rw [teAt_snoc]; exact hp.kept hg (own_apart hp h2 (by decide)), by rw [teAt_snoc]; exact hq.kept hg (own_apart hq h2 (by decide))⟩
/-- numbers that an int can be, and not too many -/
def Fits (l : List Int) : Prop := l.length ≤ 17592186044416 ∧ ∀ j, j < l.length → -9223372036854775808 ≤ l.getD j 0 ∧ l.getD j 0 ≤ 9223372036854775807
theorem NumsArg.fits {w : World} {a : Option Addr} {n c : Nat} {l : List Int} (h : NumsArg w a n c l) : Fits l := ⟨by have := h.few; have := h.arg.len; omega, h.rng⟩
theorem StesOwn.arg {w : World} {base : Nat} {v : Value} {ss : List Ste} (h : StesOwn w base v ss) (hl : ∀ i, i < ss.length → Fits (teAt ss i).1 ∧ Fits (teAt ss i).2) : ∃ b d, v = .slice b ss.length d ∧ ss.length ≤ d ∧ (b = Option.none → d = 0) ∧ StesIn w b ss := by
  obtain ⟨rows, h1, h2, h3⟩ := h
  rcases h2.2 with ⟨rfl, h0⟩ | ⟨g, cap, cur, rfl, _, hh, hn, hm, hz, ht⟩
  · have e : ss = [] := List.length_eq_zero_iff.1 h0
    subst e
    exact ⟨Option.none, 0, rfl, Nat.le_refl _, fun _ => rfl, fun i hi => by simp at hi⟩
  · refine ⟨some ⟨g, 0, Option.none⟩, cap, rfl, hn, (fun h => by cases h), fun i hi => ⟨g, 0, rfl, ?_⟩⟩
    obtain ⟨r, h4, h5, h6⟩ := h3 i hi
    obtain ⟨⟨f1, f2⟩, f3, f4⟩ := hl i hi
    obtain ⟨a1, c1, e1, hE1⟩ := h5.arg f1 f2
    obtain ⟨a2, c2, e2, hE2⟩ := h6.arg f3 f4
    obtain ⟨g1, g2⟩ := rcells_at rows i r h4
    rw [e1] at g1
    rw [e2] at g2
    have k1 := h2.cells (g := g) rfl _ _ g1
    have k2 := h2.cells (g := g) rfl _ _ g2
    rw [add_plainly] at k1 k2
    exact ⟨a1, _, c1, a2, _, c2, k1, by rw [Nat.add_assoc]; exact k2, hE1, hE2⟩
/-- a specification in the call's own memory -/
structure SpcOwn (w : World) (base : Nat) (va vs : Value) (s : Spc) : Prop where
  acts : w.ownsRow base 9 1 va s.acts.length (s.acts.map Value.string)
  rows : StesOwn w base vs s.states
theorem SpcOwn.arg {w : World} {base : Nat} {va vs : Value} {s : Spc} (h : SpcOwn w base va vs s) (h1 : s.acts.length ≤ 140737488355328) (h2 : s.states.length ≤ 140737488355328) (h3 : ∀ i, i < s.states.length → Fits (teAt s.states i).1 ∧ Fits (teAt s.states i).2)
    (hs : ∀ k, k < s.acts.length → (at_ s.acts k).size ≤ 9223372036854775807) : ∃ a c b d, va = .slice a s.acts.length c ∧ vs = .slice b s.states.length d ∧ SpecArg w a s.acts.length c b s.states.length d s := by
  obtain ⟨b, d, rfl, hd, hnil, hrows⟩ := h.rows.arg h3
  rcases h.acts.2 with ⟨rfl, h0⟩ | ⟨g, cap, cur, rfl, hg, hh, hc, hm, hz, ht⟩
  · rw [h0]
    exact ⟨Option.none, 0, b, d, rfl, rfl, ⟨⟨fun _ => rfl, h0.symm, Nat.le_refl _, by omega, fun k hk => by omega, fun j hj => by omega⟩, by omega, hnil, rfl, hd, h2, hrows⟩⟩
  · refine ⟨some ⟨g, 0, Option.none⟩, cap, b, d, rfl, rfl, ⟨⟨(fun h => by cases h), rfl, hc, by omega, hs, fun j hj => ⟨g, 0, rfl, ?_⟩⟩, h1, hnil, rfl, hd, h2, hrows⟩⟩
    have h9 := h.acts.cells (g := g) rfl j (.string (s.acts.getD j ByteArray.empty)) (by rw [List.getElem?_map, List.getElem?_eq_getElem hj]; simp [List.getD, hj])
    rw [add_plainly] at h9
    exact h9
end Go.Proofs.YtgnbkepdbdgkdaaGreatDoor
/- What stands of a memory of which some blocks are written; maps beside rows and structures. -/
namespace Go.Proofs.YtgnbkepdbdgkdaaGreatDoor
open Go.RowKit Pl

theorem map_grown {w : World} {r : Nat} {o : Obj} : w.grownBy { w with heap := w.heap.setIfInBounds r o } (some r) :=
  ⟨rfl, rfl, rfl, by simp, fun k _ hne => by
    show (w.heap.setIfInBounds r o)[k]? = w.heap[k]?
    rw [Array.getElem?_setIfInBounds, if_neg (fun e => hne (by rw [e]))]⟩
theorem tab_whole {W : World} {M g : Nat} {es : Array MapEntry} {c : Nat} {t : TypeId} {cs : Array Value} (h : W.heap[M]? = some (.map es c)) (hw : Whole W g t cs) : g ≠ M := fun e => by
  subst e
  have h9 : W.heap[g]? = _ := hw
  rw [h] at h9
  cases h9
theorem tab_own {W : World} {M base : Nat} {es : Array MapEntry} {c : Nat} {e : TypeId} {size n : Nat} {v : Value} {xs : List Value} (h : W.heap[M]? = some (.map es c)) (hO : W.ownsRow base e size v n xs) : some M ≠ v.ownBlock := by
  rcases hO.2 with ⟨rfl, _⟩ | ⟨g, cap, cur, rfl, _, hh, _⟩
  · simp [Value.ownBlock]
  · intro e9
    simp only [Value.ownBlock, Option.some.injEq] at e9
    subst e9
    rw [h] at hh
    cases hh
theorem tab_kept {W W' : World} {M : Nat} {es : Array MapEntry} {c : Nat} {row : Option Nat} (h : W.heap[M]? = some (.map es c)) (hg : W.grownBy W' row) (hr : some M ≠ row) : W'.heap[M]? = some (.map es c) :=
  (hg.block M (Array.getElem?_eq_some_iff.1 h).1 hr).trans h

/-- all but some blocks stand -/
structure Kp (W W' : World) (S : Nat → Prop) : Prop where
  os : W'.os = W.os
  tape : W'.tape = W.tape
  output : W'.output = W.output
  size : W.heap.size ≤ W'.heap.size
  block : ∀ k, k < W.heap.size → ¬ S k → W'.heap[k]? = W.heap[k]?
section
variable {W W1 W' : World} {S S' : Nat → Prop}
theorem Kp.refl (W : World) (S : Nat → Prop) : Kp W W S := ⟨rfl, rfl, rfl, Nat.le_refl _, fun _ _ _ => rfl⟩
theorem Kp.trans (h : Kp W W1 S) (h' : Kp W1 W' S') (hs : ∀ k, k < W.heap.size → S' k → S k) : Kp W W' S :=
  ⟨h'.os.trans h.os, h'.tape.trans h.tape, h'.output.trans h.output, Nat.le_trans h.size h'.size, fun k hk hn => (h'.block k (Nat.lt_of_lt_of_le hk h.size) (fun h9 => hn (hs k hk h9))).trans (h.block k hk hn)⟩
theorem Kp.mono (h : Kp W W' S) (hs : ∀ k, k < W.heap.size → S k → S' k) : Kp W W' S' := ⟨h.os, h.tape, h.output, h.size, fun k hk hn => h.block k hk (fun h9 => hn (hs k hk h9))⟩
theorem Kp.of_grown {row : Option Nat} (h : W.grownBy W' row) : Kp W W' (fun k => some k = row) := ⟨h.os, h.tape, h.output, h.size, fun k hk hn => h.block k hk hn⟩
theorem Kp.of_below (h : Below W.heap.size W W') (S : Nat → Prop) : Kp W W' S := ⟨h.os, h.tape, h.output, h.size, fun k hk _ => h.block k hk⟩
theorem Kp.below (h : Kp W W' S) {B : Nat} (hB : B ≤ W.heap.size) (hs : ∀ k, S k → B ≤ k) : Below B W W' :=
  ⟨h.os, h.tape, h.output, h.size, fun k hk => h.block k (Nat.lt_of_lt_of_le hk hB) (fun h9 => by have := hs k h9; omega)⟩
theorem Kp.own (h : Kp W W' S) {base : Nat} {e : TypeId} {size n : Nat} {v : Value} {xs : List Value} (hO : W.ownsRow base e size v n xs) (hS : ∀ q, v.ownBlock = some q → ¬ S q) : W'.ownsRow base e size v n xs :=
  ⟨hO.1, by
    rcases hO.2 with q | ⟨g, cap, cur, rfl, hb, hh, hr⟩
    · exact .inl q
    · exact .inr ⟨g, cap, cur, rfl, hb, (h.block g (Array.getElem?_eq_some_iff.1 hh).1 (hS g rfl)).trans hh, hr⟩⟩
theorem Kp.whole (h : Kp W W' S) {g : Nat} {t : TypeId} {cs : Array Value} (hw : Whole W g t cs) (hS : ¬ S g) : Whole W' g t cs := (h.block g hw.lt hS).trans hw
end
theorem whole_ne {W : World} {g g' : Nat} {t t' : TypeId} {cs cs' : Array Value} (h : Whole W g t cs) (h' : Whole W g' t' cs') (hne : t ≠ t') : g ≠ g' := fun e => by
  subst e
  have h1 : W.heap[g]? = _ := h
  have h2 : W.heap[g]? = _ := h'
  rw [h1] at h2
  injection h2 with h2
  injection h2 with _ h3
  exact hne h3
end Go.Proofs.YtgnbkepdbdgkdaaGreatDoor
/- Plain facts: how a system is held against a specification, pair by pair; nothing here is about a program. -/
namespace Go.Proofs.YtgnbkepdbdgkdaaGreatDoor.Pl
open Go Go.Lib

/-- the set that edges offer -/
def offS (l : List Edg) : Nat := l.foldl (fun s e => s ||| 2 ^ e.1.toNat) 0

/-! ### tables of marks -/
abbrev Mat := List (List Bool)
def getF (F : Mat) (x y : Nat) : Bool := (F.getD x []).getD y false
def setF (F : Mat) (x y : Nat) : Mat := F.set x ((F.getD x []).set y true)
def Shp (F : Mat) (a b : Nat) : Prop := F.length = a ∧ ∀ x, x < a → (F.getD x []).length = b
def noF (a b : Nat) : Mat := List.replicate a (List.replicate b false)
theorem noF_shp (a b : Nat) : Shp (noF a b) a b := ⟨by simp [noF], fun x hx => by simp [noF, List.getD, hx]⟩
theorem noF_get (a b x y : Nat) : getF (noF a b) x y = false := by
  unfold getF noF
  by_cases hx : x < a
  · by_cases hy : y < b
    · simp [List.getD, hx, hy]
    · simp [List.getD, hx, hy]
  · simp [List.getD, hx]
theorem setF_shp {F : Mat} {a b : Nat} (h : Shp F a b) (x y : Nat) : Shp (setF F x y) a b := by
  refine ⟨by simp [setF, h.1], fun z hz => ?_⟩
  unfold setF
  rw [List.getD_eq_getElem?_getD, List.getElem?_set]
  by_cases e : x = z
  · subst e
    rw [if_pos rfl, if_pos (by rw [h.1]; exact hz)]
    simpa using h.2 x hz
  · rw [if_neg e, ← List.getD_eq_getElem?_getD]
    exact h.2 z hz
theorem setF_get {F : Mat} {a b : Nat} (h : Shp F a b) {x y : Nat} (hx : x < a) (hy : y < b) (u v : Nat) : getF (setF F x y) u v = (getF F u v || (decide (u = x) && decide (v = y))) := by
  unfold getF setF
  by_cases e : x = u
  · subst e
    have h1 : (F.set x ((F.getD x []).set y true)).getD x [] = (F.getD x []).set y true := by
      rw [List.getD_eq_getElem?_getD, List.getElem?_set, if_pos rfl, if_pos (by rw [h.1]; exact hx)]; rfl
    rw [h1, List.getD_eq_getElem?_getD, List.getElem?_set]
    by_cases e2 : y = v
    · subst e2
      rw [if_pos rfl, if_pos (by rw [h.2 x hx]; exact hy)]
      simp
    · rw [if_neg e2, ← List.getD_eq_getElem?_getD]
      have : decide (v = y) = false := decide_eq_false (fun e => e2 e.symm)
      simp [this]
  · have h1 : (F.set x ((F.getD x []).set y true)).getD u [] = F.getD u [] := by
      rw [List.getD_eq_getElem?_getD, List.getElem?_set, if_neg e, ← List.getD_eq_getElem?_getD]
    rw [h1]
    have : decide (u = x) = false := decide_eq_false (fun e2 => e e2.symm)
    simp [this]
def cntR (r : List Bool) : Nat := r.countP id
def cntF (F : Mat) : Nat := (F.map cntR).sum
theorem cntR_set : ∀ (r : List Bool) (y : Nat), y < r.length → r.getD y false = false → cntR (r.set y true) = cntR r + 1
  | [], _, h, _ => by simp at h
  | b :: r, 0, _, h => by
    have : b = false := by simpa using h
    subst this
    simp [cntR]
  | b :: r, y + 1, h, h2 => by
    have ih := cntR_set r y (by simpa using h) (by simpa using h2)
    unfold cntR at ih ⊢
    rw [List.set_cons_succ, List.countP_cons, List.countP_cons, ih]
    omega
theorem cntF_upd : ∀ (F : Mat) (x : Nat) (r : List Bool), x < F.length → cntR r = cntR (F.getD x []) + 1 → cntF (F.set x r) = cntF F + 1
  | [], _, _, h, _ => by simp at h
  | q :: F, 0, r, _, h => by
    have : cntR r = cntR q + 1 := by simpa using h
    simp [cntF, this]; omega
  | q :: F, x + 1, r, h, h2 => by
    have ih := cntF_upd F x r (by simpa using h) (by simpa using h2)
    unfold cntF at ih ⊢
    rw [List.set_cons_succ, List.map_cons, List.map_cons, List.sum_cons, List.sum_cons, ih]
    omega
theorem cntF_set {F : Mat} {a b x y : Nat} (h : Shp F a b) (hx : x < a) (hy : y < b) (hg : getF F x y = false) : cntF (setF F x y) = cntF F + 1 :=
  cntF_upd F x _ (by rw [h.1]; exact hx) (cntR_set _ y (by rw [h.2 x hx]; exact hy) hg)
theorem cntF_le {F : Mat} : ∀ {a b : Nat}, Shp F a b → cntF F ≤ a * b := by
  induction F with
  | nil => intro a b h; simp [cntF]
  | cons r F ih =>
    intro a b h
    have h1 := h.1
    obtain ⟨a', rfl⟩ : ∃ a', a = a' + 1 := ⟨F.length, by simpa using h1.symm⟩
    have h2 := ih (a := a') (b := b) ⟨by simpa using h1, fun x hx => by simpa using h.2 (x + 1) (by omega)⟩
    have h3 : cntR r ≤ b := by
      have := h.2 0 (by omega)
      have e : r.length = b := by simpa using this
      rw [← e]
      exact List.countP_le_length
    unfold cntF at h2 ⊢
    rw [List.map_cons, List.sum_cons, Nat.succ_mul]
    omega
theorem cntF_no (a b : Nat) : cntF (noF a b) = 0 := by
  unfold cntF noF
  rw [List.map_replicate]
  have : cntR (List.replicate b false) = 0 := by simp [cntR]
  rw [this]
  simp
/-- the marked pairs in order -/
def rowF (r : List Bool) : List Nat := (List.range r.length).filter fun y => r.getD y false
def allF (F : Mat) : List (Nat × Nat) := (List.range F.length).flatMap fun x => (rowF (F.getD x [])).map fun y => (x, y)

/-! ### the queue -/
/-- a pair that waits: the place before it, the action that led to it, its two states -/
structure Wt where
  before : Nat
  last : Int
  x : Nat
  y : Nat
instance : Inhabited Wt := ⟨⟨0, 0, 0, 0⟩⟩
def wtAt (Q : List Wt) (i : Nat) : Wt := Q.getD i ⟨0, 0, 0, 0⟩
/-- where an action leads from a state of the specification -/
def nextY (s : Spc) (y : Nat) (a : Int) : Nat := ((teAt s.states y).2.getD a.toNat 0).toNat
def addQ (s : Spc) (i y : Nat) (q : List Wt × Mat) (e : Edg) : List Wt × Mat :=
  if getF q.2 e.2.toNat (nextY s y e.1) = true then q else (q.1 ++ [⟨i, e.1, e.2.toNat, nextY s y e.1⟩], setF q.2 e.2.toNat (nextY s y e.1))
/-- behind the first j edges of the pair at place i -/
def inQ (m : Syst) (s : Spc) (i : Nat) (q : List Wt × Mat) (j : Nat) : List Wt × Mat := ((stAt m.states (wtAt q.1 i).x).take j).foldl (addQ s i (wtAt q.1 i).y) q
def stQ (m : Syst) (s : Spc) : Nat → List Wt × Mat
  | 0 => ([⟨0, 0, 0, 0⟩], setF (noF m.states.length s.states.length) 0 0)
  | i + 1 => inQ m s i (stQ m s i) (stAt m.states (wtAt (stQ m s i).1 i).x).length
/-- what a state of the system offers is accepted -/
def fitB (m : Syst) (s : Spc) (x y : Nat) : Bool := decide ((offS (stAt m.states x) : Int) ∈ (teAt s.states y).1)
/-- the first i places fit -/
def FitsTo (m : Syst) (s : Spc) (i : Nat) : Prop := ∀ k, k < i → k < (stQ m s k).1.length ∧ fitB m s (wtAt (stQ m s k).1 k).x (wtAt (stQ m s k).1 k).y = true
theorem inQ_zero (m : Syst) (s : Spc) (i : Nat) (q : List Wt × Mat) : inQ m s i q 0 = q := by simp [inQ]
theorem inQ_next (m : Syst) (s : Spc) (i : Nat) (q : List Wt × Mat) (j : Nat) (h : j < (stAt m.states (wtAt q.1 i).x).length) :
    inQ m s i q (j + 1) = addQ s i (wtAt q.1 i).y (inQ m s i q j) (edAt (stAt m.states (wtAt q.1 i).x) j) := by
  unfold inQ
  rw [take_next _ j (0, 0) h, List.foldl_append]
  rfl
/-- what holds of the queue and of the marks -/
structure OkQ (m : Syst) (s : Spc) (q : List Wt × Mat) : Prop where
  shp : Shp q.2 m.states.length s.states.length
  rng : ∀ k, k < q.1.length → (wtAt q.1 k).x < m.states.length ∧ (wtAt q.1 k).y < s.states.length
  cnt : cntF q.2 = q.1.length
  bef : ∀ k, k < q.1.length → 0 < k → (wtAt q.1 k).before < k
theorem wtAt_app {Q R : List Wt} {k : Nat} (h : k < Q.length) : wtAt (Q ++ R) k = wtAt Q k := by simp [wtAt, List.getD, List.getElem?_append_left h]
theorem wtAt_snoc (Q : List Wt) (t : Wt) : wtAt (Q ++ [t]) Q.length = t := by simp [wtAt, List.getD]
theorem OkQ.add {m : Syst} {s : Spc} {q : List Wt × Mat} (h : OkQ m s q) {i y : Nat} {e : Edg} (hi : i < q.1.length) (h1 : e.2.toNat < m.states.length) (h2 : nextY s y e.1 < s.states.length) : OkQ m s (addQ s i y q e) := by
  unfold addQ
  split
  · exact h
  · rename_i hg
    have hg : getF q.2 e.2.toNat (nextY s y e.1) = false := by simpa using hg
    refine ⟨setF_shp h.shp _ _, fun k hk => ?_, ?_, fun k hk h0 => ?_⟩
    · simp only [List.length_append, List.length_singleton] at hk
      by_cases e2 : k < q.1.length
      · rw [wtAt_app e2]; exact h.rng k e2
      · obtain rfl : k = q.1.length := by omega
        rw [wtAt_snoc]; exact ⟨h1, h2⟩
    · rw [cntF_set h.shp h1 h2 hg, h.cnt]; simp
    · simp only [List.length_append, List.length_singleton] at hk
      by_cases e2 : k < q.1.length
      · rw [wtAt_app e2]; exact h.bef k e2 h0
      · obtain rfl : k = q.1.length := by omega
        rw [wtAt_snoc]; exact hi
theorem addQ_len (s : Spc) (i y : Nat) (q : List Wt × Mat) (e : Edg) : q.1.length ≤ (addQ s i y q e).1.length := by
  unfold addQ
  split
  · exact Nat.le_refl _
  · simp
theorem addQ_at (s : Spc) (i y : Nat) (q : List Wt × Mat) (e : Edg) {k : Nat} (h : k < q.1.length) : wtAt (addQ s i y q e).1 k = wtAt q.1 k := by
  unfold addQ
  split
  · rfl
  · exact wtAt_app h
theorem OkQ.zero {m : Syst} {s : Spc} (hm : 1 ≤ m.states.length) (hs : 1 ≤ s.states.length) : OkQ m s (stQ m s 0) := by
  have h := noF_shp m.states.length s.states.length
  refine ⟨setF_shp h 0 0, fun k hk => ?_, ?_, fun k hk h0 => ?_⟩
  · have hk' : k < 1 := hk
    obtain rfl : k = 0 := by omega
    exact ⟨hm, hs⟩
  · show cntF (setF (noF m.states.length s.states.length) 0 0) = 1
    rw [cntF_set h (by omega) (by omega) (noF_get _ _ _ _), cntF_no]
  · have hk' : k < 1 := hk
    omega
theorem OkQ.few {m : Syst} {s : Spc} {q : List Wt × Mat} (h : OkQ m s q) : q.1.length ≤ m.states.length * s.states.length := by
  rw [← h.cnt]; exact cntF_le h.shp

theorem offS_bit (a : Nat) : ∀ (l : List Edg) (s : Nat), (l.foldl (fun s e => s ||| 2 ^ e.1.toNat) s).testBit a = (s.testBit a || l.any fun e => decide (e.1.toNat = a))
  | [], s => by simp
  | e :: l, s => by
    rw [List.foldl_cons, offS_bit a l, Nat.testBit_or, Nat.testBit_two_pow, List.any_cons, Bool.or_assoc]
theorem edAt_mem {l : List Edg} {k : Nat} (h : k < l.length) : edAt l k ∈ l := by
  unfold edAt
  rw [List.getD_eq_getElem?_getD, List.getElem?_eq_getElem h]
  exact List.getElem_mem h
theorem edge_ok {m : Syst} (hm : sysB m = true) {x k : Nat} (hx : x < m.states.length) (hk : k < (stAt m.states x).length) :
    0 ≤ (edAt (stAt m.states x) k).1 ∧ (edAt (stAt m.states x) k).1 < m.acts.length ∧ 0 ≤ (edAt (stAt m.states x) k).2 ∧ (edAt (stAt m.states x) k).2 < m.states.length := by
  have h := (edgesB_iff _ _ _).1 (((sysB_iff m).1 hm).2.2.2.1 x hx) k hk
  unfold edgeB at h
  rw [Bool.and_eq_true, okE_iff] at h
  exact h.1
/-- where an edge leads from a pair that fits -/
theorem fit_next {m : Syst} {s : Spc} (hm : sysB m = true) (hs : spcB s = true) {x y : Nat} (hx : x < m.states.length) (hy : y < s.states.length) (hf : fitB m s x y = true) {k : Nat} (hk : k < (stAt m.states x).length) :
    (edAt (stAt m.states x) k).1.toNat < (teAt s.states y).2.length ∧ 0 ≤ (teAt s.states y).2.getD (edAt (stAt m.states x) k).1.toNat 0 ∧ (teAt s.states y).2.getD (edAt (stAt m.states x) k).1.toNat 0 < s.states.length := by
  obtain ⟨h1, h2, h3, h4⟩ := edge_ok hm hx hk
  have h8 := ((actsB_iff m.acts).1 ((sysB_iff m).1 hm).1).1
  have hst := ((spcB_iff s).1 hs).2.2.2 y hy
  unfold steB at hst
  rw [Bool.and_eq_true, nextB_iff, accB_iff] at hst
  obtain ⟨⟨g1, g2⟩, g3⟩ := hst
  unfold fitB at hf
  rw [decide_eq_true_eq] at hf
  obtain ⟨i, hi, e⟩ := List.getElem_of_mem hf
  have g4 := (g3 i hi).1
  rw [List.getD_eq_getElem?_getD, List.getElem?_eq_getElem hi, Option.getD_some, e, okSet_iff, Int.toNat_natCast] at g4
  have hb : (offS (stAt m.states x)).testBit (edAt (stAt m.states x) k).1.toNat = true := by
    unfold offS
    rw [offS_bit, Bool.or_eq_true]
    exact .inr (List.any_eq_true.2 ⟨_, edAt_mem hk, by simp⟩)
  have g5 := g4.2 _ (by omega) hb
  unfold leadP at g5
  rw [Bool.and_eq_true, decide_eq_true_eq, decide_eq_true_eq] at g5
  have g6 := (okNext_iff _ _).1 (g2 _ g5.1)
  exact ⟨g5.1, by omega, g6.2⟩
theorem offS_lt {l : List Edg} (h : ∀ k, k < l.length → 0 ≤ (edAt l k).1 ∧ (edAt l k).1 < 8) : offS l < 256 := by
  refine Nat.lt_pow_two_of_testBit (n := 8) _ (fun i hi => ?_)
  unfold offS
  rw [offS_bit]
  simp only [Nat.zero_testBit, Bool.false_or]
  rw [Bool.eq_false_iff]
  intro hc
  obtain ⟨e, he, h2⟩ := List.any_eq_true.1 hc
  obtain ⟨k, hk, rfl⟩ := List.getElem_of_mem he
  have h3 := h k hk
  have e2 : edAt l k = l[k] := by simp [edAt, List.getD, hk]
  rw [e2] at h3
  rw [decide_eq_true_eq] at h2
  omega
end Go.Proofs.YtgnbkepdbdgkdaaGreatDoor.Pl
/- spec.Check. -/
namespace Go.Proofs.YtgnbkepdbdgkdaaGreatDoor
open Go.RowKit Pl

def chkS (s : Spc) : Int := if spcB s = true then 0 else 30
theorem chkS_yes {s : Spc} (h : spcB s = true) : chkS s = 0 := if_pos h
theorem chkS_no {s : Spc} (h : spcB s = false) : chkS s = 30 := by unfold chkS; rw [h]; rfl
theorem steB_next {na ns : Nat} {t : Ste} (h : nextB na ns t.2 = false) : steB na ns t = false := by simp [steB, h]
theorem steB_acc {na ns : Nat} {t : Ste} (h : accB t.1 t.2 = false) : steB na ns t = false := by simp [steB, h]
set_option maxHeartbeats 2000000 in
theorem PCheck_any {w : World} {a : Option Addr} {n c : Nat} {b : Option Addr} {k d : Nat} {s : Spc} {e0 e1 e2 : Addr} (E : Errs w e0 e1 e2) (A : SpecArg w a n c b k d s) :
    Calls Tryz.prog 31 #[.agg #[.slice a n c, .slice b k d]] w fun e w' => e = .returned (.int .i64 (chkS s)) ∧ Below w.heap.size w w' := by
  have hB := (Below.refl w.heap.size w).alloc (Nat.le_refl _) (.cells #[.slice a n c, .slice b k d] 52)
  have HC := Lib.hid (Check_any (E.below hB) (A.acts.below hB))
  have HA := Lib.hid A
  have h1 : n ≤ 140737488355328 := A.abig
  have h2 : k ≤ 140737488355328 := A.big
  have HBB := Lib.hid hB
  clear A hB E
  cases ha : actsB s.acts
  · have HV := Lib.hid (chkS_no (spcB_acts ha))
    rw [ha] at HC
    clear ha
    go_enter Tryz.func31, Tryz.ntmps31
    go_wp2_with fail
    refine HC.out.mono ?_
    rintro e w' ⟨rfl, rfl⟩
    go_wp2
    go_ret
    exact ⟨by rw [HV.out]; rfl, HBB.out⟩
  · rw [ha] at HC
    have HAC := Lib.hid ha
    have h8 := ((actsB_iff s.acts).1 ha).1
    clear ha
    by_cases hk : 1 ≤ k ∧ k ≤ 500
    · obtain ⟨hk1, hk2⟩ := hk
      go_enter Tryz.func31, Tryz.ntmps31
      go_wp2_with fail
      refine HC.out.mono ?_
      rintro e w' ⟨rfl, rfl⟩
      go_wp2
      go_loopw [4, 24] (fun _ i wr => ∃ j : Nat, j ≤ k ∧ i = .int .i64 j ∧ Hid (∀ x, x < j → steB s.acts.length s.states.length (teAt s.states x) = true) ∧ Below (w.heap.size + 1) (w.alloc (.cells #[.slice a n c, .slice b k d] 52)) wr) (fun _ i _ => k - (intOf i).toNat)
      case atStart => exact ⟨0, Nat.zero_le _, rfl, Lib.hid fun x hx => by omega, Below.refl _ _⟩
      case round =>
        obtain ⟨j, hj, rfl, ht, hb⟩ := hrel
        have q0 : wr.cell? ⟨w.heap.size, 0, none⟩ = some (.slice a n c) := by rw [hb.cell (by simp)]; simp
        have q1 : wr.cell? ⟨w.heap.size, 1, none⟩ = some (.slice b k d) := by rw [hb.cell (by simp)]; simp
        have q2 : w.heap.size < wr.heap.size := lt_of_cell q0
        have HBr := Lib.hid hb
        have HBw := Lib.hid (HBB.out.trans (hb.mono (by omega)))
        clear hb
        by_cases hlt : j < k
        · obtain ⟨bb, off, rfl, a1, n1, c1, a2, n2, c2, d1, d2, hN1, hN2⟩ := (HA.out.rows.below HBw.out) j (by have := HA.out.len; omega)
          have hbl : Below wr.heap.size wr (wr.alloc (.cells #[.slice a1 n1 c1, .slice a2 n2 c2] 119)) := (Below.refl _ wr).alloc (Nat.le_refl _) _
          have HX := Lib.hid (isNext_any n k (by omega) (by omega) (hN2.arg.below hbl))
          have HY := fun h8 => isAccept_any (hN1.below hbl) (hN2.arg.below hbl) h8
          have HBe := Lib.hid (HBr.out.alloc (Nat.le_trans (by simp) HBr.out.size) (.cells #[.slice a1 n1 c1, .slice a2 n2 c2] 119))
          have HBf := Lib.hid (HBw.out.alloc HBw.out.size (.cells #[.slice a1 n1 c1, .slice a2 n2 c2] 119))
          clear hN1 hN2 hbl
          cases hnx : nextB n k (teAt s.states j).2
          · have HV := Lib.hid (chkS_no (s := s) (spcB_ste j (by have := HA.out.len; omega) (steB_next (by rw [← HA.out.len, ← HA.out.acts.len]; exact hnx))))
            rw [hnx] at HX
            clear hnx
            go_wp2_with fail
            refine HX.out.mono ?_
            rintro e w' ⟨rfl, rfl⟩
            go_wp2
            go_ret
            exact ⟨by rw [HV.out]; rfl, HBf.out⟩
          · have hlen := ((nextB_iff _ _ _).1 hnx).1
            have HY := Lib.hid (HY (by have := HA.out.acts.len; omega))
            rw [hnx] at HX
            cases hac : accB (teAt s.states j).1 (teAt s.states j).2
            · have HV := Lib.hid (chkS_no (s := s) (spcB_ste j (by have := HA.out.len; omega) (steB_acc hac)))
              rw [hac] at HY
              clear hnx hac hlen
              go_wp2_with fail
              refine HX.out.mono ?_
              rintro e w' ⟨rfl, rfl⟩
              go_wp2_with fail
              refine HY.out.mono ?_
              rintro e w' ⟨rfl, rfl⟩
              go_wp2
              go_ret
              exact ⟨by rw [HV.out]; rfl, HBf.out⟩
            · have HG : Hid (∀ x, x < j + 1 → steB s.acts.length s.states.length (teAt s.states x) = true) := Lib.hid fun x hx => by
                by_cases e : x = j
                · rw [e]
                  unfold steB
                  rw [← HA.out.len, ← HA.out.acts.len, hnx, hac]
                  rfl
                · exact ht.out x (by omega)
              rw [hac] at HY
              clear hnx hac hlen
              go_wp2_with fail
              refine HX.out.mono ?_
              rintro e w' ⟨rfl, rfl⟩
              go_wp2_with fail
              refine HY.out.mono ?_
              rintro e w' ⟨rfl, rfl⟩
              go_wp2
              go_roundw
              case rel => exact ⟨j + 1, by omega, by go_num, HG, HBe.out⟩
              case measure => simp [intOf]; omega
        · have HV := Lib.hid (chkS_yes (s := s) ((spcB_iff s).2 ⟨HAC.out, by have := HA.out.len; omega, by have := HA.out.len; omega, fun i hi => ht.out i (by have := HA.out.len; omega)⟩))
          go_wp2
          go_ret
          exact ⟨by rw [HV.out]; rfl, HBw.out⟩
    · have HV : Hid (chkS s = 30) := Lib.hid (by
        by_cases h : k < 1
        · exact chkS_no (spcB_few (by have := HA.out.len; omega))
        · exact chkS_no (spcB_many (by have := HA.out.len; omega)))
      by_cases hk1 : k < 1
      · go_enter Tryz.func31, Tryz.ntmps31
        go_wp2_with fail
        refine HC.out.mono ?_
        rintro e w' ⟨rfl, rfl⟩
        go_wp2
        go_ret
        exact ⟨by rw [HV.out]; rfl, HBB.out⟩
      · have hk2 : 500 < k := by omega
        go_enter Tryz.func31, Tryz.ntmps31
        go_wp2_with fail
        refine HC.out.mono ?_
        rintro e w' ⟨rfl, rfl⟩
        go_wp2
        go_ret
        exact ⟨by rw [HV.out]; rfl, HBB.out⟩
end Go.Proofs.YtgnbkepdbdgkdaaGreatDoor
/- Plain facts: words of actions; the states after a word; nothing here is about a program. -/
namespace Go.Proofs.YtgnbkepdbdgkdaaGreatDoor.Pl
open Go Go.Lib

def actK (n : Nat) (a : Int) : Bool := decide (0 ≤ a) && decide (a < n)
theorem actK_iff (n : Nat) (a : Int) : actK n a = true ↔ 0 ≤ a ∧ a < n := by simp [actK]
theorem actK_no {n : Nat} {a : Int} (h : a < 0 ∨ n ≤ a) : actK n a = false := by
  rw [Bool.eq_false_iff, Ne, actK_iff]; omega
def actsK (n : Nat) (l : List Int) : Bool := l.all (actK n)
theorem actsK_iff (n : Nat) (l : List Int) : actsK n l = true ↔ ∀ k, k < l.length → 0 ≤ l.getD k 0 ∧ l.getD k 0 < n := by
  unfold actsK
  rw [List.all_eq_true]
  constructor
  · intro h k hk
    have := h (l.getD k 0) (by rw [List.getD_eq_getElem?_getD, List.getElem?_eq_getElem hk]; exact List.getElem_mem hk)
    exact (actK_iff _ _).1 this
  · intro h x hx
    obtain ⟨k, hk, rfl⟩ := List.getElem_of_mem hx
    have := h k hk
    rw [List.getD_eq_getElem?_getD, List.getElem?_eq_getElem hk] at this
    exact (actK_iff _ _).2 this
theorem actsK_bad {n : Nat} {l : List Int} {k : Nat} (hk : k < l.length) (h : actK n (l.getD k 0) = false) : actsK n l = false := by
  rw [Bool.eq_false_iff, Ne, actsK_iff]
  intro h'
  rw [(actK_iff _ _).2 (h' k hk)] at h
  cases h
def wordB (n : Nat) (l : List Int) : Bool := decide (l.length ≤ 10000) && actsK n l

/-- whether an edge with an action leads from some states to another one -/
def leads (l : List Edg) (a : Int) (y : Nat) : Bool := l.any fun e => decide (e.1 = a) && decide (e.2 = (y : Int))
def hitP (ss : List (List Edg)) (from_ : List Nat) (a : Int) (y : Nat) : Bool := from_.any fun x => leads (stAt ss x) a y
def nextL (ss : List (List Edg)) (from_ : List Nat) (a : Int) : List Nat := (List.range ss.length).filter (hitP ss from_ a)
def afterL (ss : List (List Edg)) (word : List Int) : List Nat := word.foldl (nextL ss) [0]
theorem nextL_lt {ss : List (List Edg)} {l : List Nat} {a : Int} : ∀ y ∈ nextL ss l a, y < ss.length := fun y h => by
  unfold nextL at h
  rw [List.mem_filter, List.mem_range] at h
  exact h.1
theorem nextL_mem {ss : List (List Edg)} {l : List Nat} {a : Int} {y : Nat} : y ∈ nextL ss l a ↔ y < ss.length ∧ hitP ss l a y = true := by
  unfold nextL
  rw [List.mem_filter, List.mem_range]
theorem nextL_len (ss : List (List Edg)) (l : List Nat) (a : Int) : (nextL ss l a).length ≤ ss.length := by
  have := List.length_filter_le (hitP ss l a) (List.range ss.length)
  rwa [List.length_range] at this
theorem nextL_sorted (ss : List (List Edg)) (l : List Nat) (a : Int) : (nextL ss l a).Pairwise (· < ·) := List.Pairwise.filter _ List.pairwise_lt_range
theorem afterL_next (ss : List (List Edg)) (word : List Int) (j : Nat) (h : j < word.length) : afterL ss (word.take (j + 1)) = nextL ss (afterL ss (word.take j)) (word.getD j 0) := by
  unfold afterL
  rw [take_next word j 0 h, List.foldl_append]
  rfl
theorem afterL_zero (ss : List (List Edg)) (word : List Int) : afterL ss (word.take 0) = [0] := rfl
theorem afterL_facts {ss : List (List Edg)} (h : 1 ≤ ss.length) (word : List Int) : ∀ j, j ≤ word.length → (∀ y ∈ afterL ss (word.take j), y < ss.length) ∧ (afterL ss (word.take j)).length ≤ ss.length ∧ (afterL ss (word.take j)).Pairwise (· < ·)
  | 0, _ => by
    rw [afterL_zero]
    exact ⟨fun y hy => by simp at hy; omega, by simpa using h, by simp⟩
  | j + 1, hj => by
    rw [afterL_next ss word j (by omega)]
    exact ⟨nextL_lt, nextL_len _ _ _, nextL_sorted _ _ _⟩
theorem leads_take {l : List Edg} {t : Nat} (h : t < l.length) (a : Int) (y : Nat) : leads (l.take (t + 1)) a y = (leads (l.take t) a y || (decide ((l.getD t (0, 0)).1 = a) && decide ((l.getD t (0, 0)).2 = (y : Int)))) := by
  unfold leads
  rw [take_next l t (0, 0) h, List.any_append]
  simp
theorem hitP_take {ss : List (List Edg)} {l : List Nat} {j : Nat} (h : j < l.length) (a : Int) (y : Nat) : hitP ss (l.take (j + 1)) a y = (hitP ss (l.take j) a y || leads (stAt ss (l.getD j 0)) a y) := by
  unfold hitP
  rw [take_next l j 0 h, List.any_append]
  simp

/-! ### rows of Booleans -/
def boolsP (k : Nat) (P : Nat → Bool) : List Value := (List.range k).map fun y => .bool (P y)
theorem boolsP_length (k : Nat) (P : Nat → Bool) : (boolsP k P).length = k := by simp [boolsP]
theorem boolsP_at {k y : Nat} (P : Nat → Bool) (h : y < k) : (boolsP k P)[y]? = some (.bool (P y)) := by simp [boolsP, h]
theorem boolsP_congr {k : Nat} {P Q : Nat → Bool} (h : ∀ y, y < k → P y = Q y) : boolsP k P = boolsP k Q := by
  unfold boolsP
  refine List.map_congr_left fun y hy => ?_
  rw [h y (List.mem_range.1 hy)]
theorem boolsP_set {k t : Nat} (P : Nat → Bool) (ht : t < k) : (boolsP k P).set t (.bool true) = boolsP k (fun y => P y || decide (y = t)) := by
  refine List.ext_getElem? fun i => ?_
  rw [List.getElem?_set]
  by_cases hi : i < k
  · by_cases e : t = i
    · subst e
      rw [if_pos rfl, if_pos (by rw [boolsP_length]; exact hi), boolsP_at _ hi]
      simp
    · rw [if_neg e, boolsP_at P hi, boolsP_at _ hi, decide_eq_false (fun h => e h.symm), Bool.or_false]
  · rw [List.getElem?_eq_none (by rw [boolsP_length]; omega)]
    by_cases e : t = i
    · omega
    · rw [if_neg e, List.getElem?_eq_none (by rw [boolsP_length]; omega)]
theorem boolsP_none (k : Nat) : List.replicate k (Value.bool false) = boolsP k (fun _ => false) := by
  refine List.ext_getElem (by simp [boolsP]) fun i h1 h2 => ?_
  simp [boolsP]
end Go.Proofs.YtgnbkepdbdgkdaaGreatDoor.Pl
/- The reference's Next and After: the states after a word. -/
namespace Go.Proofs.YtgnbkepdbdgkdaaGreatDoor
open Go.RowKit Pl

def zs (l : List Nat) : List Int := l.map fun (x : Nat) => (x : Int)
theorem zs_length (l : List Nat) : (zs l).length = l.length := by simp [zs]
theorem zs_app (l l' : List Nat) : zs (l ++ l') = zs l ++ zs l' := by simp [zs]
theorem zs_at {l : List Nat} {j : Nat} (h : j < l.length) : (zs l).getD j 0 = ((l.getD j 0 : Nat) : Int) := by
  unfold zs
  rw [List.getD_eq_getElem?_getD, List.getElem?_map, List.getElem?_eq_getElem h, List.getD_eq_getElem?_getD, List.getElem?_eq_getElem h]
  rfl
/-- a row of numbers of the call's own -/
def NumOwn (w : World) (base : Nat) (v : Value) (l : List Nat) : Prop := w.ownsRow base 3 1 v l.length ((zs l).map (Value.int .i64))
theorem NumOwn.up {w w' : World} {base : Nat} {v : Value} {l : List Nat} (h : NumOwn w base v l) (hb : Below w.heap.size w w') : NumOwn w' base v l := h.kept (below_grown' hb) (by cases v.ownBlock <;> simp)
theorem NumOwn.low {w : World} {base base' : Nat} {v : Value} {l : List Nat} (h : NumOwn w base v l) (hb : base' ≤ base) : NumOwn w base' v l := own_low h hb
theorem NumOwn.arg {w : World} {base : Nat} {v : Value} {l : List Nat} (h : NumOwn w base v l) (hl : l.length ≤ 140737488355328) : ∃ a c, v = .slice a l.length c ∧ IntArg w a l.length c (zs l) := by
  rcases h.2 with ⟨rfl, h0⟩ | ⟨g, cap, cur, rfl, hg, hh, hc, hm, hz, ht⟩
  · rw [h0]
    exact ⟨none, 0, rfl, ⟨fun _ => rfl, by rw [zs_length, h0], Nat.le_refl _, by omega, fun j hj => by rw [zs_length, h0] at hj; omega⟩⟩
  · refine ⟨some ⟨g, 0, none⟩, cap, rfl, ⟨(fun h => by cases h), (zs_length l).symm, hc, by omega, fun j hj => ⟨g, 0, rfl, ?_⟩⟩⟩
    rw [Nat.zero_add, World.ownsRow.cellAt h j (by rw [zs_length] at hj; omega), List.getElem?_map, List.getD_eq_getElem?_getD, List.getElem?_eq_getElem hj]
    rfl
theorem infoNum : (Tryz.prog.info? 3).map (fun i => (i.zero, i.size, i.bytes)) = some (some (.int .i64 0), 1, 8) := by kernel_rfl
theorem infoBit : (Tryz.prog.info? 4).map (fun i => (i.zero, i.size, i.bytes)) = some (some (.bool false), 1, 1) := by kernel_rfl
theorem made_bits (k : Nat) : (madeCells (Value.bool false).cells (k * 1)).toList = boolsP k (fun _ => false) := by
  refine List.ext_getElem (by simp [madeCells, boolsP]) fun i h1 h2 => ?_
  simp [madeCells, Value.cells, boolsP, Nat.mod_one]

theorem own_ne {W : World} {base g : Nat} {e : TypeId} {size n : Nat} {v : Value} {xs : List Value} (h : W.ownsRow base e size v n xs) (hg : g < base) : some g ≠ v.ownBlock := fun e => by
  have := own_ge h g e.symm
  omega
theorem filt_yes {P : Nat → Bool} {j : Nat} (h : P j = true) : (List.range (j + 1)).filter P = (List.range j).filter P ++ [j] := by
  rw [List.range_succ, List.filter_append]
  simp [h]
theorem filt_no {P : Nat → Bool} {j : Nat} (h : P j = false) : (List.range (j + 1)).filter P = (List.range j).filter P := by
  rw [List.range_succ, List.filter_append]
  simp [h]
theorem num_src (W : World) (x : Int) (t : TypeId) : SrcAt (W.alloc (.cells #[.int .i64 x] t)) (some ⟨W.heap.size, 0, none⟩) [.int .i64 x] := one_src W _ t

end Go.Proofs.YtgnbkepdbdgkdaaGreatDoor
/- spec.Same, and what it calls. -/
namespace Go.Proofs.YtgnbkepdbdgkdaaGreatDoor
open Go.RowKit Pl

theorem ints_ext {xs ys : List Int} (h : xs.length = ys.length) (h' : ∀ j, j < xs.length → xs.getD j 0 = ys.getD j 0) : xs = ys := by
  refine List.ext_getElem h fun j hj hj' => ?_
  have := h' j hj
  simpa [List.getD, List.getElem?_eq_getElem hj, List.getElem?_eq_getElem hj'] using this
theorem stes_ext {l m : List Ste} (h : l.length = m.length) (h' : ∀ k, k < l.length → teAt l k = teAt m k) : l = m := by
  refine List.ext_getElem h fun k hk hk' => ?_
  have := h' k hk
  unfold teAt at this
  rwa [List.getD_eq_getElem?_getD, List.getD_eq_getElem?_getD, List.getElem?_eq_getElem hk, List.getElem?_eq_getElem hk', Option.getD_some, Option.getD_some] at this
def sameP (s t : Spc) : Bool := decide (s.acts = t.acts) && decide (s.states = t.states)
theorem sameP_iff (s t : Spc) : sameP s t = true ↔ s = t := by
  cases s; cases t; simp [sameP]

end Go.Proofs.YtgnbkepdbdgkdaaGreatDoor
