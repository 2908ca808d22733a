/- Texts joined: SatO, RelPl, RIsRel, Round. -/
import Derived.Test.YtbncofgbpffmkaaGreatDoorJc22
import Derived.Test.YtbncofgbpffmkaaGreatDoorJc23
import Derived.Test.YtbncofgbpffmkaaGreatDoorJc30
import Derived.Test.YtbncofgbpffmkaaGreatDoorJc01
import Derived.Test.YtbncofgbpffmkaaGreatDoorJc19
import Derived.BigQuiet
import Derived.StillTailTactics
import Derived.Test.YtbncofgbpffmkaaGreatDoorJc00
import Derived.Lib.QuietBelowIn
/- What spec.Satisfies returns at any arguments. -/
namespace Go.Proofs.YtbncofgbpffmkaaGreatDoor
open Go.RowKit Pl

theorem bothC_zero {m : Syst} {s : Spc} (h : bothC m s = 0) : sysB m = true ∧ spcB s = true ∧ m.acts = s.acts := by
  unfold bothC at h
  split at h
  · rename_i h1
    split at h
    · rename_i h2
      split at h
      · rename_i h3; exact ⟨h1, h2, h3⟩
      · exact absurd h (by decide)
    · exact absurd h (by decide)
  · exact absurd h (by decide)
/-- the verdict h, pv, wv, x and the code that Satisfies returns -/
def SatOut (m : Syst) (s : Spc) (W : World) (B : Nat) (h : Bool) (pv wv : Value) (x code : Int) : Prop :=
  code = bothC m s ∧ ((bothC m s ≠ 0 ∧ h = false ∧ pv = .slice none 0 0 ∧ wv = .slice none 0 0 ∧ x = 0) ∨
    (bothC m s = 0 ∧ ∃ L, SatYes m s L ∧ h = true ∧ W.ownsRow B 69 2 pv L.length (pcells L) ∧ wv = .slice none 0 0 ∧ x = 0) ∨
    (bothC m s = 0 ∧ ∃ wd, ∃ y : Nat, SatNo m s wd y ∧ h = false ∧ pv = .slice none 0 0 ∧ NumO W B wv wd ∧ x = y))
section
variable {m : Syst} {s : Spc} {W W' : World} {B : Nat} {h : Bool} {pv wv : Value} {x code : Int}
theorem SatOut.up (H : SatOut m s W B h pv wv x code) (hb : Below W.heap.size W W') : SatOut m s W' B h pv wv x code := by
  obtain ⟨h0, h1 | ⟨h1, L, h2, h3, h4, h5⟩ | ⟨h1, wd, y, h2, h3, h4, h5, h6⟩⟩ := H
  · exact ⟨h0, .inl h1⟩
  · exact ⟨h0, .inr (.inl ⟨h1, L, h2, h3, own_up' h4 hb, h5⟩)⟩
  · exact ⟨h0, .inr (.inr ⟨h1, wd, y, h2, h3, h4, own_up' h5 hb, h6⟩)⟩
theorem SatOut.low (H : SatOut m s W B h pv wv x code) {B' : Nat} (hb : B' ≤ B) : SatOut m s W B' h pv wv x code := by
  obtain ⟨h0, h1 | ⟨h1, L, h2, h3, h4, h5⟩ | ⟨h1, wd, y, h2, h3, h4, h5, h6⟩⟩ := H
  · exact ⟨h0, .inl h1⟩
  · exact ⟨h0, .inr (.inl ⟨h1, L, h2, h3, own_low h4 hb, h5⟩)⟩
  · exact ⟨h0, .inr (.inr ⟨h1, wd, y, h2, h3, h4, own_low h5 hb, h6⟩)⟩
/-- .. behind a store into the verdict's own block -/
theorem SatOut.put (H : SatOut m s W B h pv wv x code) {g : Nat} {cs : Array Value} (hw : Whole W g 35 cs) (i : Nat) (u : Value) : SatOut m s (W.setCell ⟨g, i, none⟩ u) B h pv wv x code := by
  have hg := grown_self W ⟨g, i, none⟩ u
  obtain ⟨h0, h1 | ⟨h1, L, h2, h3, h4, h5⟩ | ⟨h1, wd, y, h2, h3, h4, h5, h6⟩⟩ := H
  · exact ⟨h0, .inl h1⟩
  · exact ⟨h0, .inr (.inl ⟨h1, L, h2, h3, h4.kept hg (.inr (own_whole h4 hw (by decide)).symm), h5⟩)⟩
  · exact ⟨h0, .inr (.inr ⟨h1, wd, y, h2, h3, h4, World.ownsRow.kept h5 hg (.inr (own_whole h5 hw (by decide)).symm), h6⟩)⟩
/-- .. behind the store of the whole verdict into its block -/
theorem SatOut.put4 (H : SatOut m s W B h pv wv x code) {g : Nat} {cs : Array Value} (hw : Whole W g 35 cs) (a b c d : Value) : SatOut m s ((((W.setCell ⟨g, 0, none⟩ a).setCell ⟨g, 1, none⟩ b).setCell ⟨g, 2, none⟩ c).setCell ⟨g, 3, none⟩ d) B h pv wv x code :=
  (((H.put hw 0 a).put (hw.set 0 a) 1 b).put ((hw.set 0 a).set 1 b) 2 c).put (((hw.set 0 a).set 1 b).set 2 c) 3 d
end
theorem Satisfies_any {w : World} {a : Option Addr} {n c : Nat} {b : Option Addr} {k d : Nat} {m : Syst} {a' : Option Addr} {n' c' : Nat} {b' : Option Addr} {k' d' : Nat} {s : Spc} {e0 e1 e2 : Addr} (E : Errs w e0 e1 e2) (A : SysArg w a n c b k d m) (A' : SpecArg w a' n' c' b' k' d' s) :
    Calls Tryz.prog 7 #[.agg #[.slice a n c, .slice b k d], .agg #[.slice a' n' c', .slice b' k' d']] w fun e w' => ∃ h pa pn pc wa wn wc x code, e = .returned (.tuple #[.agg #[.bool h, .slice pa pn pc, .slice wa wn wc, .int .i64 x], .int .i64 code]) ∧ SatOut m s w' w.heap.size h (.slice pa pn pc) (.slice wa wn wc) x code ∧ Below w.heap.size w w' := by
  by_cases hc : bothC m s = 0
  · obtain ⟨hm, hs, ha⟩ := bothC_zero hc
    refine (Satisfies_ok E A A' hm hs ha).mono ?_
    rintro e w' ⟨hb, ⟨L, v, hy, rfl, hv⟩ | ⟨wd, y, v, hn, rfl, hv⟩⟩
    · obtain ⟨pa, pc, rfl⟩ := own_slice' hv
      exact ⟨_, _, _, _, _, _, _, _, _, rfl, ⟨hc.symm, .inr (.inl ⟨hc, L, hy, rfl, hv, rfl, rfl⟩)⟩, hb⟩
    · obtain ⟨pa, pc, rfl⟩ := own_slice' hv
      exact ⟨_, _, _, _, _, _, _, _, _, rfl, ⟨hc.symm, .inr (.inr ⟨hc, wd, y, hn, rfl, rfl, hv, rfl⟩)⟩, hb⟩
  · refine (Satisfies_bad E A A' hc).mono ?_
    rintro e w' ⟨rfl, hb⟩
    exact ⟨_, _, _, _, _, _, _, _, _, rfl, ⟨rfl, .inl ⟨hc, rfl, rfl, rfl, rfl⟩⟩, hb⟩
/-! what the region of the call keeps: four cells -/
section
variable {W W' : World} {p1 p2 p3 p4 : Addr} {v1 v2 v3 v4 : Value}
theorem ms_up (hb : Below W.heap.size W W') (h : W.cell? p1 = some v1 ∧ W.cell? p2 = some v2 ∧ W.cell? p3 = some v3 ∧ W.cell? p4 = some v4) : W'.cell? p1 = some v1 ∧ W'.cell? p2 = some v2 ∧ W'.cell? p3 = some v3 ∧ W'.cell? p4 = some v4 :=
  ⟨up_cell hb h.1, up_cell hb h.2.1, up_cell hb h.2.2.1, up_cell hb h.2.2.2⟩
theorem ms_new (h : W.cell? p1 = some v1 ∧ W.cell? p2 = some v2 ∧ W.cell? p3 = some v3 ∧ W.cell? p4 = some v4) (o : Obj) : (W.alloc o).cell? p1 = some v1 ∧ (W.alloc o).cell? p2 = some v2 ∧ (W.alloc o).cell? p3 = some v3 ∧ (W.alloc o).cell? p4 = some v4 :=
  ⟨cell_new h.1 o, cell_new h.2.1 o, cell_new h.2.2.1 o, cell_new h.2.2.2 o⟩
theorem ms_dr (h : W.cell? p1 = some v1 ∧ W.cell? p2 = some v2 ∧ W.cell? p3 = some v3 ∧ W.cell? p4 = some v4) : W.drew.cell? p1 = some v1 ∧ W.drew.cell? p2 = some v2 ∧ W.drew.cell? p3 = some v3 ∧ W.drew.cell? p4 = some v4 := h
theorem ms_far (h : W.cell? p1 = some v1 ∧ W.cell? p2 = some v2 ∧ W.cell? p3 = some v3 ∧ W.cell? p4 = some v4) {g : Nat} (hg : g ≠ p1.block ∧ g ≠ p2.block ∧ g ≠ p3.block ∧ g ≠ p4.block) (x y z u : Value) :
    ((((W.setCell ⟨g, 0, none⟩ x).setCell ⟨g, 1, none⟩ y).setCell ⟨g, 2, none⟩ z).setCell ⟨g, 3, none⟩ u).cell? p1 = some v1 ∧ ((((W.setCell ⟨g, 0, none⟩ x).setCell ⟨g, 1, none⟩ y).setCell ⟨g, 2, none⟩ z).setCell ⟨g, 3, none⟩ u).cell? p2 = some v2 ∧ ((((W.setCell ⟨g, 0, none⟩ x).setCell ⟨g, 1, none⟩ y).setCell ⟨g, 2, none⟩ z).setCell ⟨g, 3, none⟩ u).cell? p3 = some v3 ∧ ((((W.setCell ⟨g, 0, none⟩ x).setCell ⟨g, 1, none⟩ y).setCell ⟨g, 2, none⟩ z).setCell ⟨g, 3, none⟩ u).cell? p4 = some v4 :=
  ⟨far4 h.1 hg.1 _ _ _ _, far4 h.2.1 hg.2.1 _ _ _ _, far4 h.2.2.1 hg.2.2.1 _ _ _ _, far4 h.2.2.2 hg.2.2.2 _ _ _ _⟩
theorem ms_ne (h : W.cell? p1 = some v1 ∧ W.cell? p2 = some v2 ∧ W.cell? p3 = some v3 ∧ W.cell? p4 = some v4) : W.heap.size ≠ p1.block ∧ W.heap.size ≠ p2.block ∧ W.heap.size ≠ p3.block ∧ W.heap.size ≠ p4.block :=
  ⟨World.new_ne W _ h.1, World.new_ne W _ h.2.1, World.new_ne W _ h.2.2.1, World.new_ne W _ h.2.2.2⟩
end
/-- what the reference says -/
def RefOut (m : Syst) (s : Spc) (W : World) (B : Nat) (pv : Value) (dp : Int) (ok : Bool) : Prop :=
  (bothC m s ≠ 0 ∧ pv = .slice none 0 0 ∧ dp = 0 ∧ ok = false) ∨
    (bothC m s = 0 ∧ ∃ L, SatYes m s L ∧ W.ownsRow B 69 2 pv L.length (pcells L) ∧ dp = 0 ∧ ok = true) ∨
    (bothC m s = 0 ∧ ∃ i d : Nat, FitsTo m s i ∧ i < (stQ m s i).1.length ∧ fitB m s (wtAt (stQ m s i).1 i).x (wtAt (stQ m s i).1 i).y = false ∧ lenQ (stQ m s i).1 i = d ∧ pv = .slice none 0 0 ∧ dp = d ∧ ok = false)
theorem satYes_once {m : Syst} {s : Spc} {L L' : List (Nat × Nat)} (h : SatYes m s L) (h' : SatYes m s L') : L = L' := by
  obtain ⟨i, h1, h2, rfl⟩ := h
  obtain ⟨j, h3, h4, rfl⟩ := h'
  obtain rfl := fit_once h1 h3 (.inl h2) (.inl h4)
  rfl
theorem satYes_no {m : Syst} {s : Spc} {L : List (Nat × Nat)} {wd : List Int} {x : Nat} (h : SatYes m s L) (h' : SatNo m s wd x) : False := by
  obtain ⟨i, h1, h2, _⟩ := h
  obtain ⟨j, h3, h4, h5, _⟩ := h'
  obtain rfl := fit_once h1 h3 (.inl h2) (.inr h5)
  omega
theorem satNo_len {m : Syst} {s : Spc} {wd : List Int} {x : Nat} (h' : SatNo m s wd x) {i d : Nat} (h1 : FitsTo m s i) (h2 : fitB m s (wtAt (stQ m s i).1 i).x (wtAt (stQ m s i).1 i).y = false) (h3 : lenQ (stQ m s i).1 i = d) : wd.length = d := by
  obtain ⟨j, g1, g2, g3, g4, _⟩ := h'
  obtain rfl := fit_once h1 g1 (.inr h2) (.inr g3)
  rw [g4, ← h3]
  rfl
theorem satNo_fault {m : Syst} {s : Spc} {wd : List Int} {x : Nat} (hm : sysB m = true) (hs : spcB s = true) (h : SatNo m s wd x) : faultB m s wd (x : Int) = true := by
  obtain ⟨i, h1, h2, h3, rfl, rfl⟩ := h
  exact fault_ok hm hs h1 h2 h3
theorem satNo_len' {m : Syst} {s : Spc} {L : List (Nat × Nat)} (h : SatYes m s L) {i : Nat} (h1 : FitsTo m s i) (hi : i < (stQ m s i).1.length) (h2 : fitB m s (wtAt (stQ m s i).1 i).x (wtAt (stQ m s i).1 i).y = false) : False := by
  obtain ⟨j, g1, g2, _⟩ := h
  obtain rfl := fit_once g1 h1 (.inl g2) (.inr h2)
  omega
end Go.Proofs.YtbncofgbpffmkaaGreatDoor
/- Plain facts: the relations that show that a system satisfies a specification; nothing here is about a program. -/
namespace Go.Proofs.YtbncofgbpffmkaaGreatDoor.Pl
open Go Go.Lib

/-- a pair of states of the one and of the other -/
def inP (k k' : Nat) (p : Int × Int) : Bool := decide (0 ≤ p.1) && decide (p.1 < k) && decide (0 ≤ p.2) && decide (p.2 < k')
theorem inP_iff (k k' : Nat) (p : Int × Int) : inP k k' p = true ↔ 0 ≤ p.1 ∧ p.1 < k ∧ 0 ≤ p.2 ∧ p.2 < k' := by
  unfold inP
  simp only [Bool.and_eq_true, decide_eq_true_eq]
  constructor
  · rintro ⟨⟨⟨h1, h2⟩, h3⟩, h4⟩; exact ⟨h1, h2, h3, h4⟩
  · rintro ⟨h1, h2, h3, h4⟩; exact ⟨⟨⟨h1, h2⟩, h3⟩, h4⟩
/-- the marks of the pairs of a list -/
def markF (F : Mat) (L : List (Int × Int)) : Mat := L.foldl (fun F p => setF F p.1.toNat p.2.toNat) F
/-- what follows a pair of states is marked -/
def closeB (m : Syst) (s : Spc) (F : Mat) (x y : Nat) : Bool := (stAt m.states x).all fun e => getF F e.2.toNat (nextY s y e.1)
def pairB (m : Syst) (s : Spc) (F : Mat) (x y : Nat) : Bool := fitB m s x y && closeB m s F x y
def relB (m : Syst) (s : Spc) (L : List (Int × Int)) : Bool :=
  L.all (inP m.states.length s.states.length) && (L.all fun p => pairB m s (markF (noF m.states.length s.states.length) L) p.1.toNat p.2.toNat) && getF (markF (noF m.states.length s.states.length) L) 0 0
theorem markF_snoc (F : Mat) (L : List (Int × Int)) (p : Int × Int) : markF F (L ++ [p]) = setF (markF F L) p.1.toNat p.2.toNat := by simp [markF]
theorem take_one {α : Type} {L : List α} {j : Nat} {p : α} (h : L[j]? = some p) : L.take (j + 1) = L.take j ++ [p] := by
  obtain ⟨hj, e⟩ := List.getElem?_eq_some_iff.1 h
  rw [List.take_succ_eq_append_getElem hj, e]
theorem markF_shp {k k' : Nat} : ∀ (L : List (Int × Int)) (F : Mat), Shp F k k' → Shp (markF F L) k k'
  | [], _, h => h
  | p :: L, F, h => markF_shp L (setF F p.1.toNat p.2.toNat) (setF_shp h _ _)
theorem markF_get {k k' : Nat} : ∀ (L : List (Int × Int)) (F : Mat), Shp F k k' → (∀ p ∈ L, inP k k' p = true) → ∀ u v : Nat, getF (markF F L) u v = true ↔ getF F u v = true ∨ ((u : Int), (v : Int)) ∈ L
  | [], F, _, _, u, v => by simp [markF]
  | p :: L, F, h, hp, u, v => by
    have hq := (inP_iff k k' p).1 (hp p (List.mem_cons_self ..))
    have ih := markF_get L (setF F p.1.toNat p.2.toNat) (setF_shp h _ _) (fun q hq => hp q (List.mem_cons_of_mem _ hq)) u v
    have e : markF F (p :: L) = markF (setF F p.1.toNat p.2.toNat) L := rfl
    rw [e, ih, setF_get h (by omega) (by omega), Bool.or_eq_true, Bool.and_eq_true, decide_eq_true_eq, decide_eq_true_eq, List.mem_cons, or_assoc]
    have e2 : (u = p.1.toNat ∧ v = p.2.toNat) ↔ ((u : Int), (v : Int)) = p := by
      constructor
      · rintro ⟨h1, h2⟩
        refine Prod.ext ?_ ?_
        · show (u : Int) = p.1
          omega
        · show (v : Int) = p.2
          omega
      · intro h1
        have h2 : (u : Int) = p.1 := congrArg Prod.fst h1
        have h3 : (v : Int) = p.2 := congrArg Prod.snd h1
        omega
    rw [e2]
theorem rowF_mem (r : List Bool) (y : Nat) : y ∈ rowF r ↔ r.getD y false = true := by
  unfold rowF
  rw [List.mem_filter, List.mem_range]
  constructor
  · exact fun h => h.2
  · intro h
    refine ⟨?_, h⟩
    rcases Nat.lt_or_ge y r.length with h1 | h1
    · exact h1
    · rw [List.getD_eq_getElem?_getD, List.getElem?_eq_none h1] at h
      cases h
theorem allF_mem (F : Mat) (x y : Nat) : (x, y) ∈ allF F ↔ getF F x y = true := by
  unfold allF
  rw [List.mem_flatMap]
  constructor
  · rintro ⟨a, ha, hb⟩
    rw [List.mem_map] at hb
    obtain ⟨b, hb, e⟩ := hb
    obtain ⟨rfl, rfl⟩ := Prod.mk.inj e
    exact (rowF_mem _ _).1 hb
  · intro h
    refine ⟨x, ?_, List.mem_map.2 ⟨y, (rowF_mem _ _).2 h, rfl⟩⟩
    rw [List.mem_range]
    rcases Nat.lt_or_ge x F.length with h1 | h1
    · exact h1
    · unfold getF at h
      rw [List.getD_eq_getElem?_getD (l := F), List.getElem?_eq_none h1] at h
      cases h
theorem noF_none (k k' u v : Nat) : ¬ getF (noF k k') u v = true := by
  rw [noF_get]
  exact Bool.false_ne_true
/-- the pairs of the list are what is marked -/
theorem mark_all {k k' : Nat} {L : List (Int × Int)} (hp : ∀ p ∈ L, inP k k' p = true) (f : Nat → Nat → Bool) :
    ((allF (markF (noF k k') L)).all fun p => f p.1 p.2) = L.all fun p => f p.1.toNat p.2.toNat := by
  rw [Bool.eq_iff_iff, List.all_eq_true, List.all_eq_true]
  constructor
  · intro h p hpL
    have hq := (inP_iff k k' p).1 (hp p hpL)
    have h1 : (p.1.toNat, p.2.toNat) ∈ allF (markF (noF k k') L) := by
      rw [allF_mem, markF_get L _ (noF_shp k k') hp]
      refine .inr ?_
      have e : ((p.1.toNat : Int), (p.2.toNat : Int)) = p := by
        refine Prod.ext ?_ ?_
        · show (p.1.toNat : Int) = p.1
          omega
        · show (p.2.toNat : Int) = p.2
          omega
      rw [e]
      exact hpL
    exact h _ h1
  · rintro h ⟨x, y⟩ hx
    rw [allF_mem, markF_get L _ (noF_shp k k') hp] at hx
    rcases hx with hx | hx
    · exact absurd hx (noF_none _ _ _ _)
    · have := h _ hx
      simpa using this
/-- .. told by what is marked -/
theorem relB_marks {m : Syst} {s : Spc} {L : List (Int × Int)} (hp : L.all (inP m.states.length s.states.length) = true) :
    relB m s L = (((allF (markF (noF m.states.length s.states.length) L)).all fun p => pairB m s (markF (noF m.states.length s.states.length) L) p.1 p.2) && getF (markF (noF m.states.length s.states.length) L) 0 0) := by
  unfold relB
  rw [hp, Bool.true_and, mark_all (List.all_eq_true.1 hp) (fun x y => pairB m s (markF (noF m.states.length s.states.length) L) x y)]
theorem all_stop {α : Type} {f : α → Bool} {L : List α} {j : Nat} {p : α} (h : L[j]? = some p) (hf : f p = false) : L.all f = false := by
  rw [Bool.eq_false_iff]
  intro h1
  have := List.all_eq_true.1 h1 p (List.mem_of_getElem? h)
  rw [hf] at this
  cases this
theorem all_next {α : Type} {f : α → Bool} {L : List α} {j : Nat} {p : α} (h : L[j]? = some p) (hf : f p = true) (hj : (L.take j).all f = true) : (L.take (j + 1)).all f = true := by
  rw [take_one h, List.all_append, hj]
  simp [hf]
theorem all_end {α : Type} {f : α → Bool} {L : List α} {j : Nat} (h : L.length ≤ j) (hj : (L.take j).all f = true) : L.all f = true := by
  rwa [List.take_of_length_le h] at hj
end Go.Proofs.YtbncofgbpffmkaaGreatDoor.Pl
/- The reference's IsRelation. -/
namespace Go.Proofs.YtbncofgbpffmkaaGreatDoor
open Go.RowKit Pl

/-- where the table of the pairs stands -/
structure MkAt (w0 wr : World) (g k k' : Nat) (bl : List Nat) (F : Mat) : Prop where
  rel : RelAt wr w0.heap.size g k k' bl F
  below : Below w0.heap.size w0 wr
theorem MkAt.up {w0 wr wA : World} {g k k' : Nat} {bl : List Nat} {F : Mat} (h : MkAt w0 wr g k k' bl F) (hb : Below wr.heap.size wr wA) : MkAt w0 wA g k k' bl F :=
  ⟨h.rel.below hb, h.below.trans (hb.mono h.below.size)⟩
theorem MkAt.mark {w0 wr : World} {g k k' : Nat} {bl : List Nat} {F : Mat} (h : MkAt w0 wr g k k' bl F) {x y : Nat} (hx : x < k) (hy : y < k') : MkAt w0 (wr.setCell ⟨bl.getD x 0, y, none⟩ (.bool true)) g k k' bl (setF F x y) :=
  ⟨h.rel.set hx hy, h.below.setCell (show w0.heap.size ≤ bl.getD x 0 from own_ge (h.rel.rows x hx) _ rfl) _⟩
theorem edAt_get {L : List Edg} {r : Nat} (h : r < L.length) : L[r]? = some (edAt L r) := by simp [edAt, List.getD, h]

end Go.Proofs.YtbncofgbpffmkaaGreatDoor
/- A region that draws its order, within a round of a range over a function: what serves it outside of the round serves it there, as long as it defers no call. Nothing here is about a program. -/
namespace Go.Proofs.YtbncofgbpffmkaaGreatDoor
open Go.RowKit Go.Sort

theorem opIn_round {n : Nat} {P : Program} {o : Oper} {a : Act} {w : World} {K K' : Act → World → Prop} {Q : Exit → Act → World → Prop} (l : Nat) (hd : ∀ c, o.op ≠ .defer c) (h : ∀ a w, K a w → K' a w) (hh : o.wpIn Fence.wide n P a w K Q) : o.wpIn (Fence.wide.inRound l) n P a w K' Q := by
  have h1 := Oper.wpIn_mono h hh
  unfold Oper.wpIn at h1 ⊢
  refine ⟨h1.1, ?_⟩
  have h2 := h1.2
  rw [Oper.semAt_plain _ _ _ hd] at h2 ⊢
  generalize (execOp a.eval o).run P w = r at *
  cases r with
  | ok x w' => cases x <;> exact h2
  | halt x w' => exact h2
theorem wpOpIn_round {n : Nat} {P : Program} {ops : Array Oper} {Q : Exit → Act → World → Prop} {i : Nat} {a : Act} {w : World} {K K' : Act → World → Prop} (l : Nat) (hd : ∀ o ∈ ops, ∀ c, o.op ≠ .defer c) (h : ∀ a w, K a w → K' a w) (hh : wpOpIn Fence.wide n P ops Q i K a w) : wpOpIn (Fence.wide.inRound l) n P ops Q i K' a w := by
  unfold wpOpIn at *
  split
  · exact h _ _ (by simpa [*] using hh)
  · rename_i o ho
    simp only [ho] at hh
    split
    · rename_i hw; simp only [hw, if_true] at hh; exact opIn_round l (hd o (Array.mem_of_getElem? ho)) h hh
    · rename_i hw; simp only [hw] at hh; exact ⟨hh.1, h _ _ hh.2⟩
theorem wpAnyIn_round {n : Nat} {P : Program} {md : Region.Mode} {ops : Array Oper} {Q : Exit → Act → World → Prop} (l : Nat) (hd : ∀ o ∈ ops, ∀ c, o.op ≠ .defer c) : ∀ (fuel : Nat) (listed : Array Bool) (a : Act) (w : World), wpAnyIn Fence.wide n P md ops Q fuel listed a w → wpAnyIn (Fence.wide.inRound l) n P md ops Q fuel listed a w
  | 0, _, _, _, h => h
  | fuel + 1, _, _, _, h => ⟨h.1, fun i hi => wpOpIn_round l hd (fun _ _ h' => wpAnyIn_round l hd fuel _ _ _ h') (h.2 i hi)⟩
/-- .. the walk of the order of the text, for callees that turn nothing old -/
theorem wpIn_round_quiet_below {n : Nat} {P : Program} {id : Nat} {Q : Exit → Act → World → Prop} {a : Act} {w : World} {L : List Oper} (l : Nat) (hd : ∀ o ∈ L.toArray, ∀ c, o.op ≠ .defer c) (hm : P.follows .mixedOrders = true) (hB : Region.lexB .any L.toArray = true)
    (h : wpQuietIn Fence.wide n P L.toArray (fun w' => ∃ p : Regrown, w' = grow (redrawn w p.d) p.os) (fun a' => ∀ w', (∃ p : Regrown, w' = grow (redrawn w p.d) p.os) → Q .normal a' w') L a) : (Code.region id L.toArray true).wpIn (Fence.wide.inRound l) n P Q a w := by
  simp only [Region.lexB, Bool.and_eq_true] at hB
  refine wpIn_region_any hm (wpAnyIn_round l hd _ _ _ _ (wpAnyIn_of_quiet (C := fun w' => ∃ p : Regrown, w' = grow (redrawn w p.d) p.os) (Q := fun a' => ∀ w', (∃ p : Regrown, w' = grow (redrawn w p.d) p.os) → Q .normal a' w') rfl (fun _ w' hw' h => h w' hw') _ _ _ _ ⟨⟨w.drawn + 1, #[]⟩, by rw [grow_empty]; rfl⟩ ?_))
  have := wpAnyQIn_lex (F := Fence.wide) (n := n) (C := fun w' => ∃ p : Regrown, w' = grow (redrawn w p.d) p.os) (md := .any) hB.1 L 0 (Array.replicate L.toArray.size false) a (by simp) (by simpa using hB.2) (by simpa using h)
  simpa using this
end Go.Proofs.YtbncofgbpffmkaaGreatDoor
