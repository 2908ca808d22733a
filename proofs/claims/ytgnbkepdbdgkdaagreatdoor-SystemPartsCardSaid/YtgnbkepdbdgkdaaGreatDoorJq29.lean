/- Texts joined: SatO. -/
import Derived.Test.YtgnbkepdbdgkdaaGreatDoorJq27
import Derived.Test.YtgnbkepdbdgkdaaGreatDoorJq28
/- What spec.Satisfies returns at any arguments. -/
namespace Go.Proofs.YtgnbkepdbdgkdaaGreatDoor
open Go.RowKit Pl

theorem bothC_zero {m : Syst} {s : Spc} (h : bothC m s = 0) : sysB m = true ∧ spcB s = true ∧ m.acts = s.acts := by
  unfold bothC at h
  split at h
  · rename_i h1
    split at h
    · rename_i h2
      split at h
      · rename_i h3; exact ⟨h1, h2, h3⟩
      · exact absurd h (by decide)
    · exact absurd h (by decide)
  · exact absurd h (by decide)
/-- the verdict h, pv, wv, x and the code that Satisfies returns -/
def SatOut (m : Syst) (s : Spc) (W : World) (B : Nat) (h : Bool) (pv wv : Value) (x code : Int) : Prop :=
  code = bothC m s ∧ ((bothC m s ≠ 0 ∧ h = false ∧ pv = .slice none 0 0 ∧ wv = .slice none 0 0 ∧ x = 0) ∨
    (bothC m s = 0 ∧ ∃ L, SatYes m s L ∧ h = true ∧ W.ownsRow B 48 2 pv L.length (pcells L) ∧ wv = .slice none 0 0 ∧ x = 0) ∨
    (bothC m s = 0 ∧ ∃ wd, ∃ y : Nat, SatNo m s wd y ∧ h = false ∧ pv = .slice none 0 0 ∧ NumO W B wv wd ∧ x = y))
section
variable {m : Syst} {s : Spc} {W W' : World} {B : Nat} {h : Bool} {pv wv : Value} {x code : Int}
theorem SatOut.up (H : SatOut m s W B h pv wv x code) (hb : Below W.heap.size W W') : SatOut m s W' B h pv wv x code := by
  obtain ⟨h0, h1 | ⟨h1, L, h2, h3, h4, h5⟩ | ⟨h1, wd, y, h2, h3, h4, h5, h6⟩⟩ := H
  · exact ⟨h0, .inl h1⟩
  · exact ⟨h0, .inr (.inl ⟨h1, L, h2, h3, own_up' h4 hb, h5⟩)⟩
  · exact ⟨h0, .inr (.inr ⟨h1, wd, y, h2, h3, h4, own_up' h5 hb, h6⟩)⟩
theorem SatOut.low (H : SatOut m s W B h pv wv x code) {B' : Nat} (hb : B' ≤ B) : SatOut m s W B' h pv wv x code := by
  obtain ⟨h0, h1 | ⟨h1, L, h2, h3, h4, h5⟩ | ⟨h1, wd, y, h2, h3, h4, h5, h6⟩⟩ := H
  · exact ⟨h0, .inl h1⟩
  · exact ⟨h0, .inr (.inl ⟨h1, L, h2, h3, own_low h4 hb, h5⟩)⟩
  · exact ⟨h0, .inr (.inr ⟨h1, wd, y, h2, h3, h4, own_low h5 hb, h6⟩)⟩
/-- .. behind a store into the verdict's own block -/
theorem SatOut.put (H : SatOut m s W B h pv wv x code) {g : Nat} {cs : Array Value} (hw : Whole W g 57 cs) (i : Nat) (u : Value) : SatOut m s (W.setCell ⟨g, i, none⟩ u) B h pv wv x code := by
  have hg := grown_self W ⟨g, i, none⟩ u
  obtain ⟨h0, h1 | ⟨h1, L, h2, h3, h4, h5⟩ | ⟨h1, wd, y, h2, h3, h4, h5, h6⟩⟩ := H
  · exact ⟨h0, .inl h1⟩
  · exact ⟨h0, .inr (.inl ⟨h1, L, h2, h3, h4.kept hg (.inr (own_whole h4 hw (by decide)).symm), h5⟩)⟩
  · exact ⟨h0, .inr (.inr ⟨h1, wd, y, h2, h3, h4, World.ownsRow.kept h5 hg (.inr (own_whole h5 hw (by decide)).symm), h6⟩)⟩
/-- .. behind the store of the whole verdict into its block -/
theorem SatOut.put4 (H : SatOut m s W B h pv wv x code) {g : Nat} {cs : Array Value} (hw : Whole W g 57 cs) (a b c d : Value) : SatOut m s ((((W.setCell ⟨g, 0, none⟩ a).setCell ⟨g, 1, none⟩ b).setCell ⟨g, 2, none⟩ c).setCell ⟨g, 3, none⟩ d) B h pv wv x code :=
  (((H.put hw 0 a).put (hw.set 0 a) 1 b).put ((hw.set 0 a).set 1 b) 2 c).put (((hw.set 0 a).set 1 b).set 2 c) 3 d
end
theorem Satisfies_any {w : World} {a : Option Addr} {n c : Nat} {b : Option Addr} {k d : Nat} {m : Syst} {a' : Option Addr} {n' c' : Nat} {b' : Option Addr} {k' d' : Nat} {s : Spc} {e0 e1 e2 : Addr} (E : Errs w e0 e1 e2) (A : SysArg w a n c b k d m) (A' : SpecArg w a' n' c' b' k' d' s) :
    Calls Tryz.prog 24 #[.agg #[.slice a n c, .slice b k d], .agg #[.slice a' n' c', .slice b' k' d']] w fun e w' => ∃ h pa pn pc wa wn wc x code, e = .returned (.tuple #[.agg #[.bool h, .slice pa pn pc, .slice wa wn wc, .int .i64 x], .int .i64 code]) ∧ SatOut m s w' w.heap.size h (.slice pa pn pc) (.slice wa wn wc) x code ∧ Below w.heap.size w w' := by
  by_cases hc : bothC m s = 0
  · obtain ⟨hm, hs, ha⟩ := bothC_zero hc
    refine (Satisfies_ok E A A' hm hs ha).mono ?_
    rintro e w' ⟨hb, ⟨L, v, hy, rfl, hv⟩ | ⟨wd, y, v, hn, rfl, hv⟩⟩
    · obtain ⟨pa, pc, rfl⟩ := own_slice' hv
      exact ⟨_, _, _, _, _, _, _, _, _, rfl, ⟨hc.symm, .inr (.inl ⟨hc, L, hy, rfl, hv, rfl, rfl⟩)⟩, hb⟩
    · obtain ⟨pa, pc, rfl⟩ := own_slice' hv
      exact ⟨_, _, _, _, _, _, _, _, _, rfl, ⟨hc.symm, .inr (.inr ⟨hc, wd, y, hn, rfl, rfl, hv, rfl⟩)⟩, hb⟩
  · refine (Satisfies_bad E A A' hc).mono ?_
    rintro e w' ⟨rfl, hb⟩
    exact ⟨_, _, _, _, _, _, _, _, _, rfl, ⟨rfl, .inl ⟨hc, rfl, rfl, rfl, rfl⟩⟩, hb⟩
/-! what the region of the call keeps: four cells -/
section
variable {W W' : World} {p1 p2 p3 p4 : Addr} {v1 v2 v3 v4 : Value}
theorem ms_up (hb : Below W.heap.size W W') (h : W.cell? p1 = some v1 ∧ W.cell? p2 = some v2 ∧ W.cell? p3 = some v3 ∧ W.cell? p4 = some v4) : W'.cell? p1 = some v1 ∧ W'.cell? p2 = some v2 ∧ W'.cell? p3 = some v3 ∧ W'.cell? p4 = some v4 :=
  ⟨up_cell hb h.1, up_cell hb h.2.1, up_cell hb h.2.2.1, up_cell hb h.2.2.2⟩
theorem ms_new (h : W.cell? p1 = some v1 ∧ W.cell? p2 = some v2 ∧ W.cell? p3 = some v3 ∧ W.cell? p4 = some v4) (o : Obj) : (W.alloc o).cell? p1 = some v1 ∧ (W.alloc o).cell? p2 = some v2 ∧ (W.alloc o).cell? p3 = some v3 ∧ (W.alloc o).cell? p4 = some v4 :=
  ⟨cell_new h.1 o, cell_new h.2.1 o, cell_new h.2.2.1 o, cell_new h.2.2.2 o⟩
theorem ms_dr (h : W.cell? p1 = some v1 ∧ W.cell? p2 = some v2 ∧ W.cell? p3 = some v3 ∧ W.cell? p4 = some v4) : W.drew.cell? p1 = some v1 ∧ W.drew.cell? p2 = some v2 ∧ W.drew.cell? p3 = some v3 ∧ W.drew.cell? p4 = some v4 := h
theorem ms_far (h : W.cell? p1 = some v1 ∧ W.cell? p2 = some v2 ∧ W.cell? p3 = some v3 ∧ W.cell? p4 = some v4) {g : Nat} (hg : g ≠ p1.block ∧ g ≠ p2.block ∧ g ≠ p3.block ∧ g ≠ p4.block) (x y z u : Value) :
    ((((W.setCell ⟨g, 0, none⟩ x).setCell ⟨g, 1, none⟩ y).setCell ⟨g, 2, none⟩ z).setCell ⟨g, 3, none⟩ u).cell? p1 = some v1 ∧ ((((W.setCell ⟨g, 0, none⟩ x).setCell ⟨g, 1, none⟩ y).setCell ⟨g, 2, none⟩ z).setCell ⟨g, 3, none⟩ u).cell? p2 = some v2 ∧ ((((W.setCell ⟨g, 0, none⟩ x).setCell ⟨g, 1, none⟩ y).setCell ⟨g, 2, none⟩ z).setCell ⟨g, 3, none⟩ u).cell? p3 = some v3 ∧ ((((W.setCell ⟨g, 0, none⟩ x).setCell ⟨g, 1, none⟩ y).setCell ⟨g, 2, none⟩ z).setCell ⟨g, 3, none⟩ u).cell? p4 = some v4 :=
  ⟨far4 h.1 hg.1 _ _ _ _, far4 h.2.1 hg.2.1 _ _ _ _, far4 h.2.2.1 hg.2.2.1 _ _ _ _, far4 h.2.2.2 hg.2.2.2 _ _ _ _⟩
theorem ms_ne (h : W.cell? p1 = some v1 ∧ W.cell? p2 = some v2 ∧ W.cell? p3 = some v3 ∧ W.cell? p4 = some v4) : W.heap.size ≠ p1.block ∧ W.heap.size ≠ p2.block ∧ W.heap.size ≠ p3.block ∧ W.heap.size ≠ p4.block :=
  ⟨World.new_ne W _ h.1, World.new_ne W _ h.2.1, World.new_ne W _ h.2.2.1, World.new_ne W _ h.2.2.2⟩
end
/-- what the reference says -/
def RefOut (m : Syst) (s : Spc) (W : World) (B : Nat) (pv : Value) (dp : Int) (ok : Bool) : Prop :=
  (bothC m s ≠ 0 ∧ pv = .slice none 0 0 ∧ dp = 0 ∧ ok = false) ∨
    (bothC m s = 0 ∧ ∃ L, SatYes m s L ∧ W.ownsRow B 48 2 pv L.length (pcells L) ∧ dp = 0 ∧ ok = true) ∨
    (bothC m s = 0 ∧ ∃ i d : Nat, FitsTo m s i ∧ i < (stQ m s i).1.length ∧ fitB m s (wtAt (stQ m s i).1 i).x (wtAt (stQ m s i).1 i).y = false ∧ lenQ (stQ m s i).1 i = d ∧ pv = .slice none 0 0 ∧ dp = d ∧ ok = false)
theorem satYes_once {m : Syst} {s : Spc} {L L' : List (Nat × Nat)} (h : SatYes m s L) (h' : SatYes m s L') : L = L' := by
  obtain ⟨i, h1, h2, rfl⟩ := h
  obtain ⟨j, h3, h4, rfl⟩ := h'
  obtain rfl := fit_once h1 h3 (.inl h2) (.inl h4)
  rfl
theorem satYes_no {m : Syst} {s : Spc} {L : List (Nat × Nat)} {wd : List Int} {x : Nat} (h : SatYes m s L) (h' : SatNo m s wd x) : False := by
  obtain ⟨i, h1, h2, _⟩ := h
  obtain ⟨j, h3, h4, h5, _⟩ := h'
  obtain rfl := fit_once h1 h3 (.inl h2) (.inr h5)
  omega
theorem satNo_len {m : Syst} {s : Spc} {wd : List Int} {x : Nat} (h' : SatNo m s wd x) {i d : Nat} (h1 : FitsTo m s i) (h2 : fitB m s (wtAt (stQ m s i).1 i).x (wtAt (stQ m s i).1 i).y = false) (h3 : lenQ (stQ m s i).1 i = d) : wd.length = d := by
  obtain ⟨j, g1, g2, g3, g4, _⟩ := h'
  obtain rfl := fit_once h1 g1 (.inr h2) (.inr g3)
  rw [g4, ← h3]
  rfl
theorem satNo_fault {m : Syst} {s : Spc} {wd : List Int} {x : Nat} (hm : sysB m = true) (hs : spcB s = true) (h : SatNo m s wd x) : faultB m s wd (x : Int) = true := by
  obtain ⟨i, h1, h2, h3, rfl, rfl⟩ := h
  exact fault_ok hm hs h1 h2 h3
theorem satNo_len' {m : Syst} {s : Spc} {L : List (Nat × Nat)} (h : SatYes m s L) {i : Nat} (h1 : FitsTo m s i) (hi : i < (stQ m s i).1.length) (h2 : fitB m s (wtAt (stQ m s i).1 i).x (wtAt (stQ m s i).1 i).y = false) : False := by
  obtain ⟨j, g1, g2, _⟩ := h
  obtain rfl := fit_once g1 h1 (.inl g2) (.inr h2)
  omega
end Go.Proofs.YtgnbkepdbdgkdaaGreatDoor
