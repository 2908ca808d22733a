/- Texts joined: SatE, SatZ, SpText, SpSStr. -/
import Derived.Test.YtgnbkepdbdgkdaaGreatDoorJq26
import Derived.Test.YtgnbkepdbdgkdaaGreatDoorJq17
import Derived.Test.YtgnbkepdbdgkdaaGreatDoorJq18
import Derived.ChangeKeysEq
import Derived.Test.YtgnbkepdbdgkdaaGreatDoorJq14
import Derived.Test.YtgnbkepdbdgkdaaGreatDoorJq09
import Derived.Deep.RegionHeld3
import Derived.Test.YtgnbkepdbdgkdaaGreatDoorJq11
/- newTrial, Satisfies at arguments that are not valid, or whose actions differ. -/
namespace Go.Proofs.YtgnbkepdbdgkdaaGreatDoor
open Go.RowKit Pl

theorem below_put {B g i : Nat} {w W : World} {v : Value} (h : Below B w W) (hg : B ≤ g) : Below B w (W.setCell ⟨g, i, none⟩ v) := h.setCell (p := ⟨g, i, none⟩) hg v

set_option maxRecDepth 100000 in
set_option maxHeartbeats 4000000 in
theorem newTrial_bad {w : World} {a : Option Addr} {n c : Nat} {b : Option Addr} {k d : Nat} {m : Syst} {a' : Option Addr} {n' c' : Nat} {b' : Option Addr} {k' d' : Nat} {s : Spc} {e0 e1 e2 : Addr} (E : Errs w e0 e1 e2) (A : SysArg w a n c b k d m) (A' : SpecArg w a' n' c' b' k' d' s) (hbad : bothC m s ≠ 0) :
    Calls Tryz.prog 61 #[.agg #[.slice a n c, .slice b k d], .agg #[.slice a' n' c', .slice b' k' d']] w fun e w' => e = .returned (.tuple #[.agg #[.slice none 0 0, .slice none 0 0, .slice none 0 0, .slice none 0 0, .slice none 0 0, .slice none 0 0], .int .i64 (bothC m s)]) ∧ Below w.heap.size w w' := by
  have hB := (Below.refl w.heap.size w).alloc (Nat.le_refl _) (.cells #[.slice a n c, .slice b k d] 25)
  have hB2 := hB.alloc (by simp) (.cells #[.slice a' n' c', .slice b' k' d'] 52)
  have hB3 := hB2.alloc (by simp; omega) (.cells #[.slice none 0 0, .slice none 0 0, .slice none 0 0, .slice none 0 0, .slice none 0 0, .slice none 0 0] 123)
  have hW1 := ((Whole.new w 25 #[.slice a n c, .slice b k d]).alloc (.cells #[.slice a' n' c', .slice b' k' d'] 52)).alloc (.cells #[.slice none 0 0, .slice none 0 0, .slice none 0 0, .slice none 0 0, .slice none 0 0, .slice none 0 0] 123)
  have hW2 := (Whole.new (w.alloc (.cells #[.slice a n c, .slice b k d] 25)) 52 #[.slice a' n' c', .slice b' k' d']).alloc (.cells #[.slice none 0 0, .slice none 0 0, .slice none 0 0, .slice none 0 0, .slice none 0 0, .slice none 0 0] 123)
  have hW3 := Whole.new ((w.alloc (.cells #[.slice a n c, .slice b k d] 25)).alloc (.cells #[.slice a' n' c', .slice b' k' d'] 52)) 123 #[.slice none 0 0, .slice none 0 0, .slice none 0 0, .slice none 0 0, .slice none 0 0, .slice none 0 0]
  simp only [World.size_alloc] at hW2 hW3
  obtain ⟨w0, HW0⟩ : ∃ z, Hid (((w.alloc (.cells #[.slice a n c, .slice b k d] 25)).alloc (.cells #[.slice a' n' c', .slice b' k' d'] 52)).alloc (.cells #[.slice none 0 0, .slice none 0 0, .slice none 0 0, .slice none 0 0, .slice none 0 0, .slice none 0 0] 123) = z) := ⟨_, Lib.hid rfl⟩
  have hz0 : w0.heap.size = w.heap.size + 3 := by rw [← HW0.out]; simp
  rw [HW0.out] at hB3 hW1 hW2 hW3
  have HC1 := SCheck_any (E.below hB3) (A.below hB3)
  have HA := Lib.hid A
  have HA' := Lib.hid A'
  have HE := Lib.hid E
  have HB0 := Lib.hid hB3
  have HW1 := Lib.hid hW1
  have HW2 := Lib.hid hW2
  have HW3 := Lib.hid hW3
  have HZ0 := Lib.hid hz0
  have HBad := Lib.hid hbad
  clear hB hB2 hB3 A A' E hW1 hW2 hW3 hz0 hbad
  -- what is left once the code is known
  have fin : ∀ (W : World), Below w0.heap.size w0 W → Hid (Below w.heap.size w ((((((W.setCell ⟨w.heap.size + 2, 0, none⟩ (.slice none 0 0)).setCell ⟨w.heap.size + 2, 1, none⟩ (.slice none 0 0)).setCell ⟨w.heap.size + 2, 2, none⟩ (.slice none 0 0)).setCell ⟨w.heap.size + 2, 3, none⟩ (.slice none 0 0)).setCell ⟨w.heap.size + 2, 4, none⟩ (.slice none 0 0)).setCell ⟨w.heap.size + 2, 5, none⟩ (.slice none 0 0)) ∧ ∀ i, (((((((W.setCell ⟨w.heap.size + 2, 0, none⟩ (.slice none 0 0)).setCell ⟨w.heap.size + 2, 1, none⟩ (.slice none 0 0)).setCell ⟨w.heap.size + 2, 2, none⟩ (.slice none 0 0)).setCell ⟨w.heap.size + 2, 3, none⟩ (.slice none 0 0)).setCell ⟨w.heap.size + 2, 4, none⟩ (.slice none 0 0)).setCell ⟨w.heap.size + 2, 5, none⟩ (.slice none 0 0))).cell? ⟨w.heap.size + 2, i, none⟩ = (#[.slice none 0 0, .slice none 0 0, .slice none 0 0, .slice none 0 0, .slice none 0 0, .slice none 0 0] : Array Value)[i]?) := fun W hW => Lib.hid (by
    refine ⟨?_, fun i => ?_⟩
    · have h1 := HB0.out.trans (hW.mono HB0.out.size)
      exact below_put (below_put (below_put (below_put (below_put (below_put h1 (by omega)) (by omega)) (by omega)) (by omega)) (by omega)) (by omega)
    · have h1 := HW3.out.below hW HW3.out.lt
      have h2 := ((((((h1.set 0 (.slice none 0 0)).set 1 (.slice none 0 0)).set 2 (.slice none 0 0)).set 3 (.slice none 0 0)).set 4 (.slice none 0 0)).set 5 (.slice none 0 0)).cell i
      simpa only [List.setIfInBounds_toArray, List.set_cons_zero, List.set_cons_succ] using h2)
  have lay : ∀ (W : World), Below w0.heap.size w0 W → (∀ i, i < 6 → W.cell? ⟨w.heap.size + 2, i, none⟩ = some (.slice none 0 0)) ∧ (∀ i, W.frozen? ⟨w.heap.size + 2, i, none⟩ = false) := fun W hW => by
    have h1 := HW3.out.below hW HW3.out.lt
    refine ⟨fun i hi => ?_, fun i => h1.frozen i⟩
    rw [h1.cell i]
    match i, hi with
    | 0, _ => rfl
    | 1, _ => rfl
    | 2, _ => rfl
    | 3, _ => rfl
    | 4, _ => rfl
    | 5, _ => rfl
  have HLay := Lib.hid lay
  have HFin := Lib.hid fin
  clear lay fin
  obtain ⟨cb, HCb⟩ : ∃ z, Hid (bothC m s = z) := ⟨_, Lib.hid rfl⟩
  rw [HCb.out]
  go_enter Tryz.func61, Tryz.ntmps61
  cases hm : sysB m
  · have hc : bothC m s = 20 := by unfold bothC; rw [hm]; rfl
    rw [chk_no hm] at HC1
    have HC1 := Lib.hid HC1
    obtain rfl : cb = 20 := by rw [← HCb.out, hc]
    clear hm hc
    go_wp2_with fail
    rw [HW0.out]
    refine HC1.out.mono ?_
    rintro e w1 ⟨rfl, hb1⟩
    have HB1 := Lib.hid hb1
    have m0 := (HLay.out w1 hb1).1 0 (by decide)
    have m1 := (HLay.out w1 hb1).1 1 (by decide)
    have m2 := (HLay.out w1 hb1).1 2 (by decide)
    have m3 := (HLay.out w1 hb1).1 3 (by decide)
    have m4 := (HLay.out w1 hb1).1 4 (by decide)
    have m5 := (HLay.out w1 hb1).1 5 (by decide)
    have fz0 := (HLay.out w1 hb1).2 0
    have fz1 := (HLay.out w1 hb1).2 1
    have fz2 := (HLay.out w1 hb1).2 2
    have fz3 := (HLay.out w1 hb1).2 3
    have fz4 := (HLay.out w1 hb1).2 4
    have fz5 := (HLay.out w1 hb1).2 5
    have l0 := (HFin.out w1 hb1).out.2 0
    have l1 := (HFin.out w1 hb1).out.2 1
    have l2 := (HFin.out w1 hb1).out.2 2
    have l3 := (HFin.out w1 hb1).out.2 3
    have l4 := (HFin.out w1 hb1).out.2 4
    have l5 := (HFin.out w1 hb1).out.2 5
    simp only [List.getElem?_toArray, List.getElem?_cons_succ, List.getElem?_cons_zero] at l0 l1 l2 l3 l4 l5
    clear hb1
    go_wp2
    exact bodyPost_ret (v := .tuple #[.agg #[.slice none 0 0, .slice none 0 0, .slice none 0 0, .slice none 0 0, .slice none 0 0, .slice none 0 0], .int .i64 20]) (by simp [results, Tryz.results61, go_sem, l0, l1, l2, l3, l4, l5]) rfl ⟨rfl, (HFin.out w1 HB1.out).out.1⟩
  · rw [chk_yes hm] at HC1
    have HC1 := Lib.hid HC1
    have HM := Lib.hid hm
    clear hm
    go_wp2_with fail
    rw [HW0.out]
    refine HC1.out.mono ?_
    rintro e w1 ⟨rfl, hb1⟩
    have HB1 := Lib.hid hb1
    have HX1 := Lib.hid (HW1.out.below hb1 HW1.out.lt)
    have HX2 := Lib.hid (HW2.out.below hb1 HW2.out.lt)
    have p0 := HX2.out.cell 0
    have p1 := HX2.out.cell 1
    simp only [List.getElem?_toArray, List.getElem?_cons_succ, List.getElem?_cons_zero] at p0 p1
    have hb01 : Below w.heap.size w w1 := HB0.out.trans (hb1.mono HB0.out.size)
    have HC2 := PCheck_any (HE.out.below hb01) (HA'.out.below hb01)
    have HB01 := Lib.hid hb01
    have hz1 : w.heap.size + 3 ≤ w1.heap.size := by have := hb1.size; have := HZ0.out; omega
    cases hs : spcB s
    · have hc : bothC m s = 30 := by unfold bothC; rw [HM.out, hs]; rfl
      rw [chkS_no hs] at HC2
      have HC2 := Lib.hid HC2
      obtain rfl : cb = 30 := by rw [← HCb.out, hc]
      clear hs hc hb1 hb01
      go_wp2_with fail
      refine HC2.out.mono ?_
      rintro e w2 ⟨rfl, hb2⟩
      have hb2 : Below w0.heap.size w0 w2 := HB1.out.trans (hb2.mono HB1.out.size)
      have HB2 := Lib.hid hb2
      have m0 := (HLay.out w2 hb2).1 0 (by decide)
      have m1 := (HLay.out w2 hb2).1 1 (by decide)
      have m2 := (HLay.out w2 hb2).1 2 (by decide)
      have m3 := (HLay.out w2 hb2).1 3 (by decide)
      have m4 := (HLay.out w2 hb2).1 4 (by decide)
      have m5 := (HLay.out w2 hb2).1 5 (by decide)
      have fz0 := (HLay.out w2 hb2).2 0
      have fz1 := (HLay.out w2 hb2).2 1
      have fz2 := (HLay.out w2 hb2).2 2
      have fz3 := (HLay.out w2 hb2).2 3
      have fz4 := (HLay.out w2 hb2).2 4
      have fz5 := (HLay.out w2 hb2).2 5
      have l0 := (HFin.out w2 hb2).out.2 0
      have l1 := (HFin.out w2 hb2).out.2 1
      have l2 := (HFin.out w2 hb2).out.2 2
      have l3 := (HFin.out w2 hb2).out.2 3
      have l4 := (HFin.out w2 hb2).out.2 4
      have l5 := (HFin.out w2 hb2).out.2 5
      simp only [List.getElem?_toArray, List.getElem?_cons_succ, List.getElem?_cons_zero] at l0 l1 l2 l3 l4 l5
      clear hb2 p0 p1
      go_wp2
      exact bodyPost_ret (v := .tuple #[.agg #[.slice none 0 0, .slice none 0 0, .slice none 0 0, .slice none 0 0, .slice none 0 0, .slice none 0 0], .int .i64 30]) (by simp [results, Tryz.results61, go_sem, l0, l1, l2, l3, l4, l5]) rfl ⟨rfl, (HFin.out w2 HB2.out).out.1⟩
    · have hc : bothC m s = if m.acts = s.acts then 0 else 10 := by unfold bothC; rw [HM.out, hs]; rfl
      have hne : m.acts ≠ s.acts := fun e => HBad.out (by rw [hc, if_pos e])
      rw [if_neg hne] at hc
      rw [chkS_yes hs] at HC2
      have HC2 := Lib.hid HC2
      have HD : Hid (decide (m.acts = s.acts) = false) := Lib.hid (decide_eq_false hne)
      obtain rfl : cb = 10 := by rw [← HCb.out, hc]
      clear hs hc hb1 hb01 hne
      go_wp2_with fail
      refine HC2.out.mono ?_
      rintro e w2 ⟨rfl, hb2⟩
      have HB2 := Lib.hid (HB01.out.trans (hb2.mono HB01.out.size))
      have HB20 := Lib.hid (HB1.out.trans (hb2.mono HB1.out.size))
      have hz2 : w.heap.size + 3 ≤ w2.heap.size := by have := hb2.size; omega
      have HY1 := Lib.hid (HX1.out.below hb2 HX1.out.lt)
      have HY2 := Lib.hid (HX2.out.below hb2 HX2.out.lt)
      have q0 := HY1.out.cell 0
      have q1 := HY2.out.cell 0
      simp only [List.getElem?_toArray, List.getElem?_cons_zero] at q0 q1
      have HC3 := eqStr_any (HA.out.acts.below HB2.out) (HA'.out.acts.below HB2.out)
      rw [HD.out] at HC3
      have HC3 := Lib.hid HC3
      clear hb2 p0 p1
      go_wp2_with fail
      refine HC3.out.mono ?_
      rintro e w3 ⟨rfl, hb3⟩
      have hb3 : Below w0.heap.size w0 w3 := HB20.out.trans (hb3.mono HB20.out.size)
      have HB3 := Lib.hid hb3
      have m0 := (HLay.out w3 hb3).1 0 (by decide)
      have m1 := (HLay.out w3 hb3).1 1 (by decide)
      have m2 := (HLay.out w3 hb3).1 2 (by decide)
      have m3 := (HLay.out w3 hb3).1 3 (by decide)
      have m4 := (HLay.out w3 hb3).1 4 (by decide)
      have m5 := (HLay.out w3 hb3).1 5 (by decide)
      have fz0 := (HLay.out w3 hb3).2 0
      have fz1 := (HLay.out w3 hb3).2 1
      have fz2 := (HLay.out w3 hb3).2 2
      have fz3 := (HLay.out w3 hb3).2 3
      have fz4 := (HLay.out w3 hb3).2 4
      have fz5 := (HLay.out w3 hb3).2 5
      have l0 := (HFin.out w3 hb3).out.2 0
      have l1 := (HFin.out w3 hb3).out.2 1
      have l2 := (HFin.out w3 hb3).out.2 2
      have l3 := (HFin.out w3 hb3).out.2 3
      have l4 := (HFin.out w3 hb3).out.2 4
      have l5 := (HFin.out w3 hb3).out.2 5
      simp only [List.getElem?_toArray, List.getElem?_cons_succ, List.getElem?_cons_zero] at l0 l1 l2 l3 l4 l5
      clear hb3 q0 q1
      go_wp2
      exact bodyPost_ret (v := .tuple #[.agg #[.slice none 0 0, .slice none 0 0, .slice none 0 0, .slice none 0 0, .slice none 0 0, .slice none 0 0], .int .i64 10]) (by simp [results, Tryz.results61, go_sem, l0, l1, l2, l3, l4, l5]) rfl ⟨rfl, (HFin.out w3 HB3.out).out.1⟩

set_option maxRecDepth 100000 in
set_option maxHeartbeats 4000000 in
theorem Satisfies_bad {w : World} {a : Option Addr} {n c : Nat} {b : Option Addr} {k d : Nat} {m : Syst} {a' : Option Addr} {n' c' : Nat} {b' : Option Addr} {k' d' : Nat} {s : Spc} {e0 e1 e2 : Addr} (E : Errs w e0 e1 e2) (A : SysArg w a n c b k d m) (A' : SpecArg w a' n' c' b' k' d' s) (hbad : bothC m s ≠ 0) :
    Calls Tryz.prog 24 #[.agg #[.slice a n c, .slice b k d], .agg #[.slice a' n' c', .slice b' k' d']] w fun e w' => e = .returned (.tuple #[.agg #[.bool false, .slice none 0 0, .slice none 0 0, .int .i64 0], .int .i64 (bothC m s)]) ∧ Below w.heap.size w w' := by
  have hB := (Below.refl w.heap.size w).alloc (Nat.le_refl _) (.cells #[.slice a n c, .slice b k d] 25)
  have hB2 := hB.alloc (by simp) (.cells #[.slice a' n' c', .slice b' k' d'] 52)
  have hB3 := hB2.alloc (by simp; omega) (.cells #[.bool false, .slice none 0 0, .slice none 0 0, .int .i64 0] 57)
  have hW3 := Whole.new ((w.alloc (.cells #[.slice a n c, .slice b k d] 25)).alloc (.cells #[.slice a' n' c', .slice b' k' d'] 52)) 57 #[.bool false, .slice none 0 0, .slice none 0 0, .int .i64 0]
  have hW1 := ((Whole.new w 25 #[.slice a n c, .slice b k d]).alloc (.cells #[.slice a' n' c', .slice b' k' d'] 52)).alloc (.cells #[.bool false, .slice none 0 0, .slice none 0 0, .int .i64 0] 57)
  simp only [World.size_alloc] at hW3
  obtain ⟨w0, HW0⟩ : ∃ z, Hid (((w.alloc (.cells #[.slice a n c, .slice b k d] 25)).alloc (.cells #[.slice a' n' c', .slice b' k' d'] 52)).alloc (.cells #[.bool false, .slice none 0 0, .slice none 0 0, .int .i64 0] 57) = z) := ⟨_, Lib.hid rfl⟩
  have hz0 : w0.heap.size = w.heap.size + 3 := by rw [← HW0.out]; simp
  rw [HW0.out] at hB3 hW1 hW3
  have HT := Lib.hid (newTrial_bad (E.below hB3) (A.below hB3) (A'.below hB3) hbad)
  have HB0 := Lib.hid hB3
  have HW3 := Lib.hid hW3
  obtain ⟨cb, HCb⟩ : ∃ z, Hid (bothC m s = z) := ⟨_, Lib.hid rfl⟩
  rw [HCb.out] at HT hbad ⊢
  clear hB hB2 hB3 A A' E hW1 hW3
  go_enter Tryz.func24, Tryz.ntmps24
  go_wp2_with fail
  rw [HW0.out]
  refine HT.out.mono ?_
  rintro e w1 ⟨rfl, hb1⟩
  have hz1 : w.heap.size + 3 ≤ w1.heap.size := by have := hb1.size; omega
  have hb2 := hb1.alloc hb1.size (.cells #[.slice none 0 0, .slice none 0 0, .slice none 0 0, .slice none 0 0, .slice none 0 0, .slice none 0 0] 123)
  have hv2 := HW3.out.below hb2 HW3.out.lt
  have m0 := hv2.cell 0
  have m1 := hv2.cell 1
  have m2 := hv2.cell 2
  have m3 := hv2.cell 3
  have fz0 := hv2.frozen 0
  have fz1 := hv2.frozen 1
  have fz2 := hv2.frozen 2
  have fz3 := hv2.frozen 3
  have l0 := ((((hv2.set 0 (.bool false)).set 1 (.slice none 0 0)).set 2 (.slice none 0 0)).set 3 (.int .i64 0)).cell 0
  have l1 := ((((hv2.set 0 (.bool false)).set 1 (.slice none 0 0)).set 2 (.slice none 0 0)).set 3 (.int .i64 0)).cell 1
  have l2 := ((((hv2.set 0 (.bool false)).set 1 (.slice none 0 0)).set 2 (.slice none 0 0)).set 3 (.int .i64 0)).cell 2
  have l3 := ((((hv2.set 0 (.bool false)).set 1 (.slice none 0 0)).set 2 (.slice none 0 0)).set 3 (.int .i64 0)).cell 3
  simp only [List.setIfInBounds_toArray, List.set_cons_zero, List.set_cons_succ, List.getElem?_toArray, List.getElem?_cons_succ, List.getElem?_cons_zero] at m0 m1 m2 m3 l0 l1 l2 l3
  have HF := Lib.hid (below_put (i := 3) (v := .int .i64 0) (below_put (i := 2) (v := .slice none 0 0) (below_put (i := 1) (v := .slice none 0 0) (below_put (i := 0) (v := .bool false) (HB0.out.trans (hb2.mono HB0.out.size)) (show w.heap.size ≤ w.heap.size + 2 by omega)) (show w.heap.size ≤ w.heap.size + 2 by omega)) (show w.heap.size ≤ w.heap.size + 2 by omega)) (show w.heap.size ≤ w.heap.size + 2 by omega))
  have hcb : (cb != 0) = true := by simpa using hbad
  clear hb1 hb2 hv2 hbad
  clear HB0 HW3 HT hz0 HW0 HCb
  go_wp2
  exact bodyPost_ret (v := .tuple #[.agg #[.bool false, .slice none 0 0, .slice none 0 0, .int .i64 0], .int .i64 cb]) (by simp [results, Tryz.results24, go_sem, l0, l1, l2, l3]) rfl ⟨rfl, HF.out⟩
end Go.Proofs.YtgnbkepdbdgkdaaGreatDoor
/- The reference's SamePairs at equal rows of pairs; the law's zero at the zero verdict. -/
namespace Go.Proofs.YtgnbkepdbdgkdaaGreatDoor
open Go.RowKit Pl

theorem neqP (a b : Int) (w : World) : (binOp .neq 48 (.agg #[.int .i64 a, .int .i64 b]) (.agg #[.int .i64 a, .int .i64 b])).run Tryz.prog w = .ok (.bool false) w := by
  obtain ⟨i, hi, _, _, _⟩ := info_parts infoInt
  have u3 := Tryz.underlying3
  have a3 := Tryz.isAgg3
  have z3 := Tryz.sizeOf3
  have hc : Tryz.prog.cellsOf 3 = 1 := by kernel_rfl
  rw [run_neq_struct, show (10000 : Nat) = 9999 + 1 from rfl, run_equalIn_array w 9999 _ _ Tryz.underlying48 hi, hc, show List.range 2 = [0, 1] from rfl]
  simp only [Op.eqItems]
  go_simp
theorem guardP (op : BinOp) (x y : Operand) (xs ys : Array Value) (w : World) : (eqGuard op 48 x y (.agg xs) (.agg ys)).run Tryz.prog w = .ok () w := run_eqGuard_agg w op _ x y xs ys (by kernel_rfl)
/-- the cells of a pair of a row -/
theorem pair_cells2 {W : World} {B n : Nat} {v : Value} {L : List (Nat × Nat)} (h : W.ownsRow B 48 2 v n (pcells L)) {r x y : Nat} (hr : r < n) (hL : L[r]? = some (x, y)) :
    ∃ b c, v = .slice (some ⟨b, 0, none⟩) n c ∧ W.cell? ⟨b, r * 2, none⟩ = some (.int .i64 x) ∧ W.cell? ⟨b, r * 2 + 1, none⟩ = some (.int .i64 y) := by
  have h0 := h
  rcases h.2 with ⟨e, e0⟩ | ⟨b, cap, cur, e, _⟩
  · omega
  · subst e
    obtain ⟨h1, h2⟩ := pcells_at L r x y hL
    exact ⟨b, _, rfl, (h0.cellAt _ (by omega)).trans h1, (h0.cellAt _ (by omega)).trans h2⟩
set_option maxHeartbeats 1000000 in
theorem SamePairs_any {w : World} {B B' : Nat} {v v' : Value} {L : List (Nat × Nat)} (hP : w.ownsRow B 48 2 v L.length (pcells L)) (hQ : w.ownsRow B' 48 2 v' L.length (pcells L)) (hl : L.length ≤ 10000000) :
    Calls Tryz.prog 18 #[v, v'] w fun e w' => e = .returned (.bool true) ∧ Below w.heap.size w w' := by
  obtain ⟨a, c, rfl⟩ := own_slice' hP
  obtain ⟨a', c', rfl⟩ := own_slice' hQ
  obtain ⟨n, HN⟩ : ∃ z, Hid (L.length = z) := ⟨_, Lib.hid rfl⟩
  rw [HN.out] at hP hQ hl ⊢
  have HP := Lib.hid hP
  have HQ := Lib.hid hQ
  clear hP hQ
  go_enter Tryz.func18, Tryz.ntmps18
  go_wp2
  go_loopw [5, 6, 14] (fun _ _ i wr => ∃ k : Nat, k ≤ n ∧ i = .int .i64 k ∧ Below w.heap.size w wr) (fun _ _ i _ => n - (intOf i).toNat)
  case atStart => exact ⟨0, Nat.zero_le _, rfl, Below.refl _ _⟩
  case round =>
    obtain ⟨k, hk, rfl, hb⟩ := hrel
    by_cases hlt : k < n
    · obtain ⟨⟨x, y⟩, hL⟩ : ∃ p, L[k]? = some p := ⟨_, List.getElem?_eq_getElem (by rw [HN.out]; exact hlt)⟩
      obtain ⟨b, cc, e, c1, c2⟩ := pair_cells2 (own_up' HP.out hb) hlt hL
      cases e
      obtain ⟨b', cc', e, d1, d2⟩ := pair_cells2 (own_up' HQ.out hb) hlt hL
      cases e
      have k0 : (0 : Int) ≤ (k : Int) := by omega
      have k1 : (k : Int) < (n : Int) := by omega
      have hgd := guardP .neq
      have hne := neqP x y
      have D1 := cell_new d1
      have D2 := cell_new d2
      clear hL
      go_wp2
      go_quiet (fail)
      go_wp2
      go_roundw
      case rel => exact ⟨k + 1, by omega, by go_num, below_drewN (hb.alloc hb.size _) _⟩
      case measure => simp [intOf]; omega
    · go_wp2
      go_ret
      exact ⟨rfl, hb⟩
end Go.Proofs.YtgnbkepdbdgkdaaGreatDoor
/- terms.Text, as spec.String calls it. -/
namespace Go.Proofs.YtgnbkepdbdgkdaaGreatDoor
open Go.RowKit Pl

/-- where Text stands behind x states -/
def textY (s : Spc) (x : Nat) : List UInt8 := objK bSpec s.acts (s.states.map (steW s.acts)) x
theorem words_at (s : Spc) {x : Nat} (hx : x < s.states.length) : (s.states.map (steW s.acts)).getD x [] = steW s.acts (teAt s.states x) := by
  unfold teAt
  rw [List.getD_eq_getElem?_getD, List.getElem?_map, List.getElem?_eq_getElem hx, List.getD_eq_getElem?_getD, List.getElem?_eq_getElem hx]
  rfl
theorem textY_next (s : Spc) {x : Nat} (hx : x < s.states.length) : textY s (x + 1) = textY s x ++ ((Lib.decDigits x ++ [58] ++ blanks (steW s.acts (teAt s.states x))) ++ [10]) := by
  unfold textY
  rw [objK_next, words_at s hx]
  rfl
theorem headL_len {acts : List ByteArray} (ha : actsB acts = true) : (headL bSpec acts).length ≤ 200 := by
  have h3 := heads_len (acts := acts) (fun a h => acts_len ha a h)
  have h2 := ((actsB_iff acts).1 ha).1
  unfold headL
  simp only [List.length_append, bSpec, List.length_cons, List.length_nil] at h3 ⊢
  omega
theorem textY_len {s : Spc} (hv : spcB s = true) (h : ∀ i, i < s.states.length → ∀ z ∈ (teAt s.states i).1, z ≤ 9223372036854775807) : ∀ x, x ≤ s.states.length → (textY s x).length ≤ 201 + 60023 * x
  | 0, _ => by
    have := headL_len ((spcB_iff s).1 hv).1
    simp [textY, objK]; omega
  | x + 1, hx => by
    have ih := textY_len hv h x (by omega)
    have h5 := ((spcB_iff s).1 hv).2.2.1
    have h1 := (steLine_of hv (x := x) (by omega) (h x (by omega))).b (Nat.le_refl _)
    rw [lineB_all] at h1
    have h2 := dec_length x (by omega)
    rw [textY_next s (by omega)]
    simp only [List.length_append, List.length_cons, List.length_nil]
    omega

theorem pack_s {w : World} {g : Nat} {t : TypeId} {x y : Value} (h : Whole w g t #[x, y]) : Whole w g t #[x, y] ∧ w.cell? ⟨g, 0, none⟩ = some x ∧ w.cell? ⟨g, 1, none⟩ = some y := ⟨h, h.cell 0, h.cell 1⟩
set_option maxRecDepth 100000 in
set_option maxHeartbeats 4000000 in
theorem SpText_any {w : World} {a : Option Addr} {n c : Nat} {b : Option Addr} {k d : Nat} {s : Spc} {g : Nat} (kw : ByteArray) (hkw : kw = mk bSpec) (E : Env w) (T : Tab w) (A : SpecArg w a n c b k d s) (hv : spcB s = true)
    (hg : Whole w g 52 #[.slice a n c, .slice b k d]) :
    Calls Tryz.prog 79 #[.string kw, .slice a n c, .slice b k d, .func (.func 80) #[] #[.pointer (some ⟨g, 0, none⟩)]] w fun e w' => e = .returned (.string (mk (strSp s))) ∧ Below w.heap.size w w' := by
  obtain ⟨i0, hi, hz0, hz1, hz2⟩ := info_parts infoString
  have HA := Lib.hid A
  have HE := Lib.hid E
  have HS := Lib.hid hv
  have HTb := Lib.hid T
  have HRg : Hid (∀ i, i < s.states.length → ∀ z ∈ (teAt s.states i).1, z ≤ 9223372036854775807) := Lib.hid fun i hi => by
    obtain ⟨_, _, _, _, _, _, _, _, _, _, _, h1, _⟩ := A.rows i hi
    exact h1.le
  have HG := Lib.hid hg
  have hs := (spcB_iff s).1 hv
  have hn8 : n ≤ 8 := by have := ((actsB_iff s.acts).1 hs.1).1; have := A.acts.len; omega
  have hk5 : k ≤ 500 := by have := A.len; omega
  have HKW := Lib.hid hkw
  have hB1 := (Below.refl w.heap.size w).alloc (Nat.le_refl _) (.cells #[.pointer none, .slice none 0 0] 154)
  have hB2 := hB1.alloc (by simp) (.cells #[.string kw] 9)
  have hw0 := (Whole.new w 154 #[.pointer none, .slice none 0 0]).alloc (.cells #[.string kw] 9)
  have hlit := World.ownsRow_lit (base := w.heap.size) (e := 9) (size := 1) (w.alloc (.cells #[.pointer none, .slice none 0 0] 154)) #[.string kw] 1 (by simp) (by unfold maxLen; omega) rfl
  simp only [World.size_alloc] at hlit
  have HSrc := Lib.hid (strs_src (A.acts.below hB2))
  have HNil := Lib.hid A.acts.nils
  have HL : Hid ((s.acts.map Value.string).length = n * 1) := Lib.hid (by have := A.acts.len; simp; omega)
  have HB2 := Lib.hid hB2
  have HW0 := Lib.hid hw0
  have HLit := Lib.hid hlit
  clear hs A E T hv hg hkw hB1 hB2 hw0 hlit
  go_enter Tryz.func79, Tryz.ntmps79
  go_wp2_with (at_builtin; (refine wpList_append_sz rfl (.tmp 13) (.tmp 14) 22 rfl w.heap.size 9 i0 (.string ⟨#[]⟩) 1 16 Tryz.underlying22 hi hz0 hz1 hz2 rfl (by decide) (.slice (some ⟨w.heap.size + 1, 0, none⟩) 1 1) rfl 1 [.string kw] HLit.out a n c rfl (s.acts.map Value.string) HNil.out HL.out HSrc.out (strs_one _) (by unfold maxLen; omega) (by omega) (by simp; omega) ?_); intro va w1 hva hg1 hat1; refine Hid.out ?_)
  refine Lib.hid ?_
  obtain ⟨aa, ca, rfl⟩ := own_slice hva
  have hb1 := HB2.out.grown hg1 (by simp; omega) (fun k hk => by simp [Value.ownBlock] at hk; omega)
  have x0 := HW0.out.grown hg1 (fun h => by simp [Value.ownBlock] at h)
  have HJ := Lib.hid (join_own (W := w1) kw s.acts (by have e : [Value.string kw] ++ s.acts.map Value.string = (kw :: s.acts).map Value.string := rfl; rw [← e]; exact hva) (by have := HA.out.acts.len; omega) (by omega) (by
    rw [HKW.out, join_head]
    have := headL_len ((spcB_iff s).1 HS.out).1
    unfold headL at this
    omega))
  have HBd := Lib.hid (bld_fresh x0)
  have HB1 := Lib.hid hb1
  have hzz1 := hb1.size
  have hx0l := x0.lt
  rw [HKW.out, join_head] at HJ
  clear hva hg1 hat1 hb1 x0
  obtain ⟨J, HJe⟩ : ∃ J, Hid (mk (bSpec ++ s.acts.flatMap (fun a => [32] ++ a.data.toList)) = J) := ⟨_, Lib.hid rfl⟩
  rw [HJe.out] at HJ
  have HJl : Hid (J.size ≤ 200) := Lib.hid (by
    rw [← HJe.out, mk_size']
    have := headL_len ((spcB_iff s).1 HS.out).1
    unfold headL at this
    exact this)
  have hJl := HJl.out
  have hnl : (⟨#[10]⟩ : ByteArray).size = 1 := rfl
  go_wp2_with fail
  refine HJ.out.mono ?_
  rintro e w2 ⟨rfl, hb2⟩
  have HWr := Lib.hid (write_any w.heap.size w.heap.size [] (J ++ (⟨#[10]⟩ : ByteArray)) w2 (HBd.out.up hb2) (by rw [ByteArray.size_append]; simp; omega) (Nat.le_trans hzz1 hb2.size))
  have HN0 : Hid ([] ++ (J ++ (⟨#[10]⟩ : ByteArray)).data.toList = textY s 0) := Lib.hid (by
    rw [← HJe.out]
    simp [ByteArray.data_append, mk, textY, objK, headL])
  rw [HN0.out] at HWr
  have HB2' := Lib.hid (HB1.out.trans (hb2.mono hzz1))
  clear hb2
  have hadd0 : ¬ 9223372036854775807 < J.size + 1 := by omega
  have hadd0' : ¬ 9223372036854775807 < J.size + (⟨#[10]⟩ : ByteArray).size := by omega
  go_wp2_with fail
  refine HWr.out.mono ?_
  rintro e w3 ⟨rfl, hB3, hb3, hk3⟩
  have HB3 := Lib.hid hB3
  have Hb3 := Lib.hid (HB2'.out.trans hb3)
  clear hB3 hb3 hk3 hadd0 hadd0'
  go_wp2
  go_loopw [10, 11, 21] (fun _ _ i wr => ∃ x : Nat, x ≤ k ∧ i = .int .i64 x ∧ Bld w.heap.size w.heap.size (textY s x) wr ∧ Below w.heap.size w wr) (fun _ _ i _ => k - (intOf i).toNat)
  case atStart => exact ⟨0, Nat.zero_le _, rfl, HB3.out, Hb3.out⟩
  case round =>
    obtain ⟨x, hx, rfl, hBx, hbx⟩ := hrel
    have HBx := Lib.hid hBx
    have Hbx := Lib.hid hbx
    have hzx := hbx.size
    clear hBx hbx
    by_cases hlt2 : x < k
    · obtain ⟨bx2, off2, rfl, a1, n1, c1, a2, n2, c2, d1, d2, hN1, hN2⟩ := HA.out.rows x (by have := HA.out.len; omega)
      have e1 : wr.cell? ⟨bx2, off2 + x * 2, none⟩ = some (.slice a1 n1 c1) := (Hbx.out.cell (lt_of_cell d1)).trans d1
      have e2 : wr.cell? ⟨bx2, off2 + x * 2 + 1, none⟩ = some (.slice a2 n2 c2) := (Hbx.out.cell (lt_of_cell d2)).trans d2
      have HN1 := Lib.hid hN1
      have HN2 := Lib.hid hN2
      clear d1 d2 hN1 hN2
      have hxk : x < s.states.length := by have := HA.out.len; omega
      have HI := Lib.hid (fun (W : World) (hb : Below wr.heap.size wr W) => itoa_any x (by omega) W ((HE.out.below Hbx.out).below hb))
      obtain ⟨D, HD⟩ : ∃ D, Hid (mk (Lib.decDigits x) = D) := ⟨_, Lib.hid rfl⟩
      rw [HD.out] at HI
      have hD : D.size ≤ 21 := by rw [← HD.out, mk_size']; exact dec_length x (by omega)
      have hcol : (⟨#[58]⟩ : ByteArray).size = 1 := rfl
      have HLi := fun (W : World) (hb : Below wr.heap.size wr W) => spLine_any (x := x) ((HE.out.below Hbx.out).below hb) ((HTb.out.below Hbx.out).below hb) ((HA.out.below Hbx.out).below hb) HS.out ((HG.out.below Hbx.out HG.out.lt).below hb (Nat.lt_of_lt_of_le HG.out.lt hzx)) hxk ((HN1.out.below Hbx.out).below hb) ((HN2.out.below Hbx.out).below hb)
      obtain ⟨Ls, HLs⟩ : ∃ Ls, Hid (mk (blanks (steW s.acts (teAt s.states x))) = Ls) := ⟨_, Lib.hid rfl⟩
      rw [HLs.out] at HLi
      have HLi := Lib.hid HLi
      have hLs : Ls.size ≤ 60000 := by
        rw [← HLs.out, mk_size', ← lineB_all]
        exact (steLine_of HS.out hxk (HRg.out x hxk)).b (Nat.le_refl _)
      have HN : Hid (textY s x ++ (D ++ (⟨#[58]⟩ : ByteArray) ++ Ls ++ (⟨#[10]⟩ : ByteArray)).data.toList = textY s (x + 1)) := Lib.hid (by
        rw [textY_next s hxk, ← HD.out, ← HLs.out]
        simp [ByteArray.data_append, mk])
      have HTl := Lib.hid (textY_len HS.out HRg.out x (by omega))
      have hadd1 : ¬ 9223372036854775807 < D.size + 1 := by omega
      have hadd2 : ¬ 9223372036854775807 < D.size + (⟨#[58]⟩ : ByteArray).size := by omega
      have hadd3 : ¬ 9223372036854775807 < (D ++ (⟨#[58]⟩ : ByteArray)).size + Ls.size := by rw [ByteArray.size_append]; omega
      have hadd4 : ¬ 9223372036854775807 < (D ++ (⟨#[58]⟩ : ByteArray) ++ Ls).size + 1 := by rw [ByteArray.size_append, ByteArray.size_append]; omega
      have hadd5 : ¬ 9223372036854775807 < (D ++ (⟨#[58]⟩ : ByteArray) ++ Ls).size + (⟨#[10]⟩ : ByteArray).size := by rw [ByteArray.size_append, ByteArray.size_append]; omega
      have hadd6 : ¬ 9223372036854775807 < D.size + 1 + Ls.size := by omega
      have hadd7 : ¬ 9223372036854775807 < D.size + 1 + Ls.size + 1 := by omega
      have hne : wr.heap.size ≠ w.heap.size := by have := bld_lt HBx.out; omega
      have hx0 : (0 : Int) ≤ (x : Int) := by omega
      have hx1 : (x : Int) < (k : Int) := by omega
      go_wp2
      go_region_held3 (fun w' => Whole w' wr.heap.size 119 #[.slice a1 n1 c1, .slice a2 n2 c2] ∧ w'.cell? ⟨wr.heap.size, 0, none⟩ = some (.slice a1 n1 c1) ∧ w'.cell? ⟨wr.heap.size, 1, none⟩ = some (.slice a2 n2 c2))
        ((refine pack_s ?_ <;> first | assumption | exact Whole.new _ _ _ | go_keep))
        (first
          | (go_at_call 82; (refine (write_any w.heap.size w.heap.size (textY s x) (D ++ (⟨#[58]⟩ : ByteArray) ++ Ls ++ (⟨#[10]⟩ : ByteArray)) _ (up_bld hbL (up_bld hWI HBx.out)) ?_ ?_).mono ?_; (simp only [ByteArray.size_append]; have := HTl.out; have : (⟨#[10]⟩ : ByteArray).size = 1 := rfl; omega); (have := hWI.size; have := hbL.size; omega); rw [HN.out]; rintro e wW ⟨rfl, hBW, hbW, hkW⟩; have kW0 := hkW wr.heap.size _ _ hne (by decide) kL0))
          | (go_at_call 80; (refine (HLi.out _ hWI).mono ?_; rintro e wL ⟨rfl, hbL⟩; have kL0 := up_whole hbL kI0))
          | (go_at_call 83; (refine (HI.out _ ?_).mono ?_; (first | exact ((Below.refl _ wr).alloc (Nat.le_refl _) _).drew | exact ((Below.refl _ wr).alloc (Nat.le_refl _) _)); rintro e wI ⟨rfl, hbI⟩; have kI0 := up_whole hbI (show Whole _ wr.heap.size 119 #[.slice a1 n1 c1, .slice a2 n2 c2] from Whole.new wr _ _); have hWI : Below wr.heap.size wr wI := by (first | exact below_two ((Below.refl _ wr).alloc (Nat.le_refl _) (.cells #[.slice a1 n1 c1, .slice a2 n2 c2] 119)) hbI | exact below_two ((Below.refl _ wr).alloc (Nat.le_refl _) (.cells #[.slice a1 n1 c1, .slice a2 n2 c2] 119)).drew hbI))))
      have HF := Lib.hid (((Hbx.out.trans (hWI.mono hzx)).trans (hbL.mono (Nat.le_trans hzx hWI.size))).trans hbW)
      have HBW := Lib.hid hBW
      clear hBW hbW hkW hadd1 hadd2 hadd3 hadd4 hadd5 hadd6 hadd7
      go_wp2
      go_roundw
      case rel => exact ⟨x + 1, by omega, by go_num, HBW.out, HF.out⟩
      case measure => simp [intOf]; omega
    · have HN4 : Hid (textY s x = strSp s) := Lib.hid (by
        have h3 : x = s.states.length := by have := HA.out.len; omega
        rw [h3]; unfold textY strSp objS; rw [List.length_map])
      have hBx := HBx.out
      rw [HN4.out] at hBx
      have HSt := Lib.hid (bstr_any w.heap.size w.heap.size (strSp s) wr hBx hzx)
      clear hBx
      go_wp2_with fail
      refine HSt.out.mono ?_
      rintro e w7 ⟨rfl, hb7⟩
      go_wp2
      go_ret
      exact ⟨rfl, Hbx.out.trans hb7⟩
end Go.Proofs.YtgnbkepdbdgkdaaGreatDoor
/- spec.String. -/
namespace Go.Proofs.YtgnbkepdbdgkdaaGreatDoor
open Go.RowKit Pl

def spStrV (s : Spc) : Value := if spcB s = true then .tuple #[.string (mk (strSp s)), .int .i64 0] else .tuple #[.string ⟨#[]⟩, .int .i64 30]
theorem spStrV_no {s : Spc} (h : spcB s = false) : spStrV s = .tuple #[.string ⟨#[]⟩, .int .i64 30] := by unfold spStrV; rw [h]; rfl
theorem spStrV_yes {s : Spc} (h : spcB s = true) : spStrV s = .tuple #[.string (mk (strSp s)), .int .i64 0] := if_pos h
set_option maxRecDepth 100000 in
set_option maxHeartbeats 4000000 in
theorem SpString_any {w : World} {a : Option Addr} {n c : Nat} {b : Option Addr} {k d : Nat} {s : Spc} (E : Env w) (T : Tab w) (A : SpecArg w a n c b k d s) :
    Calls Tryz.prog 32 #[.agg #[.slice a n c, .slice b k d]] w fun e w' => e = .returned (spStrV s) ∧ Below w.heap.size w w' := by
  have hB := (Below.refl w.heap.size w).alloc (Nat.le_refl _) (.cells #[.slice a n c, .slice b k d] 52)
  have HA := Lib.hid A
  have HE := Lib.hid E
  have HTb := Lib.hid T
  have hw := Whole.new w 52 #[.slice a n c, .slice b k d]
  obtain ⟨e0, e1, e2, hE⟩ := E.errs
  have HC := Lib.hid (PCheck_any (hE.below hB) (A.below hB))
  have HBB := Lib.hid hB
  have HW := Lib.hid hw
  clear A hB E T hE hw
  have hmf : ∀ (fn : Fn) (first cap : Array Value) (w : World), (Instr.makeFunc fn first cap).run Tryz.prog w = .ok (.func fn first cap) w := fun _ _ _ _ => rfl
  cases hv : spcB s
  · have HV := Lib.hid (spStrV_no hv)
    rw [chkS_no hv] at HC
    clear hv
    go_enter Tryz.func32, Tryz.ntmps32
    go_wp2_with fail
    refine HC.out.mono ?_
    rintro e w1 ⟨rfl, hb1⟩
    go_wp2
    go_ret2
    exact ⟨by rw [HV.out]; rfl, HBB.out.trans (hb1.mono HBB.out.size)⟩
  · have HV := Lib.hid (spStrV_yes hv)
    rw [chkS_yes hv] at HC
    have HS := Lib.hid hv
    clear hv
    go_enter Tryz.func32, Tryz.ntmps32
    go_wp2_with fail
    refine HC.out.mono ?_
    rintro e w1 ⟨rfl, hb1⟩
    have hb0 := HBB.out.trans (hb1.mono HBB.out.size)
    have hw1 := HW.out.below hb1 HW.out.lt
    have q0 := hw1.cell 0
    have q1 := hw1.cell 1
    have HT := Lib.hid (SpText_any ⟨#[115, 112, 101, 99]⟩ rfl (HE.out.below hb0) (HTb.out.below hb0) (HA.out.below hb0) HS.out hw1)
    have HB0 := Lib.hid hb0
    simp only [List.getElem?_toArray, List.getElem?_cons_succ, List.getElem?_cons_zero] at q0 q1
    clear hb0 hb1 hw1
    go_wp2_with fail
    refine HT.out.mono ?_
    rintro e w2 ⟨rfl, hb2⟩
    go_wp2
    go_ret2
    exact ⟨by rw [HV.out]; rfl, HB0.out.trans (hb2.mono HB0.out.size)⟩
end Go.Proofs.YtgnbkepdbdgkdaaGreatDoor
