/- Texts joined: SatE, Right, SatZ. -/
import Derived.Test.YtgpfpnenpgnogaaGreatDoorJa35
import Derived.Test.YtgpfpnenpgnogaaGreatDoorJa29
import Derived.Test.YtgpfpnenpgnogaaGreatDoorJa34
import Derived.Test.YtgpfpnenpgnogaaGreatDoorJa38
import Derived.Test.YtgpfpnenpgnogaaGreatDoorJa32
import Derived.ChangeKeysEq
/- newTrial, Satisfies at arguments that are not valid, or whose actions differ. -/
namespace Go.Proofs.YtgpfpnenpgnogaaGreatDoor
open Go.RowKit Pl

theorem below_put {B g i : Nat} {w W : World} {v : Value} (h : Below B w W) (hg : B ≤ g) : Below B w (W.setCell ⟨g, i, none⟩ v) := h.setCell (p := ⟨g, i, none⟩) hg v

set_option maxRecDepth 100000 in
set_option maxHeartbeats 4000000 in
theorem newTrial_bad {w : World} {a : Option Addr} {n c : Nat} {b : Option Addr} {k d : Nat} {m : Syst} {a' : Option Addr} {n' c' : Nat} {b' : Option Addr} {k' d' : Nat} {s : Spc} {e0 e1 e2 : Addr} (E : Errs w e0 e1 e2) (A : SysArg w a n c b k d m) (A' : SpecArg w a' n' c' b' k' d' s) (hbad : bothC m s ≠ 0) :
    Calls Tryz.prog 33 #[.agg #[.slice a n c, .slice b k d], .agg #[.slice a' n' c', .slice b' k' d']] w fun e w' => e = .returned (.tuple #[.agg #[.slice none 0 0, .slice none 0 0, .slice none 0 0, .slice none 0 0, .slice none 0 0, .slice none 0 0], .int .i64 (bothC m s)]) ∧ Below w.heap.size w w' := by
  have hB := (Below.refl w.heap.size w).alloc (Nat.le_refl _) (.cells #[.slice a n c, .slice b k d] 25)
  have hB2 := hB.alloc (by simp) (.cells #[.slice a' n' c', .slice b' k' d'] 28)
  have hB3 := hB2.alloc (by simp; omega) (.cells #[.slice none 0 0, .slice none 0 0, .slice none 0 0, .slice none 0 0, .slice none 0 0, .slice none 0 0] 79)
  have hW1 := ((Whole.new w 25 #[.slice a n c, .slice b k d]).alloc (.cells #[.slice a' n' c', .slice b' k' d'] 28)).alloc (.cells #[.slice none 0 0, .slice none 0 0, .slice none 0 0, .slice none 0 0, .slice none 0 0, .slice none 0 0] 79)
  have hW2 := (Whole.new (w.alloc (.cells #[.slice a n c, .slice b k d] 25)) 28 #[.slice a' n' c', .slice b' k' d']).alloc (.cells #[.slice none 0 0, .slice none 0 0, .slice none 0 0, .slice none 0 0, .slice none 0 0, .slice none 0 0] 79)
  have hW3 := Whole.new ((w.alloc (.cells #[.slice a n c, .slice b k d] 25)).alloc (.cells #[.slice a' n' c', .slice b' k' d'] 28)) 79 #[.slice none 0 0, .slice none 0 0, .slice none 0 0, .slice none 0 0, .slice none 0 0, .slice none 0 0]
  simp only [World.size_alloc] at hW2 hW3
  obtain ⟨w0, HW0⟩ : ∃ z, Hid (((w.alloc (.cells #[.slice a n c, .slice b k d] 25)).alloc (.cells #[.slice a' n' c', .slice b' k' d'] 28)).alloc (.cells #[.slice none 0 0, .slice none 0 0, .slice none 0 0, .slice none 0 0, .slice none 0 0, .slice none 0 0] 79) = z) := ⟨_, Lib.hid rfl⟩
  have hz0 : w0.heap.size = w.heap.size + 3 := by rw [← HW0.out]; simp
  rw [HW0.out] at hB3 hW1 hW2 hW3
  have HC1 := SCheck_any (E.below hB3) (A.below hB3)
  have HA := Lib.hid A
  have HA' := Lib.hid A'
  have HE := Lib.hid E
  have HB0 := Lib.hid hB3
  have HW1 := Lib.hid hW1
  have HW2 := Lib.hid hW2
  have HW3 := Lib.hid hW3
  have HZ0 := Lib.hid hz0
  have HBad := Lib.hid hbad
  clear hB hB2 hB3 A A' E hW1 hW2 hW3 hz0 hbad
  -- what is left once the code is known
  have fin : ∀ (W : World), Below w0.heap.size w0 W → Hid (Below w.heap.size w ((((((W.setCell ⟨w.heap.size + 2, 0, none⟩ (.slice none 0 0)).setCell ⟨w.heap.size + 2, 1, none⟩ (.slice none 0 0)).setCell ⟨w.heap.size + 2, 2, none⟩ (.slice none 0 0)).setCell ⟨w.heap.size + 2, 3, none⟩ (.slice none 0 0)).setCell ⟨w.heap.size + 2, 4, none⟩ (.slice none 0 0)).setCell ⟨w.heap.size + 2, 5, none⟩ (.slice none 0 0)) ∧ ∀ i, (((((((W.setCell ⟨w.heap.size + 2, 0, none⟩ (.slice none 0 0)).setCell ⟨w.heap.size + 2, 1, none⟩ (.slice none 0 0)).setCell ⟨w.heap.size + 2, 2, none⟩ (.slice none 0 0)).setCell ⟨w.heap.size + 2, 3, none⟩ (.slice none 0 0)).setCell ⟨w.heap.size + 2, 4, none⟩ (.slice none 0 0)).setCell ⟨w.heap.size + 2, 5, none⟩ (.slice none 0 0))).cell? ⟨w.heap.size + 2, i, none⟩ = (#[.slice none 0 0, .slice none 0 0, .slice none 0 0, .slice none 0 0, .slice none 0 0, .slice none 0 0] : Array Value)[i]?) := fun W hW => Lib.hid (by
    refine ⟨?_, fun i => ?_⟩
    · have h1 := HB0.out.trans (hW.mono HB0.out.size)
      exact below_put (below_put (below_put (below_put (below_put (below_put h1 (by omega)) (by omega)) (by omega)) (by omega)) (by omega)) (by omega)
    · have h1 := HW3.out.below hW HW3.out.lt
      have h2 := ((((((h1.set 0 (.slice none 0 0)).set 1 (.slice none 0 0)).set 2 (.slice none 0 0)).set 3 (.slice none 0 0)).set 4 (.slice none 0 0)).set 5 (.slice none 0 0)).cell i
      simpa only [List.setIfInBounds_toArray, List.set_cons_zero, List.set_cons_succ] using h2)
  have lay : ∀ (W : World), Below w0.heap.size w0 W → (∀ i, i < 6 → W.cell? ⟨w.heap.size + 2, i, none⟩ = some (.slice none 0 0)) ∧ (∀ i, W.frozen? ⟨w.heap.size + 2, i, none⟩ = false) := fun W hW => by
    have h1 := HW3.out.below hW HW3.out.lt
    refine ⟨fun i hi => ?_, fun i => h1.frozen i⟩
    rw [h1.cell i]
    match i, hi with
    | 0, _ => rfl
    | 1, _ => rfl
    | 2, _ => rfl
    | 3, _ => rfl
    | 4, _ => rfl
    | 5, _ => rfl
  have HLay := Lib.hid lay
  have HFin := Lib.hid fin
  clear lay fin
  obtain ⟨cb, HCb⟩ : ∃ z, Hid (bothC m s = z) := ⟨_, Lib.hid rfl⟩
  rw [HCb.out]
  go_enter Tryz.func33, Tryz.ntmps33
  cases hm : sysB m
  · have hc : bothC m s = 20 := by unfold bothC; rw [hm]; rfl
    rw [chk_no hm] at HC1
    have HC1 := Lib.hid HC1
    obtain rfl : cb = 20 := by rw [← HCb.out, hc]
    clear hm hc
    go_wp2_with fail
    rw [HW0.out]
    refine HC1.out.mono ?_
    rintro e w1 ⟨rfl, hb1⟩
    have HB1 := Lib.hid hb1
    have m0 := (HLay.out w1 hb1).1 0 (by decide)
    have m1 := (HLay.out w1 hb1).1 1 (by decide)
    have m2 := (HLay.out w1 hb1).1 2 (by decide)
    have m3 := (HLay.out w1 hb1).1 3 (by decide)
    have m4 := (HLay.out w1 hb1).1 4 (by decide)
    have m5 := (HLay.out w1 hb1).1 5 (by decide)
    have fz0 := (HLay.out w1 hb1).2 0
    have fz1 := (HLay.out w1 hb1).2 1
    have fz2 := (HLay.out w1 hb1).2 2
    have fz3 := (HLay.out w1 hb1).2 3
    have fz4 := (HLay.out w1 hb1).2 4
    have fz5 := (HLay.out w1 hb1).2 5
    have l0 := (HFin.out w1 hb1).out.2 0
    have l1 := (HFin.out w1 hb1).out.2 1
    have l2 := (HFin.out w1 hb1).out.2 2
    have l3 := (HFin.out w1 hb1).out.2 3
    have l4 := (HFin.out w1 hb1).out.2 4
    have l5 := (HFin.out w1 hb1).out.2 5
    simp only [List.getElem?_toArray, List.getElem?_cons_succ, List.getElem?_cons_zero] at l0 l1 l2 l3 l4 l5
    clear hb1
    go_wp2
    exact bodyPost_ret (v := .tuple #[.agg #[.slice none 0 0, .slice none 0 0, .slice none 0 0, .slice none 0 0, .slice none 0 0, .slice none 0 0], .int .i64 20]) (by simp [results, Tryz.results33, go_sem, l0, l1, l2, l3, l4, l5]) rfl ⟨rfl, (HFin.out w1 HB1.out).out.1⟩
  · rw [chk_yes hm] at HC1
    have HC1 := Lib.hid HC1
    have HM := Lib.hid hm
    clear hm
    go_wp2_with fail
    rw [HW0.out]
    refine HC1.out.mono ?_
    rintro e w1 ⟨rfl, hb1⟩
    have HB1 := Lib.hid hb1
    have HX1 := Lib.hid (HW1.out.below hb1 HW1.out.lt)
    have HX2 := Lib.hid (HW2.out.below hb1 HW2.out.lt)
    have p0 := HX2.out.cell 0
    have p1 := HX2.out.cell 1
    simp only [List.getElem?_toArray, List.getElem?_cons_succ, List.getElem?_cons_zero] at p0 p1
    have hb01 : Below w.heap.size w w1 := HB0.out.trans (hb1.mono HB0.out.size)
    have HC2 := PCheck_any (HE.out.below hb01) (HA'.out.below hb01)
    have HB01 := Lib.hid hb01
    have hz1 : w.heap.size + 3 ≤ w1.heap.size := by have := hb1.size; have := HZ0.out; omega
    cases hs : spcB s
    · have hc : bothC m s = 30 := by unfold bothC; rw [HM.out, hs]; rfl
      rw [chkS_no hs] at HC2
      have HC2 := Lib.hid HC2
      obtain rfl : cb = 30 := by rw [← HCb.out, hc]
      clear hs hc hb1 hb01
      go_wp2_with fail
      refine HC2.out.mono ?_
      rintro e w2 ⟨rfl, hb2⟩
      have hb2 : Below w0.heap.size w0 w2 := HB1.out.trans (hb2.mono HB1.out.size)
      have HB2 := Lib.hid hb2
      have m0 := (HLay.out w2 hb2).1 0 (by decide)
      have m1 := (HLay.out w2 hb2).1 1 (by decide)
      have m2 := (HLay.out w2 hb2).1 2 (by decide)
      have m3 := (HLay.out w2 hb2).1 3 (by decide)
      have m4 := (HLay.out w2 hb2).1 4 (by decide)
      have m5 := (HLay.out w2 hb2).1 5 (by decide)
      have fz0 := (HLay.out w2 hb2).2 0
      have fz1 := (HLay.out w2 hb2).2 1
      have fz2 := (HLay.out w2 hb2).2 2
      have fz3 := (HLay.out w2 hb2).2 3
      have fz4 := (HLay.out w2 hb2).2 4
      have fz5 := (HLay.out w2 hb2).2 5
      have l0 := (HFin.out w2 hb2).out.2 0
      have l1 := (HFin.out w2 hb2).out.2 1
      have l2 := (HFin.out w2 hb2).out.2 2
      have l3 := (HFin.out w2 hb2).out.2 3
      have l4 := (HFin.out w2 hb2).out.2 4
      have l5 := (HFin.out w2 hb2).out.2 5
      simp only [List.getElem?_toArray, List.getElem?_cons_succ, List.getElem?_cons_zero] at l0 l1 l2 l3 l4 l5
      clear hb2 p0 p1
      go_wp2
      exact bodyPost_ret (v := .tuple #[.agg #[.slice none 0 0, .slice none 0 0, .slice none 0 0, .slice none 0 0, .slice none 0 0, .slice none 0 0], .int .i64 30]) (by simp [results, Tryz.results33, go_sem, l0, l1, l2, l3, l4, l5]) rfl ⟨rfl, (HFin.out w2 HB2.out).out.1⟩
    · have hc : bothC m s = if m.acts = s.acts then 0 else 10 := by unfold bothC; rw [HM.out, hs]; rfl
      have hne : m.acts ≠ s.acts := fun e => HBad.out (by rw [hc, if_pos e])
      rw [if_neg hne] at hc
      rw [chkS_yes hs] at HC2
      have HC2 := Lib.hid HC2
      have HD : Hid (decide (m.acts = s.acts) = false) := Lib.hid (decide_eq_false hne)
      obtain rfl : cb = 10 := by rw [← HCb.out, hc]
      clear hs hc hb1 hb01 hne
      go_wp2_with fail
      refine HC2.out.mono ?_
      rintro e w2 ⟨rfl, hb2⟩
      have HB2 := Lib.hid (HB01.out.trans (hb2.mono HB01.out.size))
      have HB20 := Lib.hid (HB1.out.trans (hb2.mono HB1.out.size))
      have hz2 : w.heap.size + 3 ≤ w2.heap.size := by have := hb2.size; omega
      have HY1 := Lib.hid (HX1.out.below hb2 HX1.out.lt)
      have HY2 := Lib.hid (HX2.out.below hb2 HX2.out.lt)
      have q0 := HY1.out.cell 0
      have q1 := HY2.out.cell 0
      simp only [List.getElem?_toArray, List.getElem?_cons_zero] at q0 q1
      have HC3 := eqStr_any (HA.out.acts.below HB2.out) (HA'.out.acts.below HB2.out)
      rw [HD.out] at HC3
      have HC3 := Lib.hid HC3
      clear hb2 p0 p1
      go_wp2_with fail
      refine HC3.out.mono ?_
      rintro e w3 ⟨rfl, hb3⟩
      have hb3 : Below w0.heap.size w0 w3 := HB20.out.trans (hb3.mono HB20.out.size)
      have HB3 := Lib.hid hb3
      have m0 := (HLay.out w3 hb3).1 0 (by decide)
      have m1 := (HLay.out w3 hb3).1 1 (by decide)
      have m2 := (HLay.out w3 hb3).1 2 (by decide)
      have m3 := (HLay.out w3 hb3).1 3 (by decide)
      have m4 := (HLay.out w3 hb3).1 4 (by decide)
      have m5 := (HLay.out w3 hb3).1 5 (by decide)
      have fz0 := (HLay.out w3 hb3).2 0
      have fz1 := (HLay.out w3 hb3).2 1
      have fz2 := (HLay.out w3 hb3).2 2
      have fz3 := (HLay.out w3 hb3).2 3
      have fz4 := (HLay.out w3 hb3).2 4
      have fz5 := (HLay.out w3 hb3).2 5
      have l0 := (HFin.out w3 hb3).out.2 0
      have l1 := (HFin.out w3 hb3).out.2 1
      have l2 := (HFin.out w3 hb3).out.2 2
      have l3 := (HFin.out w3 hb3).out.2 3
      have l4 := (HFin.out w3 hb3).out.2 4
      have l5 := (HFin.out w3 hb3).out.2 5
      simp only [List.getElem?_toArray, List.getElem?_cons_succ, List.getElem?_cons_zero] at l0 l1 l2 l3 l4 l5
      clear hb3 q0 q1
      go_wp2
      exact bodyPost_ret (v := .tuple #[.agg #[.slice none 0 0, .slice none 0 0, .slice none 0 0, .slice none 0 0, .slice none 0 0, .slice none 0 0], .int .i64 10]) (by simp [results, Tryz.results33, go_sem, l0, l1, l2, l3, l4, l5]) rfl ⟨rfl, (HFin.out w3 HB3.out).out.1⟩

set_option maxRecDepth 100000 in
set_option maxHeartbeats 4000000 in
theorem Satisfies_bad {w : World} {a : Option Addr} {n c : Nat} {b : Option Addr} {k d : Nat} {m : Syst} {a' : Option Addr} {n' c' : Nat} {b' : Option Addr} {k' d' : Nat} {s : Spc} {e0 e1 e2 : Addr} (E : Errs w e0 e1 e2) (A : SysArg w a n c b k d m) (A' : SpecArg w a' n' c' b' k' d' s) (hbad : bothC m s ≠ 0) :
    Calls Tryz.prog 11 #[.agg #[.slice a n c, .slice b k d], .agg #[.slice a' n' c', .slice b' k' d']] w fun e w' => e = .returned (.tuple #[.agg #[.bool false, .slice none 0 0, .slice none 0 0, .int .i64 0], .int .i64 (bothC m s)]) ∧ Below w.heap.size w w' := by
  have hB := (Below.refl w.heap.size w).alloc (Nat.le_refl _) (.cells #[.slice a n c, .slice b k d] 25)
  have hB2 := hB.alloc (by simp) (.cells #[.slice a' n' c', .slice b' k' d'] 28)
  have hB3 := hB2.alloc (by simp; omega) (.cells #[.bool false, .slice none 0 0, .slice none 0 0, .int .i64 0] 39)
  have hW3 := Whole.new ((w.alloc (.cells #[.slice a n c, .slice b k d] 25)).alloc (.cells #[.slice a' n' c', .slice b' k' d'] 28)) 39 #[.bool false, .slice none 0 0, .slice none 0 0, .int .i64 0]
  have hW1 := ((Whole.new w 25 #[.slice a n c, .slice b k d]).alloc (.cells #[.slice a' n' c', .slice b' k' d'] 28)).alloc (.cells #[.bool false, .slice none 0 0, .slice none 0 0, .int .i64 0] 39)
  simp only [World.size_alloc] at hW3
  obtain ⟨w0, HW0⟩ : ∃ z, Hid (((w.alloc (.cells #[.slice a n c, .slice b k d] 25)).alloc (.cells #[.slice a' n' c', .slice b' k' d'] 28)).alloc (.cells #[.bool false, .slice none 0 0, .slice none 0 0, .int .i64 0] 39) = z) := ⟨_, Lib.hid rfl⟩
  have hz0 : w0.heap.size = w.heap.size + 3 := by rw [← HW0.out]; simp
  rw [HW0.out] at hB3 hW1 hW3
  have HT := Lib.hid (newTrial_bad (E.below hB3) (A.below hB3) (A'.below hB3) hbad)
  have HB0 := Lib.hid hB3
  have HW3 := Lib.hid hW3
  obtain ⟨cb, HCb⟩ : ∃ z, Hid (bothC m s = z) := ⟨_, Lib.hid rfl⟩
  rw [HCb.out] at HT hbad ⊢
  clear hB hB2 hB3 A A' E hW1 hW3
  go_enter Tryz.func11, Tryz.ntmps11
  go_wp2_with fail
  rw [HW0.out]
  refine HT.out.mono ?_
  rintro e w1 ⟨rfl, hb1⟩
  have hz1 : w.heap.size + 3 ≤ w1.heap.size := by have := hb1.size; omega
  have hb2 := hb1.alloc hb1.size (.cells #[.slice none 0 0, .slice none 0 0, .slice none 0 0, .slice none 0 0, .slice none 0 0, .slice none 0 0] 79)
  have hv2 := HW3.out.below hb2 HW3.out.lt
  have m0 := hv2.cell 0
  have m1 := hv2.cell 1
  have m2 := hv2.cell 2
  have m3 := hv2.cell 3
  have fz0 := hv2.frozen 0
  have fz1 := hv2.frozen 1
  have fz2 := hv2.frozen 2
  have fz3 := hv2.frozen 3
  have l0 := ((((hv2.set 0 (.bool false)).set 1 (.slice none 0 0)).set 2 (.slice none 0 0)).set 3 (.int .i64 0)).cell 0
  have l1 := ((((hv2.set 0 (.bool false)).set 1 (.slice none 0 0)).set 2 (.slice none 0 0)).set 3 (.int .i64 0)).cell 1
  have l2 := ((((hv2.set 0 (.bool false)).set 1 (.slice none 0 0)).set 2 (.slice none 0 0)).set 3 (.int .i64 0)).cell 2
  have l3 := ((((hv2.set 0 (.bool false)).set 1 (.slice none 0 0)).set 2 (.slice none 0 0)).set 3 (.int .i64 0)).cell 3
  simp only [List.setIfInBounds_toArray, List.set_cons_zero, List.set_cons_succ, List.getElem?_toArray, List.getElem?_cons_succ, List.getElem?_cons_zero] at m0 m1 m2 m3 l0 l1 l2 l3
  have HF := Lib.hid (below_put (i := 3) (v := .int .i64 0) (below_put (i := 2) (v := .slice none 0 0) (below_put (i := 1) (v := .slice none 0 0) (below_put (i := 0) (v := .bool false) (HB0.out.trans (hb2.mono HB0.out.size)) (show w.heap.size ≤ w.heap.size + 2 by omega)) (show w.heap.size ≤ w.heap.size + 2 by omega)) (show w.heap.size ≤ w.heap.size + 2 by omega)) (show w.heap.size ≤ w.heap.size + 2 by omega))
  have hcb : (cb != 0) = true := by simpa using hbad
  clear hb1 hb2 hv2 hbad
  clear HB0 HW3 HT hz0 HW0 HCb
  go_wp2
  exact bodyPost_ret (v := .tuple #[.agg #[.bool false, .slice none 0 0, .slice none 0 0, .int .i64 0], .int .i64 cb]) (by simp [results, Tryz.results11, go_sem, l0, l1, l2, l3]) rfl ⟨rfl, HF.out⟩
end Go.Proofs.YtgpfpnenpgnogaaGreatDoor
/- spec.Right. -/
namespace Go.Proofs.YtgpfpnenpgnogaaGreatDoor
open Go.RowKit Pl

/-- what Right answers -/
def rightB (m : Syst) (s : Spc) (h : Bool) (L : List Edg) (word : List Int) (st : Int) : Bool :=
  if bothC m s = 0 then (if h then decide (word = []) && decide (st = 0) && relB m s L else decide (L = []) && faultB m s word st) else false
theorem bothC_zero' {m : Syst} {s : Spc} (h : bothC m s = 0) : sysB m = true ∧ spcB s = true ∧ m.acts = s.acts := by
  unfold bothC at h
  split at h
  · rename_i h1
    split at h
    · rename_i h2
      split at h
      · rename_i h3; exact ⟨h1, h2, h3⟩
      · exact absurd h (by decide)
    · exact absurd h (by decide)
  · exact absurd h (by decide)

set_option maxRecDepth 100000 in
set_option maxHeartbeats 16000000 in
theorem Right_any {w : World} {a : Option Addr} {n c : Nat} {b : Option Addr} {k d : Nat} {m : Syst} {a' : Option Addr} {n' c' : Nat} {b' : Option Addr} {k' d' : Nat} {s : Spc} {e0 e1 e2 : Addr} (E : Errs w e0 e1 e2) (A : SysArg w a n c b k d m) (A' : SpecArg w a' n' c' b' k' d' s) (h : Bool) {pa : Option Addr} {pn pc : Nat} {L : List Edg} (P : EdgeArg w pa pn pc L) {wa : Option Addr} {wn wc : Nat} {word : List Int} (Wd : IntArg w wa wn wc word) (st : Int) :
    Calls Tryz.prog 18 #[.agg #[.slice a n c, .slice b k d], .agg #[.slice a' n' c', .slice b' k' d'], .agg #[.bool h, .slice pa pn pc, .slice wa wn wc, .int .i64 st]] w fun e w' => e = .returned (.tuple #[.bool (rightB m s h L word st), .int .i64 (bothC m s)]) ∧ Below w.heap.size w w' := by
  have hB := (Below.refl w.heap.size w).alloc (Nat.le_refl _) (.cells #[.slice a n c, .slice b k d] 25)
  have hB2 := hB.alloc (by simp) (.cells #[.slice a' n' c', .slice b' k' d'] 28)
  have hB3 := hB2.alloc (by simp; omega) (.cells #[.bool h, .slice pa pn pc, .slice wa wn wc, .int .i64 st] 39)
  have hW3 := Whole.new ((w.alloc (.cells #[.slice a n c, .slice b k d] 25)).alloc (.cells #[.slice a' n' c', .slice b' k' d'] 28)) 39 #[.bool h, .slice pa pn pc, .slice wa wn wc, .int .i64 st]
  simp only [World.size_alloc] at hW3
  obtain ⟨w0, HW0⟩ : ∃ z, Hid (((w.alloc (.cells #[.slice a n c, .slice b k d] 25)).alloc (.cells #[.slice a' n' c', .slice b' k' d'] 28)).alloc (.cells #[.bool h, .slice pa pn pc, .slice wa wn wc, .int .i64 st] 39) = z) := ⟨_, Lib.hid rfl⟩
  rw [HW0.out] at hB3 hW3
  have HA := Lib.hid (A.below hB3)
  have HA' := Lib.hid (A'.below hB3)
  have HE := Lib.hid (E.below hB3)
  have HP := Lib.hid (P.below hB3)
  have HWd := Lib.hid (Wd.below hB3)
  have HB0 := Lib.hid hB3
  have HW3 := Lib.hid hW3
  have hpb : pn ≤ 140737488355328 := P.big
  have hwb : wn ≤ 9223372036854775807 := Wd.big
  have HPl : Hid (L = [] ↔ pn = 0) := Lib.hid (by rw [P.len]; exact List.length_eq_zero_iff.symm)
  have HWl : Hid (word = [] ↔ wn = 0) := Lib.hid (by rw [Wd.len]; exact List.length_eq_zero_iff.symm)
  clear hB hB2 hB3 A A' E P Wd hW3
  by_cases hc : bothC m s = 0
  · obtain ⟨hm, hs, ha⟩ := bothC_zero' hc
    have HT := Lib.hid (newTrial_ok HE.out HA.out HA'.out hm hs ha)
    have HM := Lib.hid hm
    have HS := Lib.hid hs
    have HC := Lib.hid hc
    have hk1 : 1 ≤ k := by have := ((sysB_iff m).1 hm).2.1; have := HA.out.len; omega
    have HOL : Hid ((offL m).length = k) := Lib.hid (by unfold offL; rw [List.length_map]; exact HA.out.len.symm)
    rw [hc]
    have HR : Hid (rightB m s h L word st = if h then decide (word = []) && decide (st = 0) && relB m s L else decide (L = []) && faultB m s word st) := Lib.hid (by unfold rightB; rw [if_pos hc])
    clear hm hs ha hc
    go_enter Tryz.func18, Tryz.ntmps18
    go_wp2_with fail
    rw [HW0.out]
    refine HT.out.mono ?_
    rintro e w1 ⟨vo, R, rfl, hoff, hacc, hb1⟩
    obtain ⟨oa, oc, rfl⟩ := own_slice' hoff
    have HTr : Hid (TrArg w1 w0.heap.size a n c b k d m a' n' c' b' k' d' s (.slice oa (offL m).length oc) R) := Lib.hid ⟨HA.out.below hb1, HA'.out.below hb1, hoff, hacc⟩
    rw [HOL.out] at HTr
    rw [HOL.out]
    have hal := (Below.refl w1.heap.size w1).alloc (Nat.le_refl _) (.cells #[.slice a n c, .slice b k d, .slice a' n' c', .slice b' k' d', .slice oa k oc, .slice (some ⟨R, 0, none⟩) k' k'] 79)
    have hTa := HTr.out.below hal
    have hb01 := hb1.trans (hal.mono hb1.size)
    have hV := HW3.out.below hb01 HW3.out.lt
    have c0 := hV.cell 0
    have c1 := hV.cell 1
    have c2 := hV.cell 2
    have c3 := hV.cell 3
    simp only [List.getElem?_toArray, List.getElem?_cons_succ, List.getElem?_cons_zero] at c0 c1 c2 c3
    have HB1 := Lib.hid (HB0.out.trans (hb01.mono HB0.out.size))
    have HTa := Lib.hid hTa
    have HPa := Lib.hid (HP.out.below hb01)
    have HWa := Lib.hid (HWd.out.below hb01)
    clear hoff hacc hb1 hal hTa hb01 hV HTr
    cases h
    · have HR2 : Hid (rightB m s false L word st = (decide (L = []) && faultB m s word st)) := Lib.hid HR.out
      by_cases hp0 : pn = 0
      · have HF := isFault_any HTa.out HM.out HS.out HWa.out st
        have HR3 : Hid (rightB m s false L word st = faultB m s word st) := Lib.hid (by rw [HR2.out, decide_eq_true (HPl.out.2 hp0), Bool.true_and])
        obtain ⟨fv, HFv⟩ : ∃ z, Hid (faultB m s word st = z) := ⟨_, Lib.hid rfl⟩
        rw [HFv.out] at HF HR3
        have HF := Lib.hid HF
        subst hp0
        go_wp2_with fail
        refine HF.out.mono ?_
        rintro e w2 ⟨rfl, hb2⟩
        have HB2 := Lib.hid (HB1.out.trans (hb2.mono HB1.out.size))
        clear hb2
        go_wp2
        go_ret2
        exact ⟨by rw [HR3.out]; rfl, HB2.out⟩
      · have HR3 : Hid (rightB m s false L word st = false) := Lib.hid (by rw [HR2.out, decide_eq_false (fun e => hp0 (HPl.out.1 e))]; rfl)
        have hq : ((pn : Int) == 0) = false := by rw [beq_eq_false_iff_ne]; omega
        go_wp2
        go_ret2
        exact ⟨by rw [HR3.out]; rfl, HB1.out⟩
    · have HR2 : Hid (rightB m s true L word st = (decide (word = []) && decide (st = 0) && relB m s L)) := Lib.hid HR.out
      by_cases hw0 : wn = 0
      · by_cases hs0 : st = 0
        · have HF := isShownBy_any HTa.out HM.out HS.out HPa.out
          have HR3 : Hid (rightB m s true L word st = relB m s L) := Lib.hid (by rw [HR2.out, decide_eq_true (HWl.out.2 hw0), decide_eq_true hs0]; rfl)
          obtain ⟨fv, HFv⟩ : ∃ z, Hid (relB m s L = z) := ⟨_, Lib.hid rfl⟩
          rw [HFv.out] at HF HR3
          have HF := Lib.hid HF
          subst hw0
          subst hs0
          go_wp2_with fail
          refine HF.out.mono ?_
          rintro e w2 ⟨rfl, hb2⟩
          have HB2 := Lib.hid (HB1.out.trans (hb2.mono HB1.out.size))
          clear hb2
          go_wp2
          go_ret2
          exact ⟨by rw [HR3.out]; rfl, HB2.out⟩
        · have HR3 : Hid (rightB m s true L word st = false) := Lib.hid (by rw [HR2.out, decide_eq_false hs0, Bool.and_false]; rfl)
          have hq : (st == 0) = false := by rw [beq_eq_false_iff_ne]; exact hs0
          subst hw0
          go_wp2
          go_ret2
          exact ⟨by rw [HR3.out]; rfl, HB1.out⟩
      · have HR3 : Hid (rightB m s true L word st = false) := Lib.hid (by rw [HR2.out, decide_eq_false (fun e => hw0 (HWl.out.1 e))]; rfl)
        have hq : ((wn : Int) == 0) = false := by rw [beq_eq_false_iff_ne]; omega
        go_wp2
        go_ret2
        exact ⟨by rw [HR3.out]; rfl, HB1.out⟩
  · have HT := Lib.hid (newTrial_bad HE.out HA.out HA'.out hc)
    have HR3 : Hid (rightB m s h L word st = false) := Lib.hid (by unfold rightB; rw [if_neg hc])
    obtain ⟨cb, HCb⟩ : ∃ z, Hid (bothC m s = z) := ⟨_, Lib.hid rfl⟩
    rw [HCb.out] at HT hc ⊢
    have hq : (cb != 0) = true := by simpa using hc
    go_enter Tryz.func18, Tryz.ntmps18
    go_wp2_with fail
    rw [HW0.out]
    refine HT.out.mono ?_
    rintro e w1 ⟨rfl, hb1⟩
    have HB1 := Lib.hid (HB0.out.trans ((hb1.alloc hb1.size (.cells #[.slice none 0 0, .slice none 0 0, .slice none 0 0, .slice none 0 0, .slice none 0 0, .slice none 0 0] 79)).mono HB0.out.size))
    clear hb1 hc
    go_wp2
    go_ret2
    exact ⟨by rw [HR3.out]; rfl, HB1.out⟩
end Go.Proofs.YtgpfpnenpgnogaaGreatDoor
/- The reference's SamePairs at equal rows of pairs; the law's zero at the zero verdict. -/
namespace Go.Proofs.YtgpfpnenpgnogaaGreatDoor
open Go.RowKit Pl

theorem neqP (a b : Int) (w : World) : (binOp .neq 75 (.agg #[.int .i64 a, .int .i64 b]) (.agg #[.int .i64 a, .int .i64 b])).run Tryz.prog w = .ok (.bool false) w := by
  obtain ⟨i, hi, _, _, _⟩ := info_parts infoInt
  have u3 := Tryz.underlying3
  have a3 := Tryz.isAgg3
  have z3 := Tryz.sizeOf3
  have hc : Tryz.prog.cellsOf 3 = 1 := by kernel_rfl
  rw [run_neq_struct, show (10000 : Nat) = 9999 + 1 from rfl, run_equalIn_array w 9999 _ _ Tryz.underlying75 hi, hc, show List.range 2 = [0, 1] from rfl]
  simp only [Op.eqItems]
  go_simp
theorem guardP (op : BinOp) (x y : Operand) (xs ys : Array Value) (w : World) : (eqGuard op 75 x y (.agg xs) (.agg ys)).run Tryz.prog w = .ok () w := run_eqGuard_agg w op _ x y xs ys (by kernel_rfl)
/-- the cells of a pair of a row -/
theorem pair_cells2 {W : World} {B n : Nat} {v : Value} {L : List (Nat × Nat)} (h : W.ownsRow B 75 2 v n (pcells L)) {r x y : Nat} (hr : r < n) (hL : L[r]? = some (x, y)) :
    ∃ b c, v = .slice (some ⟨b, 0, none⟩) n c ∧ W.cell? ⟨b, r * 2, none⟩ = some (.int .i64 x) ∧ W.cell? ⟨b, r * 2 + 1, none⟩ = some (.int .i64 y) := by
  have h0 := h
  rcases h.2 with ⟨e, e0⟩ | ⟨b, cap, cur, e, _⟩
  · omega
  · subst e
    obtain ⟨h1, h2⟩ := pcells_at L r x y hL
    exact ⟨b, _, rfl, (h0.cellAt _ (by omega)).trans h1, (h0.cellAt _ (by omega)).trans h2⟩
set_option maxHeartbeats 1000000 in
theorem SamePairs_any {w : World} {B B' : Nat} {v v' : Value} {L : List (Nat × Nat)} (hP : w.ownsRow B 75 2 v L.length (pcells L)) (hQ : w.ownsRow B' 75 2 v' L.length (pcells L)) (hl : L.length ≤ 10000000) :
    Calls Tryz.prog 15 #[v, v'] w fun e w' => e = .returned (.bool true) ∧ Below w.heap.size w w' := by
  obtain ⟨a, c, rfl⟩ := own_slice' hP
  obtain ⟨a', c', rfl⟩ := own_slice' hQ
  obtain ⟨n, HN⟩ : ∃ z, Hid (L.length = z) := ⟨_, Lib.hid rfl⟩
  rw [HN.out] at hP hQ hl ⊢
  have HP := Lib.hid hP
  have HQ := Lib.hid hQ
  clear hP hQ
  go_enter Tryz.func15, Tryz.ntmps15
  go_wp2
  go_loopw [5, 6, 14] (fun _ _ i wr => ∃ k : Nat, k ≤ n ∧ i = .int .i64 k ∧ Below w.heap.size w wr) (fun _ _ i _ => n - (intOf i).toNat)
  case atStart => exact ⟨0, Nat.zero_le _, rfl, Below.refl _ _⟩
  case round =>
    obtain ⟨k, hk, rfl, hb⟩ := hrel
    by_cases hlt : k < n
    · obtain ⟨⟨x, y⟩, hL⟩ : ∃ p, L[k]? = some p := ⟨_, List.getElem?_eq_getElem (by rw [HN.out]; exact hlt)⟩
      obtain ⟨b, cc, e, c1, c2⟩ := pair_cells2 (own_up' HP.out hb) hlt hL
      cases e
      obtain ⟨b', cc', e, d1, d2⟩ := pair_cells2 (own_up' HQ.out hb) hlt hL
      cases e
      have k0 : (0 : Int) ≤ (k : Int) := by omega
      have k1 : (k : Int) < (n : Int) := by omega
      have hgd := guardP .neq
      have hne := neqP x y
      have D1 := cell_new d1
      have D2 := cell_new d2
      clear hL
      go_wp2
      go_quiet (fail)
      go_wp2
      go_roundw
      case rel => exact ⟨k + 1, by omega, by go_num, below_drewN (hb.alloc hb.size _) _⟩
      case measure => simp [intOf]; omega
    · go_wp2
      go_ret
      exact ⟨rfl, hb⟩
set_option maxHeartbeats 1000000 in
theorem zero_any (w : World) : Calls Tryz.prog 14 #[.agg #[.bool false, .slice none 0 0, .slice none 0 0, .int .i64 0]] w fun e w' => e = .returned (.bool true) ∧ Below w.heap.size w w' := by
  have HB := Lib.hid ((Below.refl w.heap.size w).alloc (Nat.le_refl _) (.cells #[.bool false, .slice none 0 0, .slice none 0 0, .int .i64 0] 39))
  go_enter Tryz.func14, Tryz.ntmps14
  go_wp2
  go_ret
  exact ⟨rfl, HB.out⟩
end Go.Proofs.YtgpfpnenpgnogaaGreatDoor
