/- Texts joined: SatE, SatZ, Split. -/
import Derived.Test.YtohljainhkdiiaaGreatDoorJp24
import Derived.Test.YtohljainhkdiiaaGreatDoorJp27
import Derived.Test.YtohljainhkdiiaaGreatDoorJp31
import Derived.ChangeKeysEq
import Derived.Test.YtohljainhkdiiaaGreatDoorJp05
import Derived.Test.YtohljainhkdiiaaGreatDoorJp17
import Derived.Test.YtohljainhkdiiaaGreatDoorJp07
import Derived.Sort.LoopGhostIn
import Derived.Lib.IndexBytes
/- newTrial, Satisfies at arguments that are not valid, or whose actions differ. -/
namespace Go.Proofs.YtohljainhkdiiaaGreatDoor
open Go.RowKit Pl

theorem below_put {B g i : Nat} {w W : World} {v : Value} (h : Below B w W) (hg : B ≤ g) : Below B w (W.setCell ⟨g, i, none⟩ v) := h.setCell (p := ⟨g, i, none⟩) hg v

set_option maxRecDepth 100000 in
set_option maxHeartbeats 4000000 in
theorem newTrial_bad {w : World} {a : Option Addr} {n c : Nat} {b : Option Addr} {k d : Nat} {m : Syst} {a' : Option Addr} {n' c' : Nat} {b' : Option Addr} {k' d' : Nat} {s : Spc} {e0 e1 e2 : Addr} (E : Errs w e0 e1 e2) (A : SysArg w a n c b k d m) (A' : SpecArg w a' n' c' b' k' d' s) (hbad : bothC m s ≠ 0) :
    Calls Tryz.prog 48 #[.agg #[.slice a n c, .slice b k d], .agg #[.slice a' n' c', .slice b' k' d']] w fun e w' => e = .returned (.tuple #[.agg #[.slice none 0 0, .slice none 0 0, .slice none 0 0, .slice none 0 0, .slice none 0 0, .slice none 0 0], .int .i64 (bothC m s)]) ∧ Below w.heap.size w w' := by
  have hB := (Below.refl w.heap.size w).alloc (Nat.le_refl _) (.cells #[.slice a n c, .slice b k d] 25)
  have hB2 := hB.alloc (by simp) (.cells #[.slice a' n' c', .slice b' k' d'] 40)
  have hB3 := hB2.alloc (by simp; omega) (.cells #[.slice none 0 0, .slice none 0 0, .slice none 0 0, .slice none 0 0, .slice none 0 0, .slice none 0 0] 100)
  have hW1 := ((Whole.new w 25 #[.slice a n c, .slice b k d]).alloc (.cells #[.slice a' n' c', .slice b' k' d'] 40)).alloc (.cells #[.slice none 0 0, .slice none 0 0, .slice none 0 0, .slice none 0 0, .slice none 0 0, .slice none 0 0] 100)
  have hW2 := (Whole.new (w.alloc (.cells #[.slice a n c, .slice b k d] 25)) 40 #[.slice a' n' c', .slice b' k' d']).alloc (.cells #[.slice none 0 0, .slice none 0 0, .slice none 0 0, .slice none 0 0, .slice none 0 0, .slice none 0 0] 100)
  have hW3 := Whole.new ((w.alloc (.cells #[.slice a n c, .slice b k d] 25)).alloc (.cells #[.slice a' n' c', .slice b' k' d'] 40)) 100 #[.slice none 0 0, .slice none 0 0, .slice none 0 0, .slice none 0 0, .slice none 0 0, .slice none 0 0]
  simp only [World.size_alloc] at hW2 hW3
  obtain ⟨w0, HW0⟩ : ∃ z, Hid (((w.alloc (.cells #[.slice a n c, .slice b k d] 25)).alloc (.cells #[.slice a' n' c', .slice b' k' d'] 40)).alloc (.cells #[.slice none 0 0, .slice none 0 0, .slice none 0 0, .slice none 0 0, .slice none 0 0, .slice none 0 0] 100) = z) := ⟨_, Lib.hid rfl⟩
  have hz0 : w0.heap.size = w.heap.size + 3 := by rw [← HW0.out]; simp
  rw [HW0.out] at hB3 hW1 hW2 hW3
  have HC1 := SCheck_any (E.below hB3) (A.below hB3)
  have HA := Lib.hid A
  have HA' := Lib.hid A'
  have HE := Lib.hid E
  have HB0 := Lib.hid hB3
  have HW1 := Lib.hid hW1
  have HW2 := Lib.hid hW2
  have HW3 := Lib.hid hW3
  have HZ0 := Lib.hid hz0
  have HBad := Lib.hid hbad
  clear hB hB2 hB3 A A' E hW1 hW2 hW3 hz0 hbad
  -- what is left once the code is known
  have fin : ∀ (W : World), Below w0.heap.size w0 W → Hid (Below w.heap.size w ((((((W.setCell ⟨w.heap.size + 2, 0, none⟩ (.slice none 0 0)).setCell ⟨w.heap.size + 2, 1, none⟩ (.slice none 0 0)).setCell ⟨w.heap.size + 2, 2, none⟩ (.slice none 0 0)).setCell ⟨w.heap.size + 2, 3, none⟩ (.slice none 0 0)).setCell ⟨w.heap.size + 2, 4, none⟩ (.slice none 0 0)).setCell ⟨w.heap.size + 2, 5, none⟩ (.slice none 0 0)) ∧ ∀ i, (((((((W.setCell ⟨w.heap.size + 2, 0, none⟩ (.slice none 0 0)).setCell ⟨w.heap.size + 2, 1, none⟩ (.slice none 0 0)).setCell ⟨w.heap.size + 2, 2, none⟩ (.slice none 0 0)).setCell ⟨w.heap.size + 2, 3, none⟩ (.slice none 0 0)).setCell ⟨w.heap.size + 2, 4, none⟩ (.slice none 0 0)).setCell ⟨w.heap.size + 2, 5, none⟩ (.slice none 0 0))).cell? ⟨w.heap.size + 2, i, none⟩ = (#[.slice none 0 0, .slice none 0 0, .slice none 0 0, .slice none 0 0, .slice none 0 0, .slice none 0 0] : Array Value)[i]?) := fun W hW => Lib.hid (by
    refine ⟨?_, fun i => ?_⟩
    · have h1 := HB0.out.trans (hW.mono HB0.out.size)
      exact below_put (below_put (below_put (below_put (below_put (below_put h1 (by omega)) (by omega)) (by omega)) (by omega)) (by omega)) (by omega)
    · have h1 := HW3.out.below hW HW3.out.lt
      have h2 := ((((((h1.set 0 (.slice none 0 0)).set 1 (.slice none 0 0)).set 2 (.slice none 0 0)).set 3 (.slice none 0 0)).set 4 (.slice none 0 0)).set 5 (.slice none 0 0)).cell i
      simpa only [List.setIfInBounds_toArray, List.set_cons_zero, List.set_cons_succ] using h2)
  have lay : ∀ (W : World), Below w0.heap.size w0 W → (∀ i, i < 6 → W.cell? ⟨w.heap.size + 2, i, none⟩ = some (.slice none 0 0)) ∧ (∀ i, W.frozen? ⟨w.heap.size + 2, i, none⟩ = false) := fun W hW => by
    have h1 := HW3.out.below hW HW3.out.lt
    refine ⟨fun i hi => ?_, fun i => h1.frozen i⟩
    rw [h1.cell i]
    match i, hi with
    | 0, _ => rfl
    | 1, _ => rfl
    | 2, _ => rfl
    | 3, _ => rfl
    | 4, _ => rfl
    | 5, _ => rfl
  have HLay := Lib.hid lay
  have HFin := Lib.hid fin
  clear lay fin
  obtain ⟨cb, HCb⟩ : ∃ z, Hid (bothC m s = z) := ⟨_, Lib.hid rfl⟩
  rw [HCb.out]
  go_enter Tryz.func48, Tryz.ntmps48
  cases hm : sysB m
  · have hc : bothC m s = 20 := by unfold bothC; rw [hm]; rfl
    rw [chk_no hm] at HC1
    have HC1 := Lib.hid HC1
    obtain rfl : cb = 20 := by rw [← HCb.out, hc]
    clear hm hc
    go_wp2_with fail
    rw [HW0.out]
    refine HC1.out.mono ?_
    rintro e w1 ⟨rfl, hb1⟩
    have HB1 := Lib.hid hb1
    have m0 := (HLay.out w1 hb1).1 0 (by decide)
    have m1 := (HLay.out w1 hb1).1 1 (by decide)
    have m2 := (HLay.out w1 hb1).1 2 (by decide)
    have m3 := (HLay.out w1 hb1).1 3 (by decide)
    have m4 := (HLay.out w1 hb1).1 4 (by decide)
    have m5 := (HLay.out w1 hb1).1 5 (by decide)
    have fz0 := (HLay.out w1 hb1).2 0
    have fz1 := (HLay.out w1 hb1).2 1
    have fz2 := (HLay.out w1 hb1).2 2
    have fz3 := (HLay.out w1 hb1).2 3
    have fz4 := (HLay.out w1 hb1).2 4
    have fz5 := (HLay.out w1 hb1).2 5
    have l0 := (HFin.out w1 hb1).out.2 0
    have l1 := (HFin.out w1 hb1).out.2 1
    have l2 := (HFin.out w1 hb1).out.2 2
    have l3 := (HFin.out w1 hb1).out.2 3
    have l4 := (HFin.out w1 hb1).out.2 4
    have l5 := (HFin.out w1 hb1).out.2 5
    simp only [List.getElem?_toArray, List.getElem?_cons_succ, List.getElem?_cons_zero] at l0 l1 l2 l3 l4 l5
    clear hb1
    go_wp2
    exact bodyPost_ret (v := .tuple #[.agg #[.slice none 0 0, .slice none 0 0, .slice none 0 0, .slice none 0 0, .slice none 0 0, .slice none 0 0], .int .i64 20]) (by simp [results, Tryz.results48, go_sem, l0, l1, l2, l3, l4, l5]) rfl ⟨rfl, (HFin.out w1 HB1.out).out.1⟩
  · rw [chk_yes hm] at HC1
    have HC1 := Lib.hid HC1
    have HM := Lib.hid hm
    clear hm
    go_wp2_with fail
    rw [HW0.out]
    refine HC1.out.mono ?_
    rintro e w1 ⟨rfl, hb1⟩
    have HB1 := Lib.hid hb1
    have HX1 := Lib.hid (HW1.out.below hb1 HW1.out.lt)
    have HX2 := Lib.hid (HW2.out.below hb1 HW2.out.lt)
    have p0 := HX2.out.cell 0
    have p1 := HX2.out.cell 1
    simp only [List.getElem?_toArray, List.getElem?_cons_succ, List.getElem?_cons_zero] at p0 p1
    have hb01 : Below w.heap.size w w1 := HB0.out.trans (hb1.mono HB0.out.size)
    have HC2 := PCheck_any (HE.out.below hb01) (HA'.out.below hb01)
    have HB01 := Lib.hid hb01
    have hz1 : w.heap.size + 3 ≤ w1.heap.size := by have := hb1.size; have := HZ0.out; omega
    cases hs : spcB s
    · have hc : bothC m s = 30 := by unfold bothC; rw [HM.out, hs]; rfl
      rw [chkS_no hs] at HC2
      have HC2 := Lib.hid HC2
      obtain rfl : cb = 30 := by rw [← HCb.out, hc]
      clear hs hc hb1 hb01
      go_wp2_with fail
      refine HC2.out.mono ?_
      rintro e w2 ⟨rfl, hb2⟩
      have hb2 : Below w0.heap.size w0 w2 := HB1.out.trans (hb2.mono HB1.out.size)
      have HB2 := Lib.hid hb2
      have m0 := (HLay.out w2 hb2).1 0 (by decide)
      have m1 := (HLay.out w2 hb2).1 1 (by decide)
      have m2 := (HLay.out w2 hb2).1 2 (by decide)
      have m3 := (HLay.out w2 hb2).1 3 (by decide)
      have m4 := (HLay.out w2 hb2).1 4 (by decide)
      have m5 := (HLay.out w2 hb2).1 5 (by decide)
      have fz0 := (HLay.out w2 hb2).2 0
      have fz1 := (HLay.out w2 hb2).2 1
      have fz2 := (HLay.out w2 hb2).2 2
      have fz3 := (HLay.out w2 hb2).2 3
      have fz4 := (HLay.out w2 hb2).2 4
      have fz5 := (HLay.out w2 hb2).2 5
      have l0 := (HFin.out w2 hb2).out.2 0
      have l1 := (HFin.out w2 hb2).out.2 1
      have l2 := (HFin.out w2 hb2).out.2 2
      have l3 := (HFin.out w2 hb2).out.2 3
      have l4 := (HFin.out w2 hb2).out.2 4
      have l5 := (HFin.out w2 hb2).out.2 5
      simp only [List.getElem?_toArray, List.getElem?_cons_succ, List.getElem?_cons_zero] at l0 l1 l2 l3 l4 l5
      clear hb2 p0 p1
      go_wp2
      exact bodyPost_ret (v := .tuple #[.agg #[.slice none 0 0, .slice none 0 0, .slice none 0 0, .slice none 0 0, .slice none 0 0, .slice none 0 0], .int .i64 30]) (by simp [results, Tryz.results48, go_sem, l0, l1, l2, l3, l4, l5]) rfl ⟨rfl, (HFin.out w2 HB2.out).out.1⟩
    · have hc : bothC m s = if m.acts = s.acts then 0 else 10 := by unfold bothC; rw [HM.out, hs]; rfl
      have hne : m.acts ≠ s.acts := fun e => HBad.out (by rw [hc, if_pos e])
      rw [if_neg hne] at hc
      rw [chkS_yes hs] at HC2
      have HC2 := Lib.hid HC2
      have HD : Hid (decide (m.acts = s.acts) = false) := Lib.hid (decide_eq_false hne)
      obtain rfl : cb = 10 := by rw [← HCb.out, hc]
      clear hs hc hb1 hb01 hne
      go_wp2_with fail
      refine HC2.out.mono ?_
      rintro e w2 ⟨rfl, hb2⟩
      have HB2 := Lib.hid (HB01.out.trans (hb2.mono HB01.out.size))
      have HB20 := Lib.hid (HB1.out.trans (hb2.mono HB1.out.size))
      have hz2 : w.heap.size + 3 ≤ w2.heap.size := by have := hb2.size; omega
      have HY1 := Lib.hid (HX1.out.below hb2 HX1.out.lt)
      have HY2 := Lib.hid (HX2.out.below hb2 HX2.out.lt)
      have q0 := HY1.out.cell 0
      have q1 := HY2.out.cell 0
      simp only [List.getElem?_toArray, List.getElem?_cons_zero] at q0 q1
      have HC3 := eqStr_any (HA.out.acts.below HB2.out) (HA'.out.acts.below HB2.out)
      rw [HD.out] at HC3
      have HC3 := Lib.hid HC3
      clear hb2 p0 p1
      go_wp2_with fail
      refine HC3.out.mono ?_
      rintro e w3 ⟨rfl, hb3⟩
      have hb3 : Below w0.heap.size w0 w3 := HB20.out.trans (hb3.mono HB20.out.size)
      have HB3 := Lib.hid hb3
      have m0 := (HLay.out w3 hb3).1 0 (by decide)
      have m1 := (HLay.out w3 hb3).1 1 (by decide)
      have m2 := (HLay.out w3 hb3).1 2 (by decide)
      have m3 := (HLay.out w3 hb3).1 3 (by decide)
      have m4 := (HLay.out w3 hb3).1 4 (by decide)
      have m5 := (HLay.out w3 hb3).1 5 (by decide)
      have fz0 := (HLay.out w3 hb3).2 0
      have fz1 := (HLay.out w3 hb3).2 1
      have fz2 := (HLay.out w3 hb3).2 2
      have fz3 := (HLay.out w3 hb3).2 3
      have fz4 := (HLay.out w3 hb3).2 4
      have fz5 := (HLay.out w3 hb3).2 5
      have l0 := (HFin.out w3 hb3).out.2 0
      have l1 := (HFin.out w3 hb3).out.2 1
      have l2 := (HFin.out w3 hb3).out.2 2
      have l3 := (HFin.out w3 hb3).out.2 3
      have l4 := (HFin.out w3 hb3).out.2 4
      have l5 := (HFin.out w3 hb3).out.2 5
      simp only [List.getElem?_toArray, List.getElem?_cons_succ, List.getElem?_cons_zero] at l0 l1 l2 l3 l4 l5
      clear hb3 q0 q1
      go_wp2
      exact bodyPost_ret (v := .tuple #[.agg #[.slice none 0 0, .slice none 0 0, .slice none 0 0, .slice none 0 0, .slice none 0 0, .slice none 0 0], .int .i64 10]) (by simp [results, Tryz.results48, go_sem, l0, l1, l2, l3, l4, l5]) rfl ⟨rfl, (HFin.out w3 HB3.out).out.1⟩

set_option maxRecDepth 100000 in
set_option maxHeartbeats 4000000 in
theorem Satisfies_bad {w : World} {a : Option Addr} {n c : Nat} {b : Option Addr} {k d : Nat} {m : Syst} {a' : Option Addr} {n' c' : Nat} {b' : Option Addr} {k' d' : Nat} {s : Spc} {e0 e1 e2 : Addr} (E : Errs w e0 e1 e2) (A : SysArg w a n c b k d m) (A' : SpecArg w a' n' c' b' k' d' s) (hbad : bothC m s ≠ 0) :
    Calls Tryz.prog 18 #[.agg #[.slice a n c, .slice b k d], .agg #[.slice a' n' c', .slice b' k' d']] w fun e w' => e = .returned (.tuple #[.agg #[.bool false, .slice none 0 0, .slice none 0 0, .int .i64 0], .int .i64 (bothC m s)]) ∧ Below w.heap.size w w' := by
  have hB := (Below.refl w.heap.size w).alloc (Nat.le_refl _) (.cells #[.slice a n c, .slice b k d] 25)
  have hB2 := hB.alloc (by simp) (.cells #[.slice a' n' c', .slice b' k' d'] 40)
  have hB3 := hB2.alloc (by simp; omega) (.cells #[.bool false, .slice none 0 0, .slice none 0 0, .int .i64 0] 47)
  have hW3 := Whole.new ((w.alloc (.cells #[.slice a n c, .slice b k d] 25)).alloc (.cells #[.slice a' n' c', .slice b' k' d'] 40)) 47 #[.bool false, .slice none 0 0, .slice none 0 0, .int .i64 0]
  have hW1 := ((Whole.new w 25 #[.slice a n c, .slice b k d]).alloc (.cells #[.slice a' n' c', .slice b' k' d'] 40)).alloc (.cells #[.bool false, .slice none 0 0, .slice none 0 0, .int .i64 0] 47)
  simp only [World.size_alloc] at hW3
  obtain ⟨w0, HW0⟩ : ∃ z, Hid (((w.alloc (.cells #[.slice a n c, .slice b k d] 25)).alloc (.cells #[.slice a' n' c', .slice b' k' d'] 40)).alloc (.cells #[.bool false, .slice none 0 0, .slice none 0 0, .int .i64 0] 47) = z) := ⟨_, Lib.hid rfl⟩
  have hz0 : w0.heap.size = w.heap.size + 3 := by rw [← HW0.out]; simp
  rw [HW0.out] at hB3 hW1 hW3
  have HT := Lib.hid (newTrial_bad (E.below hB3) (A.below hB3) (A'.below hB3) hbad)
  have HB0 := Lib.hid hB3
  have HW3 := Lib.hid hW3
  obtain ⟨cb, HCb⟩ : ∃ z, Hid (bothC m s = z) := ⟨_, Lib.hid rfl⟩
  rw [HCb.out] at HT hbad ⊢
  clear hB hB2 hB3 A A' E hW1 hW3
  go_enter Tryz.func18, Tryz.ntmps18
  go_wp2_with fail
  rw [HW0.out]
  refine HT.out.mono ?_
  rintro e w1 ⟨rfl, hb1⟩
  have hz1 : w.heap.size + 3 ≤ w1.heap.size := by have := hb1.size; omega
  have hb2 := hb1.alloc hb1.size (.cells #[.slice none 0 0, .slice none 0 0, .slice none 0 0, .slice none 0 0, .slice none 0 0, .slice none 0 0] 100)
  have hv2 := HW3.out.below hb2 HW3.out.lt
  have m0 := hv2.cell 0
  have m1 := hv2.cell 1
  have m2 := hv2.cell 2
  have m3 := hv2.cell 3
  have fz0 := hv2.frozen 0
  have fz1 := hv2.frozen 1
  have fz2 := hv2.frozen 2
  have fz3 := hv2.frozen 3
  have l0 := ((((hv2.set 0 (.bool false)).set 1 (.slice none 0 0)).set 2 (.slice none 0 0)).set 3 (.int .i64 0)).cell 0
  have l1 := ((((hv2.set 0 (.bool false)).set 1 (.slice none 0 0)).set 2 (.slice none 0 0)).set 3 (.int .i64 0)).cell 1
  have l2 := ((((hv2.set 0 (.bool false)).set 1 (.slice none 0 0)).set 2 (.slice none 0 0)).set 3 (.int .i64 0)).cell 2
  have l3 := ((((hv2.set 0 (.bool false)).set 1 (.slice none 0 0)).set 2 (.slice none 0 0)).set 3 (.int .i64 0)).cell 3
  simp only [List.setIfInBounds_toArray, List.set_cons_zero, List.set_cons_succ, List.getElem?_toArray, List.getElem?_cons_succ, List.getElem?_cons_zero] at m0 m1 m2 m3 l0 l1 l2 l3
  have HF := Lib.hid (below_put (i := 3) (v := .int .i64 0) (below_put (i := 2) (v := .slice none 0 0) (below_put (i := 1) (v := .slice none 0 0) (below_put (i := 0) (v := .bool false) (HB0.out.trans (hb2.mono HB0.out.size)) (show w.heap.size ≤ w.heap.size + 2 by omega)) (show w.heap.size ≤ w.heap.size + 2 by omega)) (show w.heap.size ≤ w.heap.size + 2 by omega)) (show w.heap.size ≤ w.heap.size + 2 by omega))
  have hcb : (cb != 0) = true := by simpa using hbad
  clear hb1 hb2 hv2 hbad
  clear HB0 HW3 HT hz0 HW0 HCb
  go_wp2
  exact bodyPost_ret (v := .tuple #[.agg #[.bool false, .slice none 0 0, .slice none 0 0, .int .i64 0], .int .i64 cb]) (by simp [results, Tryz.results18, go_sem, l0, l1, l2, l3]) rfl ⟨rfl, HF.out⟩
end Go.Proofs.YtohljainhkdiiaaGreatDoor
/- The reference's SamePairs at equal rows of pairs; the law's zero at the zero verdict. -/
namespace Go.Proofs.YtohljainhkdiiaaGreatDoor
open Go.RowKit Pl

theorem neqP (a b : Int) (w : World) : (binOp .neq 96 (.agg #[.int .i64 a, .int .i64 b]) (.agg #[.int .i64 a, .int .i64 b])).run Tryz.prog w = .ok (.bool false) w := by
  obtain ⟨i, hi, _, _, _⟩ := info_parts infoInt
  have u3 := Tryz.underlying3
  have a3 := Tryz.isAgg3
  have z3 := Tryz.sizeOf3
  have hc : Tryz.prog.cellsOf 3 = 1 := by kernel_rfl
  rw [run_neq_struct, show (10000 : Nat) = 9999 + 1 from rfl, run_equalIn_array w 9999 _ _ Tryz.underlying96 hi, hc, show List.range 2 = [0, 1] from rfl]
  simp only [Op.eqItems]
  go_simp
theorem guardP (op : BinOp) (x y : Operand) (xs ys : Array Value) (w : World) : (eqGuard op 96 x y (.agg xs) (.agg ys)).run Tryz.prog w = .ok () w := run_eqGuard_agg w op _ x y xs ys (by kernel_rfl)
/-- the cells of a pair of a row -/
theorem pair_cells2 {W : World} {B n : Nat} {v : Value} {L : List (Nat × Nat)} (h : W.ownsRow B 96 2 v n (pcells L)) {r x y : Nat} (hr : r < n) (hL : L[r]? = some (x, y)) :
    ∃ b c, v = .slice (some ⟨b, 0, none⟩) n c ∧ W.cell? ⟨b, r * 2, none⟩ = some (.int .i64 x) ∧ W.cell? ⟨b, r * 2 + 1, none⟩ = some (.int .i64 y) := by
  have h0 := h
  rcases h.2 with ⟨e, e0⟩ | ⟨b, cap, cur, e, _⟩
  · omega
  · subst e
    obtain ⟨h1, h2⟩ := pcells_at L r x y hL
    exact ⟨b, _, rfl, (h0.cellAt _ (by omega)).trans h1, (h0.cellAt _ (by omega)).trans h2⟩
set_option maxHeartbeats 1000000 in
theorem SamePairs_any {w : World} {B B' : Nat} {v v' : Value} {L : List (Nat × Nat)} (hP : w.ownsRow B 96 2 v L.length (pcells L)) (hQ : w.ownsRow B' 96 2 v' L.length (pcells L)) (hl : L.length ≤ 10000000) :
    Calls Tryz.prog 21 #[v, v'] w fun e w' => e = .returned (.bool true) ∧ Below w.heap.size w w' := by
  obtain ⟨a, c, rfl⟩ := own_slice' hP
  obtain ⟨a', c', rfl⟩ := own_slice' hQ
  obtain ⟨n, HN⟩ : ∃ z, Hid (L.length = z) := ⟨_, Lib.hid rfl⟩
  rw [HN.out] at hP hQ hl ⊢
  have HP := Lib.hid hP
  have HQ := Lib.hid hQ
  clear hP hQ
  go_enter Tryz.func21, Tryz.ntmps21
  go_wp2
  go_loopw [5, 6, 14] (fun _ _ i wr => ∃ k : Nat, k ≤ n ∧ i = .int .i64 k ∧ Below w.heap.size w wr) (fun _ _ i _ => n - (intOf i).toNat)
  case atStart => exact ⟨0, Nat.zero_le _, rfl, Below.refl _ _⟩
  case round =>
    obtain ⟨k, hk, rfl, hb⟩ := hrel
    by_cases hlt : k < n
    · obtain ⟨⟨x, y⟩, hL⟩ : ∃ p, L[k]? = some p := ⟨_, List.getElem?_eq_getElem (by rw [HN.out]; exact hlt)⟩
      obtain ⟨b, cc, e, c1, c2⟩ := pair_cells2 (own_up' HP.out hb) hlt hL
      cases e
      obtain ⟨b', cc', e, d1, d2⟩ := pair_cells2 (own_up' HQ.out hb) hlt hL
      cases e
      have k0 : (0 : Int) ≤ (k : Int) := by omega
      have k1 : (k : Int) < (n : Int) := by omega
      have hgd := guardP .neq
      have hne := neqP x y
      have D1 := cell_new d1
      have D2 := cell_new d2
      clear hL
      go_wp2
      go_quiet (fail)
      go_wp2
      go_roundw
      case rel => exact ⟨k + 1, by omega, by go_num, below_drewN (hb.alloc hb.size _) _⟩
      case measure => simp [intOf]; omega
    · go_wp2
      go_ret
      exact ⟨rfl, hb⟩
set_option maxHeartbeats 1000000 in
theorem zero_any (w : World) : Calls Tryz.prog 20 #[.agg #[.bool false, .slice none 0 0, .slice none 0 0, .int .i64 0]] w fun e w' => e = .returned (.bool true) ∧ Below w.heap.size w w' := by
  have HB := Lib.hid ((Below.refl w.heap.size w).alloc (Nat.le_refl _) (.cells #[.bool false, .slice none 0 0, .slice none 0 0, .int .i64 0] 47))
  go_enter Tryz.func20, Tryz.ntmps20
  go_wp2
  go_ret
  exact ⟨rfl, HB.out⟩
end Go.Proofs.YtohljainhkdiiaaGreatDoor
/- strings.SplitSeq at a comma, as an iterator. -/
namespace Go.Proofs.YtohljainhkdiiaaGreatDoor
open Go.RowKit Go.Shelf Pl

def partsB (r : ByteArray) : List ByteArray := (parts r.data.toList).map mk
theorem mk_extract (r : ByteArray) (i j : Nat) (l : List UInt8) (h : (r.extract i j).data.toList = l) : mk l = r.extract i j := by
  rw [← h]; exact mk_of _
theorem partsB_none {r : ByteArray} (h : Lib.indexByte r.data.toList 44 < 0) : partsB r = [r] := by
  unfold partsB
  rw [parts_none _ h, List.map_singleton, mk_of]
theorem partsB_some {r : ByteArray} {i : Nat} (h : Lib.indexByte r.data.toList 44 = i) : i < r.size ∧ partsB r = r.extract 0 i :: partsB (r.extract (i + 1) r.size) := by
  obtain ⟨h1, h2⟩ := parts_some _ _ h
  refine ⟨by rw [Lib.size_eq]; exact h1, ?_⟩
  unfold partsB
  rw [h2, List.map_cons]
  congr 1
  · refine mk_extract _ _ _ _ ?_
    simp
  · have e : (r.extract (i + 1) r.size).data.toList = r.data.toList.drop (i + 1) := Lib.extract_to_end r (i + 1)
    rw [e]

attribute [local go_sem] Oper.semAt_some

set_option maxRecDepth 100000 in
set_option maxHeartbeats 2000000 in
/-- the iterator that SplitSeq(s0, ",") makes: its three captured cells at C0 (the comma), C1 (what is left), C2 (0) -/
theorem split_iter (B C0 C1 C2 : Nat) (s0 : ByteArray) (hs0 : s0.size ≤ 9223372036854775807) (I : ByteArray → List ByteArray → World → Prop) (Ix : Code → List ByteArray → World → Prop)
    (h0 : ∀ r pre V, I r pre V → V.cell? ⟨C0, 0, none⟩ = some (.string ⟨#[44]⟩)) (h1 : ∀ r pre V, I r pre V → V.cell? ⟨C1, 0, none⟩ = some (.string r)) (h1f : ∀ r pre V, I r pre V → V.frozen? ⟨C1, 0, none⟩ = false) (h2 : ∀ r pre V, I r pre V → V.cell? ⟨C2, 0, none⟩ = some (.int .i64 0))
    (hst : ∀ r r' pre V, I r pre V → I r' pre (V.setCell ⟨C1, 0, none⟩ (.string r'))) :
    IterG Tryz.prog 208 #[.pointer (some ⟨C0, 0, none⟩), .pointer (some ⟨C1, 0, none⟩), .pointer (some ⟨C2, 0, none⟩)] (fun p : ByteArray => #[.string p]) (fun pre x => pre ++ [x] <+: partsB s0) (fun xs => xs = partsB s0) B I Ix s0 := by
  intro l Bk Bx W hBk _ hY hI0 hb0
  have k0 := h0 _ _ _ hI0
  have H0 := Lib.hid h0
  have H1 := Lib.hid h1
  have H1f := Lib.hid h1f
  have H2 := Lib.hid h2
  have HS := Lib.hid hst
  have HB := Lib.hid hBk
  have HY := Lib.hid hY
  clear h0 h1 h2 h1f hst hBk hY
  refine callsIn_of_wp Tryz.func208 rfl trivial ?_ rfl
  simp only [Tryz.ntmps208, List.size_toArray, List.length_cons, List.length_nil, Nat.reduceAdd, Nat.reduceSub, Array.replicate_succ, Array.replicate_zero, List.push_toArray, List.append_toArray, List.nil_append, List.cons_append]
  gi_wp2
  gi_loopg [7, 8] s0.size (fun k _ _ V => ∃ (pre : List ByteArray) (r : ByteArray), r.size ≤ k ∧ r.size ≤ 9223372036854775807 ∧ Hid (partsB s0 = pre ++ partsB r) ∧ Hid (I r pre V ∧ Bk V))
  case atStart => exact ⟨[], s0, Nat.le_refl _, hs0, Lib.hid rfl, Lib.hid ⟨hI0, hb0⟩⟩
  case round =>
    obtain ⟨pre, r, hk, hr, hm, hI⟩ := hrel
    have c0 := H0.out _ _ _ hI.out.1
    have c1 := H1.out _ _ _ hI.out.1
    have c2 := H2.out _ _ _ hI.out.1
    have HX := Lib.hid (Tryz.strings_Index_one r 44 wr)
    have hg := Lib.indexByte_ge r.data.toList 44
    by_cases hneg : Lib.indexByte r.data.toList 44 < 0
    · have hp := partsB_none hneg
      obtain ⟨i, hi⟩ : ∃ i, Lib.indexByte r.data.toList 44 = i := ⟨_, rfl⟩
      rw [hi] at HX hneg
      have HM : Hid (partsB s0 = pre ++ [r]) := Lib.hid (by rw [hm.out, hp])
      clear hp hi hg
      obtain ⟨fn, tmps, assign, body, hy, hR⟩ := HY.out r pre r wr hI.out.1 hI.out.2 ⟨[], by rw [HM.out, List.append_nil]⟩
      gi_wp2_with (refine ⟨trivial, ?_⟩; gi_at_call 157; refine (callsIn_wide.2 HX.out).mono ?_; rintro e w' ⟨rfl, rfl⟩)
      refine hR.mono ?_
      rintro e W3 (⟨rfl, hI3, hb3⟩ | ⟨rfl, c, hx3, hb3⟩)
      · gi_wp2
        go_end0
        exact ⟨⟨_, rfl⟩, .inl ⟨_, r, HM.out.symm, hI3, hb3⟩⟩
      · gi_wp2
        go_end0
        exact ⟨⟨_, rfl⟩, .inr ⟨_, c, hx3, hb3⟩⟩
    · obtain ⟨i, hi⟩ := Int.eq_ofNat_of_zero_le (show 0 ≤ Lib.indexByte r.data.toList 44 by omega)
      obtain ⟨hlt, hp⟩ := partsB_some hi
      rw [hi] at HX
      have HM : Hid (partsB s0 = (pre ++ [r.extract 0 i]) ++ partsB (r.extract (i + 1) r.size)) := Lib.hid (by rw [hm.out, hp]; simp)
      have HZ : Hid ((r.extract (i + 1) r.size).size = r.size - (i + 1)) := Lib.hid (by simp)
      clear hp hi hneg hg
      obtain ⟨fn, tmps, assign, body, hy, hR⟩ := HY.out r pre (r.extract 0 i) wr hI.out.1 hI.out.2 ⟨_, HM.out.symm⟩
      gi_wp2_with (refine ⟨trivial, ?_⟩; gi_at_call 157; refine (callsIn_wide.2 HX.out).mono ?_; rintro e w' ⟨rfl, rfl⟩)
      refine hR.mono ?_
      rintro e W3 (⟨rfl, hI3, hb3⟩ | ⟨rfl, c, hx3, hb3⟩)
      · have d0 := H0.out _ _ _ hI3
        have d1 := H1.out _ _ _ hI3
        have d1f := H1f.out _ _ _ hI3
        gi_wp2
        gi_roundg (gk - 1)
        case rel => exact ⟨pre ++ [r.extract 0 i], r.extract (i + 1) r.size, by rw [HZ.out]; omega, by rw [HZ.out]; omega, HM, Lib.hid ⟨HS.out _ _ _ _ hI3, HB.out _ _ hb3 (Stays.setCell _ _ _ _)⟩⟩
        case measure => omega
      · gi_wp2
        refine bodyPost_ret (results_none rfl _ _ _) rfl ?_
        exact ⟨⟨_, rfl⟩, .inr ⟨_, c, hx3, hb3⟩⟩

theorem splitSeq_any (s : ByteArray) (w : World) :
    Calls Tryz.prog 206 #[.string s, .string ⟨#[44]⟩, .int .i64 0] w fun e w' => e = .returned (.func (.func 208) #[] #[.pointer (some ⟨w.heap.size + 1, 0, none⟩), .pointer (some ⟨w.heap.size, 0, none⟩), .pointer (some ⟨w.heap.size + 1 + 1, 0, none⟩)]) ∧
      ((w.alloc (.cells #[.string s] 9)).alloc (.cells #[.string ⟨#[44]⟩] 9)).alloc (.cells #[.int .i64 0] 3) = w' := by
  go_enter Tryz.func206, Tryz.ntmps206
  go_wp2
  go_ret
  exact ⟨rfl, rfl⟩
theorem SplitSeq_any (s : ByteArray) (w : World) :
    Calls Tryz.prog 199 #[.string s, .string ⟨#[44]⟩] w fun e w' => e = .returned (.func (.func 208) #[] #[.pointer (some ⟨w.heap.size + 1, 0, none⟩), .pointer (some ⟨w.heap.size, 0, none⟩), .pointer (some ⟨w.heap.size + 1 + 1, 0, none⟩)]) ∧
      ((w.alloc (.cells #[.string s] 9)).alloc (.cells #[.string ⟨#[44]⟩] 9)).alloc (.cells #[.int .i64 0] 3) = w' := by
  go_enter Tryz.func199, Tryz.ntmps199
  go_wp2_with fail
  refine (splitSeq_any s _).mono ?_
  rintro e w' ⟨rfl, rfl⟩
  go_wp2
  go_ret
  exact ⟨rfl, rfl⟩

/-- 'actions[nx:]' -/
theorem slice_run (a : Option Addr) (n c nx : Nat) (h : nx ≤ n) (w' : World) : (Instr.slice 22 (.slice a n c) (some (.int .i64 nx)) none none).run Tryz.prog w' = .ok (.slice (if c = nx then a else a.map fun x => x.add nx) (n - nx) (c - nx)) w' := by
  have h1 : (0 : Int) ≤ nx := by omega
  have h2 : (nx : Int) ≤ n := by omega
  go_simp
theorem slice_from (a : Option Addr) (n c nx : Nat) (ss : List ByteArray) (w : World) (hn : n = ss.length) (h : nx ≤ n) (hcap : n ≤ c) (hc : StrsIn w a ss) :
    ∃ a', (∀ w', (Instr.slice 22 (.slice a n c) (some (.int .i64 nx)) none none).run Tryz.prog w' = .ok (.slice a' (n - nx) (c - nx)) w') ∧ StrsIn w a' (ss.drop nx) := by
  refine ⟨_, slice_run a n c nx h, fun j hj => ?_⟩
  rw [List.length_drop] at hj
  obtain ⟨b, off, rfl, hcell⟩ := hc (nx + j) (by omega)
  have e : (ss.drop nx).getD j ByteArray.empty = ss.getD (nx + j) ByteArray.empty := by simp [List.getD]
  rw [e, if_neg (by omega)]
  by_cases hz : nx = 0
  · subst hz
    exact ⟨b, off, by simp [Addr.add], by simpa using hcell⟩
  · exact ⟨b, off + nx, by simp [Addr.add, hz], by rw [Nat.add_assoc]; exact hcell⟩
end Go.Proofs.YtohljainhkdiiaaGreatDoor
