/- Texts joined: SatE. -/
import Derived.Test.YtbncofgbpffmkaaGreatDoorJc20
import Derived.Test.YtbncofgbpffmkaaGreatDoorJc21
/- newTrial, Satisfies at arguments that are not valid, or whose actions differ. -/
namespace Go.Proofs.YtbncofgbpffmkaaGreatDoor
open Go.RowKit Pl

theorem below_put {B g i : Nat} {w W : World} {v : Value} (h : Below B w W) (hg : B ≤ g) : Below B w (W.setCell ⟨g, i, none⟩ v) := h.setCell (p := ⟨g, i, none⟩) hg v

set_option maxRecDepth 100000 in
set_option maxHeartbeats 4000000 in
theorem newTrial_bad {w : World} {a : Option Addr} {n c : Nat} {b : Option Addr} {k d : Nat} {m : Syst} {a' : Option Addr} {n' c' : Nat} {b' : Option Addr} {k' d' : Nat} {s : Spc} {e0 e1 e2 : Addr} (E : Errs w e0 e1 e2) (A : SysArg w a n c b k d m) (A' : SpecArg w a' n' c' b' k' d' s) (hbad : bothC m s ≠ 0) :
    Calls Tryz.prog 20 #[.agg #[.slice a n c, .slice b k d], .agg #[.slice a' n' c', .slice b' k' d']] w fun e w' => e = .returned (.tuple #[.agg #[.slice none 0 0, .slice none 0 0, .slice none 0 0, .slice none 0 0, .slice none 0 0, .slice none 0 0], .int .i64 (bothC m s)]) ∧ Below w.heap.size w w' := by
  have hB := (Below.refl w.heap.size w).alloc (Nat.le_refl _) (.cells #[.slice a n c, .slice b k d] 25)
  have hB2 := hB.alloc (by simp) (.cells #[.slice a' n' c', .slice b' k' d'] 28)
  have hB3 := hB2.alloc (by simp; omega) (.cells #[.slice none 0 0, .slice none 0 0, .slice none 0 0, .slice none 0 0, .slice none 0 0, .slice none 0 0] 62)
  have hW1 := ((Whole.new w 25 #[.slice a n c, .slice b k d]).alloc (.cells #[.slice a' n' c', .slice b' k' d'] 28)).alloc (.cells #[.slice none 0 0, .slice none 0 0, .slice none 0 0, .slice none 0 0, .slice none 0 0, .slice none 0 0] 62)
  have hW2 := (Whole.new (w.alloc (.cells #[.slice a n c, .slice b k d] 25)) 28 #[.slice a' n' c', .slice b' k' d']).alloc (.cells #[.slice none 0 0, .slice none 0 0, .slice none 0 0, .slice none 0 0, .slice none 0 0, .slice none 0 0] 62)
  have hW3 := Whole.new ((w.alloc (.cells #[.slice a n c, .slice b k d] 25)).alloc (.cells #[.slice a' n' c', .slice b' k' d'] 28)) 62 #[.slice none 0 0, .slice none 0 0, .slice none 0 0, .slice none 0 0, .slice none 0 0, .slice none 0 0]
  simp only [World.size_alloc] at hW2 hW3
  obtain ⟨w0, HW0⟩ : ∃ z, Hid (((w.alloc (.cells #[.slice a n c, .slice b k d] 25)).alloc (.cells #[.slice a' n' c', .slice b' k' d'] 28)).alloc (.cells #[.slice none 0 0, .slice none 0 0, .slice none 0 0, .slice none 0 0, .slice none 0 0, .slice none 0 0] 62) = z) := ⟨_, Lib.hid rfl⟩
  have hz0 : w0.heap.size = w.heap.size + 3 := by rw [← HW0.out]; simp
  rw [HW0.out] at hB3 hW1 hW2 hW3
  have HC1 := SCheck_any (E.below hB3) (A.below hB3)
  have HA := Lib.hid A
  have HA' := Lib.hid A'
  have HE := Lib.hid E
  have HB0 := Lib.hid hB3
  have HW1 := Lib.hid hW1
  have HW2 := Lib.hid hW2
  have HW3 := Lib.hid hW3
  have HZ0 := Lib.hid hz0
  have HBad := Lib.hid hbad
  clear hB hB2 hB3 A A' E hW1 hW2 hW3 hz0 hbad
  -- what is left once the code is known
  have fin : ∀ (W : World), Below w0.heap.size w0 W → Hid (Below w.heap.size w ((((((W.setCell ⟨w.heap.size + 2, 0, none⟩ (.slice none 0 0)).setCell ⟨w.heap.size + 2, 1, none⟩ (.slice none 0 0)).setCell ⟨w.heap.size + 2, 2, none⟩ (.slice none 0 0)).setCell ⟨w.heap.size + 2, 3, none⟩ (.slice none 0 0)).setCell ⟨w.heap.size + 2, 4, none⟩ (.slice none 0 0)).setCell ⟨w.heap.size + 2, 5, none⟩ (.slice none 0 0)) ∧ ∀ i, (((((((W.setCell ⟨w.heap.size + 2, 0, none⟩ (.slice none 0 0)).setCell ⟨w.heap.size + 2, 1, none⟩ (.slice none 0 0)).setCell ⟨w.heap.size + 2, 2, none⟩ (.slice none 0 0)).setCell ⟨w.heap.size + 2, 3, none⟩ (.slice none 0 0)).setCell ⟨w.heap.size + 2, 4, none⟩ (.slice none 0 0)).setCell ⟨w.heap.size + 2, 5, none⟩ (.slice none 0 0))).cell? ⟨w.heap.size + 2, i, none⟩ = (#[.slice none 0 0, .slice none 0 0, .slice none 0 0, .slice none 0 0, .slice none 0 0, .slice none 0 0] : Array Value)[i]?) := fun W hW => Lib.hid (by
    refine ⟨?_, fun i => ?_⟩
    · have h1 := HB0.out.trans (hW.mono HB0.out.size)
      exact below_put (below_put (below_put (below_put (below_put (below_put h1 (by omega)) (by omega)) (by omega)) (by omega)) (by omega)) (by omega)
    · have h1 := HW3.out.below hW HW3.out.lt
      have h2 := ((((((h1.set 0 (.slice none 0 0)).set 1 (.slice none 0 0)).set 2 (.slice none 0 0)).set 3 (.slice none 0 0)).set 4 (.slice none 0 0)).set 5 (.slice none 0 0)).cell i
      simpa only [List.setIfInBounds_toArray, List.set_cons_zero, List.set_cons_succ] using h2)
  have lay : ∀ (W : World), Below w0.heap.size w0 W → (∀ i, i < 6 → W.cell? ⟨w.heap.size + 2, i, none⟩ = some (.slice none 0 0)) ∧ (∀ i, W.frozen? ⟨w.heap.size + 2, i, none⟩ = false) := fun W hW => by
    have h1 := HW3.out.below hW HW3.out.lt
    refine ⟨fun i hi => ?_, fun i => h1.frozen i⟩
    rw [h1.cell i]
    match i, hi with
    | 0, _ => rfl
    | 1, _ => rfl
    | 2, _ => rfl
    | 3, _ => rfl
    | 4, _ => rfl
    | 5, _ => rfl
  have HLay := Lib.hid lay
  have HFin := Lib.hid fin
  clear lay fin
  obtain ⟨cb, HCb⟩ : ∃ z, Hid (bothC m s = z) := ⟨_, Lib.hid rfl⟩
  rw [HCb.out]
  go_enter Tryz.func20, Tryz.ntmps20
  cases hm : sysB m
  · have hc : bothC m s = 20 := by unfold bothC; rw [hm]; rfl
    rw [chk_no hm] at HC1
    have HC1 := Lib.hid HC1
    obtain rfl : cb = 20 := by rw [← HCb.out, hc]
    clear hm hc
    go_wp2_with fail
    rw [HW0.out]
    refine HC1.out.mono ?_
    rintro e w1 ⟨rfl, hb1⟩
    have HB1 := Lib.hid hb1
    have m0 := (HLay.out w1 hb1).1 0 (by decide)
    have m1 := (HLay.out w1 hb1).1 1 (by decide)
    have m2 := (HLay.out w1 hb1).1 2 (by decide)
    have m3 := (HLay.out w1 hb1).1 3 (by decide)
    have m4 := (HLay.out w1 hb1).1 4 (by decide)
    have m5 := (HLay.out w1 hb1).1 5 (by decide)
    have fz0 := (HLay.out w1 hb1).2 0
    have fz1 := (HLay.out w1 hb1).2 1
    have fz2 := (HLay.out w1 hb1).2 2
    have fz3 := (HLay.out w1 hb1).2 3
    have fz4 := (HLay.out w1 hb1).2 4
    have fz5 := (HLay.out w1 hb1).2 5
    have l0 := (HFin.out w1 hb1).out.2 0
    have l1 := (HFin.out w1 hb1).out.2 1
    have l2 := (HFin.out w1 hb1).out.2 2
    have l3 := (HFin.out w1 hb1).out.2 3
    have l4 := (HFin.out w1 hb1).out.2 4
    have l5 := (HFin.out w1 hb1).out.2 5
    simp only [List.getElem?_toArray, List.getElem?_cons_succ, List.getElem?_cons_zero] at l0 l1 l2 l3 l4 l5
    clear hb1
    go_wp2
    exact bodyPost_ret (v := .tuple #[.agg #[.slice none 0 0, .slice none 0 0, .slice none 0 0, .slice none 0 0, .slice none 0 0, .slice none 0 0], .int .i64 20]) (by simp [results, Tryz.results20, go_sem, l0, l1, l2, l3, l4, l5]) rfl ⟨rfl, (HFin.out w1 HB1.out).out.1⟩
  · rw [chk_yes hm] at HC1
    have HC1 := Lib.hid HC1
    have HM := Lib.hid hm
    clear hm
    go_wp2_with fail
    rw [HW0.out]
    refine HC1.out.mono ?_
    rintro e w1 ⟨rfl, hb1⟩
    have HB1 := Lib.hid hb1
    have HX1 := Lib.hid (HW1.out.below hb1 HW1.out.lt)
    have HX2 := Lib.hid (HW2.out.below hb1 HW2.out.lt)
    have p0 := HX2.out.cell 0
    have p1 := HX2.out.cell 1
    simp only [List.getElem?_toArray, List.getElem?_cons_succ, List.getElem?_cons_zero] at p0 p1
    have hb01 : Below w.heap.size w w1 := HB0.out.trans (hb1.mono HB0.out.size)
    have HC2 := PCheck_any (HE.out.below hb01) (HA'.out.below hb01)
    have HB01 := Lib.hid hb01
    have hz1 : w.heap.size + 3 ≤ w1.heap.size := by have := hb1.size; have := HZ0.out; omega
    cases hs : spcB s
    · have hc : bothC m s = 30 := by unfold bothC; rw [HM.out, hs]; rfl
      rw [chkS_no hs] at HC2
      have HC2 := Lib.hid HC2
      obtain rfl : cb = 30 := by rw [← HCb.out, hc]
      clear hs hc hb1 hb01
      go_wp2_with fail
      refine HC2.out.mono ?_
      rintro e w2 ⟨rfl, hb2⟩
      have hb2 : Below w0.heap.size w0 w2 := HB1.out.trans (hb2.mono HB1.out.size)
      have HB2 := Lib.hid hb2
      have m0 := (HLay.out w2 hb2).1 0 (by decide)
      have m1 := (HLay.out w2 hb2).1 1 (by decide)
      have m2 := (HLay.out w2 hb2).1 2 (by decide)
      have m3 := (HLay.out w2 hb2).1 3 (by decide)
      have m4 := (HLay.out w2 hb2).1 4 (by decide)
      have m5 := (HLay.out w2 hb2).1 5 (by decide)
      have fz0 := (HLay.out w2 hb2).2 0
      have fz1 := (HLay.out w2 hb2).2 1
      have fz2 := (HLay.out w2 hb2).2 2
      have fz3 := (HLay.out w2 hb2).2 3
      have fz4 := (HLay.out w2 hb2).2 4
      have fz5 := (HLay.out w2 hb2).2 5
      have l0 := (HFin.out w2 hb2).out.2 0
      have l1 := (HFin.out w2 hb2).out.2 1
      have l2 := (HFin.out w2 hb2).out.2 2
      have l3 := (HFin.out w2 hb2).out.2 3
      have l4 := (HFin.out w2 hb2).out.2 4
      have l5 := (HFin.out w2 hb2).out.2 5
      simp only [List.getElem?_toArray, List.getElem?_cons_succ, List.getElem?_cons_zero] at l0 l1 l2 l3 l4 l5
      clear hb2 p0 p1
      go_wp2
      exact bodyPost_ret (v := .tuple #[.agg #[.slice none 0 0, .slice none 0 0, .slice none 0 0, .slice none 0 0, .slice none 0 0, .slice none 0 0], .int .i64 30]) (by simp [results, Tryz.results20, go_sem, l0, l1, l2, l3, l4, l5]) rfl ⟨rfl, (HFin.out w2 HB2.out).out.1⟩
    · have hc : bothC m s = if m.acts = s.acts then 0 else 10 := by unfold bothC; rw [HM.out, hs]; rfl
      have hne : m.acts ≠ s.acts := fun e => HBad.out (by rw [hc, if_pos e])
      rw [if_neg hne] at hc
      rw [chkS_yes hs] at HC2
      have HC2 := Lib.hid HC2
      have HD : Hid (decide (m.acts = s.acts) = false) := Lib.hid (decide_eq_false hne)
      obtain rfl : cb = 10 := by rw [← HCb.out, hc]
      clear hs hc hb1 hb01 hne
      go_wp2_with fail
      refine HC2.out.mono ?_
      rintro e w2 ⟨rfl, hb2⟩
      have HB2 := Lib.hid (HB01.out.trans (hb2.mono HB01.out.size))
      have HB20 := Lib.hid (HB1.out.trans (hb2.mono HB1.out.size))
      have hz2 : w.heap.size + 3 ≤ w2.heap.size := by have := hb2.size; omega
      have HY1 := Lib.hid (HX1.out.below hb2 HX1.out.lt)
      have HY2 := Lib.hid (HX2.out.below hb2 HX2.out.lt)
      have q0 := HY1.out.cell 0
      have q1 := HY2.out.cell 0
      simp only [List.getElem?_toArray, List.getElem?_cons_zero] at q0 q1
      have HC3 := eqStr_any (HA.out.acts.below HB2.out) (HA'.out.acts.below HB2.out)
      rw [HD.out] at HC3
      have HC3 := Lib.hid HC3
      clear hb2 p0 p1
      go_wp2_with fail
      refine HC3.out.mono ?_
      rintro e w3 ⟨rfl, hb3⟩
      have hb3 : Below w0.heap.size w0 w3 := HB20.out.trans (hb3.mono HB20.out.size)
      have HB3 := Lib.hid hb3
      have m0 := (HLay.out w3 hb3).1 0 (by decide)
      have m1 := (HLay.out w3 hb3).1 1 (by decide)
      have m2 := (HLay.out w3 hb3).1 2 (by decide)
      have m3 := (HLay.out w3 hb3).1 3 (by decide)
      have m4 := (HLay.out w3 hb3).1 4 (by decide)
      have m5 := (HLay.out w3 hb3).1 5 (by decide)
      have fz0 := (HLay.out w3 hb3).2 0
      have fz1 := (HLay.out w3 hb3).2 1
      have fz2 := (HLay.out w3 hb3).2 2
      have fz3 := (HLay.out w3 hb3).2 3
      have fz4 := (HLay.out w3 hb3).2 4
      have fz5 := (HLay.out w3 hb3).2 5
      have l0 := (HFin.out w3 hb3).out.2 0
      have l1 := (HFin.out w3 hb3).out.2 1
      have l2 := (HFin.out w3 hb3).out.2 2
      have l3 := (HFin.out w3 hb3).out.2 3
      have l4 := (HFin.out w3 hb3).out.2 4
      have l5 := (HFin.out w3 hb3).out.2 5
      simp only [List.getElem?_toArray, List.getElem?_cons_succ, List.getElem?_cons_zero] at l0 l1 l2 l3 l4 l5
      clear hb3 q0 q1
      go_wp2
      exact bodyPost_ret (v := .tuple #[.agg #[.slice none 0 0, .slice none 0 0, .slice none 0 0, .slice none 0 0, .slice none 0 0, .slice none 0 0], .int .i64 10]) (by simp [results, Tryz.results20, go_sem, l0, l1, l2, l3, l4, l5]) rfl ⟨rfl, (HFin.out w3 HB3.out).out.1⟩

set_option maxRecDepth 100000 in
set_option maxHeartbeats 4000000 in
theorem Satisfies_bad {w : World} {a : Option Addr} {n c : Nat} {b : Option Addr} {k d : Nat} {m : Syst} {a' : Option Addr} {n' c' : Nat} {b' : Option Addr} {k' d' : Nat} {s : Spc} {e0 e1 e2 : Addr} (E : Errs w e0 e1 e2) (A : SysArg w a n c b k d m) (A' : SpecArg w a' n' c' b' k' d' s) (hbad : bothC m s ≠ 0) :
    Calls Tryz.prog 7 #[.agg #[.slice a n c, .slice b k d], .agg #[.slice a' n' c', .slice b' k' d']] w fun e w' => e = .returned (.tuple #[.agg #[.bool false, .slice none 0 0, .slice none 0 0, .int .i64 0], .int .i64 (bothC m s)]) ∧ Below w.heap.size w w' := by
  have hB := (Below.refl w.heap.size w).alloc (Nat.le_refl _) (.cells #[.slice a n c, .slice b k d] 25)
  have hB2 := hB.alloc (by simp) (.cells #[.slice a' n' c', .slice b' k' d'] 28)
  have hB3 := hB2.alloc (by simp; omega) (.cells #[.bool false, .slice none 0 0, .slice none 0 0, .int .i64 0] 35)
  have hW3 := Whole.new ((w.alloc (.cells #[.slice a n c, .slice b k d] 25)).alloc (.cells #[.slice a' n' c', .slice b' k' d'] 28)) 35 #[.bool false, .slice none 0 0, .slice none 0 0, .int .i64 0]
  have hW1 := ((Whole.new w 25 #[.slice a n c, .slice b k d]).alloc (.cells #[.slice a' n' c', .slice b' k' d'] 28)).alloc (.cells #[.bool false, .slice none 0 0, .slice none 0 0, .int .i64 0] 35)
  simp only [World.size_alloc] at hW3
  obtain ⟨w0, HW0⟩ : ∃ z, Hid (((w.alloc (.cells #[.slice a n c, .slice b k d] 25)).alloc (.cells #[.slice a' n' c', .slice b' k' d'] 28)).alloc (.cells #[.bool false, .slice none 0 0, .slice none 0 0, .int .i64 0] 35) = z) := ⟨_, Lib.hid rfl⟩
  have hz0 : w0.heap.size = w.heap.size + 3 := by rw [← HW0.out]; simp
  rw [HW0.out] at hB3 hW1 hW3
  have HT := Lib.hid (newTrial_bad (E.below hB3) (A.below hB3) (A'.below hB3) hbad)
  have HB0 := Lib.hid hB3
  have HW3 := Lib.hid hW3
  obtain ⟨cb, HCb⟩ : ∃ z, Hid (bothC m s = z) := ⟨_, Lib.hid rfl⟩
  rw [HCb.out] at HT hbad ⊢
  clear hB hB2 hB3 A A' E hW1 hW3
  go_enter Tryz.func7, Tryz.ntmps7
  go_wp2_with fail
  rw [HW0.out]
  refine HT.out.mono ?_
  rintro e w1 ⟨rfl, hb1⟩
  have hz1 : w.heap.size + 3 ≤ w1.heap.size := by have := hb1.size; omega
  have hb2 := hb1.alloc hb1.size (.cells #[.slice none 0 0, .slice none 0 0, .slice none 0 0, .slice none 0 0, .slice none 0 0, .slice none 0 0] 62)
  have hv2 := HW3.out.below hb2 HW3.out.lt
  have m0 := hv2.cell 0
  have m1 := hv2.cell 1
  have m2 := hv2.cell 2
  have m3 := hv2.cell 3
  have fz0 := hv2.frozen 0
  have fz1 := hv2.frozen 1
  have fz2 := hv2.frozen 2
  have fz3 := hv2.frozen 3
  have l0 := ((((hv2.set 0 (.bool false)).set 1 (.slice none 0 0)).set 2 (.slice none 0 0)).set 3 (.int .i64 0)).cell 0
  have l1 := ((((hv2.set 0 (.bool false)).set 1 (.slice none 0 0)).set 2 (.slice none 0 0)).set 3 (.int .i64 0)).cell 1
  have l2 := ((((hv2.set 0 (.bool false)).set 1 (.slice none 0 0)).set 2 (.slice none 0 0)).set 3 (.int .i64 0)).cell 2
  have l3 := ((((hv2.set 0 (.bool false)).set 1 (.slice none 0 0)).set 2 (.slice none 0 0)).set 3 (.int .i64 0)).cell 3
  simp only [List.setIfInBounds_toArray, List.set_cons_zero, List.set_cons_succ, List.getElem?_toArray, List.getElem?_cons_succ, List.getElem?_cons_zero] at m0 m1 m2 m3 l0 l1 l2 l3
  have HF := Lib.hid (below_put (i := 3) (v := .int .i64 0) (below_put (i := 2) (v := .slice none 0 0) (below_put (i := 1) (v := .slice none 0 0) (below_put (i := 0) (v := .bool false) (HB0.out.trans (hb2.mono HB0.out.size)) (show w.heap.size ≤ w.heap.size + 2 by omega)) (show w.heap.size ≤ w.heap.size + 2 by omega)) (show w.heap.size ≤ w.heap.size + 2 by omega)) (show w.heap.size ≤ w.heap.size + 2 by omega))
  have hcb : (cb != 0) = true := by simpa using hbad
  clear hb1 hb2 hv2 hbad
  clear HB0 HW3 HT hz0 HW0 HCb
  go_wp2
  exact bodyPost_ret (v := .tuple #[.agg #[.bool false, .slice none 0 0, .slice none 0 0, .int .i64 0], .int .i64 cb]) (by simp [results, Tryz.results7, go_sem, l0, l1, l2, l3]) rfl ⟨rfl, HF.out⟩
end Go.Proofs.YtbncofgbpffmkaaGreatDoor
