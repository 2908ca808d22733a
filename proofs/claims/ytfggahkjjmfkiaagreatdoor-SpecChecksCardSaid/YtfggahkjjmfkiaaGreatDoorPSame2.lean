/- spec.Same. -/
import Derived.Test.YtfggahkjjmfkiaaGreatDoorPSame
import Derived.Test.YtfggahkjjmfkiaaGreatDoorSame3
namespace Go.Proofs.YtfggahkjjmfkiaaGreatDoor
open Go.RowKit Pl

set_option maxHeartbeats 1000000 in
theorem PSame_any {w : World} {a : Option Addr} {n c : Nat} {b : Option Addr} {k d : Nat} {m : Spc} {a' : Option Addr} {n' c' : Nat} {b' : Option Addr} {k' d' : Nat} {m' : Spc} (A : SpecArg w a n c b k d m) (A' : SpecArg w a' n' c' b' k' d' m') :
    Calls Tryz.prog 19 #[.agg #[.slice a n c, .slice b k d], .agg #[.slice a' n' c', .slice b' k' d']] w fun e w' => e = .returned (.bool (sameP m m')) ∧ Below w.heap.size w w' := by
  have hB := ((Below.refl w.heap.size w).alloc (Nat.le_refl _) (.cells #[.slice a n c, .slice b k d] 25)).alloc (by simp) (.cells #[.slice a' n' c', .slice b' k' d'] 25)
  have hw1 := (Whole.new w 25 #[.slice a n c, .slice b k d]).alloc (.cells #[.slice a' n' c', .slice b' k' d'] 25)
  have hw2 := Whole.new (w.alloc (.cells #[.slice a n c, .slice b k d] 25)) 25 #[.slice a' n' c', .slice b' k' d']
  have HS := Lib.hid (eqStr_any (A.acts.below hB) (A'.acts.below hB))
  have HA := Lib.hid A
  have HA' := Lib.hid A'
  have h2 : k ≤ 140737488355328 := A.big
  have h2' : k' ≤ 140737488355328 := A'.big
  have HBB := Lib.hid hB
  have HW1 := Lib.hid hw1
  have HW2 := Lib.hid hw2
  clear A A' hB hw1 hw2
  by_cases ha : m.acts = m'.acts
  · rw [decide_eq_true ha] at HS
    have HV : Hid (sameP m m' = decide (m.states = m'.states)) := Lib.hid (by unfold sameP; rw [decide_eq_true ha]; rfl)
    clear ha
    go_enter Tryz.func19, Tryz.ntmps19
    go_wp2_with fail
    refine HS.out.mono ?_
    rintro e w1 ⟨rfl, hb1⟩
    have x1 := HW1.out.below hb1 HW1.out.lt
    have x2 := HW2.out.below hb1 HW2.out.lt
    have k1 := x1.cell 1
    have k2 := x2.cell 1
    have HB1 := Lib.hid (HBB.out.trans (hb1.mono HBB.out.size))
    have HF := Lib.hid (eqStes_any (d := d) (d' := d') HA.out.len HA'.out.len h2 h2' (HA.out.rows.below HB1.out) (HA'.out.rows.below HB1.out))
    simp only [List.getElem?_toArray, List.getElem?_cons_succ, List.getElem?_cons_zero, World.size_alloc] at k1 k2
    clear hb1 x1 x2
    go_wp2_with fail
    refine HF.out.mono ?_
    rintro e w2 ⟨rfl, hb2⟩
    go_wp2
    go_ret
    exact ⟨by rw [HV.out]; rfl, HB1.out.trans (hb2.mono HB1.out.size)⟩
  · have HV : Hid (sameP m m' = false) := Lib.hid (by unfold sameP; rw [decide_eq_false ha]; rfl)
    rw [decide_eq_false ha] at HS
    clear ha
    go_enter Tryz.func19, Tryz.ntmps19
    go_wp2_with fail
    refine HS.out.mono ?_
    rintro e w1 ⟨rfl, hb1⟩
    go_wp2
    go_ret
    exact ⟨by rw [HV.out]; rfl, HBB.out.trans (hb1.mono HBB.out.size)⟩
end Go.Proofs.YtfggahkjjmfkiaaGreatDoor
