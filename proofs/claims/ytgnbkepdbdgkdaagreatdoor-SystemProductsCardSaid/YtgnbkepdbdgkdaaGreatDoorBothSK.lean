/- The error that two systems cause, in the statements' words. -/
import Derived.Test.YtgnbkepdbdgkdaaGreatDoorJq22
import Derived.Test.YtgnbkepdbdgkdaaGreatDoorJq09
import Derived.Test.YtgnbkepdbdgkdaaGreatDoorJq00
namespace Go.Proofs.YtgnbkepdbdgkdaaGreatDoor
open Go.RowKit Pl

set_option maxHeartbeats 1000000 in
theorem bothS_any {w : World} {a : Option Addr} {n c : Nat} {b : Option Addr} {k d : Nat} {m : Syst} {a' : Option Addr} {n' c' : Nat} {b' : Option Addr} {k' d' : Nat} {m' : Syst} (A : SysArg w a n c b k d m) (S : SysArg w a' n' c' b' k' d' m') (ht : total m.states ≤ 4611686018427387904) (ht' : total m'.states ≤ 4611686018427387904) :
    Calls Tryz.prog 15 #[.agg #[.slice a n c, .slice b k d], .agg #[.slice a' n' c', .slice b' k' d']] w fun e w' => e = .returned (.int .i64 (bothS m m')) ∧ Below w.heap.size w w' := by
  have hb0 := ((Below.refl w.heap.size w).alloc (Nat.le_refl _) (.cells #[.slice a n c, .slice b k d] 25)).alloc (by simp) (.cells #[.slice a' n' c', .slice b' k' d'] 25)
  have h1 := (Whole.new w 25 #[.slice a n c, .slice b k d]).alloc (.cells #[.slice a' n' c', .slice b' k' d'] 25)
  have h2 := Whole.new (w.alloc (.cells #[.slice a n c, .slice b k d] 25)) 25 #[.slice a' n' c', .slice b' k' d']
  simp only [World.size_alloc] at h2
  obtain ⟨w0, HW0⟩ : ∃ z, Hid ((w.alloc (.cells #[.slice a n c, .slice b k d] 25)).alloc (.cells #[.slice a' n' c', .slice b' k' d'] 25) = z) := ⟨_, Lib.hid rfl⟩
  rw [HW0.out] at hb0 h1 h2
  have H1 := Lib.hid h1
  have H2 := Lib.hid h2
  have HB0 := Lib.hid hb0
  have HA := Lib.hid (A.below hb0)
  have HS := Lib.hid (S.below hb0)
  have HI := Lib.hid (RIs_any (A.below hb0) ht)
  have HT := Lib.hid ht'
  clear A S hb0 h1 h2 ht ht'
  go_enter Tryz.func15, Tryz.ntmps15
  go_wp2_with fail
  rw [HW0.out]
  refine HI.out.mono ?_
  rintro e w2 ⟨rfl, hb2⟩
  have HB2 := Lib.hid hb2
  cases hv : sysB m
  · have HF : Hid (bothS m m' = 20) := Lib.hid (by unfold bothS; rw [hv]; rfl)
    clear hv hb2
    go_wp2
    go_ret
    exact ⟨by rw [HF.out]; rfl, HB0.out.trans (HB2.out.mono HB0.out.size)⟩
  · have x2 := (H2.out.below hb2 H2.out.lt).cell 0
    have x3 := (H2.out.below hb2 H2.out.lt).cell 1
    simp only [List.getElem?_toArray, List.getElem?_cons_succ, List.getElem?_cons_zero] at x2 x3
    have HJ := Lib.hid (RIs_any (HS.out.below hb2) HT.out)
    have HV := Lib.hid hv
    clear hb2 hv
    go_wp2_with fail
    refine HJ.out.mono ?_
    rintro e w3 ⟨rfl, hb3⟩
    have hb23 := HB2.out.trans (hb3.mono HB2.out.size)
    have HB3 := Lib.hid hb23
    cases hs : sysB m'
    · have HF : Hid (bothS m m' = 20) := Lib.hid (by unfold bothS; rw [HV.out, hs]; rfl)
      clear hs hb3 hb23
      go_wp2
      go_ret
      exact ⟨by rw [HF.out]; rfl, HB0.out.trans (HB3.out.mono HB0.out.size)⟩
    · have y0 := (H1.out.below hb23 H1.out.lt).cell 0
      have y2 := (H2.out.below hb23 H2.out.lt).cell 0
      simp only [List.getElem?_toArray, List.getElem?_cons_zero] at y0 y2
      have hA3 := HA.out.below hb23
      have hS3 := HS.out.below hb23
      have HSm := SameStrings_any a n c m.acts a' n' c' m'.acts w3 hA3.acts.len hS3.acts.len hA3.acts.big hS3.acts.big hA3.acts.cells hS3.acts.cells
      have HSv := Lib.hid hs
      clear hs hb3 hb23 hA3 hS3
      by_cases he : m.acts = m'.acts
      · have HF : Hid (bothS m m' = 0) := Lib.hid (by unfold bothS; rw [HV.out, HSv.out, if_pos rfl, if_pos rfl, if_pos he])
        rw [decide_eq_true he] at HSm
        have HSm := Lib.hid HSm
        clear he
        go_wp2_with fail
        refine HSm.out.mono ?_
        rintro e w' ⟨rfl, rfl⟩
        go_wp2
        go_ret
        exact ⟨by rw [HF.out]; rfl, HB0.out.trans (HB3.out.mono HB0.out.size)⟩
      · have HF : Hid (bothS m m' = 10) := Lib.hid (by unfold bothS; rw [HV.out, HSv.out, if_pos rfl, if_pos rfl, if_neg he])
        rw [decide_eq_false he] at HSm
        have HSm := Lib.hid HSm
        clear he
        go_wp2_with fail
        refine HSm.out.mono ?_
        rintro e w' ⟨rfl, rfl⟩
        go_wp2
        go_ret
        exact ⟨by rw [HF.out]; rfl, HB0.out.trans (HB3.out.mono HB0.out.size)⟩
end Go.Proofs.YtgnbkepdbdgkdaaGreatDoor
