/- system.Part where it refuses. -/
import Derived.Test.YtgnbkepdbdgkdaaGreatDoorJq08
import Derived.Test.YtgnbkepdbdgkdaaGreatDoorJq06
import Derived.Deep.Cut
namespace Go.Proofs.YtgnbkepdbdgkdaaGreatDoor
open Go.RowKit Go.Sort Pl

set_option maxRecDepth 100000 in
set_option maxHeartbeats 4000000 in
theorem PPart_bad {w : World} {a : Option Addr} {n c : Nat} {b : Option Addr} {k d : Nat} {m : Syst} {a0 a1 a2 : Addr} (E : Errs w a0 a1 a2) (A : SysArg w a n c b k d m) (x : Int) (hx : -9223372036854775808 ≤ x) (hx' : x ≤ 9223372036854775807) (hbad : stC m x ≠ 0) :
    Calls Tryz.prog 11 #[.agg #[.slice a n c, .slice b k d], .int .i64 x] w fun e w' => e = .returned (.tuple #[.agg #[.slice none 0 0, .slice none 0 0], .slice none 0 0, .int .i64 (stC m x)]) ∧ Below w.heap.size w w' := by
  have hb0 := ((Below.refl w.heap.size w).alloc (Nat.le_refl _) (.cells #[.slice a n c, .slice b k d] 25)).alloc (by simp) (.cells #[.slice none 0 0, .slice none 0 0] 25)
  have hx1 := (Whole.new w 25 #[.slice a n c, .slice b k d]).alloc (.cells #[.slice none 0 0, .slice none 0 0] 25)
  have hx2 := Whole.new (w.alloc (.cells #[.slice a n c, .slice b k d] 25)) 25 #[.slice none 0 0, .slice none 0 0]
  obtain ⟨w0, HW0⟩ : ∃ z, Hid ((w.alloc (.cells #[.slice a n c, .slice b k d] 25)).alloc (.cells #[.slice none 0 0, .slice none 0 0] 25) = z) := ⟨_, Lib.hid rfl⟩
  rw [HW0.out] at hb0 hx1 hx2
  simp only [World.size_alloc] at hx2
  have HX2 := Lib.hid hx2
  have HB0 := Lib.hid hb0
  have HC0 := Lib.hid (checkState_any x hx hx' (E.below hb0) (A.below hb0))
  have q0 := hx1.cell 0
  have q1 := hx1.cell 1
  simp only [List.getElem?_toArray, List.getElem?_cons_succ, List.getElem?_cons_zero] at q0 q1
  obtain ⟨cd, HCd⟩ : ∃ z, Hid (stC m x = z) := ⟨_, Lib.hid rfl⟩
  rw [HCd.out] at hbad ⊢
  clear A hb0 hx1 hx2 E
  go_enter Tryz.func11, Tryz.ntmps11
  go_upto_region 1 with (fail)
  rw [HW0.out]
  go_upto_region 2 with (go_at_call 45; refine HC0.out.mono ?_; rw [HCd.out]; rintro e w1 ⟨rfl, hb1⟩)
  have hr := HX2.out.below hb1 HX2.out.lt
  have x0 := hr.cell 0
  have x1 := hr.cell 1
  have x2 := hr.frozen 0
  have x3 := hr.frozen 1
  have x4 := hr.lt
  simp only [List.getElem?_toArray, List.getElem?_cons_succ, List.getElem?_cons_zero] at x0 x1
  have g0 := (hr.set 0 (.slice none 0 0)).cell 0
  have g1 := ((hr.set 0 (.slice none 0 0)).set 1 (.slice none 0 0)).cell 1
  simp only [List.setIfInBounds_toArray, List.set_cons_zero, List.set_cons_succ, List.getElem?_toArray, List.getElem?_cons_succ, List.getElem?_cons_zero] at g0 g1
  have HB1 := Lib.hid (((HB0.out.trans (hb1.mono HB0.out.size)).setCell (p := ⟨w.heap.size + 1, 0, none⟩) (by simp) (.slice none 0 0)).setCell (p := ⟨w.heap.size + 1, 1, none⟩) (by simp) (.slice none 0 0))
  clear hb1 hr q0 q1
  go_wp2
  exact bodyPost_ret (v := .tuple #[.agg #[.slice none 0 0, .slice none 0 0], .slice none 0 0, .int .i64 cd]) (by simp [results, Tryz.results11, go_sem, g0, g1]) rfl ⟨rfl, HB1.out⟩
end Go.Proofs.YtgnbkepdbdgkdaaGreatDoor
