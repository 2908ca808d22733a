/- SystemStrings: String and Parse are the reference's. -/
import Derived.Test.YtlnncklanabbdaaGreatDoorVend
import Derived.Test.YtlnncklanabbdaaGreatDoorRParse
namespace Go.Proofs.YtlnncklanabbdaaGreatDoor
open Go.RowKit Pl

set_option maxRecDepth 100000 in
set_option maxHeartbeats 8000000 in
theorem SystemStrings_any {w : World} {a : Option Addr} {n c : Nat} {b : Option Addr} {k d : Nat} {m : Syst} (s : ByteArray) (E : Env w) (A : SysArg w a n c b k d m) (hs : s.size ≤ 9223372036854775807) :
    Calls Tryz.prog 4 #[.agg #[.slice a n c, .slice b k d], .string s] w fun e w' => e = .returned (.bool true) ∧ Below w.heap.size w w' := by
  have hB := (Below.refl w.heap.size w).alloc (Nat.le_refl _) (.cells #[.slice a n c, .slice b k d] 25)
  obtain ⟨w0, hw0⟩ : ∃ w0, w.alloc (.cells #[.slice a n c, .slice b k d] 25) = w0 := ⟨_, rfl⟩
  have hA := A.below hB
  have hE := E.below hB
  have hW := Whole.new w 25 #[.slice a n c, .slice b k d]
  rw [hw0] at hA hE hW hB
  have HW0 := Lib.hid hw0
  have HF := Few_any 20000 (by decide) hA
  obtain ⟨w1, hw1⟩ : ∃ w1, w0.alloc (.cells #[.slice a n c, .slice b k d] 25) = w1 := ⟨_, rfl⟩
  rw [hw1] at HF
  have hb1 : Below w0.heap.size w0 w1 := by rw [← hw1]; exact (Below.refl _ w0).alloc (Nat.le_refl _) _
  have HF := Lib.hid HF
  have hA1 := hA.below hb1
  have hE1 := hE.below hb1
  have hW1 := hW.below hb1 hW.lt
  have HB1 := Lib.hid (hB.trans (hb1.mono hB.size))
  have HE1 := Lib.hid hE1
  have p0 : w0.cell? ⟨w.heap.size, 0, none⟩ = some (.slice a n c) := hW.cell 0
  have p1 : w0.cell? ⟨w.heap.size, 1, none⟩ = some (.slice b k d) := hW.cell 1
  have q0 : w1.cell? ⟨w.heap.size, 0, none⟩ = some (.slice a n c) := hW1.cell 0
  have q1 : w1.cell? ⟨w.heap.size, 1, none⟩ = some (.slice b k d) := hW1.cell 1
  have HA1 := Lib.hid hA1
  have HW1 := Lib.hid hW1
  clear hB hA hE hW hw0 hw1 hb1 hA1 hE1 hW1 A E
  cases hf : fewB m 20000
  · rw [hf] at HF
    go_enter Tryz.func4, Tryz.ntmps4
    go_wp2_with fail
    rw [HW0.out]
    refine HF.out.mono ?_
    rintro e w' ⟨rfl, rfl⟩
    go_wp2_with fail
    refine (awake_any HE1.out).mono ?_
    rintro e w2 ⟨rfl, hb2⟩
    have HB2 := Lib.hid (HB1.out.trans (hb2.mono HB1.out.size))
    clear hb2
    go_wp2
    go_ret
    exact ⟨rfl, HB2.out⟩
  · rw [hf] at HF
    have HFE := Lib.hid ((fewB_iff m 20000).1 hf)
    have HI := RIs_any HA1.out (by have := HFE.out; omega)
    clear hf
    have HBw := HB1
    have HEw := HE1
    have HAw := HA1
    have HWw := HW1
    cases hv : sysB m
    · rw [hv] at HI
      have HI := Lib.hid HI
      have hVV := sstrV_no hv
      clear hv
      go_enter Tryz.func4, Tryz.ntmps4
      go_wp2_with fail
      rw [HW0.out]
      refine HF.out.mono ?_
      rintro e w' ⟨rfl, rfl⟩
      go_wp2_with fail
      refine HI.out.mono ?_
      rintro e W1 ⟨rfl, hbI⟩
      replace HE1 := Lib.hid (HEw.out.below hbI)
      replace HA1 := Lib.hid (HAw.out.below hbI)
      replace HW1 := Lib.hid (HWw.out.below hbI HWw.out.lt)
      replace HB1 := Lib.hid (HBw.out.trans (hbI.mono HBw.out.size))
      clear hbI HBw HEw HAw HWw HI

      have HP := Lib.hid (RParse_any s hs W1)
      go_wp2_with fail
      refine HP.out.mono ?_
      rintro e w4 ⟨a4, n4, c4, b4, k4, d4, rfl, hA4, hb4⟩
      have hb4' := hb4.alloc hb4.size (.cells #[.slice a4 n4 c4, .slice b4 k4 d4] 25)
      have hA4' := hA4.below ((Below.refl _ w4).alloc (Nat.le_refl _) (.cells #[.slice a4 n4 c4, .slice b4 k4 d4] 25))
      have hW4 := Whole.new w4 25 #[.slice a4 n4 c4, .slice b4 k4 d4]
      have hm4 := HW1.out.below hb4 HW1.out.lt
      have t0 : (w4.alloc (.cells #[.slice a4 n4 c4, .slice b4 k4 d4] 25)).cell? ⟨w.heap.size, 0, none⟩ = some (.slice a n c) := cell_new (hm4.cell 0) _
      have t1 : (w4.alloc (.cells #[.slice a4 n4 c4, .slice b4 k4 d4] 25)).cell? ⟨w.heap.size, 1, none⟩ = some (.slice b k d) := cell_new (hm4.cell 1) _
      obtain ⟨w5, hw5⟩ : ∃ w5, w4.alloc (.cells #[.slice a4 n4 c4, .slice b4 k4 d4] 25) = w5 := ⟨_, rfl⟩
      rw [hw5] at hb4' hA4' hW4
      have HW5' := Lib.hid hw5
      have HB5 := Lib.hid (HB1.out.trans (hb4'.mono HB1.out.size))
      have HE5 := Lib.hid (HE1.out.below hb4')
      have HA5 := Lib.hid hA4'
      have HAm := Lib.hid (HA1.out.below hb4')
      have HW5 := Lib.hid hW4
      have HC := Lib.hid (Copy_any HAm.out (by have := HFE.out; omega))
      clear hb4 hb4' hA4 hA4' hW4 hw5 hm4 HP
      go_wp2_with fail
      rw [HW5'.out]
      refine HC.out.mono ?_
      rintro e w6 ⟨va, vs, rfl, hO, hb6⟩
      obtain ⟨a2, c2, b2, d2, rfl, rfl, hA6⟩ := hO.arg (by have := HFE.out; omega) (by have := HFE.out; omega) (fun i hi => by have := HFE.out; have := total_take_le m.states (i + 1); have := total_take m.states i hi; omega) (fun k hk => HA1.out.acts.sz k (by have := HA1.out.acts.len; omega))
      have HB6 := Lib.hid (HB5.out.trans (hb6.mono HB5.out.size))
      have HE6 := Lib.hid (HE5.out.below hb6)
      have HS := Lib.hid (SString_any HE6.out hA6)
      have HW6 := Lib.hid (HW5.out.below hb6 HW5.out.lt)
      have HA6 := Lib.hid (HA5.out.below hb6)
      clear hO hA6 hb6 HC
      go_wp2_with fail
      refine HS.out.mono ?_
      rintro e w7 ⟨rfl, hb7⟩
      have HB7 := Lib.hid (HB6.out.trans (hb7.mono HB6.out.size))
      have HE7 := Lib.hid (HE6.out.below hb7)
      have HA7 := Lib.hid (HA6.out.below hb7)
      have HW7 := Lib.hid (HW6.out.below hb7 HW6.out.lt)
      have HQ := Lib.hid (SParse_any s hs w7 HE7.out)
      clear hb7 HS
      rw [hVV]
      go_wp2_with fail
      refine HQ.out.mono ?_
      rintro e w8 ⟨a8, n8, c8, b8, k8, d8, rfl, hA8, hb8⟩
      have hb8' := hb8.alloc hb8.size (.cells #[.slice a8 n8 c8, .slice b8 k8 d8] 25)
      have hA8' := hA8.below ((Below.refl _ w8).alloc (Nat.le_refl _) (.cells #[.slice a8 n8 c8, .slice b8 k8 d8] 25))
      have hm8 := HW7.out.below hb8 HW7.out.lt
      have u0 : (w8.alloc (.cells #[.slice a8 n8 c8, .slice b8 k8 d8] 25)).cell? ⟨w4.heap.size, 0, none⟩ = some (.slice a4 n4 c4) := cell_new (hm8.cell 0) _
      have u1 : (w8.alloc (.cells #[.slice a8 n8 c8, .slice b8 k8 d8] 25)).cell? ⟨w4.heap.size, 1, none⟩ = some (.slice b4 k4 d4) := cell_new (hm8.cell 1) _
      obtain ⟨w9, hw9⟩ : ∃ w9, w8.alloc (.cells #[.slice a8 n8 c8, .slice b8 k8 d8] 25) = w9 := ⟨_, rfl⟩
      rw [hw9] at hb8' hA8'
      have HW9' := Lib.hid hw9
      have HB9 := Lib.hid (HB7.out.trans (hb8'.mono HB7.out.size))
      have HE9 := Lib.hid (HE7.out.below hb8')
      have HSm := RSame_any hA8' (HA7.out.below hb8')
      rw [(sameB_iff _ _).2 rfl] at HSm
      have HSm := Lib.hid HSm
      obtain ⟨cd, hcd⟩ : ∃ cd, Hid ((parseS s.data.toList).2 = cd) := ⟨_, Lib.hid rfl⟩
      rw [hcd.out]
      clear hb8 hb8' hA8 hA8' hw9 hm8 HQ
      go_wp2_with fail
      rw [HW9'.out]
      refine HSm.out.mono ?_
      rintro e wa ⟨rfl, hba⟩
      have HBa := Lib.hid (HB9.out.trans (hba.mono HB9.out.size))
      have HEa := Lib.hid (HE9.out.below hba)
      clear hba
      go_wp2_with fail
      refine (awake_any HEa.out).mono ?_
      rintro e wz ⟨rfl, hbz⟩
      have HBz := Lib.hid (HBa.out.trans (hbz.mono HBa.out.size))
      clear hbz
      go_wp2
      go_ret
      exact ⟨rfl, HBz.out⟩

    · rw [hv] at HI
      have HI := Lib.hid HI
      have hVV := sstrV_yes hv
      have HV := Lib.hid hv
      clear hv
      go_enter Tryz.func4, Tryz.ntmps4
      go_wp2_with fail
      rw [HW0.out]
      refine HF.out.mono ?_
      rintro e w' ⟨rfl, rfl⟩
      go_wp2_with fail
      refine HI.out.mono ?_
      rintro e W0 ⟨rfl, hb0⟩
      have hm0 := HWw.out.below hb0 HWw.out.lt
      have y0 : W0.cell? ⟨w.heap.size, 0, none⟩ = some (.slice a n c) := hm0.cell 0
      have y1 : W0.cell? ⟨w.heap.size, 1, none⟩ = some (.slice b k d) := hm0.cell 1
      have HRS := Lib.hid (RString_any (HAw.out.below hb0) HV.out)
      have Hb0 := Lib.hid hb0
      have Hm0 := Lib.hid hm0
      clear hb0 hm0 HI
      go_wp2_with fail
      refine HRS.out.mono ?_
      rintro e W1 ⟨rfl, hbJ⟩
      have hbI := below_two Hb0.out hbJ
      replace HE1 := Lib.hid (HEw.out.below hbI)
      replace HA1 := Lib.hid (HAw.out.below hbI)
      replace HW1 := Lib.hid (HWw.out.below hbI HWw.out.lt)
      replace HB1 := Lib.hid (HBw.out.trans (hbI.mono HBw.out.size))
      clear hbI hbJ HBw HEw HAw HWw HRS

      have HP := Lib.hid (RParse_any s hs W1)
      go_wp2_with fail
      refine HP.out.mono ?_
      rintro e w4 ⟨a4, n4, c4, b4, k4, d4, rfl, hA4, hb4⟩
      have hb4' := hb4.alloc hb4.size (.cells #[.slice a4 n4 c4, .slice b4 k4 d4] 25)
      have hA4' := hA4.below ((Below.refl _ w4).alloc (Nat.le_refl _) (.cells #[.slice a4 n4 c4, .slice b4 k4 d4] 25))
      have hW4 := Whole.new w4 25 #[.slice a4 n4 c4, .slice b4 k4 d4]
      have hm4 := HW1.out.below hb4 HW1.out.lt
      have t0 : (w4.alloc (.cells #[.slice a4 n4 c4, .slice b4 k4 d4] 25)).cell? ⟨w.heap.size, 0, none⟩ = some (.slice a n c) := cell_new (hm4.cell 0) _
      have t1 : (w4.alloc (.cells #[.slice a4 n4 c4, .slice b4 k4 d4] 25)).cell? ⟨w.heap.size, 1, none⟩ = some (.slice b k d) := cell_new (hm4.cell 1) _
      obtain ⟨w5, hw5⟩ : ∃ w5, w4.alloc (.cells #[.slice a4 n4 c4, .slice b4 k4 d4] 25) = w5 := ⟨_, rfl⟩
      rw [hw5] at hb4' hA4' hW4
      have HW5' := Lib.hid hw5
      have HB5 := Lib.hid (HB1.out.trans (hb4'.mono HB1.out.size))
      have HE5 := Lib.hid (HE1.out.below hb4')
      have HA5 := Lib.hid hA4'
      have HAm := Lib.hid (HA1.out.below hb4')
      have HW5 := Lib.hid hW4
      have HC := Lib.hid (Copy_any HAm.out (by have := HFE.out; omega))
      clear hb4 hb4' hA4 hA4' hW4 hw5 hm4 HP
      go_wp2_with fail
      rw [HW5'.out]
      refine HC.out.mono ?_
      rintro e w6 ⟨va, vs, rfl, hO, hb6⟩
      obtain ⟨a2, c2, b2, d2, rfl, rfl, hA6⟩ := hO.arg (by have := HFE.out; omega) (by have := HFE.out; omega) (fun i hi => by have := HFE.out; have := total_take_le m.states (i + 1); have := total_take m.states i hi; omega) (fun k hk => HA1.out.acts.sz k (by have := HA1.out.acts.len; omega))
      have HB6 := Lib.hid (HB5.out.trans (hb6.mono HB5.out.size))
      have HE6 := Lib.hid (HE5.out.below hb6)
      have HS := Lib.hid (SString_any HE6.out hA6)
      have HW6 := Lib.hid (HW5.out.below hb6 HW5.out.lt)
      have HA6 := Lib.hid (HA5.out.below hb6)
      clear hO hA6 hb6 HC
      go_wp2_with fail
      refine HS.out.mono ?_
      rintro e w7 ⟨rfl, hb7⟩
      have HB7 := Lib.hid (HB6.out.trans (hb7.mono HB6.out.size))
      have HE7 := Lib.hid (HE6.out.below hb7)
      have HA7 := Lib.hid (HA6.out.below hb7)
      have HW7 := Lib.hid (HW6.out.below hb7 HW6.out.lt)
      have HQ := Lib.hid (SParse_any s hs w7 HE7.out)
      clear hb7 HS
      rw [hVV]
      go_wp2_with fail
      refine HQ.out.mono ?_
      rintro e w8 ⟨a8, n8, c8, b8, k8, d8, rfl, hA8, hb8⟩
      have hb8' := hb8.alloc hb8.size (.cells #[.slice a8 n8 c8, .slice b8 k8 d8] 25)
      have hA8' := hA8.below ((Below.refl _ w8).alloc (Nat.le_refl _) (.cells #[.slice a8 n8 c8, .slice b8 k8 d8] 25))
      have hm8 := HW7.out.below hb8 HW7.out.lt
      have u0 : (w8.alloc (.cells #[.slice a8 n8 c8, .slice b8 k8 d8] 25)).cell? ⟨w4.heap.size, 0, none⟩ = some (.slice a4 n4 c4) := cell_new (hm8.cell 0) _
      have u1 : (w8.alloc (.cells #[.slice a8 n8 c8, .slice b8 k8 d8] 25)).cell? ⟨w4.heap.size, 1, none⟩ = some (.slice b4 k4 d4) := cell_new (hm8.cell 1) _
      obtain ⟨w9, hw9⟩ : ∃ w9, w8.alloc (.cells #[.slice a8 n8 c8, .slice b8 k8 d8] 25) = w9 := ⟨_, rfl⟩
      rw [hw9] at hb8' hA8'
      have HW9' := Lib.hid hw9
      have HB9 := Lib.hid (HB7.out.trans (hb8'.mono HB7.out.size))
      have HE9 := Lib.hid (HE7.out.below hb8')
      have HSm := RSame_any hA8' (HA7.out.below hb8')
      rw [(sameB_iff _ _).2 rfl] at HSm
      have HSm := Lib.hid HSm
      obtain ⟨cd, hcd⟩ : ∃ cd, Hid ((parseS s.data.toList).2 = cd) := ⟨_, Lib.hid rfl⟩
      rw [hcd.out]
      clear hb8 hb8' hA8 hA8' hw9 hm8 HQ
      go_wp2_with fail
      rw [HW9'.out]
      refine HSm.out.mono ?_
      rintro e wa ⟨rfl, hba⟩
      have HBa := Lib.hid (HB9.out.trans (hba.mono HB9.out.size))
      have HEa := Lib.hid (HE9.out.below hba)
      clear hba
      go_wp2_with fail
      refine (awake_any HEa.out).mono ?_
      rintro e wz ⟨rfl, hbz⟩
      have HBz := Lib.hid (HBa.out.trans (hbz.mono HBa.out.size))
      clear hbz
      go_wp2
      go_ret
      exact ⟨rfl, HBz.out⟩

end Go.Proofs.YtlnncklanabbdaaGreatDoor
