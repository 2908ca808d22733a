/- SpecStrings: String and Parse of specifications are the reference's. -/
import Derived.Test.YtpmbijlldoiplaaGreatDoorJoinD
import Derived.Test.YtpmbijlldoiplaaGreatDoorSCopyA
import Derived.Test.YtpmbijlldoiplaaGreatDoorJoinE
namespace Go.Proofs.YtpmbijlldoiplaaGreatDoor
open Go.RowKit Pl

set_option maxRecDepth 100000 in
set_option maxHeartbeats 8000000 in
theorem SpecStrings_any {w : World} {a : Option Addr} {n c : Nat} {b : Option Addr} {k d : Nat} {s : Spc} (tx : ByteArray) (E : Env w) (T : Tab w) (A : SpecArg w a n c b k d s) (hs : tx.size ≤ 9223372036854775807) :
    Calls Tryz.prog 4 #[.agg #[.slice a n c, .slice b k d], .string tx] w fun e w' => e = .returned (.bool true) ∧ Below w.heap.size w w' := by
  have hB := (Below.refl w.heap.size w).alloc (Nat.le_refl _) (.cells #[.slice a n c, .slice b k d] 40)
  have hX := Whole.new w 40 #[.slice a n c, .slice b k d]
  have HX := Lib.hid hX
  have HB0 := Lib.hid hB
  have HF := Lib.hid (SFew_any 20000 (by decide) (A.below hB))
  have HA := Lib.hid A
  have HE := Lib.hid E
  have HT := Lib.hid T
  clear hB hX A E T
  cases hf : fewS s 20000
  · rw [hf] at HF
    go_enter Tryz.func4, Tryz.ntmps4
    go_wp2_with fail
    refine HF.out.mono ?_
    rintro e w1 ⟨rfl, hb1⟩
    have HB1 := Lib.hid (HB0.out.trans (hb1.mono HB0.out.size))
    clear hb1
    go_wp2_with fail
    refine (awakeS_any (HE.out.below HB1.out) (HT.out.below HB1.out)).mono ?_
    rintro e w2 ⟨rfl, hb2⟩
    have HB2 := Lib.hid (HB1.out.trans (hb2.mono HB1.out.size))
    clear hb2
    go_wp2
    go_ret
    exact ⟨rfl, HB2.out⟩
  · rw [hf] at HF
    have HQ : Hid (s.acts.length + s.states.length + totalS s.states ≤ 1000000) := Lib.hid (by have := (fewS_iff s 20000).1 hf; omega)
    clear hf
    cases hv : spcB s
    · have hVV := spStrV_no hv
      have HV := Lib.hid hv
      clear hv
      go_enter Tryz.func4, Tryz.ntmps4
      go_wp2_with fail
      refine HF.out.mono ?_
      rintro e w1 ⟨rfl, hb1⟩
      have HB1 := Lib.hid (HB0.out.trans (hb1.mono HB0.out.size))
      have hx1 := HX.out.below hb1 HX.out.lt
      have k0 : w1.cell? ⟨w.heap.size, 0, none⟩ = some (.slice a n c) := hx1.cell 0
      have k1 : w1.cell? ⟨w.heap.size, 1, none⟩ = some (.slice b k d) := hx1.cell 1
      have HI := Lib.hid (RSIs_any (HA.out.below HB1.out))
      rw [HV.out] at HI
      clear hb1 hx1
      go_wp2_with fail
      refine HI.out.mono ?_
      rintro e w2 ⟨rfl, hb2⟩
      have HB2 := Lib.hid (HB1.out.trans (hb2.mono HB1.out.size))
      have k20 := up_cell hb2 k0
      have k21 := up_cell hb2 k1
      clear hb2 k0 k1
      have HB3 := HB2
      have k30 := k20
      have k31 := k21
      clear k20 k21
      obtain ⟨w3, hw3⟩ : ∃ z, z = w2 := ⟨_, rfl⟩
      subst hw3
      have HP := Lib.hid (RSpParse_any tx hs w3)
      go_wp2_with fail
      refine HP.out.mono ?_
      rintro e w4 ⟨a4, n4, c4, b4, k4, d4, rfl, hA4, hb4⟩
      have k40 := cell_new (up_cell hb4 k30) (.cells #[.slice a4 n4 c4, .slice b4 k4 d4] 40)
      have k41 := cell_new (up_cell hb4 k31) (.cells #[.slice a4 n4 c4, .slice b4 k4 d4] 40)
      have hb4' := hb4.alloc hb4.size (.cells #[.slice a4 n4 c4, .slice b4 k4 d4] 40)
      have hA4' := hA4.below ((Below.refl _ w4).alloc (Nat.le_refl _) (.cells #[.slice a4 n4 c4, .slice b4 k4 d4] 40))
      have hW4 := Whole.new w4 40 #[.slice a4 n4 c4, .slice b4 k4 d4]
      obtain ⟨w5, hw5⟩ : ∃ w5, w4.alloc (.cells #[.slice a4 n4 c4, .slice b4 k4 d4] 40) = w5 := ⟨_, rfl⟩
      rw [hw5] at hb4' hA4' hW4
      have HW5' := Lib.hid hw5
      have HB5 := Lib.hid (HB3.out.trans (hb4'.mono HB3.out.size))
      have HA5 := Lib.hid hA4'
      have HW5 := Lib.hid hW4
      have HC := Lib.hid (SCopyA_any (HA.out.below HB5.out) HQ.out)
      clear hb4 hb4' hA4 hA4' hW4 hw5 HP k30 k31
      go_wp2_with fail
      rw [HW5'.out]
      refine HC.out.mono ?_
      rintro e w6 ⟨a2, c2, b2, d2, rfl, hA6, hb6⟩
      have HB6 := Lib.hid (HB5.out.trans (hb6.mono HB5.out.size))
      have HS := Lib.hid (SpString_any (HE.out.below HB6.out) (HT.out.below HB6.out) hA6)
      have HW6 := Lib.hid (HW5.out.below hb6 HW5.out.lt)
      have HA6 := Lib.hid (HA5.out.below hb6)
      clear hA6 hb6 HC k40 k41
      go_wp2_with fail
      refine HS.out.mono ?_
      rintro e w7 ⟨rfl, hb7⟩
      have HB7 := Lib.hid (HB6.out.trans (hb7.mono HB6.out.size))
      have HA7 := Lib.hid (HA6.out.below hb7)
      have HW7 := Lib.hid (HW6.out.below hb7 HW6.out.lt)
      have HQ7 := Lib.hid (SpParse_any tx hs w7 (HE.out.below HB7.out))
      clear hb7 HS
      rw [hVV]
      go_wp2_with fail
      refine HQ7.out.mono ?_
      rintro e w8 ⟨a8, n8, c8, b8, k8, d8, rfl, hA8, hb8⟩
      have hb8' := hb8.alloc hb8.size (.cells #[.slice a8 n8 c8, .slice b8 k8 d8] 40)
      have hA8' := hA8.below ((Below.refl _ w8).alloc (Nat.le_refl _) (.cells #[.slice a8 n8 c8, .slice b8 k8 d8] 40))
      have hm8 := HW7.out.below hb8 HW7.out.lt
      have u0 : (w8.alloc (.cells #[.slice a8 n8 c8, .slice b8 k8 d8] 40)).cell? ⟨w4.heap.size, 0, none⟩ = some (.slice a4 n4 c4) := cell_new (hm8.cell 0) _
      have u1 : (w8.alloc (.cells #[.slice a8 n8 c8, .slice b8 k8 d8] 40)).cell? ⟨w4.heap.size, 1, none⟩ = some (.slice b4 k4 d4) := cell_new (hm8.cell 1) _
      obtain ⟨w9, hw9⟩ : ∃ w9, w8.alloc (.cells #[.slice a8 n8 c8, .slice b8 k8 d8] 40) = w9 := ⟨_, rfl⟩
      rw [hw9] at hb8' hA8'
      have HW9' := Lib.hid hw9
      have HB9 := Lib.hid (HB7.out.trans (hb8'.mono HB7.out.size))
      have HSm := RSSame_any hA8' (HA7.out.below hb8')
      rw [(sameP_iff _ _).2 rfl] at HSm
      have HSm := Lib.hid HSm
      obtain ⟨cd, hcd⟩ : ∃ cd, Hid ((parseSp tx.data.toList).2 = cd) := ⟨_, Lib.hid rfl⟩
      rw [hcd.out]
      clear hb8 hb8' hA8 hA8' hw9 hm8 HQ7
      go_wp2_with fail
      rw [HW9'.out]
      refine HSm.out.mono ?_
      rintro e wa ⟨rfl, hba⟩
      have HBa := Lib.hid (HB9.out.trans (hba.mono HB9.out.size))
      clear hba
      go_wp2_with fail
      refine (awakeS_any (HE.out.below HBa.out) (HT.out.below HBa.out)).mono ?_
      rintro e wz ⟨rfl, hbz⟩
      have HBz := Lib.hid (HBa.out.trans (hbz.mono HBa.out.size))
      clear hbz
      go_wp2
      go_ret
      exact ⟨rfl, HBz.out⟩
    · have hVV := spStrV_yes hv
      have HV := Lib.hid hv
      clear hv
      go_enter Tryz.func4, Tryz.ntmps4
      go_wp2_with fail
      refine HF.out.mono ?_
      rintro e w1 ⟨rfl, hb1⟩
      have HB1 := Lib.hid (HB0.out.trans (hb1.mono HB0.out.size))
      have hx1 := HX.out.below hb1 HX.out.lt
      have k0 : w1.cell? ⟨w.heap.size, 0, none⟩ = some (.slice a n c) := hx1.cell 0
      have k1 : w1.cell? ⟨w.heap.size, 1, none⟩ = some (.slice b k d) := hx1.cell 1
      have HI := Lib.hid (RSIs_any (HA.out.below HB1.out))
      rw [HV.out] at HI
      clear hb1 hx1
      go_wp2_with fail
      refine HI.out.mono ?_
      rintro e w2 ⟨rfl, hb2⟩
      have HB2 := Lib.hid (HB1.out.trans (hb2.mono HB1.out.size))
      have k20 := up_cell hb2 k0
      have k21 := up_cell hb2 k1
      clear hb2 k0 k1
      have HRS := Lib.hid (RSpString_any (HA.out.below HB2.out) HV.out)
      go_wp2_with fail
      refine HRS.out.mono ?_
      rintro e w3 ⟨rfl, hb3⟩
      have HB3 := Lib.hid (HB2.out.trans (hb3.mono HB2.out.size))
      have k30 := up_cell hb3 k20
      have k31 := up_cell hb3 k21
      clear hb3 k20 k21 HRS
      have HP := Lib.hid (RSpParse_any tx hs w3)
      go_wp2_with fail
      refine HP.out.mono ?_
      rintro e w4 ⟨a4, n4, c4, b4, k4, d4, rfl, hA4, hb4⟩
      have k40 := cell_new (up_cell hb4 k30) (.cells #[.slice a4 n4 c4, .slice b4 k4 d4] 40)
      have k41 := cell_new (up_cell hb4 k31) (.cells #[.slice a4 n4 c4, .slice b4 k4 d4] 40)
      have hb4' := hb4.alloc hb4.size (.cells #[.slice a4 n4 c4, .slice b4 k4 d4] 40)
      have hA4' := hA4.below ((Below.refl _ w4).alloc (Nat.le_refl _) (.cells #[.slice a4 n4 c4, .slice b4 k4 d4] 40))
      have hW4 := Whole.new w4 40 #[.slice a4 n4 c4, .slice b4 k4 d4]
      obtain ⟨w5, hw5⟩ : ∃ w5, w4.alloc (.cells #[.slice a4 n4 c4, .slice b4 k4 d4] 40) = w5 := ⟨_, rfl⟩
      rw [hw5] at hb4' hA4' hW4
      have HW5' := Lib.hid hw5
      have HB5 := Lib.hid (HB3.out.trans (hb4'.mono HB3.out.size))
      have HA5 := Lib.hid hA4'
      have HW5 := Lib.hid hW4
      have HC := Lib.hid (SCopyA_any (HA.out.below HB5.out) HQ.out)
      clear hb4 hb4' hA4 hA4' hW4 hw5 HP k30 k31
      go_wp2_with fail
      rw [HW5'.out]
      refine HC.out.mono ?_
      rintro e w6 ⟨a2, c2, b2, d2, rfl, hA6, hb6⟩
      have HB6 := Lib.hid (HB5.out.trans (hb6.mono HB5.out.size))
      have HS := Lib.hid (SpString_any (HE.out.below HB6.out) (HT.out.below HB6.out) hA6)
      have HW6 := Lib.hid (HW5.out.below hb6 HW5.out.lt)
      have HA6 := Lib.hid (HA5.out.below hb6)
      clear hA6 hb6 HC k40 k41
      go_wp2_with fail
      refine HS.out.mono ?_
      rintro e w7 ⟨rfl, hb7⟩
      have HB7 := Lib.hid (HB6.out.trans (hb7.mono HB6.out.size))
      have HA7 := Lib.hid (HA6.out.below hb7)
      have HW7 := Lib.hid (HW6.out.below hb7 HW6.out.lt)
      have HQ7 := Lib.hid (SpParse_any tx hs w7 (HE.out.below HB7.out))
      clear hb7 HS
      rw [hVV]
      go_wp2_with fail
      refine HQ7.out.mono ?_
      rintro e w8 ⟨a8, n8, c8, b8, k8, d8, rfl, hA8, hb8⟩
      have hb8' := hb8.alloc hb8.size (.cells #[.slice a8 n8 c8, .slice b8 k8 d8] 40)
      have hA8' := hA8.below ((Below.refl _ w8).alloc (Nat.le_refl _) (.cells #[.slice a8 n8 c8, .slice b8 k8 d8] 40))
      have hm8 := HW7.out.below hb8 HW7.out.lt
      have u0 : (w8.alloc (.cells #[.slice a8 n8 c8, .slice b8 k8 d8] 40)).cell? ⟨w4.heap.size, 0, none⟩ = some (.slice a4 n4 c4) := cell_new (hm8.cell 0) _
      have u1 : (w8.alloc (.cells #[.slice a8 n8 c8, .slice b8 k8 d8] 40)).cell? ⟨w4.heap.size, 1, none⟩ = some (.slice b4 k4 d4) := cell_new (hm8.cell 1) _
      obtain ⟨w9, hw9⟩ : ∃ w9, w8.alloc (.cells #[.slice a8 n8 c8, .slice b8 k8 d8] 40) = w9 := ⟨_, rfl⟩
      rw [hw9] at hb8' hA8'
      have HW9' := Lib.hid hw9
      have HB9 := Lib.hid (HB7.out.trans (hb8'.mono HB7.out.size))
      have HSm := RSSame_any hA8' (HA7.out.below hb8')
      rw [(sameP_iff _ _).2 rfl] at HSm
      have HSm := Lib.hid HSm
      obtain ⟨cd, hcd⟩ : ∃ cd, Hid ((parseSp tx.data.toList).2 = cd) := ⟨_, Lib.hid rfl⟩
      rw [hcd.out]
      clear hb8 hb8' hA8 hA8' hw9 hm8 HQ7
      go_wp2_with fail
      rw [HW9'.out]
      refine HSm.out.mono ?_
      rintro e wa ⟨rfl, hba⟩
      have HBa := Lib.hid (HB9.out.trans (hba.mono HB9.out.size))
      clear hba
      go_wp2_with fail
      refine (awakeS_any (HE.out.below HBa.out) (HT.out.below HBa.out)).mono ?_
      rintro e wz ⟨rfl, hbz⟩
      have HBz := Lib.hid (HBa.out.trans (hbz.mono HBa.out.size))
      clear hbz
      go_wp2
      go_ret
      exact ⟨rfl, HBz.out⟩
end Go.Proofs.YtpmbijlldoiplaaGreatDoor
