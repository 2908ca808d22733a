/- SpecSimple: Of, All and None are the reference's. -/
import Derived.Test.YtpmbijlldoiplaaGreatDoorJoinD
import Derived.Test.YtpmbijlldoiplaaGreatDoorJoinF
import Derived.Test.YtpmbijlldoiplaaGreatDoorCopyA
import Derived.Test.YtpmbijlldoiplaaGreatDoorIs2
namespace Go.Proofs.YtpmbijlldoiplaaGreatDoor
open Go.RowKit Pl

set_option maxRecDepth 100000 in
set_option maxHeartbeats 16000000 in
theorem SpecSimple_any {w : World} {a : Option Addr} {n c : Nat} {b : Option Addr} {k d : Nat} {m : Syst} {aa : Option Addr} {an ac : Nat} {acts : List ByteArray} (E : Env w) (T : Tab w) (A : SysArg w a n c b k d m) (L : StrArg w aa an ac acts) (hby : an * 16 ≤ 140737488351232) :
    Calls Tryz.prog 7 #[.agg #[.slice a n c, .slice b k d], .slice aa an ac] w fun e w' => e = .returned (.bool true) ∧ Below w.heap.size w w' := by
  obtain ⟨i0, hi, hz0, hz1, hz2⟩ := info_parts infoString
  have hB := (Below.refl w.heap.size w).alloc (Nat.le_refl _) (.cells #[.slice a n c, .slice b k d] 25)
  have hX := Whole.new w 25 #[.slice a n c, .slice b k d]
  have hsz : (w.alloc (.cells #[.slice a n c, .slice b k d] 25)).heap.size = w.heap.size + 1 := by simp
  obtain ⟨w0, HW0⟩ : ∃ z, Hid (w.alloc (.cells #[.slice a n c, .slice b k d] 25) = z) := ⟨_, Lib.hid rfl⟩
  rw [HW0.out] at hB hX hsz
  have HF := Lib.hid (Few_any 3000 (by decide) (A.below hB))
  obtain ⟨w1, HW1⟩ : ∃ z, Hid (w0.alloc (.cells #[.slice a n c, .slice b k d] 25) = z) := ⟨_, Lib.hid rfl⟩
  have hb01 := (Below.refl w0.heap.size w0).alloc (Nat.le_refl _) (.cells #[.slice a n c, .slice b k d] 25)
  rw [HW1.out] at hb01 HF
  have HB1 := Lib.hid (hB.trans (hb01.mono hB.size))
  have HX1 := Lib.hid (hX.below hb01 hX.lt)
  have hz1' : w.heap.size + 1 < w1.heap.size := by rw [← HW1.out]; simp; omega
  have HZ1 := Lib.hid hz1'
  have HA := Lib.hid A
  have HL := Lib.hid L
  have HE := Lib.hid E
  have HT := Lib.hid T
  have HLl : Hid ((acts.map Value.string).length = an * 1) := Lib.hid (by have := L.len; simp; omega)
  have HNil := Lib.hid L.nils
  have HKl : Hid (m.states.length = k) := Lib.hid A.len.symm
  have q00 : w0.cell? ⟨w.heap.size, 0, none⟩ = some (.slice a n c) := hX.cell 0
  have q01 : w0.cell? ⟨w.heap.size, 1, none⟩ = some (.slice b k d) := hX.cell 1
  clear hB hX hsz hb01 hz1' A L E T
  cases hf : fewB m 3000
  · rw [hf] at HF
    go_enter Tryz.func7, Tryz.ntmps7
    go_wp2_with fail
    rw [HW0.out]
    refine HF.out.mono ?_
    rintro e w' ⟨rfl, rfl⟩
    go_wp2_with fail
    refine (awakeS_any (HE.out.below HB1.out) (HT.out.below HB1.out)).mono ?_
    rintro e w2 ⟨rfl, hb2⟩
    have HB2 := Lib.hid (HB1.out.trans (hb2.mono HB1.out.size))
    clear hb2
    go_wp2
    go_ret
    exact ⟨rfl, HB2.out⟩
  · rw [hf] at HF
    have HQ : Hid (m.acts.length + m.states.length + total m.states ≤ 3000) := Lib.hid ((fewB_iff m 3000).1 hf)
    have hk3 : k ≤ 3000 := by have := HQ.out; have := HKl.out; omega
    clear hf
    -- the three variables for what is wanted
    have hW7 := ((Whole.new w1 40 #[.slice none 0 0, .slice none 0 0]).alloc (.cells #[.slice none 0 0, .slice none 0 0] 40)).alloc (.cells #[.slice none 0 0, .slice none 0 0] 40)
    have hW8 := (Whole.new (w1.alloc (.cells #[.slice none 0 0, .slice none 0 0] 40)) 40 #[.slice none 0 0, .slice none 0 0]).alloc (.cells #[.slice none 0 0, .slice none 0 0] 40)
    have hW9 := Whole.new ((w1.alloc (.cells #[.slice none 0 0, .slice none 0 0] 40)).alloc (.cells #[.slice none 0 0, .slice none 0 0] 40)) 40 #[.slice none 0 0, .slice none 0 0]
    have hb12 := (((Below.refl w1.heap.size w1).alloc (Nat.le_refl _) (.cells #[.slice none 0 0, .slice none 0 0] 40)).alloc (by simp) (.cells #[.slice none 0 0, .slice none 0 0] 40)).alloc (by simp; omega) (.cells #[.slice none 0 0, .slice none 0 0] 40)
    simp only [World.size_alloc] at hW8 hW9
    obtain ⟨w2, HW2⟩ : ∃ z, Hid (((w1.alloc (.cells #[.slice none 0 0, .slice none 0 0] 40)).alloc (.cells #[.slice none 0 0, .slice none 0 0] 40)).alloc (.cells #[.slice none 0 0, .slice none 0 0] 40) = z) := ⟨_, Lib.hid rfl⟩
    rw [HW2.out] at hW7 hW8 hW9 hb12
    have HW7 := Lib.hid hW7
    have HW8 := Lib.hid hW8
    have HW9 := Lib.hid hW9
    have HB2 := Lib.hid (HB1.out.trans (hb12.mono HB1.out.size))
    have hX2 := HX1.out.below hb12 HX1.out.lt
    have HX2 := Lib.hid hX2
    have q0 : w2.cell? ⟨w.heap.size, 0, none⟩ = some (.slice a n c) := hX2.cell 0
    have q1 : w2.cell? ⟨w.heap.size, 1, none⟩ = some (.slice b k d) := hX2.cell 1
    have HI := Lib.hid (RIs_any (HA.out.below HB2.out) (by have := HQ.out; omega))
    have HS2 := Lib.hid hb12.size
    clear hW7 hW8 hW9 hb12 hX2
    go_enter Tryz.func7, Tryz.ntmps7
    have q0' : (((w1.alloc (.cells #[.slice none 0 0, .slice none 0 0] 40)).alloc (.cells #[.slice none 0 0, .slice none 0 0] 40)).alloc (.cells #[.slice none 0 0, .slice none 0 0] 40)).cell? ⟨w.heap.size, 0, none⟩ = some (.slice a n c) := by rw [HW2.out]; exact q0
    have q1' : (((w1.alloc (.cells #[.slice none 0 0, .slice none 0 0] 40)).alloc (.cells #[.slice none 0 0, .slice none 0 0] 40)).alloc (.cells #[.slice none 0 0, .slice none 0 0] 40)).cell? ⟨w.heap.size, 1, none⟩ = some (.slice b k d) := by rw [HW2.out]; exact q1
    go_wp2_with fail
    rw [HW0.out]
    refine HF.out.mono ?_
    rintro e w' ⟨rfl, rfl⟩
    go_wp2_with fail
    rw [HW2.out]
    refine HI.out.mono ?_
    rintro e w3 ⟨rfl, hb3⟩
    have HB3 := Lib.hid (HB2.out.trans (hb3.mono HB2.out.size))
    have HX3 := Lib.hid (HX2.out.below hb3 HX2.out.lt)
    have HV7 := Lib.hid (HW7.out.below hb3 HW7.out.lt)
    have HV8 := Lib.hid (HW8.out.below hb3 HW8.out.lt)
    have HV9 := Lib.hid (HW9.out.below hb3 HW9.out.lt)
    obtain ⟨G, HG⟩ : ∃ z, Hid (w1.heap.size = z) := ⟨_, Lib.hid rfl⟩
    have HGl : Hid (w.heap.size < G ∧ w.heap.size + 1 ≤ G) := Lib.hid (by have := HZ1.out; have := HG.out; omega)
    rw [HG.out] at HV7 HV8 HV9
    have p0 := HX3.out.cell 0
    have p1 := HX3.out.cell 1
    simp only [List.getElem?_toArray, List.getElem?_cons_succ, List.getElem?_cons_zero] at p0 p1
    have HGs : Hid (G ≤ w2.heap.size ∧ G ≤ w3.heap.size) := Lib.hid (by have := HS2.out; have := HG.out; have := hb3.size; omega)
    clear hb3 q0 q1 q0' q1'
    rw [HG.out]
    cases hv : sysB m
    · have HOV := Lib.hid (ofV_bad hv)
      clear hv
      obtain ⟨wS, hwS⟩ : ∃ z, z = w3 := ⟨_, rfl⟩
      subst hwS
      have HBS := HB3
      have HXS := HX3
      have HS7 := HV7
      have HS8 := HV8
      have HS9 := HV9
      have HO7 := Lib.hid (spcOwn_nil wS 0)
      have HIs := Lib.hid (Is_arg (HL.out.below HBS.out))
      cases hac : actsB acts
      · rw [hac] at HIs
        have HAc := Lib.hid hac
        clear hac
        go_wp2_with fail
        refine HIs.out.mono ?_
        rintro e w' ⟨rfl, rfl⟩
        obtain ⟨wV, hwV⟩ : ∃ z, z = wS := ⟨_, rfl⟩
        subst hwV
        have HV7 := HS7
        have HV8 := HS8
        have HV9 := HS9
        have HXV := HXS
        have HBV := HBS
        have HP7 := HO7
        have HP8 : Hid (SpcOwn wV 0 (.slice none 0 0) (.slice none 0 0) (allV acts)) := Lib.hid (by unfold allV; rw [HAc.out]; exact spcOwn_nil _ _)
        have HP9 : Hid (SpcOwn wV 0 (.slice none 0 0) (.slice none 0 0) (noneV acts)) := Lib.hid (by unfold noneV; rw [HAc.out]; exact spcOwn_nil _ _)
        have HQ7 : Hid (SpecArg wV none 0 0 none 0 0 noSpc) := Lib.hid ((by have := good_ofV m; rw [HOV.out] at this; exact this : Good noSpc).arg2 HP7.out)
        have HQ8 := Lib.hid ((good_allV acts).arg2 HP8.out)
        have HQ9 := Lib.hid ((good_noneV acts).arg2 HP9.out)
        obtain ⟨x0, x1, _, _, x4⟩ := cells_two HXV.out
        have HCp := Lib.hid (CopyA_any (HA.out.below HBV.out) (by have := HQ.out; omega))
        go_wp2_with fail
        refine HCp.out.mono ?_
        rintro e wC ⟨a2, c2, b2, d2, rfl, hC, hbC⟩
        have hbVC := hbC
        have HBC := Lib.hid (HBV.out.trans (hbC.mono HBV.out.size))
        obtain ⟨e0, e1, e2, hEr⟩ := (HE.out.below HBC.out).errs
        have HOf := OfA_any hEr hC
        rw [HOV.out] at HOf
        have HOf := Lib.hid HOf
        have HbC := Lib.hid hbC
        clear hC hbC hbVC hEr
        go_wp2_with fail
        refine HOf.out.mono ?_
        rintro e wD ⟨a3, n3, c3, b3, k3, d3, rfl, hD, hbD⟩
        have hbD1 := hbD.alloc hbD.size (.cells #[.slice a3 n3 c3, .slice b3 k3 d3] 40)
        have hbD2 := HbC.out.trans (hbD1.mono HbC.out.size)
        have HBD := Lib.hid (HBC.out.trans (hbD1.mono HBC.out.size))
        have HW11 := Lib.hid (Whole.new wD 40 #[.slice a3 n3 c3, .slice b3 k3 d3])
        have HD11 := Lib.hid (hD.below ((Below.refl _ wD).alloc (Nat.le_refl _) (.cells #[.slice a3 n3 c3, .slice b3 k3 d3] 40)))
        have HbVD := Lib.hid hbD2
        have HSrc := Lib.hid (strs_src (HL.out.below HBD.out))
        have hg1 : w.heap.size ≤ (wD.alloc (.cells #[.slice a3 n3 c3, .slice b3 k3 d3] 40)).heap.size := HBD.out.size
        clear hD hbD hbD1 hbD2
        go_wp2_with (at_builtin; (refine wpList_append_sz rfl (.const (.slice none 0 0)) (.tmp 48) 22 rfl w.heap.size 9 i0 (.string ⟨#[]⟩) 1 16 Tryz.underlying22 hi hz0 hz1 hz2 rfl (by decide) (.slice none 0 0) rfl 0 [] (World.ownsRow_nil _ _ _ _) aa an ac rfl (acts.map Value.string) HNil.out HLl.out HSrc.out (strs_one _) (by unfold maxLen; omega) (by omega) hg1 ?_); intro va wF hva hgF hatF; refine Hid.out ?_)
        simp only [Nat.zero_add, List.nil_append] at hva
        obtain ⟨af, cf, rfl, hSF⟩ := strsOwn_arg hva HL.out.len HL.out.big (fun q hq => HL.out.sz q hq)
        have hbF := below_up hgF
        have HBF := Lib.hid (HBD.out.trans (hbF.mono HBD.out.size))
        have HbVF := Lib.hid (HbVD.out.trans (hbF.mono HbVD.out.size))
        have HW11F := Lib.hid (HW11.out.below hbF HW11.out.lt)
        have HD11F := Lib.hid (HD11.out.below hbF)
        obtain ⟨e0', e1', e2', hEr2⟩ := (HE.out.below HBF.out).errs
        have HAl := AllA_any hEr2 hSF
        rw [HAc.out] at HAl
        have HAl := Lib.hid HAl
        clear hva hgF hatF hSF hbF hEr2 hg1
        refine Lib.hid ?_
        go_wp2_with fail
        refine HAl.out.mono ?_
        rintro e wH ⟨a4, n4, c4, b4, k4, d4, rfl, hH, hbH⟩
        have hbH1 := hbH.alloc hbH.size (.cells #[.slice a4 n4 c4, .slice b4 k4 d4] 40)
        have HBH := Lib.hid (HBF.out.trans (hbH1.mono HBF.out.size))
        have HbVH := Lib.hid (HbVF.out.trans (hbH1.mono HbVF.out.size))
        have HW11H := Lib.hid (HW11F.out.below hbH1 HW11F.out.lt)
        have HD11H := Lib.hid (HD11F.out.below hbH1)
        have HW14 := Lib.hid (Whole.new wH 40 #[.slice a4 n4 c4, .slice b4 k4 d4])
        have HD14 := Lib.hid (hH.below ((Below.refl _ wH).alloc (Nat.le_refl _) (.cells #[.slice a4 n4 c4, .slice b4 k4 d4] 40)))
        have HSrc2 := Lib.hid (strs_src (HL.out.below HBH.out))
        have hg2 : w.heap.size ≤ (wH.alloc (.cells #[.slice a4 n4 c4, .slice b4 k4 d4] 40)).heap.size := HBH.out.size
        clear hH hbH hbH1
        go_wp2_with (at_builtin; (refine wpList_append_sz rfl (.const (.slice none 0 0)) (.tmp 54) 22 rfl w.heap.size 9 i0 (.string ⟨#[]⟩) 1 16 Tryz.underlying22 hi hz0 hz1 hz2 rfl (by decide) (.slice none 0 0) rfl 0 [] (World.ownsRow_nil _ _ _ _) aa an ac rfl (acts.map Value.string) HNil.out HLl.out HSrc2.out (strs_one _) (by unfold maxLen; omega) (by omega) hg2 ?_); intro va wI hva hgI hatI; refine Hid.out ?_)
        simp only [Nat.zero_add, List.nil_append] at hva
        obtain ⟨ai, ci, rfl, hSI⟩ := strsOwn_arg hva HL.out.len HL.out.big (fun q hq => HL.out.sz q hq)
        have hbI := below_up hgI
        have HBI := Lib.hid (HBH.out.trans (hbI.mono HBH.out.size))
        have HbVI := Lib.hid (HbVH.out.trans (hbI.mono HbVH.out.size))
        have HW11I := Lib.hid (HW11H.out.below hbI HW11H.out.lt)
        have HD11I := Lib.hid (HD11H.out.below hbI)
        have HW14I := Lib.hid (HW14.out.below hbI HW14.out.lt)
        have HD14I := Lib.hid (HD14.out.below hbI)
        obtain ⟨e0'', e1'', e2'', hEr3⟩ := (HE.out.below HBI.out).errs
        have HNo := NoneA_any hEr3 hSI
        rw [HAc.out] at HNo
        have HNo := Lib.hid HNo
        clear hva hgI hatI hSI hbI hEr3 hg2
        refine Lib.hid ?_
        go_wp2_with fail
        refine HNo.out.mono ?_
        rintro e wJ ⟨a5, n5, c5, b5, k5, d5, rfl, hJ, hbJ⟩
        have hbJ1 := hbJ.alloc hbJ.size (.cells #[.slice a5 n5 c5, .slice b5 k5 d5] 40)
        have HBJ := Lib.hid (HBI.out.trans (hbJ1.mono HBI.out.size))
        have hbVJ := HbVI.out.trans (hbJ1.mono HbVI.out.size)
        have HW11J := Lib.hid (HW11I.out.below hbJ1 HW11I.out.lt)
        have HD11J := Lib.hid (HD11I.out.below hbJ1)
        have HW14J := Lib.hid (HW14I.out.below hbJ1 HW14I.out.lt)
        have HD14J := Lib.hid (HD14I.out.below hbJ1)
        have HW16 := Lib.hid (Whole.new wJ 40 #[.slice a5 n5 c5, .slice b5 k5 d5])
        have HD16 := Lib.hid (hJ.below ((Below.refl _ wJ).alloc (Nat.le_refl _) (.cells #[.slice a5 n5 c5, .slice b5 k5 d5] 40)))
        have HZ7 := Lib.hid (HV7.out.below hbVJ HV7.out.lt)
        have HZ8 := Lib.hid (HV8.out.below hbVJ HV8.out.lt)
        have HZ9 := Lib.hid (HV9.out.below hbVJ HV9.out.lt)
        have HY7 := Lib.hid (HQ7.out.below hbVJ)
        have HY8 := Lib.hid (HQ8.out.below hbVJ)
        have HY9 := Lib.hid (HQ9.out.below hbVJ)
        obtain ⟨s0, s1, _, _, _⟩ := cells_two HW11J.out
        obtain ⟨s2, s3, _, _, _⟩ := cells_two HZ7.out
        have HSa := RSSame_any HD11J.out HY7.out
        rw [(sameP_iff _ _).2 rfl] at HSa
        have HSa := Lib.hid HSa
        clear hJ hbJ hbJ1 hbVJ
        have HWJ := Lib.hid (rfl : wJ.alloc (.cells #[.slice a5 n5 c5, .slice b5 k5 d5] 40) = wJ.alloc (.cells #[.slice a5 n5 c5, .slice b5 k5 d5] 40))
        go_wp2_with fail
        refine HSa.out.mono ?_
        rintro e wK ⟨rfl, hbK⟩
        obtain ⟨t0, t1, _, _, _⟩ := cells_two (HW14J.out.below hbK HW14J.out.lt)
        obtain ⟨t2, t3, _, _, _⟩ := cells_two (HZ8.out.below hbK HZ8.out.lt)
        have HSb := RSSame_any (HD14J.out.below hbK) (HY8.out.below hbK)
        rw [(sameP_iff _ _).2 rfl] at HSb
        have HSb := Lib.hid HSb
        have HbK := Lib.hid hbK
        clear hbK s0 s1 s2 s3
        go_wp2_with fail
        refine HSb.out.mono ?_
        rintro e wM ⟨rfl, hbM⟩
        have hbJM := HbK.out.trans (hbM.mono HbK.out.size)
        obtain ⟨y0, y1, _, _, _⟩ := cells_two (HW16.out.below hbJM HW16.out.lt)
        obtain ⟨y2, y3, _, _, _⟩ := cells_two (HZ9.out.below hbJM HZ9.out.lt)
        have HSc := RSSame_any (HD16.out.below hbJM) (HY9.out.below hbJM)
        rw [(sameP_iff _ _).2 rfl] at HSc
        have HSc := Lib.hid HSc
        have HbJM := Lib.hid hbJM
        clear hbM hbJM t0 t1 t2 t3
        go_wp2_with fail
        refine HSc.out.mono ?_
        rintro e wN ⟨rfl, hbN⟩
        have HBN := Lib.hid (HBJ.out.trans ((HbJM.out.trans (hbN.mono HbJM.out.size)).mono HBJ.out.size))
        clear hbN y0 y1 y2 y3
        go_wp2_with fail
        refine (awakeS_any (HE.out.below HBN.out) (HT.out.below HBN.out)).mono ?_
        rintro e wO ⟨rfl, hbO⟩
        have HBO := Lib.hid (HBN.out.trans (hbO.mono HBN.out.size))
        clear hbO
        go_wp2
        go_ret
        exact ⟨rfl, HBO.out⟩
      · rw [hac] at HIs
        have HAc := Lib.hid hac
        clear hac
        go_wp2_with fail
        refine HIs.out.mono ?_
        rintro e w' ⟨rfl, rfl⟩
        have HRA := Lib.hid (RAllO_any (HL.out.below HBS.out) HAc.out)
        go_wp2_with fail
        refine HRA.out.mono ?_
        rintro e wT ⟨ta, tn, tc, tb, tk, td, rfl, hTO, hbT⟩
        have HBT := Lib.hid (HBS.out.trans (hbT.mono HBS.out.size))
        have HRN := Lib.hid (RNothingO_any (HL.out.below HBT.out) HAc.out)
        have HTO := Lib.hid hTO
        have HbT := Lib.hid hbT
        clear hTO hbT
        go_wp2_with fail
        refine HRN.out.mono ?_
        rintro e wU ⟨ua, un, uc, ub, uk, ud, rfl, hUO, hbU⟩
        have hbSU := HbT.out.trans (hbU.mono HbT.out.size)
        have hs8 := HS8.out.below hbSU HS8.out.lt
        have hs9 := HS9.out.below hbSU HS9.out.lt
        obtain ⟨c80, c81, f80, f81, l8⟩ := cells_two hs8
        obtain ⟨c90, c91, f90, f91, l9⟩ := cells_two hs9
        have HV7 := Lib.hid (whole_far (HS7.out.below hbSU HS7.out.lt) (R1 := G + 1) (R2 := G + 1 + 1) (by omega) (by omega) (.slice ta tn tc) (.slice tb tk td) (.slice ua un uc) (.slice ub uk ud))
        have HXV := Lib.hid (whole_far (HXS.out.below hbSU HXS.out.lt) (R1 := G + 1) (R2 := G + 1 + 1) (by have := HGl.out; omega) (by have := HGl.out; omega) (.slice ta tn tc) (.slice tb tk td) (.slice ua un uc) (.slice ub uk ud))
        have HV8 := Lib.hid (whole_two hs8 hs9 (by omega) (.slice ta tn tc) (.slice tb tk td) (.slice ua un uc) (.slice ub uk ud)).1
        have HV9 := Lib.hid (whole_two hs8 hs9 (by omega) (.slice ta tn tc) (.slice tb tk td) (.slice ua un uc) (.slice ub uk ud)).2
        have HP7 := Lib.hid (spc_two (HO7.out.below hbSU) hs8 hs9 (by omega) (.slice ta tn tc) (.slice tb tk td) (.slice ua un uc) (.slice ub uk ud))
        have HP8 := Lib.hid (spc_two (HTO.out.below hbU) hs8 hs9 (by omega) (.slice ta tn tc) (.slice tb tk td) (.slice ua un uc) (.slice ub uk ud))
        have HP9 := Lib.hid (spc_two hUO hs8 hs9 (by omega) (.slice ta tn tc) (.slice tb tk td) (.slice ua un uc) (.slice ub uk ud))
        have HBV := Lib.hid (((((HBS.out.trans (hbSU.mono HBS.out.size)).setCell (p := ⟨G + 1, 0, none⟩) (by have := HGl.out; simp; omega) (.slice ta tn tc)).setCell (p := ⟨G + 1, 1, none⟩) (by have := HGl.out; simp; omega) (.slice tb tk td)).setCell (p := ⟨G + 1 + 1, 0, none⟩) (by have := HGl.out; simp; omega) (.slice ua un uc)).setCell (p := ⟨G + 1 + 1, 1, none⟩) (by have := HGl.out; simp; omega) (.slice ub uk ud))
        obtain ⟨wV, HWV⟩ : ∃ z, Hid ((((wU.setCell ⟨G + 1, 0, none⟩ (.slice ta tn tc)).setCell ⟨G + 1, 1, none⟩ (.slice tb tk td)).setCell ⟨G + 1 + 1, 0, none⟩ (.slice ua un uc)).setCell ⟨G + 1 + 1, 1, none⟩ (.slice ub uk ud) = z) := ⟨_, Lib.hid rfl⟩
        obtain ⟨x0', x1', _, _, _⟩ := cells_two HXV.out
        rw [HWV.out] at HV7 HXV HV8 HV9 HP7 HP8 HP9 HBV
        clear hUO hbU hbSU hs8 hs9
        have HQ7 : Hid (SpecArg wV none 0 0 none 0 0 noSpc) := Lib.hid ((by have := good_ofV m; rw [HOV.out] at this; exact this : Good noSpc).arg2 HP7.out)
        have HQ8 := Lib.hid ((good_allV acts).arg2 HP8.out)
        have HQ9 := Lib.hid ((good_noneV acts).arg2 HP9.out)
        obtain ⟨x0, x1, _, _, x4⟩ := cells_two HXV.out
        have HCp := Lib.hid (CopyA_any (HA.out.below HBV.out) (by have := HQ.out; omega))
        go_wp2_with fail
        rw [HWV.out]
        refine HCp.out.mono ?_
        rintro e wC ⟨a2, c2, b2, d2, rfl, hC, hbC⟩
        have hbVC := hbC
        have HBC := Lib.hid (HBV.out.trans (hbC.mono HBV.out.size))
        obtain ⟨e0, e1, e2, hEr⟩ := (HE.out.below HBC.out).errs
        have HOf := OfA_any hEr hC
        rw [HOV.out] at HOf
        have HOf := Lib.hid HOf
        have HbC := Lib.hid hbC
        clear hC hbC hbVC hEr
        go_wp2_with fail
        refine HOf.out.mono ?_
        rintro e wD ⟨a3, n3, c3, b3, k3, d3, rfl, hD, hbD⟩
        have hbD1 := hbD.alloc hbD.size (.cells #[.slice a3 n3 c3, .slice b3 k3 d3] 40)
        have hbD2 := HbC.out.trans (hbD1.mono HbC.out.size)
        have HBD := Lib.hid (HBC.out.trans (hbD1.mono HBC.out.size))
        have HW11 := Lib.hid (Whole.new wD 40 #[.slice a3 n3 c3, .slice b3 k3 d3])
        have HD11 := Lib.hid (hD.below ((Below.refl _ wD).alloc (Nat.le_refl _) (.cells #[.slice a3 n3 c3, .slice b3 k3 d3] 40)))
        have HbVD := Lib.hid hbD2
        have HSrc := Lib.hid (strs_src (HL.out.below HBD.out))
        have hg1 : w.heap.size ≤ (wD.alloc (.cells #[.slice a3 n3 c3, .slice b3 k3 d3] 40)).heap.size := HBD.out.size
        clear hD hbD hbD1 hbD2
        go_wp2_with (at_builtin; (refine wpList_append_sz rfl (.const (.slice none 0 0)) (.tmp 48) 22 rfl w.heap.size 9 i0 (.string ⟨#[]⟩) 1 16 Tryz.underlying22 hi hz0 hz1 hz2 rfl (by decide) (.slice none 0 0) rfl 0 [] (World.ownsRow_nil _ _ _ _) aa an ac rfl (acts.map Value.string) HNil.out HLl.out HSrc.out (strs_one _) (by unfold maxLen; omega) (by omega) hg1 ?_); intro va wF hva hgF hatF; refine Hid.out ?_)
        simp only [Nat.zero_add, List.nil_append] at hva
        obtain ⟨af, cf, rfl, hSF⟩ := strsOwn_arg hva HL.out.len HL.out.big (fun q hq => HL.out.sz q hq)
        have hbF := below_up hgF
        have HBF := Lib.hid (HBD.out.trans (hbF.mono HBD.out.size))
        have HbVF := Lib.hid (HbVD.out.trans (hbF.mono HbVD.out.size))
        have HW11F := Lib.hid (HW11.out.below hbF HW11.out.lt)
        have HD11F := Lib.hid (HD11.out.below hbF)
        obtain ⟨e0', e1', e2', hEr2⟩ := (HE.out.below HBF.out).errs
        have HAl := AllA_any hEr2 hSF
        rw [HAc.out] at HAl
        have HAl := Lib.hid HAl
        clear hva hgF hatF hSF hbF hEr2 hg1
        refine Lib.hid ?_
        go_wp2_with fail
        refine HAl.out.mono ?_
        rintro e wH ⟨a4, n4, c4, b4, k4, d4, rfl, hH, hbH⟩
        have hbH1 := hbH.alloc hbH.size (.cells #[.slice a4 n4 c4, .slice b4 k4 d4] 40)
        have HBH := Lib.hid (HBF.out.trans (hbH1.mono HBF.out.size))
        have HbVH := Lib.hid (HbVF.out.trans (hbH1.mono HbVF.out.size))
        have HW11H := Lib.hid (HW11F.out.below hbH1 HW11F.out.lt)
        have HD11H := Lib.hid (HD11F.out.below hbH1)
        have HW14 := Lib.hid (Whole.new wH 40 #[.slice a4 n4 c4, .slice b4 k4 d4])
        have HD14 := Lib.hid (hH.below ((Below.refl _ wH).alloc (Nat.le_refl _) (.cells #[.slice a4 n4 c4, .slice b4 k4 d4] 40)))
        have HSrc2 := Lib.hid (strs_src (HL.out.below HBH.out))
        have hg2 : w.heap.size ≤ (wH.alloc (.cells #[.slice a4 n4 c4, .slice b4 k4 d4] 40)).heap.size := HBH.out.size
        clear hH hbH hbH1
        go_wp2_with (at_builtin; (refine wpList_append_sz rfl (.const (.slice none 0 0)) (.tmp 54) 22 rfl w.heap.size 9 i0 (.string ⟨#[]⟩) 1 16 Tryz.underlying22 hi hz0 hz1 hz2 rfl (by decide) (.slice none 0 0) rfl 0 [] (World.ownsRow_nil _ _ _ _) aa an ac rfl (acts.map Value.string) HNil.out HLl.out HSrc2.out (strs_one _) (by unfold maxLen; omega) (by omega) hg2 ?_); intro va wI hva hgI hatI; refine Hid.out ?_)
        simp only [Nat.zero_add, List.nil_append] at hva
        obtain ⟨ai, ci, rfl, hSI⟩ := strsOwn_arg hva HL.out.len HL.out.big (fun q hq => HL.out.sz q hq)
        have hbI := below_up hgI
        have HBI := Lib.hid (HBH.out.trans (hbI.mono HBH.out.size))
        have HbVI := Lib.hid (HbVH.out.trans (hbI.mono HbVH.out.size))
        have HW11I := Lib.hid (HW11H.out.below hbI HW11H.out.lt)
        have HD11I := Lib.hid (HD11H.out.below hbI)
        have HW14I := Lib.hid (HW14.out.below hbI HW14.out.lt)
        have HD14I := Lib.hid (HD14.out.below hbI)
        obtain ⟨e0'', e1'', e2'', hEr3⟩ := (HE.out.below HBI.out).errs
        have HNo := NoneA_any hEr3 hSI
        rw [HAc.out] at HNo
        have HNo := Lib.hid HNo
        clear hva hgI hatI hSI hbI hEr3 hg2
        refine Lib.hid ?_
        go_wp2_with fail
        refine HNo.out.mono ?_
        rintro e wJ ⟨a5, n5, c5, b5, k5, d5, rfl, hJ, hbJ⟩
        have hbJ1 := hbJ.alloc hbJ.size (.cells #[.slice a5 n5 c5, .slice b5 k5 d5] 40)
        have HBJ := Lib.hid (HBI.out.trans (hbJ1.mono HBI.out.size))
        have hbVJ := HbVI.out.trans (hbJ1.mono HbVI.out.size)
        have HW11J := Lib.hid (HW11I.out.below hbJ1 HW11I.out.lt)
        have HD11J := Lib.hid (HD11I.out.below hbJ1)
        have HW14J := Lib.hid (HW14I.out.below hbJ1 HW14I.out.lt)
        have HD14J := Lib.hid (HD14I.out.below hbJ1)
        have HW16 := Lib.hid (Whole.new wJ 40 #[.slice a5 n5 c5, .slice b5 k5 d5])
        have HD16 := Lib.hid (hJ.below ((Below.refl _ wJ).alloc (Nat.le_refl _) (.cells #[.slice a5 n5 c5, .slice b5 k5 d5] 40)))
        have HZ7 := Lib.hid (HV7.out.below hbVJ HV7.out.lt)
        have HZ8 := Lib.hid (HV8.out.below hbVJ HV8.out.lt)
        have HZ9 := Lib.hid (HV9.out.below hbVJ HV9.out.lt)
        have HY7 := Lib.hid (HQ7.out.below hbVJ)
        have HY8 := Lib.hid (HQ8.out.below hbVJ)
        have HY9 := Lib.hid (HQ9.out.below hbVJ)
        obtain ⟨s0, s1, _, _, _⟩ := cells_two HW11J.out
        obtain ⟨s2, s3, _, _, _⟩ := cells_two HZ7.out
        have HSa := RSSame_any HD11J.out HY7.out
        rw [(sameP_iff _ _).2 rfl] at HSa
        have HSa := Lib.hid HSa
        clear hJ hbJ hbJ1 hbVJ
        have HWJ := Lib.hid (rfl : wJ.alloc (.cells #[.slice a5 n5 c5, .slice b5 k5 d5] 40) = wJ.alloc (.cells #[.slice a5 n5 c5, .slice b5 k5 d5] 40))
        go_wp2_with fail
        refine HSa.out.mono ?_
        rintro e wK ⟨rfl, hbK⟩
        obtain ⟨t0, t1, _, _, _⟩ := cells_two (HW14J.out.below hbK HW14J.out.lt)
        obtain ⟨t2, t3, _, _, _⟩ := cells_two (HZ8.out.below hbK HZ8.out.lt)
        have HSb := RSSame_any (HD14J.out.below hbK) (HY8.out.below hbK)
        rw [(sameP_iff _ _).2 rfl] at HSb
        have HSb := Lib.hid HSb
        have HbK := Lib.hid hbK
        clear hbK s0 s1 s2 s3
        go_wp2_with fail
        refine HSb.out.mono ?_
        rintro e wM ⟨rfl, hbM⟩
        have hbJM := HbK.out.trans (hbM.mono HbK.out.size)
        obtain ⟨y0, y1, _, _, _⟩ := cells_two (HW16.out.below hbJM HW16.out.lt)
        obtain ⟨y2, y3, _, _, _⟩ := cells_two (HZ9.out.below hbJM HZ9.out.lt)
        have HSc := RSSame_any (HD16.out.below hbJM) (HY9.out.below hbJM)
        rw [(sameP_iff _ _).2 rfl] at HSc
        have HSc := Lib.hid HSc
        have HbJM := Lib.hid hbJM
        clear hbM hbJM t0 t1 t2 t3
        go_wp2_with fail
        refine HSc.out.mono ?_
        rintro e wN ⟨rfl, hbN⟩
        have HBN := Lib.hid (HBJ.out.trans ((HbJM.out.trans (hbN.mono HbJM.out.size)).mono HBJ.out.size))
        clear hbN y0 y1 y2 y3
        go_wp2_with fail
        refine (awakeS_any (HE.out.below HBN.out) (HT.out.below HBN.out)).mono ?_
        rintro e wO ⟨rfl, hbO⟩
        have HBO := Lib.hid (HBN.out.trans (hbO.mono HBN.out.size))
        clear hbO
        go_wp2
        go_ret
        exact ⟨rfl, HBO.out⟩
    · by_cases hk5 : 500 < k
      · have HOV := Lib.hid (ofV_large hv (by rw [HKl.out]; exact hk5))
        clear hv
        obtain ⟨wS, hwS⟩ : ∃ z, z = w3 := ⟨_, rfl⟩
        subst hwS
        have HBS := HB3
        have HXS := HX3
        have HS7 := HV7
        have HS8 := HV8
        have HS9 := HV9
        have HO7 := Lib.hid (spcOwn_nil wS 0)
        have HIs := Lib.hid (Is_arg (HL.out.below HBS.out))
        cases hac : actsB acts
        · rw [hac] at HIs
          have HAc := Lib.hid hac
          clear hac
          go_wp2_with fail
          refine HIs.out.mono ?_
          rintro e w' ⟨rfl, rfl⟩
          obtain ⟨wV, hwV⟩ : ∃ z, z = wS := ⟨_, rfl⟩
          subst hwV
          have HV7 := HS7
          have HV8 := HS8
          have HV9 := HS9
          have HXV := HXS
          have HBV := HBS
          have HP7 := HO7
          have HP8 : Hid (SpcOwn wV 0 (.slice none 0 0) (.slice none 0 0) (allV acts)) := Lib.hid (by unfold allV; rw [HAc.out]; exact spcOwn_nil _ _)
          have HP9 : Hid (SpcOwn wV 0 (.slice none 0 0) (.slice none 0 0) (noneV acts)) := Lib.hid (by unfold noneV; rw [HAc.out]; exact spcOwn_nil _ _)
          have HQ7 : Hid (SpecArg wV none 0 0 none 0 0 noSpc) := Lib.hid ((by have := good_ofV m; rw [HOV.out] at this; exact this : Good noSpc).arg2 HP7.out)
          have HQ8 := Lib.hid ((good_allV acts).arg2 HP8.out)
          have HQ9 := Lib.hid ((good_noneV acts).arg2 HP9.out)
          obtain ⟨x0, x1, _, _, x4⟩ := cells_two HXV.out
          have HCp := Lib.hid (CopyA_any (HA.out.below HBV.out) (by have := HQ.out; omega))
          go_wp2_with fail
          refine HCp.out.mono ?_
          rintro e wC ⟨a2, c2, b2, d2, rfl, hC, hbC⟩
          have hbVC := hbC
          have HBC := Lib.hid (HBV.out.trans (hbC.mono HBV.out.size))
          obtain ⟨e0, e1, e2, hEr⟩ := (HE.out.below HBC.out).errs
          have HOf := OfA_any hEr hC
          rw [HOV.out] at HOf
          have HOf := Lib.hid HOf
          have HbC := Lib.hid hbC
          clear hC hbC hbVC hEr
          go_wp2_with fail
          refine HOf.out.mono ?_
          rintro e wD ⟨a3, n3, c3, b3, k3, d3, rfl, hD, hbD⟩
          have hbD1 := hbD.alloc hbD.size (.cells #[.slice a3 n3 c3, .slice b3 k3 d3] 40)
          have hbD2 := HbC.out.trans (hbD1.mono HbC.out.size)
          have HBD := Lib.hid (HBC.out.trans (hbD1.mono HBC.out.size))
          have HW11 := Lib.hid (Whole.new wD 40 #[.slice a3 n3 c3, .slice b3 k3 d3])
          have HD11 := Lib.hid (hD.below ((Below.refl _ wD).alloc (Nat.le_refl _) (.cells #[.slice a3 n3 c3, .slice b3 k3 d3] 40)))
          have HbVD := Lib.hid hbD2
          have HSrc := Lib.hid (strs_src (HL.out.below HBD.out))
          have hg1 : w.heap.size ≤ (wD.alloc (.cells #[.slice a3 n3 c3, .slice b3 k3 d3] 40)).heap.size := HBD.out.size
          clear hD hbD hbD1 hbD2
          go_wp2_with (at_builtin; (refine wpList_append_sz rfl (.const (.slice none 0 0)) (.tmp 48) 22 rfl w.heap.size 9 i0 (.string ⟨#[]⟩) 1 16 Tryz.underlying22 hi hz0 hz1 hz2 rfl (by decide) (.slice none 0 0) rfl 0 [] (World.ownsRow_nil _ _ _ _) aa an ac rfl (acts.map Value.string) HNil.out HLl.out HSrc.out (strs_one _) (by unfold maxLen; omega) (by omega) hg1 ?_); intro va wF hva hgF hatF; refine Hid.out ?_)
          simp only [Nat.zero_add, List.nil_append] at hva
          obtain ⟨af, cf, rfl, hSF⟩ := strsOwn_arg hva HL.out.len HL.out.big (fun q hq => HL.out.sz q hq)
          have hbF := below_up hgF
          have HBF := Lib.hid (HBD.out.trans (hbF.mono HBD.out.size))
          have HbVF := Lib.hid (HbVD.out.trans (hbF.mono HbVD.out.size))
          have HW11F := Lib.hid (HW11.out.below hbF HW11.out.lt)
          have HD11F := Lib.hid (HD11.out.below hbF)
          obtain ⟨e0', e1', e2', hEr2⟩ := (HE.out.below HBF.out).errs
          have HAl := AllA_any hEr2 hSF
          rw [HAc.out] at HAl
          have HAl := Lib.hid HAl
          clear hva hgF hatF hSF hbF hEr2 hg1
          refine Lib.hid ?_
          go_wp2_with fail
          refine HAl.out.mono ?_
          rintro e wH ⟨a4, n4, c4, b4, k4, d4, rfl, hH, hbH⟩
          have hbH1 := hbH.alloc hbH.size (.cells #[.slice a4 n4 c4, .slice b4 k4 d4] 40)
          have HBH := Lib.hid (HBF.out.trans (hbH1.mono HBF.out.size))
          have HbVH := Lib.hid (HbVF.out.trans (hbH1.mono HbVF.out.size))
          have HW11H := Lib.hid (HW11F.out.below hbH1 HW11F.out.lt)
          have HD11H := Lib.hid (HD11F.out.below hbH1)
          have HW14 := Lib.hid (Whole.new wH 40 #[.slice a4 n4 c4, .slice b4 k4 d4])
          have HD14 := Lib.hid (hH.below ((Below.refl _ wH).alloc (Nat.le_refl _) (.cells #[.slice a4 n4 c4, .slice b4 k4 d4] 40)))
          have HSrc2 := Lib.hid (strs_src (HL.out.below HBH.out))
          have hg2 : w.heap.size ≤ (wH.alloc (.cells #[.slice a4 n4 c4, .slice b4 k4 d4] 40)).heap.size := HBH.out.size
          clear hH hbH hbH1
          go_wp2_with (at_builtin; (refine wpList_append_sz rfl (.const (.slice none 0 0)) (.tmp 54) 22 rfl w.heap.size 9 i0 (.string ⟨#[]⟩) 1 16 Tryz.underlying22 hi hz0 hz1 hz2 rfl (by decide) (.slice none 0 0) rfl 0 [] (World.ownsRow_nil _ _ _ _) aa an ac rfl (acts.map Value.string) HNil.out HLl.out HSrc2.out (strs_one _) (by unfold maxLen; omega) (by omega) hg2 ?_); intro va wI hva hgI hatI; refine Hid.out ?_)
          simp only [Nat.zero_add, List.nil_append] at hva
          obtain ⟨ai, ci, rfl, hSI⟩ := strsOwn_arg hva HL.out.len HL.out.big (fun q hq => HL.out.sz q hq)
          have hbI := below_up hgI
          have HBI := Lib.hid (HBH.out.trans (hbI.mono HBH.out.size))
          have HbVI := Lib.hid (HbVH.out.trans (hbI.mono HbVH.out.size))
          have HW11I := Lib.hid (HW11H.out.below hbI HW11H.out.lt)
          have HD11I := Lib.hid (HD11H.out.below hbI)
          have HW14I := Lib.hid (HW14.out.below hbI HW14.out.lt)
          have HD14I := Lib.hid (HD14.out.below hbI)
          obtain ⟨e0'', e1'', e2'', hEr3⟩ := (HE.out.below HBI.out).errs
          have HNo := NoneA_any hEr3 hSI
          rw [HAc.out] at HNo
          have HNo := Lib.hid HNo
          clear hva hgI hatI hSI hbI hEr3 hg2
          refine Lib.hid ?_
          go_wp2_with fail
          refine HNo.out.mono ?_
          rintro e wJ ⟨a5, n5, c5, b5, k5, d5, rfl, hJ, hbJ⟩
          have hbJ1 := hbJ.alloc hbJ.size (.cells #[.slice a5 n5 c5, .slice b5 k5 d5] 40)
          have HBJ := Lib.hid (HBI.out.trans (hbJ1.mono HBI.out.size))
          have hbVJ := HbVI.out.trans (hbJ1.mono HbVI.out.size)
          have HW11J := Lib.hid (HW11I.out.below hbJ1 HW11I.out.lt)
          have HD11J := Lib.hid (HD11I.out.below hbJ1)
          have HW14J := Lib.hid (HW14I.out.below hbJ1 HW14I.out.lt)
          have HD14J := Lib.hid (HD14I.out.below hbJ1)
          have HW16 := Lib.hid (Whole.new wJ 40 #[.slice a5 n5 c5, .slice b5 k5 d5])
          have HD16 := Lib.hid (hJ.below ((Below.refl _ wJ).alloc (Nat.le_refl _) (.cells #[.slice a5 n5 c5, .slice b5 k5 d5] 40)))
          have HZ7 := Lib.hid (HV7.out.below hbVJ HV7.out.lt)
          have HZ8 := Lib.hid (HV8.out.below hbVJ HV8.out.lt)
          have HZ9 := Lib.hid (HV9.out.below hbVJ HV9.out.lt)
          have HY7 := Lib.hid (HQ7.out.below hbVJ)
          have HY8 := Lib.hid (HQ8.out.below hbVJ)
          have HY9 := Lib.hid (HQ9.out.below hbVJ)
          obtain ⟨s0, s1, _, _, _⟩ := cells_two HW11J.out
          obtain ⟨s2, s3, _, _, _⟩ := cells_two HZ7.out
          have HSa := RSSame_any HD11J.out HY7.out
          rw [(sameP_iff _ _).2 rfl] at HSa
          have HSa := Lib.hid HSa
          clear hJ hbJ hbJ1 hbVJ
          have HWJ := Lib.hid (rfl : wJ.alloc (.cells #[.slice a5 n5 c5, .slice b5 k5 d5] 40) = wJ.alloc (.cells #[.slice a5 n5 c5, .slice b5 k5 d5] 40))
          go_wp2_with fail
          refine HSa.out.mono ?_
          rintro e wK ⟨rfl, hbK⟩
          obtain ⟨t0, t1, _, _, _⟩ := cells_two (HW14J.out.below hbK HW14J.out.lt)
          obtain ⟨t2, t3, _, _, _⟩ := cells_two (HZ8.out.below hbK HZ8.out.lt)
          have HSb := RSSame_any (HD14J.out.below hbK) (HY8.out.below hbK)
          rw [(sameP_iff _ _).2 rfl] at HSb
          have HSb := Lib.hid HSb
          have HbK := Lib.hid hbK
          clear hbK s0 s1 s2 s3
          go_wp2_with fail
          refine HSb.out.mono ?_
          rintro e wM ⟨rfl, hbM⟩
          have hbJM := HbK.out.trans (hbM.mono HbK.out.size)
          obtain ⟨y0, y1, _, _, _⟩ := cells_two (HW16.out.below hbJM HW16.out.lt)
          obtain ⟨y2, y3, _, _, _⟩ := cells_two (HZ9.out.below hbJM HZ9.out.lt)
          have HSc := RSSame_any (HD16.out.below hbJM) (HY9.out.below hbJM)
          rw [(sameP_iff _ _).2 rfl] at HSc
          have HSc := Lib.hid HSc
          have HbJM := Lib.hid hbJM
          clear hbM hbJM t0 t1 t2 t3
          go_wp2_with fail
          refine HSc.out.mono ?_
          rintro e wN ⟨rfl, hbN⟩
          have HBN := Lib.hid (HBJ.out.trans ((HbJM.out.trans (hbN.mono HbJM.out.size)).mono HBJ.out.size))
          clear hbN y0 y1 y2 y3
          go_wp2_with fail
          refine (awakeS_any (HE.out.below HBN.out) (HT.out.below HBN.out)).mono ?_
          rintro e wO ⟨rfl, hbO⟩
          have HBO := Lib.hid (HBN.out.trans (hbO.mono HBN.out.size))
          clear hbO
          go_wp2
          go_ret
          exact ⟨rfl, HBO.out⟩
        · rw [hac] at HIs
          have HAc := Lib.hid hac
          clear hac
          go_wp2_with fail
          refine HIs.out.mono ?_
          rintro e w' ⟨rfl, rfl⟩
          have HRA := Lib.hid (RAllO_any (HL.out.below HBS.out) HAc.out)
          go_wp2_with fail
          refine HRA.out.mono ?_
          rintro e wT ⟨ta, tn, tc, tb, tk, td, rfl, hTO, hbT⟩
          have HBT := Lib.hid (HBS.out.trans (hbT.mono HBS.out.size))
          have HRN := Lib.hid (RNothingO_any (HL.out.below HBT.out) HAc.out)
          have HTO := Lib.hid hTO
          have HbT := Lib.hid hbT
          clear hTO hbT
          go_wp2_with fail
          refine HRN.out.mono ?_
          rintro e wU ⟨ua, un, uc, ub, uk, ud, rfl, hUO, hbU⟩
          have hbSU := HbT.out.trans (hbU.mono HbT.out.size)
          have hs8 := HS8.out.below hbSU HS8.out.lt
          have hs9 := HS9.out.below hbSU HS9.out.lt
          obtain ⟨c80, c81, f80, f81, l8⟩ := cells_two hs8
          obtain ⟨c90, c91, f90, f91, l9⟩ := cells_two hs9
          have HV7 := Lib.hid (whole_far (HS7.out.below hbSU HS7.out.lt) (R1 := G + 1) (R2 := G + 1 + 1) (by omega) (by omega) (.slice ta tn tc) (.slice tb tk td) (.slice ua un uc) (.slice ub uk ud))
          have HXV := Lib.hid (whole_far (HXS.out.below hbSU HXS.out.lt) (R1 := G + 1) (R2 := G + 1 + 1) (by have := HGl.out; omega) (by have := HGl.out; omega) (.slice ta tn tc) (.slice tb tk td) (.slice ua un uc) (.slice ub uk ud))
          have HV8 := Lib.hid (whole_two hs8 hs9 (by omega) (.slice ta tn tc) (.slice tb tk td) (.slice ua un uc) (.slice ub uk ud)).1
          have HV9 := Lib.hid (whole_two hs8 hs9 (by omega) (.slice ta tn tc) (.slice tb tk td) (.slice ua un uc) (.slice ub uk ud)).2
          have HP7 := Lib.hid (spc_two (HO7.out.below hbSU) hs8 hs9 (by omega) (.slice ta tn tc) (.slice tb tk td) (.slice ua un uc) (.slice ub uk ud))
          have HP8 := Lib.hid (spc_two (HTO.out.below hbU) hs8 hs9 (by omega) (.slice ta tn tc) (.slice tb tk td) (.slice ua un uc) (.slice ub uk ud))
          have HP9 := Lib.hid (spc_two hUO hs8 hs9 (by omega) (.slice ta tn tc) (.slice tb tk td) (.slice ua un uc) (.slice ub uk ud))
          have HBV := Lib.hid (((((HBS.out.trans (hbSU.mono HBS.out.size)).setCell (p := ⟨G + 1, 0, none⟩) (by have := HGl.out; simp; omega) (.slice ta tn tc)).setCell (p := ⟨G + 1, 1, none⟩) (by have := HGl.out; simp; omega) (.slice tb tk td)).setCell (p := ⟨G + 1 + 1, 0, none⟩) (by have := HGl.out; simp; omega) (.slice ua un uc)).setCell (p := ⟨G + 1 + 1, 1, none⟩) (by have := HGl.out; simp; omega) (.slice ub uk ud))
          obtain ⟨wV, HWV⟩ : ∃ z, Hid ((((wU.setCell ⟨G + 1, 0, none⟩ (.slice ta tn tc)).setCell ⟨G + 1, 1, none⟩ (.slice tb tk td)).setCell ⟨G + 1 + 1, 0, none⟩ (.slice ua un uc)).setCell ⟨G + 1 + 1, 1, none⟩ (.slice ub uk ud) = z) := ⟨_, Lib.hid rfl⟩
          obtain ⟨x0', x1', _, _, _⟩ := cells_two HXV.out
          rw [HWV.out] at HV7 HXV HV8 HV9 HP7 HP8 HP9 HBV
          clear hUO hbU hbSU hs8 hs9
          have HQ7 : Hid (SpecArg wV none 0 0 none 0 0 noSpc) := Lib.hid ((by have := good_ofV m; rw [HOV.out] at this; exact this : Good noSpc).arg2 HP7.out)
          have HQ8 := Lib.hid ((good_allV acts).arg2 HP8.out)
          have HQ9 := Lib.hid ((good_noneV acts).arg2 HP9.out)
          obtain ⟨x0, x1, _, _, x4⟩ := cells_two HXV.out
          have HCp := Lib.hid (CopyA_any (HA.out.below HBV.out) (by have := HQ.out; omega))
          go_wp2_with fail
          rw [HWV.out]
          refine HCp.out.mono ?_
          rintro e wC ⟨a2, c2, b2, d2, rfl, hC, hbC⟩
          have hbVC := hbC
          have HBC := Lib.hid (HBV.out.trans (hbC.mono HBV.out.size))
          obtain ⟨e0, e1, e2, hEr⟩ := (HE.out.below HBC.out).errs
          have HOf := OfA_any hEr hC
          rw [HOV.out] at HOf
          have HOf := Lib.hid HOf
          have HbC := Lib.hid hbC
          clear hC hbC hbVC hEr
          go_wp2_with fail
          refine HOf.out.mono ?_
          rintro e wD ⟨a3, n3, c3, b3, k3, d3, rfl, hD, hbD⟩
          have hbD1 := hbD.alloc hbD.size (.cells #[.slice a3 n3 c3, .slice b3 k3 d3] 40)
          have hbD2 := HbC.out.trans (hbD1.mono HbC.out.size)
          have HBD := Lib.hid (HBC.out.trans (hbD1.mono HBC.out.size))
          have HW11 := Lib.hid (Whole.new wD 40 #[.slice a3 n3 c3, .slice b3 k3 d3])
          have HD11 := Lib.hid (hD.below ((Below.refl _ wD).alloc (Nat.le_refl _) (.cells #[.slice a3 n3 c3, .slice b3 k3 d3] 40)))
          have HbVD := Lib.hid hbD2
          have HSrc := Lib.hid (strs_src (HL.out.below HBD.out))
          have hg1 : w.heap.size ≤ (wD.alloc (.cells #[.slice a3 n3 c3, .slice b3 k3 d3] 40)).heap.size := HBD.out.size
          clear hD hbD hbD1 hbD2
          go_wp2_with (at_builtin; (refine wpList_append_sz rfl (.const (.slice none 0 0)) (.tmp 48) 22 rfl w.heap.size 9 i0 (.string ⟨#[]⟩) 1 16 Tryz.underlying22 hi hz0 hz1 hz2 rfl (by decide) (.slice none 0 0) rfl 0 [] (World.ownsRow_nil _ _ _ _) aa an ac rfl (acts.map Value.string) HNil.out HLl.out HSrc.out (strs_one _) (by unfold maxLen; omega) (by omega) hg1 ?_); intro va wF hva hgF hatF; refine Hid.out ?_)
          simp only [Nat.zero_add, List.nil_append] at hva
          obtain ⟨af, cf, rfl, hSF⟩ := strsOwn_arg hva HL.out.len HL.out.big (fun q hq => HL.out.sz q hq)
          have hbF := below_up hgF
          have HBF := Lib.hid (HBD.out.trans (hbF.mono HBD.out.size))
          have HbVF := Lib.hid (HbVD.out.trans (hbF.mono HbVD.out.size))
          have HW11F := Lib.hid (HW11.out.below hbF HW11.out.lt)
          have HD11F := Lib.hid (HD11.out.below hbF)
          obtain ⟨e0', e1', e2', hEr2⟩ := (HE.out.below HBF.out).errs
          have HAl := AllA_any hEr2 hSF
          rw [HAc.out] at HAl
          have HAl := Lib.hid HAl
          clear hva hgF hatF hSF hbF hEr2 hg1
          refine Lib.hid ?_
          go_wp2_with fail
          refine HAl.out.mono ?_
          rintro e wH ⟨a4, n4, c4, b4, k4, d4, rfl, hH, hbH⟩
          have hbH1 := hbH.alloc hbH.size (.cells #[.slice a4 n4 c4, .slice b4 k4 d4] 40)
          have HBH := Lib.hid (HBF.out.trans (hbH1.mono HBF.out.size))
          have HbVH := Lib.hid (HbVF.out.trans (hbH1.mono HbVF.out.size))
          have HW11H := Lib.hid (HW11F.out.below hbH1 HW11F.out.lt)
          have HD11H := Lib.hid (HD11F.out.below hbH1)
          have HW14 := Lib.hid (Whole.new wH 40 #[.slice a4 n4 c4, .slice b4 k4 d4])
          have HD14 := Lib.hid (hH.below ((Below.refl _ wH).alloc (Nat.le_refl _) (.cells #[.slice a4 n4 c4, .slice b4 k4 d4] 40)))
          have HSrc2 := Lib.hid (strs_src (HL.out.below HBH.out))
          have hg2 : w.heap.size ≤ (wH.alloc (.cells #[.slice a4 n4 c4, .slice b4 k4 d4] 40)).heap.size := HBH.out.size
          clear hH hbH hbH1
          go_wp2_with (at_builtin; (refine wpList_append_sz rfl (.const (.slice none 0 0)) (.tmp 54) 22 rfl w.heap.size 9 i0 (.string ⟨#[]⟩) 1 16 Tryz.underlying22 hi hz0 hz1 hz2 rfl (by decide) (.slice none 0 0) rfl 0 [] (World.ownsRow_nil _ _ _ _) aa an ac rfl (acts.map Value.string) HNil.out HLl.out HSrc2.out (strs_one _) (by unfold maxLen; omega) (by omega) hg2 ?_); intro va wI hva hgI hatI; refine Hid.out ?_)
          simp only [Nat.zero_add, List.nil_append] at hva
          obtain ⟨ai, ci, rfl, hSI⟩ := strsOwn_arg hva HL.out.len HL.out.big (fun q hq => HL.out.sz q hq)
          have hbI := below_up hgI
          have HBI := Lib.hid (HBH.out.trans (hbI.mono HBH.out.size))
          have HbVI := Lib.hid (HbVH.out.trans (hbI.mono HbVH.out.size))
          have HW11I := Lib.hid (HW11H.out.below hbI HW11H.out.lt)
          have HD11I := Lib.hid (HD11H.out.below hbI)
          have HW14I := Lib.hid (HW14.out.below hbI HW14.out.lt)
          have HD14I := Lib.hid (HD14.out.below hbI)
          obtain ⟨e0'', e1'', e2'', hEr3⟩ := (HE.out.below HBI.out).errs
          have HNo := NoneA_any hEr3 hSI
          rw [HAc.out] at HNo
          have HNo := Lib.hid HNo
          clear hva hgI hatI hSI hbI hEr3 hg2
          refine Lib.hid ?_
          go_wp2_with fail
          refine HNo.out.mono ?_
          rintro e wJ ⟨a5, n5, c5, b5, k5, d5, rfl, hJ, hbJ⟩
          have hbJ1 := hbJ.alloc hbJ.size (.cells #[.slice a5 n5 c5, .slice b5 k5 d5] 40)
          have HBJ := Lib.hid (HBI.out.trans (hbJ1.mono HBI.out.size))
          have hbVJ := HbVI.out.trans (hbJ1.mono HbVI.out.size)
          have HW11J := Lib.hid (HW11I.out.below hbJ1 HW11I.out.lt)
          have HD11J := Lib.hid (HD11I.out.below hbJ1)
          have HW14J := Lib.hid (HW14I.out.below hbJ1 HW14I.out.lt)
          have HD14J := Lib.hid (HD14I.out.below hbJ1)
          have HW16 := Lib.hid (Whole.new wJ 40 #[.slice a5 n5 c5, .slice b5 k5 d5])
          have HD16 := Lib.hid (hJ.below ((Below.refl _ wJ).alloc (Nat.le_refl _) (.cells #[.slice a5 n5 c5, .slice b5 k5 d5] 40)))
          have HZ7 := Lib.hid (HV7.out.below hbVJ HV7.out.lt)
          have HZ8 := Lib.hid (HV8.out.below hbVJ HV8.out.lt)
          have HZ9 := Lib.hid (HV9.out.below hbVJ HV9.out.lt)
          have HY7 := Lib.hid (HQ7.out.below hbVJ)
          have HY8 := Lib.hid (HQ8.out.below hbVJ)
          have HY9 := Lib.hid (HQ9.out.below hbVJ)
          obtain ⟨s0, s1, _, _, _⟩ := cells_two HW11J.out
          obtain ⟨s2, s3, _, _, _⟩ := cells_two HZ7.out
          have HSa := RSSame_any HD11J.out HY7.out
          rw [(sameP_iff _ _).2 rfl] at HSa
          have HSa := Lib.hid HSa
          clear hJ hbJ hbJ1 hbVJ
          have HWJ := Lib.hid (rfl : wJ.alloc (.cells #[.slice a5 n5 c5, .slice b5 k5 d5] 40) = wJ.alloc (.cells #[.slice a5 n5 c5, .slice b5 k5 d5] 40))
          go_wp2_with fail
          refine HSa.out.mono ?_
          rintro e wK ⟨rfl, hbK⟩
          obtain ⟨t0, t1, _, _, _⟩ := cells_two (HW14J.out.below hbK HW14J.out.lt)
          obtain ⟨t2, t3, _, _, _⟩ := cells_two (HZ8.out.below hbK HZ8.out.lt)
          have HSb := RSSame_any (HD14J.out.below hbK) (HY8.out.below hbK)
          rw [(sameP_iff _ _).2 rfl] at HSb
          have HSb := Lib.hid HSb
          have HbK := Lib.hid hbK
          clear hbK s0 s1 s2 s3
          go_wp2_with fail
          refine HSb.out.mono ?_
          rintro e wM ⟨rfl, hbM⟩
          have hbJM := HbK.out.trans (hbM.mono HbK.out.size)
          obtain ⟨y0, y1, _, _, _⟩ := cells_two (HW16.out.below hbJM HW16.out.lt)
          obtain ⟨y2, y3, _, _, _⟩ := cells_two (HZ9.out.below hbJM HZ9.out.lt)
          have HSc := RSSame_any (HD16.out.below hbJM) (HY9.out.below hbJM)
          rw [(sameP_iff _ _).2 rfl] at HSc
          have HSc := Lib.hid HSc
          have HbJM := Lib.hid hbJM
          clear hbM hbJM t0 t1 t2 t3
          go_wp2_with fail
          refine HSc.out.mono ?_
          rintro e wN ⟨rfl, hbN⟩
          have HBN := Lib.hid (HBJ.out.trans ((HbJM.out.trans (hbN.mono HbJM.out.size)).mono HBJ.out.size))
          clear hbN y0 y1 y2 y3
          go_wp2_with fail
          refine (awakeS_any (HE.out.below HBN.out) (HT.out.below HBN.out)).mono ?_
          rintro e wO ⟨rfl, hbO⟩
          have HBO := Lib.hid (HBN.out.trans (hbO.mono HBN.out.size))
          clear hbO
          go_wp2
          go_ret
          exact ⟨rfl, HBO.out⟩
      · have HK5 : ¬ 500 < m.states.length := by rw [HKl.out]; exact hk5
        have HRO := Lib.hid (ROfO_any (HA.out.below HB3.out) hv HK5)
        have hof0 : (ofV m).2.2 = 0 := by
          cases hq : ofQ m with
          | none => rw [ofV_none hv HK5 hq]
          | some s => rw [ofV_some hv HK5 hq]
        obtain ⟨⟨sq, hs, ec⟩, hof⟩ : ∃ z, ofV m = z := ⟨_, rfl⟩
        rw [hof] at HRO hof0
        simp only at hof0
        subst hof0
        have HOV := Lib.hid hof
        clear hv HK5 hof
        go_wp2_with fail
        refine HRO.out.mono ?_
        rintro e wR ⟨ra, rn, rc, rb, rk, rd, rfl, hOR, hbR⟩
        have hr7 := HV7.out.below hbR HV7.out.lt
        obtain ⟨c70, c71, f70, f71, l7⟩ := cells_two hr7
        have HS7 : Hid (Whole ((wR.setCell ⟨G, 0, none⟩ (.slice ra rn rc)).setCell ⟨G, 1, none⟩ (.slice rb rk rd)) G 40 #[.slice ra rn rc, .slice rb rk rd]) := Lib.hid (by simpa using (hr7.set 0 (.slice ra rn rc)).set 1 (.slice rb rk rd))
        have HS8 := Lib.hid (((HV8.out.below hbR HV8.out.lt).far (p := ⟨G, 0, none⟩) (by simp) (.slice ra rn rc)).far (p := ⟨G, 1, none⟩) (by simp) (.slice rb rk rd))
        have HS9 := Lib.hid (((HV9.out.below hbR HV9.out.lt).far (p := ⟨G, 0, none⟩) (by show G + 1 + 1 ≠ G; omega) (.slice ra rn rc)).far (p := ⟨G, 1, none⟩) (by show G + 1 + 1 ≠ G; omega) (.slice rb rk rd))
        have HXS := Lib.hid (((HX3.out.below hbR HX3.out.lt).far (p := ⟨G, 0, none⟩) (by have := HGl.out; simp; omega) (.slice ra rn rc)).far (p := ⟨G, 1, none⟩) (by have := HGl.out; simp; omega) (.slice rb rk rd))
        have HO7 := Lib.hid (spc_stored hOR hr7 (.slice ra rn rc) (.slice rb rk rd))
        have HBS := Lib.hid (((HB3.out.trans (hbR.mono HB3.out.size)).setCell (p := ⟨G, 0, none⟩) (by have := HGl.out; simp; omega) (.slice ra rn rc)).setCell (p := ⟨G, 1, none⟩) (by have := HGl.out; simp; omega) (.slice rb rk rd))
        have hsS : ((wR.setCell ⟨G, 0, none⟩ (.slice ra rn rc)).setCell ⟨G, 1, none⟩ (.slice rb rk rd)).heap.size = wR.heap.size := by simp
        obtain ⟨z0', z1', _, _, _⟩ := cells_two HXS.out
        obtain ⟨wS, HWS⟩ : ∃ z, Hid ((wR.setCell ⟨G, 0, none⟩ (.slice ra rn rc)).setCell ⟨G, 1, none⟩ (.slice rb rk rd) = z) := ⟨_, Lib.hid rfl⟩
        rw [HWS.out] at HS7 HS8 HS9 HXS HO7 HBS hsS
        clear hr7 hOR hbR hsS
        have HIs := Lib.hid (Is_arg (HL.out.below HBS.out))
        cases hac : actsB acts
        · rw [hac] at HIs
          have HAc := Lib.hid hac
          clear hac
          go_wp2_with fail
          rw [HWS.out]
          refine HIs.out.mono ?_
          rintro e w' ⟨rfl, rfl⟩
          obtain ⟨wV, hwV⟩ : ∃ z, z = wS := ⟨_, rfl⟩
          subst hwV
          have HV7 := HS7
          have HV8 := HS8
          have HV9 := HS9
          have HXV := HXS
          have HBV := HBS
          have HP7 := HO7
          have HP8 : Hid (SpcOwn wV 0 (.slice none 0 0) (.slice none 0 0) (allV acts)) := Lib.hid (by unfold allV; rw [HAc.out]; exact spcOwn_nil _ _)
          have HP9 : Hid (SpcOwn wV 0 (.slice none 0 0) (.slice none 0 0) (noneV acts)) := Lib.hid (by unfold noneV; rw [HAc.out]; exact spcOwn_nil _ _)
          have HQ7 : Hid (SpecArg wV ra rn rc rb rk rd sq) := Lib.hid ((by have := good_ofV m; rw [HOV.out] at this; exact this : Good sq).arg2 HP7.out)
          have HQ8 := Lib.hid ((good_allV acts).arg2 HP8.out)
          have HQ9 := Lib.hid ((good_noneV acts).arg2 HP9.out)
          obtain ⟨x0, x1, _, _, x4⟩ := cells_two HXV.out
          have HCp := Lib.hid (CopyA_any (HA.out.below HBV.out) (by have := HQ.out; omega))
          go_wp2_with fail
          refine HCp.out.mono ?_
          rintro e wC ⟨a2, c2, b2, d2, rfl, hC, hbC⟩
          have hbVC := hbC
          have HBC := Lib.hid (HBV.out.trans (hbC.mono HBV.out.size))
          obtain ⟨e0, e1, e2, hEr⟩ := (HE.out.below HBC.out).errs
          have HOf := OfA_any hEr hC
          rw [HOV.out] at HOf
          have HOf := Lib.hid HOf
          have HbC := Lib.hid hbC
          clear hC hbC hbVC hEr
          go_wp2_with fail
          refine HOf.out.mono ?_
          rintro e wD ⟨a3, n3, c3, b3, k3, d3, rfl, hD, hbD⟩
          have hbD1 := hbD.alloc hbD.size (.cells #[.slice a3 n3 c3, .slice b3 k3 d3] 40)
          have hbD2 := HbC.out.trans (hbD1.mono HbC.out.size)
          have HBD := Lib.hid (HBC.out.trans (hbD1.mono HBC.out.size))
          have HW11 := Lib.hid (Whole.new wD 40 #[.slice a3 n3 c3, .slice b3 k3 d3])
          have HD11 := Lib.hid (hD.below ((Below.refl _ wD).alloc (Nat.le_refl _) (.cells #[.slice a3 n3 c3, .slice b3 k3 d3] 40)))
          have HbVD := Lib.hid hbD2
          have HSrc := Lib.hid (strs_src (HL.out.below HBD.out))
          have hg1 : w.heap.size ≤ (wD.alloc (.cells #[.slice a3 n3 c3, .slice b3 k3 d3] 40)).heap.size := HBD.out.size
          clear hD hbD hbD1 hbD2
          go_wp2_with (at_builtin; (refine wpList_append_sz rfl (.const (.slice none 0 0)) (.tmp 48) 22 rfl w.heap.size 9 i0 (.string ⟨#[]⟩) 1 16 Tryz.underlying22 hi hz0 hz1 hz2 rfl (by decide) (.slice none 0 0) rfl 0 [] (World.ownsRow_nil _ _ _ _) aa an ac rfl (acts.map Value.string) HNil.out HLl.out HSrc.out (strs_one _) (by unfold maxLen; omega) (by omega) hg1 ?_); intro va wF hva hgF hatF; refine Hid.out ?_)
          simp only [Nat.zero_add, List.nil_append] at hva
          obtain ⟨af, cf, rfl, hSF⟩ := strsOwn_arg hva HL.out.len HL.out.big (fun q hq => HL.out.sz q hq)
          have hbF := below_up hgF
          have HBF := Lib.hid (HBD.out.trans (hbF.mono HBD.out.size))
          have HbVF := Lib.hid (HbVD.out.trans (hbF.mono HbVD.out.size))
          have HW11F := Lib.hid (HW11.out.below hbF HW11.out.lt)
          have HD11F := Lib.hid (HD11.out.below hbF)
          obtain ⟨e0', e1', e2', hEr2⟩ := (HE.out.below HBF.out).errs
          have HAl := AllA_any hEr2 hSF
          rw [HAc.out] at HAl
          have HAl := Lib.hid HAl
          clear hva hgF hatF hSF hbF hEr2 hg1
          refine Lib.hid ?_
          go_wp2_with fail
          refine HAl.out.mono ?_
          rintro e wH ⟨a4, n4, c4, b4, k4, d4, rfl, hH, hbH⟩
          have hbH1 := hbH.alloc hbH.size (.cells #[.slice a4 n4 c4, .slice b4 k4 d4] 40)
          have HBH := Lib.hid (HBF.out.trans (hbH1.mono HBF.out.size))
          have HbVH := Lib.hid (HbVF.out.trans (hbH1.mono HbVF.out.size))
          have HW11H := Lib.hid (HW11F.out.below hbH1 HW11F.out.lt)
          have HD11H := Lib.hid (HD11F.out.below hbH1)
          have HW14 := Lib.hid (Whole.new wH 40 #[.slice a4 n4 c4, .slice b4 k4 d4])
          have HD14 := Lib.hid (hH.below ((Below.refl _ wH).alloc (Nat.le_refl _) (.cells #[.slice a4 n4 c4, .slice b4 k4 d4] 40)))
          have HSrc2 := Lib.hid (strs_src (HL.out.below HBH.out))
          have hg2 : w.heap.size ≤ (wH.alloc (.cells #[.slice a4 n4 c4, .slice b4 k4 d4] 40)).heap.size := HBH.out.size
          clear hH hbH hbH1
          go_wp2_with (at_builtin; (refine wpList_append_sz rfl (.const (.slice none 0 0)) (.tmp 54) 22 rfl w.heap.size 9 i0 (.string ⟨#[]⟩) 1 16 Tryz.underlying22 hi hz0 hz1 hz2 rfl (by decide) (.slice none 0 0) rfl 0 [] (World.ownsRow_nil _ _ _ _) aa an ac rfl (acts.map Value.string) HNil.out HLl.out HSrc2.out (strs_one _) (by unfold maxLen; omega) (by omega) hg2 ?_); intro va wI hva hgI hatI; refine Hid.out ?_)
          simp only [Nat.zero_add, List.nil_append] at hva
          obtain ⟨ai, ci, rfl, hSI⟩ := strsOwn_arg hva HL.out.len HL.out.big (fun q hq => HL.out.sz q hq)
          have hbI := below_up hgI
          have HBI := Lib.hid (HBH.out.trans (hbI.mono HBH.out.size))
          have HbVI := Lib.hid (HbVH.out.trans (hbI.mono HbVH.out.size))
          have HW11I := Lib.hid (HW11H.out.below hbI HW11H.out.lt)
          have HD11I := Lib.hid (HD11H.out.below hbI)
          have HW14I := Lib.hid (HW14.out.below hbI HW14.out.lt)
          have HD14I := Lib.hid (HD14.out.below hbI)
          obtain ⟨e0'', e1'', e2'', hEr3⟩ := (HE.out.below HBI.out).errs
          have HNo := NoneA_any hEr3 hSI
          rw [HAc.out] at HNo
          have HNo := Lib.hid HNo
          clear hva hgI hatI hSI hbI hEr3 hg2
          refine Lib.hid ?_
          go_wp2_with fail
          refine HNo.out.mono ?_
          rintro e wJ ⟨a5, n5, c5, b5, k5, d5, rfl, hJ, hbJ⟩
          have hbJ1 := hbJ.alloc hbJ.size (.cells #[.slice a5 n5 c5, .slice b5 k5 d5] 40)
          have HBJ := Lib.hid (HBI.out.trans (hbJ1.mono HBI.out.size))
          have hbVJ := HbVI.out.trans (hbJ1.mono HbVI.out.size)
          have HW11J := Lib.hid (HW11I.out.below hbJ1 HW11I.out.lt)
          have HD11J := Lib.hid (HD11I.out.below hbJ1)
          have HW14J := Lib.hid (HW14I.out.below hbJ1 HW14I.out.lt)
          have HD14J := Lib.hid (HD14I.out.below hbJ1)
          have HW16 := Lib.hid (Whole.new wJ 40 #[.slice a5 n5 c5, .slice b5 k5 d5])
          have HD16 := Lib.hid (hJ.below ((Below.refl _ wJ).alloc (Nat.le_refl _) (.cells #[.slice a5 n5 c5, .slice b5 k5 d5] 40)))
          have HZ7 := Lib.hid (HV7.out.below hbVJ HV7.out.lt)
          have HZ8 := Lib.hid (HV8.out.below hbVJ HV8.out.lt)
          have HZ9 := Lib.hid (HV9.out.below hbVJ HV9.out.lt)
          have HY7 := Lib.hid (HQ7.out.below hbVJ)
          have HY8 := Lib.hid (HQ8.out.below hbVJ)
          have HY9 := Lib.hid (HQ9.out.below hbVJ)
          obtain ⟨s0, s1, _, _, _⟩ := cells_two HW11J.out
          obtain ⟨s2, s3, _, _, _⟩ := cells_two HZ7.out
          have HSa := RSSame_any HD11J.out HY7.out
          rw [(sameP_iff _ _).2 rfl] at HSa
          have HSa := Lib.hid HSa
          clear hJ hbJ hbJ1 hbVJ
          have HWJ := Lib.hid (rfl : wJ.alloc (.cells #[.slice a5 n5 c5, .slice b5 k5 d5] 40) = wJ.alloc (.cells #[.slice a5 n5 c5, .slice b5 k5 d5] 40))
          go_wp2_with fail
          refine HSa.out.mono ?_
          rintro e wK ⟨rfl, hbK⟩
          obtain ⟨t0, t1, _, _, _⟩ := cells_two (HW14J.out.below hbK HW14J.out.lt)
          obtain ⟨t2, t3, _, _, _⟩ := cells_two (HZ8.out.below hbK HZ8.out.lt)
          have HSb := RSSame_any (HD14J.out.below hbK) (HY8.out.below hbK)
          rw [(sameP_iff _ _).2 rfl] at HSb
          have HSb := Lib.hid HSb
          have HbK := Lib.hid hbK
          clear hbK s0 s1 s2 s3
          go_wp2_with fail
          refine HSb.out.mono ?_
          rintro e wM ⟨rfl, hbM⟩
          have hbJM := HbK.out.trans (hbM.mono HbK.out.size)
          obtain ⟨y0, y1, _, _, _⟩ := cells_two (HW16.out.below hbJM HW16.out.lt)
          obtain ⟨y2, y3, _, _, _⟩ := cells_two (HZ9.out.below hbJM HZ9.out.lt)
          have HSc := RSSame_any (HD16.out.below hbJM) (HY9.out.below hbJM)
          rw [(sameP_iff _ _).2 rfl] at HSc
          have HSc := Lib.hid HSc
          have HbJM := Lib.hid hbJM
          clear hbM hbJM t0 t1 t2 t3
          go_wp2_with fail
          refine HSc.out.mono ?_
          rintro e wN ⟨rfl, hbN⟩
          have HBN := Lib.hid (HBJ.out.trans ((HbJM.out.trans (hbN.mono HbJM.out.size)).mono HBJ.out.size))
          clear hbN y0 y1 y2 y3
          go_wp2_with fail
          refine (awakeS_any (HE.out.below HBN.out) (HT.out.below HBN.out)).mono ?_
          rintro e wO ⟨rfl, hbO⟩
          have HBO := Lib.hid (HBN.out.trans (hbO.mono HBN.out.size))
          clear hbO
          go_wp2
          go_ret
          exact ⟨rfl, HBO.out⟩
        · rw [hac] at HIs
          have HAc := Lib.hid hac
          clear hac
          go_wp2_with fail
          rw [HWS.out]
          refine HIs.out.mono ?_
          rintro e w' ⟨rfl, rfl⟩
          have HRA := Lib.hid (RAllO_any (HL.out.below HBS.out) HAc.out)
          go_wp2_with fail
          refine HRA.out.mono ?_
          rintro e wT ⟨ta, tn, tc, tb, tk, td, rfl, hTO, hbT⟩
          have HBT := Lib.hid (HBS.out.trans (hbT.mono HBS.out.size))
          have HRN := Lib.hid (RNothingO_any (HL.out.below HBT.out) HAc.out)
          have HTO := Lib.hid hTO
          have HbT := Lib.hid hbT
          clear hTO hbT
          go_wp2_with fail
          refine HRN.out.mono ?_
          rintro e wU ⟨ua, un, uc, ub, uk, ud, rfl, hUO, hbU⟩
          have hbSU := HbT.out.trans (hbU.mono HbT.out.size)
          have hs8 := HS8.out.below hbSU HS8.out.lt
          have hs9 := HS9.out.below hbSU HS9.out.lt
          obtain ⟨c80, c81, f80, f81, l8⟩ := cells_two hs8
          obtain ⟨c90, c91, f90, f91, l9⟩ := cells_two hs9
          have HV7 := Lib.hid (whole_far (HS7.out.below hbSU HS7.out.lt) (R1 := G + 1) (R2 := G + 1 + 1) (by omega) (by omega) (.slice ta tn tc) (.slice tb tk td) (.slice ua un uc) (.slice ub uk ud))
          have HXV := Lib.hid (whole_far (HXS.out.below hbSU HXS.out.lt) (R1 := G + 1) (R2 := G + 1 + 1) (by have := HGl.out; omega) (by have := HGl.out; omega) (.slice ta tn tc) (.slice tb tk td) (.slice ua un uc) (.slice ub uk ud))
          have HV8 := Lib.hid (whole_two hs8 hs9 (by omega) (.slice ta tn tc) (.slice tb tk td) (.slice ua un uc) (.slice ub uk ud)).1
          have HV9 := Lib.hid (whole_two hs8 hs9 (by omega) (.slice ta tn tc) (.slice tb tk td) (.slice ua un uc) (.slice ub uk ud)).2
          have HP7 := Lib.hid (spc_two (HO7.out.below hbSU) hs8 hs9 (by omega) (.slice ta tn tc) (.slice tb tk td) (.slice ua un uc) (.slice ub uk ud))
          have HP8 := Lib.hid (spc_two (HTO.out.below hbU) hs8 hs9 (by omega) (.slice ta tn tc) (.slice tb tk td) (.slice ua un uc) (.slice ub uk ud))
          have HP9 := Lib.hid (spc_two hUO hs8 hs9 (by omega) (.slice ta tn tc) (.slice tb tk td) (.slice ua un uc) (.slice ub uk ud))
          have HBV := Lib.hid (((((HBS.out.trans (hbSU.mono HBS.out.size)).setCell (p := ⟨G + 1, 0, none⟩) (by have := HGl.out; simp; omega) (.slice ta tn tc)).setCell (p := ⟨G + 1, 1, none⟩) (by have := HGl.out; simp; omega) (.slice tb tk td)).setCell (p := ⟨G + 1 + 1, 0, none⟩) (by have := HGl.out; simp; omega) (.slice ua un uc)).setCell (p := ⟨G + 1 + 1, 1, none⟩) (by have := HGl.out; simp; omega) (.slice ub uk ud))
          obtain ⟨wV, HWV⟩ : ∃ z, Hid ((((wU.setCell ⟨G + 1, 0, none⟩ (.slice ta tn tc)).setCell ⟨G + 1, 1, none⟩ (.slice tb tk td)).setCell ⟨G + 1 + 1, 0, none⟩ (.slice ua un uc)).setCell ⟨G + 1 + 1, 1, none⟩ (.slice ub uk ud) = z) := ⟨_, Lib.hid rfl⟩
          obtain ⟨x0', x1', _, _, _⟩ := cells_two HXV.out
          rw [HWV.out] at HV7 HXV HV8 HV9 HP7 HP8 HP9 HBV
          clear hUO hbU hbSU hs8 hs9
          have HQ7 : Hid (SpecArg wV ra rn rc rb rk rd sq) := Lib.hid ((by have := good_ofV m; rw [HOV.out] at this; exact this : Good sq).arg2 HP7.out)
          have HQ8 := Lib.hid ((good_allV acts).arg2 HP8.out)
          have HQ9 := Lib.hid ((good_noneV acts).arg2 HP9.out)
          obtain ⟨x0, x1, _, _, x4⟩ := cells_two HXV.out
          have HCp := Lib.hid (CopyA_any (HA.out.below HBV.out) (by have := HQ.out; omega))
          go_wp2_with fail
          rw [HWV.out]
          refine HCp.out.mono ?_
          rintro e wC ⟨a2, c2, b2, d2, rfl, hC, hbC⟩
          have hbVC := hbC
          have HBC := Lib.hid (HBV.out.trans (hbC.mono HBV.out.size))
          obtain ⟨e0, e1, e2, hEr⟩ := (HE.out.below HBC.out).errs
          have HOf := OfA_any hEr hC
          rw [HOV.out] at HOf
          have HOf := Lib.hid HOf
          have HbC := Lib.hid hbC
          clear hC hbC hbVC hEr
          go_wp2_with fail
          refine HOf.out.mono ?_
          rintro e wD ⟨a3, n3, c3, b3, k3, d3, rfl, hD, hbD⟩
          have hbD1 := hbD.alloc hbD.size (.cells #[.slice a3 n3 c3, .slice b3 k3 d3] 40)
          have hbD2 := HbC.out.trans (hbD1.mono HbC.out.size)
          have HBD := Lib.hid (HBC.out.trans (hbD1.mono HBC.out.size))
          have HW11 := Lib.hid (Whole.new wD 40 #[.slice a3 n3 c3, .slice b3 k3 d3])
          have HD11 := Lib.hid (hD.below ((Below.refl _ wD).alloc (Nat.le_refl _) (.cells #[.slice a3 n3 c3, .slice b3 k3 d3] 40)))
          have HbVD := Lib.hid hbD2
          have HSrc := Lib.hid (strs_src (HL.out.below HBD.out))
          have hg1 : w.heap.size ≤ (wD.alloc (.cells #[.slice a3 n3 c3, .slice b3 k3 d3] 40)).heap.size := HBD.out.size
          clear hD hbD hbD1 hbD2
          go_wp2_with (at_builtin; (refine wpList_append_sz rfl (.const (.slice none 0 0)) (.tmp 48) 22 rfl w.heap.size 9 i0 (.string ⟨#[]⟩) 1 16 Tryz.underlying22 hi hz0 hz1 hz2 rfl (by decide) (.slice none 0 0) rfl 0 [] (World.ownsRow_nil _ _ _ _) aa an ac rfl (acts.map Value.string) HNil.out HLl.out HSrc.out (strs_one _) (by unfold maxLen; omega) (by omega) hg1 ?_); intro va wF hva hgF hatF; refine Hid.out ?_)
          simp only [Nat.zero_add, List.nil_append] at hva
          obtain ⟨af, cf, rfl, hSF⟩ := strsOwn_arg hva HL.out.len HL.out.big (fun q hq => HL.out.sz q hq)
          have hbF := below_up hgF
          have HBF := Lib.hid (HBD.out.trans (hbF.mono HBD.out.size))
          have HbVF := Lib.hid (HbVD.out.trans (hbF.mono HbVD.out.size))
          have HW11F := Lib.hid (HW11.out.below hbF HW11.out.lt)
          have HD11F := Lib.hid (HD11.out.below hbF)
          obtain ⟨e0', e1', e2', hEr2⟩ := (HE.out.below HBF.out).errs
          have HAl := AllA_any hEr2 hSF
          rw [HAc.out] at HAl
          have HAl := Lib.hid HAl
          clear hva hgF hatF hSF hbF hEr2 hg1
          refine Lib.hid ?_
          go_wp2_with fail
          refine HAl.out.mono ?_
          rintro e wH ⟨a4, n4, c4, b4, k4, d4, rfl, hH, hbH⟩
          have hbH1 := hbH.alloc hbH.size (.cells #[.slice a4 n4 c4, .slice b4 k4 d4] 40)
          have HBH := Lib.hid (HBF.out.trans (hbH1.mono HBF.out.size))
          have HbVH := Lib.hid (HbVF.out.trans (hbH1.mono HbVF.out.size))
          have HW11H := Lib.hid (HW11F.out.below hbH1 HW11F.out.lt)
          have HD11H := Lib.hid (HD11F.out.below hbH1)
          have HW14 := Lib.hid (Whole.new wH 40 #[.slice a4 n4 c4, .slice b4 k4 d4])
          have HD14 := Lib.hid (hH.below ((Below.refl _ wH).alloc (Nat.le_refl _) (.cells #[.slice a4 n4 c4, .slice b4 k4 d4] 40)))
          have HSrc2 := Lib.hid (strs_src (HL.out.below HBH.out))
          have hg2 : w.heap.size ≤ (wH.alloc (.cells #[.slice a4 n4 c4, .slice b4 k4 d4] 40)).heap.size := HBH.out.size
          clear hH hbH hbH1
          go_wp2_with (at_builtin; (refine wpList_append_sz rfl (.const (.slice none 0 0)) (.tmp 54) 22 rfl w.heap.size 9 i0 (.string ⟨#[]⟩) 1 16 Tryz.underlying22 hi hz0 hz1 hz2 rfl (by decide) (.slice none 0 0) rfl 0 [] (World.ownsRow_nil _ _ _ _) aa an ac rfl (acts.map Value.string) HNil.out HLl.out HSrc2.out (strs_one _) (by unfold maxLen; omega) (by omega) hg2 ?_); intro va wI hva hgI hatI; refine Hid.out ?_)
          simp only [Nat.zero_add, List.nil_append] at hva
          obtain ⟨ai, ci, rfl, hSI⟩ := strsOwn_arg hva HL.out.len HL.out.big (fun q hq => HL.out.sz q hq)
          have hbI := below_up hgI
          have HBI := Lib.hid (HBH.out.trans (hbI.mono HBH.out.size))
          have HbVI := Lib.hid (HbVH.out.trans (hbI.mono HbVH.out.size))
          have HW11I := Lib.hid (HW11H.out.below hbI HW11H.out.lt)
          have HD11I := Lib.hid (HD11H.out.below hbI)
          have HW14I := Lib.hid (HW14.out.below hbI HW14.out.lt)
          have HD14I := Lib.hid (HD14.out.below hbI)
          obtain ⟨e0'', e1'', e2'', hEr3⟩ := (HE.out.below HBI.out).errs
          have HNo := NoneA_any hEr3 hSI
          rw [HAc.out] at HNo
          have HNo := Lib.hid HNo
          clear hva hgI hatI hSI hbI hEr3 hg2
          refine Lib.hid ?_
          go_wp2_with fail
          refine HNo.out.mono ?_
          rintro e wJ ⟨a5, n5, c5, b5, k5, d5, rfl, hJ, hbJ⟩
          have hbJ1 := hbJ.alloc hbJ.size (.cells #[.slice a5 n5 c5, .slice b5 k5 d5] 40)
          have HBJ := Lib.hid (HBI.out.trans (hbJ1.mono HBI.out.size))
          have hbVJ := HbVI.out.trans (hbJ1.mono HbVI.out.size)
          have HW11J := Lib.hid (HW11I.out.below hbJ1 HW11I.out.lt)
          have HD11J := Lib.hid (HD11I.out.below hbJ1)
          have HW14J := Lib.hid (HW14I.out.below hbJ1 HW14I.out.lt)
          have HD14J := Lib.hid (HD14I.out.below hbJ1)
          have HW16 := Lib.hid (Whole.new wJ 40 #[.slice a5 n5 c5, .slice b5 k5 d5])
          have HD16 := Lib.hid (hJ.below ((Below.refl _ wJ).alloc (Nat.le_refl _) (.cells #[.slice a5 n5 c5, .slice b5 k5 d5] 40)))
          have HZ7 := Lib.hid (HV7.out.below hbVJ HV7.out.lt)
          have HZ8 := Lib.hid (HV8.out.below hbVJ HV8.out.lt)
          have HZ9 := Lib.hid (HV9.out.below hbVJ HV9.out.lt)
          have HY7 := Lib.hid (HQ7.out.below hbVJ)
          have HY8 := Lib.hid (HQ8.out.below hbVJ)
          have HY9 := Lib.hid (HQ9.out.below hbVJ)
          obtain ⟨s0, s1, _, _, _⟩ := cells_two HW11J.out
          obtain ⟨s2, s3, _, _, _⟩ := cells_two HZ7.out
          have HSa := RSSame_any HD11J.out HY7.out
          rw [(sameP_iff _ _).2 rfl] at HSa
          have HSa := Lib.hid HSa
          clear hJ hbJ hbJ1 hbVJ
          have HWJ := Lib.hid (rfl : wJ.alloc (.cells #[.slice a5 n5 c5, .slice b5 k5 d5] 40) = wJ.alloc (.cells #[.slice a5 n5 c5, .slice b5 k5 d5] 40))
          go_wp2_with fail
          refine HSa.out.mono ?_
          rintro e wK ⟨rfl, hbK⟩
          obtain ⟨t0, t1, _, _, _⟩ := cells_two (HW14J.out.below hbK HW14J.out.lt)
          obtain ⟨t2, t3, _, _, _⟩ := cells_two (HZ8.out.below hbK HZ8.out.lt)
          have HSb := RSSame_any (HD14J.out.below hbK) (HY8.out.below hbK)
          rw [(sameP_iff _ _).2 rfl] at HSb
          have HSb := Lib.hid HSb
          have HbK := Lib.hid hbK
          clear hbK s0 s1 s2 s3
          go_wp2_with fail
          refine HSb.out.mono ?_
          rintro e wM ⟨rfl, hbM⟩
          have hbJM := HbK.out.trans (hbM.mono HbK.out.size)
          obtain ⟨y0, y1, _, _, _⟩ := cells_two (HW16.out.below hbJM HW16.out.lt)
          obtain ⟨y2, y3, _, _, _⟩ := cells_two (HZ9.out.below hbJM HZ9.out.lt)
          have HSc := RSSame_any (HD16.out.below hbJM) (HY9.out.below hbJM)
          rw [(sameP_iff _ _).2 rfl] at HSc
          have HSc := Lib.hid HSc
          have HbJM := Lib.hid hbJM
          clear hbM hbJM t0 t1 t2 t3
          go_wp2_with fail
          refine HSc.out.mono ?_
          rintro e wN ⟨rfl, hbN⟩
          have HBN := Lib.hid (HBJ.out.trans ((HbJM.out.trans (hbN.mono HbJM.out.size)).mono HBJ.out.size))
          clear hbN y0 y1 y2 y3
          go_wp2_with fail
          refine (awakeS_any (HE.out.below HBN.out) (HT.out.below HBN.out)).mono ?_
          rintro e wO ⟨rfl, hbO⟩
          have HBO := Lib.hid (HBN.out.trans (hbO.mono HBN.out.size))
          clear hbO
          go_wp2
          go_ret
          exact ⟨rfl, HBO.out⟩
end Go.Proofs.YtpmbijlldoiplaaGreatDoor
