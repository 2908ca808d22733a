/- SpecChecks, given the contract of its awake: Check reports whether a specification is valid, Same whether two are equal. -/
import Derived.Test.YtfggahkjjmfkiaaGreatDoorPCheck
import Derived.Test.YtfggahkjjmfkiaaGreatDoorPSame2
import Derived.Test.YtfggahkjjmfkiaaGreatDoorRSpc3
import Derived.Test.YtfggahkjjmfkiaaGreatDoorSCopyA
namespace Go.Proofs.YtfggahkjjmfkiaaGreatDoor
open Go.RowKit Pl

set_option maxRecDepth 100000 in
set_option maxHeartbeats 16000000 in
theorem SpecChecks_aw {w : World} {a : Option Addr} {n c : Nat} {b : Option Addr} {k d : Nat} {m : Spc} {a' : Option Addr} {n' c' : Nat} {b' : Option Addr} {k' d' : Nat} {m' : Spc} {e0 e1 e2 : Addr} (E : Errs w e0 e1 e2) (Aw : Hid (∀ W : World, Below w.heap.size w W → Calls Tryz.prog 14 #[] W fun e w' => e = .returned (.bool true) ∧ Below W.heap.size W w')) (A : SpecArg w a n c b k d m) (A' : SpecArg w a' n' c' b' k' d' m') :
    Calls Tryz.prog 3 #[.agg #[.slice a n c, .slice b k d], .agg #[.slice a' n' c', .slice b' k' d']] w fun e w' => e = .returned (.bool true) ∧ Below w.heap.size w w' := by
  have hB := ((Below.refl w.heap.size w).alloc (Nat.le_refl _) (.cells #[.slice a n c, .slice b k d] 25)).alloc (by simp) (.cells #[.slice a' n' c', .slice b' k' d'] 25)
  have hX := (Whole.new w 25 #[.slice a n c, .slice b k d]).alloc (.cells #[.slice a' n' c', .slice b' k' d'] 25)
  have hY := Whole.new (w.alloc (.cells #[.slice a n c, .slice b k d] 25)) 25 #[.slice a' n' c', .slice b' k' d']
  simp only [World.size_alloc] at hY
  obtain ⟨w0, hw0⟩ : ∃ w0, (w.alloc (.cells #[.slice a n c, .slice b k d] 25)).alloc (.cells #[.slice a' n' c', .slice b' k' d'] 25) = w0 := ⟨_, rfl⟩
  rw [hw0] at hB hX hY
  have HW0 := Lib.hid hw0
  have hA := A.below hB
  have hA' := A'.below hB
  have HF := Lib.hid (SFew_any 20000 (by decide) hA)
  have HFg := Lib.hid (fun (W : World) (hb : Below w0.heap.size w0 W) => SFew_any 20000 (by decide) (hA'.below hb))
  have p0 : w0.cell? ⟨w.heap.size, 0, none⟩ = some (.slice a n c) := hX.cell 0
  have p1 : w0.cell? ⟨w.heap.size, 1, none⟩ = some (.slice b k d) := hX.cell 1
  have p2 : w0.cell? ⟨w.heap.size + 1, 0, none⟩ = some (.slice a' n' c') := hY.cell 0
  have p3 : w0.cell? ⟨w.heap.size + 1, 1, none⟩ = some (.slice b' k' d') := hY.cell 1
  have HB0 := Lib.hid hB
  have HA0 := Lib.hid hA
  have HA0' := Lib.hid hA'
  have HE0 := Lib.hid (E.below hB)
  clear hB hA hA' hX hY hw0 A A' E
  cases hf : fewS m 20000
  · rw [hf] at HF
    go_enter Tryz.func3, Tryz.ntmps3
    go_wp2_with fail
    rw [HW0.out]
    refine HF.out.mono ?_
    rintro e w1 ⟨rfl, hb1⟩
    have HB1 := Lib.hid (HB0.out.trans (hb1.mono HB0.out.size))
    clear hb1
    go_wp2_with fail
    refine (Aw.out _ HB1.out).mono ?_
    rintro e w3 ⟨rfl, hb3⟩
    have HB3 := Lib.hid (HB1.out.trans (hb3.mono HB1.out.size))
    clear hb3
    go_wp2
    go_ret
    exact ⟨rfl, HB3.out⟩
  · rw [hf] at HF
    have HFE := Lib.hid ((fewS_iff m 20000).1 hf)
    clear hf
    cases hf' : fewS m' 20000
    · rw [hf'] at HFg
      go_enter Tryz.func3, Tryz.ntmps3
      go_wp2_with fail
      rw [HW0.out]
      refine HF.out.mono ?_
      rintro e w1 ⟨rfl, hb1⟩
      have q0 := up_cell hb1 p2
      have q1 := up_cell hb1 p3
      have HF' := Lib.hid (HFg.out _ hb1)
      have HB1 := Lib.hid (HB0.out.trans (hb1.mono HB0.out.size))
      clear hb1
      go_wp2_with fail
      refine HF'.out.mono ?_
      rintro e w2 ⟨rfl, hb2⟩
      have HB2 := Lib.hid (HB1.out.trans (hb2.mono HB1.out.size))
      clear hb2
      go_wp2_with fail
      refine (Aw.out _ HB2.out).mono ?_
      rintro e w3 ⟨rfl, hb3⟩
      have HB3 := Lib.hid (HB2.out.trans (hb3.mono HB2.out.size))
      clear hb3
      go_wp2
      go_ret
      exact ⟨rfl, HB3.out⟩
    · rw [hf'] at HFg
      have HFE' := Lib.hid ((fewS_iff m' 20000).1 hf')
      clear hf'
      have HQ : Hid (m.acts.length + m.states.length + totalS m.states ≤ 1000000) := Lib.hid (by have := HFE.out; omega)
      have HQ' : Hid (m'.acts.length + m'.states.length + totalS m'.states ≤ 1000000) := Lib.hid (by have := HFE'.out; omega)
      obtain ⟨S, HSV⟩ : ∃ S, Hid (sameP m m' = S) := ⟨_, Lib.hid rfl⟩
      obtain ⟨V, HVV⟩ : ∃ V, Hid (spcB m = V) := ⟨_, Lib.hid rfl⟩
      go_enter Tryz.func3, Tryz.ntmps3
      go_wp2_with fail
      rw [HW0.out]
      refine HF.out.mono ?_
      rintro e w1 ⟨rfl, hb1⟩
      have q0 := up_cell hb1 p2
      have q1 := up_cell hb1 p3
      have HF' := Lib.hid (HFg.out _ hb1)
      have HB1 := Lib.hid (HB0.out.trans (hb1.mono HB0.out.size))
      have HD1 := Lib.hid hb1
      clear hb1
      go_wp2_with fail
      refine HF'.out.mono ?_
      rintro e w2 ⟨rfl, hb2⟩
      have hb12 := HD1.out.trans (hb2.mono HD1.out.size)
      have r0 := up_cell hb12 p0
      have r1 := up_cell hb12 p1
      have r2 := up_cell hb12 p2
      have r3 := up_cell hb12 p3
      have HB2 := Lib.hid (HB1.out.trans (hb2.mono HB1.out.size))
      have HA2 := Lib.hid (HA0.out.below hb12)
      have HA2' := Lib.hid (HA0'.out.below hb12)
      have HE2 := Lib.hid (HE0.out.below hb12)
      have HI := fun (W : World) (hb : Below w2.heap.size w2 W) => RSIs_any (HA2.out.below hb)
      have HS := fun (W : World) (hb : Below w2.heap.size w2 W) => RSSame_any (HA2.out.below hb) (HA2'.out.below hb)
      rw [HVV.out] at HI
      rw [HSV.out] at HS
      have HI := Lib.hid HI
      have HS := Lib.hid HS
      clear hb12 hb2 p0 p1 p2 p3 q0 q1
      go_wp2
      go_region_held3 (fun w' => w'.cell? ⟨w.heap.size, 0, none⟩ = some (.slice a n c) ∧ w'.cell? ⟨w.heap.size, 1, none⟩ = some (.slice b k d) ∧ w'.cell? ⟨w.heap.size + 1, 0, none⟩ = some (.slice a' n' c') ∧ w'.cell? ⟨w.heap.size + 1, 1, none⟩ = some (.slice b' k' d'))
        ((first | assumption | go_keep))
        (first
          | (go_at_call 15; refine (HI.out _ (Below.refl _ _).drew).mono ?_; rintro e wi ⟨rfl, hbi⟩; have ki0 := up_cell (W := w2.drew) hbi r0; have ki1 := up_cell (W := w2.drew) hbi r1; have ki2 := up_cell (W := w2.drew) hbi r2; have ki3 := up_cell (W := w2.drew) hbi r3; have hbi2 := (Below.refl _ w2).drew.trans hbi)
          | (go_at_call 16; refine (HS.out _ hbi2).mono ?_; rintro e ws ⟨rfl, hbs⟩; have ks0 := up_cell hbs ki0; have ks1 := up_cell hbs ki1; have ks2 := up_cell hbs ki2; have ks3 := up_cell hbs ki3))
      have hbs2 := hbi2.trans (hbs.mono hbi2.size)
      have HC := Lib.hid (SCopyA_any (HA2.out.below hbs2) HQ.out)
      have HBs := Lib.hid hbs2
      have H2s := Lib.hid (HB2.out.trans (hbs2.mono HB2.out.size))
      clear hbi hbi2 hbs hbs2 ki0 ki1 ki2 ki3 r0 r1 r2 r3
      go_wp2_with fail
      refine HC.out.mono ?_
      rintro e wc ⟨a2, c2, b2, d2, rfl, hA2, hbc⟩
      have hbc2 := HBs.out.trans (hbc.mono HBs.out.size)
      have hErr := HE2.out.below hbc2
      have HCk := PCheck_any hErr hA2
      have kc0 := up_cell hbc ks0
      have kc1 := up_cell hbc ks1
      have kc2 := up_cell hbc ks2
      have kc3 := up_cell hbc ks3
      have HCk := Lib.hid HCk
      have HBc := Lib.hid hbc2
      clear hbc hbc2 hErr hA2 ks0 ks1 ks2 ks3
      go_wp2_with fail
      refine HCk.out.mono ?_
      rintro e wk ⟨rfl, hbk⟩
      have kk0 := up_cell hbk kc0
      have kk1 := up_cell hbk kc1
      have kk2 := up_cell hbk kc2
      have kk3 := up_cell hbk kc3
      have hbk2 := HBc.out.trans (hbk.mono HBc.out.size)
      have HBk := Lib.hid hbk2
      have HAk := Lib.hid (HA2.out.below hbk2)
      have HAk' := Lib.hid (HA2'.out.below hbk2)
      clear hbk hbk2 kc0 kc1 kc2 kc3
      have HVC : Hid (chkS m = if V = true then 0 else 30) := Lib.hid (by rw [← HVV.out]; rfl)
      rw [HVC.out]
      have HSS : Hid (∀ W : World, ∀ a1 c1 b1 d1 a3 c3 b3 d3, SpecArg W a1 m.acts.length c1 b1 m.states.length d1 m → SpecArg W a3 m.acts.length c3 b3 m.states.length d3 m → Calls Tryz.prog 19 #[.agg #[.slice a1 m.acts.length c1, .slice b1 m.states.length d1], .agg #[.slice a3 m.acts.length c3, .slice b3 m.states.length d3]] W fun e w' => e = .returned (.bool true) ∧ Below W.heap.size W w') := Lib.hid (by
        intro W a1 c1 b1 d1 a3 c3 b3 d3 h1 h2
        have := PSame_any h1 h2
        rwa [show sameP m m = true from (sameP_iff m m).2 rfl] at this)
      cases V <;> cases S
      all_goals
        simp only [if_true, if_false, Bool.false_eq_true]
        go_wp2
        first
          | go_region_held (fun w' => w'.cell? ⟨w.heap.size, 0, none⟩ = some (.slice a n c) ∧ w'.cell? ⟨w.heap.size, 1, none⟩ = some (.slice b k d) ∧ w'.cell? ⟨w.heap.size + 1, 0, none⟩ = some (.slice a' n' c') ∧ w'.cell? ⟨w.heap.size + 1, 1, none⟩ = some (.slice b' k' d'))
            ((first | assumption | go_keep))
            (first
              | (go_at_call 14; refine (Aw.out _ (HB2.out.trans ((HBk.out.trans (hc6.mono HBk.out.size)).mono HB2.out.size))).mono ?_; rintro e x7 ⟨rfl, hb7⟩; have g70 := up_cell hb7 g60; have g71 := up_cell hb7 g61; have g72 := up_cell hb7 g62; have g73 := up_cell hb7 g63; have hc7 := hc6.trans (hb7.mono hc6.size))
              | (go_at_call 19; refine (HSS.out _ _ _ _ _ _ _ _ _ (hA4.below hb5) hA5).mono ?_; rintro e x6 ⟨rfl, hb6⟩; have g60 := up_cell hb6 g50; have g61 := up_cell hb6 g51; have g62 := up_cell hb6 g52; have g63 := up_cell hb6 g53; have hc6 := hc5.trans (hb6.mono hc5.size))
              | (go_at_call 18; refine (SCopyA_any (HAk.out.below hc4) HQ.out).mono ?_; rintro e x5 ⟨a5, c5, b5, d5, rfl, hA5, hb5⟩; have g50 := up_cell hb5 g40; have g51 := up_cell hb5 g41; have g52 := up_cell hb5 g42; have g53 := up_cell hb5 g43; have hc5 := hc4.trans (hb5.mono hc4.size))
              | (go_at_call 18; refine (SCopyA_any (HAk.out.below hc3) HQ.out).mono ?_; rintro e x4 ⟨a4, c4, b4, d4, rfl, hA4, hb4⟩; have g40 := up_cell hb4 g30; have g41 := up_cell hb4 g31; have g42 := up_cell hb4 g32; have g43 := up_cell hb4 g33; have hc4 := hc3.trans (hb4.mono hc3.size))
              | (go_at_call 19; refine (PSame_any (hA1.below hb2) hA2).mono ?_; rw [HSV.out]; rintro e x3 ⟨rfl, hb3⟩; have g30 := up_cell hb3 g20; have g31 := up_cell hb3 g21; have g32 := up_cell hb3 g22; have g33 := up_cell hb3 g23; have hc3 := hc2.trans (hb3.mono hc2.size))
              | (go_at_call 18; refine (SCopyA_any (HAk'.out.below hc1) HQ'.out).mono ?_; rintro e x2 ⟨a2, c2, b2, d2, rfl, hA2, hb2⟩; have g20 := up_cell hb2 g10; have g21 := up_cell hb2 g11; have g22 := up_cell hb2 g12; have g23 := up_cell hb2 g13; have hc2 := hc1.trans (hb2.mono hc1.size))
              | (go_at_call 18; refine (SCopyA_any (HAk.out.below (Below.refl _ wk).drew) HQ.out).mono ?_; rintro e x1 ⟨a1, c1, b1, d1, rfl, hA1, hb1⟩; have g10 := up_cell (W := wk.drew) hb1 kk0; have g11 := up_cell (W := wk.drew) hb1 kk1; have g12 := up_cell (W := wk.drew) hb1 kk2; have g13 := up_cell (W := wk.drew) hb1 kk3; have hc1 := (Below.refl _ wk).drew.trans hb1))
          | fail
        have HFin := Lib.hid (HB2.out.trans ((HBk.out.trans (hc7.mono HBk.out.size)).mono HB2.out.size))
        clear hb1 hb2 hb3 hb4 hb5 hb6 hb7 hc1 hc2 hc3 hc4 hc5 hc6 hc7 hA1 hA2 hA4 hA5
        go_wp2
        go_ret
        exact ⟨rfl, HFin.out⟩
end Go.Proofs.YtfggahkjjmfkiaaGreatDoor
