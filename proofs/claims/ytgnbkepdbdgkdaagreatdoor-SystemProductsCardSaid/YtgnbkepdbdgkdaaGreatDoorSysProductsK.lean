/- SystemProducts: Product answers what the definition asks. -/
import Derived.Test.YtgnbkepdbdgkdaaGreatDoorJq33
import Derived.Test.YtgnbkepdbdgkdaaGreatDoorBothSK
import Derived.Test.YtgnbkepdbdgkdaaGreatDoorRProdK
import Derived.Test.YtgnbkepdbdgkdaaGreatDoorJq07
namespace Go.Proofs.YtgnbkepdbdgkdaaGreatDoor
open Go.RowKit Pl

theorem sysOwn_arg {w W : World} {a : Option Addr} {n c : Nat} {b : Option Addr} {k d : Nat} {m m' : Syst} {B i : Nat} {va vs : Value} (A : SysArg w a n c b k d m) (hm : sysB m = true) (hm' : sysB m' = true) (hOk : PrOk m m' i) (hS : SysOwn W B va vs ⟨m.acts, prRows m m' i⟩) :
    ∃ x1 x2 x3 x4, va = .slice x1 m.acts.length x2 ∧ vs = .slice x3 i x4 ∧ SysArg W x1 m.acts.length x2 x3 i x4 ⟨m.acts, prRows m m' i⟩ := by
  have h2 := (sysB_iff _).1 (prod_valid hm hm' hOk)
  have h3 : m.acts.length ≤ 8 := ((actsB_iff _).1 h2.1).1
  have e9 : (⟨m.acts, prRows m m' i⟩ : Syst).states.length = i := prRows_len m m' i
  have h4 := h2.2.2.1
  have h5 := h2.2.2.2.2
  rw [e9] at h4
  obtain ⟨x1, x2, x3, x4, ex, ey, hSA⟩ := hS.arg (by show m.acts.length ≤ _; omega) (by rw [e9]; omega) (fun r hr => by
    have := row_le (⟨m.acts, prRows m m' i⟩ : Syst).states r hr
    omega) (fun q hq => A.acts.sz q (by have := A.acts.len; have hq' : q < m.acts.length := hq; omega))
  rw [e9] at ey hSA
  exact ⟨x1, x2, x3, x4, ex, ey, hSA⟩

set_option maxRecDepth 100000 in
set_option maxHeartbeats 32000000 in
theorem SystemProducts_any {w : World} (E : Env w) {a : Option Addr} {n c : Nat} {b : Option Addr} {k d : Nat} {m : Syst} (A : SysArg w a n c b k d m) {a' : Option Addr} {n' c' : Nat} {b' : Option Addr} {k' d' : Nat} {m' : Syst} (A' : SysArg w a' n' c' b' k' d' m') :
    Calls Tryz.prog 4 #[.agg #[.slice a n c, .slice b k d], .agg #[.slice a' n' c', .slice b' k' d']] w fun e w' => e = .returned (.bool true) ∧ Below w.heap.size w w' := by
  have hB := ((Below.refl w.heap.size w).alloc (Nat.le_refl _) (.cells #[.slice a n c, .slice b k d] 25)).alloc (by simp) (.cells #[.slice a' n' c', .slice b' k' d'] 25)
  have hX1 := (Whole.new w 25 #[.slice a n c, .slice b k d]).alloc (.cells #[.slice a' n' c', .slice b' k' d'] 25)
  have hX2 := Whole.new (w.alloc (.cells #[.slice a n c, .slice b k d] 25)) 25 #[.slice a' n' c', .slice b' k' d']
  simp only [World.size_alloc] at hX2
  obtain ⟨w0, HW0⟩ : ∃ z, Hid ((w.alloc (.cells #[.slice a n c, .slice b k d] 25)).alloc (.cells #[.slice a' n' c', .slice b' k' d'] 25) = z) := ⟨_, Lib.hid rfl⟩
  rw [HW0.out] at hB hX1 hX2
  have hF := Few_any 6000 (by decide) (A.below hB)
  obtain ⟨w1, HW1⟩ : ∃ z, Hid (w0.alloc (.cells #[.slice a n c, .slice b k d] 25) = z) := ⟨_, Lib.hid rfl⟩
  rw [HW1.out] at hF
  have hb01 : Below w0.heap.size w0 w1 := by rw [← HW1.out]; exact (Below.refl _ w0).alloc (Nat.le_refl _) _
  have hB1 := hB.trans (hb01.mono hB.size)
  have hF' := Few_any 6000 (by decide) (A'.below hB1)
  obtain ⟨w2, HW2⟩ : ∃ z, Hid (w1.alloc (.cells #[.slice a' n' c', .slice b' k' d'] 25) = z) := ⟨_, Lib.hid rfl⟩
  rw [HW2.out] at hF'
  have hb12 : Below w1.heap.size w1 w2 := by rw [← HW2.out]; exact (Below.refl _ w1).alloc (Nat.le_refl _) _
  have HB1 := Lib.hid hB1
  have HB2 := Lib.hid (hB1.trans (hb12.mono hB1.size))
  have HF := Lib.hid hF
  have HF' := Lib.hid hF'
  have HE0 := Lib.hid E
  have HE1 := Lib.hid (E.below HB1.out)
  have HE2 := Lib.hid (E.below HB2.out)
  have HA := Lib.hid A
  have HA' := Lib.hid A'
  have p0 := hX1.cell 0
  have p1 := hX1.cell 1
  simp only [List.getElem?_toArray, List.getElem?_cons_succ, List.getElem?_cons_zero] at p0 p1
  have hX21 := hX2.below hb01 hX2.lt
  have p2 := hX21.cell 0
  have p3 := hX21.cell 1
  simp only [List.getElem?_toArray, List.getElem?_cons_succ, List.getElem?_cons_zero] at p2 p3
  have HX1 := Lib.hid ((hX1.below hb01 hX1.lt).below hb12 (hX1.below hb01 hX1.lt).lt)
  have HX2 := Lib.hid (hX21.below hb12 hX21.lt)
  clear hB hX1 hX2 A A' E hb01 hB1 hb12 hF hF' hX21
  cases hf : fewB m 6000
  · rw [hf] at HF
    clear hf
    go_enter Tryz.func4, Tryz.ntmps4
    go_wp2_with fail
    rw [HW0.out]
    refine HF.out.mono ?_
    rintro e w' ⟨rfl, rfl⟩
    go_wp2_with fail
    refine (awake_any HE1.out).mono ?_
    rintro e wz ⟨rfl, hbz⟩
    have HBz := Lib.hid (HB1.out.trans (hbz.mono HB1.out.size))
    clear hbz
    go_wp2
    go_ret
    exact ⟨rfl, HBz.out⟩
  · rw [hf] at HF
    have HQ := Lib.hid ((fewB_iff m 6000).1 hf)
    clear hf
    have HKl : Hid (m.states.length = k ∧ m'.states.length = k') := Lib.hid ⟨HA.out.len.symm, HA'.out.len.symm⟩
    have hk6 : k ≤ 6000 := by have := HQ.out; have := HKl.out.1; omega
    cases hf : fewB m' 6000
    · rw [hf] at HF'
      clear hf
      go_enter Tryz.func4, Tryz.ntmps4
      go_wp2_with fail
      rw [HW0.out]
      refine HF.out.mono ?_
      rintro e w' ⟨rfl, rfl⟩
      go_wp2_with fail
      refine HF'.out.mono ?_
      rintro e w' ⟨rfl, rfl⟩
      go_wp2_with fail
      refine (awake_any HE2.out).mono ?_
      rintro e wz ⟨rfl, hbz⟩
      have HBz := Lib.hid (HB2.out.trans (hbz.mono HB2.out.size))
      clear hbz
      go_wp2
      go_ret
      exact ⟨rfl, HBz.out⟩
    · rw [hf] at HF'
      have HQ' := Lib.hid ((fewB_iff m' 6000).1 hf)
      clear hf
      have hk6' : k' ≤ 6000 := by have := HQ'.out; have := HKl.out.2; omega
      have hmul : k * k' ≤ 6000 * 6000 := Nat.mul_le_mul hk6 hk6'
      obtain ⟨kk, HKK⟩ : ∃ z, Hid (k * k' = z) := ⟨_, Lib.hid rfl⟩
      have hkk : (k : Int) * (k' : Int) = (kk : Int) := by rw [← HKK.out]; simp
      rw [HKK.out] at hmul
      have s1 := HX1.out.cell 1
      have s2 := HX2.out.cell 1
      have s3 := HX1.out.cell 0
      have s4 := HX2.out.cell 0
      simp only [List.getElem?_toArray, List.getElem?_cons_succ, List.getElem?_cons_zero] at s1 s2 s3 s4
      by_cases hlong : 10000 < kk
      · go_enter Tryz.func4, Tryz.ntmps4
        go_wp2_with fail
        rw [HW0.out]
        refine HF.out.mono ?_
        rintro e w' ⟨rfl, rfl⟩
        go_wp2_with fail
        refine HF'.out.mono ?_
        rintro e w' ⟨rfl, rfl⟩
        go_wp2_with fail
        refine (awake_any HE2.out).mono ?_
        rintro e wz ⟨rfl, hbz⟩
        have HBz := Lib.hid (HB2.out.trans (hbz.mono HB2.out.size))
        clear hbz
        go_wp2
        go_ret
        exact ⟨rfl, HBz.out⟩
      · have hlong2 : ¬ (10000 : Int) < (kk : Int) := by omega
        have HQm : Hid (m.acts.length + m.states.length + total m.states ≤ 1000000) := Lib.hid (by have := HQ.out; omega)
        have HQn : Hid (m'.acts.length + m'.states.length + total m'.states ≤ 1000000) := Lib.hid (by have := HQ'.out; omega)
        have HAm := Lib.hid (HA.out.below HB2.out)
        have HAn := Lib.hid (HA'.out.below HB2.out)
        obtain ⟨cb, HCb⟩ : ∃ z, Hid (bothS m m' = z) := ⟨_, Lib.hid rfl⟩
        have hbo := bothS_any HAm.out HAn.out (by have := HQ.out; omega) (by have := HQ'.out; omega)
        rw [HCb.out] at hbo
        have HBo := Lib.hid hbo
        clear hbo hlong
        go_enter Tryz.func4, Tryz.ntmps4
        go_wp2_with fail
        rw [HW0.out]
        refine HF.out.mono ?_
        rintro e w' ⟨rfl, rfl⟩
        go_wp2_with fail
        refine HF'.out.mono ?_
        rintro e w' ⟨rfl, rfl⟩
        go_wp2_with fail
        refine HBo.out.mono ?_
        rintro e w3 ⟨rfl, hb3⟩
        have hal := (Below.refl _ w3).alloc (Nat.le_refl _) (.cells #[.slice none 0 0, .slice none 0 0] 25)
        have hY4 := Whole.new w3 25 #[.slice none 0 0, .slice none 0 0]
        have hb4 := hb3.trans (hal.mono hb3.size)
        obtain ⟨w4, HW4⟩ : ∃ z, Hid (w3.alloc (.cells #[.slice none 0 0, .slice none 0 0] 25) = z) := ⟨_, Lib.hid rfl⟩
        obtain ⟨gw, HGw⟩ : ∃ z, Hid (w3.heap.size = z) := ⟨_, Lib.hid rfl⟩
        have HGl : Hid (w2.heap.size ≤ gw) := Lib.hid (by rw [← HGw.out]; exact hb3.size)
        rw [HW4.out] at hb4 hY4
        rw [HGw.out] at hY4
        have HB24 := Lib.hid hb4
        have HY4 := Lib.hid hY4
        have HX14 := Lib.hid (HX1.out.below hb4 HX1.out.lt)
        have HX24 := Lib.hid (HX2.out.below hb4 HX2.out.lt)
        clear hb3 hal hY4 hb4 s1 s2 s3 s4 p0 p1 p2 p3
        by_cases hc : cb = 0
        · subst hc
          have h0 : bothS m m' = 0 := HCb.out
          obtain ⟨hv, hv', hac⟩ := bothS_zero h0
          have HV := Lib.hid hv
          have HV' := Lib.hid hv'
          have H0 := Lib.hid h0
          have HR := Lib.hid (RProd_any (HAm.out.below HB24.out) (HAn.out.below HB24.out) hv hv')
          have t0 := HX14.out.cell 0
          have t1 := HX14.out.cell 1
          have t2 := HX24.out.cell 0
          have t3 := HX24.out.cell 1
          simp only [List.getElem?_toArray, List.getElem?_cons_succ, List.getElem?_cons_zero] at t0 t1 t2 t3
          clear hv hv' hac h0
          go_upto_region 8 with (fail)
          rw [HW4.out, HGw.out]
          go_wp2_with fail
          refine HR.out.mono ?_
          rintro e w5 ⟨hb5, ⟨va, vs, v, i, rfl, hOk, hSO, hPv⟩ | ⟨i, hBad, rfl⟩⟩
          · obtain ⟨ra, rc, rb, rd, e1, e2, hSA⟩ := sysOwn_arg HAm.out HV.out HV'.out hOk hSO
            subst e1
            subst e2
            obtain ⟨qa, qc, rfl⟩ := own_slice' hPv
            have hy5 := HY4.out.below hb5 HY4.out.lt
            have y0 := hy5.cell 0
            have y1 := hy5.cell 1
            have y2 := hy5.frozen 0
            have y3 := hy5.frozen 1
            have y4 := hy5.lt
            simp only [List.getElem?_toArray, List.getElem?_cons_succ, List.getElem?_cons_zero] at y0 y1
            have HOk := Lib.hid hOk
            obtain ⟨wq, HWq⟩ : ∃ z, Hid ((w5.setCell ⟨gw, 0, none⟩ (.slice ra m.acts.length rc)).setCell ⟨gw, 1, none⟩ (.slice rb i rd) = z) := ⟨_, Lib.hid rfl⟩
            have HB2q : Hid (Below w2.heap.size w2 wq) := Lib.hid (by
              rw [← HWq.out]
              exact ((HB24.out.trans (hb5.mono HB24.out.size)).setCell HGl.out _).setCell HGl.out _)
            have HYq : Hid (Whole wq gw 25 #[.slice ra m.acts.length rc, .slice rb i rd]) := Lib.hid (by
              rw [← HWq.out]
              exact (hy5.set 0 _).set 1 _)
            have HSq : Hid (SysOwn wq w4.heap.size (.slice ra m.acts.length rc) (.slice rb i rd) ⟨m.acts, prRows m m' i⟩) := Lib.hid (by
              rw [← HWq.out]
              exact sys_stored2 hSO hy5 _ _)
            have HPq : Hid (wq.ownsRow w4.heap.size 48 2 (.slice qa i qc) i (pcells (prQ m m' i))) := Lib.hid (by
              rw [← HWq.out]
              exact own_stored (own_stored hPv hy5 (by decide)) (hy5.set 0 _) (by decide))
            clear hb5 hOk hSO hPv hSA hy5
            go_upto_region 9 with (fail)
            rw [HWq.out]
            clear t0 t1 t2 t3 y0 y1 y2 y3 y4
            have HBq := Lib.hid (HB2.out.trans (HB2q.out.mono HB2.out.size))
            have HAm' := Lib.hid (HAm.out.below HB2q.out)
            have HAn' := Lib.hid (HAn.out.below HB2q.out)
            have HX1q := Lib.hid (HX1.out.below HB2q.out HX1.out.lt)
            have HX2q := Lib.hid (HX2.out.below HB2q.out HX2.out.lt)
            obtain ⟨e0, e1, e2, hErr⟩ := (HE2.out.below HB2q.out).errs
            have HErr := Lib.hid hErr
            have k0 : wq.cell? ⟨w.heap.size, 0, none⟩ = some (.slice a n c) ∧ wq.cell? ⟨w.heap.size, 1, none⟩ = some (.slice b k d) ∧ wq.cell? ⟨w.heap.size + 1, 0, none⟩ = some (.slice a' n' c') ∧ wq.cell? ⟨w.heap.size + 1, 1, none⟩ = some (.slice b' k' d') := ⟨HX1q.out.cell 0, HX1q.out.cell 1, HX2q.out.cell 0, HX2q.out.cell 1⟩
            have kD := ms_dr k0
            clear hErr
            go_upto_region 11 with (fail)
            go_cut [9, 10, 11] (fun s7 s8 s9 wx => ∃ g xa xn xc ya yn yc pa pn pc code, s7 = .pointer (some ⟨g, 0, none⟩) ∧ s8 = .slice pa pn pc ∧ s9 = .int .i64 code ∧ Below wq.heap.size wq wx ∧ wq.heap.size ≤ g ∧ Whole wx g 25 #[.slice xa xn xc, .slice ya yn yc] ∧ PrOut m m' wx wq.heap.size (.slice xa xn xc) (.slice ya yn yc) (.slice pa pn pc) code)
            case first =>
              go_region_held3 (fun w' => w'.cell? ⟨w.heap.size, 0, none⟩ = some (.slice a n c) ∧ w'.cell? ⟨w.heap.size, 1, none⟩ = some (.slice b k d) ∧ w'.cell? ⟨w.heap.size + 1, 0, none⟩ = some (.slice a' n' c') ∧ w'.cell? ⟨w.heap.size + 1, 1, none⟩ = some (.slice b' k' d'))
                ((with_reducible (first | assumption | exact ms_new kK _ | exact ms_far2 kK n7 _ _ | exact ms_far2 kK n6 _ _ | exact ms_far2 kK n5 _ _ | exact ms_new kJ _ | exact ms_new kI _ | exact ms_new k0 _ | exact kD | exact ms_dr (ms_new k0 _))))
                (first
                  | (go_at_call 17; have hc := fun (W : World) (hb : Below w7.heap.size w7 W) => Product_any (HErr.out.below (below_two hb57 hb)) (hA67.below hb) (hA7.below hb); first
                      | (refine Calls.mono (hc w7 (Below.refl _ _)) ?_; clear hc; rintro e w8 ⟨xa, xn, xc, ya, yn, yc, pa, pn, pc, code, rfl, hO, hb8⟩; have kK := ms_up hb8 kJ; have hb58 := below_two hb57 hb8; have hO5 := hO.low hb57.size; first | (have B2 : Whole w7 wq.heap.size 25 #[.slice none 0 0, .slice none 0 0] := (by assumption); obtain ⟨B1, ⟨C0, C1⟩, F0, F1⟩ := pack_two (up_whole hb8 B2); clear B2) | (have B2 : Whole w7 w6.heap.size 25 #[.slice none 0 0, .slice none 0 0] := (by assumption); obtain ⟨B1, ⟨C0, C1⟩, F0, F1⟩ := pack_two (up_whole hb8 B2); clear B2) | skip)
                      | (refine Calls.mono (hc (w7.alloc _) ((Below.refl _ _).alloc (Nat.le_refl _) _)) ?_; clear hc; rintro e w8 ⟨xa, xn, xc, ya, yn, yc, pa, pn, pc, code, rfl, hO, hb8⟩; have kK := ms_up hb8 (ms_new kJ _); have hb78 := below_two ((Below.refl _ w7).alloc (Nat.le_refl _) _) hb8; have hb58 := below_two hb57 hb78; have hO5 := hO.low (Nat.le_trans hb57.size (by simp)); have hg := hb57.size; obtain ⟨B1, ⟨C0, C1⟩, F0, F1⟩ := pack_two (up_whole hb8 (Whole.new w7 _ _))))
                  | (go_at_call 12; have hc := fun (W : World) (hb : Below w6.heap.size w6 W) => CopyA_any (HAn'.out.below (below_two hb56 hb)) HQn.out; first
                      | (refine Calls.mono (hc w6 (Below.refl _ _)) ?_; clear hc; rintro e w7 ⟨a7, c7, b7, d7, rfl, hA7, hb7⟩; have kJ := ms_up hb7 kI; have hb57 := below_two hb56 hb7; have n7 := ms_ne kJ; have hA67 := hA6.below hb7; first | (have B2 : Whole w6 wq.heap.size 25 #[.slice none 0 0, .slice none 0 0] := (by assumption); have B7 := up_whole hb7 B2; clear B2; have hg := Nat.le_refl wq.heap.size) | skip)
                      | (refine Calls.mono (hc (w6.alloc _) ((Below.refl _ _).alloc (Nat.le_refl _) _)) ?_; clear hc; rintro e w7 ⟨a7, c7, b7, d7, rfl, hA7, hb7⟩; have kJ := ms_up hb7 (ms_new kI _); have hb67 := below_two ((Below.refl _ w6).alloc (Nat.le_refl _) _) hb7; have hb57 := below_two hb56 hb67; have hA67 := hA6.below hb67; have B7 : Whole w7 w6.heap.size 25 #[.slice none 0 0, .slice none 0 0] := up_whole hb7 (Whole.new w6 _ _); have hg := hb56.size))
                  | (go_at_call 12; first
                      | (refine Calls.mono (CopyA_any (w := wq.drew) (HAm'.out.below (Below.refl _ _).drew) HQm.out) ?_; rintro e w6 ⟨a6, c6, b6, d6, rfl, hA6, hb6⟩; have kI := ms_up hb6 kD; have hb56 : Below wq.heap.size wq w6 := (Below.refl _ wq).drew.trans hb6; have n6 := ms_ne kI)
                      | (refine Calls.mono (CopyA_any (w := (wq.alloc _).drew) (HAm'.out.below ((Below.refl _ wq).alloc (Nat.le_refl _) _).drew) HQm.out) ?_; rintro e w6 ⟨a6, c6, b6, d6, rfl, hA6, hb6⟩; have kI := ms_up hb6 (ms_dr (ms_new k0 _)); have hb56 : Below wq.heap.size wq w6 := ((Below.refl _ wq).alloc (Nat.le_refl _) _).drew.trans (hb6.mono (by simp)); have B6 : Whole w6 wq.heap.size 25 #[.slice none 0 0, .slice none 0 0] := up_whole hb6 (whole_dr (Whole.new wq _ _)); have n5 := ms_ne k0)))
              all_goals
                go_wp2_with fail
                go_meet
                first
                  | exact ⟨_, _, _, _, _, _, _, _, _, _, _, rfl, rfl, rfl, hb58.alloc hb58.size _, hb58.size, Whole.new _ _ _, hO5.up ((Below.refl _ _).alloc (Nat.le_refl _) _)⟩
                  | exact ⟨_, _, _, _, _, _, _, _, _, _, _, rfl, rfl, rfl, (hb58.setCell hg _).setCell hg _, hg, (B1.set 0 _).set 1 _, hO5.put B1 _ _⟩
            case rest =>
              as_aux_lemma =>
              obtain ⟨w8, hwX⟩ : ∃ z, z = wc := ⟨_, rfl⟩
              subst hwX
              obtain ⟨g, xa, xn, xc, ya, yn, yc, pa, pn, pc, code, rfl, rfl, rfl, hbc, hg, hWc, hO⟩ := hcut
              have HB8 := Lib.hid (HBq.out.trans (hbc.mono HBq.out.size))
              have HY8 := Lib.hid (HYq.out.below hbc HYq.out.lt)
              have z0 := HY8.out.cell 0
              have z1 := HY8.out.cell 1
              have z2 := hWc.cell 0
              have z3 := hWc.cell 1
              simp only [List.getElem?_toArray, List.getElem?_cons_succ, List.getElem?_cons_zero] at z0 z1 z2 z3
              have HS8 := Lib.hid (HSq.out.up hbc)
              have HP8 := Lib.hid (own_up' HPq.out hbc)
              rcases hO with ⟨q0, _⟩ | ⟨_, _, ⟨i', hB'⟩, _⟩ | ⟨_, rfl, i', hOk', hS', hP'⟩
              · exact absurd H0.out q0
              · exact absurd hB' (fun h => pr_not HOk.out h)
              obtain rfl : i = i' := pr_once HOk.out hOk'
              obtain ⟨u1, u2, u3, u4, f1, f2, hA8⟩ := sysOwn_arg HAm.out HV.out HV'.out HOk.out hS'
              obtain ⟨v1, v2, v3, v4, f3, f4, hA8'⟩ := sysOwn_arg HAm.out HV.out HV'.out HOk.out HS8.out
              simp only [Value.slice.injEq, true_and] at f1 f2 f3 f4
              obtain ⟨rfl, rfl, rfl⟩ := f1
              obtain ⟨rfl, rfl, rfl⟩ := f2
              obtain ⟨rfl, rfl⟩ := f3
              obtain ⟨rfl, rfl⟩ := f4
              obtain ⟨y1, y2, f5⟩ := own_slice' hP'
              simp only [Value.slice.injEq] at f5
              obtain ⟨rfl, rfl, rfl⟩ := f5
              have HSm := Lib.hid (RSame_any hA8 hA8')
              have hil : (prQ m m' pn).length = pn := HOk.out.2
              have hi5 : pn ≤ 5000 := by
                have h2 := ((sysB_iff _).1 (prod_valid HV.out HV'.out HOk.out)).2.2.1
                simpa [prRows_len] using h2
              have hP8 := HP8.out
              have HSPf : Hid (∀ W, Below w8.heap.size w8 W → Calls Tryz.prog 18 #[.slice pa pn pc, .slice qa pn qc] W fun e w' => e = .returned (.bool true) ∧ Below W.heap.size W w') := Lib.hid (fun W hW => by
                have h8 := own_up' hP' hW
                have h9 := own_up' hP8 hW
                refine SamePairs_any (B := wq.heap.size) (B' := w4.heap.size) (L := prQ m m' pn) ?_ ?_ (by omega)
                · rw [hil]; exact h8
                · rw [hil]; exact h9)
              clear hbc hg hWc hOk' hS' hP' hA8 hA8' hP8
              go_wp2_with fail
              refine HSm.out.mono ?_
              rintro e w9 ⟨rfl, hb⟩
              rw [(sameB_iff _ _).2 rfl]
              have HB9 := Lib.hid (HB8.out.trans (hb.mono HB8.out.size))
              have HSP := Lib.hid (HSPf.out w9 hb)
              clear hb z0 z1 z2 z3
              go_wp2_with fail
              refine HSP.out.mono ?_
              rintro e wa ⟨rfl, hb⟩
              have HBa := Lib.hid (HB9.out.trans (hb.mono HB9.out.size))
              have HEa := Lib.hid (HE0.out.below HBa.out)
              clear hb
              go_wp2_with fail
              refine (awake_any HEa.out).mono ?_
              rintro e wz ⟨rfl, hbz⟩
              have HBz := Lib.hid (HBa.out.trans (hbz.mono HBa.out.size))
              clear hbz
              go_wp2
              go_ret
              exact ⟨rfl, HBz.out⟩
          · have hy5 := HY4.out.below hb5 HY4.out.lt
            have y0 := hy5.cell 0
            have y1 := hy5.cell 1
            have y2 := hy5.frozen 0
            have y3 := hy5.frozen 1
            have y4 := hy5.lt
            simp only [List.getElem?_toArray, List.getElem?_cons_succ, List.getElem?_cons_zero] at y0 y1
            have HBad := Lib.hid hBad
            obtain ⟨wq, HWq⟩ : ∃ z, Hid ((w5.setCell ⟨gw, 0, none⟩ (.slice none 0 0)).setCell ⟨gw, 1, none⟩ (.slice none 0 0) = z) := ⟨_, Lib.hid rfl⟩
            have HB2q : Hid (Below w2.heap.size w2 wq) := Lib.hid (by
              rw [← HWq.out]
              exact ((HB24.out.trans (hb5.mono HB24.out.size)).setCell HGl.out _).setCell HGl.out _)
            have HYq : Hid (Whole wq gw 25 #[.slice none 0 0, .slice none 0 0]) := Lib.hid (by
              rw [← HWq.out]
              exact (hy5.set 0 _).set 1 _)
            clear hb5 hBad hy5
            go_upto_region 9 with (fail)
            rw [HWq.out]
            clear t0 t1 t2 t3 y0 y1 y2 y3 y4
            have HBq := Lib.hid (HB2.out.trans (HB2q.out.mono HB2.out.size))
            have HAm' := Lib.hid (HAm.out.below HB2q.out)
            have HAn' := Lib.hid (HAn.out.below HB2q.out)
            have HX1q := Lib.hid (HX1.out.below HB2q.out HX1.out.lt)
            have HX2q := Lib.hid (HX2.out.below HB2q.out HX2.out.lt)
            obtain ⟨e0, e1, e2, hErr⟩ := (HE2.out.below HB2q.out).errs
            have HErr := Lib.hid hErr
            have k0 : wq.cell? ⟨w.heap.size, 0, none⟩ = some (.slice a n c) ∧ wq.cell? ⟨w.heap.size, 1, none⟩ = some (.slice b k d) ∧ wq.cell? ⟨w.heap.size + 1, 0, none⟩ = some (.slice a' n' c') ∧ wq.cell? ⟨w.heap.size + 1, 1, none⟩ = some (.slice b' k' d') := ⟨HX1q.out.cell 0, HX1q.out.cell 1, HX2q.out.cell 0, HX2q.out.cell 1⟩
            have kD := ms_dr k0
            clear hErr
            go_upto_region 11 with (fail)
            go_cut [9, 10, 11] (fun s7 s8 s9 wx => ∃ g xa xn xc ya yn yc pa pn pc code, s7 = .pointer (some ⟨g, 0, none⟩) ∧ s8 = .slice pa pn pc ∧ s9 = .int .i64 code ∧ Below wq.heap.size wq wx ∧ wq.heap.size ≤ g ∧ Whole wx g 25 #[.slice xa xn xc, .slice ya yn yc] ∧ PrOut m m' wx wq.heap.size (.slice xa xn xc) (.slice ya yn yc) (.slice pa pn pc) code)
            case first =>
              go_region_held3 (fun w' => w'.cell? ⟨w.heap.size, 0, none⟩ = some (.slice a n c) ∧ w'.cell? ⟨w.heap.size, 1, none⟩ = some (.slice b k d) ∧ w'.cell? ⟨w.heap.size + 1, 0, none⟩ = some (.slice a' n' c') ∧ w'.cell? ⟨w.heap.size + 1, 1, none⟩ = some (.slice b' k' d'))
                ((with_reducible (first | assumption | exact ms_new kK _ | exact ms_far2 kK n7 _ _ | exact ms_far2 kK n6 _ _ | exact ms_far2 kK n5 _ _ | exact ms_new kJ _ | exact ms_new kI _ | exact ms_new k0 _ | exact kD | exact ms_dr (ms_new k0 _))))
                (first
                  | (go_at_call 17; have hc := fun (W : World) (hb : Below w7.heap.size w7 W) => Product_any (HErr.out.below (below_two hb57 hb)) (hA67.below hb) (hA7.below hb); first
                      | (refine Calls.mono (hc w7 (Below.refl _ _)) ?_; clear hc; rintro e w8 ⟨xa, xn, xc, ya, yn, yc, pa, pn, pc, code, rfl, hO, hb8⟩; have kK := ms_up hb8 kJ; have hb58 := below_two hb57 hb8; have hO5 := hO.low hb57.size; first | (have B2 : Whole w7 wq.heap.size 25 #[.slice none 0 0, .slice none 0 0] := (by assumption); obtain ⟨B1, ⟨C0, C1⟩, F0, F1⟩ := pack_two (up_whole hb8 B2); clear B2) | (have B2 : Whole w7 w6.heap.size 25 #[.slice none 0 0, .slice none 0 0] := (by assumption); obtain ⟨B1, ⟨C0, C1⟩, F0, F1⟩ := pack_two (up_whole hb8 B2); clear B2) | skip)
                      | (refine Calls.mono (hc (w7.alloc _) ((Below.refl _ _).alloc (Nat.le_refl _) _)) ?_; clear hc; rintro e w8 ⟨xa, xn, xc, ya, yn, yc, pa, pn, pc, code, rfl, hO, hb8⟩; have kK := ms_up hb8 (ms_new kJ _); have hb78 := below_two ((Below.refl _ w7).alloc (Nat.le_refl _) _) hb8; have hb58 := below_two hb57 hb78; have hO5 := hO.low (Nat.le_trans hb57.size (by simp)); have hg := hb57.size; obtain ⟨B1, ⟨C0, C1⟩, F0, F1⟩ := pack_two (up_whole hb8 (Whole.new w7 _ _))))
                  | (go_at_call 12; have hc := fun (W : World) (hb : Below w6.heap.size w6 W) => CopyA_any (HAn'.out.below (below_two hb56 hb)) HQn.out; first
                      | (refine Calls.mono (hc w6 (Below.refl _ _)) ?_; clear hc; rintro e w7 ⟨a7, c7, b7, d7, rfl, hA7, hb7⟩; have kJ := ms_up hb7 kI; have hb57 := below_two hb56 hb7; have n7 := ms_ne kJ; have hA67 := hA6.below hb7; first | (have B2 : Whole w6 wq.heap.size 25 #[.slice none 0 0, .slice none 0 0] := (by assumption); have B7 := up_whole hb7 B2; clear B2; have hg := Nat.le_refl wq.heap.size) | skip)
                      | (refine Calls.mono (hc (w6.alloc _) ((Below.refl _ _).alloc (Nat.le_refl _) _)) ?_; clear hc; rintro e w7 ⟨a7, c7, b7, d7, rfl, hA7, hb7⟩; have kJ := ms_up hb7 (ms_new kI _); have hb67 := below_two ((Below.refl _ w6).alloc (Nat.le_refl _) _) hb7; have hb57 := below_two hb56 hb67; have hA67 := hA6.below hb67; have B7 : Whole w7 w6.heap.size 25 #[.slice none 0 0, .slice none 0 0] := up_whole hb7 (Whole.new w6 _ _); have hg := hb56.size))
                  | (go_at_call 12; first
                      | (refine Calls.mono (CopyA_any (w := wq.drew) (HAm'.out.below (Below.refl _ _).drew) HQm.out) ?_; rintro e w6 ⟨a6, c6, b6, d6, rfl, hA6, hb6⟩; have kI := ms_up hb6 kD; have hb56 : Below wq.heap.size wq w6 := (Below.refl _ wq).drew.trans hb6; have n6 := ms_ne kI)
                      | (refine Calls.mono (CopyA_any (w := (wq.alloc _).drew) (HAm'.out.below ((Below.refl _ wq).alloc (Nat.le_refl _) _).drew) HQm.out) ?_; rintro e w6 ⟨a6, c6, b6, d6, rfl, hA6, hb6⟩; have kI := ms_up hb6 (ms_dr (ms_new k0 _)); have hb56 : Below wq.heap.size wq w6 := ((Below.refl _ wq).alloc (Nat.le_refl _) _).drew.trans (hb6.mono (by simp)); have B6 : Whole w6 wq.heap.size 25 #[.slice none 0 0, .slice none 0 0] := up_whole hb6 (whole_dr (Whole.new wq _ _)); have n5 := ms_ne k0)))
              all_goals
                go_wp2_with fail
                go_meet
                first
                  | exact ⟨_, _, _, _, _, _, _, _, _, _, _, rfl, rfl, rfl, hb58.alloc hb58.size _, hb58.size, Whole.new _ _ _, hO5.up ((Below.refl _ _).alloc (Nat.le_refl _) _)⟩
                  | exact ⟨_, _, _, _, _, _, _, _, _, _, _, rfl, rfl, rfl, (hb58.setCell hg _).setCell hg _, hg, (B1.set 0 _).set 1 _, hO5.put B1 _ _⟩
            case rest =>
              as_aux_lemma =>
              obtain ⟨w8, hwX⟩ : ∃ z, z = wc := ⟨_, rfl⟩
              subst hwX
              obtain ⟨g, xa, xn, xc, ya, yn, yc, pa, pn, pc, code, rfl, rfl, rfl, hbc, hg, hWc, hO⟩ := hcut
              have HB8 := Lib.hid (HBq.out.trans (hbc.mono HBq.out.size))
              have HY8 := Lib.hid (HYq.out.below hbc HYq.out.lt)
              have z0 := HY8.out.cell 0
              have z1 := HY8.out.cell 1
              have z2 := hWc.cell 0
              have z3 := hWc.cell 1
              simp only [List.getElem?_toArray, List.getElem?_cons_succ, List.getElem?_cons_zero] at z0 z1 z2 z3
              obtain ⟨rfl, q1, q2, q3⟩ : code = 2 ∧ Value.slice xa xn xc = .slice none 0 0 ∧ Value.slice ya yn yc = .slice none 0 0 ∧ Value.slice pa pn pc = .slice none 0 0 := by
                rcases hO with ⟨q0, _⟩ | ⟨_, q0, _, q1, q2, q3⟩ | ⟨_, _, i', hOk', _⟩
                · exact absurd H0.out q0
                · exact ⟨q0, q1, q2, q3⟩
                · exact absurd HBad.out (fun h => pr_not hOk' h)
              simp only [Value.slice.injEq] at q1 q2 q3
              obtain ⟨rfl, rfl, rfl⟩ := q1
              obtain ⟨rfl, rfl, rfl⟩ := q2
              obtain ⟨rfl, rfl, rfl⟩ := q3
              have HSm := Lib.hid (RSame_any (sys_nil w8) (sys_nil w8))
              have HSPf : Hid (∀ W, Below w8.heap.size w8 W → Calls Tryz.prog 18 #[.slice none 0 0, .slice none 0 0] W fun e w' => e = .returned (.bool true) ∧ Below W.heap.size W w') := Lib.hid (fun W _ => SamePairs_any (L := []) (B := 0) (B' := 0) (World.ownsRow_nil _ _ _ _) (World.ownsRow_nil _ _ _ _) (by simp))
              clear hbc hg hWc
              go_wp2_with fail
              refine HSm.out.mono ?_
              rintro e w9 ⟨rfl, hb⟩
              rw [(sameB_iff _ _).2 rfl]
              have HB9 := Lib.hid (HB8.out.trans (hb.mono HB8.out.size))
              have HSP := Lib.hid (HSPf.out w9 hb)
              clear hb z0 z1 z2 z3
              go_wp2_with fail
              refine HSP.out.mono ?_
              rintro e wa ⟨rfl, hb⟩
              have HBa := Lib.hid (HB9.out.trans (hb.mono HB9.out.size))
              have HEa := Lib.hid (HE0.out.below HBa.out)
              clear hb
              go_wp2_with fail
              refine (awake_any HEa.out).mono ?_
              rintro e wz ⟨rfl, hbz⟩
              have HBz := Lib.hid (HBa.out.trans (hbz.mono HBa.out.size))
              clear hbz
              go_wp2
              go_ret
              exact ⟨rfl, HBz.out⟩
        · have hcb : (cb == 0) = false := by simpa using hc
          have HCn := Lib.hid hc
          obtain ⟨wq, hwq⟩ : ∃ z, z = w4 := ⟨_, rfl⟩
          have HB2q : Hid (Below w2.heap.size w2 wq) := Lib.hid (by rw [hwq]; exact HB24.out)
          have HYq : Hid (Whole wq gw 25 #[.slice none 0 0, .slice none 0 0]) := Lib.hid (by rw [hwq]; exact HY4.out)
          clear hc
          go_upto_region 11 with (fail)
          rw [HW4.out, HGw.out, ← hwq]
          clear hwq
          have HBq := Lib.hid (HB2.out.trans (HB2q.out.mono HB2.out.size))
          have HAm' := Lib.hid (HAm.out.below HB2q.out)
          have HAn' := Lib.hid (HAn.out.below HB2q.out)
          have HX1q := Lib.hid (HX1.out.below HB2q.out HX1.out.lt)
          have HX2q := Lib.hid (HX2.out.below HB2q.out HX2.out.lt)
          obtain ⟨e0, e1, e2, hErr⟩ := (HE2.out.below HB2q.out).errs
          have HErr := Lib.hid hErr
          have k0 : wq.cell? ⟨w.heap.size, 0, none⟩ = some (.slice a n c) ∧ wq.cell? ⟨w.heap.size, 1, none⟩ = some (.slice b k d) ∧ wq.cell? ⟨w.heap.size + 1, 0, none⟩ = some (.slice a' n' c') ∧ wq.cell? ⟨w.heap.size + 1, 1, none⟩ = some (.slice b' k' d') := ⟨HX1q.out.cell 0, HX1q.out.cell 1, HX2q.out.cell 0, HX2q.out.cell 1⟩
          have kD := ms_dr k0
          clear hErr
          go_upto_region 11 with (fail)
          go_cut [9, 10, 11] (fun s7 s8 s9 wx => ∃ g xa xn xc ya yn yc pa pn pc code, s7 = .pointer (some ⟨g, 0, none⟩) ∧ s8 = .slice pa pn pc ∧ s9 = .int .i64 code ∧ Below wq.heap.size wq wx ∧ wq.heap.size ≤ g ∧ Whole wx g 25 #[.slice xa xn xc, .slice ya yn yc] ∧ PrOut m m' wx wq.heap.size (.slice xa xn xc) (.slice ya yn yc) (.slice pa pn pc) code)
          case first =>
            go_region_held3 (fun w' => w'.cell? ⟨w.heap.size, 0, none⟩ = some (.slice a n c) ∧ w'.cell? ⟨w.heap.size, 1, none⟩ = some (.slice b k d) ∧ w'.cell? ⟨w.heap.size + 1, 0, none⟩ = some (.slice a' n' c') ∧ w'.cell? ⟨w.heap.size + 1, 1, none⟩ = some (.slice b' k' d'))
              ((with_reducible (first | assumption | exact ms_new kK _ | exact ms_far2 kK n7 _ _ | exact ms_far2 kK n6 _ _ | exact ms_far2 kK n5 _ _ | exact ms_new kJ _ | exact ms_new kI _ | exact ms_new k0 _ | exact kD | exact ms_dr (ms_new k0 _))))
              (first
                | (go_at_call 17; have hc := fun (W : World) (hb : Below w7.heap.size w7 W) => Product_any (HErr.out.below (below_two hb57 hb)) (hA67.below hb) (hA7.below hb); first
                    | (refine Calls.mono (hc w7 (Below.refl _ _)) ?_; clear hc; rintro e w8 ⟨xa, xn, xc, ya, yn, yc, pa, pn, pc, code, rfl, hO, hb8⟩; have kK := ms_up hb8 kJ; have hb58 := below_two hb57 hb8; have hO5 := hO.low hb57.size; first | (have B2 : Whole w7 wq.heap.size 25 #[.slice none 0 0, .slice none 0 0] := (by assumption); obtain ⟨B1, ⟨C0, C1⟩, F0, F1⟩ := pack_two (up_whole hb8 B2); clear B2) | (have B2 : Whole w7 w6.heap.size 25 #[.slice none 0 0, .slice none 0 0] := (by assumption); obtain ⟨B1, ⟨C0, C1⟩, F0, F1⟩ := pack_two (up_whole hb8 B2); clear B2) | skip)
                    | (refine Calls.mono (hc (w7.alloc _) ((Below.refl _ _).alloc (Nat.le_refl _) _)) ?_; clear hc; rintro e w8 ⟨xa, xn, xc, ya, yn, yc, pa, pn, pc, code, rfl, hO, hb8⟩; have kK := ms_up hb8 (ms_new kJ _); have hb78 := below_two ((Below.refl _ w7).alloc (Nat.le_refl _) _) hb8; have hb58 := below_two hb57 hb78; have hO5 := hO.low (Nat.le_trans hb57.size (by simp)); have hg := hb57.size; obtain ⟨B1, ⟨C0, C1⟩, F0, F1⟩ := pack_two (up_whole hb8 (Whole.new w7 _ _))))
                | (go_at_call 12; have hc := fun (W : World) (hb : Below w6.heap.size w6 W) => CopyA_any (HAn'.out.below (below_two hb56 hb)) HQn.out; first
                    | (refine Calls.mono (hc w6 (Below.refl _ _)) ?_; clear hc; rintro e w7 ⟨a7, c7, b7, d7, rfl, hA7, hb7⟩; have kJ := ms_up hb7 kI; have hb57 := below_two hb56 hb7; have n7 := ms_ne kJ; have hA67 := hA6.below hb7; first | (have B2 : Whole w6 wq.heap.size 25 #[.slice none 0 0, .slice none 0 0] := (by assumption); have B7 := up_whole hb7 B2; clear B2; have hg := Nat.le_refl wq.heap.size) | skip)
                    | (refine Calls.mono (hc (w6.alloc _) ((Below.refl _ _).alloc (Nat.le_refl _) _)) ?_; clear hc; rintro e w7 ⟨a7, c7, b7, d7, rfl, hA7, hb7⟩; have kJ := ms_up hb7 (ms_new kI _); have hb67 := below_two ((Below.refl _ w6).alloc (Nat.le_refl _) _) hb7; have hb57 := below_two hb56 hb67; have hA67 := hA6.below hb67; have B7 : Whole w7 w6.heap.size 25 #[.slice none 0 0, .slice none 0 0] := up_whole hb7 (Whole.new w6 _ _); have hg := hb56.size))
                | (go_at_call 12; first
                    | (refine Calls.mono (CopyA_any (w := wq.drew) (HAm'.out.below (Below.refl _ _).drew) HQm.out) ?_; rintro e w6 ⟨a6, c6, b6, d6, rfl, hA6, hb6⟩; have kI := ms_up hb6 kD; have hb56 : Below wq.heap.size wq w6 := (Below.refl _ wq).drew.trans hb6; have n6 := ms_ne kI)
                    | (refine Calls.mono (CopyA_any (w := (wq.alloc _).drew) (HAm'.out.below ((Below.refl _ wq).alloc (Nat.le_refl _) _).drew) HQm.out) ?_; rintro e w6 ⟨a6, c6, b6, d6, rfl, hA6, hb6⟩; have kI := ms_up hb6 (ms_dr (ms_new k0 _)); have hb56 : Below wq.heap.size wq w6 := ((Below.refl _ wq).alloc (Nat.le_refl _) _).drew.trans (hb6.mono (by simp)); have B6 : Whole w6 wq.heap.size 25 #[.slice none 0 0, .slice none 0 0] := up_whole hb6 (whole_dr (Whole.new wq _ _)); have n5 := ms_ne k0)))
            all_goals
              go_wp2_with fail
              go_meet
              first
                | exact ⟨_, _, _, _, _, _, _, _, _, _, _, rfl, rfl, rfl, hb58.alloc hb58.size _, hb58.size, Whole.new _ _ _, hO5.up ((Below.refl _ _).alloc (Nat.le_refl _) _)⟩
                | exact ⟨_, _, _, _, _, _, _, _, _, _, _, rfl, rfl, rfl, (hb58.setCell hg _).setCell hg _, hg, (B1.set 0 _).set 1 _, hO5.put B1 _ _⟩
          case rest =>
            as_aux_lemma =>
            obtain ⟨w8, hwX⟩ : ∃ z, z = wc := ⟨_, rfl⟩
            subst hwX
            obtain ⟨g, xa, xn, xc, ya, yn, yc, pa, pn, pc, code, rfl, rfl, rfl, hbc, hg, hWc, hO⟩ := hcut
            have HB8 := Lib.hid (HBq.out.trans (hbc.mono HBq.out.size))
            have HY8 := Lib.hid (HYq.out.below hbc HYq.out.lt)
            have z0 := HY8.out.cell 0
            have z1 := HY8.out.cell 1
            have z2 := hWc.cell 0
            have z3 := hWc.cell 1
            simp only [List.getElem?_toArray, List.getElem?_cons_succ, List.getElem?_cons_zero] at z0 z1 z2 z3
            obtain ⟨rfl, q1, q2, q3⟩ : code = cb ∧ Value.slice xa xn xc = .slice none 0 0 ∧ Value.slice ya yn yc = .slice none 0 0 ∧ Value.slice pa pn pc = .slice none 0 0 := by
              rcases hO with ⟨_, q0, q1, q2, q3⟩ | ⟨q0, _⟩ | ⟨q0, _⟩
              · exact ⟨q0.trans HCb.out, q1, q2, q3⟩
              · exact absurd (HCb.out.symm.trans q0) HCn.out
              · exact absurd (HCb.out.symm.trans q0) HCn.out
            simp only [Value.slice.injEq] at q1 q2 q3
            obtain ⟨rfl, rfl, rfl⟩ := q1
            obtain ⟨rfl, rfl, rfl⟩ := q2
            obtain ⟨rfl, rfl, rfl⟩ := q3
            have HSm := Lib.hid (RSame_any (sys_nil w8) (sys_nil w8))
            have HSPf : Hid (∀ W, Below w8.heap.size w8 W → Calls Tryz.prog 18 #[.slice none 0 0, .slice none 0 0] W fun e w' => e = .returned (.bool true) ∧ Below W.heap.size W w') := Lib.hid (fun W _ => SamePairs_any (L := []) (B := 0) (B' := 0) (World.ownsRow_nil _ _ _ _) (World.ownsRow_nil _ _ _ _) (by simp))
            clear hbc hg hWc
            go_wp2_with fail
            refine HSm.out.mono ?_
            rintro e w9 ⟨rfl, hb⟩
            rw [(sameB_iff _ _).2 rfl]
            have HB9 := Lib.hid (HB8.out.trans (hb.mono HB8.out.size))
            have HSP := Lib.hid (HSPf.out w9 hb)
            clear hb z0 z1 z2 z3
            go_wp2_with fail
            refine HSP.out.mono ?_
            rintro e wa ⟨rfl, hb⟩
            have HBa := Lib.hid (HB9.out.trans (hb.mono HB9.out.size))
            have HEa := Lib.hid (HE0.out.below HBa.out)
            clear hb
            go_wp2_with fail
            refine (awake_any HEa.out).mono ?_
            rintro e wz ⟨rfl, hbz⟩
            have HBz := Lib.hid (HBa.out.trans (hbz.mono HBa.out.size))
            clear hbz
            go_wp2
            go_ret
            exact ⟨rfl, HBz.out⟩
end Go.Proofs.YtgnbkepdbdgkdaaGreatDoor
