/- SpecSatisfies: Satisfies answers as the reference, and its verdict is right. -/
import Derived.Test.YtgpfpnenpgnogaaGreatDoorJa47
import Derived.Test.YtgpfpnenpgnogaaGreatDoorReachJ
import Derived.Test.YtgpfpnenpgnogaaGreatDoorJa26
import Derived.Test.YtgpfpnenpgnogaaGreatDoorJa48
import Derived.Deep.DeepCutAuto
namespace Go.Proofs.YtgpfpnenpgnogaaGreatDoor
open Go.RowKit Pl

theorem spellQ_len (Q : List Wt) : ∀ f p, (spellQ Q f p).length ≤ f
  | 0, _ => Nat.le_refl _
  | f + 1, p => by
    unfold spellQ
    split
    · simp
    · rw [List.length_append]
      have := spellQ_len Q f (wtAt Q p).before
      simp
      omega
theorem numO_arg {w : World} {base : Nat} {v : Value} {xs : List Int} (h : NumO w base v xs) (hbig : xs.length ≤ 9223372036854775807) : ∃ a c, v = .slice a xs.length c ∧ IntArg w a xs.length c xs := by
  have h0 : w.ownsRow base 3 1 v xs.length (xs.map (Value.int .i64)) := h
  rcases h0.2 with ⟨rfl, e⟩ | ⟨g, cap, cur, rfl, hg, hh, hc, hm, hz, ht⟩
  · exact ⟨none, 0, by rw [e], fun _ => rfl, rfl, by omega, hbig, fun j hj => by omega⟩
  · refine ⟨some ⟨g, 0, none⟩, cap, rfl, (fun h => by cases h), rfl, hc, hbig, fun j hj => ⟨g, 0, rfl, ?_⟩⟩
    rw [Nat.zero_add, h0.cellAt j (by omega), List.getElem?_map, List.getElem?_eq_getElem hj]
    simp [List.getD, hj]
theorem stQ_big {m : Syst} {s : Spc} (hm : sysB m = true) (hs : spcB s = true) {i : Nat} (hF : FitsTo m s i) : (stQ m s i).1.length ≤ 2500000 := by
  have h1 := okq_at hm hs i hF
  have h2 := cntF_le h1.shp
  rw [h1.cnt] at h2
  have h3 := ((sysB_iff m).1 hm).2.2.1
  have h4 := ((spcB_iff s).1 hs).2.2.1
  have h5 : m.states.length * s.states.length ≤ 5000 * 500 := Nat.mul_le_mul h3 h4
  omega
theorem satNo_big {m : Syst} {s : Spc} (hm : sysB m = true) (hs : spcB s = true) {wd : List Int} {x : Nat} (h : SatNo m s wd x) : wd.length ≤ 2500000 := by
  obtain ⟨i, h1, h2, _, rfl, _⟩ := h
  have h3 := spellQ_len (stQ m s i).1 i i
  have h4 := stQ_big hm hs h1
  omega
theorem satYes_len {m : Syst} {s : Spc} (hm : sysB m = true) (hs : spcB s = true) {L : List (Nat × Nat)} (h : SatYes m s L) : L.length ≤ 10000000 := by
  obtain ⟨i, h1, _, rfl⟩ := h
  have h2 := okq_at hm hs i h1
  have h6 := preO_len h2.shp m.states.length (Nat.le_refl _)
  have h3 := ((sysB_iff m).1 hm).2.2.1
  have h4 := ((spcB_iff s).1 hs).2.2.1
  have h5 : m.states.length * s.states.length ≤ 5000 * 500 := Nat.mul_le_mul h3 h4
  rw [allF_preO, h2.shp.1]
  omega
set_option maxRecDepth 100000 in
set_option maxHeartbeats 16000000 in
theorem SpecSatisfies_any {w : World} {a : Option Addr} {n c : Nat} {b : Option Addr} {k d : Nat} {m : Syst} {a' : Option Addr} {n' c' : Nat} {b' : Option Addr} {k' d' : Nat} {s : Spc} (E : Env w) (T : Tab w) (A : SysArg w a n c b k d m) (S : SpecArg w a' n' c' b' k' d' s) :
    Calls Tryz.prog 3 #[.agg #[.slice a n c, .slice b k d], .agg #[.slice a' n' c', .slice b' k' d']] w fun e w' => e = .returned (.bool true) ∧ Below w.heap.size w w' := by
  have hb0 := ((Below.refl w.heap.size w).alloc (Nat.le_refl _) (.cells #[.slice a n c, .slice b k d] 25)).alloc (by simp) (.cells #[.slice a' n' c', .slice b' k' d'] 28)
  have h1 := (Whole.new w 25 #[.slice a n c, .slice b k d]).alloc (.cells #[.slice a' n' c', .slice b' k' d'] 28)
  have h2 := Whole.new (w.alloc (.cells #[.slice a n c, .slice b k d] 25)) 28 #[.slice a' n' c', .slice b' k' d']
  simp only [World.size_alloc] at h2
  obtain ⟨w0, HW0⟩ : ∃ z, Hid ((w.alloc (.cells #[.slice a n c, .slice b k d] 25)).alloc (.cells #[.slice a' n' c', .slice b' k' d'] 28) = z) := ⟨_, Lib.hid rfl⟩
  rw [HW0.out] at hb0 h1 h2
  have H1 := Lib.hid h1
  have H2 := Lib.hid h2
  have HB0 := Lib.hid hb0
  have HF1 := Lib.hid (Few_any 3000 (by decide) (A.below hb0))
  obtain ⟨w1, HW1⟩ : ∃ z, Hid (w0.alloc (.cells #[.slice a n c, .slice b k d] 25) = z) := ⟨_, Lib.hid rfl⟩
  have hb01 := (Below.refl w0.heap.size w0).alloc (Nat.le_refl _) (.cells #[.slice a n c, .slice b k d] 25)
  rw [HW1.out] at hb01 HF1
  have HB01 := Lib.hid hb01
  have HB1 := Lib.hid (hb0.trans (hb01.mono hb0.size))
  have HF2 := Lib.hid (SFew_any 3000 (by decide) (S.below HB1.out))
  have q0 : w0.cell? ⟨w.heap.size, 0, none⟩ = some (.slice a n c) := h1.cell 0
  have q1 : w0.cell? ⟨w.heap.size, 1, none⟩ = some (.slice b k d) := h1.cell 1
  have hx1 := h2.below hb01 h2.lt
  have r0 : w1.cell? ⟨w.heap.size + 1, 0, none⟩ = some (.slice a' n' c') := hx1.cell 0
  have r1 : w1.cell? ⟨w.heap.size + 1, 1, none⟩ = some (.slice b' k' d') := hx1.cell 1
  have HA := Lib.hid A
  have HS := Lib.hid S
  have HE := Lib.hid E
  have HT := Lib.hid T
  clear hb0 h1 h2 hb01 hx1 A S E T
  cases hf : fewB m 3000
  · rw [hf] at HF1
    go_enter Tryz.func3, Tryz.ntmps3
    go_wp2_with fail
    rw [HW0.out]
    refine HF1.out.mono ?_
    rintro e w' ⟨rfl, rfl⟩
    go_wp2_with fail
    refine (awakeS_any (HE.out.below HB1.out) (HT.out.below HB1.out)).mono ?_
    rintro e w2 ⟨rfl, hb2⟩
    have HB2 := Lib.hid (HB1.out.trans (hb2.mono HB1.out.size))
    clear hb2
    go_wp2
    go_ret
    exact ⟨rfl, HB2.out⟩
  · rw [hf] at HF1
    have HQm : Hid (m.acts.length + m.states.length + total m.states ≤ 1000000) := Lib.hid (by have := (fewB_iff m 3000).1 hf; omega)
    clear hf
    cases hf : fewS s 3000
    · rw [hf] at HF2
      go_enter Tryz.func3, Tryz.ntmps3
      go_wp2_with fail
      rw [HW0.out]
      refine HF1.out.mono ?_
      rintro e w' ⟨rfl, rfl⟩
      go_wp2_with fail
      refine HF2.out.mono ?_
      rintro e w2 ⟨rfl, hb2⟩
      have HB2 := Lib.hid (HB1.out.trans (hb2.mono HB1.out.size))
      clear hb2
      go_wp2_with fail
      refine (awakeS_any (HE.out.below HB2.out) (HT.out.below HB2.out)).mono ?_
      rintro e w3 ⟨rfl, hb3⟩
      have HB3 := Lib.hid (HB2.out.trans (hb3.mono HB2.out.size))
      clear hb3
      go_wp2
      go_ret
      exact ⟨rfl, HB3.out⟩
    · rw [hf] at HF2
      have HQs : Hid (s.acts.length + s.states.length + totalS s.states ≤ 1000000) := Lib.hid (by have := (fewS_iff s 3000).1 hf; omega)
      clear hf
      obtain ⟨cb, HCb⟩ : ∃ z, Hid (bothC m s = z) := ⟨_, Lib.hid rfl⟩
      go_enter Tryz.func3, Tryz.ntmps3
      go_wp2_with fail
      rw [HW0.out]
      refine HF1.out.mono ?_
      rintro e w' ⟨rfl, rfl⟩
      go_wp2_with fail
      refine HF2.out.mono ?_
      rintro e w2 ⟨rfl, hb2⟩
      have hb02 := HB01.out.trans (hb2.mono HB01.out.size)
      have HB02 := Lib.hid hb02
      have hx1 := H1.out.below hb02 H1.out.lt
      have hx2 := H2.out.below hb02 H2.out.lt
      have p0 : w2.cell? ⟨w.heap.size, 0, none⟩ = some (.slice a n c) := hx1.cell 0
      have p1 : w2.cell? ⟨w.heap.size, 1, none⟩ = some (.slice b k d) := hx1.cell 1
      have p2 : w2.cell? ⟨w.heap.size + 1, 0, none⟩ = some (.slice a' n' c') := hx2.cell 0
      have p3 : w2.cell? ⟨w.heap.size + 1, 1, none⟩ = some (.slice b' k' d') := hx2.cell 1
      have HB2 := Lib.hid (HB0.out.trans (hb02.mono HB0.out.size))
      have hbo := both_any (HA.out.below HB2.out) (HS.out.below HB2.out) (by have := HQm.out; omega)
      rw [HCb.out] at hbo
      have HBo := Lib.hid hbo
      clear hb2 hb02 hx1 hx2 hbo q0 q1 r0 r1
      go_wp2_with fail
      refine HBo.out.mono ?_
      rintro e w3 ⟨rfl, hb3⟩
      have hb03 := HB02.out.trans (hb3.mono HB02.out.size)
      have HB03 := Lib.hid hb03
      have HB3 := Lib.hid (HB0.out.trans (hb03.mono HB0.out.size))
      clear hb3 hb03 p0 p1 p2 p3
      by_cases hc : cb = 0
      · subst hc
        obtain ⟨hm, hs, ha⟩ := bothC_zero HCb.out
        have HM := Lib.hid hm
        have HSp := Lib.hid hs
        have HAc := Lib.hid ha
        have HR := Lib.hid (Reach_any (HA.out.below HB3.out) (HS.out.below HB3.out) hm hs ha)
        have hx1 := H1.out.below HB03.out H1.out.lt
        have hx2 := H2.out.below HB03.out H2.out.lt
        have p0 : w3.cell? ⟨w.heap.size, 0, none⟩ = some (.slice a n c) := hx1.cell 0
        have p1 : w3.cell? ⟨w.heap.size, 1, none⟩ = some (.slice b k d) := hx1.cell 1
        have p2 : w3.cell? ⟨w.heap.size + 1, 0, none⟩ = some (.slice a' n' c') := hx2.cell 0
        have p3 : w3.cell? ⟨w.heap.size + 1, 1, none⟩ = some (.slice b' k' d') := hx2.cell 1
        clear hm hs ha hx1 hx2
        go_wp2_with fail
        refine HR.out.mono ?_
        rintro e w4 ⟨hb4, ⟨L, v, hy, rfl, hv⟩ | ⟨i, dp, hFt, hil, hno, hln, rfl⟩⟩
        · obtain ⟨va, vc, rfl⟩ := own_slice' hv
          have HY := Lib.hid hy
          have HV := Lib.hid hv
          have HB4 := Lib.hid hb4
          clear hb4 hy hv p0 p1 p2 p3 HR
          have h05 := HB03.out.trans (HB4.out.mono HB03.out.size)
          have HB5 := Lib.hid (HB0.out.trans (h05.mono HB0.out.size))
          have HX1 := Lib.hid (H1.out.below h05 H1.out.lt)
          have HX2 := Lib.hid (H2.out.below h05 H2.out.lt)
          have HAm := Lib.hid (HA.out.below HB5.out)
          have HS5 := Lib.hid (HS.out.below HB5.out)
          obtain ⟨e0, e1, e2, hErr⟩ := (HE.out.below HB5.out).errs
          have HErr := Lib.hid hErr
          have k0 : w4.cell? ⟨w.heap.size, 0, none⟩ = some (.slice a n c) ∧ w4.cell? ⟨w.heap.size, 1, none⟩ = some (.slice b k d) ∧ w4.cell? ⟨w.heap.size + 1, 0, none⟩ = some (.slice a' n' c') ∧ w4.cell? ⟨w.heap.size + 1, 1, none⟩ = some (.slice b' k' d') := ⟨HX1.out.cell 0, HX1.out.cell 1, HX2.out.cell 0, HX2.out.cell 1⟩
          have kD := ms_dr k0
          clear h05 hErr
          go_wp2_with fail
          go_cut [9, 10] (fun s9 s10 wx => ∃ g h pa pn pc wa wn wc x code, s9 = .pointer (some ⟨g, 0, none⟩) ∧ s10 = .int .i64 code ∧ Below w4.heap.size w4 wx ∧ w4.heap.size ≤ g ∧ Whole wx g 39 #[.bool h, .slice pa pn pc, .slice wa wn wc, .int .i64 x] ∧ SatOut m s wx w4.heap.size h (.slice pa pn pc) (.slice wa wn wc) x code)
          case first =>
            go_region_held3 (fun w' => w'.cell? ⟨w.heap.size, 0, none⟩ = some (.slice a n c) ∧ w'.cell? ⟨w.heap.size, 1, none⟩ = some (.slice b k d) ∧ w'.cell? ⟨w.heap.size + 1, 0, none⟩ = some (.slice a' n' c') ∧ w'.cell? ⟨w.heap.size + 1, 1, none⟩ = some (.slice b' k' d'))
              ((with_reducible (first | assumption | exact ms_new kK _ | exact ms_far kK n7 _ _ _ _ | exact ms_far kK n6 _ _ _ _ | exact ms_far kK n5 _ _ _ _ | exact ms_new kJ _ | exact ms_new kI _ | exact ms_new k0 _ | exact kD | exact ms_dr (ms_new k0 _))))
              (first
                | (go_at_call 12; first
                    | (refine Calls.mono (CopyA_any (w := w4.drew) (HAm.out.below (Below.refl _ _).drew) HQm.out) ?_; rintro e w6 ⟨a6, c6, b6, d6, rfl, hA6, hb6⟩; have kI := ms_up hb6 kD; have hb56 : Below w4.heap.size w4 w6 := (Below.refl _ w4).drew.trans hb6; have n6 := ms_ne kI)
                    | (refine Calls.mono (CopyA_any (w := (w4.alloc _).drew) (HAm.out.below ((Below.refl _ w4).alloc (Nat.le_refl _) _).drew) HQm.out) ?_; rintro e w6 ⟨a6, c6, b6, d6, rfl, hA6, hb6⟩; have kI := ms_up hb6 (ms_dr (ms_new k0 _)); have hb56 : Below w4.heap.size w4 w6 := ((Below.refl _ w4).alloc (Nat.le_refl _) _).drew.trans (hb6.mono (by simp)); have B6 : Whole w6 w4.heap.size 39 #[.bool false, .slice none 0 0, .slice none 0 0, .int .i64 0] := up_whole hb6 (whole_dr (Whole.new w4 _ _)); have n5 := ms_ne k0))
                | (go_at_call 13; have hc := fun (W : World) (hb : Below w6.heap.size w6 W) => SCopyA_any (HS5.out.below (below_two hb56 hb)) HQs.out; first
                    | (refine Calls.mono (hc w6 (Below.refl _ _)) ?_; clear hc; rintro e w7 ⟨a7, c7, b7, d7, rfl, hA7, hb7⟩; have kJ := ms_up hb7 kI; have hb57 := below_two hb56 hb7; have n7 := ms_ne kJ; have hA67 := hA6.below hb7; first | (have B2 : Whole w6 w4.heap.size 39 #[.bool false, .slice none 0 0, .slice none 0 0, .int .i64 0] := (by assumption); have B7 := up_whole hb7 B2; clear B2; have hg := Nat.le_refl w4.heap.size) | skip)
                    | (refine Calls.mono (hc (w6.alloc _) ((Below.refl _ _).alloc (Nat.le_refl _) _)) ?_; clear hc; rintro e w7 ⟨a7, c7, b7, d7, rfl, hA7, hb7⟩; have kJ := ms_up hb7 (ms_new kI _); have hb67 := below_two ((Below.refl _ w6).alloc (Nat.le_refl _) _) hb7; have hb57 := below_two hb56 hb67; have hA67 := hA6.below hb67; have B7 : Whole w7 w6.heap.size 39 #[.bool false, .slice none 0 0, .slice none 0 0, .int .i64 0] := up_whole hb7 (Whole.new w6 _ _); have hg := hb56.size))
                | (go_at_call 11; have hc := fun (W : World) (hb : Below w7.heap.size w7 W) => Satisfies_any (HErr.out.below (below_two hb57 hb)) (hA67.below hb) (hA7.below hb); first
                    | (refine Calls.mono (hc w7 (Below.refl _ _)) ?_; clear hc; rintro e w8 ⟨h8, pa, pn, pc, wa, wn, wc, x8, code, rfl, hO, hb8⟩; have kK := ms_up hb8 kJ; have hb58 := below_two hb57 hb8; have hO5 := hO.low hb57.size; first | (have B2 : Whole w7 w4.heap.size 39 #[.bool false, .slice none 0 0, .slice none 0 0, .int .i64 0] := (by assumption); obtain ⟨B1, ⟨C0, C1, C2, C3⟩, F0, F1, F2, F3⟩ := pack_v (up_whole hb8 B2); clear B2) | (have B2 : Whole w7 w6.heap.size 39 #[.bool false, .slice none 0 0, .slice none 0 0, .int .i64 0] := (by assumption); obtain ⟨B1, ⟨C0, C1, C2, C3⟩, F0, F1, F2, F3⟩ := pack_v (up_whole hb8 B2); clear B2) | skip)
                    | (refine Calls.mono (hc (w7.alloc _) ((Below.refl _ _).alloc (Nat.le_refl _) _)) ?_; clear hc; rintro e w8 ⟨h8, pa, pn, pc, wa, wn, wc, x8, code, rfl, hO, hb8⟩; have kK := ms_up hb8 (ms_new kJ _); have hb78 := below_two ((Below.refl _ w7).alloc (Nat.le_refl _) _) hb8; have hb58 := below_two hb57 hb78; have hO5 := hO.low (Nat.le_trans hb57.size (by simp)); have hg := hb57.size; obtain ⟨B1, ⟨C0, C1, C2, C3⟩, F0, F1, F2, F3⟩ := pack_v (up_whole hb8 (Whole.new w7 _ _)))))
            all_goals
              go_wp2_with fail
              go_meet
              first
                | exact ⟨_, _, _, _, _, _, _, _, _, _, rfl, rfl, hb58.alloc hb58.size _, hb58.size, Whole.new _ _ _, hO5.up ((Below.refl _ _).alloc (Nat.le_refl _) _)⟩
                | exact ⟨_, _, _, _, _, _, _, _, _, _, rfl, rfl, (((hb58.setCell hg _).setCell hg _).setCell hg _).setCell hg _, hg, (((B1.set 0 _).set 1 _).set 2 _).set 3 _, hO5.put4 B1 _ _ _ _⟩
          case rest =>
            obtain ⟨g, h, pa, pn, pc, wa, wn, wc, x, code, rfl, rfl, hbc, hg, hWc, hO⟩ := hcut
            have HBc := Lib.hid (HB5.out.trans (hbc.mono HB5.out.size))
            have HB5c := Lib.hid hbc
            have HWc := Lib.hid hWc
            have HXm := Lib.hid (HX1.out.below hbc HX1.out.lt)
            have HXs := Lib.hid (HX2.out.below hbc HX2.out.lt)
            have HO := Lib.hid hO
            clear hbc hg hWc hO k0 kD HErr HX1 HX2
            obtain ⟨hcode, ⟨h0, _⟩ | ⟨_, L2, hy2, rfl, hp2, e4, rfl⟩ | ⟨_, wd, y, hn2, _⟩⟩ := HO.out
            · exact absurd HCb.out h0
            · cases e4
              obtain rfl : L = L2 := satYes_once HY.out hy2
              obtain rfl : code = 0 := hcode.trans HCb.out
              have HP2 := Lib.hid hp2
              have hv5 := own_up' HV.out HB5c.out
              have hl := satYes_len HM.out HSp.out HY.out
              have HSm := Lib.hid (SamePairs_any hp2 hv5 hl)
              have f0 := HWc.out.cell 0
              have f1 := HWc.out.cell 1
              have f2 := HWc.out.cell 2
              have f3 := HWc.out.cell 3
              simp only [List.getElem?_toArray, List.getElem?_cons_succ, List.getElem?_cons_zero] at f0 f1 f2 f3
              clear hcode hy2 hp2 hv5 hl
              go_wp2_with fail
              refine HSm.out.mono ?_
              rintro e w6 ⟨rfl, hb6⟩
              have g2 := up_cell hb6 f2
              have g3 := up_cell hb6 f3
              have HB6 := Lib.hid (HBc.out.trans (hb6.mono HBc.out.size))
              clear hb6 f0 f1 f2 f3
              go_wp2_with fail
              refine (awakeS_any (HE.out.below HB6.out) (HT.out.below HB6.out)).mono ?_
              rintro e w7 ⟨rfl, hb7⟩
              have HB7 := Lib.hid (HB6.out.trans (hb7.mono HB6.out.size))
              clear hb7
              go_wp2
              go_ret
              exact ⟨rfl, HB7.out⟩
            · exact (satYes_no HY.out hn2).elim
        · have HFt := Lib.hid hFt
          have HIl := Lib.hid hil
          have HNo := Lib.hid hno
          have HLn := Lib.hid hln
          have HB4 := Lib.hid hb4
          clear hb4 hFt hil hno hln p0 p1 p2 p3 HR
          have h05 := HB03.out.trans (HB4.out.mono HB03.out.size)
          have HB5 := Lib.hid (HB0.out.trans (h05.mono HB0.out.size))
          have HX1 := Lib.hid (H1.out.below h05 H1.out.lt)
          have HX2 := Lib.hid (H2.out.below h05 H2.out.lt)
          have HAm := Lib.hid (HA.out.below HB5.out)
          have HS5 := Lib.hid (HS.out.below HB5.out)
          obtain ⟨e0, e1, e2, hErr⟩ := (HE.out.below HB5.out).errs
          have HErr := Lib.hid hErr
          have k0 : w4.cell? ⟨w.heap.size, 0, none⟩ = some (.slice a n c) ∧ w4.cell? ⟨w.heap.size, 1, none⟩ = some (.slice b k d) ∧ w4.cell? ⟨w.heap.size + 1, 0, none⟩ = some (.slice a' n' c') ∧ w4.cell? ⟨w.heap.size + 1, 1, none⟩ = some (.slice b' k' d') := ⟨HX1.out.cell 0, HX1.out.cell 1, HX2.out.cell 0, HX2.out.cell 1⟩
          have kD := ms_dr k0
          clear h05 hErr
          go_wp2_with fail
          go_cut [9, 10] (fun s9 s10 wx => ∃ g h pa pn pc wa wn wc x code, s9 = .pointer (some ⟨g, 0, none⟩) ∧ s10 = .int .i64 code ∧ Below w4.heap.size w4 wx ∧ w4.heap.size ≤ g ∧ Whole wx g 39 #[.bool h, .slice pa pn pc, .slice wa wn wc, .int .i64 x] ∧ SatOut m s wx w4.heap.size h (.slice pa pn pc) (.slice wa wn wc) x code)
          case first =>
            go_region_held3 (fun w' => w'.cell? ⟨w.heap.size, 0, none⟩ = some (.slice a n c) ∧ w'.cell? ⟨w.heap.size, 1, none⟩ = some (.slice b k d) ∧ w'.cell? ⟨w.heap.size + 1, 0, none⟩ = some (.slice a' n' c') ∧ w'.cell? ⟨w.heap.size + 1, 1, none⟩ = some (.slice b' k' d'))
              ((with_reducible (first | assumption | exact ms_new kK _ | exact ms_far kK n7 _ _ _ _ | exact ms_far kK n6 _ _ _ _ | exact ms_far kK n5 _ _ _ _ | exact ms_new kJ _ | exact ms_new kI _ | exact ms_new k0 _ | exact kD | exact ms_dr (ms_new k0 _))))
              (first
                | (go_at_call 12; first
                    | (refine Calls.mono (CopyA_any (w := w4.drew) (HAm.out.below (Below.refl _ _).drew) HQm.out) ?_; rintro e w6 ⟨a6, c6, b6, d6, rfl, hA6, hb6⟩; have kI := ms_up hb6 kD; have hb56 : Below w4.heap.size w4 w6 := (Below.refl _ w4).drew.trans hb6; have n6 := ms_ne kI)
                    | (refine Calls.mono (CopyA_any (w := (w4.alloc _).drew) (HAm.out.below ((Below.refl _ w4).alloc (Nat.le_refl _) _).drew) HQm.out) ?_; rintro e w6 ⟨a6, c6, b6, d6, rfl, hA6, hb6⟩; have kI := ms_up hb6 (ms_dr (ms_new k0 _)); have hb56 : Below w4.heap.size w4 w6 := ((Below.refl _ w4).alloc (Nat.le_refl _) _).drew.trans (hb6.mono (by simp)); have B6 : Whole w6 w4.heap.size 39 #[.bool false, .slice none 0 0, .slice none 0 0, .int .i64 0] := up_whole hb6 (whole_dr (Whole.new w4 _ _)); have n5 := ms_ne k0))
                | (go_at_call 13; have hc := fun (W : World) (hb : Below w6.heap.size w6 W) => SCopyA_any (HS5.out.below (below_two hb56 hb)) HQs.out; first
                    | (refine Calls.mono (hc w6 (Below.refl _ _)) ?_; clear hc; rintro e w7 ⟨a7, c7, b7, d7, rfl, hA7, hb7⟩; have kJ := ms_up hb7 kI; have hb57 := below_two hb56 hb7; have n7 := ms_ne kJ; have hA67 := hA6.below hb7; first | (have B2 : Whole w6 w4.heap.size 39 #[.bool false, .slice none 0 0, .slice none 0 0, .int .i64 0] := (by assumption); have B7 := up_whole hb7 B2; clear B2; have hg := Nat.le_refl w4.heap.size) | skip)
                    | (refine Calls.mono (hc (w6.alloc _) ((Below.refl _ _).alloc (Nat.le_refl _) _)) ?_; clear hc; rintro e w7 ⟨a7, c7, b7, d7, rfl, hA7, hb7⟩; have kJ := ms_up hb7 (ms_new kI _); have hb67 := below_two ((Below.refl _ w6).alloc (Nat.le_refl _) _) hb7; have hb57 := below_two hb56 hb67; have hA67 := hA6.below hb67; have B7 : Whole w7 w6.heap.size 39 #[.bool false, .slice none 0 0, .slice none 0 0, .int .i64 0] := up_whole hb7 (Whole.new w6 _ _); have hg := hb56.size))
                | (go_at_call 11; have hc := fun (W : World) (hb : Below w7.heap.size w7 W) => Satisfies_any (HErr.out.below (below_two hb57 hb)) (hA67.below hb) (hA7.below hb); first
                    | (refine Calls.mono (hc w7 (Below.refl _ _)) ?_; clear hc; rintro e w8 ⟨h8, pa, pn, pc, wa, wn, wc, x8, code, rfl, hO, hb8⟩; have kK := ms_up hb8 kJ; have hb58 := below_two hb57 hb8; have hO5 := hO.low hb57.size; first | (have B2 : Whole w7 w4.heap.size 39 #[.bool false, .slice none 0 0, .slice none 0 0, .int .i64 0] := (by assumption); obtain ⟨B1, ⟨C0, C1, C2, C3⟩, F0, F1, F2, F3⟩ := pack_v (up_whole hb8 B2); clear B2) | (have B2 : Whole w7 w6.heap.size 39 #[.bool false, .slice none 0 0, .slice none 0 0, .int .i64 0] := (by assumption); obtain ⟨B1, ⟨C0, C1, C2, C3⟩, F0, F1, F2, F3⟩ := pack_v (up_whole hb8 B2); clear B2) | skip)
                    | (refine Calls.mono (hc (w7.alloc _) ((Below.refl _ _).alloc (Nat.le_refl _) _)) ?_; clear hc; rintro e w8 ⟨h8, pa, pn, pc, wa, wn, wc, x8, code, rfl, hO, hb8⟩; have kK := ms_up hb8 (ms_new kJ _); have hb78 := below_two ((Below.refl _ w7).alloc (Nat.le_refl _) _) hb8; have hb58 := below_two hb57 hb78; have hO5 := hO.low (Nat.le_trans hb57.size (by simp)); have hg := hb57.size; obtain ⟨B1, ⟨C0, C1, C2, C3⟩, F0, F1, F2, F3⟩ := pack_v (up_whole hb8 (Whole.new w7 _ _)))))
            all_goals
              go_wp2_with fail
              go_meet
              first
                | exact ⟨_, _, _, _, _, _, _, _, _, _, rfl, rfl, hb58.alloc hb58.size _, hb58.size, Whole.new _ _ _, hO5.up ((Below.refl _ _).alloc (Nat.le_refl _) _)⟩
                | exact ⟨_, _, _, _, _, _, _, _, _, _, rfl, rfl, (((hb58.setCell hg _).setCell hg _).setCell hg _).setCell hg _, hg, (((B1.set 0 _).set 1 _).set 2 _).set 3 _, hO5.put4 B1 _ _ _ _⟩
          case rest =>
            obtain ⟨g, h, pa, pn, pc, wa, wn, wc, x, code, rfl, rfl, hbc, hg, hWc, hO⟩ := hcut
            have HBc := Lib.hid (HB5.out.trans (hbc.mono HB5.out.size))
            have HB5c := Lib.hid hbc
            have HWc := Lib.hid hWc
            have HXm := Lib.hid (HX1.out.below hbc HX1.out.lt)
            have HXs := Lib.hid (HX2.out.below hbc HX2.out.lt)
            have HO := Lib.hid hO
            clear hbc hg hWc hO k0 kD HErr HX1 HX2
            obtain ⟨hcode, ⟨h0, _⟩ | ⟨_, L2, hy2, _⟩ | ⟨_, wd, y, hn2, rfl, e4, hw2, rfl⟩⟩ := HO.out
            · exact absurd HCb.out h0
            · exact (satNo_len' hy2 HFt.out HIl.out HNo.out).elim
            · cases e4
              obtain rfl : code = 0 := hcode.trans HCb.out
              have hlen := satNo_len hn2 HFt.out HNo.out HLn.out
              have hbig := satNo_big HM.out HSp.out hn2
              obtain ⟨xa, xc, e5, hI⟩ := numO_arg hw2 (by omega)
              cases e5
              have hIF := IsFault_any ((HAm.out.below HB5c.out)) ((HS5.out.below HB5c.out)) HM.out HSp.out HAc.out hI (y : Int)
              rw [satNo_fault HM.out HSp.out hn2] at hIF
              have HIF := Lib.hid hIF
              obtain ⟨wl, HWl⟩ : ∃ z, Hid (wd.length = z) := ⟨_, Lib.hid rfl⟩
              rw [HWl.out] at HIF hlen HWc hbig
              obtain rfl : wl = dp := hlen
              have f0 := HWc.out.cell 0
              have f1 := HWc.out.cell 1
              have f2 := HWc.out.cell 2
              have f3 := HWc.out.cell 3
              have u0 := HXm.out.cell 0
              have u1 := HXm.out.cell 1
              have u2 := HXs.out.cell 0
              have u3 := HXs.out.cell 1
              simp only [List.getElem?_toArray, List.getElem?_cons_succ, List.getElem?_cons_zero] at f0 f1 f2 f3 u0 u1 u2 u3
              clear hcode hn2 hw2 hI hIF
              go_wp2_with fail
              refine HIF.out.mono ?_
              rintro e w6 ⟨rfl, hb6⟩
              have HB6 := Lib.hid (HBc.out.trans (hb6.mono HBc.out.size))
              clear hb6 f0 f1 f2 f3 u0 u1 u2 u3
              go_wp2_with fail
              refine (awakeS_any (HE.out.below HB6.out) (HT.out.below HB6.out)).mono ?_
              rintro e w7 ⟨rfl, hb7⟩
              have HB7 := Lib.hid (HB6.out.trans (hb7.mono HB6.out.size))
              clear hb7
              go_wp2
              go_ret
              exact ⟨rfl, HB7.out⟩
      · have hcb : (cb != 0) = true := by simpa using hc
        have h05 := HB03.out
        have HB5 := Lib.hid (HB0.out.trans (h05.mono HB0.out.size))
        have HX1 := Lib.hid (H1.out.below h05 H1.out.lt)
        have HX2 := Lib.hid (H2.out.below h05 H2.out.lt)
        have HAm := Lib.hid (HA.out.below HB5.out)
        have HS5 := Lib.hid (HS.out.below HB5.out)
        obtain ⟨e0, e1, e2, hErr⟩ := (HE.out.below HB5.out).errs
        have HErr := Lib.hid hErr
        have k0 : w3.cell? ⟨w.heap.size, 0, none⟩ = some (.slice a n c) ∧ w3.cell? ⟨w.heap.size, 1, none⟩ = some (.slice b k d) ∧ w3.cell? ⟨w.heap.size + 1, 0, none⟩ = some (.slice a' n' c') ∧ w3.cell? ⟨w.heap.size + 1, 1, none⟩ = some (.slice b' k' d') := ⟨HX1.out.cell 0, HX1.out.cell 1, HX2.out.cell 0, HX2.out.cell 1⟩
        have kD := ms_dr k0
        clear h05 hErr
        go_wp2_with fail
        go_cut [9, 10] (fun s9 s10 wx => ∃ g h pa pn pc wa wn wc x code, s9 = .pointer (some ⟨g, 0, none⟩) ∧ s10 = .int .i64 code ∧ Below w3.heap.size w3 wx ∧ w3.heap.size ≤ g ∧ Whole wx g 39 #[.bool h, .slice pa pn pc, .slice wa wn wc, .int .i64 x] ∧ SatOut m s wx w3.heap.size h (.slice pa pn pc) (.slice wa wn wc) x code)
        case first =>
          go_region_held3 (fun w' => w'.cell? ⟨w.heap.size, 0, none⟩ = some (.slice a n c) ∧ w'.cell? ⟨w.heap.size, 1, none⟩ = some (.slice b k d) ∧ w'.cell? ⟨w.heap.size + 1, 0, none⟩ = some (.slice a' n' c') ∧ w'.cell? ⟨w.heap.size + 1, 1, none⟩ = some (.slice b' k' d'))
            ((with_reducible (first | assumption | exact ms_new kK _ | exact ms_far kK n7 _ _ _ _ | exact ms_far kK n6 _ _ _ _ | exact ms_far kK n5 _ _ _ _ | exact ms_new kJ _ | exact ms_new kI _ | exact ms_new k0 _ | exact kD | exact ms_dr (ms_new k0 _))))
            (first
              | (go_at_call 12; first
                  | (refine Calls.mono (CopyA_any (w := w3.drew) (HAm.out.below (Below.refl _ _).drew) HQm.out) ?_; rintro e w6 ⟨a6, c6, b6, d6, rfl, hA6, hb6⟩; have kI := ms_up hb6 kD; have hb56 : Below w3.heap.size w3 w6 := (Below.refl _ w3).drew.trans hb6; have n6 := ms_ne kI)
                  | (refine Calls.mono (CopyA_any (w := (w3.alloc _).drew) (HAm.out.below ((Below.refl _ w3).alloc (Nat.le_refl _) _).drew) HQm.out) ?_; rintro e w6 ⟨a6, c6, b6, d6, rfl, hA6, hb6⟩; have kI := ms_up hb6 (ms_dr (ms_new k0 _)); have hb56 : Below w3.heap.size w3 w6 := ((Below.refl _ w3).alloc (Nat.le_refl _) _).drew.trans (hb6.mono (by simp)); have B6 : Whole w6 w3.heap.size 39 #[.bool false, .slice none 0 0, .slice none 0 0, .int .i64 0] := up_whole hb6 (whole_dr (Whole.new w3 _ _)); have n5 := ms_ne k0))
              | (go_at_call 13; have hc := fun (W : World) (hb : Below w6.heap.size w6 W) => SCopyA_any (HS5.out.below (below_two hb56 hb)) HQs.out; first
                  | (refine Calls.mono (hc w6 (Below.refl _ _)) ?_; clear hc; rintro e w7 ⟨a7, c7, b7, d7, rfl, hA7, hb7⟩; have kJ := ms_up hb7 kI; have hb57 := below_two hb56 hb7; have n7 := ms_ne kJ; have hA67 := hA6.below hb7; first | (have B2 : Whole w6 w3.heap.size 39 #[.bool false, .slice none 0 0, .slice none 0 0, .int .i64 0] := (by assumption); have B7 := up_whole hb7 B2; clear B2; have hg := Nat.le_refl w3.heap.size) | skip)
                  | (refine Calls.mono (hc (w6.alloc _) ((Below.refl _ _).alloc (Nat.le_refl _) _)) ?_; clear hc; rintro e w7 ⟨a7, c7, b7, d7, rfl, hA7, hb7⟩; have kJ := ms_up hb7 (ms_new kI _); have hb67 := below_two ((Below.refl _ w6).alloc (Nat.le_refl _) _) hb7; have hb57 := below_two hb56 hb67; have hA67 := hA6.below hb67; have B7 : Whole w7 w6.heap.size 39 #[.bool false, .slice none 0 0, .slice none 0 0, .int .i64 0] := up_whole hb7 (Whole.new w6 _ _); have hg := hb56.size))
              | (go_at_call 11; have hc := fun (W : World) (hb : Below w7.heap.size w7 W) => Satisfies_any (HErr.out.below (below_two hb57 hb)) (hA67.below hb) (hA7.below hb); first
                  | (refine Calls.mono (hc w7 (Below.refl _ _)) ?_; clear hc; rintro e w8 ⟨h8, pa, pn, pc, wa, wn, wc, x8, code, rfl, hO, hb8⟩; have kK := ms_up hb8 kJ; have hb58 := below_two hb57 hb8; have hO5 := hO.low hb57.size; first | (have B2 : Whole w7 w3.heap.size 39 #[.bool false, .slice none 0 0, .slice none 0 0, .int .i64 0] := (by assumption); obtain ⟨B1, ⟨C0, C1, C2, C3⟩, F0, F1, F2, F3⟩ := pack_v (up_whole hb8 B2); clear B2) | (have B2 : Whole w7 w6.heap.size 39 #[.bool false, .slice none 0 0, .slice none 0 0, .int .i64 0] := (by assumption); obtain ⟨B1, ⟨C0, C1, C2, C3⟩, F0, F1, F2, F3⟩ := pack_v (up_whole hb8 B2); clear B2) | skip)
                  | (refine Calls.mono (hc (w7.alloc _) ((Below.refl _ _).alloc (Nat.le_refl _) _)) ?_; clear hc; rintro e w8 ⟨h8, pa, pn, pc, wa, wn, wc, x8, code, rfl, hO, hb8⟩; have kK := ms_up hb8 (ms_new kJ _); have hb78 := below_two ((Below.refl _ w7).alloc (Nat.le_refl _) _) hb8; have hb58 := below_two hb57 hb78; have hO5 := hO.low (Nat.le_trans hb57.size (by simp)); have hg := hb57.size; obtain ⟨B1, ⟨C0, C1, C2, C3⟩, F0, F1, F2, F3⟩ := pack_v (up_whole hb8 (Whole.new w7 _ _)))))
          all_goals
            go_wp2_with fail
            go_meet
            first
              | exact ⟨_, _, _, _, _, _, _, _, _, _, rfl, rfl, hb58.alloc hb58.size _, hb58.size, Whole.new _ _ _, hO5.up ((Below.refl _ _).alloc (Nat.le_refl _) _)⟩
              | exact ⟨_, _, _, _, _, _, _, _, _, _, rfl, rfl, (((hb58.setCell hg _).setCell hg _).setCell hg _).setCell hg _, hg, (((B1.set 0 _).set 1 _).set 2 _).set 3 _, hO5.put4 B1 _ _ _ _⟩
        case rest =>
          obtain ⟨g, h, pa, pn, pc, wa, wn, wc, x, code, rfl, rfl, hbc, hg, hWc, hO⟩ := hcut
          have HBc := Lib.hid (HB5.out.trans (hbc.mono HB5.out.size))
          have HB5c := Lib.hid hbc
          have HWc := Lib.hid hWc
          have HXm := Lib.hid (HX1.out.below hbc HX1.out.lt)
          have HXs := Lib.hid (HX2.out.below hbc HX2.out.lt)
          have HO := Lib.hid hO
          clear hbc hg hWc hO k0 kD HErr HX1 HX2
          obtain ⟨hcode, ⟨_, rfl, e4, e5, rfl⟩ | ⟨h0, _⟩ | ⟨h0, _⟩⟩ := HO.out
          · cases e4
            cases e5
            obtain rfl : code = cb := hcode.trans HCb.out
            have f0 := HWc.out.cell 0
            have f1 := HWc.out.cell 1
            have f2 := HWc.out.cell 2
            have f3 := HWc.out.cell 3
            simp only [List.getElem?_toArray, List.getElem?_cons_succ, List.getElem?_cons_zero] at f0 f1 f2 f3
            clear hcode hc
            go_wp2_with fail
            refine (zero_any _).mono ?_
            rintro e w6 ⟨rfl, hb6⟩
            have HB6 := Lib.hid (HBc.out.trans (hb6.mono HBc.out.size))
            clear hb6 f0 f1 f2 f3
            go_wp2_with fail
            refine (awakeS_any (HE.out.below HB6.out) (HT.out.below HB6.out)).mono ?_
            rintro e w7 ⟨rfl, hb7⟩
            have HB7 := Lib.hid (HB6.out.trans (hb7.mono HB6.out.size))
            clear hb7
            go_wp2
            go_ret
            exact ⟨rfl, HB7.out⟩
          · exact absurd (HCb.out.symm.trans h0) hc
          · exact absurd (HCb.out.symm.trans h0) hc
end Go.Proofs.YtgpfpnenpgnogaaGreatDoor
