/- Texts joined: SysPairs. -/
import Derived.Test.YtgnbkepdbdgkdaaGreatDoorJq10
import Derived.Test.YtgnbkepdbdgkdaaGreatDoorJq30
import Derived.Test.YtgnbkepdbdgkdaaGreatDoorJq31
import Derived.Test.YtgnbkepdbdgkdaaGreatDoorJq32
import Derived.Test.YtgnbkepdbdgkdaaGreatDoorJq16
import Derived.Test.YtgnbkepdbdgkdaaGreatDoorJq29
import Derived.OpenShut
import Derived.Deep.DeepCutAuto
import Derived.Deep.RegionHeld3
/- SystemPairs: the states after a word in the product are the pairs of states after it in both. -/
namespace Go.Proofs.YtgnbkepdbdgkdaaGreatDoor
open Go.RowKit Pl

/-- both sets of states, and the answers of all three -/
theorem aft_same {m m' : Syst} (hm : sysB m = true) (hm' : sysB m' = true) (ha : m.acts = m'.acts) {i : Nat} (h : PrOk m m' i) (word : List Int) :
    aftC m' word = aftC m word ∧ aftC ⟨m.acts, prRows m m' i⟩ word = aftC m word := by
  have h3 := prod_valid hm hm' h
  unfold aftC
  rw [if_pos hm, if_pos hm', if_pos h3, ← ha]
  exact ⟨rfl, rfl⟩
theorem aft_in {m m' : Syst} (hm : sysB m = true) (hm' : sysB m' = true) (ha : m.acts = m'.acts) {i : Nat} (h : PrOk m m' i) {word : List Int} (hw : wordB m.acts.length word = true) :
    (aftL ⟨m.acts, prRows m m' i⟩ word).length = (aftL m word).length * (aftL m' word).length ∧ (aftL ⟨m.acts, prRows m m' i⟩ word).Pairwise (· < ·) ∧
      ∀ x ∈ aftL ⟨m.acts, prRows m m' i⟩ word, x < i ∧ ((prQ m m' i).getD x (0, 0)).1 ∈ aftL m word ∧ ((prQ m m' i).getD x (0, 0)).2 ∈ aftL m' word := by
  have h3 := prod_valid hm hm' h
  have e1 : aftL ⟨m.acts, prRows m m' i⟩ word = afterL (prRows m m' i) word := by unfold aftL; rw [if_pos ⟨h3, hw⟩]
  have e2 : aftL m word = afterL m.states word := by unfold aftL; rw [if_pos ⟨hm, hw⟩]
  have e3 : aftL m' word = afterL m'.states word := by unfold aftL; rw [if_pos ⟨hm', by rw [← ha]; exact hw⟩]
  rw [e1, e2, e3]
  refine ⟨after_count hm hm' h word, ?_, fun x hx => ((after_prod hm hm' h word).1 x).1 hx⟩
  have := (afterL_facts ((sysB_iff _).1 h3).2.1 word word.length (Nat.le_refl _)).2.2
  rwa [List.take_length] at this
theorem aftL_len {m : Syst} (word : List Int) : (aftL m word).length ≤ 5000 := by
  unfold aftL
  split
  · rename_i h
    exact afterL_len h.1 word
  · simp
theorem zs_mem {l : List Nat} {x : Nat} (h : x ∈ l) : ((x : Nat) : Int) ∈ zs l := List.mem_map.2 ⟨x, h, rfl⟩

/-! what the region of the calls keeps: four cells -/
section
variable {W : World} {p1 p2 p3 p4 : Addr} {v1 v2 v3 v4 : Value}
theorem far_two {w : World} {p : Addr} {g : Nat} {v : Value} (h : w.cell? p = some v) (hne : g ≠ p.block) (x y : Value) : ((w.setCell ⟨g, 0, none⟩ x).setCell ⟨g, 1, none⟩ y).cell? p = some v := by
  rw [World.cell?_setCell_far _ ⟨g, 1, none⟩ _ _ hne, World.cell?_setCell_far _ ⟨g, 0, none⟩ _ _ hne, h]
theorem ms_far2 (h : W.cell? p1 = some v1 ∧ W.cell? p2 = some v2 ∧ W.cell? p3 = some v3 ∧ W.cell? p4 = some v4) {g : Nat} (hg : g ≠ p1.block ∧ g ≠ p2.block ∧ g ≠ p3.block ∧ g ≠ p4.block) (x y : Value) :
    ((W.setCell ⟨g, 0, none⟩ x).setCell ⟨g, 1, none⟩ y).cell? p1 = some v1 ∧ ((W.setCell ⟨g, 0, none⟩ x).setCell ⟨g, 1, none⟩ y).cell? p2 = some v2 ∧ ((W.setCell ⟨g, 0, none⟩ x).setCell ⟨g, 1, none⟩ y).cell? p3 = some v3 ∧ ((W.setCell ⟨g, 0, none⟩ x).setCell ⟨g, 1, none⟩ y).cell? p4 = some v4 :=
  ⟨far_two h.1 hg.1 _ _, far_two h.2.1 hg.2.1 _ _, far_two h.2.2.1 hg.2.2.1 _ _, far_two h.2.2.2 hg.2.2.2 _ _⟩
theorem pack_two {w : World} {g : Nat} {t : TypeId} {x y : Value} (h : Whole w g t #[x, y]) : Whole w g t #[x, y] ∧ (w.cell? ⟨g, 0, none⟩ = some x ∧ w.cell? ⟨g, 1, none⟩ = some y) ∧ w.frozen? ⟨g, 0, none⟩ = false ∧ w.frozen? ⟨g, 1, none⟩ = false :=
  ⟨h, ⟨h.cell 0, h.cell 1⟩, h.frozen 0, h.frozen 1⟩
end

set_option maxRecDepth 100000 in
set_option maxHeartbeats 32000000 in
theorem SystemPairs_any {w : World} (E : Env w) {a : Option Addr} {n c : Nat} {b : Option Addr} {k d : Nat} {m : Syst} (A : SysArg w a n c b k d m) {a' : Option Addr} {n' c' : Nat} {b' : Option Addr} {k' d' : Nat} {m' : Syst} (A' : SysArg w a' n' c' b' k' d' m')
    {wa : Option Addr} {wn wc : Nat} {word : List Int} (L : IntArg w wa wn wc word) (hr : wn * 8 ≤ 140737488351232) (_hw : ∀ z ∈ word, (Lit.int .i64 z).wf = true) :
    Calls Tryz.prog 5 #[.agg #[.slice a n c, .slice b k d], .agg #[.slice a' n' c', .slice b' k' d'], .slice wa wn wc] w fun e w' => e = .returned (.bool true) ∧ Below w.heap.size w w' := by
  obtain ⟨iN, hiN, hN0, hN1, hN2⟩ := info_parts infoNum
  have hB := ((Below.refl w.heap.size w).alloc (Nat.le_refl _) (.cells #[.slice a n c, .slice b k d] 25)).alloc (by simp) (.cells #[.slice a' n' c', .slice b' k' d'] 25)
  have hX1 := (Whole.new w 25 #[.slice a n c, .slice b k d]).alloc (.cells #[.slice a' n' c', .slice b' k' d'] 25)
  have hX2 := Whole.new (w.alloc (.cells #[.slice a n c, .slice b k d] 25)) 25 #[.slice a' n' c', .slice b' k' d']
  simp only [World.size_alloc] at hX2
  obtain ⟨w0, HW0⟩ : ∃ z, Hid ((w.alloc (.cells #[.slice a n c, .slice b k d] 25)).alloc (.cells #[.slice a' n' c', .slice b' k' d'] 25) = z) := ⟨_, Lib.hid rfl⟩
  rw [HW0.out] at hB hX1 hX2
  have hF := Few_any 400 (by decide) (A.below hB)
  obtain ⟨w1, HW1⟩ : ∃ z, Hid (w0.alloc (.cells #[.slice a n c, .slice b k d] 25) = z) := ⟨_, Lib.hid rfl⟩
  rw [HW1.out] at hF
  have hb01 : Below w0.heap.size w0 w1 := by rw [← HW1.out]; exact (Below.refl _ w0).alloc (Nat.le_refl _) _
  have hB1 := hB.trans (hb01.mono hB.size)
  have hF' := Few_any 400 (by decide) (A'.below hB1)
  obtain ⟨w2, HW2⟩ : ∃ z, Hid (w1.alloc (.cells #[.slice a' n' c', .slice b' k' d'] 25) = z) := ⟨_, Lib.hid rfl⟩
  rw [HW2.out] at hF'
  have hb12 : Below w1.heap.size w1 w2 := by rw [← HW2.out]; exact (Below.refl _ w1).alloc (Nat.le_refl _) _
  have HB1 := Lib.hid hB1
  have HB2 := Lib.hid (hB1.trans (hb12.mono hB1.size))
  have HF := Lib.hid hF
  have HF' := Lib.hid hF'
  have HE1 := Lib.hid (E.below HB1.out)
  have HE2 := Lib.hid (E.below HB2.out)
  have HA := Lib.hid A
  have HA' := Lib.hid A'
  have HL := Lib.hid L
  have p0 := hX1.cell 0
  have p1 := hX1.cell 1
  simp only [List.getElem?_toArray, List.getElem?_cons_succ, List.getElem?_cons_zero] at p0 p1
  have hX21 := hX2.below hb01 hX2.lt
  have p2 := hX21.cell 0
  have p3 := hX21.cell 1
  simp only [List.getElem?_toArray, List.getElem?_cons_succ, List.getElem?_cons_zero] at p2 p3
  have HX1 := Lib.hid ((hX1.below hb01 hX1.lt).below hb12 (hX1.below hb01 hX1.lt).lt)
  have HX2 := Lib.hid (hX21.below hb12 hX21.lt)
  have hwn : wn ≤ 17592186044416 := by omega
  clear hB hX1 hX2 A A' L E hb01 hB1 hb12 hF hF' hX21
  cases hf : fewB m 400
  · rw [hf] at HF
    clear hf
    go_enter Tryz.func5, Tryz.ntmps5
    go_wp2_with fail
    rw [HW0.out]
    refine HF.out.mono ?_
    rintro e w' ⟨rfl, rfl⟩
    go_wp2_with fail
    refine (awake_any HE1.out).mono ?_
    rintro e w3 ⟨rfl, hb3⟩
    have HB3 := Lib.hid (HB1.out.trans (hb3.mono HB1.out.size))
    clear hb3
    go_wp2
    go_ret
    exact ⟨rfl, HB3.out⟩
  · rw [hf] at HF
    have HQ := Lib.hid ((fewB_iff m 400).1 hf)
    clear hf
    cases hf : fewB m' 400
    · rw [hf] at HF'
      clear hf
      go_enter Tryz.func5, Tryz.ntmps5
      go_wp2_with fail
      rw [HW0.out]
      refine HF.out.mono ?_
      rintro e w' ⟨rfl, rfl⟩
      go_wp2_with fail
      refine HF'.out.mono ?_
      rintro e w' ⟨rfl, rfl⟩
      go_wp2_with fail
      refine (awake_any HE2.out).mono ?_
      rintro e w3 ⟨rfl, hb3⟩
      have HB3 := Lib.hid (HB2.out.trans (hb3.mono HB2.out.size))
      clear hb3
      go_wp2
      go_ret
      exact ⟨rfl, HB3.out⟩
    · rw [hf] at HF'
      have HQ' := Lib.hid ((fewB_iff m' 400).1 hf)
      clear hf
      by_cases hlong : 50 < wn
      · go_enter Tryz.func5, Tryz.ntmps5
        go_wp2_with fail
        rw [HW0.out]
        refine HF.out.mono ?_
        rintro e w' ⟨rfl, rfl⟩
        go_wp2_with fail
        refine HF'.out.mono ?_
        rintro e w' ⟨rfl, rfl⟩
        go_wp2_with fail
        refine (awake_any HE2.out).mono ?_
        rintro e w3 ⟨rfl, hb3⟩
        have HB3 := Lib.hid (HB2.out.trans (hb3.mono HB2.out.size))
        clear hb3
        go_wp2
        go_ret
        exact ⟨rfl, HB3.out⟩
      · have hshort : wn ≤ 50 := by omega
        clear hlong
        have HQm : Hid (m.acts.length + m.states.length + total m.states ≤ 1000000) := Lib.hid (by have := HQ.out; omega)
        have HQn : Hid (m'.acts.length + m'.states.length + total m'.states ≤ 1000000) := Lib.hid (by have := HQ'.out; omega)
        have HAm := Lib.hid (HA.out.below HB2.out)
        have HAn := Lib.hid (HA'.out.below HB2.out)
        obtain ⟨e0, e1, e2, hErr⟩ := HE2.out.errs
        have HErr := Lib.hid hErr
        have k0 : w2.cell? ⟨w.heap.size, 0, none⟩ = some (.slice a n c) ∧ w2.cell? ⟨w.heap.size, 1, none⟩ = some (.slice b k d) ∧ w2.cell? ⟨w.heap.size + 1, 0, none⟩ = some (.slice a' n' c') ∧ w2.cell? ⟨w.heap.size + 1, 1, none⟩ = some (.slice b' k' d') := ⟨HX1.out.cell 0, HX1.out.cell 1, HX2.out.cell 0, HX2.out.cell 1⟩
        have kD := ms_dr k0
        clear hErr
        go_enter Tryz.func5, Tryz.ntmps5
        go_wp2_with fail
        rw [HW0.out]
        refine HF.out.mono ?_
        rintro e w' ⟨rfl, rfl⟩
        go_wp2_with fail
        refine HF'.out.mono ?_
        rintro e w' ⟨rfl, rfl⟩
        clear p0 p1 p2 p3
        go_upto_region 3 with (fail)
        go_cut [7, 8, 9] (fun s7 s8 s9 wx => ∃ g xa xn xc ya yn yc pa pn pc code, s7 = .pointer (some ⟨g, 0, none⟩) ∧ s8 = .slice pa pn pc ∧ s9 = .int .i64 code ∧ Below w2.heap.size w2 wx ∧ w2.heap.size ≤ g ∧ Whole wx g 25 #[.slice xa xn xc, .slice ya yn yc] ∧ PrOut m m' wx w2.heap.size (.slice xa xn xc) (.slice ya yn yc) (.slice pa pn pc) code)
        case first =>
          go_region_held3 (fun w' => w'.cell? ⟨w.heap.size, 0, none⟩ = some (.slice a n c) ∧ w'.cell? ⟨w.heap.size, 1, none⟩ = some (.slice b k d) ∧ w'.cell? ⟨w.heap.size + 1, 0, none⟩ = some (.slice a' n' c') ∧ w'.cell? ⟨w.heap.size + 1, 1, none⟩ = some (.slice b' k' d'))
            ((with_reducible (first | assumption | exact ms_new kK _ | exact ms_far2 kK n7 _ _ | exact ms_far2 kK n6 _ _ | exact ms_far2 kK n5 _ _ | exact ms_new kJ _ | exact ms_new kI _ | exact ms_new k0 _ | exact kD | exact ms_dr (ms_new k0 _))))
            (first
              | (go_at_call 17; have hc := fun (W : World) (hb : Below w7.heap.size w7 W) => Product_any (HErr.out.below (below_two hb57 hb)) (hA67.below hb) (hA7.below hb); first
                  | (refine Calls.mono (hc w7 (Below.refl _ _)) ?_; clear hc; rintro e w8 ⟨xa, xn, xc, ya, yn, yc, pa, pn, pc, code, rfl, hO, hb8⟩; have kK := ms_up hb8 kJ; have hb58 := below_two hb57 hb8; have hO5 := hO.low hb57.size; first | (have B2 : Whole w7 w2.heap.size 25 #[.slice none 0 0, .slice none 0 0] := (by assumption); obtain ⟨B1, ⟨C0, C1⟩, F0, F1⟩ := pack_two (up_whole hb8 B2); clear B2) | (have B2 : Whole w7 w6.heap.size 25 #[.slice none 0 0, .slice none 0 0] := (by assumption); obtain ⟨B1, ⟨C0, C1⟩, F0, F1⟩ := pack_two (up_whole hb8 B2); clear B2) | skip)
                  | (refine Calls.mono (hc (w7.alloc _) ((Below.refl _ _).alloc (Nat.le_refl _) _)) ?_; clear hc; rintro e w8 ⟨xa, xn, xc, ya, yn, yc, pa, pn, pc, code, rfl, hO, hb8⟩; have kK := ms_up hb8 (ms_new kJ _); have hb78 := below_two ((Below.refl _ w7).alloc (Nat.le_refl _) _) hb8; have hb58 := below_two hb57 hb78; have hO5 := hO.low (Nat.le_trans hb57.size (by simp)); have hg := hb57.size; obtain ⟨B1, ⟨C0, C1⟩, F0, F1⟩ := pack_two (up_whole hb8 (Whole.new w7 _ _))))
              | (go_at_call 12; have hc := fun (W : World) (hb : Below w6.heap.size w6 W) => CopyA_any (HAn.out.below (below_two hb56 hb)) HQn.out; first
                  | (refine Calls.mono (hc w6 (Below.refl _ _)) ?_; clear hc; rintro e w7 ⟨a7, c7, b7, d7, rfl, hA7, hb7⟩; have kJ := ms_up hb7 kI; have hb57 := below_two hb56 hb7; have n7 := ms_ne kJ; have hA67 := hA6.below hb7; first | (have B2 : Whole w6 w2.heap.size 25 #[.slice none 0 0, .slice none 0 0] := (by assumption); have B7 := up_whole hb7 B2; clear B2; have hg := Nat.le_refl w2.heap.size) | skip)
                  | (refine Calls.mono (hc (w6.alloc _) ((Below.refl _ _).alloc (Nat.le_refl _) _)) ?_; clear hc; rintro e w7 ⟨a7, c7, b7, d7, rfl, hA7, hb7⟩; have kJ := ms_up hb7 (ms_new kI _); have hb67 := below_two ((Below.refl _ w6).alloc (Nat.le_refl _) _) hb7; have hb57 := below_two hb56 hb67; have hA67 := hA6.below hb67; have B7 : Whole w7 w6.heap.size 25 #[.slice none 0 0, .slice none 0 0] := up_whole hb7 (Whole.new w6 _ _); have hg := hb56.size))
              | (go_at_call 12; first
                  | (refine Calls.mono (CopyA_any (w := w2.drew) (HAm.out.below (Below.refl _ _).drew) HQm.out) ?_; rintro e w6 ⟨a6, c6, b6, d6, rfl, hA6, hb6⟩; have kI := ms_up hb6 kD; have hb56 : Below w2.heap.size w2 w6 := (Below.refl _ w2).drew.trans hb6; have n6 := ms_ne kI)
                  | (refine Calls.mono (CopyA_any (w := (w2.alloc _).drew) (HAm.out.below ((Below.refl _ w2).alloc (Nat.le_refl _) _).drew) HQm.out) ?_; rintro e w6 ⟨a6, c6, b6, d6, rfl, hA6, hb6⟩; have kI := ms_up hb6 (ms_dr (ms_new k0 _)); have hb56 : Below w2.heap.size w2 w6 := ((Below.refl _ w2).alloc (Nat.le_refl _) _).drew.trans (hb6.mono (by simp)); have B6 : Whole w6 w2.heap.size 25 #[.slice none 0 0, .slice none 0 0] := up_whole hb6 (whole_dr (Whole.new w2 _ _)); have n5 := ms_ne k0)))
          all_goals
            go_wp2_with fail
            go_meet
            first
              | exact ⟨_, _, _, _, _, _, _, _, _, _, _, rfl, rfl, rfl, hb58.alloc hb58.size _, hb58.size, Whole.new _ _ _, hO5.up ((Below.refl _ _).alloc (Nat.le_refl _) _)⟩
              | exact ⟨_, _, _, _, _, _, _, _, _, _, _, rfl, rfl, rfl, (hb58.setCell hg _).setCell hg _, hg, (B1.set 0 _).set 1 _, hO5.put B1 _ _⟩
        case rest =>
          as_aux_lemma =>
          obtain ⟨w3, hwX⟩ : ∃ z, z = wc := ⟨_, rfl⟩
          subst hwX
          obtain ⟨g, xa, xn, xc, ya, yn, yc, pa, pn, pc, code, rfl, rfl, rfl, hbc, hg, hWc, hO⟩ := hcut
          have HB3 := Lib.hid (HB2.out.trans (hbc.mono HB2.out.size))
          have HE3 := Lib.hid (HE2.out.below hbc)
          have HX13 := Lib.hid (HX1.out.below hbc HX1.out.lt)
          have HX23 := Lib.hid (HX2.out.below hbc HX2.out.lt)
          have HG3 := Lib.hid hWc
          have HO := Lib.hid hO
          clear hbc hg hWc hO k0 kD
          by_cases hcode : code = 0
          · subst hcode
            rcases HO.out with ⟨h1, h2, _⟩ | ⟨_, h2, _⟩ | ⟨h1, _, i, hOk, hS, hPr⟩
            · exact absurd h2.symm h1
            · exact absurd h2 (by decide)
            · obtain ⟨hv, hv', hac⟩ := bothS_zero h1
              have HV := Lib.hid hv
              have HV' := Lib.hid hv'
              have HOk := Lib.hid hOk
              have hpv := prod_valid hv hv' hOk
              have hpv2 := (sysB_iff _).1 hpv
              have hi5 : i ≤ 5000 := by have := hpv2.2.2.1; simpa [prRows_len] using this
              have htot : total (prRows m m' i) ≤ 400000 := hpv2.2.2.2.2
              have hna : m.acts.length ≤ 8 := ((actsB_iff _).1 hpv2.1).1
              obtain ⟨na, HNa⟩ : ∃ z, Hid (m.acts.length = z) := ⟨_, Lib.hid rfl⟩
              obtain ⟨K, hKe⟩ : ∃ z : Syst, z = ⟨m.acts, prRows m m' i⟩ := ⟨_, rfl⟩
              have ka : K.acts.length = na := by rw [hKe, ← HNa.out]
              have ks : K.states.length = i := by rw [hKe]; exact prRows_len m m' i
              have kt : total K.states ≤ 400000 := by rw [hKe]; exact htot
              rw [HNa.out] at hna
              rw [← hKe] at hS
              obtain ⟨x1, x2, x3, x4, ex, ey, hSA⟩ := hS.arg (by omega) (by omega) (fun r hr => by
                have := row_le K.states r hr
                omega) (fun q hq => by
                have h9 := HA.out.acts.sz q (by have := HA.out.acts.len; have := HNa.out; omega)
                rw [hKe]
                exact h9)
              rw [ka] at ex hSA
              rw [ks] at ey hSA
              have ex := ex.symm
              simp only [Value.slice.injEq] at ex
              obtain ⟨ex1, ex2, ex3⟩ := ex
              subst ex1 ex2 ex3
              have ey := ey.symm
              simp only [Value.slice.injEq] at ey
              obtain ⟨ey1, ey2, ey3⟩ := ey
              subst ey1 ey2 ey3
              obtain ⟨y1, y2, ep⟩ := own_slice' hPr
              have ep := ep.symm
              simp only [Value.slice.injEq] at ep
              obtain ⟨ep1, ep2, ep3⟩ := ep
              subst ep1 ep2 ep3
              have HS3 := Lib.hid hSA
              have HP3 := Lib.hid hPr
              have HQk : Hid (K.acts.length + K.states.length + total K.states ≤ 1000000) := Lib.hid (by omega)
              have HIle := Lib.hid hi5
              obtain ⟨ac', ac''⟩ := aft_same hv hv' hac hOk word
              rw [← hKe] at ac''
              obtain ⟨cd, HCd⟩ : ∃ z, Hid (aftC m word = z) := ⟨_, Lib.hid rfl⟩
              rw [HCd.out] at ac' ac''
              have HCd' := Lib.hid ac'
              have HCd'' := Lib.hid ac''
              have hIn := fun hw => aft_in hv hv' hac hOk (word := word) hw
              rw [← hKe, HNa.out] at hIn
              have HIn := Lib.hid hIn
              have HCw : Hid (cd = 0 → wordB m.acts.length word = true) := Lib.hid (fun h => by
                cases hwd : wordB m.acts.length word
                · have h9 := HCd.out
                  unfold aftC at h9
                  rw [if_pos hv, hwd] at h9
                  rw [h] at h9
                  simp at h9
                · rfl)
              rw [HNa.out] at HCw
              clear h1 hv hv' hac hOk hpv hpv2 htot hS hPr hSA ac' ac'' HO hi5 ka ks kt hKe hIn
              have c0 := HX13.out.cell 0
              have c1 := HX13.out.cell 1
              simp only [List.getElem?_toArray, List.getElem?_cons_succ, List.getElem?_cons_zero] at c0 c1
              have HL4 := Lib.hid (HL.out.below HB3.out)
              have HCp := Lib.hid (CopyA_any (HA.out.below HB3.out) HQm.out)
              go_wp2_with fail
              refine HCp.out.mono ?_
              rintro e x4 ⟨aa4, ca4, ba4, da4, rfl, hA4, hb⟩
              have HAc4 := Lib.hid hA4
              have HL4x := Lib.hid (HL4.out.below hb)
              have HB4x := Lib.hid (HB3.out.trans (hb.mono HB3.out.size))
              have HE4x := Lib.hid (HE3.out.below hb)
              have HX24x := Lib.hid (HX23.out.below hb HX23.out.lt)
              have HG4x := Lib.hid (HG3.out.below hb HG3.out.lt)
              have HS4x := Lib.hid (HS3.out.below hb)
              have HP4x := Lib.hid (own_up' HP3.out hb)
              have HNil := Lib.hid HL4x.out.nils
              have HLn : Hid ((word.map (Value.int .i64)).length = wn * 1) := Lib.hid (by have := HL.out.len; simp; omega)
              have HSrc := Lib.hid (ints_src HL4x.out.cells)
              clear hb HCp hA4 c0 c1
              go_wp2_with (at_builtin; (refine wpList_append_sz rfl (.const (.slice none 0 0)) (.tmp 47) 28 rfl x4.heap.size 3 iN (.int .i64 0) 1 8 Tryz.underlying28 hiN hN0 hN1 hN2 rfl (by decide) (.slice none 0 0) rfl 0 [] (World.ownsRow_nil _ _ _ _) wa wn wc rfl (word.map (Value.int .i64)) HNil.out HLn.out HSrc.out (fun u hu => by obtain ⟨z, _, rfl⟩ := List.mem_map.1 hu; rfl) (by unfold maxLen; omega) (by omega) (Nat.le_refl _) ?_); intro v8 x84 hv8 hg8 hat8; refine Hid.out ?_)
              refine Lib.hid ?_
              simp only [Nat.zero_add, List.nil_append] at hv8
              have hb : Below x4.heap.size x4 x84 := (Below.refl _ x4).grown hg8 (Nat.le_refl _) (fun k hk => by cases hk)
              have hwl : wn = word.length := HL.out.len
              rw [hwl] at hv8
              obtain ⟨a8, c8, rfl, hI8⟩ := RowInts.arg hv8 (by omega)
              rw [← hwl]
              rw [← hwl] at hI8
              have HB4y := Lib.hid (HB4x.out.trans (hb.mono HB4x.out.size))
              have HE4y := Lib.hid (HE4x.out.below hb)
              have HX24y := Lib.hid (HX24x.out.below hb HX24x.out.lt)
              have HG4y := Lib.hid (HG4x.out.below hb HG4x.out.lt)
              have HS4y := Lib.hid (HS4x.out.below hb)
              have HP4y := Lib.hid (own_up' HP4x.out hb)
              obtain ⟨f0, f1, f2, hEr⟩ := HE4y.out.errs
              have hO := After_any hEr (HAc4.out.below hb) hI8
              rw [HCd.out] at hO
              have HOa := Lib.hid hO
              clear hb hEr hv8 hg8 hat8 hI8 hwl hO HNil HLn HSrc
              go_wp2_with fail
              refine HOa.out.mono ?_
              rintro e w4 ⟨v9, rfl, hv9, hb⟩
              obtain ⟨la4, lc4, rfl, hI9⟩ := hv9.arg (by have := aftL_len (m := m) word; omega)
              have HI4 := Lib.hid hI9
              have HB4 := Lib.hid (HB4y.out.trans (hb.mono HB4y.out.size))
              have HE4 := Lib.hid (HE4y.out.below hb)
              have HX24 := Lib.hid (HX24y.out.below hb HX24y.out.lt)
              have HG4 := Lib.hid (HG4y.out.below hb HG4y.out.lt)
              have HS4 := Lib.hid (HS4y.out.below hb)
              have HP4 := Lib.hid (own_up' HP4y.out hb)
              clear hb hv9 hI9 HOa
              have c0 := HX24.out.cell 0
              have c1 := HX24.out.cell 1
              simp only [List.getElem?_toArray, List.getElem?_cons_succ, List.getElem?_cons_zero] at c0 c1
              have HIa4 := HI4
              have HL5 := Lib.hid (HL.out.below HB4.out)
              have HCp := Lib.hid (CopyA_any (HA'.out.below HB4.out) HQn.out)
              go_wp2_with fail
              refine HCp.out.mono ?_
              rintro e x5 ⟨aa5, ca5, ba5, da5, rfl, hA5, hb⟩
              have HAc5 := Lib.hid hA5
              have HL5x := Lib.hid (HL5.out.below hb)
              have HB5x := Lib.hid (HB4.out.trans (hb.mono HB4.out.size))
              have HE5x := Lib.hid (HE4.out.below hb)
              have HG5x := Lib.hid (HG4.out.below hb HG4.out.lt)
              have HS5x := Lib.hid (HS4.out.below hb)
              have HP5x := Lib.hid (own_up' HP4.out hb)
              have HIa5x := Lib.hid (HIa4.out.below hb)
              have HNil := Lib.hid HL5x.out.nils
              have HLn : Hid ((word.map (Value.int .i64)).length = wn * 1) := Lib.hid (by have := HL.out.len; simp; omega)
              have HSrc := Lib.hid (ints_src HL5x.out.cells)
              clear hb HCp hA5 c0 c1
              go_wp2_with (at_builtin; (refine wpList_append_sz rfl (.const (.slice none 0 0)) (.tmp 55) 28 rfl x5.heap.size 3 iN (.int .i64 0) 1 8 Tryz.underlying28 hiN hN0 hN1 hN2 rfl (by decide) (.slice none 0 0) rfl 0 [] (World.ownsRow_nil _ _ _ _) wa wn wc rfl (word.map (Value.int .i64)) HNil.out HLn.out HSrc.out (fun u hu => by obtain ⟨z, _, rfl⟩ := List.mem_map.1 hu; rfl) (by unfold maxLen; omega) (by omega) (Nat.le_refl _) ?_); intro v8 x85 hv8 hg8 hat8; refine Hid.out ?_)
              refine Lib.hid ?_
              simp only [Nat.zero_add, List.nil_append] at hv8
              have hb : Below x5.heap.size x5 x85 := (Below.refl _ x5).grown hg8 (Nat.le_refl _) (fun k hk => by cases hk)
              have hwl : wn = word.length := HL.out.len
              rw [hwl] at hv8
              obtain ⟨a8, c8, rfl, hI8⟩ := RowInts.arg hv8 (by omega)
              rw [← hwl]
              rw [← hwl] at hI8
              have HB5y := Lib.hid (HB5x.out.trans (hb.mono HB5x.out.size))
              have HE5y := Lib.hid (HE5x.out.below hb)
              have HG5y := Lib.hid (HG5x.out.below hb HG5x.out.lt)
              have HS5y := Lib.hid (HS5x.out.below hb)
              have HP5y := Lib.hid (own_up' HP5x.out hb)
              have HIa5y := Lib.hid (HIa5x.out.below hb)
              obtain ⟨f0, f1, f2, hEr⟩ := HE5y.out.errs
              have hO := After_any hEr (HAc5.out.below hb) hI8
              rw [HCd'.out] at hO
              have HOa := Lib.hid hO
              clear hb hEr hv8 hg8 hat8 hI8 hwl hO HNil HLn HSrc
              go_wp2_with fail
              refine HOa.out.mono ?_
              rintro e w5 ⟨v9, rfl, hv9, hb⟩
              obtain ⟨la5, lc5, rfl, hI9⟩ := hv9.arg (by have := aftL_len (m := m') word; omega)
              have HI5 := Lib.hid hI9
              have HB5 := Lib.hid (HB5y.out.trans (hb.mono HB5y.out.size))
              have HE5 := Lib.hid (HE5y.out.below hb)
              have HG5 := Lib.hid (HG5y.out.below hb HG5y.out.lt)
              have HS5 := Lib.hid (HS5y.out.below hb)
              have HP5 := Lib.hid (own_up' HP5y.out hb)
              have HIa5 := Lib.hid (HIa5y.out.below hb)
              clear hb hv9 hI9 HOa
              have c0 := HG5.out.cell 0
              have c1 := HG5.out.cell 1
              simp only [List.getElem?_toArray, List.getElem?_cons_succ, List.getElem?_cons_zero] at c0 c1
              have HIb5 := HI5
              have HL6 := Lib.hid (HL.out.below HB5.out)
              have HCp := Lib.hid (CopyA_any HS5.out HQk.out)
              go_wp2_with fail
              refine HCp.out.mono ?_
              rintro e x6 ⟨aa6, ca6, ba6, da6, rfl, hA6, hb⟩
              have HAc6 := Lib.hid hA6
              have HL6x := Lib.hid (HL6.out.below hb)
              have HB6x := Lib.hid (HB5.out.trans (hb.mono HB5.out.size))
              have HE6x := Lib.hid (HE5.out.below hb)
              have HG6x := Lib.hid (HG5.out.below hb HG5.out.lt)
              have HP6x := Lib.hid (own_up' HP5.out hb)
              have HIa6x := Lib.hid (HIa5.out.below hb)
              have HIb6x := Lib.hid (HIb5.out.below hb)
              have HNil := Lib.hid HL6x.out.nils
              have HLn : Hid ((word.map (Value.int .i64)).length = wn * 1) := Lib.hid (by have := HL.out.len; simp; omega)
              have HSrc := Lib.hid (ints_src HL6x.out.cells)
              clear hb HCp hA6 c0 c1
              go_wp2_with (at_builtin; (refine wpList_append_sz rfl (.const (.slice none 0 0)) (.tmp 63) 28 rfl x6.heap.size 3 iN (.int .i64 0) 1 8 Tryz.underlying28 hiN hN0 hN1 hN2 rfl (by decide) (.slice none 0 0) rfl 0 [] (World.ownsRow_nil _ _ _ _) wa wn wc rfl (word.map (Value.int .i64)) HNil.out HLn.out HSrc.out (fun u hu => by obtain ⟨z, _, rfl⟩ := List.mem_map.1 hu; rfl) (by unfold maxLen; omega) (by omega) (Nat.le_refl _) ?_); intro v8 x86 hv8 hg8 hat8; refine Hid.out ?_)
              refine Lib.hid ?_
              simp only [Nat.zero_add, List.nil_append] at hv8
              have hb : Below x6.heap.size x6 x86 := (Below.refl _ x6).grown hg8 (Nat.le_refl _) (fun k hk => by cases hk)
              have hwl : wn = word.length := HL.out.len
              rw [hwl] at hv8
              obtain ⟨a8, c8, rfl, hI8⟩ := RowInts.arg hv8 (by omega)
              rw [← hwl]
              rw [← hwl] at hI8
              have HB6y := Lib.hid (HB6x.out.trans (hb.mono HB6x.out.size))
              have HE6y := Lib.hid (HE6x.out.below hb)
              have HG6y := Lib.hid (HG6x.out.below hb HG6x.out.lt)
              have HP6y := Lib.hid (own_up' HP6x.out hb)
              have HIa6y := Lib.hid (HIa6x.out.below hb)
              have HIb6y := Lib.hid (HIb6x.out.below hb)
              obtain ⟨f0, f1, f2, hEr⟩ := HE6y.out.errs
              have hO := After_any hEr (HAc6.out.below hb) hI8
              rw [HCd''.out] at hO
              have HOa := Lib.hid hO
              clear hb hEr hv8 hg8 hat8 hI8 hwl hO HNil HLn HSrc
              go_wp2_with fail
              refine HOa.out.mono ?_
              rintro e w6 ⟨v9, rfl, hv9, hb⟩
              obtain ⟨la6, lc6, rfl, hI9⟩ := hv9.arg (by have := aftL_len (m := K) word; omega)
              have HI6 := Lib.hid hI9
              have HB6 := Lib.hid (HB6y.out.trans (hb.mono HB6y.out.size))
              have HE6 := Lib.hid (HE6y.out.below hb)
              have HG6 := Lib.hid (HG6y.out.below hb HG6y.out.lt)
              have HP6 := Lib.hid (own_up' HP6y.out hb)
              have HIa6 := Lib.hid (HIa6y.out.below hb)
              have HIb6 := Lib.hid (HIb6y.out.below hb)
              clear hb hv9 hI9 HOa
              have g1 := HG6.out.cell 1
              simp only [List.getElem?_toArray, List.getElem?_cons_succ, List.getElem?_cons_zero] at g1
              obtain ⟨A, HAe⟩ : ∃ z, Hid ((aftL m word).length = z) := ⟨_, Lib.hid rfl⟩
              obtain ⟨B, HBe⟩ : ∃ z, Hid ((aftL m' word).length = z) := ⟨_, Lib.hid rfl⟩
              obtain ⟨C, HCe⟩ : ∃ z, Hid ((aftL K word).length = z) := ⟨_, Lib.hid rfl⟩
              have hA5 : A ≤ 5000 := by have := aftL_len (m := m) word; have := HAe.out; omega
              have hB5 : B ≤ 5000 := by have := aftL_len (m := m') word; have := HBe.out; omega
              have hC5 : C ≤ 5000 := by have := aftL_len (m := K) word; have := HCe.out; omega
              have hia := HIa6.out
              have hib := HIb6.out
              have hic := HI6.out
              rw [HAe.out] at hia ⊢
              rw [HBe.out] at hib ⊢
              rw [HCe.out] at hic ⊢
              have HIa := Lib.hid hia
              have HIb := Lib.hid hib
              have HIc := Lib.hid hic
              clear hia hib hic
              by_cases hcz : cd = 0
              · obtain ⟨h1, h2, h3⟩ := HIn.out (HCw.out hcz)
                rw [HAe.out, HBe.out, HCe.out] at h1
                have hABC : (A : Int) * (B : Int) = (C : Int) := by rw [h1]; simp
                have HPw := Lib.hid h2
                have HMem := Lib.hid h3
                subst hcz
                clear h1 h2 h3
                go_upto_region 16 with (fail)
                go_loopw [16, 17, 97] (fun _ _ q wr => ∃ j : Nat, q = .int .i64 j ∧ j ≤ C ∧ w6 = wr) (fun _ _ q _ => C - (intOf q).toNat)
                case atStart => exact ⟨0, rfl, Nat.zero_le _, rfl⟩
                case round =>
                  as_aux_lemma =>
                  obtain ⟨j, rfl, hj, rfl⟩ := hrel
                  by_cases hlt : j < C
                  · have hjl : j < (aftL K word).length := by rw [HCe.out]; exact hlt
                    obtain ⟨bc, oc, hla, d0⟩ := HIc.out.cells j (by rw [zs_length]; exact hjl)
                    rw [zs_at hjl] at d0
                    obtain ⟨x, HX⟩ : ∃ z, Hid ((aftL K word).getD j 0 = z) := ⟨_, Lib.hid rfl⟩
                    rw [HX.out] at d0
                    have hxm : x ∈ aftL K word := by
                      rw [← HX.out, List.getD_eq_getElem?_getD, List.getElem?_eq_getElem hjl]
                      exact List.getElem_mem hjl
                    obtain ⟨m1, m2, m3⟩ := HMem.out x hxm
                    have hpl : x < (prQ m m' i).length := by rw [HOk.out.2]; exact m1
                    obtain ⟨⟨p, q⟩, HPQ⟩ : ∃ z, Hid ((prQ m m' i)[x]? = some z) := ⟨_, Lib.hid (List.getElem?_eq_getElem hpl)⟩
                    have e9 : (prQ m m' i).getD x (0, 0) = (p, q) := by rw [List.getD_eq_getElem?_getD, HPQ.out]; rfl
                    rw [e9] at m2 m3
                    obtain ⟨bp, cp, hyp, f0, f1⟩ := pair_cells2 HP6.out m1 HPQ.out
                    have HInA := In_any HIa.out (p : Int)
                    rw [decide_eq_true (zs_mem m2)] at HInA
                    have HInB := In_any HIb.out (q : Int)
                    rw [decide_eq_true (zs_mem m3)] at HInB
                    have HInA := Lib.hid HInA
                    have HInB := Lib.hid HInB
                    have j0 : (0 : Int) ≤ (j : Int) := by omega
                    have j1 : (j : Int) < (C : Int) := by omega
                    have x0 : (0 : Int) ≤ (x : Int) := by omega
                    have x1 : (x : Int) < (i : Int) := by omega
                    have x2 : ¬ (x : Int) < 0 := by omega
                    have x3 : ¬ (i : Int) ≤ (x : Int) := by omega
                    cases hyp
                    subst hla
                    cases j with
                    | zero =>
                      simp only [Nat.add_zero] at d0
                      have j2 : (0 : Int) < (C : Int) := by omega
                      clear hxm m2 m3 hpl e9 hjl j0 j1
                      go_wp2_with fail
                      refine HInA.out.mono ?_
                      rintro e w' ⟨rfl, rfl⟩
                      go_wp2_with fail
                      refine HInB.out.mono ?_
                      rintro e w' ⟨rfl, rfl⟩
                      go_wp2
                      go_roundw
                      case rel => exact ⟨1, by go_num, by omega, by first | rfl | trivial⟩
                      case measure => simp [intOf]; omega
                    | succ j' =>
                      have hjl' : j' < (aftL K word).length := by omega
                      obtain ⟨bc', oc', hla', d0'⟩ := HIc.out.cells j' (by rw [zs_length]; exact hjl')
                      cases hla'
                      rw [zs_at hjl'] at d0'
                      obtain ⟨x', HX'⟩ : ∃ z, Hid ((aftL K word).getD j' 0 = z) := ⟨_, Lib.hid rfl⟩
                      rw [HX'.out] at d0'
                      have hxx : x' < x := by
                        have h9 := (List.pairwise_iff_getElem.1 HPw.out) j' (j' + 1) hjl' hjl (by omega)
                        rw [← HX.out, ← HX'.out, List.getD_eq_getElem?_getD, List.getD_eq_getElem?_getD, List.getElem?_eq_getElem hjl, List.getElem?_eq_getElem hjl']
                        exact h9
                      have z0 : ¬ (x : Int) ≤ (x' : Int) := by omega
                      have z1 : (0 : Int) < ((j' + 1 : Nat) : Int) := by omega
                      have z2 : (0 : Int) ≤ (j' : Int) := by omega
                      have z3 : (j' : Int) < (C : Int) := by omega
                      have z4 : ((j' + 1 : Nat) : Int) - 1 = (j' : Int) := by omega
                      clear hxm m2 m3 hpl e9 hjl hjl' hxx
                      go_wp2_with fail
                      refine HInA.out.mono ?_
                      rintro e w' ⟨rfl, rfl⟩
                      go_wp2_with fail
                      refine HInB.out.mono ?_
                      rintro e w' ⟨rfl, rfl⟩
                      go_wp2
                      go_roundw
                      case rel => exact ⟨j' + 1 + 1, by go_num, by omega, by first | rfl | trivial⟩
                      case measure => simp [intOf]; omega
                  · go_wp2_with fail
                    refine (awake_any HE6.out).mono ?_
                    rintro e wz ⟨rfl, hbz⟩
                    have HBz := Lib.hid (HB6.out.trans (hbz.mono HB6.out.size))
                    clear hbz
                    go_wp2
                    go_ret
                    exact ⟨rfl, HBz.out⟩
              · have hcb : (cd != 0) = true := by simpa using hcz
                clear hcz
                go_wp2_with fail
                refine (awake_any HE6.out).mono ?_
                rintro e wz ⟨rfl, hbz⟩
                have HBz := Lib.hid (HB6.out.trans (hbz.mono HB6.out.size))
                clear hbz
                go_wp2
                go_ret
                exact ⟨rfl, HBz.out⟩
          · have hcb : (code != 0) = true := by simpa using hcode
            clear hcode
            go_wp2_with fail
            refine (awake_any HE3.out).mono ?_
            rintro e wz ⟨rfl, hbz⟩
            have HBz := Lib.hid (HB3.out.trans (hbz.mono HB3.out.size))
            clear hbz
            go_wp2
            go_ret
            exact ⟨rfl, HBz.out⟩
end Go.Proofs.YtgnbkepdbdgkdaaGreatDoor
