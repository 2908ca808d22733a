/- SpecHolds: what Satisfies says is right; a system satisfies All, not None, and its own specification, if there is one. -/
import Derived.Test.YtbncofgbpffmkaaGreatDoorHoldBaseJ
import Derived.Deep.DeepCutAuto
namespace Go.Proofs.YtbncofgbpffmkaaGreatDoor
open Go.RowKit Pl

section
variable {W W' : World} {p1 p2 p3 p4 p5 p6 p7 p8 : Addr} {v1 v2 v3 v4 v5 v6 v7 v8 : Value}
theorem up8 (hb : Below W.heap.size W W') (h : W.cell? p1 = some v1 ∧ W.cell? p2 = some v2 ∧ W.cell? p3 = some v3 ∧ W.cell? p4 = some v4 ∧ W.cell? p5 = some v5 ∧ W.cell? p6 = some v6 ∧ W.cell? p7 = some v7 ∧ W.cell? p8 = some v8) :
    W'.cell? p1 = some v1 ∧ W'.cell? p2 = some v2 ∧ W'.cell? p3 = some v3 ∧ W'.cell? p4 = some v4 ∧ W'.cell? p5 = some v5 ∧ W'.cell? p6 = some v6 ∧ W'.cell? p7 = some v7 ∧ W'.cell? p8 = some v8 :=
  ⟨up_cell hb h.1, up_cell hb h.2.1, up_cell hb h.2.2.1, up_cell hb h.2.2.2.1, up_cell hb h.2.2.2.2.1, up_cell hb h.2.2.2.2.2.1, up_cell hb h.2.2.2.2.2.2.1, up_cell hb h.2.2.2.2.2.2.2⟩
end
theorem keep8 {W : World} {g1 g2 g3 : Nat} {t1 t2 t3 : TypeId} {x1 x2 x3 x4 x5 x6 x7 x8 : Value} (h1 : Whole W g1 t1 #[x1, x2]) (h2 : Whole W g2 t2 #[x3, x4]) (h3 : Whole W g3 t3 #[x5, x6, x7, x8]) :
    W.cell? ⟨g1, 0, none⟩ = some x1 ∧ W.cell? ⟨g1, 1, none⟩ = some x2 ∧ W.cell? ⟨g2, 0, none⟩ = some x3 ∧ W.cell? ⟨g2, 1, none⟩ = some x4 ∧ W.cell? ⟨g3, 0, none⟩ = some x5 ∧ W.cell? ⟨g3, 1, none⟩ = some x6 ∧ W.cell? ⟨g3, 2, none⟩ = some x7 ∧ W.cell? ⟨g3, 3, none⟩ = some x8 :=
  ⟨h1.cell 0, h1.cell 1, h2.cell 0, h2.cell 1, h3.cell 0, h3.cell 1, h3.cell 2, h3.cell 3⟩
theorem pcells_cast (L : List (Nat × Nat)) : pcells L = ecells (castP L) := by
  induction L with
  | nil => rfl
  | cons p L ih =>
    have e1 : pcells (p :: L) = [.int .i64 (p.1 : Int), .int .i64 (p.2 : Int)] ++ pcells L := rfl
    have e2 : ecells (castP (p :: L)) = [.int .i64 (p.1 : Int), .int .i64 (p.2 : Int)] ++ ecells (castP L) := rfl
    rw [e1, e2, ih]
theorem hold_yes {m : Syst} {s : Spc} (hm : sysB m = true) (hs : spcB s = true) {L : List (Nat × Nat)} (h : SatYes m s L) : L.length ≤ 10000000 := by
  obtain ⟨i, h1, _, rfl⟩ := h
  have h2 := okq_at hm hs i h1
  have h6 := preO_len h2.shp m.states.length (Nat.le_refl _)
  have h3 := ((sysB_iff m).1 hm).2.2.1
  have h4 := ((spcB_iff s).1 hs).2.2.1
  have h5 : m.states.length * s.states.length ≤ 5000 * 500 := Nat.mul_le_mul h3 h4
  rw [allF_preO, h2.shp.1]
  omega
theorem hold_no {m : Syst} {s : Spc} (hm : sysB m = true) (hs : spcB s = true) {wd : List Int} {x : Nat} (h : SatNo m s wd x) : wd.length ≤ 10000000 := by
  obtain ⟨i, h1, h2, _, rfl, _⟩ := h
  have h3 := spell_len (Q := (stQ m s i).1) i i
  have h4 := okq_at hm hs i h1
  have h5 := cntF_le h4.shp
  rw [h4.cnt] at h5
  have h6 := ((sysB_iff m).1 hm).2.2.1
  have h7 := ((spcB_iff s).1 hs).2.2.1
  have h8 : m.states.length * s.states.length ≤ 5000 * 500 := Nat.mul_le_mul h6 h7
  omega
/-- the verdict that Satisfies returns, as an argument of another call, and that it is right -/
theorem satOut_args {m : Syst} {s : Spc} {W : World} {B : Nat} {h : Bool} {pa wa : Option Addr} {pn pc wn wc : Nat} {x code : Int} (H : SatOut m s W B h (.slice pa pn pc) (.slice wa wn wc) x code) (h0 : bothC m s = 0) :
    ∃ L word, EdgeArg W pa pn pc L ∧ IntArg W wa wn wc word ∧ rightB m s h L word x = true ∧ pn ≤ 10000000 ∧ wn ≤ 10000000 := by
  obtain ⟨hm, hs, _⟩ := bothC_zero h0
  obtain ⟨_, ⟨h1, _⟩ | ⟨_, L, hy, rfl, hp, e4, rfl⟩ | ⟨_, wd, y, hn, rfl, e4, hw, rfl⟩⟩ := H
  · exact absurd h0 h1
  · cases e4
    have hl := hold_yes hm hs hy
    have hL : (castP L).length = L.length := by simp [castP]
    rw [pcells_cast, ← hL] at hp
    obtain ⟨rfl, hE⟩ := own_pairs hp (by omega)
    refine ⟨castP L, [], hE, ⟨fun _ => rfl, rfl, Nat.le_refl _, by omega, fun j hj => by simp at hj⟩, ?_, by omega, by omega⟩
    unfold rightB
    rw [if_pos h0]
    show (decide (([] : List Int) = []) && decide ((0 : Int) = 0) && relB m s (castP L)) = true
    rw [satYes_rel hm hs hy]
    rfl
  · cases e4
    have hl := hold_no hm hs hn
    obtain ⟨rfl, hI⟩ := own_nums hw (by omega)
    refine ⟨[], wd, ⟨fun _ => rfl, rfl, Nat.le_refl _, by omega, fun j hj => by simp at hj⟩, hI, ?_, by omega, by omega⟩
    unfold rightB
    rw [if_pos h0]
    show (decide (([] : List Edg) = []) && faultB m s wd (y : Int)) = true
    rw [satNo_fault hm hs hn]
    rfl
theorem both_ok {m : Syst} {s : Spc} (hm : sysB m = true) (hs : spcB s = true) (ha : m.acts = s.acts) : bothC m s = 0 := by
  unfold bothC
  rw [if_pos hm, if_pos hs, if_pos ha]
theorem satOut_all {m : Syst} {W : World} {B : Nat} {h : Bool} {pv wv : Value} {x code : Int} (hm : sysB m = true) (H : SatOut m (allV m.acts) W B h pv wv x code) : code = 0 ∧ h = true := by
  have ha := ((sysB_iff m).1 hm).1
  have e : allV m.acts = allQ m.acts := by unfold allV; rw [ha]; rfl
  rw [e] at H
  have hb := both_ok hm (allQ_ok ha) (show m.acts = (allQ m.acts).acts from rfl)
  obtain ⟨hc, ⟨h1, _⟩ | ⟨_, L, hy, rfl, _⟩ | ⟨_, wd, y, hn, _⟩⟩ := H
  · exact absurd hb h1
  · exact ⟨hc.trans hb, rfl⟩
  · exact (all_sat hm hn).elim
theorem satOut_none {m : Syst} {W : World} {B : Nat} {h : Bool} {pv wv : Value} {x code : Int} (hm : sysB m = true) (H : SatOut m (noneV m.acts) W B h pv wv x code) : code = 0 ∧ h = false := by
  have ha := ((sysB_iff m).1 hm).1
  have e : noneV m.acts = noneQ m.acts := by unfold noneV; rw [ha]; rfl
  rw [e] at H
  have hb := both_ok hm (noneQ_ok ha) (show m.acts = (noneQ m.acts).acts from rfl)
  obtain ⟨hc, ⟨h1, _⟩ | ⟨_, L, hy, _⟩ | ⟨_, wd, y, hn, rfl, _⟩⟩ := H
  · exact absurd hb h1
  · exact (none_sat hy).elim
  · exact ⟨hc.trans hb, rfl⟩
theorem satOut_own {m : Syst} {q : Spc} {W : World} {B : Nat} {h : Bool} {pv wv : Value} {x code : Int} (hm : sysB m = true) (h5 : ¬ 500 < m.states.length) (hq : ofQ m = some q) (H : SatOut m q W B h pv wv x code) : code = 0 ∧ h = true := by
  have hb := both_ok hm (ofQ_ok hm (by omega) hq) (ofQ_at hq).1.symm
  obtain ⟨hc, ⟨h1, _⟩ | ⟨_, L, hy, rfl, _⟩ | ⟨_, wd, y, hn, _⟩⟩ := H
  · exact absurd hb h1
  · exact ⟨hc.trans hb, rfl⟩
  · exact (of_sat hm (by omega) hq hn).elim

set_option maxRecDepth 100000 in
set_option maxHeartbeats 16000000 in
theorem SpecHolds_any {w : World} {a : Option Addr} {n c : Nat} {b : Option Addr} {k d : Nat} {m : Syst} {a' : Option Addr} {n' c' : Nat} {b' : Option Addr} {k' d' : Nat} {s : Spc} (E : Env w) (T : Tab w) (A : SysArg w a n c b k d m) (S : SpecArg w a' n' c' b' k' d' s) :
    Calls Tryz.prog 3 #[.agg #[.slice a n c, .slice b k d], .agg #[.slice a' n' c', .slice b' k' d']] w fun e w' => e = .returned (.bool true) ∧ Below w.heap.size w w' := by
  obtain ⟨i0, hi, hz0, hz1, hz2⟩ := info_parts infoString
  have hb0 := ((Below.refl w.heap.size w).alloc (Nat.le_refl _) (.cells #[.slice a n c, .slice b k d] 25)).alloc (by simp) (.cells #[.slice a' n' c', .slice b' k' d'] 28)
  have h1 := (Whole.new w 25 #[.slice a n c, .slice b k d]).alloc (.cells #[.slice a' n' c', .slice b' k' d'] 28)
  have h2 := Whole.new (w.alloc (.cells #[.slice a n c, .slice b k d] 25)) 28 #[.slice a' n' c', .slice b' k' d']
  simp only [World.size_alloc] at h2
  obtain ⟨w0, HW0⟩ : ∃ z, Hid ((w.alloc (.cells #[.slice a n c, .slice b k d] 25)).alloc (.cells #[.slice a' n' c', .slice b' k' d'] 28) = z) := ⟨_, Lib.hid rfl⟩
  rw [HW0.out] at hb0 h1 h2
  have H1 := Lib.hid h1
  have H2 := Lib.hid h2
  have HB0 := Lib.hid hb0
  have HF1 := Lib.hid (Few_any 1000 (by decide) (A.below hb0))
  obtain ⟨w1, HW1⟩ : ∃ z, Hid (w0.alloc (.cells #[.slice a n c, .slice b k d] 25) = z) := ⟨_, Lib.hid rfl⟩
  have hb01 := (Below.refl w0.heap.size w0).alloc (Nat.le_refl _) (.cells #[.slice a n c, .slice b k d] 25)
  rw [HW1.out] at hb01 HF1
  have HB01 := Lib.hid hb01
  have HB1 := Lib.hid (hb0.trans (hb01.mono hb0.size))
  have HF2 := Lib.hid (SFew_any 1000 (by decide) (S.below HB1.out))
  have q0 : w0.cell? ⟨w.heap.size, 0, none⟩ = some (.slice a n c) := h1.cell 0
  have q1 : w0.cell? ⟨w.heap.size, 1, none⟩ = some (.slice b k d) := h1.cell 1
  have hx1 := h2.below hb01 h2.lt
  have r0 : w1.cell? ⟨w.heap.size + 1, 0, none⟩ = some (.slice a' n' c') := hx1.cell 0
  have r1 : w1.cell? ⟨w.heap.size + 1, 1, none⟩ = some (.slice b' k' d') := hx1.cell 1
  have HA := Lib.hid A
  have HS := Lib.hid S
  have HE := Lib.hid E
  have HT := Lib.hid T
  clear hb0 h1 h2 hb01 hx1 A S E T
  cases hf : fewB m 1000
  · rw [hf] at HF1
    go_enter Tryz.func3, Tryz.ntmps3
    go_wp2_with fail
    rw [HW0.out]
    refine HF1.out.mono ?_
    rintro e w' ⟨rfl, rfl⟩
    have HBq := Lib.hid (HB0.out.trans (HB01.out.mono HB0.out.size))
    go_wp2_with fail
    refine (awakeS_any (HE.out.below HBq.out) (HT.out.below HBq.out)).mono ?_
    rintro e wq ⟨rfl, hbq⟩
    have HBr := Lib.hid (HBq.out.trans (hbq.mono HBq.out.size))
    clear hbq
    go_wp2
    go_ret
    exact ⟨rfl, HBr.out⟩
  · rw [hf] at HF1
    have HQm : Hid (m.acts.length + m.states.length + total m.states ≤ 1000000) := Lib.hid (by have := (fewB_iff m 1000).1 hf; omega)
    clear hf
    cases hf : fewS s 1000
    · rw [hf] at HF2
      go_enter Tryz.func3, Tryz.ntmps3
      go_wp2_with fail
      rw [HW0.out]
      refine HF1.out.mono ?_
      rintro e w' ⟨rfl, rfl⟩
      go_wp2_with fail
      refine HF2.out.mono ?_
      rintro e w2 ⟨rfl, hb2⟩
      have H02 := Lib.hid (HB01.out.trans (hb2.mono HB01.out.size))
      clear hb2
      have HBq := Lib.hid (HB0.out.trans (H02.out.mono HB0.out.size))
      go_wp2_with fail
      refine (awakeS_any (HE.out.below HBq.out) (HT.out.below HBq.out)).mono ?_
      rintro e wq ⟨rfl, hbq⟩
      have HBr := Lib.hid (HBq.out.trans (hbq.mono HBq.out.size))
      clear hbq
      go_wp2
      go_ret
      exact ⟨rfl, HBr.out⟩
    · rw [hf] at HF2
      have HQs : Hid (s.acts.length + s.states.length + totalS s.states ≤ 1000000) := Lib.hid (by have := (fewS_iff s 1000).1 hf; omega)
      clear hf
      go_enter Tryz.func3, Tryz.ntmps3
      go_wp2_with fail
      rw [HW0.out]
      refine HF1.out.mono ?_
      rintro e w' ⟨rfl, rfl⟩
      go_wp2_with fail
      refine HF2.out.mono ?_
      rintro e w2 ⟨rfl, hb2⟩
      have H02 := Lib.hid (HB01.out.trans (hb2.mono HB01.out.size))
      clear hb2 q0 q1 r0 r1
      have h05 := H02.out
      have HB5 := Lib.hid (HB0.out.trans (h05.mono HB0.out.size))
      have HX1 := Lib.hid (H1.out.below h05 H1.out.lt)
      have HX2 := Lib.hid (H2.out.below h05 H2.out.lt)
      have HAm := Lib.hid (HA.out.below HB5.out)
      have HS5 := Lib.hid (HS.out.below HB5.out)
      obtain ⟨e0, e1, e2, hErr⟩ := (HE.out.below HB5.out).errs
      have HErr := Lib.hid hErr
      have k0 : w2.cell? ⟨w.heap.size, 0, none⟩ = some (.slice a n c) ∧ w2.cell? ⟨w.heap.size, 1, none⟩ = some (.slice b k d) ∧ w2.cell? ⟨w.heap.size + 1, 0, none⟩ = some (.slice a' n' c') ∧ w2.cell? ⟨w.heap.size + 1, 1, none⟩ = some (.slice b' k' d') := ⟨HX1.out.cell 0, HX1.out.cell 1, HX2.out.cell 0, HX2.out.cell 1⟩
      have kD := ms_dr k0
      clear h05 hErr
      go_wp2_with fail
      go_cut [5, 6] (fun s9 s10 wx => ∃ g h pa pn pc wa wn wc x code, s9 = .pointer (some ⟨g, 0, none⟩) ∧ s10 = .int .i64 code ∧ Below w2.heap.size w2 wx ∧ w2.heap.size ≤ g ∧ Whole wx g 35 #[.bool h, .slice pa pn pc, .slice wa wn wc, .int .i64 x] ∧ SatOut m s wx w2.heap.size h (.slice pa pn pc) (.slice wa wn wc) x code)
      case first =>
        as_aux_lemma =>
        go_region_held3 (fun w' => w'.cell? ⟨w.heap.size, 0, none⟩ = some (.slice a n c) ∧ w'.cell? ⟨w.heap.size, 1, none⟩ = some (.slice b k d) ∧ w'.cell? ⟨w.heap.size + 1, 0, none⟩ = some (.slice a' n' c') ∧ w'.cell? ⟨w.heap.size + 1, 1, none⟩ = some (.slice b' k' d'))
          ((with_reducible (first | assumption | exact ms_new kK _ | exact ms_far kK n7 _ _ _ _ | exact ms_far kK n6 _ _ _ _ | exact ms_far kK n5 _ _ _ _ | exact ms_new kJ _ | exact ms_new kI _ | exact ms_new k0 _ | exact kD | exact ms_dr (ms_new k0 _))))
          (first
            | (go_at_call 8; first
                | (refine Calls.mono (CopyA_any (w := w2.drew) (HAm.out.below (Below.refl _ _).drew) HQm.out) ?_; rintro e w6 ⟨a6, c6, b6, d6, rfl, hA6, hb6⟩; have kI := ms_up hb6 kD; have hb56 : Below w2.heap.size w2 w6 := (Below.refl _ w2).drew.trans hb6; have n6 := ms_ne kI)
                | (refine Calls.mono (CopyA_any (w := (w2.alloc _).drew) (HAm.out.below ((Below.refl _ w2).alloc (Nat.le_refl _) _).drew) HQm.out) ?_; rintro e w6 ⟨a6, c6, b6, d6, rfl, hA6, hb6⟩; have kI := ms_up hb6 (ms_dr (ms_new k0 _)); have hb56 : Below w2.heap.size w2 w6 := ((Below.refl _ w2).alloc (Nat.le_refl _) _).drew.trans (hb6.mono (by simp)); have B6 : Whole w6 w2.heap.size 35 #[.bool false, .slice none 0 0, .slice none 0 0, .int .i64 0] := up_whole hb6 (whole_dr (Whole.new w2 _ _)); have n5 := ms_ne k0))
            | (go_at_call 9; have hc := fun (W : World) (hb : Below w6.heap.size w6 W) => SCopyA_any (HS5.out.below (below_two hb56 hb)) HQs.out; first
                | (refine Calls.mono (hc w6 (Below.refl _ _)) ?_; clear hc; rintro e w7 ⟨a7, c7, b7, d7, rfl, hA7, hb7⟩; have kJ := ms_up hb7 kI; have hb57 := below_two hb56 hb7; have n7 := ms_ne kJ; have hA67 := hA6.below hb7; first | (have B2 : Whole w6 w2.heap.size 35 #[.bool false, .slice none 0 0, .slice none 0 0, .int .i64 0] := (by assumption); have B7 := up_whole hb7 B2; clear B2; have hg := Nat.le_refl w2.heap.size) | skip)
                | (refine Calls.mono (hc (w6.alloc _) ((Below.refl _ _).alloc (Nat.le_refl _) _)) ?_; clear hc; rintro e w7 ⟨a7, c7, b7, d7, rfl, hA7, hb7⟩; have kJ := ms_up hb7 (ms_new kI _); have hb67 := below_two ((Below.refl _ w6).alloc (Nat.le_refl _) _) hb7; have hb57 := below_two hb56 hb67; have hA67 := hA6.below hb67; have B7 : Whole w7 w6.heap.size 35 #[.bool false, .slice none 0 0, .slice none 0 0, .int .i64 0] := up_whole hb7 (Whole.new w6 _ _); have hg := hb56.size))
            | (go_at_call 7; have hc := fun (W : World) (hb : Below w7.heap.size w7 W) => Satisfies_any (HErr.out.below (below_two hb57 hb)) (hA67.below hb) (hA7.below hb); first
                | (refine Calls.mono (hc w7 (Below.refl _ _)) ?_; clear hc; rintro e w8 ⟨h8, pa, pn, pc, wa, wn, wc, x8, code, rfl, hO, hb8⟩; have kK := ms_up hb8 kJ; have hb58 := below_two hb57 hb8; have hO5 := hO.low hb57.size; first | (have B2 : Whole w7 w2.heap.size 35 #[.bool false, .slice none 0 0, .slice none 0 0, .int .i64 0] := (by assumption); obtain ⟨B1, ⟨C0, C1, C2, C3⟩, F0, F1, F2, F3⟩ := pack_v (up_whole hb8 B2); clear B2) | (have B2 : Whole w7 w6.heap.size 35 #[.bool false, .slice none 0 0, .slice none 0 0, .int .i64 0] := (by assumption); obtain ⟨B1, ⟨C0, C1, C2, C3⟩, F0, F1, F2, F3⟩ := pack_v (up_whole hb8 B2); clear B2) | skip)
                | (refine Calls.mono (hc (w7.alloc _) ((Below.refl _ _).alloc (Nat.le_refl _) _)) ?_; clear hc; rintro e w8 ⟨h8, pa, pn, pc, wa, wn, wc, x8, code, rfl, hO, hb8⟩; have kK := ms_up hb8 (ms_new kJ _); have hb78 := below_two ((Below.refl _ w7).alloc (Nat.le_refl _) _) hb8; have hb58 := below_two hb57 hb78; have hO5 := hO.low (Nat.le_trans hb57.size (by simp)); have hg := hb57.size; obtain ⟨B1, ⟨C0, C1, C2, C3⟩, F0, F1, F2, F3⟩ := pack_v (up_whole hb8 (Whole.new w7 _ _)))))
        all_goals
          go_wp2_with fail
          go_meet
          first
            | exact ⟨_, _, _, _, _, _, _, _, _, _, rfl, rfl, hb58.alloc hb58.size _, hb58.size, Whole.new _ _ _, hO5.up ((Below.refl _ _).alloc (Nat.le_refl _) _)⟩
            | exact ⟨_, _, _, _, _, _, _, _, _, _, rfl, rfl, (((hb58.setCell hg _).setCell hg _).setCell hg _).setCell hg _, hg, (((B1.set 0 _).set 1 _).set 2 _).set 3 _, hO5.put4 B1 _ _ _ _⟩
      case rest =>
        as_aux_lemma =>
        obtain ⟨wA, hwX⟩ : ∃ z, z = wc := ⟨_, rfl⟩
        subst hwX
        obtain ⟨gwA, hwA, pawA, pnwA, pcwA, wawA, wnwA, wcwA, xwA, codewA, rfl, rfl, hbc, hg, hWc, hO⟩ := hcut
        have HBc := Lib.hid hbc
        have H0wA := Lib.hid (H02.out.trans (hbc.mono H02.out.size))
        have HVwA := Lib.hid hWc
        have HOwA := Lib.hid hO
        clear hbc hg hWc hO k0 kD HErr HX1 HX2 HB5 HAm HS5
        obtain ⟨cb, HCb⟩ : ∃ z, Hid (bothC m s = z) := ⟨_, Lib.hid rfl⟩
        have hcd : codewA = cb := HOwA.out.1.trans HCb.out
        subst hcd
        have HBA := Lib.hid (HB0.out.trans (H0wA.out.mono HB0.out.size))
        by_cases hc : codewA = 0
        · subst hc
          obtain ⟨L, word, hP, hWd, hR, hpl, hwl⟩ := satOut_args HOwA.out HCb.out
          have HM := Lib.hid (bothC_zero HCb.out).1
          have k0 := keep8 (H1.out.below H0wA.out H1.out.lt) (H2.out.below H0wA.out H2.out.lt) HVwA.out
          have kD : wA.drew.cell? ⟨w.heap.size, 0, none⟩ = some (.slice a n c) ∧ wA.drew.cell? ⟨w.heap.size, 1, none⟩ = some (.slice b k d) ∧ wA.drew.cell? ⟨w.heap.size + 1, 0, none⟩ = some (.slice a' n' c') ∧ wA.drew.cell? ⟨w.heap.size + 1, 1, none⟩ = some (.slice b' k' d') ∧ wA.drew.cell? ⟨gwA, 0, none⟩ = some (.bool hwA) ∧ wA.drew.cell? ⟨gwA, 1, none⟩ = some (.slice pawA pnwA pcwA) ∧ wA.drew.cell? ⟨gwA, 2, none⟩ = some (.slice wawA wnwA wcwA) ∧ wA.drew.cell? ⟨gwA, 3, none⟩ = some (.int .i64 xwA) := k0
          have HAm := Lib.hid (HA.out.below HBA.out)
          have HS5 := Lib.hid (HS.out.below HBA.out)
          have HP5 := Lib.hid hP
          have HW5 := Lib.hid hWd
          have HRt := Lib.hid hR
          obtain ⟨e0, e1, e2, hErr⟩ := (HE.out.below HBA.out).errs
          have HErr := Lib.hid hErr
          clear hP hWd hR hErr HOwA HBc
          go_wp2_with fail
          go_cut [7, 8] (fun s7 s8 wx => s7 = .bool true ∧ s8 = .int .i64 0 ∧ Below wA.heap.size wA wx)
          case first =>
            as_aux_lemma =>
            go_region_held3 (fun w' => w'.cell? ⟨w.heap.size, 0, none⟩ = some (.slice a n c) ∧ w'.cell? ⟨w.heap.size, 1, none⟩ = some (.slice b k d) ∧ w'.cell? ⟨w.heap.size + 1, 0, none⟩ = some (.slice a' n' c') ∧ w'.cell? ⟨w.heap.size + 1, 1, none⟩ = some (.slice b' k' d') ∧ w'.cell? ⟨gwA, 0, none⟩ = some (.bool hwA) ∧ w'.cell? ⟨gwA, 1, none⟩ = some (.slice pawA pnwA pcwA) ∧ w'.cell? ⟨gwA, 2, none⟩ = some (.slice wawA wnwA wcwA) ∧ w'.cell? ⟨gwA, 3, none⟩ = some (.int .i64 xwA))
              ((with_reducible (first | assumption | exact kD)))
              (first
                | (go_at_call 8; refine Calls.mono (CopyA_any (w := wA.drew) (HAm.out.below (Below.refl _ _).drew) HQm.out) ?_; rintro e w6 ⟨a6, c6, b6, d6, rfl, hA6, hb6⟩; have kI := up8 hb6 kD; have hb56 : Below wA.heap.size wA w6 := (Below.refl _ wA).drew.trans hb6)
                | (go_at_call 9; refine Calls.mono (SCopyA_any (HS5.out.below hb56) HQs.out) ?_; rintro e w7 ⟨a7, c7, b7, d7, rfl, hA7, hb7⟩; have kJ := up8 hb7 kI; have hb57 := below_two hb56 hb7; have hA67 := hA6.below hb7)
                | (go_at_call 11; refine Calls.mono (copied_any hwA (HP5.out.below hb57) (HW5.out.below hb57) xwA hpl hwl) ?_; rintro e w8 ⟨pa8, pc8, wa8, wc8, rfl, hP8, hW8, hb8⟩; have kK := up8 hb8 kJ; have hb58 := below_two hb57 hb8; have hA68 := hA67.below hb8; have hA78 := hA7.below hb8)
                | (go_at_call 10; refine Calls.mono (Right_any (HErr.out.below hb58) hA68 hA78 hwA hP8 hW8 xwA) ?_; rintro e w9 ⟨rfl, hb9⟩; rw [HRt.out, HCb.out]; have kL := up8 hb9 kK; have hb59 := below_two hb58 hb9))
            all_goals
              go_wp2_with fail
              go_meet
              exact ⟨rfl, rfl, hb59⟩
          case rest =>
            as_aux_lemma =>
            obtain ⟨wB, hwX⟩ : ∃ z, z = wc := ⟨_, rfl⟩
            subst hwX
            obtain ⟨rfl, rfl, hbc⟩ := hcut
            have H0B := Lib.hid (H0wA.out.trans (hbc.mono H0wA.out.size))
            clear hbc k0 kD HErr HAm HS5 HP5 HW5 HRt
            have HBB := Lib.hid (HB0.out.trans (H0B.out.mono HB0.out.size))
            have hx9 := H1.out.below H0B.out H1.out.lt
            have z0 := hx9.cell 0
            have z1 := hx9.cell 1
            simp only [List.getElem?_toArray, List.getElem?_cons_succ, List.getElem?_cons_zero] at z0 z1
            have hIs := RIs_any (HA.out.below HBB.out) (by have := HQm.out; omega)
            rw [HM.out] at hIs
            have HIs := Lib.hid hIs
            clear hx9 hIs
            go_wp2_with fail
            refine HIs.out.mono ?_
            rintro e wC ⟨rfl, hbC⟩
            have H0C := Lib.hid (H0B.out.trans (hbC.mono H0B.out.size))
            clear hbC z0 z1
            have HB8 := Lib.hid (HB0.out.trans (H0C.out.mono HB0.out.size))
            have HSrc := Lib.hid (strs_src (HA.out.acts.below HB8.out))
            have HNil := Lib.hid HA.out.acts.nils
            have HLl : Hid ((m.acts.map Value.string).length = n * 1) := Lib.hid (by have := HA.out.acts.len; simp; omega)
            have HAc : Hid (actsB m.acts = true) := Lib.hid ((sysB_iff m).1 HM.out).1
            have hn8 : n ≤ 1000000 := by have := HA.out.acts.len; have := HQm.out; omega
            have hx8 := H1.out.below H0C.out H1.out.lt
            have z0 := hx8.cell 0
            simp only [List.getElem?_toArray, List.getElem?_cons_zero] at z0
            have hg1 : w.heap.size ≤ wC.heap.size := HB8.out.size
            clear hx8
            go_wp2_with (at_builtin; (refine wpList_append_sz rfl (.const (.slice none 0 0)) (.tmp 63) 22 rfl w.heap.size 9 i0 (.string ⟨#[]⟩) 1 16 Tryz.underlying22 hi hz0 hz1 hz2 rfl (by decide) (.slice none 0 0) rfl 0 [] (World.ownsRow_nil _ _ _ _) a n c rfl (m.acts.map Value.string) HNil.out HLl.out HSrc.out (strs_one _) (by unfold maxLen; omega) (by omega) hg1 ?_); intro va wF hva hgF hatF; refine Hid.out ?_)
            simp only [Nat.zero_add, List.nil_append] at hva
            obtain ⟨af, cf, rfl, hSF⟩ := strsOwn_arg hva HA.out.acts.len HA.out.acts.big (fun q hq => HA.out.acts.sz q hq)
            have hbF := below_up hgF
            have H0F := Lib.hid (H0C.out.trans (hbF.mono H0C.out.size))
            have HBF := Lib.hid (HB0.out.trans (H0F.out.mono HB0.out.size))
            obtain ⟨e0', e1', e2', hEr2⟩ := (HE.out.below HBF.out).errs
            have HAl := AllA_any hEr2 hSF
            rw [HAc.out] at HAl
            have HAl := Lib.hid HAl
            clear hva hgF hatF hSF hbF hEr2 hg1 z0
            refine Lib.hid ?_
            as_aux_lemma =>
            go_wp2_with fail
            refine HAl.out.mono ?_
            rintro e wH ⟨a4, n4, c4, b4, k4, d4, rfl, hH, hbH⟩
            have hbH1 := hbH.alloc hbH.size (.cells #[.slice a4 n4 c4, .slice b4 k4 d4] 28)
            have H0H := Lib.hid (H0F.out.trans (hbH1.mono H0F.out.size))
            have HBH := Lib.hid (HB0.out.trans (H0H.out.mono HB0.out.size))
            have HW4 := Lib.hid (Whole.new wH 28 #[.slice a4 n4 c4, .slice b4 k4 d4])
            have HD4 := Lib.hid (hH.below ((Below.refl _ wH).alloc (Nat.le_refl _) (.cells #[.slice a4 n4 c4, .slice b4 k4 d4] 28)))
            have HSrc2 := Lib.hid (strs_src (HA.out.acts.below HBH.out))
            have hx9 := H1.out.below H0H.out H1.out.lt
            have z0 := hx9.cell 0
            simp only [List.getElem?_toArray, List.getElem?_cons_zero] at z0
            have hg2 : w.heap.size ≤ (wH.alloc (.cells #[.slice a4 n4 c4, .slice b4 k4 d4] 28)).heap.size := HBH.out.size
            clear hH hbH hbH1 hx9
            go_wp2_with (at_builtin; (refine wpList_append_sz rfl (.const (.slice none 0 0)) (.tmp 70) 22 rfl w.heap.size 9 i0 (.string ⟨#[]⟩) 1 16 Tryz.underlying22 hi hz0 hz1 hz2 rfl (by decide) (.slice none 0 0) rfl 0 [] (World.ownsRow_nil _ _ _ _) a n c rfl (m.acts.map Value.string) HNil.out HLl.out HSrc2.out (strs_one _) (by unfold maxLen; omega) (by omega) hg2 ?_); intro va wI hva hgI hatI; refine Hid.out ?_)
            simp only [Nat.zero_add, List.nil_append] at hva
            obtain ⟨ai, ci, rfl, hSI⟩ := strsOwn_arg hva HA.out.acts.len HA.out.acts.big (fun q hq => HA.out.acts.sz q hq)
            have hbI := below_up hgI
            have H0I := Lib.hid (H0H.out.trans (hbI.mono H0H.out.size))
            have HBI := Lib.hid (HB0.out.trans (H0I.out.mono HB0.out.size))
            have HW4I := Lib.hid (HW4.out.below hbI HW4.out.lt)
            have HD4I := Lib.hid (HD4.out.below hbI)
            obtain ⟨e0'', e1'', e2'', hEr3⟩ := (HE.out.below HBI.out).errs
            have HNo := NoneA_any hEr3 hSI
            rw [HAc.out] at HNo
            have HNo := Lib.hid HNo
            clear hva hgI hatI hSI hbI hEr3 hg2 z0
            refine Lib.hid ?_
            as_aux_lemma =>
            go_wp2_with fail
            refine HNo.out.mono ?_
            rintro e wJ ⟨a5, n5, c5, b5, k5, d5, rfl, hJ, hbJ⟩
            have hbJ1 := hbJ.alloc hbJ.size (.cells #[.slice a5 n5 c5, .slice b5 k5 d5] 28)
            have H0J := Lib.hid (H0I.out.trans (hbJ1.mono H0I.out.size))
            have HW4J := Lib.hid (HW4I.out.below hbJ1 HW4I.out.lt)
            have HD4J := Lib.hid (HD4I.out.below hbJ1)
            have HW5 := Lib.hid (Whole.new wJ 28 #[.slice a5 n5 c5, .slice b5 k5 d5])
            have HD5 := Lib.hid (hJ.below ((Below.refl _ wJ).alloc (Nat.le_refl _) (.cells #[.slice a5 n5 c5, .slice b5 k5 d5] 28)))
            obtain ⟨G4, HG4⟩ : ∃ z, Hid (wH.heap.size = z) := ⟨_, Lib.hid rfl⟩
            obtain ⟨G5, HG5⟩ : ∃ z, Hid (wJ.heap.size = z) := ⟨_, Lib.hid rfl⟩
            rw [HG4.out] at HW4J
            rw [HG5.out] at HW5
            obtain ⟨wK, HWK⟩ : ∃ z, Hid (wJ.alloc (.cells #[.slice a5 n5 c5, .slice b5 k5 d5] 28) = z) := ⟨_, Lib.hid rfl⟩
            rw [HWK.out] at H0J HW4J HD4J HW5 HD5
            clear hJ hbJ hbJ1
            have h05 := H0J.out
            have HB5 := Lib.hid (HB0.out.trans (h05.mono HB0.out.size))
            have HX1 := Lib.hid (H1.out.below h05 H1.out.lt)
            have HX2 := Lib.hid (H2.out.below h05 H2.out.lt)
            have HAm := Lib.hid (HA.out.below HB5.out)
            have HS5 := Lib.hid (HS.out.below HB5.out)
            obtain ⟨e0, e1, e2, hErr⟩ := (HE.out.below HB5.out).errs
            have HErr := Lib.hid hErr
            have k0 : wK.cell? ⟨w.heap.size, 0, none⟩ = some (.slice a n c) ∧ wK.cell? ⟨w.heap.size, 1, none⟩ = some (.slice b k d) ∧ wK.cell? ⟨G4, 0, none⟩ = some (.slice a4 n4 c4) ∧ wK.cell? ⟨G4, 1, none⟩ = some (.slice b4 k4 d4) := ⟨HX1.out.cell 0, HX1.out.cell 1, HW4J.out.cell 0, HW4J.out.cell 1⟩
            have kD := ms_dr k0
            clear h05 hErr
            go_wp2_with fail
            rw [HWK.out, HG4.out, HG5.out]
            go_cut [13, 14] (fun s9 s10 wx => ∃ g h pa pn pc wa wn wc x code, s9 = .pointer (some ⟨g, 0, none⟩) ∧ s10 = .int .i64 code ∧ Below wK.heap.size wK wx ∧ wK.heap.size ≤ g ∧ Whole wx g 35 #[.bool h, .slice pa pn pc, .slice wa wn wc, .int .i64 x] ∧ SatOut m (allV m.acts) wx wK.heap.size h (.slice pa pn pc) (.slice wa wn wc) x code)
            case first =>
              as_aux_lemma =>
              go_region_held3 (fun w' => w'.cell? ⟨w.heap.size, 0, none⟩ = some (.slice a n c) ∧ w'.cell? ⟨w.heap.size, 1, none⟩ = some (.slice b k d) ∧ w'.cell? ⟨G4, 0, none⟩ = some (.slice a4 n4 c4) ∧ w'.cell? ⟨G4, 1, none⟩ = some (.slice b4 k4 d4))
                ((with_reducible (first | assumption | exact ms_new kI _ | exact ms_new kK _ | exact ms_far kK n6 _ _ _ _ | exact ms_far kK n5 _ _ _ _ | exact ms_new k0 _ | exact kD | exact ms_dr (ms_new k0 _))))
                (first
                  | (go_at_call 8; first
                      | (refine Calls.mono (CopyA_any (w := wK.drew) (HAm.out.below (Below.refl _ _).drew) HQm.out) ?_; rintro e w6 ⟨a6, c6, b6, d6, rfl, hA6, hb6⟩; have kI := ms_up hb6 kD; have hb56 : Below wK.heap.size wK w6 := (Below.refl _ wK).drew.trans hb6; have n6 := ms_ne kI)
                      | (refine Calls.mono (CopyA_any (w := (wK.alloc _).drew) (HAm.out.below ((Below.refl _ wK).alloc (Nat.le_refl _) _).drew) HQm.out) ?_; rintro e w6 ⟨a6, c6, b6, d6, rfl, hA6, hb6⟩; have kI := ms_up hb6 (ms_dr (ms_new k0 _)); have hb56 : Below wK.heap.size wK w6 := ((Below.refl _ wK).alloc (Nat.le_refl _) _).drew.trans (hb6.mono (by simp)); have B6 : Whole w6 wK.heap.size 35 #[.bool false, .slice none 0 0, .slice none 0 0, .int .i64 0] := up_whole hb6 (whole_dr (Whole.new wK _ _)); have n5 := ms_ne k0; have hg := Nat.le_refl wK.heap.size))
                  | (go_at_call 7; have hc := fun (W : World) (hb : Below w6.heap.size w6 W) => Satisfies_any (HErr.out.below (below_two hb56 hb)) (hA6.below hb) (HD4J.out.below (below_two hb56 hb)); first
                      | (refine Calls.mono (hc w6 (Below.refl _ _)) ?_; clear hc; rintro e w8 ⟨h8, pa, pn, pc, wa, wn, wc, x8, code, rfl, hO, hb8⟩; have kK := ms_up hb8 kI; have hb58 := below_two hb56 hb8; have hO5 := hO.low hb56.size; first | (have B2 : Whole w6 wK.heap.size 35 #[.bool false, .slice none 0 0, .slice none 0 0, .int .i64 0] := (by assumption); obtain ⟨B1, ⟨C0, C1, C2, C3⟩, F0, F1, F2, F3⟩ := pack_v (up_whole hb8 B2); clear B2) | skip)
                      | (refine Calls.mono (hc (w6.alloc _) ((Below.refl _ _).alloc (Nat.le_refl _) _)) ?_; clear hc; rintro e w8 ⟨h8, pa, pn, pc, wa, wn, wc, x8, code, rfl, hO, hb8⟩; have kK := ms_up hb8 (ms_new kI _); have hb68 := below_two ((Below.refl _ w6).alloc (Nat.le_refl _) _) hb8; have hb58 := below_two hb56 hb68; have hO5 := hO.low (Nat.le_trans hb56.size (by simp)); have hg := hb56.size; obtain ⟨B1, ⟨C0, C1, C2, C3⟩, F0, F1, F2, F3⟩ := pack_v (up_whole hb8 (Whole.new w6 _ _)))))
              all_goals
                go_wp2_with fail
                go_meet
                first
                  | exact ⟨_, _, _, _, _, _, _, _, _, _, rfl, rfl, hb58.alloc hb58.size _, hb58.size, Whole.new _ _ _, hO5.up ((Below.refl _ _).alloc (Nat.le_refl _) _)⟩
                  | exact ⟨_, _, _, _, _, _, _, _, _, _, rfl, rfl, (((hb58.setCell hg _).setCell hg _).setCell hg _).setCell hg _, hg, (((B1.set 0 _).set 1 _).set 2 _).set 3 _, hO5.put4 B1 _ _ _ _⟩
            case rest =>
              as_aux_lemma =>
              obtain ⟨wL, hwX⟩ : ∃ z, z = wc := ⟨_, rfl⟩
              subst hwX
              obtain ⟨gwL, hwL, pawL, pnwL, pcwL, wawL, wnwL, wcwL, xwL, codewL, rfl, rfl, hbc, hg, hWc, hO⟩ := hcut
              have HBc := Lib.hid hbc
              have H0wL := Lib.hid (H0J.out.trans (hbc.mono H0J.out.size))
              have HVwL := Lib.hid hWc
              have HOwL := Lib.hid hO
              clear hbc hg hWc hO k0 kD HErr HX1 HX2 HB5 HAm HS5
              obtain ⟨hcl, hhl⟩ := satOut_all HM.out HOwL.out
              subst hcl
              subst hhl
              have HW5L := Lib.hid (HW5.out.below HBc.out HW5.out.lt)
              have HD5L := Lib.hid (HD5.out.below HBc.out)
              clear HOwL HBc
              have h05 := H0wL.out
              have HB5 := Lib.hid (HB0.out.trans (h05.mono HB0.out.size))
              have HX1 := Lib.hid (H1.out.below h05 H1.out.lt)
              have HX2 := Lib.hid (H2.out.below h05 H2.out.lt)
              have HAm := Lib.hid (HA.out.below HB5.out)
              have HS5 := Lib.hid (HS.out.below HB5.out)
              obtain ⟨e0, e1, e2, hErr⟩ := (HE.out.below HB5.out).errs
              have HErr := Lib.hid hErr
              have k0 : wL.cell? ⟨w.heap.size, 0, none⟩ = some (.slice a n c) ∧ wL.cell? ⟨w.heap.size, 1, none⟩ = some (.slice b k d) ∧ wL.cell? ⟨G5, 0, none⟩ = some (.slice a5 n5 c5) ∧ wL.cell? ⟨G5, 1, none⟩ = some (.slice b5 k5 d5) := ⟨HX1.out.cell 0, HX1.out.cell 1, HW5L.out.cell 0, HW5L.out.cell 1⟩
              have kD := ms_dr k0
              clear h05 hErr
              go_wp2_with fail
              go_cut [15, 16] (fun s9 s10 wx => ∃ g h pa pn pc wa wn wc x code, s9 = .pointer (some ⟨g, 0, none⟩) ∧ s10 = .int .i64 code ∧ Below wL.heap.size wL wx ∧ wL.heap.size ≤ g ∧ Whole wx g 35 #[.bool h, .slice pa pn pc, .slice wa wn wc, .int .i64 x] ∧ SatOut m (noneV m.acts) wx wL.heap.size h (.slice pa pn pc) (.slice wa wn wc) x code)
              case first =>
                as_aux_lemma =>
                go_region_held3 (fun w' => w'.cell? ⟨w.heap.size, 0, none⟩ = some (.slice a n c) ∧ w'.cell? ⟨w.heap.size, 1, none⟩ = some (.slice b k d) ∧ w'.cell? ⟨G5, 0, none⟩ = some (.slice a5 n5 c5) ∧ w'.cell? ⟨G5, 1, none⟩ = some (.slice b5 k5 d5))
                  ((with_reducible (first | assumption | exact ms_new kI _ | exact ms_new kK _ | exact ms_far kK n6 _ _ _ _ | exact ms_far kK n5 _ _ _ _ | exact ms_new k0 _ | exact kD | exact ms_dr (ms_new k0 _))))
                  (first
                    | (go_at_call 8; first
                        | (refine Calls.mono (CopyA_any (w := wL.drew) (HAm.out.below (Below.refl _ _).drew) HQm.out) ?_; rintro e w6 ⟨a6, c6, b6, d6, rfl, hA6, hb6⟩; have kI := ms_up hb6 kD; have hb56 : Below wL.heap.size wL w6 := (Below.refl _ wL).drew.trans hb6; have n6 := ms_ne kI)
                        | (refine Calls.mono (CopyA_any (w := (wL.alloc _).drew) (HAm.out.below ((Below.refl _ wL).alloc (Nat.le_refl _) _).drew) HQm.out) ?_; rintro e w6 ⟨a6, c6, b6, d6, rfl, hA6, hb6⟩; have kI := ms_up hb6 (ms_dr (ms_new k0 _)); have hb56 : Below wL.heap.size wL w6 := ((Below.refl _ wL).alloc (Nat.le_refl _) _).drew.trans (hb6.mono (by simp)); have B6 : Whole w6 wL.heap.size 35 #[.bool false, .slice none 0 0, .slice none 0 0, .int .i64 0] := up_whole hb6 (whole_dr (Whole.new wL _ _)); have n5 := ms_ne k0; have hg := Nat.le_refl wL.heap.size))
                    | (go_at_call 7; have hc := fun (W : World) (hb : Below w6.heap.size w6 W) => Satisfies_any (HErr.out.below (below_two hb56 hb)) (hA6.below hb) (HD5L.out.below (below_two hb56 hb)); first
                        | (refine Calls.mono (hc w6 (Below.refl _ _)) ?_; clear hc; rintro e w8 ⟨h8, pa, pn, pc, wa, wn, wc, x8, code, rfl, hO, hb8⟩; have kK := ms_up hb8 kI; have hb58 := below_two hb56 hb8; have hO5 := hO.low hb56.size; first | (have B2 : Whole w6 wL.heap.size 35 #[.bool false, .slice none 0 0, .slice none 0 0, .int .i64 0] := (by assumption); obtain ⟨B1, ⟨C0, C1, C2, C3⟩, F0, F1, F2, F3⟩ := pack_v (up_whole hb8 B2); clear B2) | skip)
                        | (refine Calls.mono (hc (w6.alloc _) ((Below.refl _ _).alloc (Nat.le_refl _) _)) ?_; clear hc; rintro e w8 ⟨h8, pa, pn, pc, wa, wn, wc, x8, code, rfl, hO, hb8⟩; have kK := ms_up hb8 (ms_new kI _); have hb68 := below_two ((Below.refl _ w6).alloc (Nat.le_refl _) _) hb8; have hb58 := below_two hb56 hb68; have hO5 := hO.low (Nat.le_trans hb56.size (by simp)); have hg := hb56.size; obtain ⟨B1, ⟨C0, C1, C2, C3⟩, F0, F1, F2, F3⟩ := pack_v (up_whole hb8 (Whole.new w6 _ _)))))
                all_goals
                  go_wp2_with fail
                  go_meet
                  first
                    | exact ⟨_, _, _, _, _, _, _, _, _, _, rfl, rfl, hb58.alloc hb58.size _, hb58.size, Whole.new _ _ _, hO5.up ((Below.refl _ _).alloc (Nat.le_refl _) _)⟩
                    | exact ⟨_, _, _, _, _, _, _, _, _, _, rfl, rfl, (((hb58.setCell hg _).setCell hg _).setCell hg _).setCell hg _, hg, (((B1.set 0 _).set 1 _).set 2 _).set 3 _, hO5.put4 B1 _ _ _ _⟩
              case rest =>
                as_aux_lemma =>
                obtain ⟨wN, hwX⟩ : ∃ z, z = wc := ⟨_, rfl⟩
                subst hwX
                obtain ⟨gwN, hwN, pawN, pnwN, pcwN, wawN, wnwN, wcwN, xwN, codewN, rfl, rfl, hbc, hg, hWc, hO⟩ := hcut
                have HBc := Lib.hid hbc
                have H0wN := Lib.hid (H0wL.out.trans (hbc.mono H0wL.out.size))
                have HVwN := Lib.hid hWc
                have HOwN := Lib.hid hO
                clear hbc hg hWc hO k0 kD HErr HX1 HX2 HB5 HAm HS5
                obtain ⟨hcl, hhl⟩ := satOut_none HM.out HOwN.out
                subst hcl
                subst hhl
                have y0 := (HVwL.out.below HBc.out HVwL.out.lt).cell 0
                have y1 := HVwN.out.cell 0
                have hx9 := H1.out.below H0wN.out H1.out.lt
                have z0 := hx9.cell 0
                have z1 := hx9.cell 1
                simp only [List.getElem?_toArray, List.getElem?_cons_succ, List.getElem?_cons_zero] at y0 y1 z0 z1
                have HBN := Lib.hid (HB0.out.trans (H0wN.out.mono HB0.out.size))
                have HCp := Lib.hid (CopyA_any (HA.out.below HBN.out) HQm.out)
                clear HOwN HBc hx9
                go_wp2_with fail
                refine HCp.out.mono ?_
                rintro e wO ⟨a6, c6, b6, d6, rfl, hA6, hb6⟩
                have H0O := Lib.hid (H0wN.out.trans (hb6.mono H0wN.out.size))
                have HBO := Lib.hid (HB0.out.trans (H0O.out.mono HB0.out.size))
                obtain ⟨e0, e1, e2, hEr⟩ := (HE.out.below HBO.out).errs
                have hOf := OfA_any hEr hA6
                clear hA6 hb6 hEr y0 y1 z0 z1
                by_cases hk5 : 500 < m.states.length
                · rw [ofV_large HM.out hk5] at hOf
                  have HOf := Lib.hid hOf
                  clear hOf hk5
                  go_wp2_with fail
                  refine HOf.out.mono ?_
                  rintro e wP ⟨a7, n7, c7, b7, k7, d7, rfl, hD, hbD⟩
                  have H0P := Lib.hid (H0O.out.trans ((hbD.alloc hbD.size (.cells #[.slice a7 n7 c7, .slice b7 k7 d7] 28)).mono H0O.out.size))
                  clear hD hbD
                  have HBq := Lib.hid (HB0.out.trans (H0P.out.mono HB0.out.size))
                  go_wp2_with fail
                  refine (awakeS_any (HE.out.below HBq.out) (HT.out.below HBq.out)).mono ?_
                  rintro e wq ⟨rfl, hbq⟩
                  have HBr := Lib.hid (HBq.out.trans (hbq.mono HBq.out.size))
                  clear hbq
                  go_wp2
                  go_ret
                  exact ⟨rfl, HBr.out⟩
                · cases hq : ofQ m with
                  | none =>
                    rw [ofV_none HM.out hk5 hq] at hOf
                    have HOf := Lib.hid hOf
                    clear hOf hk5 hq
                    go_wp2_with fail
                    refine HOf.out.mono ?_
                    rintro e wP ⟨a7, n7, c7, b7, k7, d7, rfl, hD, hbD⟩
                    have H0P := Lib.hid (H0O.out.trans ((hbD.alloc hbD.size (.cells #[.slice a7 n7 c7, .slice b7 k7 d7] 28)).mono H0O.out.size))
                    clear hD hbD
                    have HBq := Lib.hid (HB0.out.trans (H0P.out.mono HB0.out.size))
                    go_wp2_with fail
                    refine (awakeS_any (HE.out.below HBq.out) (HT.out.below HBq.out)).mono ?_
                    rintro e wq ⟨rfl, hbq⟩
                    have HBr := Lib.hid (HBq.out.trans (hbq.mono HBq.out.size))
                    clear hbq
                    go_wp2
                    go_ret
                    exact ⟨rfl, HBr.out⟩
                  | some sq =>
                    rw [ofV_some HM.out hk5 hq] at hOf
                    have HOf := Lib.hid hOf
                    have HK5 := Lib.hid hk5
                    have HQq := Lib.hid hq
                    clear hOf hk5 hq
                    go_wp2_with fail
                    refine HOf.out.mono ?_
                    rintro e wP ⟨a7, n7, c7, b7, k7, d7, rfl, hD, hbD⟩
                    have hbD1 := hbD.alloc hbD.size (.cells #[.slice a7 n7 c7, .slice b7 k7 d7] 28)
                    have H0P := Lib.hid (H0O.out.trans (hbD1.mono H0O.out.size))
                    have HW7 := Lib.hid (Whole.new wP 28 #[.slice a7 n7 c7, .slice b7 k7 d7])
                    have HD7 := Lib.hid (hD.below ((Below.refl _ wP).alloc (Nat.le_refl _) (.cells #[.slice a7 n7 c7, .slice b7 k7 d7] 28)))
                    obtain ⟨G7, HG7⟩ : ∃ z, Hid (wP.heap.size = z) := ⟨_, Lib.hid rfl⟩
                    rw [HG7.out] at HW7
                    obtain ⟨wQ, HWQ⟩ : ∃ z, Hid (wP.alloc (.cells #[.slice a7 n7 c7, .slice b7 k7 d7] 28) = z) := ⟨_, Lib.hid rfl⟩
                    rw [HWQ.out] at H0P HW7 HD7
                    clear hD hbD hbD1
                    have h05 := H0P.out
                    have HB5 := Lib.hid (HB0.out.trans (h05.mono HB0.out.size))
                    have HX1 := Lib.hid (H1.out.below h05 H1.out.lt)
                    have HX2 := Lib.hid (H2.out.below h05 H2.out.lt)
                    have HAm := Lib.hid (HA.out.below HB5.out)
                    have HS5 := Lib.hid (HS.out.below HB5.out)
                    obtain ⟨e0, e1, e2, hErr⟩ := (HE.out.below HB5.out).errs
                    have HErr := Lib.hid hErr
                    have k0 : wQ.cell? ⟨w.heap.size, 0, none⟩ = some (.slice a n c) ∧ wQ.cell? ⟨w.heap.size, 1, none⟩ = some (.slice b k d) ∧ wQ.cell? ⟨G7, 0, none⟩ = some (.slice a7 n7 c7) ∧ wQ.cell? ⟨G7, 1, none⟩ = some (.slice b7 k7 d7) := ⟨HX1.out.cell 0, HX1.out.cell 1, HW7.out.cell 0, HW7.out.cell 1⟩
                    have kD := ms_dr k0
                    clear h05 hErr
                    go_wp2_with fail
                    rw [HWQ.out, HG7.out]
                    go_cut [20, 21] (fun s9 s10 wx => ∃ g h pa pn pc wa wn wc x code, s9 = .pointer (some ⟨g, 0, none⟩) ∧ s10 = .int .i64 code ∧ Below wQ.heap.size wQ wx ∧ wQ.heap.size ≤ g ∧ Whole wx g 35 #[.bool h, .slice pa pn pc, .slice wa wn wc, .int .i64 x] ∧ SatOut m sq wx wQ.heap.size h (.slice pa pn pc) (.slice wa wn wc) x code)
                    case first =>
                      as_aux_lemma =>
                      go_region_held3 (fun w' => w'.cell? ⟨w.heap.size, 0, none⟩ = some (.slice a n c) ∧ w'.cell? ⟨w.heap.size, 1, none⟩ = some (.slice b k d) ∧ w'.cell? ⟨G7, 0, none⟩ = some (.slice a7 n7 c7) ∧ w'.cell? ⟨G7, 1, none⟩ = some (.slice b7 k7 d7))
                        ((with_reducible (first | assumption | exact ms_new kI _ | exact ms_new kK _ | exact ms_far kK n6 _ _ _ _ | exact ms_far kK n5 _ _ _ _ | exact ms_new k0 _ | exact kD | exact ms_dr (ms_new k0 _))))
                        (first
                          | (go_at_call 8; first
                              | (refine Calls.mono (CopyA_any (w := wQ.drew) (HAm.out.below (Below.refl _ _).drew) HQm.out) ?_; rintro e w6 ⟨a6, c6, b6, d6, rfl, hA6, hb6⟩; have kI := ms_up hb6 kD; have hb56 : Below wQ.heap.size wQ w6 := (Below.refl _ wQ).drew.trans hb6; have n6 := ms_ne kI)
                              | (refine Calls.mono (CopyA_any (w := (wQ.alloc _).drew) (HAm.out.below ((Below.refl _ wQ).alloc (Nat.le_refl _) _).drew) HQm.out) ?_; rintro e w6 ⟨a6, c6, b6, d6, rfl, hA6, hb6⟩; have kI := ms_up hb6 (ms_dr (ms_new k0 _)); have hb56 : Below wQ.heap.size wQ w6 := ((Below.refl _ wQ).alloc (Nat.le_refl _) _).drew.trans (hb6.mono (by simp)); have B6 : Whole w6 wQ.heap.size 35 #[.bool false, .slice none 0 0, .slice none 0 0, .int .i64 0] := up_whole hb6 (whole_dr (Whole.new wQ _ _)); have n5 := ms_ne k0; have hg := Nat.le_refl wQ.heap.size))
                          | (go_at_call 7; have hc := fun (W : World) (hb : Below w6.heap.size w6 W) => Satisfies_any (HErr.out.below (below_two hb56 hb)) (hA6.below hb) (HD7.out.below (below_two hb56 hb)); first
                              | (refine Calls.mono (hc w6 (Below.refl _ _)) ?_; clear hc; rintro e w8 ⟨h8, pa, pn, pc, wa, wn, wc, x8, code, rfl, hO, hb8⟩; have kK := ms_up hb8 kI; have hb58 := below_two hb56 hb8; have hO5 := hO.low hb56.size; first | (have B2 : Whole w6 wQ.heap.size 35 #[.bool false, .slice none 0 0, .slice none 0 0, .int .i64 0] := (by assumption); obtain ⟨B1, ⟨C0, C1, C2, C3⟩, F0, F1, F2, F3⟩ := pack_v (up_whole hb8 B2); clear B2) | skip)
                              | (refine Calls.mono (hc (w6.alloc _) ((Below.refl _ _).alloc (Nat.le_refl _) _)) ?_; clear hc; rintro e w8 ⟨h8, pa, pn, pc, wa, wn, wc, x8, code, rfl, hO, hb8⟩; have kK := ms_up hb8 (ms_new kI _); have hb68 := below_two ((Below.refl _ w6).alloc (Nat.le_refl _) _) hb8; have hb58 := below_two hb56 hb68; have hO5 := hO.low (Nat.le_trans hb56.size (by simp)); have hg := hb56.size; obtain ⟨B1, ⟨C0, C1, C2, C3⟩, F0, F1, F2, F3⟩ := pack_v (up_whole hb8 (Whole.new w6 _ _)))))
                      all_goals
                        go_wp2_with fail
                        go_meet
                        first
                          | exact ⟨_, _, _, _, _, _, _, _, _, _, rfl, rfl, hb58.alloc hb58.size _, hb58.size, Whole.new _ _ _, hO5.up ((Below.refl _ _).alloc (Nat.le_refl _) _)⟩
                          | exact ⟨_, _, _, _, _, _, _, _, _, _, rfl, rfl, (((hb58.setCell hg _).setCell hg _).setCell hg _).setCell hg _, hg, (((B1.set 0 _).set 1 _).set 2 _).set 3 _, hO5.put4 B1 _ _ _ _⟩
                    case rest =>
                      as_aux_lemma =>
                      obtain ⟨wR, hwX⟩ : ∃ z, z = wc := ⟨_, rfl⟩
                      subst hwX
                      obtain ⟨gwR, hwR, pawR, pnwR, pcwR, wawR, wnwR, wcwR, xwR, codewR, rfl, rfl, hbc, hg, hWc, hO⟩ := hcut
                      have HBc := Lib.hid hbc
                      have H0wR := Lib.hid (H0P.out.trans (hbc.mono H0P.out.size))
                      have HVwR := Lib.hid hWc
                      have HOwR := Lib.hid hO
                      clear hbc hg hWc hO k0 kD HErr HX1 HX2 HB5 HAm HS5
                      obtain ⟨hcl, hhl⟩ := satOut_own HM.out HK5.out HQq.out HOwR.out
                      subst hcl
                      subst hhl
                      have y1 := HVwR.out.cell 0
                      simp only [List.getElem?_toArray, List.getElem?_cons_zero] at y1
                      clear HOwR HBc
                      have HBq := Lib.hid (HB0.out.trans (H0wR.out.mono HB0.out.size))
                      go_wp2_with fail
                      refine (awakeS_any (HE.out.below HBq.out) (HT.out.below HBq.out)).mono ?_
                      rintro e wq ⟨rfl, hbq⟩
                      have HBr := Lib.hid (HBq.out.trans (hbq.mono HBq.out.size))
                      clear hbq
                      go_wp2
                      go_ret
                      exact ⟨rfl, HBr.out⟩
        · have hq : (codewA == 0) = false := by rw [beq_eq_false_iff_ne]; exact hc
          clear hc HOwA HBc
          have hx9 := H1.out.below H0wA.out H1.out.lt
          have z0 := hx9.cell 0
          have z1 := hx9.cell 1
          simp only [List.getElem?_toArray, List.getElem?_cons_succ, List.getElem?_cons_zero] at z0 z1
          have hIs := RIs_any (HA.out.below HBA.out) (by have := HQm.out; omega)
          clear hx9
          cases hm : sysB m
          · rw [hm] at hIs
            have HIs := Lib.hid hIs
            clear hIs hm
            go_wp2_with fail
            refine HIs.out.mono ?_
            rintro e wC ⟨rfl, hbC⟩
            have H0C := Lib.hid (H0wA.out.trans (hbC.mono H0wA.out.size))
            clear hbC z0 z1
            have HBq := Lib.hid (HB0.out.trans (H0C.out.mono HB0.out.size))
            go_wp2_with fail
            refine (awakeS_any (HE.out.below HBq.out) (HT.out.below HBq.out)).mono ?_
            rintro e wq ⟨rfl, hbq⟩
            have HBr := Lib.hid (HBq.out.trans (hbq.mono HBq.out.size))
            clear hbq
            go_wp2
            go_ret
            exact ⟨rfl, HBr.out⟩
          · rw [hm] at hIs
            have HIs := Lib.hid hIs
            have HM := Lib.hid hm
            clear hIs hm
            go_wp2_with fail
            refine HIs.out.mono ?_
            rintro e wC ⟨rfl, hbC⟩
            have H0C := Lib.hid (H0wA.out.trans (hbC.mono H0wA.out.size))
            clear hbC z0 z1 hq
            have HB8 := Lib.hid (HB0.out.trans (H0C.out.mono HB0.out.size))
            have HSrc := Lib.hid (strs_src (HA.out.acts.below HB8.out))
            have HNil := Lib.hid HA.out.acts.nils
            have HLl : Hid ((m.acts.map Value.string).length = n * 1) := Lib.hid (by have := HA.out.acts.len; simp; omega)
            have HAc : Hid (actsB m.acts = true) := Lib.hid ((sysB_iff m).1 HM.out).1
            have hn8 : n ≤ 1000000 := by have := HA.out.acts.len; have := HQm.out; omega
            have hx8 := H1.out.below H0C.out H1.out.lt
            have z0 := hx8.cell 0
            simp only [List.getElem?_toArray, List.getElem?_cons_zero] at z0
            have hg1 : w.heap.size ≤ wC.heap.size := HB8.out.size
            clear hx8
            go_wp2_with (at_builtin; (refine wpList_append_sz rfl (.const (.slice none 0 0)) (.tmp 63) 22 rfl w.heap.size 9 i0 (.string ⟨#[]⟩) 1 16 Tryz.underlying22 hi hz0 hz1 hz2 rfl (by decide) (.slice none 0 0) rfl 0 [] (World.ownsRow_nil _ _ _ _) a n c rfl (m.acts.map Value.string) HNil.out HLl.out HSrc.out (strs_one _) (by unfold maxLen; omega) (by omega) hg1 ?_); intro va wF hva hgF hatF; refine Hid.out ?_)
            simp only [Nat.zero_add, List.nil_append] at hva
            obtain ⟨af, cf, rfl, hSF⟩ := strsOwn_arg hva HA.out.acts.len HA.out.acts.big (fun q hq => HA.out.acts.sz q hq)
            have hbF := below_up hgF
            have H0F := Lib.hid (H0C.out.trans (hbF.mono H0C.out.size))
            have HBF := Lib.hid (HB0.out.trans (H0F.out.mono HB0.out.size))
            obtain ⟨e0', e1', e2', hEr2⟩ := (HE.out.below HBF.out).errs
            have HAl := AllA_any hEr2 hSF
            rw [HAc.out] at HAl
            have HAl := Lib.hid HAl
            clear hva hgF hatF hSF hbF hEr2 hg1 z0
            refine Lib.hid ?_
            as_aux_lemma =>
            go_wp2_with fail
            refine HAl.out.mono ?_
            rintro e wH ⟨a4, n4, c4, b4, k4, d4, rfl, hH, hbH⟩
            have hbH1 := hbH.alloc hbH.size (.cells #[.slice a4 n4 c4, .slice b4 k4 d4] 28)
            have H0H := Lib.hid (H0F.out.trans (hbH1.mono H0F.out.size))
            have HBH := Lib.hid (HB0.out.trans (H0H.out.mono HB0.out.size))
            have HW4 := Lib.hid (Whole.new wH 28 #[.slice a4 n4 c4, .slice b4 k4 d4])
            have HD4 := Lib.hid (hH.below ((Below.refl _ wH).alloc (Nat.le_refl _) (.cells #[.slice a4 n4 c4, .slice b4 k4 d4] 28)))
            have HSrc2 := Lib.hid (strs_src (HA.out.acts.below HBH.out))
            have hx9 := H1.out.below H0H.out H1.out.lt
            have z0 := hx9.cell 0
            simp only [List.getElem?_toArray, List.getElem?_cons_zero] at z0
            have hg2 : w.heap.size ≤ (wH.alloc (.cells #[.slice a4 n4 c4, .slice b4 k4 d4] 28)).heap.size := HBH.out.size
            clear hH hbH hbH1 hx9
            go_wp2_with (at_builtin; (refine wpList_append_sz rfl (.const (.slice none 0 0)) (.tmp 70) 22 rfl w.heap.size 9 i0 (.string ⟨#[]⟩) 1 16 Tryz.underlying22 hi hz0 hz1 hz2 rfl (by decide) (.slice none 0 0) rfl 0 [] (World.ownsRow_nil _ _ _ _) a n c rfl (m.acts.map Value.string) HNil.out HLl.out HSrc2.out (strs_one _) (by unfold maxLen; omega) (by omega) hg2 ?_); intro va wI hva hgI hatI; refine Hid.out ?_)
            simp only [Nat.zero_add, List.nil_append] at hva
            obtain ⟨ai, ci, rfl, hSI⟩ := strsOwn_arg hva HA.out.acts.len HA.out.acts.big (fun q hq => HA.out.acts.sz q hq)
            have hbI := below_up hgI
            have H0I := Lib.hid (H0H.out.trans (hbI.mono H0H.out.size))
            have HBI := Lib.hid (HB0.out.trans (H0I.out.mono HB0.out.size))
            have HW4I := Lib.hid (HW4.out.below hbI HW4.out.lt)
            have HD4I := Lib.hid (HD4.out.below hbI)
            obtain ⟨e0'', e1'', e2'', hEr3⟩ := (HE.out.below HBI.out).errs
            have HNo := NoneA_any hEr3 hSI
            rw [HAc.out] at HNo
            have HNo := Lib.hid HNo
            clear hva hgI hatI hSI hbI hEr3 hg2 z0
            refine Lib.hid ?_
            as_aux_lemma =>
            go_wp2_with fail
            refine HNo.out.mono ?_
            rintro e wJ ⟨a5, n5, c5, b5, k5, d5, rfl, hJ, hbJ⟩
            have hbJ1 := hbJ.alloc hbJ.size (.cells #[.slice a5 n5 c5, .slice b5 k5 d5] 28)
            have H0J := Lib.hid (H0I.out.trans (hbJ1.mono H0I.out.size))
            have HW4J := Lib.hid (HW4I.out.below hbJ1 HW4I.out.lt)
            have HD4J := Lib.hid (HD4I.out.below hbJ1)
            have HW5 := Lib.hid (Whole.new wJ 28 #[.slice a5 n5 c5, .slice b5 k5 d5])
            have HD5 := Lib.hid (hJ.below ((Below.refl _ wJ).alloc (Nat.le_refl _) (.cells #[.slice a5 n5 c5, .slice b5 k5 d5] 28)))
            obtain ⟨G4, HG4⟩ : ∃ z, Hid (wH.heap.size = z) := ⟨_, Lib.hid rfl⟩
            obtain ⟨G5, HG5⟩ : ∃ z, Hid (wJ.heap.size = z) := ⟨_, Lib.hid rfl⟩
            rw [HG4.out] at HW4J
            rw [HG5.out] at HW5
            obtain ⟨wK, HWK⟩ : ∃ z, Hid (wJ.alloc (.cells #[.slice a5 n5 c5, .slice b5 k5 d5] 28) = z) := ⟨_, Lib.hid rfl⟩
            rw [HWK.out] at H0J HW4J HD4J HW5 HD5
            clear hJ hbJ hbJ1
            have h05 := H0J.out
            have HB5 := Lib.hid (HB0.out.trans (h05.mono HB0.out.size))
            have HX1 := Lib.hid (H1.out.below h05 H1.out.lt)
            have HX2 := Lib.hid (H2.out.below h05 H2.out.lt)
            have HAm := Lib.hid (HA.out.below HB5.out)
            have HS5 := Lib.hid (HS.out.below HB5.out)
            obtain ⟨e0, e1, e2, hErr⟩ := (HE.out.below HB5.out).errs
            have HErr := Lib.hid hErr
            have k0 : wK.cell? ⟨w.heap.size, 0, none⟩ = some (.slice a n c) ∧ wK.cell? ⟨w.heap.size, 1, none⟩ = some (.slice b k d) ∧ wK.cell? ⟨G4, 0, none⟩ = some (.slice a4 n4 c4) ∧ wK.cell? ⟨G4, 1, none⟩ = some (.slice b4 k4 d4) := ⟨HX1.out.cell 0, HX1.out.cell 1, HW4J.out.cell 0, HW4J.out.cell 1⟩
            have kD := ms_dr k0
            clear h05 hErr
            go_wp2_with fail
            rw [HWK.out, HG4.out, HG5.out]
            go_cut [13, 14] (fun s9 s10 wx => ∃ g h pa pn pc wa wn wc x code, s9 = .pointer (some ⟨g, 0, none⟩) ∧ s10 = .int .i64 code ∧ Below wK.heap.size wK wx ∧ wK.heap.size ≤ g ∧ Whole wx g 35 #[.bool h, .slice pa pn pc, .slice wa wn wc, .int .i64 x] ∧ SatOut m (allV m.acts) wx wK.heap.size h (.slice pa pn pc) (.slice wa wn wc) x code)
            case first =>
              as_aux_lemma =>
              go_region_held3 (fun w' => w'.cell? ⟨w.heap.size, 0, none⟩ = some (.slice a n c) ∧ w'.cell? ⟨w.heap.size, 1, none⟩ = some (.slice b k d) ∧ w'.cell? ⟨G4, 0, none⟩ = some (.slice a4 n4 c4) ∧ w'.cell? ⟨G4, 1, none⟩ = some (.slice b4 k4 d4))
                ((with_reducible (first | assumption | exact ms_new kI _ | exact ms_new kK _ | exact ms_far kK n6 _ _ _ _ | exact ms_far kK n5 _ _ _ _ | exact ms_new k0 _ | exact kD | exact ms_dr (ms_new k0 _))))
                (first
                  | (go_at_call 8; first
                      | (refine Calls.mono (CopyA_any (w := wK.drew) (HAm.out.below (Below.refl _ _).drew) HQm.out) ?_; rintro e w6 ⟨a6, c6, b6, d6, rfl, hA6, hb6⟩; have kI := ms_up hb6 kD; have hb56 : Below wK.heap.size wK w6 := (Below.refl _ wK).drew.trans hb6; have n6 := ms_ne kI)
                      | (refine Calls.mono (CopyA_any (w := (wK.alloc _).drew) (HAm.out.below ((Below.refl _ wK).alloc (Nat.le_refl _) _).drew) HQm.out) ?_; rintro e w6 ⟨a6, c6, b6, d6, rfl, hA6, hb6⟩; have kI := ms_up hb6 (ms_dr (ms_new k0 _)); have hb56 : Below wK.heap.size wK w6 := ((Below.refl _ wK).alloc (Nat.le_refl _) _).drew.trans (hb6.mono (by simp)); have B6 : Whole w6 wK.heap.size 35 #[.bool false, .slice none 0 0, .slice none 0 0, .int .i64 0] := up_whole hb6 (whole_dr (Whole.new wK _ _)); have n5 := ms_ne k0; have hg := Nat.le_refl wK.heap.size))
                  | (go_at_call 7; have hc := fun (W : World) (hb : Below w6.heap.size w6 W) => Satisfies_any (HErr.out.below (below_two hb56 hb)) (hA6.below hb) (HD4J.out.below (below_two hb56 hb)); first
                      | (refine Calls.mono (hc w6 (Below.refl _ _)) ?_; clear hc; rintro e w8 ⟨h8, pa, pn, pc, wa, wn, wc, x8, code, rfl, hO, hb8⟩; have kK := ms_up hb8 kI; have hb58 := below_two hb56 hb8; have hO5 := hO.low hb56.size; first | (have B2 : Whole w6 wK.heap.size 35 #[.bool false, .slice none 0 0, .slice none 0 0, .int .i64 0] := (by assumption); obtain ⟨B1, ⟨C0, C1, C2, C3⟩, F0, F1, F2, F3⟩ := pack_v (up_whole hb8 B2); clear B2) | skip)
                      | (refine Calls.mono (hc (w6.alloc _) ((Below.refl _ _).alloc (Nat.le_refl _) _)) ?_; clear hc; rintro e w8 ⟨h8, pa, pn, pc, wa, wn, wc, x8, code, rfl, hO, hb8⟩; have kK := ms_up hb8 (ms_new kI _); have hb68 := below_two ((Below.refl _ w6).alloc (Nat.le_refl _) _) hb8; have hb58 := below_two hb56 hb68; have hO5 := hO.low (Nat.le_trans hb56.size (by simp)); have hg := hb56.size; obtain ⟨B1, ⟨C0, C1, C2, C3⟩, F0, F1, F2, F3⟩ := pack_v (up_whole hb8 (Whole.new w6 _ _)))))
              all_goals
                go_wp2_with fail
                go_meet
                first
                  | exact ⟨_, _, _, _, _, _, _, _, _, _, rfl, rfl, hb58.alloc hb58.size _, hb58.size, Whole.new _ _ _, hO5.up ((Below.refl _ _).alloc (Nat.le_refl _) _)⟩
                  | exact ⟨_, _, _, _, _, _, _, _, _, _, rfl, rfl, (((hb58.setCell hg _).setCell hg _).setCell hg _).setCell hg _, hg, (((B1.set 0 _).set 1 _).set 2 _).set 3 _, hO5.put4 B1 _ _ _ _⟩
            case rest =>
              as_aux_lemma =>
              obtain ⟨wL, hwX⟩ : ∃ z, z = wc := ⟨_, rfl⟩
              subst hwX
              obtain ⟨gwL, hwL, pawL, pnwL, pcwL, wawL, wnwL, wcwL, xwL, codewL, rfl, rfl, hbc, hg, hWc, hO⟩ := hcut
              have HBc := Lib.hid hbc
              have H0wL := Lib.hid (H0J.out.trans (hbc.mono H0J.out.size))
              have HVwL := Lib.hid hWc
              have HOwL := Lib.hid hO
              clear hbc hg hWc hO k0 kD HErr HX1 HX2 HB5 HAm HS5
              obtain ⟨hcl, hhl⟩ := satOut_all HM.out HOwL.out
              subst hcl
              subst hhl
              have HW5L := Lib.hid (HW5.out.below HBc.out HW5.out.lt)
              have HD5L := Lib.hid (HD5.out.below HBc.out)
              clear HOwL HBc
              have h05 := H0wL.out
              have HB5 := Lib.hid (HB0.out.trans (h05.mono HB0.out.size))
              have HX1 := Lib.hid (H1.out.below h05 H1.out.lt)
              have HX2 := Lib.hid (H2.out.below h05 H2.out.lt)
              have HAm := Lib.hid (HA.out.below HB5.out)
              have HS5 := Lib.hid (HS.out.below HB5.out)
              obtain ⟨e0, e1, e2, hErr⟩ := (HE.out.below HB5.out).errs
              have HErr := Lib.hid hErr
              have k0 : wL.cell? ⟨w.heap.size, 0, none⟩ = some (.slice a n c) ∧ wL.cell? ⟨w.heap.size, 1, none⟩ = some (.slice b k d) ∧ wL.cell? ⟨G5, 0, none⟩ = some (.slice a5 n5 c5) ∧ wL.cell? ⟨G5, 1, none⟩ = some (.slice b5 k5 d5) := ⟨HX1.out.cell 0, HX1.out.cell 1, HW5L.out.cell 0, HW5L.out.cell 1⟩
              have kD := ms_dr k0
              clear h05 hErr
              go_wp2_with fail
              go_cut [15, 16] (fun s9 s10 wx => ∃ g h pa pn pc wa wn wc x code, s9 = .pointer (some ⟨g, 0, none⟩) ∧ s10 = .int .i64 code ∧ Below wL.heap.size wL wx ∧ wL.heap.size ≤ g ∧ Whole wx g 35 #[.bool h, .slice pa pn pc, .slice wa wn wc, .int .i64 x] ∧ SatOut m (noneV m.acts) wx wL.heap.size h (.slice pa pn pc) (.slice wa wn wc) x code)
              case first =>
                as_aux_lemma =>
                go_region_held3 (fun w' => w'.cell? ⟨w.heap.size, 0, none⟩ = some (.slice a n c) ∧ w'.cell? ⟨w.heap.size, 1, none⟩ = some (.slice b k d) ∧ w'.cell? ⟨G5, 0, none⟩ = some (.slice a5 n5 c5) ∧ w'.cell? ⟨G5, 1, none⟩ = some (.slice b5 k5 d5))
                  ((with_reducible (first | assumption | exact ms_new kI _ | exact ms_new kK _ | exact ms_far kK n6 _ _ _ _ | exact ms_far kK n5 _ _ _ _ | exact ms_new k0 _ | exact kD | exact ms_dr (ms_new k0 _))))
                  (first
                    | (go_at_call 8; first
                        | (refine Calls.mono (CopyA_any (w := wL.drew) (HAm.out.below (Below.refl _ _).drew) HQm.out) ?_; rintro e w6 ⟨a6, c6, b6, d6, rfl, hA6, hb6⟩; have kI := ms_up hb6 kD; have hb56 : Below wL.heap.size wL w6 := (Below.refl _ wL).drew.trans hb6; have n6 := ms_ne kI)
                        | (refine Calls.mono (CopyA_any (w := (wL.alloc _).drew) (HAm.out.below ((Below.refl _ wL).alloc (Nat.le_refl _) _).drew) HQm.out) ?_; rintro e w6 ⟨a6, c6, b6, d6, rfl, hA6, hb6⟩; have kI := ms_up hb6 (ms_dr (ms_new k0 _)); have hb56 : Below wL.heap.size wL w6 := ((Below.refl _ wL).alloc (Nat.le_refl _) _).drew.trans (hb6.mono (by simp)); have B6 : Whole w6 wL.heap.size 35 #[.bool false, .slice none 0 0, .slice none 0 0, .int .i64 0] := up_whole hb6 (whole_dr (Whole.new wL _ _)); have n5 := ms_ne k0; have hg := Nat.le_refl wL.heap.size))
                    | (go_at_call 7; have hc := fun (W : World) (hb : Below w6.heap.size w6 W) => Satisfies_any (HErr.out.below (below_two hb56 hb)) (hA6.below hb) (HD5L.out.below (below_two hb56 hb)); first
                        | (refine Calls.mono (hc w6 (Below.refl _ _)) ?_; clear hc; rintro e w8 ⟨h8, pa, pn, pc, wa, wn, wc, x8, code, rfl, hO, hb8⟩; have kK := ms_up hb8 kI; have hb58 := below_two hb56 hb8; have hO5 := hO.low hb56.size; first | (have B2 : Whole w6 wL.heap.size 35 #[.bool false, .slice none 0 0, .slice none 0 0, .int .i64 0] := (by assumption); obtain ⟨B1, ⟨C0, C1, C2, C3⟩, F0, F1, F2, F3⟩ := pack_v (up_whole hb8 B2); clear B2) | skip)
                        | (refine Calls.mono (hc (w6.alloc _) ((Below.refl _ _).alloc (Nat.le_refl _) _)) ?_; clear hc; rintro e w8 ⟨h8, pa, pn, pc, wa, wn, wc, x8, code, rfl, hO, hb8⟩; have kK := ms_up hb8 (ms_new kI _); have hb68 := below_two ((Below.refl _ w6).alloc (Nat.le_refl _) _) hb8; have hb58 := below_two hb56 hb68; have hO5 := hO.low (Nat.le_trans hb56.size (by simp)); have hg := hb56.size; obtain ⟨B1, ⟨C0, C1, C2, C3⟩, F0, F1, F2, F3⟩ := pack_v (up_whole hb8 (Whole.new w6 _ _)))))
                all_goals
                  go_wp2_with fail
                  go_meet
                  first
                    | exact ⟨_, _, _, _, _, _, _, _, _, _, rfl, rfl, hb58.alloc hb58.size _, hb58.size, Whole.new _ _ _, hO5.up ((Below.refl _ _).alloc (Nat.le_refl _) _)⟩
                    | exact ⟨_, _, _, _, _, _, _, _, _, _, rfl, rfl, (((hb58.setCell hg _).setCell hg _).setCell hg _).setCell hg _, hg, (((B1.set 0 _).set 1 _).set 2 _).set 3 _, hO5.put4 B1 _ _ _ _⟩
              case rest =>
                as_aux_lemma =>
                obtain ⟨wN, hwX⟩ : ∃ z, z = wc := ⟨_, rfl⟩
                subst hwX
                obtain ⟨gwN, hwN, pawN, pnwN, pcwN, wawN, wnwN, wcwN, xwN, codewN, rfl, rfl, hbc, hg, hWc, hO⟩ := hcut
                have HBc := Lib.hid hbc
                have H0wN := Lib.hid (H0wL.out.trans (hbc.mono H0wL.out.size))
                have HVwN := Lib.hid hWc
                have HOwN := Lib.hid hO
                clear hbc hg hWc hO k0 kD HErr HX1 HX2 HB5 HAm HS5
                obtain ⟨hcl, hhl⟩ := satOut_none HM.out HOwN.out
                subst hcl
                subst hhl
                have y0 := (HVwL.out.below HBc.out HVwL.out.lt).cell 0
                have y1 := HVwN.out.cell 0
                have hx9 := H1.out.below H0wN.out H1.out.lt
                have z0 := hx9.cell 0
                have z1 := hx9.cell 1
                simp only [List.getElem?_toArray, List.getElem?_cons_succ, List.getElem?_cons_zero] at y0 y1 z0 z1
                have HBN := Lib.hid (HB0.out.trans (H0wN.out.mono HB0.out.size))
                have HCp := Lib.hid (CopyA_any (HA.out.below HBN.out) HQm.out)
                clear HOwN HBc hx9
                go_wp2_with fail
                refine HCp.out.mono ?_
                rintro e wO ⟨a6, c6, b6, d6, rfl, hA6, hb6⟩
                have H0O := Lib.hid (H0wN.out.trans (hb6.mono H0wN.out.size))
                have HBO := Lib.hid (HB0.out.trans (H0O.out.mono HB0.out.size))
                obtain ⟨e0, e1, e2, hEr⟩ := (HE.out.below HBO.out).errs
                have hOf := OfA_any hEr hA6
                clear hA6 hb6 hEr y0 y1 z0 z1
                by_cases hk5 : 500 < m.states.length
                · rw [ofV_large HM.out hk5] at hOf
                  have HOf := Lib.hid hOf
                  clear hOf hk5
                  go_wp2_with fail
                  refine HOf.out.mono ?_
                  rintro e wP ⟨a7, n7, c7, b7, k7, d7, rfl, hD, hbD⟩
                  have H0P := Lib.hid (H0O.out.trans ((hbD.alloc hbD.size (.cells #[.slice a7 n7 c7, .slice b7 k7 d7] 28)).mono H0O.out.size))
                  clear hD hbD
                  have HBq := Lib.hid (HB0.out.trans (H0P.out.mono HB0.out.size))
                  go_wp2_with fail
                  refine (awakeS_any (HE.out.below HBq.out) (HT.out.below HBq.out)).mono ?_
                  rintro e wq ⟨rfl, hbq⟩
                  have HBr := Lib.hid (HBq.out.trans (hbq.mono HBq.out.size))
                  clear hbq
                  go_wp2
                  go_ret
                  exact ⟨rfl, HBr.out⟩
                · cases hq : ofQ m with
                  | none =>
                    rw [ofV_none HM.out hk5 hq] at hOf
                    have HOf := Lib.hid hOf
                    clear hOf hk5 hq
                    go_wp2_with fail
                    refine HOf.out.mono ?_
                    rintro e wP ⟨a7, n7, c7, b7, k7, d7, rfl, hD, hbD⟩
                    have H0P := Lib.hid (H0O.out.trans ((hbD.alloc hbD.size (.cells #[.slice a7 n7 c7, .slice b7 k7 d7] 28)).mono H0O.out.size))
                    clear hD hbD
                    have HBq := Lib.hid (HB0.out.trans (H0P.out.mono HB0.out.size))
                    go_wp2_with fail
                    refine (awakeS_any (HE.out.below HBq.out) (HT.out.below HBq.out)).mono ?_
                    rintro e wq ⟨rfl, hbq⟩
                    have HBr := Lib.hid (HBq.out.trans (hbq.mono HBq.out.size))
                    clear hbq
                    go_wp2
                    go_ret
                    exact ⟨rfl, HBr.out⟩
                  | some sq =>
                    rw [ofV_some HM.out hk5 hq] at hOf
                    have HOf := Lib.hid hOf
                    have HK5 := Lib.hid hk5
                    have HQq := Lib.hid hq
                    clear hOf hk5 hq
                    go_wp2_with fail
                    refine HOf.out.mono ?_
                    rintro e wP ⟨a7, n7, c7, b7, k7, d7, rfl, hD, hbD⟩
                    have hbD1 := hbD.alloc hbD.size (.cells #[.slice a7 n7 c7, .slice b7 k7 d7] 28)
                    have H0P := Lib.hid (H0O.out.trans (hbD1.mono H0O.out.size))
                    have HW7 := Lib.hid (Whole.new wP 28 #[.slice a7 n7 c7, .slice b7 k7 d7])
                    have HD7 := Lib.hid (hD.below ((Below.refl _ wP).alloc (Nat.le_refl _) (.cells #[.slice a7 n7 c7, .slice b7 k7 d7] 28)))
                    obtain ⟨G7, HG7⟩ : ∃ z, Hid (wP.heap.size = z) := ⟨_, Lib.hid rfl⟩
                    rw [HG7.out] at HW7
                    obtain ⟨wQ, HWQ⟩ : ∃ z, Hid (wP.alloc (.cells #[.slice a7 n7 c7, .slice b7 k7 d7] 28) = z) := ⟨_, Lib.hid rfl⟩
                    rw [HWQ.out] at H0P HW7 HD7
                    clear hD hbD hbD1
                    have h05 := H0P.out
                    have HB5 := Lib.hid (HB0.out.trans (h05.mono HB0.out.size))
                    have HX1 := Lib.hid (H1.out.below h05 H1.out.lt)
                    have HX2 := Lib.hid (H2.out.below h05 H2.out.lt)
                    have HAm := Lib.hid (HA.out.below HB5.out)
                    have HS5 := Lib.hid (HS.out.below HB5.out)
                    obtain ⟨e0, e1, e2, hErr⟩ := (HE.out.below HB5.out).errs
                    have HErr := Lib.hid hErr
                    have k0 : wQ.cell? ⟨w.heap.size, 0, none⟩ = some (.slice a n c) ∧ wQ.cell? ⟨w.heap.size, 1, none⟩ = some (.slice b k d) ∧ wQ.cell? ⟨G7, 0, none⟩ = some (.slice a7 n7 c7) ∧ wQ.cell? ⟨G7, 1, none⟩ = some (.slice b7 k7 d7) := ⟨HX1.out.cell 0, HX1.out.cell 1, HW7.out.cell 0, HW7.out.cell 1⟩
                    have kD := ms_dr k0
                    clear h05 hErr
                    go_wp2_with fail
                    rw [HWQ.out, HG7.out]
                    go_cut [20, 21] (fun s9 s10 wx => ∃ g h pa pn pc wa wn wc x code, s9 = .pointer (some ⟨g, 0, none⟩) ∧ s10 = .int .i64 code ∧ Below wQ.heap.size wQ wx ∧ wQ.heap.size ≤ g ∧ Whole wx g 35 #[.bool h, .slice pa pn pc, .slice wa wn wc, .int .i64 x] ∧ SatOut m sq wx wQ.heap.size h (.slice pa pn pc) (.slice wa wn wc) x code)
                    case first =>
                      as_aux_lemma =>
                      go_region_held3 (fun w' => w'.cell? ⟨w.heap.size, 0, none⟩ = some (.slice a n c) ∧ w'.cell? ⟨w.heap.size, 1, none⟩ = some (.slice b k d) ∧ w'.cell? ⟨G7, 0, none⟩ = some (.slice a7 n7 c7) ∧ w'.cell? ⟨G7, 1, none⟩ = some (.slice b7 k7 d7))
                        ((with_reducible (first | assumption | exact ms_new kI _ | exact ms_new kK _ | exact ms_far kK n6 _ _ _ _ | exact ms_far kK n5 _ _ _ _ | exact ms_new k0 _ | exact kD | exact ms_dr (ms_new k0 _))))
                        (first
                          | (go_at_call 8; first
                              | (refine Calls.mono (CopyA_any (w := wQ.drew) (HAm.out.below (Below.refl _ _).drew) HQm.out) ?_; rintro e w6 ⟨a6, c6, b6, d6, rfl, hA6, hb6⟩; have kI := ms_up hb6 kD; have hb56 : Below wQ.heap.size wQ w6 := (Below.refl _ wQ).drew.trans hb6; have n6 := ms_ne kI)
                              | (refine Calls.mono (CopyA_any (w := (wQ.alloc _).drew) (HAm.out.below ((Below.refl _ wQ).alloc (Nat.le_refl _) _).drew) HQm.out) ?_; rintro e w6 ⟨a6, c6, b6, d6, rfl, hA6, hb6⟩; have kI := ms_up hb6 (ms_dr (ms_new k0 _)); have hb56 : Below wQ.heap.size wQ w6 := ((Below.refl _ wQ).alloc (Nat.le_refl _) _).drew.trans (hb6.mono (by simp)); have B6 : Whole w6 wQ.heap.size 35 #[.bool false, .slice none 0 0, .slice none 0 0, .int .i64 0] := up_whole hb6 (whole_dr (Whole.new wQ _ _)); have n5 := ms_ne k0; have hg := Nat.le_refl wQ.heap.size))
                          | (go_at_call 7; have hc := fun (W : World) (hb : Below w6.heap.size w6 W) => Satisfies_any (HErr.out.below (below_two hb56 hb)) (hA6.below hb) (HD7.out.below (below_two hb56 hb)); first
                              | (refine Calls.mono (hc w6 (Below.refl _ _)) ?_; clear hc; rintro e w8 ⟨h8, pa, pn, pc, wa, wn, wc, x8, code, rfl, hO, hb8⟩; have kK := ms_up hb8 kI; have hb58 := below_two hb56 hb8; have hO5 := hO.low hb56.size; first | (have B2 : Whole w6 wQ.heap.size 35 #[.bool false, .slice none 0 0, .slice none 0 0, .int .i64 0] := (by assumption); obtain ⟨B1, ⟨C0, C1, C2, C3⟩, F0, F1, F2, F3⟩ := pack_v (up_whole hb8 B2); clear B2) | skip)
                              | (refine Calls.mono (hc (w6.alloc _) ((Below.refl _ _).alloc (Nat.le_refl _) _)) ?_; clear hc; rintro e w8 ⟨h8, pa, pn, pc, wa, wn, wc, x8, code, rfl, hO, hb8⟩; have kK := ms_up hb8 (ms_new kI _); have hb68 := below_two ((Below.refl _ w6).alloc (Nat.le_refl _) _) hb8; have hb58 := below_two hb56 hb68; have hO5 := hO.low (Nat.le_trans hb56.size (by simp)); have hg := hb56.size; obtain ⟨B1, ⟨C0, C1, C2, C3⟩, F0, F1, F2, F3⟩ := pack_v (up_whole hb8 (Whole.new w6 _ _)))))
                      all_goals
                        go_wp2_with fail
                        go_meet
                        first
                          | exact ⟨_, _, _, _, _, _, _, _, _, _, rfl, rfl, hb58.alloc hb58.size _, hb58.size, Whole.new _ _ _, hO5.up ((Below.refl _ _).alloc (Nat.le_refl _) _)⟩
                          | exact ⟨_, _, _, _, _, _, _, _, _, _, rfl, rfl, (((hb58.setCell hg _).setCell hg _).setCell hg _).setCell hg _, hg, (((B1.set 0 _).set 1 _).set 2 _).set 3 _, hO5.put4 B1 _ _ _ _⟩
                    case rest =>
                      as_aux_lemma =>
                      obtain ⟨wR, hwX⟩ : ∃ z, z = wc := ⟨_, rfl⟩
                      subst hwX
                      obtain ⟨gwR, hwR, pawR, pnwR, pcwR, wawR, wnwR, wcwR, xwR, codewR, rfl, rfl, hbc, hg, hWc, hO⟩ := hcut
                      have HBc := Lib.hid hbc
                      have H0wR := Lib.hid (H0P.out.trans (hbc.mono H0P.out.size))
                      have HVwR := Lib.hid hWc
                      have HOwR := Lib.hid hO
                      clear hbc hg hWc hO k0 kD HErr HX1 HX2 HB5 HAm HS5
                      obtain ⟨hcl, hhl⟩ := satOut_own HM.out HK5.out HQq.out HOwR.out
                      subst hcl
                      subst hhl
                      have y1 := HVwR.out.cell 0
                      simp only [List.getElem?_toArray, List.getElem?_cons_zero] at y1
                      clear HOwR HBc
                      have HBq := Lib.hid (HB0.out.trans (H0wR.out.mono HB0.out.size))
                      go_wp2_with fail
                      refine (awakeS_any (HE.out.below HBq.out) (HT.out.below HBq.out)).mono ?_
                      rintro e wq ⟨rfl, hbq⟩
                      have HBr := Lib.hid (HBq.out.trans (hbq.mono HBq.out.size))
                      clear hbq
                      go_wp2
                      go_ret
                      exact ⟨rfl, HBr.out⟩
end Go.Proofs.YtbncofgbpffmkaaGreatDoor
