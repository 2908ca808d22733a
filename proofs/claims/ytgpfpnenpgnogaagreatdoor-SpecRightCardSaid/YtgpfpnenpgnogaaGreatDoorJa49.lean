/- Texts joined: SpRight. -/
import Derived.Test.YtgpfpnenpgnogaaGreatDoorJa39
import Derived.Test.YtgpfpnenpgnogaaGreatDoorJa48
import Derived.Test.YtgpfpnenpgnogaaGreatDoorJa33
import Derived.Test.YtgpfpnenpgnogaaGreatDoorJa47
import Derived.Test.YtgpfpnenpgnogaaGreatDoorJa26
import Derived.Deep.DeepCutAuto
/- SpecRight: Right answers as the reference. -/
namespace Go.Proofs.YtgpfpnenpgnogaaGreatDoor
open Go.RowKit Pl

section
variable {W W' : World} {p1 p2 p3 p4 p5 p6 p7 p8 : Addr} {v1 v2 v3 v4 v5 v6 v7 v8 : Value}
theorem up8 (hb : Below W.heap.size W W') (h : W.cell? p1 = some v1 ∧ W.cell? p2 = some v2 ∧ W.cell? p3 = some v3 ∧ W.cell? p4 = some v4 ∧ W.cell? p5 = some v5 ∧ W.cell? p6 = some v6 ∧ W.cell? p7 = some v7 ∧ W.cell? p8 = some v8) :
    W'.cell? p1 = some v1 ∧ W'.cell? p2 = some v2 ∧ W'.cell? p3 = some v3 ∧ W'.cell? p4 = some v4 ∧ W'.cell? p5 = some v5 ∧ W'.cell? p6 = some v6 ∧ W'.cell? p7 = some v7 ∧ W'.cell? p8 = some v8 :=
  ⟨up_cell hb h.1, up_cell hb h.2.1, up_cell hb h.2.2.1, up_cell hb h.2.2.2.1, up_cell hb h.2.2.2.2.1, up_cell hb h.2.2.2.2.2.1, up_cell hb h.2.2.2.2.2.2.1, up_cell hb h.2.2.2.2.2.2.2⟩
end
theorem keep8 {W : World} {g1 g2 g3 : Nat} {t1 t2 t3 : TypeId} {x1 x2 x3 x4 x5 x6 x7 x8 : Value} (h1 : Whole W g1 t1 #[x1, x2]) (h2 : Whole W g2 t2 #[x3, x4]) (h3 : Whole W g3 t3 #[x5, x6, x7, x8]) :
    W.cell? ⟨g1, 0, none⟩ = some x1 ∧ W.cell? ⟨g1, 1, none⟩ = some x2 ∧ W.cell? ⟨g2, 0, none⟩ = some x3 ∧ W.cell? ⟨g2, 1, none⟩ = some x4 ∧ W.cell? ⟨g3, 0, none⟩ = some x5 ∧ W.cell? ⟨g3, 1, none⟩ = some x6 ∧ W.cell? ⟨g3, 2, none⟩ = some x7 ∧ W.cell? ⟨g3, 3, none⟩ = some x8 :=
  ⟨h1.cell 0, h1.cell 1, h2.cell 0, h2.cell 1, h3.cell 0, h3.cell 1, h3.cell 2, h3.cell 3⟩

set_option maxRecDepth 100000 in
set_option maxHeartbeats 16000000 in
theorem SpecRight_any {w : World} {a : Option Addr} {n c : Nat} {b : Option Addr} {k d : Nat} {m : Syst} {a' : Option Addr} {n' c' : Nat} {b' : Option Addr} {k' d' : Nat} {s : Spc} {pa : Option Addr} {pn pc : Nat} {L : List Edg} {wa : Option Addr} {wn wc : Nat} {word : List Int} (h : Bool) (st : Int) (E : Env w) (T : Tab w) (A : SysArg w a n c b k d m) (S : SpecArg w a' n' c' b' k' d' s) (P : EdgeArg w pa pn pc L) (Wd : IntArg w wa wn wc word) :
    Calls Tryz.prog 4 #[.agg #[.slice a n c, .slice b k d], .agg #[.slice a' n' c', .slice b' k' d'], .agg #[.bool h, .slice pa pn pc, .slice wa wn wc, .int .i64 st]] w fun e w' => e = .returned (.bool true) ∧ Below w.heap.size w w' := by
  have hb0 := (((Below.refl w.heap.size w).alloc (Nat.le_refl _) (.cells #[.slice a n c, .slice b k d] 25)).alloc (by simp) (.cells #[.slice a' n' c', .slice b' k' d'] 28)).alloc (by simp; omega) (.cells #[.bool h, .slice pa pn pc, .slice wa wn wc, .int .i64 st] 39)
  have h1 := ((Whole.new w 25 #[.slice a n c, .slice b k d]).alloc (.cells #[.slice a' n' c', .slice b' k' d'] 28)).alloc (.cells #[.bool h, .slice pa pn pc, .slice wa wn wc, .int .i64 st] 39)
  have h2 := (Whole.new (w.alloc (.cells #[.slice a n c, .slice b k d] 25)) 28 #[.slice a' n' c', .slice b' k' d']).alloc (.cells #[.bool h, .slice pa pn pc, .slice wa wn wc, .int .i64 st] 39)
  have h3 := Whole.new ((w.alloc (.cells #[.slice a n c, .slice b k d] 25)).alloc (.cells #[.slice a' n' c', .slice b' k' d'] 28)) 39 #[.bool h, .slice pa pn pc, .slice wa wn wc, .int .i64 st]
  simp only [World.size_alloc] at h2 h3
  obtain ⟨w0, HW0⟩ : ∃ z, Hid (((w.alloc (.cells #[.slice a n c, .slice b k d] 25)).alloc (.cells #[.slice a' n' c', .slice b' k' d'] 28)).alloc (.cells #[.bool h, .slice pa pn pc, .slice wa wn wc, .int .i64 st] 39) = z) := ⟨_, Lib.hid rfl⟩
  rw [HW0.out] at hb0 h1 h2 h3
  have H1 := Lib.hid h1
  have H2 := Lib.hid h2
  have H3 : Hid (Whole w0 (w.heap.size + 2) 39 #[.bool h, .slice pa pn pc, .slice wa wn wc, .int .i64 st]) := Lib.hid h3
  have HB0 := Lib.hid hb0
  have HF1 := Lib.hid (Few_any 1000 (by decide) (A.below hb0))
  obtain ⟨w1, HW1⟩ : ∃ z, Hid (w0.alloc (.cells #[.slice a n c, .slice b k d] 25) = z) := ⟨_, Lib.hid rfl⟩
  have hb01 := (Below.refl w0.heap.size w0).alloc (Nat.le_refl _) (.cells #[.slice a n c, .slice b k d] 25)
  rw [HW1.out] at hb01 HF1
  have HB01 := Lib.hid hb01
  have HB1 := Lib.hid (hb0.trans (hb01.mono hb0.size))
  have HF2 := Lib.hid (SFew_any 1000 (by decide) (S.below HB1.out))
  have q0 : w0.cell? ⟨w.heap.size, 0, none⟩ = some (.slice a n c) := h1.cell 0
  have q1 : w0.cell? ⟨w.heap.size, 1, none⟩ = some (.slice b k d) := h1.cell 1
  have hx1 := h2.below hb01 h2.lt
  have r0 : w1.cell? ⟨w.heap.size + 1, 0, none⟩ = some (.slice a' n' c') := hx1.cell 0
  have r1 : w1.cell? ⟨w.heap.size + 1, 1, none⟩ = some (.slice b' k' d') := hx1.cell 1
  have HA := Lib.hid A
  have HS := Lib.hid S
  have HP := Lib.hid P
  have HWd := Lib.hid Wd
  have HE := Lib.hid E
  have HT := Lib.hid T
  have hpb : pn ≤ 140737488355328 := P.big
  have hwb : wn ≤ 9223372036854775807 := Wd.big
  have HPl : Hid (L = [] ↔ pn = 0) := Lib.hid (by rw [P.len]; exact List.length_eq_zero_iff.symm)
  have HWl : Hid (word = [] ↔ wn = 0) := Lib.hid (by rw [Wd.len]; exact List.length_eq_zero_iff.symm)
  clear hb0 h1 h2 h3 hb01 hx1 A S E T P Wd
  cases hf : fewB m 1000
  · rw [hf] at HF1
    go_enter Tryz.func4, Tryz.ntmps4
    go_wp2_with fail
    rw [HW0.out]
    refine HF1.out.mono ?_
    rintro e w' ⟨rfl, rfl⟩
    go_wp2_with fail
    refine (awakeS_any (HE.out.below HB1.out) (HT.out.below HB1.out)).mono ?_
    rintro e w2 ⟨rfl, hb2⟩
    have HB2 := Lib.hid (HB1.out.trans (hb2.mono (HB1.out).size))
    clear hb2
    go_wp2
    go_ret
    exact ⟨rfl, HB2.out⟩
  · rw [hf] at HF1
    have HQm : Hid (m.acts.length + m.states.length + total m.states ≤ 1000000) := Lib.hid (by have := (fewB_iff m 1000).1 hf; omega)
    clear hf
    cases hf : fewS s 1000
    · rw [hf] at HF2
      go_enter Tryz.func4, Tryz.ntmps4
      go_wp2_with fail
      rw [HW0.out]
      refine HF1.out.mono ?_
      rintro e w' ⟨rfl, rfl⟩
      go_wp2_with fail
      refine HF2.out.mono ?_
      rintro e w2 ⟨rfl, hb2⟩
      have HB2 := Lib.hid (HB1.out.trans (hb2.mono HB1.out.size))
      clear hb2
      go_wp2_with fail
      refine (awakeS_any (HE.out.below HB2.out) (HT.out.below HB2.out)).mono ?_
      rintro e w3 ⟨rfl, hb3⟩
      have HB3 := Lib.hid (HB2.out.trans (hb3.mono (HB2.out).size))
      clear hb3
      go_wp2
      go_ret
      exact ⟨rfl, HB3.out⟩
    · rw [hf] at HF2
      have HQs : Hid (s.acts.length + s.states.length + totalS s.states ≤ 1000000) := Lib.hid (by have := (fewS_iff s 1000).1 hf; omega)
      clear hf
      go_enter Tryz.func4, Tryz.ntmps4
      go_wp2_with fail
      rw [HW0.out]
      refine HF1.out.mono ?_
      rintro e w' ⟨rfl, rfl⟩
      go_wp2_with fail
      refine HF2.out.mono ?_
      rintro e w2 ⟨rfl, hb2⟩
      have hb02 := HB01.out.trans (hb2.mono HB01.out.size)
      have HB02 := Lib.hid hb02
      have HB2 := Lib.hid (HB0.out.trans (hb02.mono HB0.out.size))
      obtain ⟨p0, p1, p2, p3, p4, p5, p6, p7⟩ := keep8 (H1.out.below hb02 H1.out.lt) (H2.out.below hb02 H2.out.lt) (H3.out.below hb02 H3.out.lt)
      clear hb2 hb02 q0 q1 r0 r1
      by_cases hpl : 3000 < pn
      · have hpl2 : (3000 : Int) < (pn : Int) := by omega
        clear hpl
        go_wp2_with fail
        refine (awakeS_any (HE.out.below HB2.out) (HT.out.below HB2.out)).mono ?_
        rintro e w3 ⟨rfl, hb3⟩
        have HB3 := Lib.hid (HB2.out.trans (hb3.mono (HB2.out).size))
        clear hb3
        go_wp2
        go_ret
        exact ⟨rfl, HB3.out⟩
      · by_cases hwl : 300 < wn
        · have hpl2 : ¬ (3000 : Int) < (pn : Int) := by omega
          have hwl2 : (300 : Int) < (wn : Int) := by omega
          clear hpl hwl
          go_wp2_with fail
          refine (awakeS_any (HE.out.below HB2.out) (HT.out.below HB2.out)).mono ?_
          rintro e w3 ⟨rfl, hb3⟩
          have HB3 := Lib.hid (HB2.out.trans (hb3.mono (HB2.out).size))
          clear hb3
          go_wp2
          go_ret
          exact ⟨rfl, HB3.out⟩
        · have hpl2 : ¬ (3000 : Int) < (pn : Int) := by omega
          have hwl2 : ¬ (300 : Int) < (wn : Int) := by omega
          have hpl : pn ≤ 3000 := by omega
          have hwl : wn ≤ 300 := by omega
          obtain ⟨cb, HCb⟩ : ∃ z, Hid (bothC m s = z) := ⟨_, Lib.hid rfl⟩
          have hbo := both_any (HA.out.below HB2.out) (HS.out.below HB2.out) (by have := HQm.out; omega)
          rw [HCb.out] at hbo
          have HBo := Lib.hid hbo
          clear hbo
          go_wp2_with fail
          refine HBo.out.mono ?_
          rintro e w3 ⟨rfl, hb3⟩
          have hb03 := HB02.out.trans (hb3.mono HB02.out.size)
          have HB03 := Lib.hid hb03
          have HB3 := Lib.hid (HB0.out.trans (hb03.mono HB0.out.size))
          clear hb3 p0 p1 p2 p3 p4 p5 p6 p7 hpl2 hwl2
          obtain ⟨p0, p1, p2, p3, p4, p5, p6, p7⟩ := keep8 (H1.out.below hb03 H1.out.lt) (H2.out.below hb03 H2.out.lt) (H3.out.below hb03 H3.out.lt)
          clear hb03
          by_cases hc : cb = 0
          · subst hc
            obtain ⟨hm, hs, ha⟩ := bothC_zero' HCb.out
            have HM := Lib.hid hm
            have HSp := Lib.hid hs
            have HAc := Lib.hid ha
            have HCb2 : Hid (bothC m s = 0) := HCb
            clear hm hs ha
            cases h
            · have HR0 : Hid (rightB m s false L word st = (decide (L = []) && faultB m s word st)) := Lib.hid (by unfold rightB; rw [if_pos HCb.out]; rfl)
              by_cases hp0 : pn = 0
              · have HF := IsFault_any (HA.out.below HB3.out) (HS.out.below HB3.out) HM.out HSp.out HAc.out (HWd.out.below HB3.out) st
                obtain ⟨R, HR⟩ : ∃ z, Hid (faultB m s word st = z) := ⟨_, Lib.hid rfl⟩
                rw [HR.out] at HF
                have HF := Lib.hid HF
                have HRt : Hid (rightB m s false L word st = R) := Lib.hid (by rw [HR0.out, decide_eq_true (HPl.out.2 hp0), Bool.true_and, HR.out])
                have hrr : (R == R) = true := by simp
                subst hp0
                go_wp2_with fail
                refine HF.out.mono ?_
                rintro e w4 ⟨rfl, hb4⟩
                have HB04 := Lib.hid (HB03.out.trans (hb4.mono HB03.out.size))
                clear hb4 p0 p1 p2 p3 p4 p5 p6 p7
                have h05 := HB04.out
                have HB5 := Lib.hid (HB0.out.trans (h05.mono HB0.out.size))
                have k0 : w4.cell? ⟨w.heap.size, 0, none⟩ = some (.slice a n c) ∧ w4.cell? ⟨w.heap.size, 1, none⟩ = some (.slice b k d) ∧ w4.cell? ⟨w.heap.size + 1, 0, none⟩ = some (.slice a' n' c') ∧ w4.cell? ⟨w.heap.size + 1, 1, none⟩ = some (.slice b' k' d') ∧ w4.cell? ⟨w.heap.size + 2, 0, none⟩ = some (.bool false) ∧ w4.cell? ⟨w.heap.size + 2, 1, none⟩ = some (.slice pa 0 pc) ∧ w4.cell? ⟨w.heap.size + 2, 2, none⟩ = some (.slice wa wn wc) ∧ w4.cell? ⟨w.heap.size + 2, 3, none⟩ = some (.int .i64 st) := keep8 (H1.out.below h05 H1.out.lt) (H2.out.below h05 H2.out.lt) (H3.out.below h05 H3.out.lt)
                have kD : w4.drew.cell? ⟨w.heap.size, 0, none⟩ = some (.slice a n c) ∧ w4.drew.cell? ⟨w.heap.size, 1, none⟩ = some (.slice b k d) ∧ w4.drew.cell? ⟨w.heap.size + 1, 0, none⟩ = some (.slice a' n' c') ∧ w4.drew.cell? ⟨w.heap.size + 1, 1, none⟩ = some (.slice b' k' d') ∧ w4.drew.cell? ⟨w.heap.size + 2, 0, none⟩ = some (.bool false) ∧ w4.drew.cell? ⟨w.heap.size + 2, 1, none⟩ = some (.slice pa 0 pc) ∧ w4.drew.cell? ⟨w.heap.size + 2, 2, none⟩ = some (.slice wa wn wc) ∧ w4.drew.cell? ⟨w.heap.size + 2, 3, none⟩ = some (.int .i64 st) := k0
                have HAm := Lib.hid (HA.out.below HB5.out)
                have HS5 := Lib.hid (HS.out.below HB5.out)
                have HP5 := Lib.hid (HP.out.below HB5.out)
                have HW5 := Lib.hid (HWd.out.below HB5.out)
                obtain ⟨e0, e1, e2, hErr⟩ := (HE.out.below HB5.out).errs
                have HErr := Lib.hid hErr
                clear h05 hErr
                go_wp2_with fail
                go_cut [9, 10] (fun s9 s10 wx => s9 = .bool R ∧ s10 = .int .i64 0 ∧ Below w4.heap.size w4 wx)
                case first =>
                  go_region_held3 (fun w' => w'.cell? ⟨w.heap.size, 0, none⟩ = some (.slice a n c) ∧ w'.cell? ⟨w.heap.size, 1, none⟩ = some (.slice b k d) ∧ w'.cell? ⟨w.heap.size + 1, 0, none⟩ = some (.slice a' n' c') ∧ w'.cell? ⟨w.heap.size + 1, 1, none⟩ = some (.slice b' k' d') ∧ w'.cell? ⟨w.heap.size + 2, 0, none⟩ = some (.bool false) ∧ w'.cell? ⟨w.heap.size + 2, 1, none⟩ = some (.slice pa 0 pc) ∧ w'.cell? ⟨w.heap.size + 2, 2, none⟩ = some (.slice wa wn wc) ∧ w'.cell? ⟨w.heap.size + 2, 3, none⟩ = some (.int .i64 st))
                    ((with_reducible (first | assumption | exact kD)))
                    (first
                      | (go_at_call 12; refine Calls.mono (CopyA_any (w := w4.drew) (HAm.out.below (Below.refl _ _).drew) HQm.out) ?_; rintro e w6 ⟨a6, c6, b6, d6, rfl, hA6, hb6⟩; have kI := up8 hb6 kD; have hb56 : Below w4.heap.size w4 w6 := (Below.refl _ w4).drew.trans hb6)
                      | (go_at_call 13; refine Calls.mono (SCopyA_any (HS5.out.below hb56) HQs.out) ?_; rintro e w7 ⟨a7, c7, b7, d7, rfl, hA7, hb7⟩; have kJ := up8 hb7 kI; have hb57 := below_two hb56 hb7; have hA67 := hA6.below hb7)
                      | (go_at_call 19; refine Calls.mono (copied_any false (HP5.out.below hb57) (HW5.out.below hb57) st hpl hwl) ?_; rintro e w8 ⟨pa8, pc8, wa8, wc8, rfl, hP8, hW8, hb8⟩; have kK := up8 hb8 kJ; have hb58 := below_two hb57 hb8; have hA68 := hA67.below hb8; have hA78 := hA7.below hb8)
                      | (go_at_call 18; refine Calls.mono (Right_any (HErr.out.below hb58) hA68 hA78 false hP8 hW8 st) ?_; rintro e w9 ⟨rfl, hb9⟩; rw [HRt.out, HCb2.out]; have kL := up8 hb9 kK; have hb59 := below_two hb58 hb9))
                  all_goals
                    go_wp2_with fail
                    go_meet
                    exact ⟨rfl, rfl, hb59⟩
                case rest =>
                  obtain ⟨rfl, rfl, hbc⟩ := hcut
                  have HBc := Lib.hid (HB5.out.trans (hbc.mono HB5.out.size))
                  clear hbc k0 kD HErr
                  go_wp2_with fail
                  refine (awakeS_any (HE.out.below HBc.out) (HT.out.below HBc.out)).mono ?_
                  rintro e w7 ⟨rfl, hb7⟩
                  have HB7 := Lib.hid (HBc.out.trans (hb7.mono HBc.out.size))
                  clear hb7
                  go_wp2
                  go_ret
                  exact ⟨rfl, HB7.out⟩
              · have HRt : Hid (rightB m s false L word st = false) := Lib.hid (by rw [HR0.out, decide_eq_false (fun e => hp0 (HPl.out.1 e))]; rfl)
                have hq : ((pn : Int) == 0) = false := by rw [beq_eq_false_iff_ne]; omega
                have h05 := HB03.out
                have HB5 := Lib.hid (HB0.out.trans (h05.mono HB0.out.size))
                have k0 : w3.cell? ⟨w.heap.size, 0, none⟩ = some (.slice a n c) ∧ w3.cell? ⟨w.heap.size, 1, none⟩ = some (.slice b k d) ∧ w3.cell? ⟨w.heap.size + 1, 0, none⟩ = some (.slice a' n' c') ∧ w3.cell? ⟨w.heap.size + 1, 1, none⟩ = some (.slice b' k' d') ∧ w3.cell? ⟨w.heap.size + 2, 0, none⟩ = some (.bool false) ∧ w3.cell? ⟨w.heap.size + 2, 1, none⟩ = some (.slice pa pn pc) ∧ w3.cell? ⟨w.heap.size + 2, 2, none⟩ = some (.slice wa wn wc) ∧ w3.cell? ⟨w.heap.size + 2, 3, none⟩ = some (.int .i64 st) := keep8 (H1.out.below h05 H1.out.lt) (H2.out.below h05 H2.out.lt) (H3.out.below h05 H3.out.lt)
                have kD : w3.drew.cell? ⟨w.heap.size, 0, none⟩ = some (.slice a n c) ∧ w3.drew.cell? ⟨w.heap.size, 1, none⟩ = some (.slice b k d) ∧ w3.drew.cell? ⟨w.heap.size + 1, 0, none⟩ = some (.slice a' n' c') ∧ w3.drew.cell? ⟨w.heap.size + 1, 1, none⟩ = some (.slice b' k' d') ∧ w3.drew.cell? ⟨w.heap.size + 2, 0, none⟩ = some (.bool false) ∧ w3.drew.cell? ⟨w.heap.size + 2, 1, none⟩ = some (.slice pa pn pc) ∧ w3.drew.cell? ⟨w.heap.size + 2, 2, none⟩ = some (.slice wa wn wc) ∧ w3.drew.cell? ⟨w.heap.size + 2, 3, none⟩ = some (.int .i64 st) := k0
                have HAm := Lib.hid (HA.out.below HB5.out)
                have HS5 := Lib.hid (HS.out.below HB5.out)
                have HP5 := Lib.hid (HP.out.below HB5.out)
                have HW5 := Lib.hid (HWd.out.below HB5.out)
                obtain ⟨e0, e1, e2, hErr⟩ := (HE.out.below HB5.out).errs
                have HErr := Lib.hid hErr
                clear h05 hErr
                go_wp2_with fail
                go_cut [9, 10] (fun s9 s10 wx => s9 = .bool false ∧ s10 = .int .i64 0 ∧ Below w3.heap.size w3 wx)
                case first =>
                  go_region_held3 (fun w' => w'.cell? ⟨w.heap.size, 0, none⟩ = some (.slice a n c) ∧ w'.cell? ⟨w.heap.size, 1, none⟩ = some (.slice b k d) ∧ w'.cell? ⟨w.heap.size + 1, 0, none⟩ = some (.slice a' n' c') ∧ w'.cell? ⟨w.heap.size + 1, 1, none⟩ = some (.slice b' k' d') ∧ w'.cell? ⟨w.heap.size + 2, 0, none⟩ = some (.bool false) ∧ w'.cell? ⟨w.heap.size + 2, 1, none⟩ = some (.slice pa pn pc) ∧ w'.cell? ⟨w.heap.size + 2, 2, none⟩ = some (.slice wa wn wc) ∧ w'.cell? ⟨w.heap.size + 2, 3, none⟩ = some (.int .i64 st))
                    ((with_reducible (first | assumption | exact kD)))
                    (first
                      | (go_at_call 12; refine Calls.mono (CopyA_any (w := w3.drew) (HAm.out.below (Below.refl _ _).drew) HQm.out) ?_; rintro e w6 ⟨a6, c6, b6, d6, rfl, hA6, hb6⟩; have kI := up8 hb6 kD; have hb56 : Below w3.heap.size w3 w6 := (Below.refl _ w3).drew.trans hb6)
                      | (go_at_call 13; refine Calls.mono (SCopyA_any (HS5.out.below hb56) HQs.out) ?_; rintro e w7 ⟨a7, c7, b7, d7, rfl, hA7, hb7⟩; have kJ := up8 hb7 kI; have hb57 := below_two hb56 hb7; have hA67 := hA6.below hb7)
                      | (go_at_call 19; refine Calls.mono (copied_any false (HP5.out.below hb57) (HW5.out.below hb57) st hpl hwl) ?_; rintro e w8 ⟨pa8, pc8, wa8, wc8, rfl, hP8, hW8, hb8⟩; have kK := up8 hb8 kJ; have hb58 := below_two hb57 hb8; have hA68 := hA67.below hb8; have hA78 := hA7.below hb8)
                      | (go_at_call 18; refine Calls.mono (Right_any (HErr.out.below hb58) hA68 hA78 false hP8 hW8 st) ?_; rintro e w9 ⟨rfl, hb9⟩; rw [HRt.out, HCb2.out]; have kL := up8 hb9 kK; have hb59 := below_two hb58 hb9))
                  all_goals
                    go_wp2_with fail
                    go_meet
                    exact ⟨rfl, rfl, hb59⟩
                case rest =>
                  obtain ⟨rfl, rfl, hbc⟩ := hcut
                  have HBc := Lib.hid (HB5.out.trans (hbc.mono HB5.out.size))
                  clear hbc k0 kD HErr
                  go_wp2_with fail
                  refine (awakeS_any (HE.out.below HBc.out) (HT.out.below HBc.out)).mono ?_
                  rintro e w7 ⟨rfl, hb7⟩
                  have HB7 := Lib.hid (HBc.out.trans (hb7.mono HBc.out.size))
                  clear hb7
                  go_wp2
                  go_ret
                  exact ⟨rfl, HB7.out⟩
            · have HR0 : Hid (rightB m s true L word st = (decide (word = []) && decide (st = 0) && relB m s L)) := Lib.hid (by unfold rightB; rw [if_pos HCb.out]; rfl)
              by_cases hw0 : wn = 0
              · by_cases hs0 : st = 0
                · have HF := RIsRel_any (HA.out.below HB3.out) (HS.out.below HB3.out) HM.out HSp.out (HP.out.below HB3.out)
                  obtain ⟨R, HR⟩ : ∃ z, Hid (relB m s L = z) := ⟨_, Lib.hid rfl⟩
                  rw [HR.out] at HF
                  have HF := Lib.hid HF
                  have HRt : Hid (rightB m s true L word st = R) := Lib.hid (by rw [HR0.out, decide_eq_true (HWl.out.2 hw0), decide_eq_true hs0, HR.out]; rfl)
                  have hrr : (R == R) = true := by simp
                  subst hw0
                  subst hs0
                  go_wp2_with fail
                  refine HF.out.mono ?_
                  rintro e w4 ⟨rfl, hb4⟩
                  have HB04 := Lib.hid (HB03.out.trans (hb4.mono HB03.out.size))
                  clear hb4 p0 p1 p2 p3 p4 p5 p6 p7
                  have h05 := HB04.out
                  have HB5 := Lib.hid (HB0.out.trans (h05.mono HB0.out.size))
                  have k0 : w4.cell? ⟨w.heap.size, 0, none⟩ = some (.slice a n c) ∧ w4.cell? ⟨w.heap.size, 1, none⟩ = some (.slice b k d) ∧ w4.cell? ⟨w.heap.size + 1, 0, none⟩ = some (.slice a' n' c') ∧ w4.cell? ⟨w.heap.size + 1, 1, none⟩ = some (.slice b' k' d') ∧ w4.cell? ⟨w.heap.size + 2, 0, none⟩ = some (.bool true) ∧ w4.cell? ⟨w.heap.size + 2, 1, none⟩ = some (.slice pa pn pc) ∧ w4.cell? ⟨w.heap.size + 2, 2, none⟩ = some (.slice wa 0 wc) ∧ w4.cell? ⟨w.heap.size + 2, 3, none⟩ = some (.int .i64 0) := keep8 (H1.out.below h05 H1.out.lt) (H2.out.below h05 H2.out.lt) (H3.out.below h05 H3.out.lt)
                  have kD : w4.drew.cell? ⟨w.heap.size, 0, none⟩ = some (.slice a n c) ∧ w4.drew.cell? ⟨w.heap.size, 1, none⟩ = some (.slice b k d) ∧ w4.drew.cell? ⟨w.heap.size + 1, 0, none⟩ = some (.slice a' n' c') ∧ w4.drew.cell? ⟨w.heap.size + 1, 1, none⟩ = some (.slice b' k' d') ∧ w4.drew.cell? ⟨w.heap.size + 2, 0, none⟩ = some (.bool true) ∧ w4.drew.cell? ⟨w.heap.size + 2, 1, none⟩ = some (.slice pa pn pc) ∧ w4.drew.cell? ⟨w.heap.size + 2, 2, none⟩ = some (.slice wa 0 wc) ∧ w4.drew.cell? ⟨w.heap.size + 2, 3, none⟩ = some (.int .i64 0) := k0
                  have HAm := Lib.hid (HA.out.below HB5.out)
                  have HS5 := Lib.hid (HS.out.below HB5.out)
                  have HP5 := Lib.hid (HP.out.below HB5.out)
                  have HW5 := Lib.hid (HWd.out.below HB5.out)
                  obtain ⟨e0, e1, e2, hErr⟩ := (HE.out.below HB5.out).errs
                  have HErr := Lib.hid hErr
                  clear h05 hErr
                  go_wp2_with fail
                  go_cut [9, 10] (fun s9 s10 wx => s9 = .bool R ∧ s10 = .int .i64 0 ∧ Below w4.heap.size w4 wx)
                  case first =>
                    go_region_held3 (fun w' => w'.cell? ⟨w.heap.size, 0, none⟩ = some (.slice a n c) ∧ w'.cell? ⟨w.heap.size, 1, none⟩ = some (.slice b k d) ∧ w'.cell? ⟨w.heap.size + 1, 0, none⟩ = some (.slice a' n' c') ∧ w'.cell? ⟨w.heap.size + 1, 1, none⟩ = some (.slice b' k' d') ∧ w'.cell? ⟨w.heap.size + 2, 0, none⟩ = some (.bool true) ∧ w'.cell? ⟨w.heap.size + 2, 1, none⟩ = some (.slice pa pn pc) ∧ w'.cell? ⟨w.heap.size + 2, 2, none⟩ = some (.slice wa 0 wc) ∧ w'.cell? ⟨w.heap.size + 2, 3, none⟩ = some (.int .i64 0))
                      ((with_reducible (first | assumption | exact kD)))
                      (first
                        | (go_at_call 12; refine Calls.mono (CopyA_any (w := w4.drew) (HAm.out.below (Below.refl _ _).drew) HQm.out) ?_; rintro e w6 ⟨a6, c6, b6, d6, rfl, hA6, hb6⟩; have kI := up8 hb6 kD; have hb56 : Below w4.heap.size w4 w6 := (Below.refl _ w4).drew.trans hb6)
                        | (go_at_call 13; refine Calls.mono (SCopyA_any (HS5.out.below hb56) HQs.out) ?_; rintro e w7 ⟨a7, c7, b7, d7, rfl, hA7, hb7⟩; have kJ := up8 hb7 kI; have hb57 := below_two hb56 hb7; have hA67 := hA6.below hb7)
                        | (go_at_call 19; refine Calls.mono (copied_any true (HP5.out.below hb57) (HW5.out.below hb57) 0 hpl hwl) ?_; rintro e w8 ⟨pa8, pc8, wa8, wc8, rfl, hP8, hW8, hb8⟩; have kK := up8 hb8 kJ; have hb58 := below_two hb57 hb8; have hA68 := hA67.below hb8; have hA78 := hA7.below hb8)
                        | (go_at_call 18; refine Calls.mono (Right_any (HErr.out.below hb58) hA68 hA78 true hP8 hW8 0) ?_; rintro e w9 ⟨rfl, hb9⟩; rw [HRt.out, HCb2.out]; have kL := up8 hb9 kK; have hb59 := below_two hb58 hb9))
                    all_goals
                      go_wp2_with fail
                      go_meet
                      exact ⟨rfl, rfl, hb59⟩
                  case rest =>
                    obtain ⟨rfl, rfl, hbc⟩ := hcut
                    have HBc := Lib.hid (HB5.out.trans (hbc.mono HB5.out.size))
                    clear hbc k0 kD HErr
                    go_wp2_with fail
                    refine (awakeS_any (HE.out.below HBc.out) (HT.out.below HBc.out)).mono ?_
                    rintro e w7 ⟨rfl, hb7⟩
                    have HB7 := Lib.hid (HBc.out.trans (hb7.mono HBc.out.size))
                    clear hb7
                    go_wp2
                    go_ret
                    exact ⟨rfl, HB7.out⟩
                · have HRt : Hid (rightB m s true L word st = false) := Lib.hid (by rw [HR0.out, decide_eq_false hs0, Bool.and_false]; rfl)
                  have hq : (st == 0) = false := by rw [beq_eq_false_iff_ne]; exact hs0
                  subst hw0
                  have h05 := HB03.out
                  have HB5 := Lib.hid (HB0.out.trans (h05.mono HB0.out.size))
                  have k0 : w3.cell? ⟨w.heap.size, 0, none⟩ = some (.slice a n c) ∧ w3.cell? ⟨w.heap.size, 1, none⟩ = some (.slice b k d) ∧ w3.cell? ⟨w.heap.size + 1, 0, none⟩ = some (.slice a' n' c') ∧ w3.cell? ⟨w.heap.size + 1, 1, none⟩ = some (.slice b' k' d') ∧ w3.cell? ⟨w.heap.size + 2, 0, none⟩ = some (.bool true) ∧ w3.cell? ⟨w.heap.size + 2, 1, none⟩ = some (.slice pa pn pc) ∧ w3.cell? ⟨w.heap.size + 2, 2, none⟩ = some (.slice wa 0 wc) ∧ w3.cell? ⟨w.heap.size + 2, 3, none⟩ = some (.int .i64 st) := keep8 (H1.out.below h05 H1.out.lt) (H2.out.below h05 H2.out.lt) (H3.out.below h05 H3.out.lt)
                  have kD : w3.drew.cell? ⟨w.heap.size, 0, none⟩ = some (.slice a n c) ∧ w3.drew.cell? ⟨w.heap.size, 1, none⟩ = some (.slice b k d) ∧ w3.drew.cell? ⟨w.heap.size + 1, 0, none⟩ = some (.slice a' n' c') ∧ w3.drew.cell? ⟨w.heap.size + 1, 1, none⟩ = some (.slice b' k' d') ∧ w3.drew.cell? ⟨w.heap.size + 2, 0, none⟩ = some (.bool true) ∧ w3.drew.cell? ⟨w.heap.size + 2, 1, none⟩ = some (.slice pa pn pc) ∧ w3.drew.cell? ⟨w.heap.size + 2, 2, none⟩ = some (.slice wa 0 wc) ∧ w3.drew.cell? ⟨w.heap.size + 2, 3, none⟩ = some (.int .i64 st) := k0
                  have HAm := Lib.hid (HA.out.below HB5.out)
                  have HS5 := Lib.hid (HS.out.below HB5.out)
                  have HP5 := Lib.hid (HP.out.below HB5.out)
                  have HW5 := Lib.hid (HWd.out.below HB5.out)
                  obtain ⟨e0, e1, e2, hErr⟩ := (HE.out.below HB5.out).errs
                  have HErr := Lib.hid hErr
                  clear h05 hErr
                  go_wp2_with fail
                  go_cut [9, 10] (fun s9 s10 wx => s9 = .bool false ∧ s10 = .int .i64 0 ∧ Below w3.heap.size w3 wx)
                  case first =>
                    go_region_held3 (fun w' => w'.cell? ⟨w.heap.size, 0, none⟩ = some (.slice a n c) ∧ w'.cell? ⟨w.heap.size, 1, none⟩ = some (.slice b k d) ∧ w'.cell? ⟨w.heap.size + 1, 0, none⟩ = some (.slice a' n' c') ∧ w'.cell? ⟨w.heap.size + 1, 1, none⟩ = some (.slice b' k' d') ∧ w'.cell? ⟨w.heap.size + 2, 0, none⟩ = some (.bool true) ∧ w'.cell? ⟨w.heap.size + 2, 1, none⟩ = some (.slice pa pn pc) ∧ w'.cell? ⟨w.heap.size + 2, 2, none⟩ = some (.slice wa 0 wc) ∧ w'.cell? ⟨w.heap.size + 2, 3, none⟩ = some (.int .i64 st))
                      ((with_reducible (first | assumption | exact kD)))
                      (first
                        | (go_at_call 12; refine Calls.mono (CopyA_any (w := w3.drew) (HAm.out.below (Below.refl _ _).drew) HQm.out) ?_; rintro e w6 ⟨a6, c6, b6, d6, rfl, hA6, hb6⟩; have kI := up8 hb6 kD; have hb56 : Below w3.heap.size w3 w6 := (Below.refl _ w3).drew.trans hb6)
                        | (go_at_call 13; refine Calls.mono (SCopyA_any (HS5.out.below hb56) HQs.out) ?_; rintro e w7 ⟨a7, c7, b7, d7, rfl, hA7, hb7⟩; have kJ := up8 hb7 kI; have hb57 := below_two hb56 hb7; have hA67 := hA6.below hb7)
                        | (go_at_call 19; refine Calls.mono (copied_any true (HP5.out.below hb57) (HW5.out.below hb57) st hpl hwl) ?_; rintro e w8 ⟨pa8, pc8, wa8, wc8, rfl, hP8, hW8, hb8⟩; have kK := up8 hb8 kJ; have hb58 := below_two hb57 hb8; have hA68 := hA67.below hb8; have hA78 := hA7.below hb8)
                        | (go_at_call 18; refine Calls.mono (Right_any (HErr.out.below hb58) hA68 hA78 true hP8 hW8 st) ?_; rintro e w9 ⟨rfl, hb9⟩; rw [HRt.out, HCb2.out]; have kL := up8 hb9 kK; have hb59 := below_two hb58 hb9))
                    all_goals
                      go_wp2_with fail
                      go_meet
                      exact ⟨rfl, rfl, hb59⟩
                  case rest =>
                    obtain ⟨rfl, rfl, hbc⟩ := hcut
                    have HBc := Lib.hid (HB5.out.trans (hbc.mono HB5.out.size))
                    clear hbc k0 kD HErr
                    go_wp2_with fail
                    refine (awakeS_any (HE.out.below HBc.out) (HT.out.below HBc.out)).mono ?_
                    rintro e w7 ⟨rfl, hb7⟩
                    have HB7 := Lib.hid (HBc.out.trans (hb7.mono HBc.out.size))
                    clear hb7
                    go_wp2
                    go_ret
                    exact ⟨rfl, HB7.out⟩
              · have HRt : Hid (rightB m s true L word st = false) := Lib.hid (by rw [HR0.out, decide_eq_false (fun e => hw0 (HWl.out.1 e))]; rfl)
                have hq : ((wn : Int) == 0) = false := by rw [beq_eq_false_iff_ne]; omega
                have h05 := HB03.out
                have HB5 := Lib.hid (HB0.out.trans (h05.mono HB0.out.size))
                have k0 : w3.cell? ⟨w.heap.size, 0, none⟩ = some (.slice a n c) ∧ w3.cell? ⟨w.heap.size, 1, none⟩ = some (.slice b k d) ∧ w3.cell? ⟨w.heap.size + 1, 0, none⟩ = some (.slice a' n' c') ∧ w3.cell? ⟨w.heap.size + 1, 1, none⟩ = some (.slice b' k' d') ∧ w3.cell? ⟨w.heap.size + 2, 0, none⟩ = some (.bool true) ∧ w3.cell? ⟨w.heap.size + 2, 1, none⟩ = some (.slice pa pn pc) ∧ w3.cell? ⟨w.heap.size + 2, 2, none⟩ = some (.slice wa wn wc) ∧ w3.cell? ⟨w.heap.size + 2, 3, none⟩ = some (.int .i64 st) := keep8 (H1.out.below h05 H1.out.lt) (H2.out.below h05 H2.out.lt) (H3.out.below h05 H3.out.lt)
                have kD : w3.drew.cell? ⟨w.heap.size, 0, none⟩ = some (.slice a n c) ∧ w3.drew.cell? ⟨w.heap.size, 1, none⟩ = some (.slice b k d) ∧ w3.drew.cell? ⟨w.heap.size + 1, 0, none⟩ = some (.slice a' n' c') ∧ w3.drew.cell? ⟨w.heap.size + 1, 1, none⟩ = some (.slice b' k' d') ∧ w3.drew.cell? ⟨w.heap.size + 2, 0, none⟩ = some (.bool true) ∧ w3.drew.cell? ⟨w.heap.size + 2, 1, none⟩ = some (.slice pa pn pc) ∧ w3.drew.cell? ⟨w.heap.size + 2, 2, none⟩ = some (.slice wa wn wc) ∧ w3.drew.cell? ⟨w.heap.size + 2, 3, none⟩ = some (.int .i64 st) := k0
                have HAm := Lib.hid (HA.out.below HB5.out)
                have HS5 := Lib.hid (HS.out.below HB5.out)
                have HP5 := Lib.hid (HP.out.below HB5.out)
                have HW5 := Lib.hid (HWd.out.below HB5.out)
                obtain ⟨e0, e1, e2, hErr⟩ := (HE.out.below HB5.out).errs
                have HErr := Lib.hid hErr
                clear h05 hErr
                go_wp2_with fail
                go_cut [9, 10] (fun s9 s10 wx => s9 = .bool false ∧ s10 = .int .i64 0 ∧ Below w3.heap.size w3 wx)
                case first =>
                  go_region_held3 (fun w' => w'.cell? ⟨w.heap.size, 0, none⟩ = some (.slice a n c) ∧ w'.cell? ⟨w.heap.size, 1, none⟩ = some (.slice b k d) ∧ w'.cell? ⟨w.heap.size + 1, 0, none⟩ = some (.slice a' n' c') ∧ w'.cell? ⟨w.heap.size + 1, 1, none⟩ = some (.slice b' k' d') ∧ w'.cell? ⟨w.heap.size + 2, 0, none⟩ = some (.bool true) ∧ w'.cell? ⟨w.heap.size + 2, 1, none⟩ = some (.slice pa pn pc) ∧ w'.cell? ⟨w.heap.size + 2, 2, none⟩ = some (.slice wa wn wc) ∧ w'.cell? ⟨w.heap.size + 2, 3, none⟩ = some (.int .i64 st))
                    ((with_reducible (first | assumption | exact kD)))
                    (first
                      | (go_at_call 12; refine Calls.mono (CopyA_any (w := w3.drew) (HAm.out.below (Below.refl _ _).drew) HQm.out) ?_; rintro e w6 ⟨a6, c6, b6, d6, rfl, hA6, hb6⟩; have kI := up8 hb6 kD; have hb56 : Below w3.heap.size w3 w6 := (Below.refl _ w3).drew.trans hb6)
                      | (go_at_call 13; refine Calls.mono (SCopyA_any (HS5.out.below hb56) HQs.out) ?_; rintro e w7 ⟨a7, c7, b7, d7, rfl, hA7, hb7⟩; have kJ := up8 hb7 kI; have hb57 := below_two hb56 hb7; have hA67 := hA6.below hb7)
                      | (go_at_call 19; refine Calls.mono (copied_any true (HP5.out.below hb57) (HW5.out.below hb57) st hpl hwl) ?_; rintro e w8 ⟨pa8, pc8, wa8, wc8, rfl, hP8, hW8, hb8⟩; have kK := up8 hb8 kJ; have hb58 := below_two hb57 hb8; have hA68 := hA67.below hb8; have hA78 := hA7.below hb8)
                      | (go_at_call 18; refine Calls.mono (Right_any (HErr.out.below hb58) hA68 hA78 true hP8 hW8 st) ?_; rintro e w9 ⟨rfl, hb9⟩; rw [HRt.out, HCb2.out]; have kL := up8 hb9 kK; have hb59 := below_two hb58 hb9))
                  all_goals
                    go_wp2_with fail
                    go_meet
                    exact ⟨rfl, rfl, hb59⟩
                case rest =>
                  obtain ⟨rfl, rfl, hbc⟩ := hcut
                  have HBc := Lib.hid (HB5.out.trans (hbc.mono HB5.out.size))
                  clear hbc k0 kD HErr
                  go_wp2_with fail
                  refine (awakeS_any (HE.out.below HBc.out) (HT.out.below HBc.out)).mono ?_
                  rintro e w7 ⟨rfl, hb7⟩
                  have HB7 := Lib.hid (HBc.out.trans (hb7.mono HBc.out.size))
                  clear hb7
                  go_wp2
                  go_ret
                  exact ⟨rfl, HB7.out⟩
          · have hq : (cb == 0) = false := by rw [beq_eq_false_iff_ne]; exact hc
            have HRt : Hid (rightB m s h L word st = false) := Lib.hid (by unfold rightB; rw [if_neg (fun e => hc (HCb.out.symm.trans e))])
            have HCb2 := HCb
            have hcc : (cb == cb) = true := by simp
            clear hc
            have h05 := HB03.out
            have HB5 := Lib.hid (HB0.out.trans (h05.mono HB0.out.size))
            have k0 : w3.cell? ⟨w.heap.size, 0, none⟩ = some (.slice a n c) ∧ w3.cell? ⟨w.heap.size, 1, none⟩ = some (.slice b k d) ∧ w3.cell? ⟨w.heap.size + 1, 0, none⟩ = some (.slice a' n' c') ∧ w3.cell? ⟨w.heap.size + 1, 1, none⟩ = some (.slice b' k' d') ∧ w3.cell? ⟨w.heap.size + 2, 0, none⟩ = some (.bool h) ∧ w3.cell? ⟨w.heap.size + 2, 1, none⟩ = some (.slice pa pn pc) ∧ w3.cell? ⟨w.heap.size + 2, 2, none⟩ = some (.slice wa wn wc) ∧ w3.cell? ⟨w.heap.size + 2, 3, none⟩ = some (.int .i64 st) := keep8 (H1.out.below h05 H1.out.lt) (H2.out.below h05 H2.out.lt) (H3.out.below h05 H3.out.lt)
            have kD : w3.drew.cell? ⟨w.heap.size, 0, none⟩ = some (.slice a n c) ∧ w3.drew.cell? ⟨w.heap.size, 1, none⟩ = some (.slice b k d) ∧ w3.drew.cell? ⟨w.heap.size + 1, 0, none⟩ = some (.slice a' n' c') ∧ w3.drew.cell? ⟨w.heap.size + 1, 1, none⟩ = some (.slice b' k' d') ∧ w3.drew.cell? ⟨w.heap.size + 2, 0, none⟩ = some (.bool h) ∧ w3.drew.cell? ⟨w.heap.size + 2, 1, none⟩ = some (.slice pa pn pc) ∧ w3.drew.cell? ⟨w.heap.size + 2, 2, none⟩ = some (.slice wa wn wc) ∧ w3.drew.cell? ⟨w.heap.size + 2, 3, none⟩ = some (.int .i64 st) := k0
            have HAm := Lib.hid (HA.out.below HB5.out)
            have HS5 := Lib.hid (HS.out.below HB5.out)
            have HP5 := Lib.hid (HP.out.below HB5.out)
            have HW5 := Lib.hid (HWd.out.below HB5.out)
            obtain ⟨e0, e1, e2, hErr⟩ := (HE.out.below HB5.out).errs
            have HErr := Lib.hid hErr
            clear h05 hErr
            go_wp2_with fail
            go_cut [9, 10] (fun s9 s10 wx => s9 = .bool false ∧ s10 = .int .i64 cb ∧ Below w3.heap.size w3 wx)
            case first =>
              go_region_held3 (fun w' => w'.cell? ⟨w.heap.size, 0, none⟩ = some (.slice a n c) ∧ w'.cell? ⟨w.heap.size, 1, none⟩ = some (.slice b k d) ∧ w'.cell? ⟨w.heap.size + 1, 0, none⟩ = some (.slice a' n' c') ∧ w'.cell? ⟨w.heap.size + 1, 1, none⟩ = some (.slice b' k' d') ∧ w'.cell? ⟨w.heap.size + 2, 0, none⟩ = some (.bool h) ∧ w'.cell? ⟨w.heap.size + 2, 1, none⟩ = some (.slice pa pn pc) ∧ w'.cell? ⟨w.heap.size + 2, 2, none⟩ = some (.slice wa wn wc) ∧ w'.cell? ⟨w.heap.size + 2, 3, none⟩ = some (.int .i64 st))
                ((with_reducible (first | assumption | exact kD)))
                (first
                  | (go_at_call 12; refine Calls.mono (CopyA_any (w := w3.drew) (HAm.out.below (Below.refl _ _).drew) HQm.out) ?_; rintro e w6 ⟨a6, c6, b6, d6, rfl, hA6, hb6⟩; have kI := up8 hb6 kD; have hb56 : Below w3.heap.size w3 w6 := (Below.refl _ w3).drew.trans hb6)
                  | (go_at_call 13; refine Calls.mono (SCopyA_any (HS5.out.below hb56) HQs.out) ?_; rintro e w7 ⟨a7, c7, b7, d7, rfl, hA7, hb7⟩; have kJ := up8 hb7 kI; have hb57 := below_two hb56 hb7; have hA67 := hA6.below hb7)
                  | (go_at_call 19; refine Calls.mono (copied_any h (HP5.out.below hb57) (HW5.out.below hb57) st hpl hwl) ?_; rintro e w8 ⟨pa8, pc8, wa8, wc8, rfl, hP8, hW8, hb8⟩; have kK := up8 hb8 kJ; have hb58 := below_two hb57 hb8; have hA68 := hA67.below hb8; have hA78 := hA7.below hb8)
                  | (go_at_call 18; refine Calls.mono (Right_any (HErr.out.below hb58) hA68 hA78 h hP8 hW8 st) ?_; rintro e w9 ⟨rfl, hb9⟩; rw [HRt.out, HCb2.out]; have kL := up8 hb9 kK; have hb59 := below_two hb58 hb9))
              all_goals
                go_wp2_with fail
                go_meet
                exact ⟨rfl, rfl, hb59⟩
            case rest =>
              obtain ⟨rfl, rfl, hbc⟩ := hcut
              have HBc := Lib.hid (HB5.out.trans (hbc.mono HB5.out.size))
              clear hbc k0 kD HErr
              go_wp2_with fail
              refine (awakeS_any (HE.out.below HBc.out) (HT.out.below HBc.out)).mono ?_
              rintro e w7 ⟨rfl, hb7⟩
              have HB7 := Lib.hid (HBc.out.trans (hb7.mono HBc.out.size))
              clear hb7
              go_wp2
              go_ret
              exact ⟨rfl, HB7.out⟩
end Go.Proofs.YtgpfpnenpgnogaaGreatDoor
