/- spec: isFault. -/
import Derived.Test.YtgnbkepdbdgkdaaGreatDoorStepCL
import Derived.Test.YtgnbkepdbdgkdaaGreatDoorJq17
namespace Go.Proofs.YtgnbkepdbdgkdaaGreatDoor
open Go.RowKit Pl

theorem own_nums {w : World} {base : Nat} {a : Option Addr} {n c : Nat} {xs : List Int} (h : NumO w base (.slice a n c) xs) (hbig : xs.length ≤ 9223372036854775807) : n = xs.length ∧ IntArg w a n c xs := by
  have h0 : w.ownsRow base 3 1 (.slice a n c) xs.length (xs.map (Value.int .i64)) := h
  rcases h0.2 with ⟨e, e0⟩ | ⟨g, cap, cur, e, hg, hh, hc, hm, hz, ht⟩
  · simp only [Value.slice.injEq] at e
    obtain ⟨rfl, rfl, rfl⟩ := e
    exact ⟨e0.symm, fun _ => rfl, e0.symm, by omega, by omega, fun j hj => by omega⟩
  · simp only [Value.slice.injEq] at e
    obtain ⟨rfl, rfl, rfl⟩ := e
    refine ⟨rfl, (fun h => by cases h), rfl, hc, hbig, fun j hj => ⟨g, 0, rfl, ?_⟩⟩
    rw [Nat.zero_add, h0.cellAt j (by omega), List.getElem?_map, List.getElem?_eq_getElem hj]
    simp [List.getD, hj]
theorem CrAt.up {W W' : World} {B Cb k M : Nat} {sv pv : Value} {l : List Nat} (h : CrAt W B Cb k M sv pv l) (hb : Below W.heap.size W W') : CrAt W' B Cb k M sv pv l := by
  obtain ⟨p, hp⟩ := h.spa
  exact ⟨h.box.below hb h.box.lt, own_up' h.sta hb, ⟨p, own_up' hp hb⟩, h.far, own_up' h.mar hb, h.low⟩
theorem mem_zs (l : List Nat) (x : Int) : x ∈ zs l ↔ ∃ y ∈ l, (y : Int) = x := by unfold zs; rw [List.mem_map]

set_option maxRecDepth 100000 in
set_option maxHeartbeats 16000000 in
theorem isFault_any {w : World} {B0 : Nat} {a : Option Addr} {n c : Nat} {b : Option Addr} {k d : Nat} {m : Syst} {a' : Option Addr} {n' c' : Nat} {b' : Option Addr} {k' d' : Nat} {s : Spc} {oa : Option Addr} {oc R : Nat} {wa : Option Addr} {wn wc : Nat} {word : List Int} (T : TrArg w B0 a n c b k d m a' n' c' b' k' d' s (.slice oa k oc) R) (hm : sysB m = true) (hs : spcB s = true) (L : IntArg w wa wn wc word) (at_ : Int) :
    Calls Tryz.prog 70 #[.agg #[.slice a n c, .slice b k d, .slice a' n' c', .slice b' k' d', .slice oa k oc, .slice (some ⟨R, 0, none⟩) k' k'], .slice wa wn wc, .int .i64 at_] w fun e w' => e = .returned (.bool (faultB m s word at_)) ∧ Below w.heap.size w w' := by
  obtain ⟨i2, hi2, hz20, hz21, hz22⟩ := info_parts infoBoolV
  have hk5 : k ≤ 5000 := by have := ((sysB_iff m).1 hm).2.2.1; have := T.sys.len; omega
  have hk1 : 1 ≤ k := by have := ((sysB_iff m).1 hm).2.1; have := T.sys.len; omega
  have hk5' : k' ≤ 500 := by have := ((spcB_iff s).1 hs).2.2.1; have := T.spc.len; omega
  have hk1' : 1 ≤ k' := by have := ((spcB_iff s).1 hs).2.1; have := T.spc.len; omega
  have hb0 := (Below.refl w.heap.size w).alloc (Nat.le_refl _) (.cells #[.slice a n c, .slice b k d, .slice a' n' c', .slice b' k' d', .slice oa k oc, .slice (some ⟨R, 0, none⟩) k' k'] 123)
  have h1 := Whole.new w 123 #[.slice a n c, .slice b k d, .slice a' n' c', .slice b' k' d', .slice oa k oc, .slice (some ⟨R, 0, none⟩) k' k']
  obtain ⟨w0, HW0⟩ : ∃ z, Hid (w.alloc (.cells #[.slice a n c, .slice b k d, .slice a' n' c', .slice b' k' d', .slice oa k oc, .slice (some ⟨R, 0, none⟩) k' k'] 123) = z) := ⟨_, Lib.hid rfl⟩
  rw [HW0.out] at hb0 h1
  have HT := Lib.hid (T.below hb0)
  have HL := Lib.hid (L.below hb0)
  have HM := Lib.hid hm
  have HSp := Lib.hid hs
  have HB0 := Lib.hid hb0
  have H1 := Lib.hid h1
  have HKl : Hid (m.states.length = k ∧ s.states.length = k') := Lib.hid ⟨T.sys.len.symm, T.spc.len.symm⟩
  have hwn : wn ≤ 9223372036854775807 := L.big
  have HWl : Hid (word.length = wn) := Lib.hid L.len.symm
  have HFB := Lib.hid (faultB_crowd hm hs word at_)
  have hlit : (w0.alloc (.cells #[.int .i64 0] 3)).ownsRow w0.heap.size 3 1 (.slice (some ⟨w0.heap.size, 0, none⟩) 1 1) 1 [.int .i64 0] := World.ownsRow_lit (base := w0.heap.size) (e := 3) (size := 1) w0 #[.int .i64 0] 1 (Nat.le_refl _) (by unfold maxLen; omega) rfl
  have hbl := (Below.refl w0.heap.size w0).alloc (Nat.le_refl _) (.cells #[.int .i64 0] 3)
  have x1 := (h1.below hbl h1.lt).cell 1
  have hzl : (w0.alloc (.cells #[.int .i64 0] 3)).heap.size = w0.heap.size + 1 := by simp
  obtain ⟨w1, HW1⟩ : ∃ z, Hid (w0.alloc (.cells #[.int .i64 0] 3) = z) := ⟨_, Lib.hid rfl⟩
  rw [HW1.out] at hlit hbl x1 hzl
  simp only [List.getElem?_toArray, List.getElem?_cons_succ, List.getElem?_cons_zero] at x1
  have HLit := Lib.hid hlit
  have HBl := Lib.hid hbl
  have HZl := Lib.hid hzl
  clear T L hm hs hb0 h1 hlit hbl hzl
  go_enter Tryz.func70, Tryz.ntmps70
  go_wp2_with (at_make; rw [HW0.out, HW1.out]; refine wpList_make_full _ rfl _ _ 173 rfl w0.heap.size 4 i2 (.bool false) 1 Tryz.underlying173 hi2 hz20 hz21 .i64 .i64 k k k rfl rfl rfl rfl (by rw [hz22]; omega) (by unfold maxLen; omega) HBl.out.size ?_; intro w2 hrow hg2; refine Hid.out ?_)
  rw [made_falses, ← marksL_none] at hrow
  obtain ⟨M, HMn⟩ : ∃ z, Hid (w1.heap.size = z) := ⟨_, Lib.hid rfl⟩
  rw [HMn.out] at hrow
  rw [HMn.out]
  obtain ⟨S0, HS0⟩ : ∃ z, Hid (w0.heap.size = z) := ⟨_, Lib.hid rfl⟩
  have HS1 : Hid (w.heap.size + 1 = S0) := Lib.hid (by rw [← HS0.out, ← HW0.out]; simp)
  have hb02 : Below w0.heap.size w0 w2 := HBl.out.grown hg2 HBl.out.size (fun q hq => by cases hq)
  have hlit2 := HLit.out.kept hg2 (.inr (by simp [Value.ownBlock]))
  rw [HS0.out] at hb02 hlit2 hrow
  have hsz2 : S0 ≤ w2.heap.size := by have := hb02.size; rw [HS0.out] at this; exact this
  have hal := (Below.refl w2.heap.size w2).alloc (Nat.le_refl _) (.cells #[.slice (some ⟨S0, 0, none⟩) 1 1, .slice none 0 0, .slice (some ⟨M, 0, none⟩) k k] 182)
  have HC0 : Hid (CrAt (w2.alloc (.cells #[.slice (some ⟨S0, 0, none⟩) 1 1, .slice none 0 0, .slice (some ⟨M, 0, none⟩) k k] 182)) S0 w2.heap.size k M (.slice (some ⟨S0, 0, none⟩) 1 1) (.slice none 0 0) [0] ∧ Below S0 w0 (w2.alloc (.cells #[.slice (some ⟨S0, 0, none⟩) 1 1, .slice none 0 0, .slice (some ⟨M, 0, none⟩) k k] 182))) := Lib.hid
    ⟨⟨Whole.new w2 _ _, own_up' hlit2 hal, ⟨[], World.ownsRow_nil _ _ _ _⟩, .inl rfl, own_up' hrow hal, hsz2⟩, hb02.trans (hal.mono hsz2)⟩
  obtain ⟨Cb, HCb⟩ : ∃ z, Hid (w2.heap.size = z) := ⟨_, Lib.hid rfl⟩
  rw [HCb.out] at HC0
  rw [HS1.out]
  have HF0 : Hid (faultC m s word [0] 0 = faultC m s (word.drop 0) [0] ((0 : Nat) : Int)) := Lib.hid (by rw [List.drop_zero]; rfl)
  have HOk0 : Hid (CrOk m.states.length [0] ∧ ([0] : List Nat) ≠ []) := Lib.hid ⟨⟨by simp, fun y hy => by rw [List.mem_singleton] at hy; have := HKl.out.1; omega⟩, by simp⟩
  refine Lib.hid ?_
  clear hrow hg2 hb02 hlit2 hal HLit hsz2
  go_wp2
  rw [HCb.out]
  go_loopw [8, 10, 20] (fun p _ q wr => ∃ (r y : Nat) (l : List Nat) (sa : Option Addr) (sn sc : Nat) (pv : Value), q = .int .i64 r ∧ r ≤ wn ∧ p = .int .i64 y ∧ y < k' ∧ Hid (faultC m s word [0] 0 = faultC m s (word.drop r) l (y : Int)) ∧ Hid (CrOk m.states.length l ∧ l ≠ []) ∧ Hid (CrAt wr S0 Cb k M (.slice sa sn sc) pv l ∧ Below S0 w0 wr)) (fun _ _ q _ => wn - (intOf q).toNat)
  case atStart => exact ⟨0, 0, [0], _, _, _, _, rfl, Nat.zero_le _, rfl, by omega, HF0, HOk0, HC0⟩
  case round =>
    obtain ⟨w4, hw4⟩ : ∃ z, z = wr := ⟨_, rfl⟩
    subst hw4
    obtain ⟨r, y, l, sa, sn, sc, pv, rfl, hr, rfl, hyk, hF, hO, hC⟩ := hrel
    clear HC0 HF0 HOk0
    have hb4 : Below w0.heap.size w0 w4 := by rw [HS0.out]; exact hC.out.2
    have HB4 := Lib.hid hb4
    have hlen : (zs l).length ≤ 5000 := by rw [zs_len]; have := hO.out.1.len; have := HKl.out.1; omega
    obtain ⟨rfl, hLa⟩ := own_nums hC.out.1.sta (by omega)
    obtain ⟨ln, HLn⟩ : ∃ z, Hid ((zs l).length = z) := ⟨_, Lib.hid rfl⟩
    rw [HLn.out] at hLa hC hlen
    have HLa := Lib.hid hLa
    have hlk : ∀ x ∈ l, x < k := fun x hx => by rw [← HKl.out.1]; exact hO.out.1.2 x hx
    have HLk := Lib.hid hlk
    have y0 := (H1.out.below hb4 H1.out.lt).cell 0
    have y1 := (H1.out.below hb4 H1.out.lt).cell 1
    have y2 := (H1.out.below hb4 H1.out.lt).cell 2
    have y3 := (H1.out.below hb4 H1.out.lt).cell 3
    have y4 := (H1.out.below hb4 H1.out.lt).cell 4
    have y5 := (H1.out.below hb4 H1.out.lt).cell 5
    have y6 := hC.out.1.box.cell 0
    simp only [List.getElem?_toArray, List.getElem?_cons_succ, List.getElem?_cons_zero] at y0 y1 y2 y3 y4 y5 y6
    by_cases hlt : r < wn
    · have hrw : r < word.length := by rw [HWl.out]; exact hlt
      obtain ⟨bw, ow, rfl, c1⟩ := (HL.out.below hb4).cells r hrw
      obtain ⟨act, HAct⟩ : ∃ z, Hid (word.getD r 0 = z) := ⟨_, Lib.hid rfl⟩
      change w4.cell? _ = some (.int .i64 (word.getD r 0)) at c1
      rw [HAct.out] at c1
      have HDr : Hid (word.drop r = act :: word.drop (r + 1)) := Lib.hid (by
        rw [List.drop_eq_getElem_cons hrw, ← HAct.out, List.getD_eq_getElem?_getD, List.getElem?_eq_getElem hrw]
        rfl)
      have hAF := allFit_any (HT.out.below hb4) HM.out hyk (by omega) (by omega) hLa hlk
      cases hbd : badB m s l (y : Int)
      · rw [hbd] at hAF
        have HAF := Lib.hid hAF
        have HBd : Hid (¬ badB m s l (y : Int) = true) := Lib.hid (by rw [hbd]; decide)
        clear hb4 hlk hLa hAF hbd hrw
        go_wp2_with fail
        refine HAF.out.mono ?_
        rintro e w5 ⟨rfl, hb5⟩
        have HC5 := Lib.hid (hC.out.1.up hb5)
        have hb05 := HB4.out.trans (hb5.mono HB4.out.size)
        have HB5 := Lib.hid hb05
        have z0 := (H1.out.below hb05 H1.out.lt).cell 0
        have z1 := (H1.out.below hb05 H1.out.lt).cell 1
        simp only [List.getElem?_toArray, List.getElem?_cons_succ, List.getElem?_cons_zero] at z0 z1
        rw [← HS0.out] at HC5
        have HSt := Lib.hid (step_any hb05 HT.out.sys HM.out HC5.out hO.out.1 act)
        clear hb5 hb05 y0 y1 y2 y3 y4 y5 y6 c1 HAF
        go_wp2_with fail
        refine HSt.out.mono ?_
        rintro e w6 ⟨rfl, sv6, pv6, hC6, hb6⟩
        have hb06 := HB5.out.trans hb6
        have HB6 := Lib.hid hb06
        have hO6 := crN_ok HM.out hO.out.1.2 act l.length
        rw [List.take_length] at hO6
        have hlen6 : (zs (crN m.states l act [])).length ≤ 5000 := by rw [zs_len]; have := hO6.len; have := HKl.out.1; omega
        obtain ⟨sa6, sc6, rfl⟩ := own_slice' hC6.sta
        have y6 := hC6.box.cell 0
        simp only [List.getElem?_toArray, List.getElem?_cons_zero] at y6
        obtain ⟨l6, HL6⟩ : ∃ z, Hid (crN m.states l act [] = z) := ⟨_, Lib.hid rfl⟩
        rw [HL6.out] at hO6 hlen6 hC6 y6
        have HZ6 : Hid ((zs l6).length = l6.length) := Lib.hid (zs_len l6)
        obtain ⟨ln6, HLn6⟩ : ∃ z, Hid ((zs l6).length = z) := ⟨_, Lib.hid rfl⟩
        rw [HLn6.out] at hlen6 y6 hC6
        rw [HS0.out] at hC6
        have HC6 : Hid (CrAt w6 S0 Cb k M (.slice sa6 ln6 sc6) pv6 l6 ∧ Below S0 w0 w6) := Lib.hid ⟨hC6, by rw [← HS0.out]; exact hb06⟩
        have HO6 := Lib.hid hO6
        have u3 := (H1.out.below hb06 H1.out.lt).cell 3
        simp only [List.getElem?_toArray, List.getElem?_cons_succ, List.getElem?_cons_zero] at u3
        clear hb6 hb06 hC6 hO6 z0 z1 HSt HC5
        by_cases hl0 : ln6 = 0
        · have HN : Hid (faultB m s word at_ = false) := Lib.hid (by
            have h0 : l6 = [] := List.length_eq_zero_iff.1 (by rw [← HZ6.out, HLn6.out]; exact hl0)
            rw [HFB.out, hF.out, HDr.out, faultC, if_neg HBd.out, HL6.out, if_pos h0]
            rfl)
          subst hl0
          go_wp2
          go_ret
          exact ⟨by rw [HN.out]; rfl, HB0.out.trans (HB6.out.mono HB0.out.size)⟩
        · have hlq : ((ln6 : Int) == 0) = false := by rw [beq_eq_false_iff_ne]; omega
          have hne : l6 ≠ [] := fun e => hl0 (by rw [← HLn6.out, e]; rfl)
          obtain ⟨ha, hn0, hn1, htl⟩ := step_some HM.out HSp.out hO.out.1.2 (y := (y : Int)) (a := act) ⟨by omega, by have := HKl.out.2; omega⟩ HBd.out (by rw [HL6.out]; exact hne)
          have HG : Hid (faultC m s word [0] 0 = faultC m s (word.drop (r + 1)) l6 (nextI s (y : Int) act)) := Lib.hid (by
            rw [hF.out, HDr.out, faultC, if_neg HBd.out, HL6.out, if_neg hne])
          obtain ⟨t, rfl⟩ := Int.eq_ofNat_of_zero_le ha.1
          obtain ⟨z, hz⟩ := Int.eq_ofNat_of_zero_le hn0
          rw [Int.toNat_natCast, Int.toNat_natCast] at htl
          rw [hz] at HG hn1
          have hys : y < s.states.length := by have := HKl.out.2; omega
          obtain ⟨bb, off, rfl, a1, n1, c1', a2, n2, c2, d1, d2, hN1, hN2⟩ := (HT.out.spc.below HB6.out).rows y hys
          obtain ⟨bn, on, rfl, d3⟩ := hN2.arg.cells t htl
          have hd3 : (teAt s.states y).2.getD t 0 = (z : Int) := by
            have h1 := hz
            unfold nextI at h1
            rw [Int.toNat_natCast, Int.toNat_natCast] at h1
            exact h1
          change w6.cell? _ = some (.int .i64 ((teAt s.states y).2.getD t 0)) at d3
          rw [hd3] at d3
          have hy0 : (0 : Int) ≤ (y : Int) := by omega
          have hy1 : (y : Int) < (k' : Int) := by omega
          have ht0 : (0 : Int) ≤ (t : Int) := by omega
          have ht1 : (t : Int) < (n2 : Int) := by have := hN2.arg.len; omega
          have hzk : z < k' := by have := HKl.out.2; omega
          have HOn : Hid (CrOk m.states.length l6 ∧ l6 ≠ []) := Lib.hid ⟨HO6.out, hne⟩
          clear ha hn0 hn1 htl hz hN1 hN2 hd3 hne hys
          go_wp2
          go_roundw
          case rel => exact ⟨r + 1, z, l6, _, _, _, _, by go_num, by omega, rfl, hzk, HG, HOn, HC6⟩
          case measure => simp [intOf]; omega
      · rw [hbd] at hAF
        have HAF := Lib.hid hAF
        have HN : Hid (faultB m s word at_ = false) := Lib.hid (by
          rw [HFB.out, hF.out, HDr.out, faultC, if_pos hbd]
          rfl)
        clear hb4 hlk hLa hAF hbd hrw
        go_wp2_with fail
        refine HAF.out.mono ?_
        rintro e w5 ⟨rfl, hb5⟩
        have HB5 := Lib.hid (HB0.out.trans ((HB4.out.trans (hb5.mono HB4.out.size)).mono HB0.out.size))
        clear hb5
        go_wp2
        go_ret
        exact ⟨by rw [HN.out]; rfl, HB5.out⟩
    · have hHas := hasI_any hLa at_
      have HE : Hid (faultB m s word at_ = endC m s at_ (some (l, (y : Int)))) := Lib.hid (by
        rw [HFB.out, hF.out, List.drop_of_length_le (by rw [HWl.out]; omega)]
        rfl)
      by_cases hin : at_ ∈ zs l
      · obtain ⟨x, hxl, rfl⟩ := (mem_zs l at_).1 hin
        rw [decide_eq_true hin] at hHas
        have HHas := Lib.hid hHas
        have HFi := fits_any (HT.out.below hb4) HM.out (hlk x hxl) hyk (by omega) (by omega)
        have HE2 : Hid (faultB m s word (x : Int) = !fitB m s x y) := Lib.hid (by
          rw [HE.out]
          show (decide ((x : Int) ∈ zs l) && !goodB m s (x : Int).toNat (y : Int)) = _
          rw [decide_eq_true hin, Bool.true_and]
          unfold goodB
          rw [Int.toNat_natCast, Int.toNat_natCast, decide_eq_true (by omega), Bool.true_and])
        obtain ⟨gv, HGv⟩ : ∃ z, Hid (fitB m s x y = z) := ⟨_, Lib.hid rfl⟩
        rw [HGv.out] at HFi HE2
        have HFi := Lib.hid HFi
        clear hHas hin hxl hb4 hlk hLa
        go_wp2_with fail
        refine HHas.out.mono ?_
        rintro e w5 ⟨rfl, rfl⟩
        go_wp2_with fail
        refine HFi.out.mono ?_
        rintro e w6 ⟨rfl, hb6⟩
        have HB6 := Lib.hid (HB0.out.trans ((HB4.out.trans (hb6.mono HB4.out.size)).mono HB0.out.size))
        clear hb6
        go_wp2
        go_ret
        exact ⟨by rw [HE2.out]; rfl, HB6.out⟩
      · rw [decide_eq_false hin] at hHas
        have HHas := Lib.hid hHas
        have HN : Hid (faultB m s word at_ = false) := Lib.hid (by
          rw [HE.out]
          show (decide (at_ ∈ zs l) && !goodB m s at_.toNat (y : Int)) = _
          rw [decide_eq_false hin]
          rfl)
        clear hHas hin hb4 hlk hLa
        go_wp2_with fail
        refine HHas.out.mono ?_
        rintro e w5 ⟨rfl, rfl⟩
        go_wp2
        go_ret
        exact ⟨by rw [HN.out]; rfl, HB0.out.trans (HB4.out.mono HB0.out.size)⟩
end Go.Proofs.YtgnbkepdbdgkdaaGreatDoor
