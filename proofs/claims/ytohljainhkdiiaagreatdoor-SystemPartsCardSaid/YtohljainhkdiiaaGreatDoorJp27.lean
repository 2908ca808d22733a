/- Texts joined: RFault. -/
import Derived.Test.YtohljainhkdiiaaGreatDoorJp25
import Derived.Test.YtohljainhkdiiaaGreatDoorJp11
import Derived.Test.YtohljainhkdiiaaGreatDoorJp26
/- The reference's IsFault; both, the error that a system and a specification cause. -/
namespace Go.Proofs.YtohljainhkdiiaaGreatDoor
open Go.RowKit Pl

def bothC (m : Syst) (s : Spc) : Int := if sysB m = true then (if spcB s = true then (if m.acts = s.acts then 0 else 10) else 30) else 20
set_option maxRecDepth 100000 in
set_option maxHeartbeats 2000000 in
theorem both_any {w : World} {a : Option Addr} {n c : Nat} {b : Option Addr} {k d : Nat} {m : Syst} {a' : Option Addr} {n' c' : Nat} {b' : Option Addr} {k' d' : Nat} {s : Spc} (A : SysArg w a n c b k d m) (S : SpecArg w a' n' c' b' k' d' s) (ht : total m.states ≤ 4611686018427387904) :
    Calls Tryz.prog 16 #[.agg #[.slice a n c, .slice b k d], .agg #[.slice a' n' c', .slice b' k' d']] w fun e w' => e = .returned (.int .i64 (bothC m s)) ∧ Below w.heap.size w w' := by
  have hb0 := ((Below.refl w.heap.size w).alloc (Nat.le_refl _) (.cells #[.slice a n c, .slice b k d] 25)).alloc (by simp) (.cells #[.slice a' n' c', .slice b' k' d'] 40)
  have h1 := (Whole.new w 25 #[.slice a n c, .slice b k d]).alloc (.cells #[.slice a' n' c', .slice b' k' d'] 40)
  have h2 := Whole.new (w.alloc (.cells #[.slice a n c, .slice b k d] 25)) 40 #[.slice a' n' c', .slice b' k' d']
  simp only [World.size_alloc] at h2
  obtain ⟨w0, HW0⟩ : ∃ z, Hid ((w.alloc (.cells #[.slice a n c, .slice b k d] 25)).alloc (.cells #[.slice a' n' c', .slice b' k' d'] 40) = z) := ⟨_, Lib.hid rfl⟩
  rw [HW0.out] at hb0 h1 h2
  have H1 := Lib.hid h1
  have H2 := Lib.hid h2
  have HB0 := Lib.hid hb0
  have HA := Lib.hid (A.below hb0)
  have HS := Lib.hid (S.below hb0)
  have HI := Lib.hid (RIs_any (A.below hb0) ht)
  clear A S hb0 h1 h2 ht
  go_enter Tryz.func16, Tryz.ntmps16
  go_wp2_with fail
  rw [HW0.out]
  refine HI.out.mono ?_
  rintro e w2 ⟨rfl, hb2⟩
  have HB2 := Lib.hid hb2
  cases hv : sysB m
  · have HF : Hid (bothC m s = 20) := Lib.hid (by unfold bothC; rw [hv]; rfl)
    clear hv hb2
    go_wp2
    go_ret
    exact ⟨by rw [HF.out]; rfl, HB0.out.trans (HB2.out.mono HB0.out.size)⟩
  · have x2 := (H2.out.below hb2 H2.out.lt).cell 0
    have x3 := (H2.out.below hb2 H2.out.lt).cell 1
    simp only [List.getElem?_toArray, List.getElem?_cons_succ, List.getElem?_cons_zero] at x2 x3
    have HJ := Lib.hid (RSIs_any (HS.out.below hb2))
    have HV := Lib.hid hv
    clear hb2 hv
    go_wp2_with fail
    refine HJ.out.mono ?_
    rintro e w3 ⟨rfl, hb3⟩
    have hb23 := HB2.out.trans (hb3.mono HB2.out.size)
    have HB3 := Lib.hid hb23
    cases hs : spcB s
    · have HF : Hid (bothC m s = 30) := Lib.hid (by unfold bothC; rw [HV.out, hs]; rfl)
      clear hs hb3 hb23
      go_wp2
      go_ret
      exact ⟨by rw [HF.out]; rfl, HB0.out.trans (HB3.out.mono HB0.out.size)⟩
    · have y0 := (H1.out.below hb23 H1.out.lt).cell 0
      have y2 := (H2.out.below hb23 H2.out.lt).cell 0
      simp only [List.getElem?_toArray, List.getElem?_cons_zero] at y0 y2
      have hA3 := HA.out.below hb23
      have hS3 := HS.out.below hb23
      have HSm := SameStrings_any a n c m.acts a' n' c' s.acts w3 hA3.acts.len hS3.acts.len hA3.acts.big hS3.acts.big hA3.acts.cells hS3.acts.cells
      have HSv := Lib.hid hs
      clear hs hb3 hb23 hA3 hS3
      by_cases he : m.acts = s.acts
      · have HF : Hid (bothC m s = 0) := Lib.hid (by unfold bothC; rw [HV.out, HSv.out, if_pos rfl, if_pos rfl, if_pos he])
        rw [decide_eq_true he] at HSm
        have HSm := Lib.hid HSm
        clear he
        go_wp2_with fail
        refine HSm.out.mono ?_
        rintro e w' ⟨rfl, rfl⟩
        go_wp2
        go_ret
        exact ⟨by rw [HF.out]; rfl, HB0.out.trans (HB3.out.mono HB0.out.size)⟩
      · have HF : Hid (bothC m s = 10) := Lib.hid (by unfold bothC; rw [HV.out, HSv.out, if_pos rfl, if_pos rfl, if_neg he])
        rw [decide_eq_false he] at HSm
        have HSm := Lib.hid HSm
        clear he
        go_wp2_with fail
        refine HSm.out.mono ?_
        rintro e w' ⟨rfl, rfl⟩
        go_wp2
        go_ret
        exact ⟨by rw [HF.out]; rfl, HB0.out.trans (HB3.out.mono HB0.out.size)⟩

theorem zs_len (l : List Nat) : (zs l).length = l.length := by simp [zs]
theorem zs_nil {l : List Nat} (h : l.length = 0) : l = [] := List.length_eq_zero_iff.1 h
theorem litI_arg (W : World) (x : Int) : IntArg (W.alloc (.cells #[.int .i64 x] 3)) (some ⟨W.heap.size, 0, none⟩) 1 1 [x] :=
  ⟨(fun h => by cases h), rfl, Nat.le_refl _, by decide, fun j hj => ⟨W.heap.size, 0, rfl, by
    obtain rfl : j = 0 := by simpa using hj
    exact (Whole.new W 3 #[.int .i64 x]).cell 0⟩⟩

set_option maxRecDepth 100000 in
set_option maxHeartbeats 8000000 in
theorem IsFault_any {w : World} {a : Option Addr} {n c : Nat} {b : Option Addr} {k d : Nat} {m : Syst} {a' : Option Addr} {n' c' : Nat} {b' : Option Addr} {k' d' : Nat} {s : Spc} {wa : Option Addr} {wn wc : Nat} {word : List Int} (A : SysArg w a n c b k d m) (S : SpecArg w a' n' c' b' k' d' s) (hv : sysB m = true) (hs : spcB s = true) (hacts : m.acts = s.acts) (L : IntArg w wa wn wc word) (x : Int) :
    Calls Tryz.prog 22 #[.agg #[.slice a n c, .slice b k d], .agg #[.slice a' n' c', .slice b' k' d'], .slice wa wn wc, .int .i64 x] w fun e w' => e = .returned (.bool (faultB m s word x)) ∧ Below w.heap.size w w' := by
  have hb0 := ((Below.refl w.heap.size w).alloc (Nat.le_refl _) (.cells #[.slice a n c, .slice b k d] 25)).alloc (by simp) (.cells #[.slice a' n' c', .slice b' k' d'] 40)
  have h1 := (Whole.new w 25 #[.slice a n c, .slice b k d]).alloc (.cells #[.slice a' n' c', .slice b' k' d'] 40)
  have h2 := Whole.new (w.alloc (.cells #[.slice a n c, .slice b k d] 25)) 40 #[.slice a' n' c', .slice b' k' d']
  simp only [World.size_alloc] at h2
  obtain ⟨w0, HW0⟩ : ∃ z, Hid ((w.alloc (.cells #[.slice a n c, .slice b k d] 25)).alloc (.cells #[.slice a' n' c', .slice b' k' d'] 40) = z) := ⟨_, Lib.hid rfl⟩
  rw [HW0.out] at hb0 h1 h2
  have H1 := Lib.hid h1
  have H2 := Lib.hid h2
  have HB0 := Lib.hid hb0
  have HA := Lib.hid (A.below hb0)
  have HS := Lib.hid (S.below hb0)
  have HL := Lib.hid (L.below hb0)
  have HV := Lib.hid hv
  have HSv := Lib.hid hs
  have hn8 : n ≤ 8 := by have := ((actsB_iff m.acts).1 ((sysB_iff m).1 hv).1).1; have := A.acts.len; omega
  have HAc := Lib.hid (RActions_any' n (by omega) (L.below hb0))
  have HNl : Hid (m.acts.length = n ∧ s.acts.length = n) := Lib.hid ⟨A.acts.len.symm, by rw [← hacts]; exact A.acts.len.symm⟩
  have hwn : wn ≤ 9223372036854775807 := L.big
  have hk1 : 1 ≤ m.states.length ∧ m.states.length ≤ 5000 := by have := (sysB_iff m).1 hv; omega
  have hs1 : 1 ≤ s.states.length ∧ s.states.length ≤ 500 := by have := (spcB_iff s).1 hs; omega
  have HK := Lib.hid hk1
  have HKs := Lib.hid hs1
  have x0 := h1.cell 0
  simp only [List.getElem?_toArray, List.getElem?_cons_zero] at x0
  clear A S hv hs L hb0 h1 h2 hk1 hs1 hacts
  cases hac : actsK n word
  · have HF : Hid (faultB m s word x = false) := Lib.hid (by unfold faultB; rw [HNl.out.1, hac]; rfl)
    rw [hac] at HAc
    clear hac
    go_enter Tryz.func22, Tryz.ntmps22
    go_wp2_with fail
    rw [HW0.out]
    refine HAc.out.mono ?_
    rintro e w' ⟨rfl, rfl⟩
    go_wp2
    go_ret
    exact ⟨by rw [HF.out]; rfl, HB0.out⟩
  · rw [hac] at HAc
    have HW := Lib.hid ((actsK_iff n word).1 hac)
    have HFB : Hid (faultB m s word x = match faultF m s word [0] 0 with | none => false | some (l, y) => decide (x ∈ zs l) && !goodB m s x.toNat y) := Lib.hid (by unfold faultB; rw [HNl.out.1, hac]; rfl)
    clear hac
    have HI0 := Lib.hid (litI_arg w0 0)
    have hbI := (Below.refl w0.heap.size w0).alloc (Nat.le_refl _) (.cells #[.int .i64 0] 3)
    have HBI := Lib.hid hbI
    clear hbI
    go_enter Tryz.func22, Tryz.ntmps22
    go_wp2_with fail
    rw [HW0.out]
    refine HAc.out.mono ?_
    rintro e w' ⟨rfl, rfl⟩
    go_wp2
    go_loopw [9, 10, 12, 22] (fun v p _ q wr => ∃ (j : Nat) (la : Option Addr) (ln lc : Nat) (l : List Nat) (y : Int), j ≤ wn ∧ q = .int .i64 j ∧ v = .slice la ln lc ∧ p = .int .i64 y ∧ -1 ≤ y ∧ y < s.states.length ∧ Hid (IntArg wr la ln lc (zs l) ∧ ∀ z ∈ l, z < m.states.length) ∧ Hid (faultF m s word [0] 0 = faultF m s (word.drop j) l y) ∧ Below w0.heap.size w0 wr) (fun _ _ _ q _ => wn - (intOf q).toNat)
    case atStart => exact ⟨0, _, 1, 1, [0], 0, Nat.zero_le _, rfl, rfl, rfl, by omega, by have := HKs.out; omega, Lib.hid ⟨HI0.out, fun z hz => by have := HK.out; simp at hz; omega⟩, Lib.hid (by simp), HBI.out⟩
    case round =>
      obtain ⟨j, la, ln, lc, l, y, hj, rfl, rfl, rfl, hy1, hy2, hL, hF, hb⟩ := hrel
      have Hb := Lib.hid hb
      have x0 := (H1.out.below hb H1.out.lt).cell 0
      have x1 := (H1.out.below hb H1.out.lt).cell 1
      have x2 := (H2.out.below hb H2.out.lt).cell 0
      have x3 := (H2.out.below hb H2.out.lt).cell 1
      simp only [List.getElem?_toArray, List.getElem?_cons_succ, List.getElem?_cons_zero] at x0 x1 x2 x3
      have HLn : Hid (l.length = ln) := Lib.hid (by have := hL.out.1.len; rw [this, zs_len])
      have hln : ln ≤ 9223372036854775807 := hL.out.1.big
      by_cases hlt : j < wn
      · have hjw : j < word.length := by have := HL.out.len; omega
        obtain ⟨act, HAct⟩ : ∃ z, Hid (word.getD j 0 = z) := ⟨_, Lib.hid rfl⟩
        have HDr : Hid (word.drop j = act :: word.drop (j + 1)) := Lib.hid (by
          rw [List.drop_eq_getElem_cons hjw, ← HAct.out, List.getD_eq_getElem?_getD, List.getElem?_eq_getElem hjw]
          rfl)
        have hact := HW.out j hjw
        rw [HAct.out] at hact
        obtain ⟨bw, ow, rfl, c1⟩ := (HL.out.below hb).cells j hjw
        change wr.cell? _ = some (.int .i64 (word.getD j 0)) at c1
        rw [HAct.out] at c1
        by_cases hl0 : ln = 0
        · have HN : Hid (faultB m s word x = false) := Lib.hid (by
            rw [HFB.out, hF.out, HDr.out, faultF_stop (.inl (zs_nil (by rw [HLn.out]; exact hl0)))])
          subst hl0
          clear hb hact hjw
          go_wp2
          go_ret
          exact ⟨by rw [HN.out]; rfl, HB0.out.trans (Hb.out.mono HB0.out.size)⟩
        · have hlq : ((ln : Int) == 0) = false := by rw [beq_eq_false_iff_ne]; omega
          have HBad := bad_any (HA.out.below hb) (HS.out.below hb) HV.out hL.out.1 hL.out.2 y hy2
          cases hbd : badB m s l y
          · rw [hbd] at HBad
            have HBad := Lib.hid HBad
            have hnb : ¬ (l = [] ∨ badB m s l y = true) := by
              rintro (e | e)
              · rw [e] at HLn; exact hl0 HLn.out.symm
              · rw [hbd] at e; cases e
            have hy0 := good_pos hnb
            obtain ⟨u, rfl⟩ := Int.eq_ofNat_of_zero_le hy0
            have hnr := nextI_rng HSv.out (y := (u : Int)) (a := act) ⟨by omega, hy2⟩ ⟨hact.1, by rw [HNl.out.2]; exact hact.2⟩
            rw [Int.toNat_natCast] at hnr
            obtain ⟨t, rfl⟩ := Int.eq_ofNat_of_zero_le hact.1
            have htn : t < n := by omega
            have HNb := Lib.hid hnb
            clear hb hbd hnb hjw
            go_wp2_with fail
            refine HBad.out.mono ?_
            rintro e w2 ⟨rfl, hb2⟩
            have hb02 := Hb.out.trans (hb2.mono Hb.out.size)
            have y0 := (H1.out.below hb02 H1.out.lt).cell 0
            have y1 := (H1.out.below hb02 H1.out.lt).cell 1
            simp only [List.getElem?_toArray, List.getElem?_cons_succ, List.getElem?_cons_zero] at y0 y1
            have HNe := Lib.hid (RNext_any (HA.out.below hb02) HV.out (hL.out.1.below hb2) hL.out.2 (t : Int))
            have HB2 := Lib.hid hb02
            clear hb2 hb02
            go_wp2_with fail
            refine HNe.out.mono ?_
            rintro e w3 ⟨v, rfl, hO, hb3⟩
            have hb03 := HB2.out.trans (hb3.mono HB2.out.size)
            obtain ⟨ca, cc, rfl, hI⟩ := hO.arg (Nat.le_trans (nextL_len _ _ _) (by have := HK.out; omega))
            obtain ⟨NL, HNL⟩ : ∃ z, Hid (nextL m.states l (t : Int) = z) := ⟨_, Lib.hid rfl⟩
            have HNlt : Hid (∀ z ∈ NL, z < m.states.length) := Lib.hid (by rw [← HNL.out]; exact nextL_lt)
            rw [HNL.out] at hI
            obtain ⟨LN, HLN⟩ : ∃ z, Hid (NL.length = z) := ⟨_, Lib.hid rfl⟩
            rw [HLN.out] at hI
            have HI3 := Lib.hid hI
            have z1 := (H2.out.below hb03 H2.out.lt).cell 1
            simp only [List.getElem?_toArray, List.getElem?_cons_succ, List.getElem?_cons_zero] at z1
            obtain ⟨bb, off, e, a1, n1, c1', a2, n2, c2, d1, d2, hN1, hN2⟩ := (HS.out.below hb03).rows u (by omega)
            cases e
            have htl : t < (teAt s.states u).2.length := by have := hnr.2.2; simpa using this
            obtain ⟨bn, on, e, d3⟩ := hN2.arg.cells t htl
            cases e
            obtain ⟨q, HQ⟩ : ∃ z, Hid ((teAt s.states u).2.getD t 0 = z) := ⟨_, Lib.hid rfl⟩
            change w3.cell? _ = some (.int .i64 ((teAt s.states u).2.getD t 0)) at d3
            rw [HQ.out] at d3
            have hnq : nextI s (u : Int) (t : Int) = q := by unfold nextI; rw [Int.toNat_natCast, Int.toNat_natCast]; exact HQ.out
            have hq1 := hnr.1
            have hq2 := hnr.2.1
            rw [hnq] at hq1 hq2
            have HNq := Lib.hid hnq
            have hu1 : (u : Int) < k' := by have := HS.out.len; omega
            have hu0 : (0 : Int) ≤ (u : Int) := by omega
            have ht0 : (0 : Int) ≤ (t : Int) := by omega
            have ht1 : (t : Int) < n2 := by have := hN2.arg.len; omega
            have HB3 := Lib.hid hb03
            rw [HNL.out, HLN.out]
            clear hO hI hb3 hb03 hN1 hN2 hnr htl hnq hact y0 y1
            by_cases hlost : q < 0 ∧ LN = 0
            · obtain ⟨hq0, rfl⟩ := hlost
              have HN : Hid (faultB m s word x = false) := Lib.hid (by
                rw [HFB.out, hF.out, HDr.out, faultF_lost HNb.out ⟨by rw [HNq.out]; exact hq0, by rw [HNL.out]; exact zs_nil HLN.out⟩])
              go_wp2
              go_ret
              exact ⟨by rw [HN.out]; rfl, HB0.out.trans (HB3.out.mono HB0.out.size)⟩
            · have HG : Hid (faultF m s word [0] 0 = faultF m s (word.drop (j + 1)) NL q) := Lib.hid (by
                rw [hF.out, HDr.out, faultF_go HNb.out (by
                  rw [HNq.out, HNL.out]
                  rintro ⟨e1, e2⟩
                  exact hlost ⟨e1, by rw [← HLN.out, e2]; rfl⟩), HNL.out, HNq.out])
              by_cases hq0 : q < 0
              · have hL0 : ¬ LN = 0 := fun e => hlost ⟨hq0, e⟩
                have hL1 : ((LN : Int) == 0) = false := by rw [beq_eq_false_iff_ne]; omega
                clear hlost
                go_wp2
                go_roundw
                case rel => exact ⟨j + 1, _, _, _, NL, q, by omega, by go_num, rfl, rfl, hq1, hq2, Lib.hid ⟨HI3.out, HNlt.out⟩, HG, HB3.out⟩
                case measure => simp [intOf]; omega
              · clear hlost
                go_wp2
                go_roundw
                case rel => exact ⟨j + 1, _, _, _, NL, q, by omega, by go_num, rfl, rfl, hq1, hq2, Lib.hid ⟨HI3.out, HNlt.out⟩, HG, HB3.out⟩
                case measure => simp [intOf]; omega
          · rw [hbd] at HBad
            have HBad := Lib.hid HBad
            have HN : Hid (faultB m s word x = false) := Lib.hid (by
              rw [HFB.out, hF.out, HDr.out, faultF_stop (.inr hbd)])
            clear hb hbd hact hjw
            go_wp2_with fail
            refine HBad.out.mono ?_
            rintro e w2 ⟨rfl, hb2⟩
            have HB2 := Lib.hid (Hb.out.trans (hb2.mono Hb.out.size))
            clear hb2
            go_wp2
            go_ret
            exact ⟨by rw [HN.out]; rfl, HB0.out.trans (HB2.out.mono HB0.out.size)⟩
      · have HE : Hid (faultB m s word x = (decide (x ∈ zs l) && !goodB m s x.toNat y)) := Lib.hid (by
          rw [HFB.out, hF.out, List.drop_of_length_le (by have := HL.out.len; omega)]
          rfl)
        have HIn := In_any hL.out.1 x
        by_cases hin : x ∈ zs l
        · obtain ⟨z, hz1, hz2⟩ := List.mem_map.1 hin
          have HG := good_any (HA.out.below hb) (HS.out.below hb) HV.out z y (hL.out.2 z hz1) hy2
          rw [decide_eq_true hin] at HIn HE
          have HIn := Lib.hid HIn
          have HE2 : Hid (faultB m s word x = !goodB m s z y) := Lib.hid (by rw [HE.out, ← hz2, Int.toNat_natCast, Bool.true_and])
          have hz2' : (z : Int) = x := hz2
          subst hz2'
          obtain ⟨gv, HGv⟩ : ∃ v, Hid (goodB m s z y = v) := ⟨_, Lib.hid rfl⟩
          rw [HGv.out] at HG HE2
          have HG := Lib.hid HG
          clear hin hz1 hz2 hb
          go_wp2_with fail
          refine HIn.out.mono ?_
          rintro e w' ⟨rfl, rfl⟩
          go_wp2_with fail
          refine HG.out.mono ?_
          rintro e w2 ⟨rfl, hb2⟩
          have HB2 := Lib.hid (Hb.out.trans (hb2.mono Hb.out.size))
          clear hb2
          go_wp2
          go_ret
          exact ⟨by rw [HE2.out]; rfl, HB0.out.trans (HB2.out.mono HB0.out.size)⟩
        · rw [decide_eq_false hin] at HIn HE
          have HIn := Lib.hid HIn
          clear hin hb
          go_wp2_with fail
          refine HIn.out.mono ?_
          rintro e w' ⟨rfl, rfl⟩
          go_wp2
          go_ret
          exact ⟨by rw [HE.out]; rfl, HB0.out.trans (Hb.out.mono HB0.out.size)⟩
end Go.Proofs.YtohljainhkdiiaaGreatDoor
