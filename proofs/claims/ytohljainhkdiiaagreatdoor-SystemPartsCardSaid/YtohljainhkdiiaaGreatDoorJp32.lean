/- Texts joined: RIsRel, Round. -/
import Derived.Test.YtohljainhkdiiaaGreatDoorJp29
import Derived.Test.YtohljainhkdiiaaGreatDoorJp31
import Derived.Test.YtohljainhkdiiaaGreatDoorJp23
import Derived.BigQuiet
import Derived.StillTailTactics
import Derived.Test.YtohljainhkdiiaaGreatDoorJp13
import Derived.Lib.QuietBelowIn
/- The reference's IsRelation. -/
namespace Go.Proofs.YtohljainhkdiiaaGreatDoor
open Go.RowKit Pl

/-- where the table of the pairs stands -/
structure MkAt (w0 wr : World) (g k k' : Nat) (bl : List Nat) (F : Mat) : Prop where
  rel : RelAt wr w0.heap.size g k k' bl F
  below : Below w0.heap.size w0 wr
theorem MkAt.up {w0 wr wA : World} {g k k' : Nat} {bl : List Nat} {F : Mat} (h : MkAt w0 wr g k k' bl F) (hb : Below wr.heap.size wr wA) : MkAt w0 wA g k k' bl F :=
  ⟨h.rel.below hb, h.below.trans (hb.mono h.below.size)⟩
theorem MkAt.mark {w0 wr : World} {g k k' : Nat} {bl : List Nat} {F : Mat} (h : MkAt w0 wr g k k' bl F) {x y : Nat} (hx : x < k) (hy : y < k') : MkAt w0 (wr.setCell ⟨bl.getD x 0, y, none⟩ (.bool true)) g k k' bl (setF F x y) :=
  ⟨h.rel.set hx hy, h.below.setCell (show w0.heap.size ≤ bl.getD x 0 from own_ge (h.rel.rows x hx) _ rfl) _⟩
theorem edAt_get {L : List Edg} {r : Nat} (h : r < L.length) : L[r]? = some (edAt L r) := by simp [edAt, List.getD, h]

set_option maxRecDepth 100000 in
set_option maxHeartbeats 16000000 in
theorem RIsRel_any {w : World} {a : Option Addr} {n c : Nat} {b : Option Addr} {k d : Nat} {m : Syst} {a' : Option Addr} {n' c' : Nat} {b' : Option Addr} {k' d' : Nat} {s : Spc} {pa : Option Addr} {pn pc : Nat} {L : List Edg} (A : SysArg w a n c b k d m) (S : SpecArg w a' n' c' b' k' d' s) (hv : sysB m = true) (hs : spcB s = true) (P : EdgeArg w pa pn pc L) :
    Calls Tryz.prog 23 #[.agg #[.slice a n c, .slice b k d], .agg #[.slice a' n' c', .slice b' k' d'], .slice pa pn pc] w fun e w' => e = .returned (.bool (relB m s L)) ∧ Below w.heap.size w w' := by
  obtain ⟨i1, hi1, hz10, hz11, hz12⟩ := info_parts infoRowB
  obtain ⟨i2, hi2, hz20, hz21, hz22⟩ := info_parts infoBoolV
  have hk5 : k ≤ 5000 := by have := ((sysB_iff m).1 hv).2.2.1; have := A.len; omega
  have hk1 : 1 ≤ k := by have := ((sysB_iff m).1 hv).2.1; have := A.len; omega
  have hk5' : k' ≤ 500 := by have := ((spcB_iff s).1 hs).2.2.1; have := S.len; omega
  have hk1' : 1 ≤ k' := by have := ((spcB_iff s).1 hs).2.1; have := S.len; omega
  have hb0 := ((Below.refl w.heap.size w).alloc (Nat.le_refl _) (.cells #[.slice a n c, .slice b k d] 25)).alloc (by simp) (.cells #[.slice a' n' c', .slice b' k' d'] 40)
  have h1 := (Whole.new w 25 #[.slice a n c, .slice b k d]).alloc (.cells #[.slice a' n' c', .slice b' k' d'] 40)
  have h2 := Whole.new (w.alloc (.cells #[.slice a n c, .slice b k d] 25)) 40 #[.slice a' n' c', .slice b' k' d']
  simp only [World.size_alloc] at h2
  obtain ⟨w0, HW0⟩ : ∃ z, Hid ((w.alloc (.cells #[.slice a n c, .slice b k d] 25)).alloc (.cells #[.slice a' n' c', .slice b' k' d'] 40) = z) := ⟨_, Lib.hid rfl⟩
  rw [HW0.out] at hb0 h1 h2
  have H1 := Lib.hid h1
  have H2 := Lib.hid h2
  have HB0 := Lib.hid hb0
  have HA := Lib.hid (A.below hb0)
  have HS := Lib.hid (S.below hb0)
  have HP := Lib.hid (P.below hb0)
  have HV := Lib.hid hv
  have HSv := Lib.hid hs
  have HKl : Hid (m.states.length = k ∧ s.states.length = k') := Lib.hid ⟨A.len.symm, S.len.symm⟩
  have HPl : Hid (L.length = pn) := Lib.hid P.len.symm
  have hpb : pn ≤ 140737488355328 := P.big
  have q1 : w0.cell? ⟨w.heap.size, 1, none⟩ = some (.slice b k d) := h1.cell 1
  clear A S P hv hs hb0 h1 h2
  go_enter Tryz.func23, Tryz.ntmps23
  go_wp2_with (at_make; rw [HW0.out]; refine wpList_make_full _ rfl _ _ 94 rfl w0.heap.size 95 i1 (.slice none 0 0) 1 Tryz.underlying94 hi1 hz10 hz11 .i64 .i64 k k k rfl rfl rfl rfl (by rw [hz12]; omega) (by unfold maxLen; omega) (Nat.le_refl _) ?_; intro w1 hrow hg1; refine Hid.out ?_)
  rw [made_nils] at hrow
  have HN0 : Hid (NoAt w0 w1 w0.heap.size k k' 0 []) := Lib.hid ⟨rfl, fun y z hy => by omega, by simpa using hrow, fun y hy => by omega, below_up hg1⟩
  obtain ⟨g, HGg⟩ : ∃ g, Hid (w0.heap.size = g) := ⟨_, Lib.hid rfl⟩
  have HN0' : Hid (NoAt w0 w1 g k k' 0 []) := Lib.hid (by rw [← HGg.out]; exact HN0.out)
  rw [HGg.out]
  clear hrow hg1 q1 HN0
  refine Lib.hid ?_
  go_wp2
  go_loopw [8, 21] (fun _ p wr => ∃ (x : Nat) (bl : List Nat), p = .int .i64 x ∧ x ≤ k ∧ Hid (NoAt w0 wr g k k' x bl)) (fun _ p _ => k - (intOf p).toNat)
  case atStart => exact ⟨0, [], rfl, Nat.zero_le _, HN0'⟩
  case round =>
    obtain ⟨x, bl, rfl, hx, hN⟩ := hrel
    have hzr := hN.out.below.size
    have p3 := (H2.out.below hN.out.below H2.out.lt).cell 1
    simp only [List.getElem?_toArray, List.getElem?_cons_succ, List.getElem?_cons_zero] at p3
    by_cases hlt : x < k
    · have ii0 : (0 : Int) ≤ (x : Int) := by omega
      have ii1 : (x : Int) < (k : Int) := by omega
      go_wp2_with (at_make; refine wpList_make_full _ rfl _ _ 95 rfl w0.heap.size 4 i2 (.bool false) 1 Tryz.underlying95 hi2 hz20 hz21 .i64 .i64 k' k' k' rfl rfl rfl rfl (by rw [hz22]; omega) (by unfold maxLen; omega) hzr ?_; intro w2 hrow hg2; refine Hid.out ?_)
      refine Lib.hid ?_
      rw [made_falses] at hrow
      have hNx := hN.out.next hlt hrow hg2
      have ho := hN.out.outer.kept hg2 (.inr (by simp [Value.ownBlock]))
      have c1 := ho.cellAt x (by omega)
      have c2 := ho.frozenAt x
      rw [List.getElem?_append_right (by rw [List.length_map, hN.out.len]; exact Nat.le_refl _), List.length_map, hN.out.len, Nat.sub_self, List.getElem?_replicate, if_pos (by omega)] at c1
      have HNx := Lib.hid hNx
      unfold rowV at HNx
      clear hrow hg2 hNx ho p3
      go_wp2
      go_roundw
      case rel => exact ⟨x + 1, _, by go_num, by omega, HNx⟩
      case measure => simp [intOf]; omega
    · have hxk : k = x := by omega
      subst hxk
      have HM0 : Hid (MkAt w0 wr g k k' bl (markF (noF k k') (L.take 0))) := Lib.hid (by
        refine ⟨?_, hN.out.below⟩
        have h1 := hN.out
        refine ⟨noF_shp k k', h1.len, h1.nod, ?_, fun y hy => ?_⟩
        · have := h1.outer
          rwa [Nat.sub_self, List.replicate_zero, List.append_nil] at this
        · have := h1.rows y hy
          have e : (noF k k').getD y [] = List.replicate k' false := by simp [noF, List.getD, hy]
          rw [List.take_zero]
          show wr.ownsRow _ _ _ _ _ (((noF k k').getD y []).map Value.bool)
          rw [e]; exact this)
      have HI0 : Hid ((L.take 0).all (inP k k') = true) := Lib.hid rfl
      clear p3 hlt hx hzr hN HN0'
      go_wp2
      go_loopw [10, 34] (fun _ q wr => ∃ r : Nat, q = .int .i64 r ∧ r ≤ pn ∧ Hid ((L.take r).all (inP k k') = true) ∧ Hid (MkAt w0 wr g k k' bl (markF (noF k k') (L.take r)))) (fun _ q _ => pn - (intOf q).toNat)
      case atStart => exact ⟨0, rfl, Nat.zero_le _, HI0, HM0⟩
      case round =>
        obtain ⟨w3, hw3⟩ : ∃ z, z = wr := ⟨_, rfl⟩
        subst hw3
        obtain ⟨r, rfl, hr, hI, hM⟩ := hrel
        by_cases hlt : r < pn
        · have HLr : Hid (r < L.length ∧ L[r]? = some (edAt L r)) := Lib.hid ⟨by rw [HPl.out]; exact hlt, edAt_get (by rw [HPl.out]; exact hlt)⟩
          obtain ⟨bw, ow, rfl, c1, c2⟩ := (HP.out.below hM.out.below).cells r HLr.out.1
          obtain ⟨X, HX⟩ : ∃ z, Hid ((edAt L r).1 = z) := ⟨_, Lib.hid rfl⟩
          obtain ⟨Y, HY⟩ : ∃ z, Hid ((edAt L r).2 = z) := ⟨_, Lib.hid rfl⟩
          rw [HX.out] at c1
          rw [HY.out] at c2
          have hal : Below w3.heap.size w3 (w3.alloc (.cells #[.int .i64 X, .int .i64 Y] 96)) := (Below.refl _ w3).alloc (Nat.le_refl _) _
          have HMa := Lib.hid (hM.out.up hal)
          have hb6 := HMa.out.below
          have hPw := Whole.new w3 96 #[.int .i64 X, .int .i64 Y]
          have y0 := (H1.out.below hb6 H1.out.lt).cell 1
          have y1 := (H2.out.below hb6 H2.out.lt).cell 1
          have y2 := hPw.cell 0
          have y3 := hPw.cell 1
          simp only [List.getElem?_toArray, List.getElem?_cons_succ, List.getElem?_cons_zero] at y0 y1 y2 y3
          have HB6 := Lib.hid (HB0.out.trans (hb6.mono HB0.out.size))
          have hbad : ¬ inP k k' (edAt L r) = true → Hid (relB m s L = false) := fun h => Lib.hid (by
            unfold relB
            rw [HKl.out.1, HKl.out.2, all_stop HLr.out.2 (by cases e : inP k k' (edAt L r) <;> first | rfl | exact absurd e h)]
            rfl)
          have hin : ∀ p : Int × Int, (edAt L r) = p → (inP k k' (edAt L r) = true ↔ 0 ≤ p.1 ∧ p.1 < k ∧ 0 ≤ p.2 ∧ p.2 < k') := fun p hp => by rw [inP_iff, hp]
          have hin2 := inP_iff k k' (edAt L r)
          rw [HX.out, HY.out] at hin2
          have HBad := Lib.hid hbad
          have HIn := Lib.hid hin2
          clear hal hb6 hPw hbad hin hin2
          by_cases hX0 : X < 0
          · have HN := HBad.out (fun h => by have := HIn.out.1 h; omega)
            go_wp2
            go_ret
            exact ⟨by rw [HN.out]; rfl, HB6.out⟩
          · by_cases hX1 : (k : Int) ≤ X
            · have HN := HBad.out (fun h => by have := HIn.out.1 h; omega)
              go_wp2
              go_ret
              exact ⟨by rw [HN.out]; rfl, HB6.out⟩
            · by_cases hY0 : Y < 0
              · have HN := HBad.out (fun h => by have := HIn.out.1 h; omega)
                go_wp2
                go_ret
                exact ⟨by rw [HN.out]; rfl, HB6.out⟩
              · by_cases hY1 : (k' : Int) ≤ Y
                · have HN := HBad.out (fun h => by have := HIn.out.1 h; omega)
                  go_wp2
                  go_ret
                  exact ⟨by rw [HN.out]; rfl, HB6.out⟩
                · have HYes : Hid (inP k k' (edAt L r) = true) := Lib.hid (HIn.out.2 (by omega))
                  obtain ⟨x, rfl⟩ := Int.eq_ofNat_of_zero_le (show 0 ≤ X by omega)
                  obtain ⟨y, rfl⟩ := Int.eq_ofNat_of_zero_le (show 0 ≤ Y by omega)
                  have hxk : x < k := by omega
                  have hyk : y < k' := by omega
                  obtain ⟨wA, HwA⟩ : ∃ z, Hid (w3.alloc (.cells #[.int .i64 (x : Int), .int .i64 (y : Int)] 96) = z) := ⟨_, Lib.hid rfl⟩
                  go_wp2
                  rw [HwA.out] at HMa y0 y1 y2 y3 HB6
                  rw [HwA.out]
                  obtain ⟨u1, u2, u3⟩ := HMa.out.rel.cells hxk hyk
                  unfold rowV at u1
                  obtain ⟨F, HF⟩ : ∃ z, Hid (markF (noF k k') (L.take r) = z) := ⟨_, Lib.hid rfl⟩
                  rw [HF.out] at HMa u2
                  have HSet : Hid (∀ q, MkAt w0 ((wA.drewN q).setCell ⟨bl.getD x 0, y, none⟩ (.bool true)) g k k' bl (setF F x y)) := Lib.hid (fun q => (HMa.out.up (below_drewN (Below.refl _ _) q)).mark hxk hyk)
                  have HFn : Hid (markF (noF k k') (L.take (r + 1)) = setF F x y) := Lib.hid (by
                    rw [take_one HLr.out.2, markF_snoc, HF.out, HX.out, HY.out]
                    rfl)
                  have HAn : Hid ((L.take (r + 1)).all (inP k k') = true) := Lib.hid (all_next HLr.out.2 HYes.out hI.out)
                  obtain ⟨rb, HRb⟩ : ∃ z, Hid (bl.getD x 0 = z) := ⟨_, Lib.hid rfl⟩
                  rw [HRb.out] at u1 u2 u3 HSet
                  obtain ⟨gv, HGv⟩ : ∃ z, Hid (getF F x y = z) := ⟨_, Lib.hid rfl⟩
                  rw [HGv.out] at u2
                  have hx0 : (0 : Int) ≤ (x : Int) := by omega
                  have hx1 : (x : Int) < (k : Int) := by omega
                  have hy0 : (0 : Int) ≤ (y : Int) := by omega
                  have hy1 : (y : Int) < (k' : Int) := by omega
                  clear c1 c2 y0 y1 hX0 hX1 hY0 hY1 hr
                  go_still_tail 8, (by kernel_rfl)
                  change wpList _ _ _ _ _ wA.drew
                  have u2 : wA.drew.cell? ⟨rb, y, none⟩ = some (.bool gv) := u2
                  have u3 : wA.drew.frozen? ⟨rb, y, none⟩ = false := u3
                  have HS1 : Hid (MkAt w0 (wA.drew.setCell ⟨rb, y, none⟩ (.bool true)) g k k' bl (markF (noF k k') (L.take (r + 1)))) := Lib.hid (by rw [HFn.out]; exact HSet.out 1)
                  clear HSet HMa
                  go_wp2
                  go_roundw
                  case rel => exact ⟨r + 1, by go_num, by omega, HAn, HS1⟩
                  case measure => simp [intOf]; omega
        · have hrn : pn = r := by omega
          subst hrn
          have HIn : Hid (L.all (inP m.states.length s.states.length) = true) := Lib.hid (by rw [HKl.out.1, HKl.out.2]; exact all_end (by rw [HPl.out]; exact Nat.le_refl _) hI.out)
          obtain ⟨F, HF⟩ : ∃ z, Hid (markF (noF m.states.length s.states.length) L = z) := ⟨_, Lib.hid rfl⟩
          have HMF : Hid (MkAt w0 w3 g k k' bl F) := Lib.hid (by
            have h1 := hM.out
            rw [List.take_of_length_le (by rw [HPl.out]; exact Nat.le_refl _)] at h1
            rw [← HF.out, HKl.out.1, HKl.out.2]
            exact h1)
          have HRel : Hid (relB m s L = ((L.all fun p => pairB m s F p.1.toNat p.2.toNat) && getF F 0 0)) := Lib.hid (by
            unfold relB
            rw [HIn.out, HF.out, Bool.true_and])
          have HC0 : Hid ((L.take 0).all (fun p => pairB m s F p.1.toNat p.2.toNat) = true) := Lib.hid rfl
          clear hM hI hlt HM0 HI0 hr
          go_wp2
          go_loopw [12, 14, 73, 89] (fun _ _ q _ wr => ∃ r : Nat, q = .int .i64 r ∧ r ≤ pn ∧ Hid ((L.take r).all (fun p => pairB m s F p.1.toNat p.2.toNat) = true) ∧ Hid (MkAt w0 wr g k k' bl F)) (fun _ _ q _ _ => pn - (intOf q).toNat)
          case atStart => exact ⟨0, rfl, Nat.zero_le _, HC0, HMF⟩
          case round =>
            obtain ⟨w4, hw4⟩ : ∃ z, z = wr := ⟨_, rfl⟩
            subst hw4
            obtain ⟨r, rfl, hr, hC, hM⟩ := hrel
            clear HMF
            by_cases hlt : r < pn
            · have HLr : Hid (r < L.length ∧ L[r]? = some (edAt L r)) := Lib.hid ⟨by rw [HPl.out]; exact hlt, edAt_get (by rw [HPl.out]; exact hlt)⟩
              have hpr := (inP_iff _ _ _).1 (List.all_eq_true.1 HIn.out (edAt L r) (List.mem_of_getElem? HLr.out.2))
              rw [HKl.out.1, HKl.out.2] at hpr
              obtain ⟨bw, ow, rfl, c1, c2⟩ := (HP.out.below hM.out.below).cells r HLr.out.1
              obtain ⟨x, hx⟩ := Int.eq_ofNat_of_zero_le hpr.1
              obtain ⟨y, hy⟩ := Int.eq_ofNat_of_zero_le hpr.2.2.1
              rw [hx] at c1 hpr
              rw [hy] at c2 hpr
              have HXY : Hid ((edAt L r).1.toNat = x ∧ (edAt L r).2.toNat = y) := Lib.hid ⟨by rw [hx]; rfl, by rw [hy]; rfl⟩
              have hxk : x < k := by omega
              have hyk : y < k' := by omega
              have HRg : Hid (x < m.states.length ∧ y < s.states.length) := Lib.hid ⟨by rw [HKl.out.1]; exact hxk, by rw [HKl.out.2]; exact hyk⟩
              have hal : Below w4.heap.size w4 (w4.alloc (.cells #[.int .i64 (x : Int), .int .i64 (y : Int)] 96)) := (Below.refl _ w4).alloc (Nat.le_refl _) _
              have HMa := Lib.hid (hM.out.up hal)
              have hb6 := HMa.out.below
              have HPb := Lib.hid (Whole.new w4 96 #[.int .i64 (x : Int), .int .i64 (y : Int)])
              have y0 := (H1.out.below hb6 H1.out.lt).cell 0
              have y1 := (H1.out.below hb6 H1.out.lt).cell 1
              have y2 := (H2.out.below hb6 H2.out.lt).cell 0
              have y3 := (H2.out.below hb6 H2.out.lt).cell 1
              simp only [List.getElem?_toArray, List.getElem?_cons_succ, List.getElem?_cons_zero] at y0 y1 y2 y3
              have HGd := good_any (HA.out.below hb6) (HS.out.below hb6) HV.out x (y : Int) HRg.out.1 (by have := HRg.out.2; omega)
              have hfd : goodB m s x (y : Int) = fitB m s x y := by unfold goodB; rw [Int.toNat_natCast, decide_eq_true (by omega), Bool.true_and]
              rw [hfd] at HGd
              have HBad : Hid (pairB m s F x y = false → relB m s L = false) := Lib.hid (fun h => by
                rw [HRel.out, all_stop (f := fun p : Int × Int => pairB m s F p.1.toNat p.2.toNat) HLr.out.2 (by rw [HXY.out.1, HXY.out.2]; exact h)]
                rfl)
              have HNx : Hid (pairB m s F x y = true → (L.take (r + 1)).all (fun p => pairB m s F p.1.toNat p.2.toNat) = true) := Lib.hid (fun h => all_next (f := fun p : Int × Int => pairB m s F p.1.toNat p.2.toNat) HLr.out.2 (by rw [HXY.out.1, HXY.out.2]; exact h) hC.out)
              clear hal hb6 hfd hpr hx hy hxk
              cases hft : fitB m s x y
              · rw [hft] at HGd
                have HGd := Lib.hid HGd
                have HN : Hid (relB m s L = false) := Lib.hid (HBad.out (by unfold pairB; rw [hft]; rfl))
                clear hft
                go_wp2_with fail
                refine HGd.out.mono ?_
                rintro e w7 ⟨rfl, hb7⟩
                have HB7 := Lib.hid (HB0.out.trans ((HMa.out.below.trans (hb7.mono HMa.out.below.size)).mono HB0.out.size))
                clear hb7
                go_wp2
                go_ret
                exact ⟨by rw [HN.out]; rfl, HB7.out⟩
              · rw [hft] at HGd
                have HGd := Lib.hid HGd
                have HFt : Hid (fitB m s x y = true) := Lib.hid hft
                clear hft
                go_wp2_with fail
                refine HGd.out.mono ?_
                rintro e w7 ⟨rfl, hb7⟩
                have HM7 := Lib.hid (HMa.out.up hb7)
                have HP7 := Lib.hid (HPb.out.below hb7 HPb.out.lt)
                obtain ⟨Pb, HPbn⟩ : ∃ z, Hid (w4.heap.size = z) := ⟨_, Lib.hid rfl⟩
                rw [HPbn.out] at HP7
                have hb07 := HM7.out.below
                have y4 := (H1.out.below hb07 H1.out.lt).cell 1
                have p0 := HP7.out.cell 0
                simp only [List.getElem?_toArray, List.getElem?_cons_succ, List.getElem?_cons_zero] at y4 p0
                obtain ⟨bx, off, rfl, ai, ni, ci, e10, hE⟩ := HA.out.rows x HRg.out.1
                have e1 := (hb07.cell (lt_of_cell e10)).trans e10
                have HE := Lib.hid hE
                have hX0 : (0 : Int) ≤ (x : Int) := by omega
                have hX1 : (x : Int) < (k : Int) := by have := HRg.out.1; have := HKl.out.1; omega
                have hni : ni ≤ 400000 := by
                  have h3 := hE.len
                  have h4 := total_take m.states x HRg.out.1
                  have h5 := total_take_le m.states (x + 1)
                  have := ((sysB_iff m).1 HV.out).2.2.2.2
                  omega
                have HE0 : Hid (((stAt m.states x).take 0).all (fun e => getF F e.2.toNat (nextY s y e.1)) = true) := Lib.hid rfl
                have HEl : Hid ((stAt m.states x).length = ni) := Lib.hid hE.len.symm
                clear hb7 hb07 hE c1 c2 y0 y1 y2 y3 e10
                rw [HPbn.out]
                go_wp2
                go_loopw [14, 89] (fun _ q wr => ∃ j : Nat, q = .int .i64 j ∧ j ≤ ni ∧ Hid (((stAt m.states x).take j).all (fun e => getF F e.2.toNat (nextY s y e.1)) = true) ∧ Hid (MkAt w0 wr g k k' bl F) ∧ Hid (Whole wr Pb 96 #[.int .i64 (x : Int), .int .i64 (y : Int)])) (fun _ q _ => ni - (intOf q).toNat)
                case atStart => exact ⟨0, rfl, Nat.zero_le _, HE0, HM7, HP7⟩
                case round =>
                  obtain ⟨w8, hw8⟩ : ∃ z, z = wr := ⟨_, rfl⟩
                  subst hw8
                  obtain ⟨j, rfl, hj, hEj, hMj, hPj⟩ := hrel
                  clear p0 y4 e1 hX0 hX1
                  by_cases hlt4 : j < ni
                  · have hjl : j < (stAt m.states x).length := by have := HE.out.len; omega
                    obtain ⟨be, oe, rfl, d1, d2⟩ := (HE.out.cells.below hMj.out.below) j hjl
                    have hef := edge_ok HV.out HRg.out.1 hjl
                    have hfn := fit_next HV.out HSv.out HRg.out.1 HRg.out.2 HFt.out hjl
                    obtain ⟨u, hu⟩ := Int.eq_ofNat_of_zero_le hef.1
                    obtain ⟨v, hvv⟩ := Int.eq_ofNat_of_zero_le hef.2.2.1
                    obtain ⟨z, hzz⟩ := Int.eq_ofNat_of_zero_le hfn.2.1
                    rw [hu] at d1 hfn hzz
                    rw [Int.toNat_natCast] at hfn hzz
                    rw [hvv] at d2
                    have hvk : v < k := by have := hef.2.2.2; have := HKl.out.1; omega
                    have hzk : z < k' := by have := hfn.2.2; have := HKl.out.2; omega
                    have HEd : Hid ((edAt (stAt m.states x) j).2.toNat = v ∧ nextY s y (edAt (stAt m.states x) j).1 = z ∧ (stAt m.states x)[j]? = some (edAt (stAt m.states x) j)) := Lib.hid ⟨by rw [hvv]; simp, by unfold nextY; rw [hu, Int.toNat_natCast, hzz]; simp, edAt_get hjl⟩
                    obtain ⟨bs, os, e, a1, n1, c1', a2, n2, c2, f1, f2, hN1, hN2⟩ := (HS.out.below hMj.out.below).rows y HRg.out.2
                    cases e
                    obtain ⟨bn2, on2, e, d3⟩ := hN2.arg.cells u hfn.1
                    cases e
                    rw [hzz] at d3
                    have x3 := (H2.out.below hMj.out.below H2.out.lt).cell 1
                    have p1 := hPj.out.cell 1
                    simp only [List.getElem?_toArray, List.getElem?_cons_succ, List.getElem?_cons_zero] at x3 p1
                    have hal : Below w8.heap.size w8 (w8.alloc (.cells #[.int .i64 u, .int .i64 v] 71)) := (Below.refl _ w8).alloc (Nat.le_refl _) _
                    have hMe := hMj.out.up hal
                    have hWe := Whole.new w8 71 #[.int .i64 u, .int .i64 v]
                    have HPe := Lib.hid (hPj.out.below hal hPj.out.lt)
                    obtain ⟨wE, HwE⟩ : ∃ z, Hid (w8.alloc (.cells #[.int .i64 u, .int .i64 v] 71) = z) := ⟨_, Lib.hid rfl⟩
                    have t0 : wE.cell? ⟨w8.heap.size, 0, none⟩ = some (.int .i64 u) := by rw [← HwE.out]; exact hWe.cell 0
                    have t1 : wE.cell? ⟨w8.heap.size, 1, none⟩ = some (.int .i64 v) := by rw [← HwE.out]; exact hWe.cell 1
                    rw [HwE.out] at hal hMe HPe
                    have t2 := up_cell hal x3
                    have t3 := up_cell hal p1
                    have t4 := up_cell hal f2
                    have t5 := up_cell hal d3
                    obtain ⟨u1, u2, _⟩ := hMe.rel.cells hvk hzk
                    unfold rowV at u1
                    obtain ⟨rb, HRb⟩ : ∃ z, Hid (bl.getD v 0 = z) := ⟨_, Lib.hid rfl⟩
                    obtain ⟨gf, HGf⟩ : ∃ y, Hid (getF F v z = y) := ⟨_, Lib.hid rfl⟩
                    rw [HRb.out] at u1 u2
                    rw [HGf.out] at u2
                    have hY0 : (0 : Int) ≤ (y : Int) := by omega
                    have hY1 : (y : Int) < (k' : Int) := by have := HRg.out.2; have := HKl.out.2; omega
                    have hu0 : (0 : Int) ≤ (u : Int) := by omega
                    have hu1 : (u : Int) < (n2 : Int) := by have := hN2.arg.len; have := hfn.1; omega
                    have hv0 : (0 : Int) ≤ (v : Int) := by omega
                    have hv1 : (v : Int) < (k : Int) := by omega
                    have hz0' : (0 : Int) ≤ (z : Int) := by omega
                    have hz1' : (z : Int) < (k' : Int) := by omega
                    have HMd : Hid (∀ q, MkAt w0 (wE.drewN q) g k k' bl F) := Lib.hid (fun q => hMe.up (below_drewN (Below.refl _ _) q))
                    have HPd : Hid (∀ q, Whole (wE.drewN q) Pb 96 #[.int .i64 (x : Int), .int .i64 (y : Int)]) := Lib.hid (fun q => HPe.out.below (below_drewN (Below.refl _ _) q) HPe.out.lt)
                    clear hal hWe hMe HPe hN1 hN2 hef hfn hu hvv hzz x3 p1 f1 f2 d3 hjl hvk hzk hyk hr
                    cases gf
                    · have HN : Hid (relB m s L = false) := Lib.hid (HBad.out (by
                        unfold pairB closeB
                        rw [HFt.out, all_stop (f := fun e : Edg => getF F e.2.toNat (nextY s y e.1)) HEd.out.2.2 (by rw [HEd.out.1, HEd.out.2.1]; exact HGf.out)]
                        rfl))
                      go_wp2
                      rw [HwE.out]
                      go_quiet (fail)
                      go_wp2
                      go_ret
                      exact ⟨by rw [HN.out]; rfl, HB0.out.trans ((HMd.out _).below.mono HB0.out.size)⟩
                    · have HEn : Hid (((stAt m.states x).take (j + 1)).all (fun e => getF F e.2.toNat (nextY s y e.1)) = true) := Lib.hid (all_next (f := fun e : Edg => getF F e.2.toNat (nextY s y e.1)) HEd.out.2.2 (by rw [HEd.out.1, HEd.out.2.1]; exact HGf.out) hEj.out)
                      go_wp2
                      rw [HwE.out]
                      go_quiet (fail)
                      go_wp2
                      go_roundw
                      case rel => exact ⟨j + 1, by go_num, by omega, HEn, Lib.hid (HMd.out _), Lib.hid (HPd.out _)⟩
                      case measure => simp [intOf]; omega
                  · have HCl : Hid ((L.take (r + 1)).all (fun p => pairB m s F p.1.toNat p.2.toNat) = true) := Lib.hid (HNx.out (by
                      unfold pairB closeB
                      rw [HFt.out, all_end (f := fun e : Edg => getF F e.2.toNat (nextY s y e.1)) (by rw [HEl.out]; omega) hEj.out]
                      rfl))
                    go_wp2
                    go_roundw
                    case rel => exact ⟨r + 1, by go_num, by omega, HCl, hMj⟩
                    case measure => simp [intOf]; omega
            · obtain ⟨u1, u2, _⟩ := hM.out.rel.cells (x := 0) (y := 0) (by omega) (by omega)
              unfold rowV at u1
              obtain ⟨gv, HGv⟩ : ∃ z, Hid (getF F 0 0 = z) := ⟨_, Lib.hid rfl⟩
              obtain ⟨rb, HRb⟩ : ∃ z, Hid (bl.getD 0 0 = z) := ⟨_, Lib.hid rfl⟩
              rw [HRb.out] at u1 u2
              rw [HGv.out] at u2
              have HR : Hid (relB m s L = gv) := Lib.hid (by
                rw [HRel.out, all_end (f := fun p : Int × Int => pairB m s F p.1.toNat p.2.toNat) (by rw [HPl.out]; omega) hC.out, HGv.out, Bool.true_and])
              have HB9 := Lib.hid (HB0.out.trans (hM.out.below.mono HB0.out.size))
              have hk1'' : (0 : Int) < (k : Int) := by omega
              have hk2'' : (0 : Int) < (k' : Int) := by omega
              go_wp2
              go_ret
              exact ⟨by rw [HR.out]; rfl, HB9.out⟩
end Go.Proofs.YtohljainhkdiiaaGreatDoor
/- A region that draws its order, within a round of a range over a function: what serves it outside of the round serves it there, as long as it defers no call. Nothing here is about a program. -/
namespace Go.Proofs.YtohljainhkdiiaaGreatDoor
open Go.RowKit Go.Sort

theorem opIn_round {n : Nat} {P : Program} {o : Oper} {a : Act} {w : World} {K K' : Act → World → Prop} {Q : Exit → Act → World → Prop} (l : Nat) (hd : ∀ c, o.op ≠ .defer c) (h : ∀ a w, K a w → K' a w) (hh : o.wpIn Fence.wide n P a w K Q) : o.wpIn (Fence.wide.inRound l) n P a w K' Q := by
  have h1 := Oper.wpIn_mono h hh
  unfold Oper.wpIn at h1 ⊢
  refine ⟨h1.1, ?_⟩
  have h2 := h1.2
  rw [Oper.semAt_plain _ _ _ hd] at h2 ⊢
  generalize (execOp a.eval o).run P w = r at *
  cases r with
  | ok x w' => cases x <;> exact h2
  | halt x w' => exact h2
theorem wpOpIn_round {n : Nat} {P : Program} {ops : Array Oper} {Q : Exit → Act → World → Prop} {i : Nat} {a : Act} {w : World} {K K' : Act → World → Prop} (l : Nat) (hd : ∀ o ∈ ops, ∀ c, o.op ≠ .defer c) (h : ∀ a w, K a w → K' a w) (hh : wpOpIn Fence.wide n P ops Q i K a w) : wpOpIn (Fence.wide.inRound l) n P ops Q i K' a w := by
  unfold wpOpIn at *
  split
  · exact h _ _ (by simpa [*] using hh)
  · rename_i o ho
    simp only [ho] at hh
    split
    · rename_i hw; simp only [hw, if_true] at hh; exact opIn_round l (hd o (Array.mem_of_getElem? ho)) h hh
    · rename_i hw; simp only [hw] at hh; exact ⟨hh.1, h _ _ hh.2⟩
theorem wpAnyIn_round {n : Nat} {P : Program} {md : Region.Mode} {ops : Array Oper} {Q : Exit → Act → World → Prop} (l : Nat) (hd : ∀ o ∈ ops, ∀ c, o.op ≠ .defer c) : ∀ (fuel : Nat) (listed : Array Bool) (a : Act) (w : World), wpAnyIn Fence.wide n P md ops Q fuel listed a w → wpAnyIn (Fence.wide.inRound l) n P md ops Q fuel listed a w
  | 0, _, _, _, h => h
  | fuel + 1, _, _, _, h => ⟨h.1, fun i hi => wpOpIn_round l hd (fun _ _ h' => wpAnyIn_round l hd fuel _ _ _ h') (h.2 i hi)⟩
/-- .. the walk of the order of the text, for callees that turn nothing old -/
theorem wpIn_round_quiet_below {n : Nat} {P : Program} {id : Nat} {Q : Exit → Act → World → Prop} {a : Act} {w : World} {L : List Oper} (l : Nat) (hd : ∀ o ∈ L.toArray, ∀ c, o.op ≠ .defer c) (hm : P.follows .mixedOrders = true) (hB : Region.lexB .any L.toArray = true)
    (h : wpQuietIn Fence.wide n P L.toArray (fun w' => ∃ p : Regrown, w' = grow (redrawn w p.d) p.os) (fun a' => ∀ w', (∃ p : Regrown, w' = grow (redrawn w p.d) p.os) → Q .normal a' w') L a) : (Code.region id L.toArray true).wpIn (Fence.wide.inRound l) n P Q a w := by
  simp only [Region.lexB, Bool.and_eq_true] at hB
  refine wpIn_region_any hm (wpAnyIn_round l hd _ _ _ _ (wpAnyIn_of_quiet (C := fun w' => ∃ p : Regrown, w' = grow (redrawn w p.d) p.os) (Q := fun a' => ∀ w', (∃ p : Regrown, w' = grow (redrawn w p.d) p.os) → Q .normal a' w') rfl (fun _ w' hw' h => h w' hw') _ _ _ _ ⟨⟨w.drawn + 1, #[]⟩, by rw [grow_empty]; rfl⟩ ?_))
  have := wpAnyQIn_lex (F := Fence.wide) (n := n) (C := fun w' => ∃ p : Regrown, w' = grow (redrawn w p.d) p.os) (md := .any) hB.1 L 0 (Array.replicate L.toArray.size false) a (by simp) (by simpa using hB.2) (by simpa using h)
  simpa using this
end Go.Proofs.YtohljainhkdiiaaGreatDoor
