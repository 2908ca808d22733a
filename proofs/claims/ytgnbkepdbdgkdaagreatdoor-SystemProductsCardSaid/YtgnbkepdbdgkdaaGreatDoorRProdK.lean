/- The reference's Product. -/
import Derived.Test.YtgnbkepdbdgkdaaGreatDoorRProdKitK
import Derived.StillTailTactics
import Derived.BigQuiet
namespace Go.Proofs.YtgnbkepdbdgkdaaGreatDoor
open Go.RowKit Go.Sort Pl

theorem made_zeros (k : Nat) : (madeCells (Value.int .i64 0).cells (k * 1)).toList = rowF k (fun _ => .int .i64 0) := by
  refine List.ext_getElem (by simp [madeCells, rowF]) fun i h1 h2 => ?_
  simp [madeCells, Value.cells, rowF, Nat.mod_one]

set_option maxRecDepth 100000 in
set_option maxHeartbeats 32000000 in
theorem RProd_any {w : World} {a : Option Addr} {n c : Nat} {b : Option Addr} {k d : Nat} {m : Syst} {a' : Option Addr} {n' c' : Nat} {b' : Option Addr} {k' d' : Nat} {m' : Syst} (A : SysArg w a n c b k d m) (A' : SysArg w a' n' c' b' k' d' m') (hv : sysB m = true) (hv' : sysB m' = true) :
    Calls Tryz.prog 16 #[.agg #[.slice a n c, .slice b k d], .agg #[.slice a' n' c', .slice b' k' d']] w fun e w' => Below w.heap.size w w' ∧
      ((∃ va vs v i, e = .returned (.tuple #[.agg #[va, vs], v, .bool true]) ∧ PrOk m m' i ∧ SysOwn w' w.heap.size va vs ⟨m.acts, prRows m m' i⟩ ∧ w'.ownsRow w.heap.size 48 2 v i (pcells (prQ m m' i))) ∨
        ∃ i, PrBad m m' i ∧ e = .returned (.tuple #[.agg #[.slice none 0 0, .slice none 0 0], .slice none 0 0, .bool false])) := by
  obtain ⟨i1, hi1, hz10, hz11, hz12⟩ := info_parts infoRowI
  obtain ⟨iI, hi2, hz20, hz21, hz22⟩ := info_parts infoNum
  obtain ⟨i3, hi3, hz30, hz31, hz32⟩ := info_parts infoPair2
  obtain ⟨i4, hi4, hz40, hz41, hz42⟩ := info_parts infoString
  obtain ⟨i5, hi5', hz50, hz51, hz52⟩ := info_parts infoEdge
  obtain ⟨i6, hi6, hz60, hz61, hz62⟩ := info_parts infoRow
  have hk5 : k ≤ 5000 := by have := ((sysB_iff m).1 hv).2.2.1; have := A.len; omega
  have hk1 : 1 ≤ k := by have := ((sysB_iff m).1 hv).2.1; have := A.len; omega
  have hk5' : k' ≤ 5000 := by have := ((sysB_iff m').1 hv').2.2.1; have := A'.len; omega
  have hk1' : 1 ≤ k' := by have := ((sysB_iff m').1 hv').2.1; have := A'.len; omega
  have hn8 : n ≤ 1000000 := by have := A.acts.len; have := ((actsB_iff _).1 ((sysB_iff m).1 hv).1).1; omega
  have hb0 := (((Below.refl w.heap.size w).alloc (Nat.le_refl _) (.cells #[.slice a n c, .slice b k d] 25)).alloc (by simp) (.cells #[.slice a' n' c', .slice b' k' d'] 25)).alloc (by simp; omega) (.cells #[.slice none 0 0, .slice none 0 0] 25)
  have hx1 := ((Whole.new w 25 #[.slice a n c, .slice b k d]).alloc (.cells #[.slice a' n' c', .slice b' k' d'] 25)).alloc (.cells #[.slice none 0 0, .slice none 0 0] 25)
  have hx2 := (Whole.new (w.alloc (.cells #[.slice a n c, .slice b k d] 25)) 25 #[.slice a' n' c', .slice b' k' d']).alloc (.cells #[.slice none 0 0, .slice none 0 0] 25)
  have hx3 := Whole.new ((w.alloc (.cells #[.slice a n c, .slice b k d] 25)).alloc (.cells #[.slice a' n' c', .slice b' k' d'] 25)) 25 #[.slice none 0 0, .slice none 0 0]
  have hz : (((w.alloc (.cells #[.slice a n c, .slice b k d] 25)).alloc (.cells #[.slice a' n' c', .slice b' k' d'] 25)).alloc (.cells #[.slice none 0 0, .slice none 0 0] 25)).heap.size = w.heap.size + 3 := by simp
  simp only [World.size_alloc] at hx2 hx3
  obtain ⟨w0, HW0⟩ : ∃ z, Hid (((w.alloc (.cells #[.slice a n c, .slice b k d] 25)).alloc (.cells #[.slice a' n' c', .slice b' k' d'] 25)).alloc (.cells #[.slice none 0 0, .slice none 0 0] 25) = z) := ⟨_, Lib.hid rfl⟩
  rw [HW0.out] at hb0 hx1 hx2 hx3 hz
  have HA := Lib.hid (A.below hb0)
  have HA' := Lib.hid (A'.below hb0)
  have HV := Lib.hid hv
  have HV' := Lib.hid hv'
  have HX1 := Lib.hid hx1
  have HX2 := Lib.hid hx2
  have HX3 := Lib.hid hx3
  have HZ0 := Lib.hid hz
  have HB0 := Lib.hid hb0
  have HKl : Hid (m.states.length = k ∧ m'.states.length = k') := Lib.hid ⟨A.len.symm, A'.len.symm⟩
  have q1 : w0.cell? ⟨w.heap.size, 1, none⟩ = some (.slice b k d) := hx1.cell 1
  clear A A' hv hv' hb0 hx1 hx2 hx3 hz
  go_enter Tryz.func16, Tryz.ntmps16
  go_wp2_with (at_make; rw [HW0.out]; refine wpList_make_full _ rfl _ _ 102 rfl w0.heap.size 28 i1 (.slice none 0 0) 1 Tryz.underlying102 hi1 hz10 hz11 .i64 .i64 k k k rfl rfl rfl rfl (by rw [hz12]; omega) (by unfold maxLen; omega) (Nat.le_refl _) ?_; intro w1 hrow hg1; refine Hid.out ?_)
  rw [made_nils] at hrow
  have HN0 : Hid (MkPl w0 w1 w0.heap.size k k' 0 []) := Lib.hid ⟨rfl, fun y z hy => by omega, by simpa using hrow, fun y hy => by omega, below_up hg1⟩
  obtain ⟨g, HGg⟩ : ∃ g, Hid (w0.heap.size = g) := ⟨_, Lib.hid rfl⟩
  have HN0' : Hid (MkPl w0 w1 g k k' 0 []) := Lib.hid (by rw [← HGg.out]; exact HN0.out)
  rw [HGg.out]
  clear hrow hg1 q1 HN0
  refine Lib.hid ?_
  go_wp2
  go_loopw [8, 27] (fun _ p wr => ∃ (x : Nat) (bl : List Nat), p = .int .i64 x ∧ x ≤ k ∧ Hid (MkPl w0 wr g k k' x bl)) (fun _ p _ => k - (intOf p).toNat)
  case atStart => exact ⟨0, [], rfl, Nat.zero_le _, HN0'⟩
  case round => as_aux_lemma =>
    obtain ⟨x, bl, rfl, hx, hN⟩ := hrel
    have hzr := hN.out.below.size
    have p3 := (HX2.out.below hN.out.below HX2.out.lt).cell 1
    simp only [List.getElem?_toArray, List.getElem?_cons_succ, List.getElem?_cons_zero] at p3
    by_cases hlt : x < k
    · have ii0 : (0 : Int) ≤ (x : Int) := by omega
      have ii1 : (x : Int) < (k : Int) := by omega
      go_wp2_with (at_make; refine wpList_make_full _ rfl _ _ 28 rfl w0.heap.size 3 iI (.int .i64 0) 1 Tryz.underlying28 hi2 hz20 hz21 .i64 .i64 k' k' k' rfl rfl rfl rfl (by rw [hz22]; omega) (by unfold maxLen; omega) hzr ?_; intro w2 hrow hg2; refine Hid.out ?_)
      refine Lib.hid ?_
      rw [made_zeros] at hrow
      have hNx := hN.out.next hlt hrow hg2
      have ho := hN.out.outer.kept hg2 (.inr (by simp [Value.ownBlock]))
      have c1 := ho.cellAt x (by omega)
      have c2 := ho.frozenAt x
      rw [List.getElem?_append_right (by rw [List.length_map, hN.out.len]; exact Nat.le_refl _), List.length_map, hN.out.len, Nat.sub_self, List.getElem?_replicate, if_pos (by omega)] at c1
      have HNx := Lib.hid hNx
      unfold rowV at HNx
      clear hrow hg2 hNx ho p3
      go_wp2
      go_roundw
      case rel => exact ⟨x + 1, _, by go_num, by omega, HNx⟩
      case measure => simp [intOf]; omega
    · have hxk : k = x := by omega
      subst hxk
      have hPl := hN.out.done
      have hal : Below wr.heap.size wr (wr.alloc (.cells #[.int .i64 0, .int .i64 0] 48)) := (Below.refl _ wr).alloc (Nat.le_refl _) (.cells #[.int .i64 0, .int .i64 0] 48)
      have hP1 := hPl.below hal
      obtain ⟨c1, c2, c3⟩ := hP1.cells (x := 0) (y := 0) (by omega) (by omega)
      have hset := hP1.set (F' := plP [(0, 0)]) (x := 0) (y := 0) (by omega) (by omega) 1 (fun z u => by
        unfold plP
        by_cases e : z = 0 ∧ u = 0
        · obtain ⟨rfl, rfl⟩ := e
          simp
        · rw [if_neg e, if_neg]
          intro h9
          rw [List.mem_singleton] at h9
          exact e (Prod.mk.inj h9))
      have hrow0 := hP1.rows 0 (by omega)
      have hlit := World.ownsRow_lit (base := w0.heap.size) (e := 48) (size := 2) wr #[.int .i64 0, .int .i64 0] 1 hN.out.below.size (by unfold maxLen; omega) rfl
      have hlit2 : (wr.alloc (.cells #[.int .i64 0, .int .i64 0] 48)).ownsRow w0.heap.size 48 2 (.slice (some ⟨wr.heap.size, 0, none⟩) 1 1) 1 (pcells [(0, 0)]) := hlit
      obtain ⟨r0, hr0⟩ : ∃ r, bl.getD 0 0 = r := ⟨_, rfl⟩
      have hst0 := (hrow0.stored 0 (.int .i64 ((1 : Nat) : Int))).2
      rw [hr0] at c1 c2 c3 hset hst0 hrow0
      have hlit3 := hlit2.kept hst0 (own_apart hlit2 hrow0 (by decide))
      have hbS : Below w0.heap.size w0 ((wr.alloc (.cells #[.int .i64 0, .int .i64 0] 48)).setCell ⟨r0, 0, none⟩ (.int .i64 ((1 : Nat) : Int))) := (hN.out.below.trans (hal.mono hN.out.below.size)).setCell (own_ge hrow0 _ rfl) _
      have hset : PlAt ((wr.alloc (.cells #[.int .i64 0, .int .i64 0] 48)).setCell ⟨r0, 0, none⟩ (.int .i64 1)) w0.heap.size g k k' bl (plP [(0, 0)]) := by rw [← HGg.out]; rw [← HGg.out] at hset; exact hset
      have hlit3 : ((wr.alloc (.cells #[.int .i64 0, .int .i64 0] 48)).setCell ⟨r0, 0, none⟩ (.int .i64 1)).ownsRow w0.heap.size 48 2 (.slice (some ⟨wr.heap.size, 0, none⟩) 1 1) 1 (pcells [(0, 0)]) := hlit3
      have hbS : Below w0.heap.size w0 ((wr.alloc (.cells #[.int .i64 0, .int .i64 0] 48)).setCell ⟨r0, 0, none⟩ (.int .i64 1)) := hbS
      obtain ⟨wS, HWS⟩ : ∃ z, Hid ((wr.alloc (.cells #[.int .i64 0, .int .i64 0] 48)).setCell ⟨r0, 0, none⟩ (.int .i64 1) = z) := ⟨_, Lib.hid rfl⟩
      obtain ⟨gp, HGp⟩ : ∃ z, Hid (wr.heap.size = z) := ⟨_, Lib.hid rfl⟩
      rw [HWS.out] at hset hlit3 hbS
      rw [HGp.out] at hlit3
      unfold rowV at c1
      have HSet := Lib.hid hset
      have HLit := Lib.hid hlit3
      have HBS := Lib.hid hbS
      have s0 := (HX1.out.below hbS HX1.out.lt).cell 0
      simp only [List.getElem?_toArray, List.getElem?_cons_zero] at s0
      have hAa := (HA.out.below hbS).acts
      have HNil := Lib.hid hAa.nils
      have HLa : Hid ((m.acts.map Value.string).length = n * 1) := Lib.hid (by have := hAa.len; simp; omega)
      have HSa := Lib.hid (strs_src hAa)
      have HLl : Hid (n = m.acts.length) := Lib.hid hAa.len
      clear hPl hal hP1 hset hrow0 hlit hlit2 hst0 hlit3 hbS p3 hlt hr0 hx hAa
      go_upto_region 9 with (fail)
      rw [HWS.out, HGp.out]
      clear c1 c2 c3
      go_wp2_with (at_builtin; (refine wpList_append_sz rfl (.const (.slice none 0 0)) (.tmp 45) 22 rfl w0.heap.size 9 i4 (.string ⟨#[]⟩) 1 16 Tryz.underlying22 hi4 hz40 hz41 hz42 rfl (by decide) (.slice none 0 0) rfl 0 [] (World.ownsRow_nil _ _ _ _) a n c rfl (m.acts.map Value.string) HNil.out HLa.out HSa.out (strs_one _) (by unfold maxLen; omega) (by omega) HBS.out.size ?_); intro va w2 hva hg2 hat2; refine Hid.out ?_)
      refine Lib.hid ?_
      simp only [Nat.zero_add, List.nil_append] at hva
      obtain ⟨aa, ca, rfl⟩ := own_slice hva
      have hb2 : Below wS.heap.size wS w2 := (Below.refl _ wS).grown hg2 (Nat.le_refl _) (fun k hk => by cases hk)
      obtain ⟨B3, HB3e⟩ : ∃ z, Hid (w2.heap.size = z) := ⟨_, Lib.hid rfl⟩
      obtain ⟨w3, HW3⟩ : ∃ z, Hid (w2.alloc (.cells #[.slice aa n ca, .slice none 0 0] 25) = z) := ⟨_, Lib.hid rfl⟩
      have HR0 : Hid (RpAt w0 g k k' bl B3 (.slice aa n ca) (.slice none 0 0) (.slice (some ⟨gp, 0, none⟩) 1 1) m.acts (prQ m m' 0) [] w3) := Lib.hid (by
        have al := (Below.refl _ w2).alloc (Nat.le_refl _) (.cells #[.slice aa n ca, .slice none 0 0] 25)
        rw [HW3.out] at al
        have b3 := hb2.trans (al.mono hb2.size)
        refine ⟨HSet.out.below b3, own_up' HLit.out b3, ?_, RowsOwn.none _ _, ?_, HBS.out.trans (b3.mono HBS.out.size)⟩
        · rw [← HW3.out, ← HB3e.out]; exact Whole.new _ _ _
        · rw [← HLl.out]
          exact own_up' hva al)
      have HB3l : Hid (w0.heap.size ≤ B3) := Lib.hid (by rw [← HB3e.out]; exact Nat.le_trans HBS.out.size hb2.size)
      have HS0 : Hid (PStp m m' 0) := Lib.hid (fun j hj => by omega)
      clear hva hg2 hat2 hb2 s0
      go_upto_region 12 with (fail)
      rw [HW3.out, HB3e.out]
      go_loopw [9, 11, 12, 13, 15, 17, 18, 20, 64, 78, 147] (fun pv mv iv _ _ _ _ _ _ _ _ wr => ∃ (i : Nat) (pa : Option Addr) (pc : Nat) (vs : Value), iv = .int .i64 i ∧ mv = .int .i64 ((prN m m' i : Nat) : Int) ∧ pv = .slice pa (prQ m m' i).length pc ∧ Hid (PStp m m' i) ∧ i ≤ (prQ m m' i).length ∧ Hid (RpAt w0 g k k' bl B3 (.slice aa n ca) vs (.slice pa (prQ m m' i).length pc) m.acts (prQ m m' i) (prRows m m' i) wr)) (fun _ _ iv _ _ _ _ _ _ _ _ _ => 5001 - (intOf iv).toNat)
      case atStart => exact ⟨0, _, _, _, rfl, rfl, rfl, HS0, Nat.zero_le _, HR0⟩
      case round =>
        as_aux_lemma =>
        obtain ⟨w4, hw4⟩ : ∃ z, z = wr := ⟨_, rfl⟩
        subst hw4
        obtain ⟨i, pa, pc, vs, rfl, rfl, rfl, hSt, hi, hR⟩ := hrel
        have HIn := Lib.hid (prQ_in HV.out HV'.out i hSt.out)
        obtain ⟨hi5, hpn, hlq⟩ := pstp_small hSt.out hi
        obtain ⟨L0, HL0⟩ : ∃ z, Hid (prQ m m' i = z) := ⟨_, Lib.hid rfl⟩
        obtain ⟨ln, HLn⟩ : ∃ z, Hid (L0.length = z) := ⟨_, Lib.hid rfl⟩
        obtain ⟨T, HT⟩ : ∃ z, Hid (prN m m' i = z) := ⟨_, Lib.hid rfl⟩
        rw [HL0.out] at hR HIn
        rw [HL0.out, HLn.out] at hi hlq
        rw [HT.out] at hpn ⊢
        rw [HLn.out] at hR
        rw [HL0.out, HLn.out]
        have hlst := hR.out.prs
        rw [HLn.out] at hlst
        have hz9 := hR.out.below.size
        by_cases hlt : i < ln
        · obtain ⟨⟨x, y⟩, HXY⟩ : ∃ p, Hid (L0[i]? = some p) := ⟨_, Lib.hid (List.getElem?_eq_getElem (by rw [HLn.out]; exact hlt))⟩
          have HPa : Hid (pAt m m' i = (x, y)) := Lib.hid (by unfold pAt; rw [HL0.out, List.getD_eq_getElem?_getD, HXY.out]; rfl)
          have hlow := HIn.out.low _ (List.mem_of_getElem? HXY.out)
          have hx : x < k := by have := HKl.out.1; have := hlow.1; omega
          have hy : y < k' := by have := HKl.out.2; have := hlow.2; omega
          obtain ⟨lb, lc', e, d0, d1⟩ := pair_cells2 hlst hlt HXY.out
          cases e
          have x0 : (0 : Int) ≤ (x : Int) := by omega
          have x1 : (x : Int) < (k : Int) := by omega
          have y0 : (0 : Int) ≤ (y : Int) := by omega
          have y1 : (y : Int) < (k' : Int) := by omega
          have i0 : (0 : Int) ≤ (i : Int) := by omega
          have i1 : (i : Int) < (ln : Int) := by omega
          have b1 := (HX1.out.below hR.out.below HX1.out.lt).cell 1
          simp only [List.getElem?_toArray, List.getElem?_cons_succ, List.getElem?_cons_zero] at b1
          obtain ⟨l, HLl1⟩ : ∃ z, Hid (stAt m.states x = z) := ⟨_, Lib.hid rfl⟩
          obtain ⟨l', HLl2⟩ : ∃ z, Hid (stAt m'.states y = z) := ⟨_, Lib.hid rfl⟩
          obtain ⟨bx, ox, rfl, ai, ni, ci, e11, hE⟩ := HA.out.rows x hlow.1
          obtain ⟨by_, oy, rfl, ai', ni', ci', e12, hE'⟩ := HA'.out.rows y hlow.2
          have e11' := (hR.out.below.cell (lt_of_cell e11)).trans e11
          rw [HLl1.out] at hE
          rw [HLl2.out] at hE'
          have HE := Lib.hid hE
          have HE' := Lib.hid hE'
          have E12 := Lib.hid e12
          have HJa : Hid (jAt m m' (pAt m m' i) = jntR l l') := Lib.hid (by rw [HPa.out, ← HLl1.out, ← HLl2.out]; exact jAt_R HV.out hlow.1)
          have HPos : Hid ((∀ e ∈ l, 0 ≤ e.1 ∧ e.1 < 8 ∧ 0 ≤ e.2 ∧ e.2 < (k : Int)) ∧ (∀ e ∈ l', 0 ≤ e.1 ∧ e.1 < 8 ∧ 0 ≤ e.2 ∧ e.2 < (k' : Int)) ∧ l.length ≤ 400000 ∧ l'.length ≤ 400000) := Lib.hid (by
            rw [← HLl1.out, ← HLl2.out]
            have h1 := row_le m.states x hlow.1
            have h2 := row_le m'.states y hlow.2
            have h3 := (sysB_iff m).1 HV.out
            have h4 := (sysB_iff m').1 HV'.out
            have h5 := ((actsB_iff _).1 h3.1).1
            have h6 := ((actsB_iff _).1 h4.1).1
            have h7 := HKl.out
            exact ⟨fun e he => by have := edgeP_in HV.out hlow.1 he; omega, fun e he => by have := edgeP_in HV'.out hlow.2 he; omega, by have := h3.2.2.2.2; omega, by have := h4.2.2.2.2; omega⟩)
          have HEl : Hid (l.length = ni) := Lib.hid hE.len.symm
          have HEl' : Hid (l'.length = ni') := Lib.hid hE'.len.symm
          have hni : ni ≤ 400000 := by have := HPos.out.2.2.1; have := HEl.out; omega
          have hni' : ni' ≤ 400000 := by have := HPos.out.2.2.2; have := HEl'.out; omega
          have hil : i < L0.length := by rw [HLn.out]; exact hlt
          have HIl := Lib.hid hil
          have HNs : Hid (prN m m' (i + 1) = T + (jntR l l').length) := Lib.hid (by
            show prN m m' i + (jAt m m' (pAt m m' i)).length = _
            rw [HT.out, HJa.out])
          have HQs : Hid (prQ m m' (i + 1) = prE L0 (jntR l l')) := Lib.hid (by rw [prQ_succ, HJa.out, HL0.out])
          have HRs : Hid (prRow m m' i = sortEd (prR L0 (jntR l l'))) := Lib.hid (by unfold prRow; rw [HJa.out, HL0.out])
          have HCd0 : Hid (CdAt w0.heap.size k bl (.slice none 0 0) ((prR L0 (jQ l l' 0 0)).map codeE) w4) := Lib.hid ⟨World.ownsRow_nil _ _ _ _, fun z _ e => by cases e⟩
          have HR4 : Hid (RpAt w0 g k k' bl B3 (.slice aa n ca) vs (.slice (some ⟨lb, 0, none⟩) (prE L0 (jQ l l' 0 0)).length pc) m.acts (prE L0 (jQ l l' 0 0)) (prRows m m' i) w4) := Lib.hid (by
            have e9 : prE L0 (jQ l l' 0 0) = L0 := by simp [jQ, jntR, rRow, prE]
            rw [e9, HLn.out]
            exact hR.out)
          have HL4 : Hid ((prE L0 (jQ l l' 0 0)).length = ln) := Lib.hid (by
            have e9 : prE L0 (jQ l l' 0 0) = L0 := by simp [jQ, jntR, rRow, prE]
            rw [e9, HLn.out])
          have HJ0 : Hid ((jQ l l' 0 0).length = 0) := Lib.hid (by simp [jQ, jntR, rRow])
          clear hlst hlow e11 e12 hE hE' hil
          go_upto_region 15 with (fail)
          go_quiet (fail)
          obtain ⟨w5, HW5, hb45⟩ : ∃ z, Hid (World.drewN w4 nq = z) ∧ Below w4.heap.size w4 z := ⟨_, Lib.hid rfl, below_drewN (Below.refl _ _) _⟩
          rw [HW5.out]
          have HR5 := Lib.hid (HR4.out.up hb45)
          have HC5 := Lib.hid (HCd0.out.up hb45)
          clear hb45 HW5 d0 d1 b1 e11' hR HR4 HCd0
          go_upto_region 16 with (fail)
          go_loopw [9, 11, 13, 15, 17, 64, 78] (fun pv mv cv _ _ q _ wr => ∃ (t : Nat) (pa : Option Addr) (pc : Nat) (xa : Option Addr) (xc : Nat), q = .int .i64 t ∧ t ≤ ni ∧ pv = .slice pa (prE L0 (jQ l l' t 0)).length pc ∧ mv = .int .i64 ((T + (jQ l l' t 0).length : Nat) : Int) ∧ cv = .slice xa (jQ l l' t 0).length xc ∧ (prE L0 (jQ l l' t 0)).length ≤ 5000 ∧ T + (jQ l l' t 0).length ≤ 400000 ∧ Hid (RpAt w0 g k k' bl B3 (.slice aa n ca) vs (.slice pa (prE L0 (jQ l l' t 0)).length pc) m.acts (prE L0 (jQ l l' t 0)) (prRows m m' i) wr) ∧ Hid (CdAt w0.heap.size k bl (.slice xa (jQ l l' t 0).length xc) ((prR L0 (jQ l l' t 0)).map codeE) wr)) (fun _ _ _ _ _ q _ _ => ni - (intOf q).toNat)
          case atStart => exact ⟨0, _, _, none, 0, rfl, by omega, by rw [HL4.out], by rw [HJ0.out]; rfl, by rw [HJ0.out], by rw [HL4.out]; exact hlq, by rw [HJ0.out]; exact hpn, HR5, by rw [HJ0.out]; exact HC5⟩
          case round =>
            as_aux_lemma =>
            obtain ⟨w5, hw5⟩ : ∃ z, z = wr := ⟨_, rfl⟩
            subst hw5
            obtain ⟨t, pa, pc, xa, xc, rfl, ht, rfl, rfl, rfl, hp5, hm4, hR, hC⟩ := hrel
            obtain ⟨jt, HJt⟩ : ∃ z, Hid (jQ l l' t 0 = z) := ⟨_, Lib.hid rfl⟩
            rw [HJt.out] at hp5 hm4 hR hC ⊢
            obtain ⟨pl, HPl⟩ : ∃ z, Hid ((prE L0 jt).length = z) := ⟨_, Lib.hid rfl⟩
            obtain ⟨jl, HJl⟩ : ∃ z, Hid (jt.length = z) := ⟨_, Lib.hid rfl⟩
            rw [HPl.out] at hp5 hR
            rw [HJl.out] at hm4 hC
            rw [HPl.out, HJl.out]
            by_cases htl : t < ni
            · have htl' : t < l.length := by rw [HEl.out]; exact htl
              have hBw := hR.out.below
              obtain ⟨be, oe, rfl, d3, d4⟩ := (HE.out.cells.below hBw) t htl'
              have hpos := HPos.out.1 _ (edAt_mem htl')
              obtain ⟨u, hu⟩ := Int.eq_ofNat_of_zero_le hpos.1
              obtain ⟨p, hpp⟩ := Int.eq_ofNat_of_zero_le hpos.2.2.1
              have hu8 : u < 8 := by omega
              have hpk : p < k := by omega
              have HU : Hid ((edAt l t).1 = (u : Int)) := Lib.hid hu
              have HP : Hid ((edAt l t).2.toNat = p) := Lib.hid (by rw [hpp]; rfl)
              rw [hu] at d3
              rw [hpp] at d4
              have hal := (Below.refl _ w5).alloc (Nat.le_refl _) (.cells #[.int .i64 (u : Int), .int .i64 (p : Int)] 87)
              have hR6 := hR.out.up hal
              have hC6 := hC.out.up hal
              have hX6 := Whole.new w5 87 #[.int .i64 (u : Int), .int .i64 (p : Int)]
              obtain ⟨w6, HW6⟩ : ∃ z, Hid (w5.alloc (.cells #[.int .i64 (u : Int), .int .i64 (p : Int)] 87) = z) := ⟨_, Lib.hid rfl⟩
              obtain ⟨e6, HE6⟩ : ∃ z, Hid (w5.heap.size = z) := ⟨_, Lib.hid rfl⟩
              rw [HW6.out] at hR6 hC6 hX6
              rw [HE6.out] at hX6
              have hLi : (prE L0 jt)[i]? = some (x, y) := by
                obtain ⟨r, hr⟩ := prE_pre jt L0
                rw [← hr, List.getElem?_append_left HIl.out]
                exact HXY.out
              have hlst := hR6.prs
              rw [HPl.out] at hlst
              have hipl : i < pl := by
                have h9 := (prE_pre jt L0).length_le
                have := HIl.out
                have := HPl.out
                omega
              obtain ⟨pb, pc', e, f0, f1⟩ := pair_cells2 hlst hipl hLi
              cases e
              have b2 := (HX2.out.below hR6.below HX2.out.lt).cell 1
              simp only [List.getElem?_toArray, List.getElem?_cons_succ, List.getElem?_cons_zero] at b2
              have e12 := (hR6.below.cell (lt_of_cell E12.out)).trans E12.out
              have i2 : (i : Int) < (pl : Int) := by omega
              have HR6 := Lib.hid hR6
              have HC6 := Lib.hid hC6
              have HX6 := Lib.hid hX6
              have HHp := Lib.hid hpk
              clear hal hR6 hC6 hX6 hlst hLi hBw hpos hu hpp htl' hR hC
              go_upto_region 18 with (fail)
              rw [HW6.out, HE6.out]
              clear d3 d4
              go_quiet (fail)
              obtain ⟨w7, HW7, hb67⟩ : ∃ z, Hid (World.drewN w6 nq = z) ∧ Below w6.heap.size w6 z := ⟨_, Lib.hid rfl, below_drewN (Below.refl _ _) _⟩
              rw [HW7.out]
              have HJv0 : Hid (jQ l l' t 0 = jt) := HJt
              have HR7 : Hid (RpAt w0 g k k' bl B3 (.slice aa n ca) vs (.slice (some ⟨pb, 0, none⟩) (prE L0 (jQ l l' t 0)).length pc) m.acts (prE L0 (jQ l l' t 0)) (prRows m m' i) w7) := Lib.hid (by rw [HJt.out, HPl.out]; exact HR6.out.up hb67)
              have HC7 : Hid (CdAt w0.heap.size k bl (.slice xa (jQ l l' t 0).length xc) ((prR L0 (jQ l l' t 0)).map codeE) w7) := Lib.hid (by rw [HJt.out, HJl.out]; exact HC6.out.up hb67)
              have HX7 := Lib.hid (HX6.out.below hb67 HX6.out.lt)
              clear hb67 HW7 f0 f1 b2 e12 HR6 HC6 HX6
              go_upto_region 19 with (fail)
              go_loopw [9, 11, 13, 17, 78] (fun pv mv cv _ q wr => ∃ (v : Nat) (pa : Option Addr) (pc : Nat) (xa : Option Addr) (xc : Nat), q = .int .i64 v ∧ v ≤ ni' ∧ pv = .slice pa (prE L0 (jQ l l' t v)).length pc ∧ mv = .int .i64 ((T + (jQ l l' t v).length : Nat) : Int) ∧ cv = .slice xa (jQ l l' t v).length xc ∧ (prE L0 (jQ l l' t v)).length ≤ 5000 ∧ T + (jQ l l' t v).length ≤ 400000 ∧ Hid (RpAt w0 g k k' bl B3 (.slice aa n ca) vs (.slice pa (prE L0 (jQ l l' t v)).length pc) m.acts (prE L0 (jQ l l' t v)) (prRows m m' i) wr) ∧ Hid (CdAt w0.heap.size k bl (.slice xa (jQ l l' t v).length xc) ((prR L0 (jQ l l' t v)).map codeE) wr) ∧ Hid (Whole wr e6 87 #[.int .i64 (u : Int), .int .i64 (p : Int)])) (fun _ _ _ _ q _ => ni' - (intOf q).toNat)
              case atStart => exact ⟨0, _, _, xa, xc, rfl, by omega, by rw [HJt.out, HPl.out], by rw [HJt.out, HJl.out], by rw [HJt.out, HJl.out], by rw [HJt.out, HPl.out]; exact hp5, by rw [HJt.out, HJl.out]; exact hm4, HR7, HC7, HX7⟩
              case round =>
                as_aux_lemma =>
                obtain ⟨w7, hw7⟩ : ∃ z, z = wr := ⟨_, rfl⟩
                subst hw7
                obtain ⟨v, pa, pc, xa, xc, rfl, hv9, rfl, rfl, rfl, hp5, hm4, hR, hC, hX⟩ := hrel
                obtain ⟨js, HJs⟩ : ∃ z, Hid (jQ l l' t v = z) := ⟨_, Lib.hid rfl⟩
                rw [HJs.out] at hp5 hm4 hR hC ⊢
                obtain ⟨pl, HPl⟩ : ∃ z, Hid ((prE L0 js).length = z) := ⟨_, Lib.hid rfl⟩
                obtain ⟨jl, HJl⟩ : ∃ z, Hid (js.length = z) := ⟨_, Lib.hid rfl⟩
                rw [HPl.out] at hp5 hR
                rw [HJl.out] at hm4 hC
                rw [HPl.out, HJl.out]
                by_cases hvl : v < ni'
                · have hvl' : v < l'.length := by rw [HEl'.out]; exact hvl
                  have htl' : t < l.length := by rw [HEl.out]; exact htl
                  have hBw := hR.out.below
                  obtain ⟨bf, of_, rfl, d3, d4⟩ := (HE'.out.cells.below hBw) v hvl'
                  have hpos := HPos.out.2.1 _ (edAt_mem hvl')
                  obtain ⟨u2, hu2⟩ := Int.eq_ofNat_of_zero_le hpos.1
                  obtain ⟨q, hqq⟩ := Int.eq_ofNat_of_zero_le hpos.2.2.1
                  have hqk : q < k' := by omega
                  have HU2 : Hid ((edAt l' v).1 = (u2 : Int)) := Lib.hid hu2
                  have HQ : Hid ((edAt l' v).2.toNat = q) := Lib.hid (by rw [hqq]; rfl)
                  rw [hu2] at d3
                  rw [hqq] at d4
                  have hal := (Below.refl _ w7).alloc (Nat.le_refl _) (.cells #[.int .i64 (u2 : Int), .int .i64 (q : Int)] 87)
                  have hR8 := hR.out.up hal
                  have hC8 := hC.out.up hal
                  have hD8 := hX.out.alloc (.cells #[.int .i64 (u2 : Int), .int .i64 (q : Int)] 87)
                  have hX8 := Whole.new w7 87 #[.int .i64 (u2 : Int), .int .i64 (q : Int)]
                  obtain ⟨w8, HW8⟩ : ∃ z, Hid (w7.alloc (.cells #[.int .i64 (u2 : Int), .int .i64 (q : Int)] 87) = z) := ⟨_, Lib.hid rfl⟩
                  obtain ⟨e8, HE8⟩ : ∃ z, Hid (w7.heap.size = z) := ⟨_, Lib.hid rfl⟩
                  rw [HW8.out] at hR8 hC8 hX8 hD8
                  rw [HE8.out] at hX8
                  have h60 := hD8.cell 0
                  have h61 := hD8.cell 1
                  have h80 := hX8.cell 0
                  have h81 := hX8.cell 1
                  simp only [List.getElem?_toArray, List.getElem?_cons_succ, List.getElem?_cons_zero] at h60 h61 h80 h81
                  have HR8 := Lib.hid hR8
                  have HC8 := Lib.hid hC8
                  have HD8 := Lib.hid hD8
                  have HX8 := Lib.hid hX8
                  clear hal hR8 hC8 hD8 hX8 hBw hpos hu2 hqq hR hC hX
                  go_upto_region 21 with (fail)
                  rw [HW8.out, HE8.out]
                  clear d3 d4
                  by_cases hact : u = u2
                  · subst hact
                    have HNx : Hid (jQ l l' t (v + 1) = js ++ [((u : Int), (p, q))]) := Lib.hid (by rw [jQ_yes hvl' (by rw [HU2.out, HU.out]), HJs.out, HU.out, HP.out, HQ.out])
                    have HCx : Hid ((jQ l l' t (v + 1)).length = jl + 1) := Lib.hid (by rw [HNx.out, List.length_append, HJl.out]; rfl)
                    have HEx : Hid (prE L0 (jQ l l' t (v + 1)) = pAdd (prE L0 js) (p, q)) := Lib.hid (by rw [HNx.out, prE_snoc])
                    obtain ⟨ix, HIx⟩ : ∃ z : Nat, Hid ((pAdd (prE L0 js) (p, q)).idxOf (p, q) = z) := ⟨_, Lib.hid rfl⟩
                    have HRx : Hid ((prR L0 (jQ l l' t (v + 1))).map codeE = (prR L0 js).map codeE ++ [(u : Int) * 4294967296 + (ix : Int)]) := Lib.hid (by
                      rw [HNx.out, prR_snoc, HIx.out, List.map_append]
                      rfl)
                    obtain ⟨rest, hrest⟩ := jQ_pre (k := l') htl' (v + 1)
                    have HBadP : Hid ((prE L0 (jQ l l' t (v + 1))).length ≤ (prQ m m' (i + 1)).length ∧ T + (jl + 1) ≤ prN m m' (i + 1)) := Lib.hid (by
                      rw [HQs.out, HNs.out, hrest]
                      refine ⟨prE_mono _ _ _, ?_⟩
                      rw [List.length_append, HCx.out]
                      omega)
                    obtain ⟨c1, c2, c3⟩ := HR8.out.tab.cells HHp.out hqk
                    obtain ⟨r0, hr0⟩ : ∃ r, bl.getD p 0 = r := ⟨_, rfl⟩
                    obtain ⟨pv, HPv⟩ : ∃ z, Hid (plP (prE L0 js) p q = z) := ⟨_, Lib.hid rfl⟩
                    unfold rowV at c1
                    rw [hr0] at c1 c2 c3
                    rw [HPv.out] at c2
                    have p0 : (0 : Int) ≤ (p : Int) := by omega
                    have p1 : (p : Int) < (k : Int) := by have := HHp.out; omega
                    have q0 : (0 : Int) ≤ (q : Int) := by omega
                    have q1 : (q : Int) < (k' : Int) := by omega
                    have hpl6 : pl ≤ 5000 := hp5
                    have hu7 : (u : Int) < 8 := by omega
                    clear hrest
                    go_upto_region 22 with (fail)
                    go_quiet (fail)
                    obtain ⟨w9, HW9, hb89⟩ : ∃ z, Hid (World.drewN w8 nq = z) ∧ Below w8.heap.size w8 z := ⟨_, Lib.hid rfl, below_drewN (Below.refl _ _) _⟩
                    rw [HW9.out]
                    have HR9 := Lib.hid (HR8.out.up hb89)
                    have HC9 := Lib.hid (HC8.out.up hb89)
                    have HD9 := Lib.hid (HD8.out.below hb89 HD8.out.lt)
                    have HX9 := Lib.hid (HX8.out.below hb89 HX8.out.lt)
                    have h60 := HD9.out.cell 0
                    have h61 := HD9.out.cell 1
                    have h80 := HX9.out.cell 0
                    have h81 := HX9.out.cell 1
                    have c1 := up_cell hb89 c1
                    have c2 := up_cell hb89 c2
                    simp only [List.getElem?_toArray, List.getElem?_cons_succ, List.getElem?_cons_zero] at h60 h61 h80 h81
                    clear hb89 HW9 c3 HR8 HC8 HD8 HX8
                    by_cases hin : (p, q) ∈ prE L0 js
                    · as_aux_lemma =>
                      have HPvx : Hid (pv = ix + 1 ∧ pAdd (prE L0 js) (p, q) = prE L0 js) := Lib.hid (by
                        have e1 : pAdd (prE L0 js) (p, q) = prE L0 js := by unfold pAdd; rw [if_pos hin]
                        refine ⟨?_, e1⟩
                        rw [← HPv.out, ← HIx.out, e1]
                        unfold plP
                        rw [if_pos hin])
                      have hpv0 : ¬ (pv : Int) = 0 := by have := HPvx.out.1; omega
                      have HLx : Hid ((prE L0 (jQ l l' t (v + 1))).length = pl) := Lib.hid (by rw [HEx.out, HPvx.out.2, HPl.out])
                      have HRn : Hid (RpAt w0 g k k' bl B3 (.slice aa n ca) vs (.slice pa pl pc) m.acts (prE L0 (jQ l l' t (v + 1))) (prRows m m' i) w9) := Lib.hid (by rw [HEx.out, HPvx.out.2]; exact HR9.out)
                      have hpvx : pv = ix + 1 := HPvx.out.1
                      subst hpvx
                      obtain ⟨wa, hwa⟩ : ∃ z, z = w9 := ⟨_, rfl⟩
                      subst hwa
                      have HCa := HC9
                      have HDa := HD9
                      have HXa := HX9
                      obtain ⟨cv, HCv⟩ : ∃ z : Int, Hid ((u : Int) * 4294967296 + (ix : Int) = z) := ⟨_, Lib.hid rfl⟩
                      have hix : ix ≤ 6000 := by
                        have h1 := List.idxOf_lt_length_of_mem (pAdd_self (prE L0 js) (p, q))
                        have h2 := pAdd_len (prE L0 js) (p, q)
                        have h3 := HPl.out
                        have h4 := HIx.out
                        omega
                      have hwr : IntKind.i64.wrap (IntKind.i64.wrap (IntKind.i64.wrap ((u : Int) * 4294967296) + ((ix : Int) + 1)) - 1) = cv := by
                        rw [IntWalk.i64_in ((u : Int) * 4294967296) (by omega), IntWalk.i64_in ((u : Int) * 4294967296 + ((ix : Int) + 1)) (by omega), IntWalk.i64_in ((u : Int) * 4294967296 + ((ix : Int) + 1) - 1) (by omega), ← HCv.out]
                        omega
                      have HRx2 : Hid ((prR L0 (jQ l l' t (v + 1))).map codeE = (prR L0 js).map codeE ++ [cv]) := Lib.hid (by rw [HRx.out, HCv.out])
                      have HCdl : Hid (((prR L0 js).map codeE).length = jl) := Lib.hid (by rw [List.length_map, prR_len, HJl.out])
                      have hrow := HCa.out.row
                      rw [HCdl.out] at hrow
                      have HRow := Lib.hid (hrow.alloc (.cells #[.int .i64 cv] 3))
                      have hza := HRn.out.below.size
                      clear hrow
                      go_upto_region 25 with (fail)
                      have HVal : Hid (plP (prE L0 (jQ l l' t (v + 1))) p q = ix + 1) := Lib.hid (by
                        rw [HEx.out]
                        unfold plP
                        rw [if_pos (pAdd_self _ _), HIx.out])
                      have kq : wa.cell? ⟨e6, 0, none⟩ = some (.int .i64 (u : Int)) ∧ wa.cell? ⟨e6, 1, none⟩ = some (.int .i64 (p : Int)) ∧ wa.cell? ⟨e8, 1, none⟩ = some (.int .i64 (q : Int)) ∧ wa.cell? ⟨g, p, none⟩ = some (.slice (some ⟨r0, 0, none⟩) k' k') ∧ wa.cell? ⟨r0, q, none⟩ = some (.int .i64 ((ix + 1 : Nat) : Int)) := ⟨h60, h61, h81, c1, c2⟩
                      have kD : wa.drew.cell? ⟨e6, 0, none⟩ = some (.int .i64 (u : Int)) ∧ wa.drew.cell? ⟨e6, 1, none⟩ = some (.int .i64 (p : Int)) ∧ wa.drew.cell? ⟨e8, 1, none⟩ = some (.int .i64 (q : Int)) ∧ wa.drew.cell? ⟨g, p, none⟩ = some (.slice (some ⟨r0, 0, none⟩) k' k') ∧ wa.drew.cell? ⟨r0, q, none⟩ = some (.int .i64 ((ix + 1 : Nat) : Int)) := kq
                      have kA : (wa.alloc (.cells #[.int .i64 cv] 3)).drew.cell? ⟨e6, 0, none⟩ = some (.int .i64 (u : Int)) ∧ (wa.alloc (.cells #[.int .i64 cv] 3)).drew.cell? ⟨e6, 1, none⟩ = some (.int .i64 (p : Int)) ∧ (wa.alloc (.cells #[.int .i64 cv] 3)).drew.cell? ⟨e8, 1, none⟩ = some (.int .i64 (q : Int)) ∧ (wa.alloc (.cells #[.int .i64 cv] 3)).drew.cell? ⟨g, p, none⟩ = some (.slice (some ⟨r0, 0, none⟩) k' k') ∧ (wa.alloc (.cells #[.int .i64 cv] 3)).drew.cell? ⟨r0, q, none⟩ = some (.int .i64 ((ix + 1 : Nat) : Int)) := ⟨cell_new kq.1 _, cell_new kq.2.1 _, cell_new kq.2.2.1 _, cell_new kq.2.2.2.1 _, cell_new kq.2.2.2.2 _⟩
                      have kB : (wa.drew.alloc (.cells #[.int .i64 cv] 3)).cell? ⟨e6, 0, none⟩ = some (.int .i64 (u : Int)) ∧ (wa.drew.alloc (.cells #[.int .i64 cv] 3)).cell? ⟨e6, 1, none⟩ = some (.int .i64 (p : Int)) ∧ (wa.drew.alloc (.cells #[.int .i64 cv] 3)).cell? ⟨e8, 1, none⟩ = some (.int .i64 (q : Int)) ∧ (wa.drew.alloc (.cells #[.int .i64 cv] 3)).cell? ⟨g, p, none⟩ = some (.slice (some ⟨r0, 0, none⟩) k' k') ∧ (wa.drew.alloc (.cells #[.int .i64 cv] 3)).cell? ⟨r0, q, none⟩ = some (.int .i64 ((ix + 1 : Nat) : Int)) := kA
                      go_region_held3 (fun w' => w'.cell? ⟨e6, 0, none⟩ = some (.int .i64 (u : Int)) ∧ w'.cell? ⟨e6, 1, none⟩ = some (.int .i64 (p : Int)) ∧ w'.cell? ⟨e8, 1, none⟩ = some (.int .i64 (q : Int)) ∧ w'.cell? ⟨g, p, none⟩ = some (.slice (some ⟨r0, 0, none⟩) k' k') ∧ w'.cell? ⟨r0, q, none⟩ = some (.int .i64 ((ix + 1 : Nat) : Int)))
                        ((with_reducible (first | assumption | exact kE | exact kA | exact kB | exact kD)))
                        (first
                          | (refine step_append_sz rfl (.tmp 115) (.tmp 130) 28 (by rfl) w0.heap.size 3 iI (.int .i64 0) 1 8 Tryz.underlying28 hi2 hz20 hz21 hz22 rfl (by decide) (.slice xa jl xc) (by rfl) jl (((prR L0 js).map codeE).map (Value.int .i64)) HRow.out (some ⟨wa.heap.size, 0, none⟩) 1 1 (by rfl) [.int .i64 cv] (fun h => by cases h) rfl (one_src _ _ _) (by simp [Value.oneCell']) (by unfold maxLen; omega) (by omega) (Nat.le_trans hza (by simp)) ?_; intro v2 wB hvB hgB hatB; obtain ⟨xa2, xc2, rfl⟩ := own_slice' hvB; have hgB' : (wa.alloc (.cells #[.int .i64 cv] 3)).grownBy wB (Value.slice xa jl xc).ownBlock := ⟨hgB.os, hgB.tape, hgB.output, hgB.size, hgB.block⟩; have hal := (Below.refl _ wa).alloc (Nat.le_refl _) (.cells #[.int .i64 cv] 3); have kE : wB.cell? ⟨e6, 0, none⟩ = some (.int .i64 (u : Int)) ∧ wB.cell? ⟨e6, 1, none⟩ = some (.int .i64 (p : Int)) ∧ wB.cell? ⟨e8, 1, none⟩ = some (.int .i64 (q : Int)) ∧ wB.cell? ⟨g, p, none⟩ = some (.slice (some ⟨r0, 0, none⟩) k' k') ∧ wB.cell? ⟨r0, q, none⟩ = some (.int .i64 ((ix + 1 : Nat) : Int)) := five_cells (((HRn.out.up hal).codes (HCa.out.up hal) hgB').tab.cells HHp.out hqk) hr0 HVal.out ((HDa.out.alloc (.cells #[.int .i64 cv] 3)).grown hgB' (own_whole HRow.out (HDa.out.alloc (.cells #[.int .i64 cv] 3)) (by decide))) ((HXa.out.alloc (.cells #[.int .i64 cv] 3)).grown hgB' (own_whole HRow.out (HXa.out.alloc (.cells #[.int .i64 cv] 3)) (by decide))))
                          | fail)
                      clear kq kD kA kB kE
                      · have HC2 : Hid (CdAt w0.heap.size k bl (.slice xa2 (jl + 1) xc2) ((prR L0 (jQ l l' t (v + 1))).map codeE) wB) := Lib.hid (by
                          rw [HRx2.out]
                          exact HCa.out.snoc (o := .cells #[.int .i64 cv] 3) HRn.out hatB (by rw [HCdl.out]; exact hvB))
                        have HR2 := Lib.hid ((HRn.out.up hal).codes (HCa.out.up hal) hgB')
                        have HD2 := Lib.hid ((HDa.out.alloc (.cells #[.int .i64 cv] 3)).grown hgB' (own_whole HRow.out (HDa.out.alloc (.cells #[.int .i64 cv] 3)) (by decide)))
                        have hX3 := HX3.out.below HR2.out.below HX3.out.lt
                        have HX3b := Lib.hid hX3
                        have HBb := Lib.hid (HB0.out.trans (HR2.out.below.mono HB0.out.size))
                        have g0 := hX3.cell 0
                        have g1 := hX3.cell 1
                        have g2 := hX3.frozen 0
                        have g3 := hX3.frozen 1
                        have g4 := hX3.lt
                        simp only [List.getElem?_toArray, List.getElem?_cons_succ, List.getElem?_cons_zero] at g0 g1
                        clear hvB hgB hatB hgB' hal hX3 h60 h61 h80 h81 c1 c2
                        have HBad : Hid ((5000 < pl ∨ 400000 < T + (jl + 1)) → PrBad m m' i) := Lib.hid (fun h => ⟨hSt.out, by rw [HL0.out]; exact HIl.out, by
                          have h1 := HBadP.out
                          rw [HLx.out] at h1
                          omega⟩)
                        have l0 := ((HX3b.out.set 0 (.slice none 0 0)).set 1 (.slice none 0 0)).cell 0
                        have l1 := ((HX3b.out.set 0 (.slice none 0 0)).set 1 (.slice none 0 0)).cell 1
                        simp only [List.setIfInBounds_toArray, List.set_cons_zero, List.set_cons_succ, List.getElem?_toArray, List.getElem?_cons_succ, List.getElem?_cons_zero] at l0 l1
                        have HBf : Hid (Below w.heap.size w ((wB.setCell ⟨w.heap.size + 2, 0, none⟩ (.slice none 0 0)).setCell ⟨w.heap.size + 2, 1, none⟩ (.slice none 0 0))) := Lib.hid ((HBb.out.setCell (by simp) _).setCell (by simp) _)
                        by_cases big1 : 5000 < pl
                        · exact absurd hp5 (by omega)
                        · have big1' : ¬ (5000 : Int) < (pl : Int) := by omega
                          by_cases big2 : 400000 < T + (jl + 1)
                          · as_aux_lemma =>
                            have big2' : (400000 : Int) < (T : Int) + (jl : Int) + 1 := by omega
                            go_wp2
                            first
                              | exact bodyPost_ret (v := .tuple #[.agg #[.slice none 0 0, .slice none 0 0], .slice none 0 0, .bool false]) (by simp [results, Tryz.results16, go_sem, l0, l1]) rfl ⟨HBf.out, .inr ⟨i, HBad.out (.inr big2), rfl⟩⟩
                              | exact bodyPost_ret (v := .tuple #[.agg #[.slice none 0 0, .slice none 0 0], .slice none 0 0, .bool false]) (by simp [results, Tryz.results16, go_sem, l0, l1]) rfl ⟨HBf.out, .inr ⟨⟨i, HBad.out (.inr big2)⟩, rfl⟩⟩
                          · as_aux_lemma =>
                            have big2' : ¬ (400000 : Int) < (T : Int) + (jl : Int) + 1 := by omega
                            clear g0 g1 g2 g3 g4 l0 l1
                            go_wp2
                            go_roundw
                            case rel => exact ⟨v + 1, _, _, _, _, by go_num, by omega, by rw [HLx.out], by rw [HCx.out]; go_num, by rw [HCx.out], by rw [HLx.out]; omega, by rw [HCx.out]; omega, by rw [HLx.out]; exact HR2, by rw [HCx.out]; exact HC2, HD2⟩
                            case measure => simp [intOf]; omega
                    · as_aux_lemma =>
                      have HPvx : Hid (pv = 0 ∧ ix = pl ∧ pAdd (prE L0 js) (p, q) = prE L0 js ++ [(p, q)]) := Lib.hid (by
                        have e1 : pAdd (prE L0 js) (p, q) = prE L0 js ++ [(p, q)] := by unfold pAdd; rw [if_neg hin]
                        refine ⟨?_, ?_, e1⟩
                        · rw [← HPv.out]
                          exact plP_zero.2 hin
                        · rw [← HIx.out, e1, List.idxOf_append, if_neg hin, HPl.out]
                          simp)
                      have hpvx : pv = 0 := HPvx.out.1
                      subst hpvx
                      have HLx : Hid ((prE L0 (jQ l l' t (v + 1))).length = pl + 1) := Lib.hid (by rw [HEx.out, HPvx.out.2.2, List.length_append, HPl.out]; rfl)
                      have hal9 := (Below.refl _ w9).alloc (Nat.le_refl _) (.cells #[.int .i64 (p : Int), .int .i64 (q : Int)] 48)
                      have HRl := Lib.hid (HR9.out.up hal9)
                      have HCl := Lib.hid (HC9.out.up hal9)
                      have HDl := Lib.hid (HD9.out.alloc (.cells #[.int .i64 (p : Int), .int .i64 (q : Int)] 48))
                      have HXl := Lib.hid (HX9.out.alloc (.cells #[.int .i64 (p : Int), .int .i64 (q : Int)] 48))
                      have hpr := HRl.out.prs
                      rw [HPl.out] at hpr
                      have HPr := Lib.hid hpr
                      have hzl := HRl.out.below.size
                      have hin' := Lib.hid hin
                      clear hal9 hpr hin
                      go_upto_region 23 with (fail)
                      go_wp2_with (at_builtin; (refine wpList_append_sz rfl (.tmp 97) (.tmp 103) 39 rfl w0.heap.size 48 i3 (.agg #[.int .i64 0, .int .i64 0]) 2 16 Tryz.underlying39 hi3 hz30 hz31 hz32 rfl (by decide) (.slice pa pl pc) rfl pl (pcells (prE L0 js)) HPr.out (some ⟨w9.heap.size, 0, none⟩) 1 1 rfl [.int .i64 (p : Int), .int .i64 (q : Int)] (fun h => by cases h) rfl (pair_src _ _ _ _) (by simp [Value.oneCell']) (by unfold maxLen; omega) (by omega) hzl ?_); intro v2 wA hvA hgA hatA; refine Hid.out ?_)
                      obtain ⟨paN, pcN, rfl⟩ := own_slice hvA
                      have hvA' : wA.ownsRow w0.heap.size 48 2 (.slice paN (pl + 1) pcN) ((prE L0 js).length + 1) (pcells (prE L0 js) ++ [.int .i64 (p : Int), .int .i64 (q : Int)]) := by rw [HPl.out]; exact hvA
                      obtain ⟨t1, mk⟩ := HRl.out.pair hgA hvA'
                      obtain ⟨c1, c2, c3⟩ := t1.cells HHp.out hqk
                      have hset := t1.set (F' := plP (prE L0 js ++ [(p, q)])) HHp.out hqk (pl + 1) (fun z u => by
                        rw [plP_add hin'.out, HPl.out])
                      have hst := ((t1.rows p HHp.out).stored q (.int .i64 ((pl + 1 : Nat) : Int))).2
                      have hRn := mk hset hst HHp.out rfl
                      have hCn := ((HCl.out.pair HRl.out hgA).put HHp.out hst)
                      have o6 := HDl.out.grown hgA (own_whole HPr.out HDl.out (by decide))
                      have o8 := HXl.out.grown hgA (own_whole HPr.out HXl.out (by decide))
                      have hDn := o6.grown hst (own_whole (t1.rows p HHp.out) o6 (by decide))
                      have hXn := o8.grown hst (own_whole (t1.rows p HHp.out) o8 (by decide))
                      have hcn := hset.cells HHp.out hqk
                      have s60 := o6.cell 0
                      have s61 := o6.cell 1
                      have s80 := o8.cell 0
                      have s81 := o8.cell 1
                      simp only [List.getElem?_toArray, List.getElem?_cons_succ, List.getElem?_cons_zero] at s60 s61 s80 s81
                      rw [hr0] at c1 c2 c3 hRn hCn hDn hXn hcn
                      unfold rowV at c1 hcn
                      have hval : plP (prE L0 js ++ [(p, q)]) p q = ix + 1 := by
                        rw [plP_add hin'.out, if_pos ⟨rfl, rfl⟩, HPl.out, HPvx.out.2.1]
                      have hLt := Lib.hid (t1.inner HHp.out).2
                      rw [hr0] at hLt
                      have hcn1 := hcn.1
                      have hcn2 := hcn.2.1
                      rw [hval] at hcn2
                      have HRn0 := Lib.hid hRn
                      have HCn0 := Lib.hid hCn
                      have HDn0 := Lib.hid hDn
                      have HXn0 := Lib.hid hXn
                      have HN1 := Lib.hid hcn1
                      have HN2 := Lib.hid hcn2
                      have z1 := hLt.out
                      clear hvA hgA hatA hvA' t1 mk hset hst hRn hCn o6 o8 hDn hXn hcn hcn1 hcn2 h60 h61 h80 h81 hval
                      refine Lib.hid ?_
                      go_upto_region 24 with (fail)
                      go_region
                      all_goals
                        as_aux_lemma =>
                        obtain ⟨wa, HWa⟩ : ∃ z, Hid ((wA.setCell ⟨r0, q, none⟩ (.int .i64 ((pl : Int) + 1))).drew = z) := ⟨_, Lib.hid rfl⟩
                        rw [HWa.out]
                        have HRn : Hid (RpAt w0 g k k' bl B3 (.slice aa n ca) vs (.slice paN (pl + 1) pcN) m.acts (prE L0 (jQ l l' t (v + 1))) (prRows m m' i) wa) := Lib.hid (by
                          rw [← HWa.out, HEx.out, HPvx.out.2.2]
                          exact HRn0.out.up (Below.refl _ _).drew)
                        have HCa : Hid (CdAt w0.heap.size k bl (.slice xa jl xc) ((prR L0 js).map codeE) wa) := Lib.hid (by
                          rw [← HWa.out]
                          exact HCn0.out.up (Below.refl _ _).drew)
                        have HDa : Hid (Whole wa e6 87 #[.int .i64 (u : Int), .int .i64 (p : Int)]) := Lib.hid (by
                          rw [← HWa.out]
                          exact HDn0.out)
                        have HXa : Hid (Whole wa e8 87 #[.int .i64 (u : Int), .int .i64 (q : Int)]) := Lib.hid (by
                          rw [← HWa.out]
                          exact HXn0.out)
                        have h60 := HDa.out.cell 0
                        have h61 := HDa.out.cell 1
                        have h80 := HXa.out.cell 0
                        have h81 := HXa.out.cell 1
                        have c1 : wa.cell? ⟨g, p, none⟩ = some (.slice (some ⟨r0, 0, none⟩) k' k') := by
                          rw [← HWa.out]
                          exact HN1.out
                        have c2 : wa.cell? ⟨r0, q, none⟩ = some (.int .i64 ((ix + 1 : Nat) : Int)) := by
                          rw [← HWa.out]
                          exact HN2.out
                        simp only [List.getElem?_toArray, List.getElem?_cons_succ, List.getElem?_cons_zero] at h60 h61 h80 h81
                        clear c3 s60 s61 s80 s81 z1 HWa
                        obtain ⟨cv, HCv⟩ : ∃ z : Int, Hid ((u : Int) * 4294967296 + (ix : Int) = z) := ⟨_, Lib.hid rfl⟩
                        have hix : ix ≤ 6000 := by
                          have h1 := List.idxOf_lt_length_of_mem (pAdd_self (prE L0 js) (p, q))
                          have h2 := pAdd_len (prE L0 js) (p, q)
                          have h3 := HPl.out
                          have h4 := HIx.out
                          omega
                        have hwr : IntKind.i64.wrap (IntKind.i64.wrap (IntKind.i64.wrap ((u : Int) * 4294967296) + ((ix : Int) + 1)) - 1) = cv := by
                          rw [IntWalk.i64_in ((u : Int) * 4294967296) (by omega), IntWalk.i64_in ((u : Int) * 4294967296 + ((ix : Int) + 1)) (by omega), IntWalk.i64_in ((u : Int) * 4294967296 + ((ix : Int) + 1) - 1) (by omega), ← HCv.out]
                          omega
                        have HRx2 : Hid ((prR L0 (jQ l l' t (v + 1))).map codeE = (prR L0 js).map codeE ++ [cv]) := Lib.hid (by rw [HRx.out, HCv.out])
                        have HCdl : Hid (((prR L0 js).map codeE).length = jl) := Lib.hid (by rw [List.length_map, prR_len, HJl.out])
                        have hrow := HCa.out.row
                        rw [HCdl.out] at hrow
                        have HRow := Lib.hid (hrow.alloc (.cells #[.int .i64 cv] 3))
                        have hza := HRn.out.below.size
                        clear hrow
                        go_upto_region 25 with (fail)
                        have HVal : Hid (plP (prE L0 (jQ l l' t (v + 1))) p q = ix + 1) := Lib.hid (by
                          rw [HEx.out]
                          unfold plP
                          rw [if_pos (pAdd_self _ _), HIx.out])
                        have kq : wa.cell? ⟨e6, 0, none⟩ = some (.int .i64 (u : Int)) ∧ wa.cell? ⟨e6, 1, none⟩ = some (.int .i64 (p : Int)) ∧ wa.cell? ⟨e8, 1, none⟩ = some (.int .i64 (q : Int)) ∧ wa.cell? ⟨g, p, none⟩ = some (.slice (some ⟨r0, 0, none⟩) k' k') ∧ wa.cell? ⟨r0, q, none⟩ = some (.int .i64 ((ix + 1 : Nat) : Int)) := ⟨h60, h61, h81, c1, c2⟩
                        have kD : wa.drew.cell? ⟨e6, 0, none⟩ = some (.int .i64 (u : Int)) ∧ wa.drew.cell? ⟨e6, 1, none⟩ = some (.int .i64 (p : Int)) ∧ wa.drew.cell? ⟨e8, 1, none⟩ = some (.int .i64 (q : Int)) ∧ wa.drew.cell? ⟨g, p, none⟩ = some (.slice (some ⟨r0, 0, none⟩) k' k') ∧ wa.drew.cell? ⟨r0, q, none⟩ = some (.int .i64 ((ix + 1 : Nat) : Int)) := kq
                        have kA : (wa.alloc (.cells #[.int .i64 cv] 3)).drew.cell? ⟨e6, 0, none⟩ = some (.int .i64 (u : Int)) ∧ (wa.alloc (.cells #[.int .i64 cv] 3)).drew.cell? ⟨e6, 1, none⟩ = some (.int .i64 (p : Int)) ∧ (wa.alloc (.cells #[.int .i64 cv] 3)).drew.cell? ⟨e8, 1, none⟩ = some (.int .i64 (q : Int)) ∧ (wa.alloc (.cells #[.int .i64 cv] 3)).drew.cell? ⟨g, p, none⟩ = some (.slice (some ⟨r0, 0, none⟩) k' k') ∧ (wa.alloc (.cells #[.int .i64 cv] 3)).drew.cell? ⟨r0, q, none⟩ = some (.int .i64 ((ix + 1 : Nat) : Int)) := ⟨cell_new kq.1 _, cell_new kq.2.1 _, cell_new kq.2.2.1 _, cell_new kq.2.2.2.1 _, cell_new kq.2.2.2.2 _⟩
                        have kB : (wa.drew.alloc (.cells #[.int .i64 cv] 3)).cell? ⟨e6, 0, none⟩ = some (.int .i64 (u : Int)) ∧ (wa.drew.alloc (.cells #[.int .i64 cv] 3)).cell? ⟨e6, 1, none⟩ = some (.int .i64 (p : Int)) ∧ (wa.drew.alloc (.cells #[.int .i64 cv] 3)).cell? ⟨e8, 1, none⟩ = some (.int .i64 (q : Int)) ∧ (wa.drew.alloc (.cells #[.int .i64 cv] 3)).cell? ⟨g, p, none⟩ = some (.slice (some ⟨r0, 0, none⟩) k' k') ∧ (wa.drew.alloc (.cells #[.int .i64 cv] 3)).cell? ⟨r0, q, none⟩ = some (.int .i64 ((ix + 1 : Nat) : Int)) := kA
                        go_region_held3 (fun w' => w'.cell? ⟨e6, 0, none⟩ = some (.int .i64 (u : Int)) ∧ w'.cell? ⟨e6, 1, none⟩ = some (.int .i64 (p : Int)) ∧ w'.cell? ⟨e8, 1, none⟩ = some (.int .i64 (q : Int)) ∧ w'.cell? ⟨g, p, none⟩ = some (.slice (some ⟨r0, 0, none⟩) k' k') ∧ w'.cell? ⟨r0, q, none⟩ = some (.int .i64 ((ix + 1 : Nat) : Int)))
                          ((with_reducible (first | assumption | exact kE | exact kA | exact kB | exact kD)))
                          (first
                            | (refine step_append_sz rfl (.tmp 115) (.tmp 130) 28 (by rfl) w0.heap.size 3 iI (.int .i64 0) 1 8 Tryz.underlying28 hi2 hz20 hz21 hz22 rfl (by decide) (.slice xa jl xc) (by rfl) jl (((prR L0 js).map codeE).map (Value.int .i64)) HRow.out (some ⟨wa.heap.size, 0, none⟩) 1 1 (by rfl) [.int .i64 cv] (fun h => by cases h) rfl (one_src _ _ _) (by simp [Value.oneCell']) (by unfold maxLen; omega) (by omega) (Nat.le_trans hza (by simp)) ?_; intro v2 wB hvB hgB hatB; obtain ⟨xa2, xc2, rfl⟩ := own_slice' hvB; have hgB' : (wa.alloc (.cells #[.int .i64 cv] 3)).grownBy wB (Value.slice xa jl xc).ownBlock := ⟨hgB.os, hgB.tape, hgB.output, hgB.size, hgB.block⟩; have hal := (Below.refl _ wa).alloc (Nat.le_refl _) (.cells #[.int .i64 cv] 3); have kE : wB.cell? ⟨e6, 0, none⟩ = some (.int .i64 (u : Int)) ∧ wB.cell? ⟨e6, 1, none⟩ = some (.int .i64 (p : Int)) ∧ wB.cell? ⟨e8, 1, none⟩ = some (.int .i64 (q : Int)) ∧ wB.cell? ⟨g, p, none⟩ = some (.slice (some ⟨r0, 0, none⟩) k' k') ∧ wB.cell? ⟨r0, q, none⟩ = some (.int .i64 ((ix + 1 : Nat) : Int)) := five_cells (((HRn.out.up hal).codes (HCa.out.up hal) hgB').tab.cells HHp.out hqk) hr0 HVal.out ((HDa.out.alloc (.cells #[.int .i64 cv] 3)).grown hgB' (own_whole HRow.out (HDa.out.alloc (.cells #[.int .i64 cv] 3)) (by decide))) ((HXa.out.alloc (.cells #[.int .i64 cv] 3)).grown hgB' (own_whole HRow.out (HXa.out.alloc (.cells #[.int .i64 cv] 3)) (by decide))))
                            | fail)
                        clear kq kD kA kB kE
                        · have HC2 : Hid (CdAt w0.heap.size k bl (.slice xa2 (jl + 1) xc2) ((prR L0 (jQ l l' t (v + 1))).map codeE) wB) := Lib.hid (by
                            rw [HRx2.out]
                            exact HCa.out.snoc (o := .cells #[.int .i64 cv] 3) HRn.out hatB (by rw [HCdl.out]; exact hvB))
                          have HR2 := Lib.hid ((HRn.out.up hal).codes (HCa.out.up hal) hgB')
                          have HD2 := Lib.hid ((HDa.out.alloc (.cells #[.int .i64 cv] 3)).grown hgB' (own_whole HRow.out (HDa.out.alloc (.cells #[.int .i64 cv] 3)) (by decide)))
                          have hX3 := HX3.out.below HR2.out.below HX3.out.lt
                          have HX3b := Lib.hid hX3
                          have HBb := Lib.hid (HB0.out.trans (HR2.out.below.mono HB0.out.size))
                          have g0 := hX3.cell 0
                          have g1 := hX3.cell 1
                          have g2 := hX3.frozen 0
                          have g3 := hX3.frozen 1
                          have g4 := hX3.lt
                          simp only [List.getElem?_toArray, List.getElem?_cons_succ, List.getElem?_cons_zero] at g0 g1
                          clear hvB hgB hatB hgB' hal hX3 h60 h61 h80 h81 c1 c2
                          have HBad : Hid ((5000 < pl + 1 ∨ 400000 < T + (jl + 1)) → PrBad m m' i) := Lib.hid (fun h => ⟨hSt.out, by rw [HL0.out]; exact HIl.out, by
                            have h1 := HBadP.out
                            rw [HLx.out] at h1
                            omega⟩)
                          have l0 := ((HX3b.out.set 0 (.slice none 0 0)).set 1 (.slice none 0 0)).cell 0
                          have l1 := ((HX3b.out.set 0 (.slice none 0 0)).set 1 (.slice none 0 0)).cell 1
                          simp only [List.setIfInBounds_toArray, List.set_cons_zero, List.set_cons_succ, List.getElem?_toArray, List.getElem?_cons_succ, List.getElem?_cons_zero] at l0 l1
                          have HBf : Hid (Below w.heap.size w ((wB.setCell ⟨w.heap.size + 2, 0, none⟩ (.slice none 0 0)).setCell ⟨w.heap.size + 2, 1, none⟩ (.slice none 0 0))) := Lib.hid ((HBb.out.setCell (by simp) _).setCell (by simp) _)
                          by_cases big1 : 5000 < pl + 1
                          · as_aux_lemma =>
                            have big1' : (5000 : Int) < (pl : Int) + 1 := by omega
                            go_wp2
                            first
                              | exact bodyPost_ret (v := .tuple #[.agg #[.slice none 0 0, .slice none 0 0], .slice none 0 0, .bool false]) (by simp [results, Tryz.results16, go_sem, l0, l1]) rfl ⟨HBf.out, .inr ⟨i, HBad.out (.inl big1), rfl⟩⟩
                              | exact bodyPost_ret (v := .tuple #[.agg #[.slice none 0 0, .slice none 0 0], .slice none 0 0, .bool false]) (by simp [results, Tryz.results16, go_sem, l0, l1]) rfl ⟨HBf.out, .inr ⟨⟨i, HBad.out (.inl big1)⟩, rfl⟩⟩
                          · have big1' : ¬ (5000 : Int) < (pl : Int) + 1 := by omega
                            by_cases big2 : 400000 < T + (jl + 1)
                            · as_aux_lemma =>
                              have big2' : (400000 : Int) < (T : Int) + (jl : Int) + 1 := by omega
                              go_wp2
                              first
                                | exact bodyPost_ret (v := .tuple #[.agg #[.slice none 0 0, .slice none 0 0], .slice none 0 0, .bool false]) (by simp [results, Tryz.results16, go_sem, l0, l1]) rfl ⟨HBf.out, .inr ⟨i, HBad.out (.inr big2), rfl⟩⟩
                                | exact bodyPost_ret (v := .tuple #[.agg #[.slice none 0 0, .slice none 0 0], .slice none 0 0, .bool false]) (by simp [results, Tryz.results16, go_sem, l0, l1]) rfl ⟨HBf.out, .inr ⟨⟨i, HBad.out (.inr big2)⟩, rfl⟩⟩
                            · as_aux_lemma =>
                              have big2' : ¬ (400000 : Int) < (T : Int) + (jl : Int) + 1 := by omega
                              clear g0 g1 g2 g3 g4 l0 l1
                              go_wp2
                              go_roundw
                              case rel => exact ⟨v + 1, _, _, _, _, by go_num, by omega, by rw [HLx.out], by rw [HCx.out]; go_num, by rw [HCx.out], by rw [HLx.out]; omega, by rw [HCx.out]; omega, by rw [HLx.out]; exact HR2, by rw [HCx.out]; exact HC2, HD2⟩
                              case measure => simp [intOf]; omega
                  · have HNx : Hid (jQ l l' t (v + 1) = js) := Lib.hid (by rw [jQ_no hvl' (by rw [HU2.out, HU.out]; omega), HJs.out])
                    have hact2 : ((u : Int) != (u2 : Int)) = true := by simp; omega
                    have HRn : Hid (RpAt w0 g k k' bl B3 (.slice aa n ca) vs (.slice pa (prE L0 (jQ l l' t (v + 1))).length pc) m.acts (prE L0 (jQ l l' t (v + 1))) (prRows m m' i) w8) := Lib.hid (by rw [HNx.out, HPl.out]; exact HR8.out)
                    have HCn : Hid (CdAt w0.heap.size k bl (.slice xa (jQ l l' t (v + 1)).length xc) ((prR L0 (jQ l l' t (v + 1))).map codeE) w8) := Lib.hid (by rw [HNx.out, HJl.out]; exact HC8.out)
                    go_wp2
                    go_roundw
                    case rel => exact ⟨v + 1, _, _, _, _, by go_num, by omega, by rw [HNx.out, HPl.out], by rw [HNx.out, HJl.out], by rw [HNx.out, HJl.out], by rw [HNx.out, HPl.out]; exact hp5, by rw [HNx.out, HJl.out]; exact hm4, HRn, HCn, HD8⟩
                    case measure => simp [intOf]; omega
                · have hvn : v = ni' := by omega
                  have htl' : t < l.length := by rw [HEl.out]; exact htl
                  have HEq : Hid (jQ l l' t v = jQ l l' (t + 1) 0) := Lib.hid (by rw [hvn, ← HEl'.out]; exact jQ_row htl')
                  have HJ1 : Hid (jQ l l' (t + 1) 0 = js) := Lib.hid (by rw [← HEq.out]; exact HJs.out)
                  have HRn : Hid (RpAt w0 g k k' bl B3 (.slice aa n ca) vs (.slice pa (prE L0 (jQ l l' (t + 1) 0)).length pc) m.acts (prE L0 (jQ l l' (t + 1) 0)) (prRows m m' i) w7) := Lib.hid (by rw [HJ1.out, HPl.out]; exact hR.out)
                  have HCn : Hid (CdAt w0.heap.size k bl (.slice xa (jQ l l' (t + 1) 0).length xc) ((prR L0 (jQ l l' (t + 1) 0)).map codeE) w7) := Lib.hid (by rw [HJ1.out, HJl.out]; exact hC.out)
                  go_wp2
                  go_roundw
                  case rel => exact ⟨t + 1, _, _, _, _, by go_num, by omega, by rw [HJ1.out, HPl.out], by rw [HJ1.out, HJl.out], by rw [HJ1.out, HJl.out], by rw [HJ1.out, HPl.out]; exact hp5, by rw [HJ1.out, HJl.out]; exact hm4, HRn, HCn⟩
                  case measure => simp [intOf]; omega
            · have htn : t = l.length := by rw [HEl.out]; omega
              have hje : jt = jntR l l' := by rw [← HJt.out, htn]; exact jQ_all l l'
              subst hje
              have HQ1 : Hid (prE L0 (jntR l l') = prQ m m' (i + 1)) := Lib.hid HQs.out.symm
              have HN1 : Hid (prN m m' (i + 1) = T + jl) := Lib.hid (by rw [HNs.out, HJl.out])
              have HSn : Hid (PStp m m' (i + 1)) := Lib.hid (pstp_next hSt.out (by rw [HL0.out]; exact HIl.out) (by rw [HN1.out]; exact hm4) (by rw [← HQ1.out, HPl.out]; exact hp5))
              have HLe : Hid (i + 1 ≤ pl) := Lib.hid (by
                have h7 := (prQ_pre m m' i 1).length_le
                have h8 := HIl.out
                have h9 := HPl.out
                rw [HL0.out] at h7
                rw [HQ1.out] at h9
                omega)
              obtain ⟨cs, HCs⟩ : ∃ z, Hid ((prR L0 (jntR l l')).map codeE = z) := ⟨_, Lib.hid rfl⟩
              have HCl : Hid (cs.length = jl) := Lib.hid (by rw [← HCs.out, List.length_map, prR_len, HJl.out])
              rw [HCs.out] at hC
              have hrow := hC.out.row
              have hjl4 : jl ≤ 400000 := by omega
              obtain ⟨xa2, xc2, ex, hI⟩ := RowInts.arg hrow (by rw [HCl.out]; omega)
              rw [HCl.out] at ex hI
              simp only [Value.slice.injEq, true_and] at ex
              obtain ⟨ex1, ex2⟩ := ex
              subst ex1 ex2
              have HSo := Lib.hid (Sorted_any jl (Nat.le_refl _) (by omega) hI)
              have hRw := hR
              have HRw := hRw
              clear hrow hI hC
              go_upto_region 32 with (fail)
              go_wp2_with fail
              refine HSo.out.mono ?_
              rintro e w6 ⟨sv, l2, rfl, hN6, hpm, hri, hb6⟩
              have hl2 : l2.length = jl := by rw [hpm.length_eq, HCl.out]
              have hdec : l2.map decE = prRow m m' i := by
                rw [HRs.out]
                refine sorted_codes (prR_nodup ?_) ?_ (by rw [HCs.out]; exact hpm) hri
                · rw [← HJa.out, HPa.out]
                  have := HIn.out.low _ (List.mem_of_getElem? HXY.out)
                  exact jAt_nodup HV.out HV'.out this
                · intro e he
                  obtain ⟨z, hz, rfl⟩ := List.mem_map.1 he
                  rw [← HJa.out, HPa.out] at hz
                  have h1 := jAt_in HV.out HV'.out (HIn.out.low _ (List.mem_of_getElem? HXY.out)) z hz
                  have h2 : z.2 ∈ prE L0 (jntR l l') := (prE_mem _ _ _).2 (.inr ⟨z, by rw [← HJa.out, HPa.out]; exact hz, rfl⟩)
                  have h3 := List.idxOf_lt_length_of_mem h2
                  have h4 := HPl.out
                  have h5 := ((actsB_iff _).1 ((sysB_iff m).1 HV.out).1).1
                  exact ⟨h1.1, by show z.1 < 8; omega, by show (0 : Int) ≤ ((_ : Nat) : Int); omega, by show (((prE L0 (jntR l l')).idxOf z.2 : Nat) : Int) < 4294967296; omega⟩
              have hok : ∀ z ∈ l2, 0 ≤ z ∧ z < 8 * 4294967296 := by
                intro z hz
                have h1 := hpm.mem_iff.1 hz
                rw [← HCs.out] at h1
                obtain ⟨e, he, rfl⟩ := List.mem_map.1 h1
                obtain ⟨y9, hy9, rfl⟩ := List.mem_map.1 he
                rw [← HJa.out, HPa.out] at hy9
                have h1 := jAt_in HV.out HV'.out (HIn.out.low _ (List.mem_of_getElem? HXY.out)) y9 hy9
                have h2 : y9.2 ∈ prE L0 (jntR l l') := (prE_mem _ _ _).2 (.inr ⟨y9, by rw [← HJa.out, HPa.out]; exact hy9, rfl⟩)
                have h3 := List.idxOf_lt_length_of_mem h2
                have h4 := HPl.out
                have h5 := ((actsB_iff _).1 ((sysB_iff m).1 HV.out).1).1
                have h6 := h1.1
                have h7 := h1.2.1
                unfold codeE
                show 0 ≤ y9.1 * 4294967296 + (((prE L0 (jntR l l')).idxOf y9.2 : Nat) : Int) ∧ y9.1 * 4294967296 + (((prE L0 (jntR l l')).idxOf y9.2 : Nat) : Int) < 8 * 4294967296
                omega
              obtain ⟨sa, sc, rfl⟩ := own_slice' hN6
              rw [hl2]
              obtain ⟨sa2, sc2, es, hI6⟩ := RowInts.arg hN6 (by rw [hl2]; omega)
              rw [hl2] at es hI6
              simp only [Value.slice.injEq] at es
              obtain ⟨es1, _, es2⟩ := es
              subst es1 es2
              have HI6 := Lib.hid hI6
              have HL2 := Lib.hid hl2
              have HDec := Lib.hid hdec
              have HOk := Lib.hid hok
              have HR6 := Lib.hid (HRw.out.up hb6)
              clear hN6 hpm hri hb6 hl2 hdec hok hI6 hR HRw hRw
              go_upto_region 33 with (fail)
              go_loopw [18, 20, 147] (fun ev _ q wr => ∃ (j : Nat) (ea : Option Addr) (ec : Nat), q = .int .i64 j ∧ j ≤ jl ∧ ev = .slice ea j ec ∧ Hid (wr.ownsRow w6.heap.size 87 2 (.slice ea j ec) j (ecells ((l2.take j).map decE))) ∧ Hid (Below w6.heap.size w6 wr)) (fun _ _ q _ => jl - (intOf q).toNat)
              case atStart => exact ⟨0, none, 0, rfl, by omega, rfl, Lib.hid (World.ownsRow_nil _ _ _ _), Lib.hid (Below.refl _ _)⟩
              case round =>
                as_aux_lemma =>
                obtain ⟨w7, hw7⟩ : ∃ z, z = wr := ⟨_, rfl⟩
                subst hw7
                obtain ⟨j, ea, ec, rfl, hj, rfl, hO, hB7⟩ := hrel
                by_cases hjl : j < jl
                · have hjl' : j < l2.length := by rw [HL2.out]; exact hjl
                  obtain ⟨bs, os, es, f0⟩ := (HI6.out.below hB7.out).cells j hjl'
                  subst es
                  obtain ⟨z, HZ⟩ : ∃ z, Hid (l2.getD j 0 = z) := ⟨_, Lib.hid rfl⟩
                  rw [HZ.out] at f0
                  have hz := HOk.out z (by
                    rw [← HZ.out, List.getD_eq_getElem?_getD, List.getElem?_eq_getElem hjl']
                    exact List.getElem_mem hjl')
                  have HTk : Hid ((l2.take (j + 1)).map decE = (l2.take j).map decE ++ [(z / 4294967296, z % 4294967296)]) := Lib.hid (by
                    rw [take_next l2 j 0 hjl', List.map_append, HZ.out]
                    rfl)
                  have j0 : (0 : Int) ≤ (j : Int) := by omega
                  have j1 : (j : Int) < (jl : Int) := by omega
                  have HOw := Lib.hid (hO.out.alloc (.cells #[.int .i64 (z / 4294967296), .int .i64 (z % 4294967296)] 87))
                  have hz7 := hB7.out.size
                  have hmask := mask_low hz
                  clear hjl' hO
                  go_upto_region 35 with (fail)
                  go_wp2_with (at_builtin; (refine wpList_append_sz rfl (.tmp 151) (.tmp 157) 77 rfl w6.heap.size 87 i5 (.agg #[.int .i64 0, .int .i64 0]) 2 16 Tryz.underlying77 hi5' hz50 hz51 hz52 rfl (by decide) (.slice ea j ec) rfl j (ecells ((l2.take j).map decE)) HOw.out (some ⟨w7.heap.size, 0, none⟩) 1 1 rfl [.int .i64 (z / 4294967296), .int .i64 (z % 4294967296)] (fun h => by cases h) rfl (pair_src _ _ _ _) (by simp [Value.oneCell']) (by unfold maxLen; omega) (by omega) (Nat.le_trans hz7 (by simp)) ?_); intro v2 w8 hv2 hg2 hat2; refine Hid.out ?_)
                  obtain ⟨ea2, ec2, rfl⟩ := own_slice hv2
                  have HOn : Hid (w8.ownsRow w6.heap.size 87 2 (.slice ea2 (j + 1) ec2) (j + 1) (ecells ((l2.take (j + 1)).map decE))) := Lib.hid (by
                    rw [HTk.out, ecells_app]
                    exact hv2)
                  have HBn : Hid (Below w6.heap.size w6 w8) := Lib.hid ((hB7.out.alloc hz7 (.cells #[.int .i64 (z / 4294967296), .int .i64 (z % 4294967296)] 87)).grown hg2 (Nat.le_trans hz7 (by simp)) (own_ge HOw.out))
                  clear hv2 hg2 hat2
                  refine Lib.hid ?_
                  go_wp2
                  go_roundw
                  case rel => exact ⟨j + 1, _, _, by go_num, by omega, rfl, HOn, HBn⟩
                  case measure => simp [intOf]; omega
                · have hjn : j = jl := by omega
                  subst hjn
                  have HEo : Hid (EdgeOwn w7 w0.heap.size (.slice ea j ec) (prRow m m' i)) := Lib.hid (by
                    have h1 := hO.out
                    rw [List.take_of_length_le (by rw [HL2.out]; exact Nat.le_refl _), HDec.out] at h1
                    unfold EdgeOwn
                    have h2 : (prRow m m' i).length = j := by rw [← HDec.out, List.length_map, HL2.out]
                    rw [h2]
                    exact own_low h1 (HR6.out.below.size))
                  have HR7 := Lib.hid (HR6.out.up hB7.out)
                  obtain ⟨rows, r1, r2, r3⟩ := HR7.out.rows
                  rw [prRows_len] at r1 r2
                  obtain ⟨vb, vc, rfl⟩ := own_slice r2
                  have o0 := HR7.out.out.cell 1
                  simp only [List.getElem?_toArray, List.getElem?_cons_succ, List.getElem?_cons_zero] at o0
                  have HRo := Lib.hid (r2.alloc (.cells #[.slice ea j ec] 77))
                  have HOo := Lib.hid (HR7.out.out.alloc (.cells #[.slice ea j ec] 77))
                  have HNe := Lib.hid (own_whole HRo.out HOo.out (by decide))
                  have hz7 := HR7.out.below.size
                  clear r1 r2 r3 hO hB7
                  go_upto_region 37 with (fail)
                  go_wp2_with (at_builtin; (refine wpList_append_sz rfl (.tmp 161) (.tmp 163) 23 rfl w0.heap.size 77 i6 (.slice none 0 0) 1 24 Tryz.underlying23 hi6 hz60 hz61 hz62 rfl (by decide) (.slice vb i vc) rfl i rows HRo.out (some ⟨w7.heap.size, 0, none⟩) 1 1 rfl [.slice ea j ec] (fun h => by cases h) rfl (one_src _ _ _) (by simp [Value.oneCell']) (by unfold maxLen; omega) (by omega) (Nat.le_trans hz7 (by simp)) ?_); intro v2 wB hv2 hgB hatB; refine Hid.out ?_)
                  obtain ⟨vb2, vc2, rfl⟩ := own_slice hv2
                  have kW := HOo.out.grown hgB HNe.out
                  have k1 := kW.cell 1
                  have k2 := kW.frozen 1
                  have k3 := kW.lt
                  simp only [List.getElem?_toArray, List.getElem?_cons_succ, List.getElem?_cons_zero] at k1
                  have HRn := Lib.hid (HR7.out.snoc HEo.out HB3l.out hgB (fun rows' e1 e2 => by
                    rw [prRows_len] at e1 e2 ⊢
                    have e4 := own_eq e1 HRo.out
                    rw [e4]; exact hv2))
                  rw [← prRows_succ, HQ1.out] at HRn
                  have HPl2 : Hid ((prQ m m' (i + 1)).length = pl) := Lib.hid (by rw [← HQ1.out]; exact HPl.out)
                  clear hv2 hgB hatB kW
                  refine Lib.hid ?_
                  go_wp2
                  go_roundw
                  case rel => exact ⟨i + 1, _, _, _, by go_num, by rw [HN1.out]; rfl, by rw [HPl2.out], HSn, by rw [HPl2.out]; exact HLe.out, by rw [HPl2.out]; exact HRn⟩
                  case measure => simp [intOf]; omega
        · have hjn : ln = i := by omega
          subst hjn
          have hX3 := HX3.out.below hR.out.below HX3.out.lt
          have HB4 := Lib.hid (HB0.out.trans (hR.out.below.mono HB0.out.size))
          obtain ⟨rows, r1, r2, r3⟩ := hR.out.rows
          rw [prRows_len] at r1 r2
          obtain ⟨bb, cc, rfl⟩ := own_slice r2
          have x0 := hX3.cell 0
          have x1 := hX3.cell 1
          have x2 := hX3.frozen 0
          have x3 := hX3.frozen 1
          have x4 := hX3.lt
          have z1 := hR.out.out.cell 0
          have z2 := hR.out.out.cell 1
          simp only [List.getElem?_toArray, List.getElem?_cons_succ, List.getElem?_cons_zero] at x0 x1 z1 z2
          have hw := hX3.set 0 (.slice aa n ca)
          have HRs : Hid (SysOwn ((w4.setCell ⟨w.heap.size + 2, 0, none⟩ (.slice aa n ca)).setCell ⟨w.heap.size + 2, 1, none⟩ (.slice bb ln cc)) w.heap.size (.slice aa n ca) (.slice bb ln cc) ⟨m.acts, prRows m m' ln⟩) := Lib.hid
            (sys_stored2 (m := ⟨m.acts, prRows m m' ln⟩) ⟨own_low hR.out.acts HB0.out.size, hR.out.rows.low HB0.out.size⟩ hX3 _ _)
          have HRB : Hid (Below w.heap.size w ((w4.setCell ⟨w.heap.size + 2, 0, none⟩ (.slice aa n ca)).setCell ⟨w.heap.size + 2, 1, none⟩ (.slice bb ln cc))) := Lib.hid ((HB4.out.setCell (by simp) _).setCell (by simp) _)
          have HRL : Hid (((w4.setCell ⟨w.heap.size + 2, 0, none⟩ (.slice aa n ca)).setCell ⟨w.heap.size + 2, 1, none⟩ (.slice bb ln cc)).ownsRow w.heap.size 48 2 (.slice pa ln pc) ln (pcells (prQ m m' ln))) := Lib.hid (by
            rw [HL0.out]
            exact own_low (own_stored (own_stored hlst hX3 (by decide)) hw (by decide)) HB0.out.size)
          have HOk : Hid (PrOk m m' ln) := Lib.hid ⟨hSt.out, by rw [HL0.out]; exact HLn.out⟩
          have g0 := (hX3.set 0 (.slice aa n ca)).cell 0
          have g1 := ((hX3.set 0 (.slice aa n ca)).set 1 (.slice bb ln cc)).cell 1
          simp only [List.setIfInBounds_toArray, List.set_cons_zero, List.set_cons_succ, List.getElem?_toArray, List.getElem?_cons_succ, List.getElem?_cons_zero] at g0 g1
          clear hw r1 r2 r3 hlst hX3
          go_upto_region 38 with (fail)
          go_wp2
          first
            | exact bodyPost_ret (v := .tuple #[.agg #[.slice aa n ca, .slice bb ln cc], .slice pa ln pc, .bool true]) (by simp [results, Tryz.results16, go_sem, g0, g1]) rfl ⟨HRB.out, .inl ⟨_, _, _, ln, rfl, HOk.out, HRs.out, HRL.out⟩⟩
            | exact bodyPost_ret (v := .tuple #[.agg #[.slice aa n ca, .slice bb ln cc], .slice pa ln pc, .bool true]) (by simp [results, Tryz.results16, go_sem, g0, g1]) rfl ⟨HRB.out.drew, .inl ⟨_, _, _, ln, rfl, HOk.out, ⟨HRs.out.acts, HRs.out.rows⟩, HRL.out⟩⟩
end Go.Proofs.YtgnbkepdbdgkdaaGreatDoor
