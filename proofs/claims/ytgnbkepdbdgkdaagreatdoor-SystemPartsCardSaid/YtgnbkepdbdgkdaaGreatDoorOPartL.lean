/- The reference's Part. -/
import Derived.Test.YtgnbkepdbdgkdaaGreatDoorOWithL
namespace Go.Proofs.YtgnbkepdbdgkdaaGreatDoor
open Go.RowKit Go.Sort Pl

theorem made_noughts (n : Nat) : (madeCells (Value.int .i64 0).cells (n * 1)).toList = (List.replicate n (0 : Int)).map (Value.int .i64) := by
  refine List.ext_getElem (by simp [madeCells]) fun i h1 h2 => ?_
  simp [madeCells, Value.cells, Nat.mod_one]
/-- the list of the states and their numbers -/
structure PaAt (w0 W : World) (T k : Nat) (lv : Value) (L : List Nat) (i : Nat) : Prop where
  lst : NumO W w0.heap.size lv (zs L)
  num : W.ownsRow w0.heap.size 3 1 (.slice (some ⟨T, 0, none⟩) k k) k ((toK k L i).map (Value.int .i64))
  ne : lv.ownBlock = none ∨ lv.ownBlock ≠ some T
  below : Below w0.heap.size w0 W
section
variable {w0 V W : World} {T k i : Nat} {lv : Value} {L : List Nat}
theorem PaAt.up (h : PaAt w0 V T k lv L i) (hb : Below V.heap.size V W) : PaAt w0 W T k lv L i :=
  ⟨own_up' h.lst hb, own_up' h.num hb, h.ne, h.below.trans (hb.mono h.below.size)⟩
theorem PaAt.low {w : World} (h : PaAt w0 V T k lv L i) (hb : Below w.heap.size w w0) : PaAt w V T k lv L i :=
  ⟨own_low h.lst hb.size, own_low h.num hb.size, h.ne, hb.trans (h.below.mono hb.size)⟩
theorem PaAt.next (h : PaAt w0 V T k lv L i) {x : Nat} (hx : L[i]? = some x) : PaAt w0 (V.setCell ⟨T, x, none⟩ (.int .i64 (i : Int))) T k lv L (i + 1) := by
  have h1 := h.num.stored x (.int .i64 (i : Int))
  have e1 : ((toK k L i).map (Value.int .i64)).set x (.int .i64 (i : Int)) = (toK k L (i + 1)).map (Value.int .i64) := by
    rw [toK, List.getD_eq_getElem?_getD, hx, ← List.map_set]
    rfl
  rw [e1] at h1
  exact ⟨World.ownsRow.kept h.lst h1.2 h.ne, h1.1, h.ne, h.below.setCell (show w0.heap.size ≤ T from own_ge h.num _ rfl) (p := ⟨T, x, none⟩) _⟩
/-- one state more is put behind the system's: the list and the numbers stay -/
theorem PaAt.more {wA wB : World} {B B3 : Nat} {vs v1 v2 : Value} {t : TypeId} {n : Nat} {rows : List Value} {cs : Array Value} (h : PaAt w0 V T k lv L i) (hA : Below V.heap.size V wA)
    (hr : (wA.alloc (.cells #[v1] t)).ownsRow B 77 1 vs n rows) (hB : w0.heap.size ≤ B) (hg : (wA.alloc (.cells #[v1] t)).grownBy wB vs.ownBlock) (hw : Whole wB B3 25 cs) (h3 : w0.heap.size ≤ B3) : PaAt w0 (wB.setCell ⟨B3, 1, none⟩ v2) T k lv L i := by
  have bA := hA.trans (((Below.refl _ wA).alloc (Nat.le_refl _) (.cells #[v1] t)).mono hA.size)
  have h1 := h.up bA
  refine ⟨own_stored (World.ownsRow.kept h1.lst hg (own_apart h1.lst hr (by decide))) hw (by decide), own_stored (World.ownsRow.kept h1.num hg (own_apart h1.num hr (by decide))) hw (by decide), h.ne, ?_⟩
  exact (h1.below.grown hg h1.below.size (fun q hq => Nat.le_trans hB (own_ge hr q hq))).setCell h3 _
end

theorem ordIs_ok {m : Syst} (hv : sysB m = true) {st : Nat} (hst : st < m.states.length) {L : List Nat} (h : OrdIs m st L) : CrOk m.states.length L := by
  obtain ⟨i, h1, _, rfl⟩ := h
  exact ordQ_ok hv hst i h1

set_option maxRecDepth 100000 in
set_option maxHeartbeats 16000000 in
theorem RPart_any {w : World} {a : Option Addr} {n c : Nat} {b : Option Addr} {k d : Nat} {m : Syst} (A : SysArg w a n c b k d m) (hv : sysB m = true) {st : Nat} (hst : st < k) :
    Calls Tryz.prog 10 #[.agg #[.slice a n c, .slice b k d], .int .i64 st] w fun e w' => ∃ va vs v L, e = .returned (.tuple #[.agg #[va, vs], v]) ∧ OrdIs m st L ∧ SysOwn w' w.heap.size va vs (partS m L) ∧ NumO w' w.heap.size v (zs L) ∧ Below w.heap.size w w' := by
  obtain ⟨i0, hi0, hz0, hz1, hz2⟩ := info_parts infoString
  obtain ⟨i2, hi2, hz20, hz21, hz22⟩ := info_parts infoRow
  obtain ⟨i3, hi3, hz30, hz31, hz32⟩ := info_parts infoNumS
  have hk5 : k ≤ 5000 := by have := ((sysB_iff m).1 hv).2.2.1; have := A.len; omega
  have hst' : st < m.states.length := by have := A.len; omega
  have hb0 := ((Below.refl w.heap.size w).alloc (Nat.le_refl _) (.cells #[.slice a n c, .slice b k d] 25)).alloc (by simp) (.cells #[.slice none 0 0, .slice none 0 0] 25)
  have hx1 := (Whole.new w 25 #[.slice a n c, .slice b k d]).alloc (.cells #[.slice none 0 0, .slice none 0 0] 25)
  have hx2 := Whole.new (w.alloc (.cells #[.slice a n c, .slice b k d] 25)) 25 #[.slice none 0 0, .slice none 0 0]
  have hz : ((w.alloc (.cells #[.slice a n c, .slice b k d] 25)).alloc (.cells #[.slice none 0 0, .slice none 0 0] 25)).heap.size = w.heap.size + 2 := by simp
  obtain ⟨w0, HW0⟩ : ∃ z, Hid ((w.alloc (.cells #[.slice a n c, .slice b k d] 25)).alloc (.cells #[.slice none 0 0, .slice none 0 0] 25) = z) := ⟨_, Lib.hid rfl⟩
  rw [HW0.out] at hb0 hx1 hx2 hz
  simp only [World.size_alloc] at hx2
  have HA := Lib.hid A
  have HA0 := Lib.hid (A.below hb0)
  have HV := Lib.hid hv
  have HB0 := Lib.hid hb0
  have HX1 := Lib.hid hx1
  have HX2 := Lib.hid hx2
  have HZ0 := Lib.hid hz
  have HKl : Hid (m.states.length = k) := Lib.hid A.len.symm
  have q0 := hx1.cell 0
  have q1 := hx1.cell 1
  simp only [List.getElem?_toArray, List.getElem?_cons_succ, List.getElem?_cons_zero] at q0 q1
  clear A hv hb0 hx1 hx2 hz
  go_enter Tryz.func10, Tryz.ntmps10
  go_upto_region 1 with (fail)
  rw [HW0.out]
  go_upto_region 2 with (go_at_call 43; refine (ROrder_any HA0.out HV.out hst).mono ?_; rintro e w1 ⟨v, L, rfl, hIs, hL, hb1⟩; have HIs := Lib.hid hIs; have HL := Lib.hid hL; have HB1 := Lib.hid hb1; have p0 := up_cell hb1 q0; have p1 := up_cell hb1 q1; clear hIs hL hb1 q0 q1)
  go_wp2_with (at_make; refine wpList_make_full _ rfl _ _ 28 rfl w0.heap.size 3 i3 (.int .i64 0) 1 Tryz.underlying28 hi3 hz30 hz31 .i64 .i64 k k k rfl rfl rfl rfl (by rw [hz32]; omega) (by unfold maxLen; omega) HB1.out.size ?_; intro w2 hrow hg2; refine Hid.out ?_)
  rw [made_noughts] at hrow
  obtain ⟨T, HT⟩ : ∃ z, Hid (w1.heap.size = z) := ⟨_, Lib.hid rfl⟩
  rw [HT.out] at hrow ⊢
  have hP0 : PaAt w0 w2 T k v L 0 := ⟨own_up' HL.out (below_up hg2), hrow, by
    cases e : v.ownBlock with
    | none => exact .inl rfl
    | some q =>
      have := (HL.out.lt q e).2
      exact .inr (fun h => by cases h; have := HT.out; omega), HB1.out.trans ((below_up hg2).mono HB1.out.size)⟩
  have HP0 := Lib.hid hP0
  have HOk := Lib.hid (ordIs_ok HV.out hst' HIs.out)
  obtain ⟨ln, HLn⟩ : ∃ z, Hid (L.length = z) := ⟨_, Lib.hid rfl⟩
  have hln5 : ln ≤ 5000 := by have := HOk.out.len; have := HKl.out; have := HLn.out; omega
  obtain ⟨la, lc, rfl⟩ : ∃ la lc, v = .slice la ln lc := by
    obtain ⟨x, y, e⟩ := own_slice hP0.lst
    rw [zs_len, HLn.out] at e
    exact ⟨x, y, e⟩
  clear hrow hg2 hP0 p0 p1
  refine Lib.hid ?_
  go_upto_region 4 with (fail)
  go_loopw [8, 9, 25] (fun _ _ q wr => ∃ i : Nat, q = .int .i64 i ∧ i ≤ ln ∧ Hid (PaAt w0 wr T k (.slice la ln lc) L i)) (fun _ _ q _ => ln - (intOf q).toNat)
  case atStart => exact ⟨0, rfl, Nat.zero_le _, HP0⟩
  case round =>
    as_aux_lemma =>
    obtain ⟨w3, hw3⟩ : ∃ z, z = wr := ⟨_, rfl⟩
    subst hw3
    obtain ⟨i, rfl, hi, hP⟩ := hrel
    by_cases hlt : i < ln
    · have hii : i < L.length := by rw [HLn.out]; exact hlt
      have hrow : w3.ownsRow w0.heap.size 3 1 (.slice la ln lc) (zs L).length ((zs L).map (Value.int .i64)) := hP.out.lst
      obtain ⟨lb, rfl⟩ := (own_some hrow).2 (by rw [zs_len]; omega)
      obtain ⟨x, HX⟩ : ∃ x, Hid (L[i]? = some x) := ⟨_, Lib.hid (List.getElem?_eq_getElem hii)⟩
      rw [zs_len, HLn.out] at hrow
      have c0 : w3.cell? ⟨lb, i, none⟩ = some (.int .i64 (x : Int)) := by
        rw [hrow.cellAt i (by omega)]
        exact zs_cell HX.out
      have hxk : x < k := by have := HOk.out.2 x (List.mem_of_getElem? HX.out); have := HKl.out; omega
      have hX0 : (0 : Int) ≤ (x : Int) := by omega
      have hX1 : (x : Int) < (k : Int) := by omega
      have hI0 : (0 : Int) ≤ (i : Int) := by omega
      have hI1 : (i : Int) < (ln : Int) := by omega
      obtain ⟨z0, c1⟩ : ∃ z, w3.cell? ⟨T, x, none⟩ = some (.int .i64 z) := by
        have h7 : x < (toK k L i).length := by rw [toK_len]; exact hxk
        exact ⟨(toK k L i)[x], by rw [hP.out.num.cellAt x (by omega), List.getElem?_map, List.getElem?_eq_getElem h7]; rfl⟩
      have c2 := hP.out.num.frozenAt x
      have HN := Lib.hid (hP.out.next HX.out)
      clear hrow hii
      go_wp2
      go_roundw
      case rel => exact ⟨i + 1, by go_num, by omega, HN⟩
      case measure => simp [intOf]; omega
    · have hil : ln = i := by omega
      subst hil
      have HPf : Hid (PaAt w0 w3 T k (.slice la ln lc) L L.length) := by rw [HLn.out]; exact hP
      have hx1 := HX1.out.below hP.out.below HX1.out.lt
      have p0 := hx1.cell 0
      have p1 := hx1.cell 1
      simp only [List.getElem?_toArray, List.getElem?_cons_succ, List.getElem?_cons_zero] at p0 p1
      have HB3 := Lib.hid (HB0.out.trans (hP.out.below.mono HB0.out.size))
      have HS := Lib.hid (strs_src (HA.out.acts.below HB3.out))
      have HNi := Lib.hid HA.out.acts.nils
      have HLs : Hid ((m.acts.map Value.string).length = n * 1) := Lib.hid (by have := HA.out.acts.len; simp; omega)
      have hn8 : n ≤ 1000000 := by have := HA.out.acts.len; have := ((actsB_iff _).1 ((sysB_iff m).1 HV.out).1).1; omega
      clear hx1 hP
      go_wp2_with (at_builtin; (refine wpList_append_sz rfl (.const (.slice none 0 0)) (.tmp 36) 22 rfl w.heap.size 9 i0 (.string ⟨#[]⟩) 1 16 Tryz.underlying22 hi0 hz0 hz1 hz2 rfl (by decide) (.slice none 0 0) rfl 0 [] (World.ownsRow_nil _ _ _ _) a n c rfl (m.acts.map Value.string) HNi.out HLs.out HS.out (strs_one _) (by unfold maxLen; omega) (by omega) HB3.out.size ?_); intro va w5 hva hg5 hat5; refine Hid.out ?_)
      simp only [Nat.zero_add, List.nil_append] at hva
      obtain ⟨aa, ca, rfl⟩ := own_slice hva
      have hb5 := below_up hg5
      obtain ⟨B3, HB3e⟩ : ∃ z, Hid (w5.heap.size = z) := ⟨_, Lib.hid rfl⟩
      obtain ⟨w6, HW6⟩ : ∃ z, Hid (w5.alloc (.cells #[.slice aa n ca, .slice none 0 0] 25) = z) := ⟨_, Lib.hid rfl⟩
      have hal := (Below.refl _ w5).alloc (Nat.le_refl _) (.cells #[.slice aa n ca, .slice none 0 0] 25)
      have hb6 := hb5.trans (hal.mono hb5.size)
      have HPs : Hid (PaAt w w6 T k (.slice la ln lc) L L.length) := Lib.hid (by rw [← HW6.out]; exact (HPf.out.low HB0.out).up hb6)
      have HC : Hid (CopyAt w B3 #[.slice a n c, .slice b k d] (.slice aa n ca) (partS m L) 0 (.slice none 0 0) w6) := Lib.hid (by
        have x1 := HX1.out.below (HPf.out.below.trans (hb6.mono HPf.out.below.size)) HX1.out.lt
        have x2 := HX2.out.below (HPf.out.below.trans (hb6.mono HPf.out.below.size)) HX2.out.lt
        have h3 := HB3.out.trans (hb6.mono HB3.out.size)
        rw [HW6.out] at x1 x2 h3
        refine ⟨x1, x2, ?_, RowsOwn.none _ _, ?_, ?_, h3⟩
        · rw [← HW6.out, ← HB3e.out]; exact Whole.new _ _ _
        · rw [← HW6.out]
          have := HA.out.acts.len
          show World.ownsRow _ _ _ _ _ m.acts.length _
          rw [← this]
          exact hva.alloc _
        · have := HPf.out.below.size
          have := hb5.size
          have := HZ0.out
          have := HB3e.out
          omega)
      clear hva hg5 hat5 hb5 hal hb6 p0 p1
      refine Lib.hid ?_
      go_upto_region 9 with (fail)
      rw [HW6.out, HB3e.out]
      have HPl : Hid ((partS m L).states.length = ln) := Lib.hid (by simp [partS, HLn.out])
      go_upto_region 10 with (fail)
      go_loopw [12, 13, 15, 41] (fun _ _ _ q wr => ∃ (j : Nat) (vs : Value), q = .int .i64 j ∧ j ≤ ln ∧ Hid (CopyAt w B3 #[.slice a n c, .slice b k d] (.slice aa n ca) (partS m L) j vs wr) ∧ Hid (PaAt w wr T k (.slice la ln lc) L L.length)) (fun _ _ _ q _ => ln - (intOf q).toNat)
      case atStart => exact ⟨0, _, rfl, Nat.zero_le _, HC, HPs⟩
      case round =>
        as_aux_lemma =>
        obtain ⟨w7, hw7⟩ : ∃ z, z = wr := ⟨_, rfl⟩
        subst hw7
        obtain ⟨j, vs, rfl, hj, hC, hP⟩ := hrel
        obtain ⟨rows, r1, r2, r3⟩ := hC.out.rows
        have hl : ((partS m L).states.take j).length = j := by rw [List.length_take]; have := HPl.out; omega
        rw [hl] at r1 r2
        obtain ⟨bb, cc, rfl⟩ := own_slice r2
        have R1 := Lib.hid r1
        have R2 := Lib.hid r2
        have HNE := Lib.hid (own_whole r2 hC.out.out (by decide))
        clear r1 r2 r3 hl
        by_cases hlt : j < ln
        · have hii : j < L.length := by rw [HLn.out]; exact hlt
          have hrow : w7.ownsRow w.heap.size 3 1 (.slice la ln lc) (zs L).length ((zs L).map (Value.int .i64)) := hP.out.lst
          obtain ⟨lb, rfl⟩ := (own_some hrow).2 (by rw [zs_len]; omega)
          obtain ⟨x, HX⟩ : ∃ x, Hid (L[j]? = some x) := ⟨_, Lib.hid (List.getElem?_eq_getElem hii)⟩
          rw [zs_len, HLn.out] at hrow
          have c0 : w7.cell? ⟨lb, j, none⟩ = some (.int .i64 (x : Int)) := by
            rw [hrow.cellAt j (by omega)]
            exact zs_cell HX.out
          have hxm := HOk.out.2 x (List.mem_of_getElem? HX.out)
          have HXm := Lib.hid hxm
          obtain ⟨bx, off, rfl, ai, ni, ci, e10, hE⟩ := (HA.out.below hC.out.below).rows x hxm
          have y1 := hC.out.box.cell 1
          simp only [List.getElem?_toArray, List.getElem?_cons_succ, List.getElem?_cons_zero] at y1
          have HE := Lib.hid hE
          have hX0 : (0 : Int) ≤ (x : Int) := by omega
          have hX1 : (x : Int) < (k : Int) := by have := HKl.out; omega
          have hI0 : (0 : Int) ≤ (j : Int) := by omega
          have hI1 : (j : Int) < (ln : Int) := by omega
          have HEl : Hid ((stAt m.states x).length = ni) := Lib.hid hE.len.symm
          have hni : ni ≤ 400000 := by
            have h3 := hE.len
            have h4 := total_take m.states x hxm
            have h5 := total_take_le m.states (x + 1)
            have := ((sysB_iff m).1 HV.out).2.2.2.2
            omega
          obtain ⟨TT, HTT⟩ : ∃ z, Hid (toK k L L.length = z) := ⟨_, Lib.hid rfl⟩
          have HRw : Hid (stAt (partS m L).states j = edP TT (stAt m.states x)) := Lib.hid (by
            rw [partS_row hii, HKl.out, HTT.out, List.getD_eq_getElem?_getD, HX.out]
            rfl)
          clear hrow hii hxm hE
          go_upto_region 14 with (fail)
          go_loopw [13, 15, 51] (fun ev _ q wr => ∃ r : Nat, q = .int .i64 r ∧ r ≤ ni ∧ Hid (Below w7.heap.size w7 wr) ∧ Hid (EdgeOwn wr w.heap.size ev (edP TT ((stAt m.states x).take r)))) (fun _ _ q _ => ni - (intOf q).toNat)
          case atStart => exact ⟨0, rfl, Nat.zero_le _, Lib.hid (Below.refl _ _), Lib.hid (World.ownsRow_nil _ _ _ _)⟩
          case round =>
            as_aux_lemma =>
            obtain ⟨w8, hw8⟩ : ∃ z, z = wr := ⟨_, rfl⟩
            subst hw8
            obtain ⟨r, rfl, hr, hB8, hEv⟩ := hrel
            clear c0 e10 y1 hX0 hX1 hI0 hI1
            by_cases hlt4 : r < ni
            · have hjl : r < (stAt m.states x).length := by have := HEl.out; omega
              obtain ⟨be, oe, rfl, d1, d2⟩ := (HE.out.cells.below hB8.out) r hjl
              have hef := edge_ok HV.out HXm.out hjl
              obtain ⟨u, HU⟩ : ∃ z, Hid ((edAt (stAt m.states x) r).1 = z) := ⟨_, Lib.hid rfl⟩
              obtain ⟨v, hvv⟩ := Int.eq_ofNat_of_zero_le hef.2.2.1
              have HVv : Hid ((edAt (stAt m.states x) r).2.toNat = v) := Lib.hid (by rw [hvv]; rfl)
              rw [HU.out] at d1
              rw [hvv] at d2
              have hvk : v < k := by have := hef.2.2.2; have := HKl.out; omega
              obtain ⟨tv, HTv⟩ : ∃ z, Hid (TT.getD v 0 = z) := ⟨_, Lib.hid rfl⟩
              have HNj : Hid (edP TT ((stAt m.states x).take (r + 1)) = insE (edP TT ((stAt m.states x).take r)) (u, tv)) := Lib.hid (by rw [edP_next hjl, HU.out, HVv.out, HTv.out])
              have HLe : Hid ((edP TT ((stAt m.states x).take r)).length ≤ 500000) := Lib.hid (by have := edP_len TT (stAt m.states x) r (by omega); omega)
              have hal : Below w8.heap.size w8 (w8.alloc (.cells #[.int .i64 u, .int .i64 (v : Int)] 87)) := (Below.refl _ w8).alloc (Nat.le_refl _) _
              have hWe := Whole.new w8 87 #[.int .i64 u, .int .i64 (v : Int)]
              obtain ⟨w9, HW9⟩ : ∃ z, Hid (w8.alloc (.cells #[.int .i64 u, .int .i64 (v : Int)] 87) = z) := ⟨_, Lib.hid rfl⟩
              rw [HW9.out] at hal hWe
              have hB9 := hB8.out.trans (hal.mono hB8.out.size)
              have t0 := hWe.cell 0
              have t1 := hWe.cell 1
              have t3 : w9.cell? ⟨T, v, none⟩ = some (.int .i64 tv) := by
                have h7 : v < (toK k L L.length).length := by rw [toK_len]; exact hvk
                rw [(hP.out.up hB9).num.cellAt v (by omega), List.getElem?_map, List.getElem?_eq_getElem h7, ← HTv.out, ← HTT.out, List.getD_eq_getElem?_getD, List.getElem?_eq_getElem h7]
                rfl
              simp only [List.getElem?_toArray, List.getElem?_cons_succ, List.getElem?_cons_zero] at t0 t1
              have HB9 := Lib.hid hB9
              have HE9 := Lib.hid (hEv.out.below hal)
              have HS9 := Lib.hid (Nat.le_trans hC.out.below.size hB9.size)
              have hv0 : (0 : Int) ≤ (v : Int) := by omega
              have hv1 : (v : Int) < (k : Int) := by omega
              clear hal hWe hef hvv hjl hB9
              go_upto_region 16 with (fail)
              rw [HW9.out]
              clear d1 d2
              have kD : w9.drew.cell? ⟨w8.heap.size, 0, none⟩ = some (.int .i64 u) ∧ w9.drew.cell? ⟨w8.heap.size, 1, none⟩ = some (.int .i64 (v : Int)) ∧ w9.drew.cell? ⟨T, v, none⟩ = some (.int .i64 tv) := ⟨t0, t1, t3⟩
              go_region_held3 (fun w' => w'.cell? ⟨w8.heap.size, 0, none⟩ = some (.int .i64 u) ∧ w'.cell? ⟨w8.heap.size, 1, none⟩ = some (.int .i64 (v : Int)) ∧ w'.cell? ⟨T, v, none⟩ = some (.int .i64 tv))
                ((with_reducible (first | assumption | exact ⟨k1, k2, k3⟩ | exact kD)))
                (first
                  | (go_at_call 44; refine (WithI_any (w := w9.drew) HE9.out HS9.out HLe.out u tv).mono ?_; rintro e wN ⟨v', rfl, hE', hbN⟩; have k1 := up_cell hbN kD.1; have k2 := up_cell hbN kD.2.1; have k3 := up_cell hbN kD.2.2))
              all_goals
                have HBn : Hid (Below w7.heap.size w7 wN) := Lib.hid (HB9.out.trans (((Below.refl _ w9).drew.trans hbN).mono HB9.out.size))
                have HEn : Hid (EdgeOwn wN w.heap.size v' (edP TT ((stAt m.states x).take (r + 1)))) := Lib.hid (by rw [HNj.out]; exact hE')
                clear hE' hbN k1 k2 k3 kD t0 t1 t3
                go_wp2
                go_roundw
                case rel => exact ⟨r + 1, by go_num, by omega, HBn, HEn⟩
                case measure => simp [intOf]; omega
            · have hrn : ni = r := by omega
              subst hrn
              rw [List.take_of_length_le (by rw [HEl.out]; exact Nat.le_refl _), ← HRw.out] at hEv
              obtain ⟨ea, ec, rfl⟩ := own_slice hEv.out
              obtain ⟨el, HEl2⟩ : ∃ z, Hid ((stAt (partS m L).states j).length = z) := ⟨_, Lib.hid rfl⟩
              rw [HEl2.out] at hEv ⊢
              have ho8 := hC.out.out.below hB8.out hC.out.out.lt
              have o1 := ho8.cell 1
              simp only [List.getElem?_toArray, List.getElem?_cons_succ, List.getElem?_cons_zero] at o1
              have HO8 := Lib.hid (ho8.alloc (.cells #[.slice ea el ec] 77))
              have HR8 := Lib.hid ((own_up' R2.out hB8.out).alloc (.cells #[.slice ea el ec] 77))
              have HS8 := Lib.hid (Nat.le_trans hC.out.below.size hB8.out.size)
              have HEv := hEv
              clear ho8 hEv
              go_wp2_with (at_builtin; (refine wpList_append_sz rfl (.tmp 67) (.tmp 69) 23 rfl w.heap.size 77 i2 (.slice none 0 0) 1 24 Tryz.underlying23 hi2 hz20 hz21 hz22 rfl (by decide) (.slice bb j cc) rfl j rows HR8.out (some ⟨w8.heap.size, 0, none⟩) 1 1 rfl [.slice ea el ec] (fun h => by cases h) rfl (one_src _ _ _) (by simp [Value.oneCell']) (by unfold maxLen; omega) (by omega) (Nat.le_trans HS8.out (by simp)) ?_); intro v2 wB hv2 hgB hatB; refine Hid.out ?_)
              obtain ⟨a2, q2, rfl⟩ := own_slice hv2
              have kW := HO8.out.grown hgB HNE.out
              have k1 := kW.cell 1
              have k2 := kW.frozen 1
              have k3 := kW.lt
              simp only [List.getElem?_toArray, List.getElem?_cons_succ, List.getElem?_cons_zero] at k1
              have HN2 : Hid (CopyAt w B3 #[.slice a n c, .slice (some ⟨bx, off, none⟩) k d] (.slice aa n ca) (partS m L) (j + 1) (.slice a2 (j + 1) q2) (wB.setCell ⟨B3, 1, none⟩ (.slice a2 (j + 1) q2))) :=
                Lib.hid (hC.out.next (by rw [HPl.out]; exact hlt) HEv.out (below_grown hB8.out) hgB (fun rows' e1 e2 => by
                  have e3 := own_eq e1 HR8.out
                  rw [e3]; exact hv2))
              have HP2 : Hid (PaAt w (wB.setCell ⟨B3, 1, none⟩ (.slice a2 (j + 1) q2)) T k (.slice (some ⟨lb, 0, none⟩) ln lc) L L.length) :=
                Lib.hid (hP.out.more hB8.out HR8.out (Nat.le_refl _) hgB kW (Nat.le_trans (by omega) hC.out.lo))
              clear hv2 hgB hatB kW
              refine Lib.hid ?_
              go_wp2
              go_roundw
              case rel => exact ⟨j + 1, _, by go_num, by omega, HN2, HP2⟩
              case measure => simp [intOf]; omega
        · have hjn : ln = j := by omega
          subst hjn
          have x0 := hC.out.res.cell 0
          have x1 := hC.out.res.cell 1
          have x2 := hC.out.res.frozen 0
          have x3 := hC.out.res.frozen 1
          have x4 := hC.out.res.lt
          have x5 := hC.out.lo
          have z1 := hC.out.out.cell 0
          have z2 := hC.out.out.cell 1
          simp only [List.getElem?_toArray, List.getElem?_cons_succ, List.getElem?_cons_zero] at x0 x1 z1 z2
          have hrows := hC.out.rows
          rw [List.take_of_length_le (by have := HPl.out; omega)] at hrows
          have hw := hC.out.res.set 0 (.slice aa n ca)
          have HR : Hid (SysOwn ((w7.setCell ⟨w.heap.size + 1, 0, none⟩ (.slice aa n ca)).setCell ⟨w.heap.size + 1, 1, none⟩ (.slice bb ln cc)) w.heap.size (.slice aa n ca) (.slice bb ln cc) (partS m L)) := Lib.hid (by
            refine ⟨own_stored (own_stored hC.out.acts hC.out.res (by decide)) hw (by decide), ?_⟩
            have s1 := hrows.kept (grown_self w7 ⟨w.heap.size + 1, 0, none⟩ (.slice aa n ca)) (.inr (own_whole hrows.choose_spec.2.1 hC.out.res (by decide)).symm) (fun r l hr => .inr (own_whole hr hC.out.res (by decide)).symm)
            exact s1.kept (grown_self _ ⟨w.heap.size + 1, 1, none⟩ (.slice bb ln cc)) (.inr (own_whole s1.choose_spec.2.1 hw (by decide)).symm) (fun r l hr => .inr (own_whole hr hw (by decide)).symm))
          have HRB : Hid (Below w.heap.size w ((w7.setCell ⟨w.heap.size + 1, 0, none⟩ (.slice aa n ca)).setCell ⟨w.heap.size + 1, 1, none⟩ (.slice bb ln cc))) := Lib.hid ((hC.out.below.setCell (by simp) _).setCell (by simp) _)
          have HRL : Hid (NumO ((w7.setCell ⟨w.heap.size + 1, 0, none⟩ (.slice aa n ca)).setCell ⟨w.heap.size + 1, 1, none⟩ (.slice bb ln cc)) w.heap.size (.slice la ln lc) (zs L)) := Lib.hid (own_stored (own_stored hP.out.lst hC.out.res (by decide)) hw (by decide))
          have g0 := (hC.out.res.set 0 (.slice aa n ca)).cell 0
          have g1 := ((hC.out.res.set 0 (.slice aa n ca)).set 1 (.slice bb ln cc)).cell 1
          simp only [List.setIfInBounds_toArray, List.set_cons_zero, List.set_cons_succ, List.getElem?_toArray, List.getElem?_cons_succ, List.getElem?_cons_zero] at g0 g1
          clear hrows hw
          go_wp2
          exact bodyPost_ret (v := .tuple #[.agg #[.slice aa n ca, .slice bb ln cc], .slice la ln lc]) (by simp [results, Tryz.results10, go_sem, g0, g1]) rfl ⟨_, _, _, L, rfl, HIs.out, HR.out, HRL.out, HRB.out⟩
end Go.Proofs.YtgnbkepdbdgkdaaGreatDoor
