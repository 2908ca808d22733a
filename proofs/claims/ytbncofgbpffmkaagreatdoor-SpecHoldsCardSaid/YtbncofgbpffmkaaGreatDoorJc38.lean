/- Texts joined: SimOf, SimArg. -/
import Derived.Test.YtbncofgbpffmkaaGreatDoorJc37
import Derived.Deep.RegionHeld3
/- spec.Of. -/
namespace Go.Proofs.YtbncofgbpffmkaaGreatDoor
open Go.RowKit Pl

/-- what Of answers -/
def ofV (m : Syst) : Spc × Bool × Int := if sysB m = true then (if 500 < m.states.length then (noSpc, false, 2) else match ofQ m with | none => (noSpc, false, 0) | some s => (s, true, 0)) else (noSpc, false, 20)
theorem ofV_bad {m : Syst} (h : sysB m = false) : ofV m = (noSpc, false, 20) := by unfold ofV; rw [if_neg (by rw [h]; decide)]
theorem ofV_large {m : Syst} (h : sysB m = true) (hl : 500 < m.states.length) : ofV m = (noSpc, false, 2) := by unfold ofV; rw [if_pos h, if_pos hl]
theorem ofV_none {m : Syst} (h : sysB m = true) (hl : ¬ 500 < m.states.length) (hq : ofQ m = none) : ofV m = (noSpc, false, 0) := by unfold ofV; rw [if_pos h, if_neg hl, hq]
theorem ofV_some {m : Syst} (h : sysB m = true) (hl : ¬ 500 < m.states.length) {s : Spc} (hq : ofQ m = some s) : ofV m = (s, true, 0) := by unfold ofV; rw [if_pos h, if_neg hl, hq]

set_option maxRecDepth 100000 in
set_option maxHeartbeats 8000000 in
theorem Of_any {w : World} {a : Option Addr} {n c : Nat} {b : Option Addr} {k d : Nat} {m : Syst} {e0 e1 e2 : Addr} (E : Errs w e0 e1 e2) (A : SysArg w a n c b k d m) :
    Calls Tryz.prog 15 #[.agg #[.slice a n c, .slice b k d]] w fun e w' => ∃ va vs, e = .returned (.tuple #[.agg #[va, vs], .bool (ofV m).2.1, .int .i64 (ofV m).2.2]) ∧ SpcOwn w' w.heap.size va vs (ofV m).1 ∧ Below w.heap.size w w' := by
  obtain ⟨i2, hi2, hz20, hz21, hz22⟩ := info_parts infoState
  have hb0 := ((Below.refl w.heap.size w).alloc (Nat.le_refl _) (.cells #[.slice a n c, .slice b k d] 25)).alloc (by simp) (.cells #[.slice none 0 0, .slice none 0 0] 28)
  have hbox := (Whole.new w 25 #[.slice a n c, .slice b k d]).alloc (.cells #[.slice none 0 0, .slice none 0 0] 28)
  have hres := Whole.new (w.alloc (.cells #[.slice a n c, .slice b k d] 25)) 28 #[.slice none 0 0, .slice none 0 0]
  have hsz0 : ((w.alloc (.cells #[.slice a n c, .slice b k d] 25)).alloc (.cells #[.slice none 0 0, .slice none 0 0] 28)).heap.size = w.heap.size + 2 := by simp
  simp only [World.size_alloc] at hres
  obtain ⟨w0, HW0⟩ : ∃ z, Hid ((w.alloc (.cells #[.slice a n c, .slice b k d] 25)).alloc (.cells #[.slice none 0 0, .slice none 0 0] 28) = z) := ⟨_, Lib.hid rfl⟩
  rw [HW0.out] at hb0 hbox hres hsz0
  have HCk := Lib.hid (SCheck_any (E.below hb0) (A.below hb0))
  have HA := Lib.hid A
  have hkb : k ≤ 140737488355328 := A.big
  have HB0 := Lib.hid hb0
  have HBox0 := Lib.hid hbox
  have HRes0 := Lib.hid hres
  have HZ0 := Lib.hid hsz0
  have HKl : Hid (m.states.length = k) := Lib.hid A.len.symm
  have HNl : Hid (m.acts.length = n) := Lib.hid A.acts.len.symm
  clear A E hb0 hbox hres hsz0
  go_enter Tryz.func15, Tryz.ntmps15
  go_wp2_with fail
  rw [HW0.out]
  refine HCk.out.mono ?_
  rintro e w1 ⟨rfl, hb1⟩
  have hbox1 := HBox0.out.below hb1 HBox0.out.lt
  have hres1 := HRes0.out.below hb1 HRes0.out.lt
  have HBox1 := Lib.hid hbox1
  have HRes1 := Lib.hid hres1
  have HB1 := Lib.hid (HB0.out.trans (hb1.mono HB0.out.size))
  have hz1 : w.heap.size + 2 ≤ w1.heap.size := by have := hb1.size; have := HZ0.out; omega
  have HZ1 := Lib.hid hz1
  have k0 : w1.cell? ⟨w.heap.size, 0, none⟩ = some (.slice a n c) := hbox1.cell 0
  have k1 : w1.cell? ⟨w.heap.size, 1, none⟩ = some (.slice b k d) := hbox1.cell 1
  have b0 := hres1.cell 0
  have b1 := hres1.cell 1
  have f0 := hres1.frozen 0
  have f1 := hres1.frozen 1
  have hl := hres1.lt
  simp only [List.getElem?_toArray, List.getElem?_cons_succ, List.getElem?_cons_zero] at b0 b1
  have g0 := (hres1.set 0 (.slice none 0 0)).cell 0
  have g1 := ((hres1.set 0 (.slice none 0 0)).set 1 (.slice none 0 0)).cell 1
  simp only [List.setIfInBounds_toArray, List.set_cons_zero, List.set_cons_succ, List.getElem?_toArray, List.getElem?_cons_succ, List.getElem?_cons_zero] at g0 g1
  have HBe := Lib.hid ((HB1.out.setCell (p := ⟨w.heap.size + 1, 0, none⟩) (by simp) (.slice none 0 0)).setCell (p := ⟨w.heap.size + 1, 1, none⟩) (by simp) (.slice none 0 0))
  clear hb1 hbox1 hres1
  cases hv : sysB m
  · rw [chk_no hv]
    have HV := Lib.hid (ofV_bad hv)
    clear hv
    go_wp2
    exact bodyPost_ret (v := .tuple #[.agg #[.slice none 0 0, .slice none 0 0], .bool false, .int .i64 20]) (by simp [results, Tryz.results15, go_sem, g0, g1]) rfl ⟨_, _, by rw [HV.out], by rw [HV.out]; exact spcOwn_nil _ _, HBe.out⟩
  · rw [chk_yes hv]
    by_cases hk5 : 500 < k
    · have HV := Lib.hid (ofV_large hv (by rw [HKl.out]; exact hk5))
      clear hv
      go_wp2
      exact bodyPost_ret (v := .tuple #[.agg #[.slice none 0 0, .slice none 0 0], .bool false, .int .i64 2]) (by simp [results, Tryz.results15, go_sem, g0, g1]) rfl ⟨_, _, by rw [HV.out], by rw [HV.out]; exact spcOwn_nil _ _, HBe.out⟩
    · have hsv := (sysB_iff m).1 hv
      have hn8 : n ≤ 8 := by have := ((actsB_iff m.acts).1 hsv.1).1; rw [HNl.out] at this; exact this
      have HV := Lib.hid hv
      have HK5 : Hid (¬ 500 < m.states.length) := Lib.hid (by rw [HKl.out]; exact hk5)
      have HCl := Lib.hid (cloneS_any (HA.out.acts.below HB1.out) (by omega))
      clear hv hsv g0 g1 b0 b1 f0 f1
      go_wp2_with fail
      refine HCl.out.mono ?_
      rintro e w3 ⟨va, rfl, hva, hb3⟩
      obtain ⟨aa, ca, rfl⟩ := own_slice' hva
      have HB3 := Lib.hid (HB1.out.trans (hb3.mono HB1.out.size))
      have HVa := Lib.hid (own_low hva (show w.heap.size ≤ w1.heap.size by omega))
      have hbox3 := HBox1.out.below hb3 HBox1.out.lt
      have HBox3 := Lib.hid hbox3
      have HRes3 := Lib.hid (HRes1.out.below hb3 HRes1.out.lt)
      have k31 : w3.cell? ⟨w.heap.size, 1, none⟩ = some (.slice b k d) := hbox3.cell 1
      have hz3 : w.heap.size + 2 ≤ w3.heap.size := by have := hb3.size; omega
      have HZ3 := Lib.hid hz3
      have k31' := cell_new k31 (.cells #[.slice aa n ca, .slice none 0 0] 28)
      have HSt := Lib.hid (SpcAcc.start w3 (.slice aa n ca))
      have HO0 : Hid (ofK m 0 = some []) := Lib.hid rfl
      clear hva hb3 hbox3
      go_wp2
      go_loopw [7, 8, 10, 27, 38] (fun _ _ _ p _ wr => ∃ (i : Nat) (ss : List Ste) (vs : Value), i ≤ k ∧ p = .int .i64 i ∧ Hid (SpcAcc w3 (.slice aa n ca) vs ss wr) ∧ Hid (ofK m i = some ss)) (fun _ _ _ p _ _ => k - (intOf p).toNat)
      case atStart => exact ⟨0, [], _, Nat.zero_le _, rfl, HSt, HO0⟩
      case round =>
        obtain ⟨w5, hw5⟩ : ∃ z, z = wr := ⟨_, rfl⟩
        subst hw5
        obtain ⟨i, ss, vs, hik, rfl, HC, HO⟩ := hrel
        obtain ⟨rows, R1, R2, R3⟩ := HC.out.rows
        obtain ⟨bb, cc, rfl⟩ := own_slice' R2
        have hss : ss.length = i := (ofK_fits HV.out i ss (by rw [HKl.out]; exact hik) HO.out).1
        rw [hss] at R2 HC
        have HR2o := Lib.hid R2
        have HSs := Lib.hid hss
        clear R1 R2 R3 hss
        by_cases hlt : i < k
        · have hbw5 := HB3.out.trans (HC.out.mid.mono HB3.out.size)
          have hx : i < m.states.length := by rw [HKl.out]; exact hlt
          have HXi := Lib.hid hx
          obtain ⟨bx, off, rfl, ai, ni, ci, c1, hE⟩ := (HA.out.rows.below hbw5) i hx
          have hbox5 := HBox3.out.below HC.out.mid (by have := HZ3.out; omega)
          have l0 : w5.cell? ⟨w.heap.size, 0, none⟩ = some (.slice a n c) := hbox5.cell 0
          have l00 := cell_new l0 (.cells #[.int .i64 (-1)] 3)
          have HE := Lib.hid hE
          have hz5 := HC.out.mid.size
          have hni : ni ≤ 400000 := by
            have h3 := hE.len
            have h4 := total_take m.states i hx
            have h5 := total_take_le m.states (i + 1)
            have := ((sysB_iff m).1 HV.out).2.2.2.2
            omega
          have ho := off_fit HV.out hx
          obtain ⟨o, HOo⟩ : ∃ z, Hid (offN (stAt m.states i) = z) := ⟨_, Lib.hid rfl⟩
          rw [HOo.out] at ho
          have hlt0 : (w5.alloc (.cells #[.int .i64 (-1)] 3)).cell? ⟨w5.heap.size, 0, none⟩ = some (.int .i64 (-1)) := (Whole.new w5 3 #[.int .i64 (-1)]).cell 0
          have HRep := Lib.hid (Repeat_any (c := 1) (n := n) (by omega) hlt0)
          rw [World.size_alloc] at HRep
          have HBl := Lib.hid ((Below.refl w5.heap.size w5).alloc (Nat.le_refl _) (.cells #[.int .i64 (-1)] 3))
          clear hbw5 hbox5 hE hx hlt0
          go_wp2_with fail
          refine HRep.out.mono ?_
          rintro e w6 ⟨rfl, hrow, hb6'⟩
          have hb6 := HBl.out.trans ((by simpa using hb6' : Below (w5.heap.size + 1) (w5.alloc (.cells #[.int .i64 (-1)] 3)) w6).mono (by omega))
          have hz6 := hb6.size
          have HC6 := Lib.hid (HC.out.below hb6)
          have HB6 := Lib.hid hb6
          have HE6 := Lib.hid (HE.out.below hb6)
          have hn0 : NumO w6 w3.heap.size (.slice (some ⟨w5.heap.size + 1, 0, none⟩) n n) (List.replicate n (-1)) := by
            unfold NumO
            rw [List.length_replicate]
            exact own_low hrow (by omega)
          have HN0 := Lib.hid hn0
          have HX0 : Hid (nxE n (stAt m.states i) 0 = some (List.replicate n (-1))) := Lib.hid rfl
          clear hrow hb6 hb6' hn0 l0 l00 c1
          obtain ⟨g, HG0⟩ : ∃ z, Hid (w5.heap.size + 1 = z) := ⟨_, Lib.hid rfl⟩
          rw [HG0.out] at HN0
          rw [HG0.out]
          go_wp2
          go_loopw [10, 38] (fun _ p wr => ∃ (y : Nat) (nx : List Int), y ≤ ni ∧ p = .int .i64 y ∧ Hid (NumO wr w3.heap.size (.slice (some ⟨g, 0, none⟩) n n) nx) ∧ Hid (Below w5.heap.size w5 wr) ∧ Hid (nxE n (stAt m.states i) y = some nx)) (fun _ p _ => ni - (intOf p).toNat)
          case atStart => exact ⟨0, _, Nat.zero_le _, rfl, HN0, HB6, HX0⟩
          case round =>
            obtain ⟨y, nx, hy, rfl, HR, Hb5, HN⟩ := hrel
            have hzr := Hb5.out.size
            have HFt := Lib.hid (nxE_fit (ns := m.states.length) (fun q hq => (edge_fit HV.out HXi.out hq).2.2) y nx (by have := HE.out.len; omega) HN.out)
            have HRn : Hid (wr.ownsRow w3.heap.size 3 1 (.slice (some ⟨g, 0, none⟩) n n) n (nx.map (Value.int .i64))) := Lib.hid (by
              have := HR.out
              unfold NumO at this
              rwa [HFt.out.1] at this)
            by_cases hlt3 : y < ni
            · have hyl : y < (stAt m.states i).length := by have := HE.out.len; omega
              have hef := edge_fit HV.out HXi.out hyl
              obtain ⟨be, oe, rfl, d1, d2⟩ := (HE.out.cells.below Hb5.out) y hyl
              obtain ⟨u, hu⟩ := Int.eq_ofNat_of_zero_le hef.1
              obtain ⟨v, hvv⟩ := Int.eq_ofNat_of_zero_le hef.2.2.1
              have hun : u < n := by have := hef.2.1; rw [HNl.out] at this; omega
              rw [hu] at d1
              rw [hvv] at d2
              have hal : Below wr.heap.size wr (wr.alloc (.cells #[.int .i64 u, .int .i64 v] 58)) := (Below.refl _ wr).alloc (Nat.le_refl _) _
              have HRa := Lib.hid (HRn.out.alloc (.cells #[.int .i64 u, .int .i64 v] 58))
              have e1 := HRa.out.cellAt u (by omega)
              have e2 := HRa.out.frozenAt u
              have e3 := (World.ownsRow.stored HRa.out u (.int .i64 v)).1
              have elm : ((nx.map (Value.int .i64)).set u (.int .i64 v)) = (nx.set u (v : Int)).map (Value.int .i64) := by rw [List.map_set]
              rw [elm] at e3
              obtain ⟨X, HX⟩ : ∃ z, Hid (nx.getD u 0 = z) := ⟨_, Lib.hid rfl⟩
              have hnl : u < nx.length := by rw [HFt.out.1]; exact hun
              have e1' : (wr.alloc (.cells #[.int .i64 u, .int .i64 v] 58)).cell? ⟨g, u, none⟩ = some (.int .i64 X) := by
                rw [e1, List.getElem?_map, List.getElem?_eq_getElem hnl, ← HX.out, List.getD_eq_getElem?_getD, List.getElem?_eq_getElem hnl]
                rfl
              have hu0 : (0 : Int) ≤ (u : Int) := by omega
              have hu1 : (u : Int) < (n : Int) := by omega
              by_cases hX : X = -1
              · have hq : (X != -1) = false := by rw [hX]; rfl
                have HN2 : Hid (nxE n (stAt m.states i) (y + 1) = some (nx.set u v)) := Lib.hid (by
                  have := nxE_go HN.out (by rw [hu, Int.toNat_natCast, HX.out]; exact hX)
                  rw [hu, hvv, Int.toNat_natCast] at this
                  exact this)
                have HNx : Hid (NumO ((wr.alloc (.cells #[.int .i64 u, .int .i64 v] 58)).setCell ⟨g, u, none⟩ (.int .i64 v)) w3.heap.size (.slice (some ⟨g, 0, none⟩) n n) (nx.set u v)) := Lib.hid (by
                  unfold NumO
                  rw [List.length_set, HFt.out.1]
                  exact e3)
                have HBx := Lib.hid ((Hb5.out.alloc hzr (.cells #[.int .i64 u, .int .i64 v] 58)).setCell (p := ⟨g, u, none⟩) (by rw [← HG0.out]; simp) (.int .i64 v))
                clear hal e1 e3 hef hyl hX hu hvv elm hnl
                go_wp2
                go_roundw
                case rel => exact ⟨y + 1, _, by omega, by go_num, HNx, HBx, HN2⟩
                case measure => simp [intOf]; omega
              · have hq : (X != -1) = true := by rw [bne_iff_ne]; exact hX
                have HNo : Hid (ofQ m = none) := Lib.hid (ofQ_stop HO.out HXi.out (j := y + 1) (by omega) (by
                  rw [HNl.out]
                  exact nxE_stop HN.out (by rw [hu, Int.toNat_natCast, HX.out]; exact hX)))
                have HVn := Lib.hid (ofV_none HV.out HK5.out HNo.out)
                have hb5w := Hb5.out.alloc hzr (.cells #[.int .i64 u, .int .i64 v] 58)
                have hbT := (HB3.out.trans (HC.out.mid.mono HB3.out.size)).trans (hb5w.mono (by have := HC.out.mid.size; have := HZ3.out; omega))
                have hrs := HRes3.out.below (HC.out.mid.trans (hb5w.mono HC.out.mid.size)) (by have := HZ3.out; omega)
                have b0 := hrs.cell 0
                have b1 := hrs.cell 1
                have f0 := hrs.frozen 0
                have f1 := hrs.frozen 1
                have hl := hrs.lt
                simp only [List.getElem?_toArray, List.getElem?_cons_succ, List.getElem?_cons_zero] at b0 b1
                have g0 := (hrs.set 0 (.slice none 0 0)).cell 0
                have g1 := ((hrs.set 0 (.slice none 0 0)).set 1 (.slice none 0 0)).cell 1
                simp only [List.setIfInBounds_toArray, List.set_cons_zero, List.set_cons_succ, List.getElem?_toArray, List.getElem?_cons_succ, List.getElem?_cons_zero] at g0 g1
                have HBe2 := Lib.hid ((hbT.setCell (p := ⟨w.heap.size + 1, 0, none⟩) (by simp) (.slice none 0 0)).setCell (p := ⟨w.heap.size + 1, 1, none⟩) (by simp) (.slice none 0 0))
                clear hal hbT hrs e1 e3 hef hyl hX hu hvv elm hnl hb5w
                go_wp2
                exact bodyPost_ret (v := .tuple #[.agg #[.slice none 0 0, .slice none 0 0], .bool false, .int .i64 0]) (by simp [results, Tryz.results15, go_sem, g0, g1]) rfl ⟨_, _, by rw [HVn.out], by rw [HVn.out]; exact spcOwn_nil _ _, HBe2.out⟩
            · have hyn : y = (stAt m.states i).length := by have := HE.out.len; omega
              have HGo : Hid (ofK m (i + 1) = some (ss ++ [([(o : Int)], nx)])) := Lib.hid (by
                have := ofK_go HO.out (nx := nx) (by rw [HNl.out, ← hyn]; exact HN.out)
                rw [setE_off, HOo.out] at this
                exact this)
              have hCr := HC.out.below Hb5.out
              have z1 := hCr.out.cell 1
              have z3 := hCr.out.lt
              simp only [List.getElem?_toArray, List.getElem?_cons_succ, List.getElem?_cons_zero] at z1
              have HCr := Lib.hid hCr
              have HRw := Lib.hid (own_up' HR2o.out Hb5.out)
              have hlow : w3.heap.size ≤ wr.heap.size := by omega
              have HOff : Hid (∀ W, Below wr.heap.size wr W → Calls Tryz.prog 37 #[.slice ai ni ci] W fun e w' => e = .returned (.int .i64 o) ∧ Below W.heap.size W w') := Lib.hid fun W hb => by
                have h1 := offered_any ((HE.out.below Hb5.out).below hb) (fun q hq => by have := edge_fit HV.out HXi.out hq; have := ((actsB_iff m.acts).1 ((sysB_iff m).1 HV.out).1).1; omega)
                rw [HOo.out] at h1
                exact h1
              clear hCr hyn
              go_wp2
              go_region_law (first
                | (refine step_append_sz rfl (.tmp 57) (.tmp 63) 26 (by rfl) w3.heap.size 52 i2 (.agg #[.slice none 0 0, .slice none 0 0]) 2 48 Tryz.underlying26 hi2 hz20 hz21 hz22 rfl (by decide) (.slice bb i cc) (by rfl) i (rcells rows) (((own_up' HRw.out hG).alloc _).alloc _) (some ⟨wO.heap.size + 1, 0, none⟩) 1 1 (by rfl) [.slice (some ⟨wO.heap.size, 0, none⟩) 1 1, .slice (some ⟨g, 0, none⟩) n n] (fun h => by cases h) rfl (by have := pair_src (wO.alloc (.cells #[.int .i64 o] 3)) (.slice (some ⟨wO.heap.size, 0, none⟩) 1 1) (.slice (some ⟨g, 0, none⟩) n n) 52; simpa using this) (by simp [Value.oneCell']) (by unfold maxLen; omega) (by omega) (by have := hG.size; simp; omega) ?_; intro v2 wB hB hgB hatB; clear hatB; obtain ⟨vb, vd, rfl⟩ := own_slice' hB; have kW := (((HCr.out.below hG).below ((Below.refl _ wO).alloc (Nat.le_refl _) (.cells #[.int .i64 o] 3))).below ((Below.refl _ (wO.alloc (.cells #[.int .i64 o] 3))).alloc (Nat.le_refl _) (.cells #[.slice (some ⟨wO.heap.size, 0, none⟩) 1 1, .slice (some ⟨g, 0, none⟩) n n] 52))).grown hgB; have k7 := kW.cell 1; have k8 := kW.frozen 1; have k9 := kW.lt; simp only [List.getElem?_toArray, List.getElem?_cons_succ, List.getElem?_cons_zero] at k7)
                | (go_simp; refine (HOff.out _ (Below.refl _ wr).drew).mono ?_; rintro e wO ⟨rfl, hbO⟩; have hG := below_two (Below.refl wr.heap.size wr).drew hbO; have u2O := up_cell hG z1; have u2P := cell_new u2O (.cells #[.int .i64 o] 3); have u2Q := cell_new u2P (.cells #[.slice (some ⟨wO.heap.size, 0, none⟩) 1 1, .slice (some ⟨g, 0, none⟩) n n] 52); dsimp only))
              all_goals
                have hsO := hG.size
                have HNx := Lib.hid ((((HCr.out.below hG).below ((Below.refl _ wO).alloc (Nat.le_refl _) (.cells #[.int .i64 o] 3))).below ((Below.refl _ (wO.alloc (.cells #[.int .i64 o] 3))).alloc (Nat.le_refl _) (.cells #[.slice (some ⟨wO.heap.size, 0, none⟩) 1 1, .slice (some ⟨g, 0, none⟩) n n] 52))).next (v2 := .slice vb (i + 1) vd) (t := ([(o : Int)], nx)) (own_low ((lit_num wO o).alloc _) (by omega)) (((HR.out.below hG).alloc _).alloc _) hgB (fun rows' e1 e2 => by
                  rw [HSs.out] at e1 ⊢
                  rw [own_eq e1 (((own_up' HRw.out hG).alloc _).alloc _)]; exact hB))
                clear hB hgB hG hbO k7 k8 k9 kW u2O u2P u2Q
                go_wp2
                go_roundw
                case rel => exact ⟨i + 1, _, _, by omega, by go_num, HNx, HGo⟩
                case measure => simp [intOf]; omega
        · have hik2 : i = k := by omega
          subst hik2
          have HF : Hid (ofQ m = some ⟨m.acts, ss⟩) := Lib.hid (ofQ_end (by rw [HKl.out]; exact HO.out))
          have HVs := Lib.hid (ofV_some HV.out HK5.out HF.out)
          have z0 := HC.out.out.cell 0
          have z1 := HC.out.out.cell 1
          have hrs := HRes3.out.below HC.out.mid (by have := HZ3.out; omega)
          have b0 := hrs.cell 0
          have b1 := hrs.cell 1
          have f0 := hrs.frozen 0
          have f1 := hrs.frozen 1
          have hl := hrs.lt
          have hz5 := HC.out.out.lt
          simp only [List.getElem?_toArray, List.getElem?_cons_succ, List.getElem?_cons_zero] at b0 b1 z0 z1
          have g0 := (hrs.set 0 (.slice aa n ca)).cell 0
          have g1 := ((hrs.set 0 (.slice aa n ca)).set 1 (.slice bb i cc)).cell 1
          simp only [List.setIfInBounds_toArray, List.set_cons_zero, List.set_cons_succ, List.getElem?_toArray, List.getElem?_cons_succ, List.getElem?_cons_zero] at g0 g1
          have hbT := HB3.out.trans (HC.out.mid.mono HB3.out.size)
          have HBe2 := Lib.hid ((hbT.setCell (p := ⟨w.heap.size + 1, 0, none⟩) (by simp) (.slice aa n ca)).setCell (p := ⟨w.heap.size + 1, 1, none⟩) (by simp) (.slice bb i cc))
          have hO : SpcOwn w5 w.heap.size (.slice aa n ca) (.slice bb i cc) ⟨m.acts, ss⟩ := ⟨by have := own_up' HVa.out HC.out.mid; rw [← HNl.out] at this ⊢; exact this, HC.out.rows.low (by have := HZ3.out; omega)⟩
          have HOw := Lib.hid (spc_stored hO hrs (.slice aa n ca) (.slice bb i cc))
          clear hrs hbT hO
          go_wp2
          exact bodyPost_ret (v := .tuple #[.agg #[.slice aa n ca, .slice bb i cc], .bool true, .int .i64 0]) (by simp [results, Tryz.results15, go_sem, g0, g1]) rfl ⟨_, _, by rw [HVs.out], by rw [HVs.out]; exact HOw.out, HBe2.out⟩
end Go.Proofs.YtbncofgbpffmkaaGreatDoor
/- Of, All and None, and the reference's, as arguments of another call. -/
namespace Go.Proofs.YtbncofgbpffmkaaGreatDoor
open Go.RowKit Pl

/-- a specification that another call may take -/
structure Good (s : Spc) : Prop where
  acts : s.acts.length ≤ 8
  states : s.states.length ≤ 500
  fits : ∀ i, i < s.states.length → Fits (teAt s.states i).1 ∧ Fits (teAt s.states i).2
  sz : ∀ k, k < s.acts.length → (at_ s.acts k).size ≤ 9223372036854775807
theorem good_no : Good noSpc := ⟨by simp [noSpc], by simp [noSpc], fun i hi => by simp [noSpc] at hi, fun k hk => by simp [noSpc] at hk⟩
theorem acts_sz {acts : List ByteArray} (ha : actsB acts = true) : ∀ k, k < acts.length → (at_ acts k).size ≤ 9223372036854775807 := fun k hk => by
  have := nm_len ha hk
  rw [Lib.size_eq]
  omega
theorem one_fits {l : List Int} (h : ∀ x ∈ l, -1 ≤ x ∧ x ≤ 1000) (hl : l.length ≤ 1000) : Fits l := ⟨by omega, fun j hj => by
  have := h (l.getD j 0) (by rw [List.getD_eq_getElem?_getD, List.getElem?_eq_getElem hj]; exact List.getElem_mem hj)
  omega⟩
theorem good_all {acts : List ByteArray} (ha : actsB acts = true) : Good (allQ acts) := by
  have h8 := ((actsB_iff acts).1 ha).1
  have hN8 : 2 ^ acts.length ≤ 2 ^ 8 := Nat.pow_le_pow_right (by decide) h8
  refine ⟨h8, by simp [allQ], fun i hi => ?_, acts_sz ha⟩
  have hi0 : i = 0 := by simpa [allQ] using hi
  subst hi0
  have e : teAt (allQ acts).states 0 = (upTo (2 ^ acts.length), List.replicate acts.length 0) := rfl
  rw [e]
  refine ⟨one_fits (fun x hx => ?_) (by rw [upTo_len]; omega), one_fits (fun x hx => ?_) (by rw [List.length_replicate]; omega)⟩
  · obtain ⟨j, hj, rfl⟩ := List.mem_map.1 hx
    rw [List.mem_range] at hj
    omega
  · have := List.eq_of_mem_replicate hx
    omega
theorem good_none {acts : List ByteArray} (ha : actsB acts = true) : Good (noneQ acts) := by
  have h8 := ((actsB_iff acts).1 ha).1
  refine ⟨h8, by simp [noneQ], fun i hi => ?_, acts_sz ha⟩
  have hi0 : i = 0 := by simpa [noneQ] using hi
  subst hi0
  have e : teAt (noneQ acts).states 0 = ([], List.replicate acts.length (-1)) := rfl
  rw [e]
  refine ⟨one_fits (fun x hx => by cases hx) (by simp), one_fits (fun x hx => ?_) (by rw [List.length_replicate]; omega)⟩
  have := List.eq_of_mem_replicate hx
  omega
theorem good_of {m : Syst} {s : Spc} (hv : sysB m = true) (hl : ¬ 500 < m.states.length) (h : ofQ m = some s) : Good s := by
  unfold ofQ at h
  cases hk : ofK m m.states.length with
  | none => rw [hk] at h; cases h
  | some ss =>
    rw [hk] at h
    cases h
    obtain ⟨h1, h2⟩ := ofK_fits hv _ ss (Nat.le_refl _) hk
    have ha := ((sysB_iff m).1 hv).1
    refine ⟨((actsB_iff m.acts).1 ha).1, by show ss.length ≤ 500; omega, fun i hi => ?_, acts_sz ha⟩
    have hi' : i < ss.length := hi
    have e : teAt ss i = ss[i] := by unfold teAt; rw [List.getD_eq_getElem?_getD, List.getElem?_eq_getElem hi']; rfl
    show Fits (teAt ss i).1 ∧ Fits (teAt ss i).2
    rw [e]
    exact h2 _ (List.getElem_mem hi')
theorem good_ofV (m : Syst) : Good (ofV m).1 := by
  cases hv : sysB m
  · rw [ofV_bad hv]; exact good_no
  · by_cases hl : 500 < m.states.length
    · rw [ofV_large hv hl]; exact good_no
    · cases hq : ofQ m with
      | none => rw [ofV_none hv hl hq]; exact good_no
      | some s => rw [ofV_some hv hl hq]; exact good_of hv hl hq
theorem Good.arg {W : World} {base : Nat} {va vs : Value} {s : Spc} (g : Good s) (h : SpcOwn W base va vs s) : ∃ a n c b k d, va = .slice a n c ∧ vs = .slice b k d ∧ SpecArg W a n c b k d s := by
  have g1 := g.acts
  have g2 := g.states
  obtain ⟨a, c, b, d, h1, h2, h3⟩ := h.arg (by omega) (by omega) g.fits g.sz
  exact ⟨a, _, c, b, _, d, h1, h2, h3⟩

theorem OfA_any {w : World} {a : Option Addr} {n c : Nat} {b : Option Addr} {k d : Nat} {m : Syst} {e0 e1 e2 : Addr} (E : Errs w e0 e1 e2) (A : SysArg w a n c b k d m) :
    Calls Tryz.prog 15 #[.agg #[.slice a n c, .slice b k d]] w fun e w' => ∃ a2 n2 c2 b2 k2 d2, e = .returned (.tuple #[.agg #[.slice a2 n2 c2, .slice b2 k2 d2], .bool (ofV m).2.1, .int .i64 (ofV m).2.2]) ∧ SpecArg w' a2 n2 c2 b2 k2 d2 (ofV m).1 ∧ Below w.heap.size w w' := by
  refine (Of_any E A).mono ?_
  rintro e w' ⟨va, vs, rfl, hO, hb⟩
  obtain ⟨a2, n2, c2, b2, k2, d2, rfl, rfl, hA⟩ := (good_ofV m).arg hO
  exact ⟨a2, n2, c2, b2, k2, d2, rfl, hA, hb⟩
theorem Good.arg2 {W : World} {base : Nat} {a b : Option Addr} {n c k d : Nat} {s : Spc} (g : Good s) (h : SpcOwn W base (.slice a n c) (.slice b k d) s) : SpecArg W a n c b k d s := by
  obtain ⟨a', n', c', b', k', d', h1, h2, h3⟩ := g.arg h
  cases h1
  cases h2
  exact h3
theorem SpcOwn.zero {W : World} {base : Nat} {va vs : Value} {s : Spc} (h : SpcOwn W base va vs s) : SpcOwn W 0 va vs s := ⟨own_low h.acts (Nat.zero_le _), h.rows.low (Nat.zero_le _)⟩
theorem SpcOwn.below {W W' : World} {base : Nat} {va vs : Value} {s : Spc} (h : SpcOwn W base va vs s) (hb : Below W.heap.size W W') : SpcOwn W' base va vs s := ⟨own_up' h.acts hb, h.rows.below hb⟩
theorem SpcOwn.open {W : World} {base : Nat} {va vs : Value} {s : Spc} (h : SpcOwn W base va vs s) : ∃ a n c b k d, va = .slice a n c ∧ vs = .slice b k d := by
  obtain ⟨a1, c1, a2, c2, h1, h2⟩ := h.slices
  exact ⟨a1, _, c1, a2, _, c2, h1, h2⟩
/-- two variables stored into, one behind the other -/
theorem spc_two {W : World} {base R1 R2 : Nat} {va vs x y x' y' : Value} {s : Spc} (h : SpcOwn W base va vs s) (h1 : Whole W R1 28 #[x, y]) (h2 : Whole W R2 28 #[x', y']) (hne : R2 ≠ R1) (u v u' v' : Value) :
    SpcOwn ((((W.setCell ⟨R1, 0, none⟩ u).setCell ⟨R1, 1, none⟩ v).setCell ⟨R2, 0, none⟩ u').setCell ⟨R2, 1, none⟩ v') base va vs s :=
  spc_stored (spc_stored h h1 u v) ((h2.far (by simpa using hne) u).far (by simpa using hne) v) u' v'
theorem whole_two {W : World} {R1 R2 : Nat} {x y x' y' : Value} (h1 : Whole W R1 28 #[x, y]) (h2 : Whole W R2 28 #[x', y']) (hne : R2 ≠ R1) (u v u' v' : Value) :
    Whole ((((W.setCell ⟨R1, 0, none⟩ u).setCell ⟨R1, 1, none⟩ v).setCell ⟨R2, 0, none⟩ u').setCell ⟨R2, 1, none⟩ v') R1 28 #[u, v] ∧ Whole ((((W.setCell ⟨R1, 0, none⟩ u).setCell ⟨R1, 1, none⟩ v).setCell ⟨R2, 0, none⟩ u').setCell ⟨R2, 1, none⟩ v') R2 28 #[u', v'] := by
  constructor
  · have := (((h1.set 0 u).set 1 v).far (p := ⟨R2, 0, none⟩) (by simpa using fun e => hne e.symm) u').far (p := ⟨R2, 1, none⟩) (by simpa using fun e => hne e.symm) v'
    simpa using this
  · have := (((h2.far (p := ⟨R1, 0, none⟩) (by simpa using hne) u).far (p := ⟨R1, 1, none⟩) (by simpa using hne) v).set 0 u').set 1 v'
    simpa using this
theorem whole_far {W : World} {R R1 R2 : Nat} {t : TypeId} {cs : Array Value} (h : Whole W R t cs) (h1 : R ≠ R1) (h2 : R ≠ R2) (u v u' v' : Value) :
    Whole ((((W.setCell ⟨R1, 0, none⟩ u).setCell ⟨R1, 1, none⟩ v).setCell ⟨R2, 0, none⟩ u').setCell ⟨R2, 1, none⟩ v') R t cs :=
  (((h.far (by simpa using h1) u).far (by simpa using h1) v).far (by simpa using h2) u').far (by simpa using h2) v'
theorem cells_two {W : World} {R : Nat} {t : TypeId} {x y : Value} (h : Whole W R t #[x, y]) : W.cell? ⟨R, 0, none⟩ = some x ∧ W.cell? ⟨R, 1, none⟩ = some y ∧ W.frozen? ⟨R, 0, none⟩ = false ∧ W.frozen? ⟨R, 1, none⟩ = false ∧ R < W.heap.size := ⟨h.cell 0, h.cell 1, h.frozen 0, h.frozen 1, h.lt⟩
def allV (acts : List ByteArray) : Spc := if actsB acts then allQ acts else noSpc
def noneV (acts : List ByteArray) : Spc := if actsB acts then noneQ acts else noSpc
theorem AllA_any {w : World} {a : Option Addr} {n c : Nat} {acts : List ByteArray} {e0 e1 e2 : Addr} (E : Errs w e0 e1 e2) (A : StrArg w a n c acts) :
    Calls Tryz.prog 13 #[.slice a n c] w fun e w' => ∃ a2 n2 c2 b2 k2 d2, e = .returned (.tuple #[.agg #[.slice a2 n2 c2, .slice b2 k2 d2], .int .i64 (if actsB acts then 0 else 10)]) ∧ SpecArg w' a2 n2 c2 b2 k2 d2 (allV acts) ∧ Below w.heap.size w w' := by
  refine (All_any E A).mono ?_
  rintro e w' ⟨va, vs, rfl, hO, hb⟩
  have hG : Good (allV acts) := by
    unfold allV
    cases h : actsB acts
    · exact good_no
    · exact good_all h
  obtain ⟨a2, n2, c2, b2, k2, d2, rfl, rfl, hA⟩ := hG.arg hO
  exact ⟨a2, n2, c2, b2, k2, d2, rfl, hA, hb⟩
theorem NoneA_any {w : World} {a : Option Addr} {n c : Nat} {acts : List ByteArray} {e0 e1 e2 : Addr} (E : Errs w e0 e1 e2) (A : StrArg w a n c acts) :
    Calls Tryz.prog 14 #[.slice a n c] w fun e w' => ∃ a2 n2 c2 b2 k2 d2, e = .returned (.tuple #[.agg #[.slice a2 n2 c2, .slice b2 k2 d2], .int .i64 (if actsB acts then 0 else 10)]) ∧ SpecArg w' a2 n2 c2 b2 k2 d2 (noneV acts) ∧ Below w.heap.size w w' := by
  refine (None_any E A).mono ?_
  rintro e w' ⟨va, vs, rfl, hO, hb⟩
  have hG : Good (noneV acts) := by
    unfold noneV
    cases h : actsB acts
    · exact good_no
    · exact good_none h
  obtain ⟨a2, n2, c2, b2, k2, d2, rfl, rfl, hA⟩ := hG.arg hO
  exact ⟨a2, n2, c2, b2, k2, d2, rfl, hA, hb⟩
theorem good_allV (acts : List ByteArray) : Good (allV acts) := by
  unfold allV
  cases h : actsB acts
  · exact good_no
  · exact good_all h
theorem good_noneV (acts : List ByteArray) : Good (noneV acts) := by
  unfold noneV
  cases h : actsB acts
  · exact good_no
  · exact good_none h
/-- names in the call's own memory -/
theorem strsOwn_arg {w : World} {base : Nat} {v : Value} {n : Nat} {ss : List ByteArray} (h : w.ownsRow base 9 1 v n (ss.map Value.string)) (hn : n = ss.length) (hbig : n ≤ 9223372036854775807) (hs : ∀ k, k < n → (at_ ss k).size ≤ 9223372036854775807) :
    ∃ a c, v = .slice a n c ∧ StrArg w a n c ss := by
  rcases h.2 with ⟨rfl, rfl⟩ | ⟨g, cap, cur, rfl, hg, hh, hc, hm, hz, ht⟩
  · exact ⟨none, 0, rfl, ⟨fun _ => rfl, hn, Nat.le_refl _, hbig, hs, fun j hj => by omega⟩⟩
  · refine ⟨some ⟨g, 0, none⟩, cap, rfl, ⟨(fun h => by cases h), hn, hc, hbig, hs, fun j hj => ⟨g, 0, rfl, ?_⟩⟩⟩
    have h9 := h.cells (g := g) rfl j (.string (ss.getD j ByteArray.empty)) (by rw [List.getElem?_map, List.getElem?_eq_getElem hj]; simp [List.getD, hj])
    rw [add_plainly] at h9
    rw [Nat.zero_add]
    rw [Nat.zero_add] at h9
    exact h9
end Go.Proofs.YtbncofgbpffmkaaGreatDoor
