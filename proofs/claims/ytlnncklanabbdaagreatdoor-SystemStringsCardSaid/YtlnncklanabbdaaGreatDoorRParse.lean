/- The reference's Parse. -/
import Derived.Test.YtlnncklanabbdaaGreatDoorREdges
import Derived.Test.YtlnncklanabbdaaGreatDoorIs2
namespace Go.Proofs.YtlnncklanabbdaaGreatDoor
open Go.RowKit Pl

theorem total_most : ∀ ss : List (List Edg), (∀ i, i < ss.length → (stAt ss i).length ≤ 1000000) → total ss ≤ 1000000 * ss.length := by
  intro ss h
  have key : ∀ k, k ≤ ss.length → total (ss.take k) ≤ 1000000 * k := by
    intro k
    induction k with
    | zero => intro _; simp [total]
    | succ k ih =>
      intro hk
      have h1 := total_take ss k (by omega)
      have h2 := ih (by omega)
      have h3 := h k (by omega)
      omega
  have := key ss.length (Nat.le_refl _)
  rwa [List.take_length] at this

set_option maxRecDepth 100000 in
set_option maxHeartbeats 8000000 in
theorem RParse_any (s : ByteArray) (hs : s.size ≤ 9223372036854775807) (w : World) :
    Calls Tryz.prog 21 #[.string s] w fun e w' => ∃ a n c b k d, e = .returned (.tuple #[.agg #[.slice a n c, .slice b k d], .int .i64 (parseS s.data.toList).2]) ∧ SysArg w' a n c b k d (parseS s.data.toList).1 ∧ Below w.heap.size w w' := by
  obtain ⟨i2, hi2, hz20, hz21, hz22⟩ := info_parts infoRow
  have hb1 := (Below.refl w.heap.size w).alloc (Nat.le_refl _) (.cells #[.slice none 0 0, .slice none 0 0] 25)
  by_cases hl : 60000 < s.size
  · have HP := Lib.hid (parseS_large (l := s.data.toList) (by rw [← Lib.size_eq]; exact hl))
    have hl' : (60000 : Int) < s.size := by omega
    go_enter Tryz.func21, Tryz.ntmps21
    go_wp2
    exact bodyPost_ret (v := .tuple #[.agg #[.slice none 0 0, .slice none 0 0], .int .i64 2]) (by simp [results, Tryz.results21, go_sem]) rfl ⟨none, 0, 0, none, 0, 0, by rw [HP.out], by rw [HP.out]; exact sys_nil _, hb1⟩
  · have hl' : (s.size : Int) ≤ 60000 := by omega
    obtain ⟨ls, hl1, hl2, hl3⟩ := parseS_lines (s := s) (by rw [← Lib.size_eq]; exact hl)
    have hRL := RLines_any s (by omega) (w.alloc (.cells #[.slice none 0 0, .slice none 0 0] 25))
    have hu0 : (mk (cut1 s.data.toList)).size ≤ 60000 := by
      rw [mk_size']
      have := cut1_le s.data.toList
      rw [← Lib.size_eq] at this
      omega
    obtain ⟨u, HU⟩ : ∃ u, Hid (mk (cut1 s.data.toList) = u) := ⟨_, Lib.hid rfl⟩
    rw [HU.out] at hRL hl1 hl2 hl3 hu0
    have hN2 := spB_count 10 u
    have hszs : ∀ x ∈ spB 10 u, x.size ≤ 1000000 := fun x hx => Nat.le_trans (spB_size hx) (by omega)
    obtain ⟨ws, HWS⟩ : ∃ ws, Hid (spB 10 u = ws) := ⟨_, Lib.hid rfl⟩
    rw [HWS.out] at hl1 hl2 hl3 hRL hN2 hszs
    have HSz := Lib.hid hszs
    have HL1 := Lib.hid hl1
    have HL2 := Lib.hid hl2
    have HL3 := Lib.hid hl3
    obtain ⟨N, HN⟩ : ∃ N, Hid (ws.length = N) := ⟨_, Lib.hid rfl⟩
    rw [HN.out] at hRL hN2 hl2
    have HL2' := Lib.hid hl2
    have HRL := Lib.hid hRL
    clear hl1 hl2 hl3 hszs hRL
    have hN1 : 0 < N := by have := HL2'.out; omega
    obtain ⟨x0, HX0⟩ : ∃ x, Hid (at_ ws 0 = x) := ⟨_, Lib.hid rfl⟩
    have hx0 : x0.size ≤ 1000000 := by rw [← HX0.out]; exact HSz.out _ (at_in _ _ (by have := HN.out; omega))
    have HB1 := Lib.hid hb1
    have hN0 : (0 : Int) < N := by omega
    clear hb1
    go_enter Tryz.func21, Tryz.ntmps21
    go_wp2_with fail
    refine HRL.out.mono ?_
    rintro e w1 ⟨aw, cw, rfl, hAw, _, hbL⟩
    have hres := (Whole.new w 25 #[.slice none 0 0, .slice none 0 0]).below hbL (by simp)
    have hb2 := HB1.out.trans (hbL.mono (by simp))
    have hz1 : w.heap.size < w1.heap.size := hres.lt
    obtain ⟨bw, ow, rfl, c0⟩ := hAw.cells 0 (by have := HN.out; omega)
    change w1.cell? _ = some (.string (at_ ws 0)) at c0
    rw [HX0.out] at c0
    simp only [Nat.add_zero] at c0
    have HAw := Lib.hid hAw
    have HB2 := Lib.hid hb2
    have HRes := Lib.hid hres
    have HPA := Lib.hid (RActions_any x0 hx0 w1)
    clear hAw hb2 hres hbL
    go_wp2_with fail
    refine HPA.out.mono ?_
    rintro e w2 ⟨hb2, hcase⟩
    have HB12 := Lib.hid hb2
    have hz2 := hb2.size
    have hres2 := HRes.out.below hb2 HRes.out.lt
    have HR2 := Lib.hid hres2
    have r0 := hres2.cell 0
    have r1 := hres2.cell 1
    have f0 := hres2.frozen 0
    have f1 := hres2.frozen 1
    have r4 := hres2.lt
    simp only [List.getElem?_toArray, List.getElem?_cons_succ, List.getElem?_cons_zero] at r0 r1
    have hBw := HB2.out.trans (hb2.mono HB2.out.size)
    have HBw := Lib.hid hBw
    clear hb2 hres2 hBw
    rcases hcase with ⟨hno, an, nn, cn, rfl⟩ | ⟨acts, a, c, hyes, rfl, hAc, hbl⟩
    · have HP : Hid (parseS s.data.toList = (noSys, 11)) := Lib.hid (by rw [HL3.out, HX0.out, hno])
      have g0 := (HR2.out.set 0 (.slice none 0 0)).cell 0
      have g1 := ((HR2.out.set 0 (.slice none 0 0)).set 1 (.slice none 0 0)).cell 1
      simp only [List.setIfInBounds_toArray, List.set_cons_zero, List.set_cons_succ, List.getElem?_toArray, List.getElem?_cons_succ, List.getElem?_cons_zero] at g0 g1
      have HBe := Lib.hid ((HBw.out.setCell (p := ⟨w.heap.size, 0, none⟩) (Nat.le_refl _) (.slice none 0 0)).setCell (p := ⟨w.heap.size, 1, none⟩) (Nat.le_refl _) (.slice none 0 0))
      clear hno
      go_wp2
      exact bodyPost_ret (v := .tuple #[.agg #[.slice none 0 0, .slice none 0 0], .int .i64 11]) (by simp [results, Tryz.results21, go_sem, g0, g1]) rfl ⟨none, 0, 0, none, 0, 0, by rw [HP.out], by rw [HP.out]; exact sys_nil _, HBe.out⟩
    · have hact : actsB acts = true := by
        unfold headO at hyes
        split at hyes
        · cases hyes
        · split at hyes
          · rename_i h3
            cases hyes
            exact h3.2
          · cases hyes
      have hac8 := ((actsB_iff acts).1 hact).1
      have HACT := Lib.hid hact
      have HAc := Lib.hid hAc
      have HBl := Lib.hid hbl
      obtain ⟨a', hcut, hcutA, _⟩ := cut_from HAw.out 1 hN1
      simp only [Int.natCast_one] at hcut
      have HCut := Lib.hid (hcutA.below HB12.out)
      have HP3 : Hid (parseS s.data.toList = match rowsO acts 0 ls with
        | none => (noSys, 11)
        | some ss => if sysB ⟨acts, ss⟩ = true then (⟨acts, ss⟩, 0) else (noSys, 20)) := Lib.hid (by rw [HL3.out, HX0.out, hyes]; rfl)
      have HSt := Lib.hid (SysAcc.start w2 (.slice a acts.length c))
      have hNw : N - 1 = ls.length := by have := HL2'.out; omega
      have HNw := Lib.hid hNw
      clear hyes hact hAc hbl hcutA hNw
      go_wp2
      go_loopw [8, 9, 10, 11, 33] (fun _ _ _ _ i wr => ∃ (x : Nat) (ss : List (List Edg)) (vs : Value), i = .int .i64 x ∧ x ≤ N - 1 ∧ SysAcc w2 (.slice a acts.length c) vs ss wr ∧ Hid (ss.length = x ∧ (∀ k, k < x → rowO acts k (ls.getD k []) = some (stAt ss k)) ∧ ∀ k, k < x → (stAt ss k).length ≤ 1000000)) (fun _ _ _ _ i _ => N - (intOf i).toNat)
      case atStart => exact ⟨0, [], _, rfl, Nat.zero_le _, HSt.out, Lib.hid ⟨rfl, fun k hk => by omega, fun k hk => by omega⟩⟩
      case round =>
        obtain ⟨x, ss, vs, rfl, hx, hacc, hss⟩ := hrel
        have HA := Lib.hid hacc
        obtain ⟨rows, R1, R2, R3⟩ := hacc.rows
        obtain ⟨bb, cc, rfl⟩ := own_slice R2
        have HR2o := Lib.hid R2
        have HR1 := Lib.hid R1
        have hzr := hacc.mid.size
        have o1 := hacc.out.cell 0
        have o2 := hacc.out.cell 1
        have of := hacc.out.frozen 1
        simp only [List.getElem?_toArray, List.getElem?_cons_succ, List.getElem?_cons_zero] at o1 o2
        have hresr := HR2.out.below hacc.mid HR2.out.lt
        have HResr := Lib.hid hresr
        have HBr := Lib.hid (HBw.out.trans (hacc.mono_mid hz2 hz1))
        clear hacc R1 R2 R3 hresr
        by_cases hlt : x < N - 1
        · obtain ⟨bl, ol, rfl, c1⟩ := (HCut.out.below HA.out.mid).cells x (by have := HCut.out.len; omega)
          obtain ⟨L, HLn⟩ : ∃ L, Hid (at_ (ws.drop 1) x = L) := ⟨_, Lib.hid rfl⟩
          change wr.cell? _ = some (.string (at_ (ws.drop 1) x)) at c1
          rw [HLn.out] at c1
          have HLd : Hid (L.data.toList = ls.getD x []) := Lib.hid (by
            rw [← HLn.out, HL1.out]
            unfold at_
            have hx1 : x < ls.length := by have := HNw.out; omega
            rw [List.getD_eq_getElem?_getD, List.getElem?_map, List.getElem?_eq_getElem hx1, List.getD_eq_getElem?_getD, List.getElem?_eq_getElem hx1]
            simp [mk])
          have hLs : L.size ≤ 1000000 := by
            rw [← HLn.out]
            have : at_ (ws.drop 1) x = at_ ws (1 + x) := by simp [at_, List.getD, Nat.add_comm]
            rw [this]
            exact HSz.out _ (at_in _ _ (by have := HN.out; omega))
          have HPS := REdges_any x L (by omega) hLs (HAc.out.below HA.out.mid)
          rw [HLd.out] at HPS
          have HPS := Lib.hid HPS
          go_wp2_with fail
          refine HPS.out.mono ?_
          rintro e wA ⟨hbA, hcase⟩
          have HbA := Lib.hid hbA
          rcases hcase with ⟨hno, rfl⟩ | ⟨es, v, hyes, rfl, hEo, hel⟩
          · have HP : Hid (parseS s.data.toList = (noSys, 11)) := Lib.hid (by
              rw [HP3.out, rowsO_bad ls 0 x (by have := HNw.out; omega) (by rw [Nat.zero_add]; exact hno)])
            have hrA := HResr.out.below hbA HResr.out.lt
            have hbT := HBr.out.trans (hbA.mono HBr.out.size)
            clear hbA hno
            have q0 := hrA.cell 0
            have q1 := hrA.cell 1
            have q2 := hrA.frozen 0
            have q3 := hrA.frozen 1
            have q4 := hrA.lt
            have g0 := (hrA.set 0 (.slice none 0 0)).cell 0
            have g1 := ((hrA.set 0 (.slice none 0 0)).set 1 (.slice none 0 0)).cell 1
            simp only [List.setIfInBounds_toArray, List.set_cons_zero, List.set_cons_succ, List.getElem?_toArray, List.getElem?_cons_succ, List.getElem?_cons_zero] at q0 q1 g0 g1
            have HBe := Lib.hid ((hbT.setCell (p := ⟨w.heap.size, 0, none⟩) (Nat.le_refl _) (.slice none 0 0)).setCell (p := ⟨w.heap.size, 1, none⟩) (Nat.le_refl _) (.slice none 0 0))
            go_wp2
            exact bodyPost_ret (v := .tuple #[.agg #[.slice none 0 0, .slice none 0 0], .int .i64 11]) (by simp [results, Tryz.results21, go_sem, g0, g1]) rfl ⟨none, 0, 0, none, 0, 0, by rw [HP.out], by rw [HP.out]; exact sys_nil _, HBe.out⟩
          · obtain ⟨va, vc, rfl⟩ := own_slice' hEo
            have HEo : Hid (EdgeOwn wA w2.heap.size (.slice va es.length vc) es) := Lib.hid (own_low hEo hzr)
            have o2A := up_cell hbA o2
            have hAA := (HA.out.below hbA).below ((Below.refl _ wA).alloc (Nat.le_refl _) (.cells #[.slice va es.length vc] 77))
            have HAA := Lib.hid hAA
            have HOW := Lib.hid ((own_up' HR2o.out hbA).alloc (.cells #[.slice va es.length vc] 77))
            have hzA := hbA.size
            have hssl : ss.length ≤ 1000000 := by have := hss.out.1; omega
            have HG : Hid ((ss ++ [es]).length = x + 1 ∧ (∀ k, k < x + 1 → rowO acts k (ls.getD k []) = some (stAt (ss ++ [es]) k)) ∧ ∀ k, k < x + 1 → (stAt (ss ++ [es]) k).length ≤ 1000000) := Lib.hid (by
              obtain ⟨h1, h2, h3⟩ := hss.out
              refine ⟨by simp [h1], fun k hk => ?_, fun k hk => ?_⟩
              · by_cases e : k = x
                · subst e
                  rw [← h1, stAt_snoc, h1]; exact hyes
                · rw [stAt_app _ _ _ (by omega)]; exact h2 k (by omega)
              · by_cases e : k = x
                · subst e
                  rw [← h1, stAt_snoc]; exact hel
                · rw [stAt_app _ _ _ (by omega)]; exact h3 k (by omega))
            clear hbA hEo hAA hyes
            go_wp2_with (at_builtin; (refine wpList_append_sz rfl (.tmp 49) (.tmp 51) 23 rfl w2.heap.size 77 i2 (.slice none 0 0) 1 24 Tryz.underlying23 hi2 hz20 hz21 hz22 rfl (by decide) (.slice bb ss.length cc) rfl ss.length rows HOW.out (some ⟨wA.heap.size, 0, none⟩) 1 1 rfl [.slice va es.length vc] (fun h => by cases h) rfl (one_src _ _ _) (by simp [Value.oneCell']) (by unfold maxLen; omega) (by omega) (by simp; omega) ?_); intro v2 wB hB hgB hatB; refine Hid.out ?_)
            refine Lib.hid ?_
            obtain ⟨vb, vd, rfl⟩ := own_slice' hB
            have kw := HAA.out.grown hgB
            have k1 := kw.cell 1
            have k2 := kw.frozen 1
            simp only [List.getElem?_toArray, List.getElem?_cons_succ, List.getElem?_cons_zero] at k1
            have HNx := Lib.hid (HAA.out.next (v2 := .slice vb (ss.length + 1) vd) (HEo.out.alloc _) hgB (fun rows' e1 e2 => by
              rw [own_eq e1 HOW.out]; exact hB))
            clear hB hgB hatB kw
            go_wp2
            go_roundw
            case rel => exact ⟨x + 1, ss ++ [es], _, by go_num, by omega, HNx.out, HG⟩
            case measure => simp [intOf]; omega
        · have hx1 : x = ls.length := by have := HNw.out; omega
          have hssl : ss.length ≤ 1000000 := by have := hss.out.1; omega
          have HRow : Hid (rowsO acts 0 ls = some ss) := Lib.hid (rowsO_good ls 0 ss (by rw [hss.out.1]; exact hx1) (fun k hk => by rw [Nat.zero_add]; exact hss.out.2.1 k (by omega)))
          have hst : ∀ i, i < ss.length → (stAt ss i).length ≤ 140737488355328 := fun i hi => Nat.le_trans (hss.out.2.2 i (by rw [← hss.out.1]; exact hi)) (by decide)
          have HST := Lib.hid hst
          obtain ⟨b', d', e, hd, hnil, hrows⟩ := HA.out.rows.arg hst
          cases e
          have hAg : SysArg wr a acts.length c bb ss.length cc ⟨acts, ss⟩ := ⟨HAc.out.below HA.out.mid, by omega, hnil, rfl, hd, by omega, hrows⟩
          have HCk := Lib.hid (RIs_any hAg (Nat.le_trans (total_most ss (fun i hi => hss.out.2.2 i (by rw [← hss.out.1]; exact hi))) (by omega)))
          have hbl : ∀ ad, a = some ad → ad.block ≠ w.heap.size := fun ad e => by have := HBl.out ad e; omega
          have HBL := Lib.hid hbl
          clear hAg hd hnil hrows hst hbl
          go_wp2_with fail
          refine HCk.out.mono ?_
          rintro e wC ⟨rfl, hbC⟩
          have HbC := Lib.hid hbC
          have hzC := hbC.size
          have hrC := HResr.out.below hbC HResr.out.lt
          have hbT := HBr.out.trans (hbC.mono HBr.out.size)
          have HArg := Lib.hid ((HA.out.below hbC).rows)
          have HStr := Lib.hid ((HAc.out.below HA.out.mid).below hbC)
          have o1C := up_cell hbC o1
          have o2C := up_cell hbC o2
          clear hbC
          have q0 := hrC.cell 0
          have q1 := hrC.cell 1
          have q2 := hrC.frozen 0
          have q3 := hrC.frozen 1
          have q4 := hrC.lt
          have HrC := Lib.hid hrC
          by_cases hck : sysB ⟨acts, ss⟩ = true
          · have HP : Hid (parseS s.data.toList = (⟨acts, ss⟩, 0)) := Lib.hid (by rw [HP3.out, HRow.out]; exact if_pos hck)
            rw [hck]
            have g0 := (hrC.set 0 (.slice a acts.length c)).cell 0
            have g1 := ((hrC.set 0 (.slice a acts.length c)).set 1 (.slice bb ss.length cc)).cell 1
            simp only [List.setIfInBounds_toArray, List.set_cons_zero, List.set_cons_succ, List.getElem?_toArray, List.getElem?_cons_succ, List.getElem?_cons_zero] at q0 q1 g0 g1
            have HBe := Lib.hid ((hbT.setCell (p := ⟨w.heap.size, 0, none⟩) (Nat.le_refl _) (.slice a acts.length c)).setCell (p := ⟨w.heap.size, 1, none⟩) (Nat.le_refl _) (.slice bb ss.length cc))
            have HFin : Hid (SysArg ((wC.setCell ⟨w.heap.size, 0, none⟩ (.slice a acts.length c)).setCell ⟨w.heap.size, 1, none⟩ (.slice bb ss.length cc)) a acts.length c bb ss.length cc ⟨acts, ss⟩) := Lib.hid (by
              obtain ⟨b', d', e, hd, hnil, hrows⟩ := (rows_stored (u := .slice a acts.length c) (v := .slice bb ss.length cc) HArg.out hrC).arg HST.out
              cases e
              exact ⟨strs_stored HStr.out HBL.out, by omega, hnil, rfl, hd, by omega, hrows⟩)
            clear hrC hbT
            go_wp2
            exact bodyPost_ret (v := .tuple #[.agg #[.slice a acts.length c, .slice bb ss.length cc], .int .i64 0]) (by simp [results, Tryz.results21, go_sem, g0, g1]) rfl ⟨a, acts.length, c, bb, ss.length, cc, by rw [HP.out], by rw [HP.out]; exact HFin.out, HBe.out⟩
          · have HP : Hid (parseS s.data.toList = (noSys, 20)) := Lib.hid (by rw [HP3.out, HRow.out]; exact if_neg hck)
            rw [show sysB ⟨acts, ss⟩ = false by simpa using hck]
            have g0 := (hrC.set 0 (.slice none 0 0)).cell 0
            have g1 := ((hrC.set 0 (.slice none 0 0)).set 1 (.slice none 0 0)).cell 1
            simp only [List.setIfInBounds_toArray, List.set_cons_zero, List.set_cons_succ, List.getElem?_toArray, List.getElem?_cons_succ, List.getElem?_cons_zero] at q0 q1 g0 g1
            have HBe := Lib.hid ((hbT.setCell (p := ⟨w.heap.size, 0, none⟩) (Nat.le_refl _) (.slice none 0 0)).setCell (p := ⟨w.heap.size, 1, none⟩) (Nat.le_refl _) (.slice none 0 0))
            clear hrC hbT
            go_wp2
            exact bodyPost_ret (v := .tuple #[.agg #[.slice none 0 0, .slice none 0 0], .int .i64 20]) (by simp [results, Tryz.results21, go_sem, g0, g1]) rfl ⟨none, 0, 0, none, 0, 0, by rw [HP.out], by rw [HP.out]; exact sys_nil _, HBe.out⟩
end Go.Proofs.YtlnncklanabbdaaGreatDoor
