/- Texts joined: PText, SParse, Offer. -/
import Derived.Test.YtgnbkepdbdgkdaaGreatDoorJq07
import Derived.Deep.RegionHeld3
import Derived.Lib.QuietBelow
/- terms.ParseText, as system.Parse calls it. -/
namespace Go.Proofs.YtgnbkepdbdgkdaaGreatDoor
open Go.RowKit Pl

theorem RowsOwn.low {w : World} {base base' : Nat} {v : Value} {ss : List (List Edg)} (h : RowsOwn w base v ss) (hb : base' ≤ base) : RowsOwn w base' v ss := by
  obtain ⟨rows, r1, r2, r3⟩ := h
  refine ⟨rows, r1, own_low r2 hb, fun i hi => ?_⟩
  obtain ⟨r, h1, h2⟩ := r3 i hi
  exact ⟨r, h1, own_low h2 hb⟩

set_option maxRecDepth 100000 in
set_option maxHeartbeats 8000000 in
theorem PText_any (kw s : ByteArray) (hs : s.size ≤ 9223372036854775807) (w : World) (E : Env w) :
    Calls Tryz.prog 88 #[.string kw, .string s, .func (.func 89) #[] #[]] w fun e w' => Below w.heap.size w w' ∧
      ((∃ c : Int, c ≠ 0 ∧ textK kw.data.toList edgesO s.data.toList = ([], [], c) ∧ e = .returned (.tuple #[.slice none 0 0, .slice none 0 0, .int .i64 c])) ∨
        ∃ acts ss a c vs, textK kw.data.toList edgesO s.data.toList = (acts, ss, 0) ∧ e = .returned (.tuple #[.slice a acts.length c, vs, .int .i64 0]) ∧ StrArg w' a acts.length c acts ∧ (∀ ad, a = some ad → w.heap.size ≤ ad.block) ∧
          RowsOwn w' w.heap.size vs ss ∧ (∀ i, i < ss.length → (stAt ss i).length ≤ 1000000) ∧ ss.length ≤ 1000000 ∧ actsB acts = true) := by
  obtain ⟨i2, hi2, hz20, hz21, hz22⟩ := info_parts infoRow
  have HE := Lib.hid E
  clear E
  by_cases hl : 60000 < s.size
  · have HP := Lib.hid (textK_large (kw := kw.data.toList) (rp := edgesO) (l := s.data.toList) (by rw [← Lib.size_eq]; exact hl))
    have hl' : (60000 : Int) < s.size := by omega
    go_enter Tryz.func88, Tryz.ntmps88
    go_wp2
    go_ret3
    exact ⟨Below.refl _ _, .inl ⟨2, by omega, HP.out, rfl⟩⟩
  · have hl' : (s.size : Int) ≤ 60000 := by omega
    obtain ⟨ls, hl1, hl2, hl3⟩ := textK_lines kw.data.toList edgesO (s := s) (by rw [← Lib.size_eq]; exact hl)
    have HTr := Lib.hid (trim_any s (by omega) w)
    have hu0 : (mk (cut1 s.data.toList)).size ≤ 60000 := by
      rw [mk_size']
      have := cut1_le s.data.toList
      rw [← Lib.size_eq] at this
      omega
    obtain ⟨u, HU⟩ : ∃ u, Hid (mk (cut1 s.data.toList) = u) := ⟨_, Lib.hid rfl⟩
    rw [HU.out] at HTr hl1 hl2 hl3 hu0
    have HSp := split_any 10 u (by omega) w HE.out
    have hN2 := spB_count 10 u
    have hszs : ∀ x ∈ spB 10 u, x.size ≤ 1000000 := fun x hx => Nat.le_trans (spB_size hx) (by omega)
    obtain ⟨ws, HWS⟩ : ∃ ws, Hid (spB 10 u = ws) := ⟨_, Lib.hid rfl⟩
    rw [HWS.out] at hl1 hl2 hl3 HSp hN2 hszs
    have HSz := Lib.hid hszs
    have HL1 := Lib.hid hl1
    have HL3 := Lib.hid hl3
    obtain ⟨N, HN⟩ : ∃ N, Hid (ws.length = N) := ⟨_, Lib.hid rfl⟩
    rw [HN.out] at HSp hN2 hl2
    have HL2' := Lib.hid hl2
    have HSp := Lib.hid HSp
    have hN1 : 0 < N := by omega
    clear hl1 hl2 hl3 hszs
    have hAw := strs_new w ws (by have := HN.out; omega) (fun x hx => Nat.le_trans (HSz.out x hx) (by omega))
    rw [HN.out] at hAw
    have hb1 := (Below.refl w.heap.size w).alloc (Nat.le_refl _) (.cells (ws.map Value.string).toArray 9)
    have hz1 : w.heap.size < (w.alloc (.cells (ws.map Value.string).toArray 9)).heap.size := by simp
    obtain ⟨w1, HW1⟩ : ∃ z, Hid (w.alloc (.cells (ws.map Value.string).toArray 9) = z) := ⟨_, Lib.hid rfl⟩
    rw [HW1.out] at hAw hb1 hz1
    have HAw := Lib.hid hAw
    have HB1 := Lib.hid hb1
    obtain ⟨x0, HX0⟩ : ∃ x, Hid (at_ ws 0 = x) := ⟨_, Lib.hid rfl⟩
    have c0 : w1.cell? ⟨w.heap.size, 0, none⟩ = some (.string x0) := by
      obtain ⟨b, off, e, hc⟩ := hAw.cells 0 (by have := HN.out; omega)
      cases e
      rw [← HX0.out]
      change w1.cell? _ = some (.string (at_ ws 0)) at hc
      simpa using hc
    have hx0 : x0.size ≤ 1000000 := by rw [← HX0.out]; exact HSz.out _ (at_in _ _ (by have := HN.out; omega))
    have HCl := Lib.hid (clone_any x0 hx0 w1)
    have hN0 : (0 : Int) < N := by omega
    -- the words of the first line
    have HP := Lib.hid (headK_eq kw x0)
    have hM1 := spB_pos 32 x0
    have hM2 := spB_count 32 x0
    have HSpl := fun (W : World) (hb : Below w1.heap.size w1 W) => split_any 32 x0 hx0 W ((HE.out.below HB1.out).below hb)
    have hMsz : ∀ x ∈ spB 32 x0, x.size ≤ 9223372036854775807 := fun x hx => Nat.le_trans (spB_size hx) (by omega)
    obtain ⟨hd, HHD⟩ : ∃ hd, Hid (spB 32 x0 = hd) := ⟨_, Lib.hid rfl⟩
    rw [HHD.out] at HP hM1 hM2 HSpl hMsz
    have HSpl := Lib.hid HSpl
    have HMsz := Lib.hid hMsz
    obtain ⟨M, HM⟩ : ∃ M, Hid (hd.length = M) := ⟨_, Lib.hid rfl⟩
    rw [HM.out] at hM1 hM2 HSpl
    have hM0 : (0 : Int) < M := by omega
    clear hAw hb1 hMsz
    go_enter Tryz.func88, Tryz.ntmps88
    go_wp2_with fail
    refine HTr.out.mono ?_
    rintro e w' ⟨rfl, rfl⟩
    go_wp2_with fail
    refine HSp.out.mono ?_
    rintro e w' ⟨rfl, rfl⟩
    rw [HW1.out]
    go_wp2_with fail
    refine HCl.out.mono ?_
    rintro e w2 ⟨rfl, hb2⟩
    have HB12 := Lib.hid hb2
    have hz2 := hb2.size
    clear hb2
    go_wp2_with fail
    refine (HSpl.out w2 HB12.out).mono ?_
    rintro e w' ⟨rfl, rfl⟩
    have hAh := strs_new w2 hd (by have := HM.out; omega) HMsz.out
    rw [HM.out] at hAh
    have hb3 := (Below.refl w2.heap.size w2).alloc (Nat.le_refl _) (.cells (hd.map Value.string).toArray 9)
    obtain ⟨w3, HW3⟩ : ∃ z, Hid (w2.alloc (.cells (hd.map Value.string).toArray 9) = z) := ⟨_, Lib.hid rfl⟩
    rw [HW3.out] at hAh hb3
    rw [HW3.out]
    have hz3 := hb3.size
    have HB3 := Lib.hid (HB1.out.trans ((HB12.out.trans (hb3.mono hz2)).mono (Nat.le_of_lt hz1)))
    have HB13 := Lib.hid (HB12.out.trans (hb3.mono hz2))
    obtain ⟨ah, hcut, hcutA, hbl⟩ := cut_from hAh 1 hM1
    simp only [Int.natCast_one] at hcut
    have HBL : Hid (∀ ad, ah = some ad → w.heap.size ≤ ad.block) := Lib.hid fun ad e => by
      obtain ⟨ad0, h1, h2⟩ := hbl ad e
      cases h1
      rw [h2]
      simp only
      omega
    obtain ⟨e0, e1, e2, hEr⟩ := (HE.out.below HB3.out).errs
    have HCk := Lib.hid (Check_any hEr hcutA)
    obtain ⟨y0, HY0⟩ : ∃ x, Hid (at_ hd 0 = x) := ⟨_, Lib.hid rfl⟩
    have c3 : w3.cell? ⟨w2.heap.size, 0, none⟩ = some (.string y0) := by
      obtain ⟨b, off, e, hc⟩ := hAh.cells 0 (by have := HM.out; omega)
      cases e
      rw [← HY0.out]
      change w3.cell? _ = some (.string (at_ hd 0)) at hc
      simpa using hc
    rw [HY0.out] at HP
    obtain ⟨acts, hacts⟩ : ∃ z, z = hd.drop 1 := ⟨_, rfl⟩
    have hl : M - 1 = acts.length := by rw [hacts, List.length_drop, HM.out]
    have HLn := Lib.hid hl
    rw [← hacts] at HP HCk hcutA
    have HAc := Lib.hid hcutA
    have HE3 := Lib.hid (HE.out.below HB3.out)
    clear hAh hbl hacts hl hcutA hEr hb3
    by_cases hx : y0 = kw
    · have hq : (y0.toList == kw.toList) = true := by rw [bytes_eq]; exact decide_eq_true hx
      cases ha : actsB acts
      · have HPf : Hid (textK kw.data.toList edgesO s.data.toList = ([], [], 11)) := Lib.hid (by rw [HL3.out, HX0.out, HP.out, ha, if_neg (by simp)])
        rw [ha] at HCk
        clear hx ha
        go_wp2_with fail
        refine HCk.out.mono ?_
        rintro e w' ⟨rfl, rfl⟩
        go_wp2
        go_ret3
        exact ⟨HB3.out, .inl ⟨11, by omega, HPf.out, rfl⟩⟩
      · have hac8 := ((actsB_iff acts).1 ha).1
        have HACT := Lib.hid ha
        have HP3 : Hid (textK kw.data.toList edgesO s.data.toList = match rowsK edgesO acts 0 ls with
          | none => ([], [], 11)
          | some ss => (acts, ss, 0)) := Lib.hid (by rw [HL3.out, HX0.out, HP.out, if_pos ⟨hx, ha⟩]; simp only []; cases rowsK edgesO acts 0 ls <;> rfl)
        rw [ha] at HCk
        obtain ⟨al, hcutL, hcutLA, _⟩ := cut_from HAw.out 1 hN1
        simp only [Int.natCast_one] at hcutL
        have HLi := Lib.hid (hcutLA.below HB13.out)
        have hNw : N - 1 = ls.length := by have := HL2'.out; omega
        have HNw := Lib.hid hNw
        clear hx ha hcutLA hNw
        go_wp2_with fail
        refine HCk.out.mono ?_
        rintro e w' ⟨rfl, rfl⟩
        go_wp2
        go_loopw [12, 13, 14, 15, 16, 17, 44] (fun v _ _ _ _ _ i wr => ∃ (x : Nat) (ss : List (List Edg)), i = .int .i64 x ∧ x ≤ N - 1 ∧ RowsOwn wr w3.heap.size v ss ∧ Below w3.heap.size w3 wr ∧ Hid (ss.length = x ∧ (∀ k, k < x → ∃ r, ss[k]? = some r ∧ rowK edgesO acts (0 + k) (ls.getD k []) = some r) ∧ ∀ k, k < x → (stAt ss k).length ≤ 1000000)) (fun _ _ _ _ _ _ i _ => N - (intOf i).toNat)
        case atStart => exact ⟨0, [], rfl, Nat.zero_le _, RowsOwn.none _ _, Below.refl _ _, Lib.hid ⟨rfl, fun k hk => by omega, fun k hk => by omega⟩⟩
        case round =>
          obtain ⟨x, ss, rfl, hx, hrows, hb, hss⟩ := hrel
          have HR := Lib.hid hrows
          have HB := Lib.hid hb
          have hzr := hb.size
          clear hrows hb
          by_cases hlt : x < N - 1
          · obtain ⟨bl, ol, rfl, c1⟩ := (HLi.out.below HB.out).cells x (by rw [List.length_drop]; have := HN.out; omega)
            obtain ⟨L, HLe⟩ : ∃ L, Hid (at_ (ws.drop 1) x = L) := ⟨_, Lib.hid rfl⟩
            change wr.cell? _ = some (.string (at_ (ws.drop 1) x)) at c1
            rw [HLe.out] at c1
            have HLd : Hid (L.data.toList = ls.getD x []) := Lib.hid (by
              rw [← HLe.out, HL1.out]
              unfold at_
              have hx1 : x < ls.length := by have := HNw.out; omega
              rw [List.getD_eq_getElem?_getD, List.getElem?_map, List.getElem?_eq_getElem hx1, List.getD_eq_getElem?_getD, List.getElem?_eq_getElem hx1]
              simp [mk])
            have hLs : L.size ≤ 1000000 := by
              rw [← HLe.out]
              have : at_ (ws.drop 1) x = at_ ws (1 + x) := by simp [at_, List.getD, Nat.add_comm]
              rw [this]
              exact HSz.out _ (at_in _ _ (by have := HN.out; omega))
            have HEr := Lib.hid (HE3.out.below HB.out)
            obtain ⟨r, hr1, hr2, hr3, hr4⟩ := rowK_eq edgesO acts x L
            rw [HLd.out] at hr4
            have HSpr := split_any 32 L hLs wr HEr.out
            have hK2 := spB_count 32 L
            have hKsz : ∀ y ∈ spB 32 L, y.size ≤ 9223372036854775807 := fun y hy => Nat.le_trans (spB_size hy) (by omega)
            obtain ⟨wd, HWD⟩ : ∃ wd, Hid (spB 32 L = wd) := ⟨_, Lib.hid rfl⟩
            rw [HWD.out] at hr1 hr2 hr4 HSpr hK2 hKsz
            obtain ⟨K, HK⟩ : ∃ K, Hid (wd.length = K) := ⟨_, Lib.hid rfl⟩
            rw [HK.out] at hr2 HSpr hK2
            have HSpr := Lib.hid HSpr
            have hK1 : 0 < K := by omega
            have hK0 : (0 : Int) < K := by omega
            have hAd := strs_new wr wd (by have := HK.out; omega) hKsz
            rw [HK.out] at hAd
            have hbs := (Below.refl wr.heap.size wr).alloc (Nat.le_refl _) (.cells (wd.map Value.string).toArray 9)
            obtain ⟨wS, HWS'⟩ : ∃ z, Hid (wr.alloc (.cells (wd.map Value.string).toArray 9) = z) := ⟨_, Lib.hid rfl⟩
            rw [HWS'.out] at hAd hbs
            obtain ⟨ad, hcutD, hcutDA, _⟩ := cut_from hAd 1 hK1
            simp only [Int.natCast_one] at hcutD
            rw [hr1] at hcutDA
            obtain ⟨z0, HZ0⟩ : ∃ z, Hid (at_ wd 0 = z) := ⟨_, Lib.hid rfl⟩
            have cd : wS.cell? ⟨wr.heap.size, 0, none⟩ = some (.string z0) := by
              obtain ⟨b, off, e, hc⟩ := hAd.cells 0 (by have := HK.out; omega)
              cases e
              rw [← HZ0.out]
              change wS.cell? _ = some (.string (at_ wd 0)) at hc
              simpa using hc
            rw [HZ0.out] at hr4
            have HR4 := Lib.hid hr4
            have hzS := hbs.size
            have HBS := Lib.hid (HB.out.trans (hbs.mono hzr))
            have HPS := Lib.hid (parseState_any (r := r) (HE3.out.below HBS.out) (HAc.out.below HBS.out) hcutDA HACT.out (by omega) (fun y hy => by have := hr3 y hy; omega))
            have HRS := Lib.hid (HR.out.below hbs)
            clear hr1 hr2 hr3 hr4 hKsz hAd hbs hcutDA
            go_wp2_with fail
            refine HSpr.out.mono ?_
            rintro e w' ⟨rfl, rfl⟩
            rw [HWS'.out]
            go_wp2_with fail
            refine HPS.out.mono ?_
            rintro e wA ⟨hbA, hcase⟩
            have HbA := Lib.hid hbA
            have hzA := hbA.size
            have cA := up_cell hbA cd
            have HBA := Lib.hid (HBS.out.trans (hbA.mono HBS.out.size))
            clear hbA
            rcases hcase with ⟨hno, rfl⟩ | ⟨es, v, hyes, rfl, hEo, hel⟩
            · have HPf : Hid (textK kw.data.toList edgesO s.data.toList = ([], [], 11)) := Lib.hid (by
                rw [HP3.out, rowsK_bad ls 0 x (by have := HNw.out; omega) (by rw [Nat.zero_add, HR4.out, hno]; split <;> rfl)])
              clear hno
              go_wp2
              refine wp_region_quiet_below (by kernel_rfl) (by kernel_rfl) ?_
              repeat (go_big_quiet_step (fail))
              refine wpQuiet_nil ?_
              intro _ hw'
              obtain ⟨⟨dq, osq⟩, hw''⟩ := hw'
              subst hw''
              have hq1 := below_regrown wA dq osq
              go_wp2
              go_ret3
              exact ⟨HB3.out.trans ((HBA.out.trans (hq1.mono HBA.out.size)).mono HB3.out.size), .inl ⟨11, by omega, HPf.out, rfl⟩⟩
            · obtain ⟨va, vc, rfl⟩ := own_slice' hEo
              have HI := fun (W : World) (hb : Below wA.heap.size wA W) => itoa_any x (by omega) W ((HE3.out.below HBA.out).below hb)
              obtain ⟨D, HD⟩ : ∃ D, Hid (mk (Lib.decDigits x) = D) := ⟨_, Lib.hid rfl⟩
              rw [HD.out] at HI
              have HI := Lib.hid HI
              have hD : D.size ≤ 21 := by rw [← HD.out, mk_size']; exact dec_length x (by omega)
              have hcol : (⟨#[58]⟩ : ByteArray).size = 1 := rfl
              have HR5 : Hid (rowK edgesO acts x (ls.getD x []) = if z0 = D ++ (⟨#[58]⟩ : ByteArray) then some es else none) := Lib.hid (by
                rw [HR4.out, hyes, ← HD.out, show (⟨#[58]⟩ : ByteArray) = mk [58] from rfl, mk_add])
              have HEo := Lib.hid hEo
              have hadd1 : ¬ 9223372036854775807 < D.size + 1 := by omega
              have hadd2 : ¬ 9223372036854775807 < D.size + (⟨#[58]⟩ : ByteArray).size := by omega
              clear hyes hEo
              by_cases hx : z0 = D ++ (⟨#[58]⟩ : ByteArray)
              · have hq : (z0.toList == (D ++ (⟨#[58]⟩ : ByteArray)).toList) = true := by rw [bytes_eq]; exact decide_eq_true hx
                have HR6 : Hid (rowK edgesO acts x (ls.getD x []) = some es) := Lib.hid (by rw [HR5.out, if_pos hx])
                clear hx
                go_wp2
                go_region_held3 (fun w' => w'.cell? ⟨wr.heap.size, 0, none⟩ = some (.string z0))
                  ((first | assumption | go_keep))
                  (first | (go_at_call 83; refine (HI.out _ (by first | exact (Below.refl _ _).drew | exact Below.refl _ _)).mono ?_; rintro e wI ⟨rfl, hbI⟩; have kI := up_cell hbI cA))
                have hbI' : Below wA.heap.size wA wI := by first | exact (Below.refl _ wA).drew.trans hbI | exact hbI
                have hzI := hbI'.size
                have HBI := Lib.hid (HBA.out.trans (hbI'.mono HBA.out.size))
                have hRI := (HRS.out.below HbA.out).below hbI'
                have hEI : EdgeOwn wI w3.heap.size (.slice va es.length vc) es := own_low (own_up' HEo.out hbI') HBS.out.size
                obtain ⟨rows, r1, r2, r3⟩ := hRI
                obtain ⟨bb, cc, rfl⟩ := own_slice' r2
                have HOW := Lib.hid (r2.alloc (.cells #[.slice va es.length vc] 77))
                have HRI : Hid (RowsOwn (wI.alloc (.cells #[.slice va es.length vc] 77)) w3.heap.size (.slice bb ss.length cc) ss) := Lib.hid ((RowsOwn.alloc ⟨rows, r1, r2, r3⟩ _))
                have HEI := Lib.hid (EdgeOwn.alloc hEI (.cells #[.slice va es.length vc] 77))
                have hssl : ss.length ≤ 1000000 := by have := hss.out.1; omega
                have HG : Hid ((ss ++ [es]).length = x + 1 ∧ (∀ k, k < x + 1 → ∃ r, (ss ++ [es])[k]? = some r ∧ rowK edgesO acts (0 + k) (ls.getD k []) = some r) ∧ ∀ k, k < x + 1 → (stAt (ss ++ [es]) k).length ≤ 1000000) := Lib.hid (by
                  obtain ⟨h1, h2, h3⟩ := hss.out
                  refine ⟨by simp [h1], fun k hk => ?_, fun k hk => ?_⟩
                  · by_cases e : k = x
                    · subst e
                      exact ⟨es, by rw [← h1]; simp, by rw [Nat.zero_add]; exact HR6.out⟩
                    · obtain ⟨r', g1, g2⟩ := h2 k (by omega)
                      exact ⟨r', by rw [List.getElem?_append_left (by omega)]; exact g1, g2⟩
                  · by_cases e : k = x
                    · subst e
                      rw [← h1, stAt_snoc]; exact hel
                    · rw [stAt_app _ _ _ (by omega)]; exact h3 k (by omega))
                clear kI hbI hbI' hEI r1 r2 r3
                go_wp2_with (at_builtin; (refine wpList_append_sz rfl (.tmp 70) (.tmp 72) 23 rfl w3.heap.size 77 i2 (.slice none 0 0) 1 24 Tryz.underlying23 hi2 hz20 hz21 hz22 rfl (by decide) (.slice bb ss.length cc) rfl ss.length rows HOW.out (some ⟨wI.heap.size, 0, none⟩) 1 1 rfl [.slice va es.length vc] (fun h => by cases h) rfl (one_src _ _ _) (by simp [Value.oneCell']) (by unfold maxLen; omega) (by omega) (by have := HBI.out.size; simp; omega) ?_); intro v2 wB hB hgB hatB; refine Hid.out ?_)
                refine Lib.hid ?_
                obtain ⟨vb, vd, rfl⟩ := own_slice' hB
                have HRn := Lib.hid (HRI.out.snoc (v' := .slice vb (ss.length + 1) vd) HEI.out hgB (fun rows' e1 e2 => by
                  rw [own_eq e1 HOW.out]; exact hB))
                have HBn := Lib.hid ((HBI.out.alloc HBI.out.size (.cells #[.slice va es.length vc] 77)).grown hgB (by have := HBI.out.size; simp; omega) (own_ge HOW.out))
                clear hB hgB hatB
                go_wp2
                go_roundw
                case rel => exact ⟨x + 1, ss ++ [es], by go_num, by omega, HRn.out, HBn.out, HG⟩
                case measure => simp [intOf]; omega
              · have hq : (z0.toList == (D ++ (⟨#[58]⟩ : ByteArray)).toList) = false := by rw [bytes_eq]; exact decide_eq_false hx
                have HPf : Hid (textK kw.data.toList edgesO s.data.toList = ([], [], 11)) := Lib.hid (by
                  rw [HP3.out, rowsK_bad ls 0 x (by have := HNw.out; omega) (by rw [Nat.zero_add, HR5.out, if_neg hx])])
                clear hx
                go_wp2
                go_region_held3 (fun w' => w'.cell? ⟨wr.heap.size, 0, none⟩ = some (.string z0))
                  ((first | assumption | go_keep))
                  (first | (go_at_call 83; refine (HI.out _ (by first | exact (Below.refl _ _).drew | exact Below.refl _ _)).mono ?_; rintro e wI ⟨rfl, hbI⟩; have kI := up_cell hbI cA))
                have hbI' : Below wA.heap.size wA wI := by first | exact (Below.refl _ wA).drew.trans hbI | exact hbI
                have HBI := Lib.hid (HBA.out.trans (hbI'.mono HBA.out.size))
                clear kI hbI hbI'
                go_wp2
                go_ret3
                exact ⟨HB3.out.trans (HBI.out.mono HB3.out.size), .inl ⟨11, by omega, HPf.out, rfl⟩⟩
          · have hx1 : x = ls.length := by have := HNw.out; omega
            have HRow : Hid (rowsK edgesO acts 0 ls = some ss) := Lib.hid (rowsK_good ls 0 ss (by rw [hss.out.1]; exact hx1) (fun k hk => hss.out.2.1 k (by omega)))
            have HPf : Hid (textK kw.data.toList edgesO s.data.toList = (acts, ss, 0)) := Lib.hid (by rw [HP3.out, HRow.out])
            have hssl : ss.length ≤ 1000000 := by have := hss.out.1; omega
            obtain ⟨rows, r1, r2, r3⟩ := HR.out
            obtain ⟨bb, cc, rfl⟩ := own_slice' r2
            clear r1 r2 r3
            go_wp2
            go_ret3
            exact ⟨HB3.out.trans (HB.out.mono HB3.out.size), .inr ⟨acts, ss, ah, M - 1, _, HPf.out, by rw [HLn.out]; rfl, by have := HAc.out.below HB.out; rw [HLn.out] at this ⊢; exact this, HBL.out, HR.out.low HB3.out.size, fun i hi => hss.out.2.2 i (by rw [← hss.out.1]; exact hi), hssl, HACT.out⟩⟩
    · have hq : (y0.toList == kw.toList) = false := by rw [bytes_eq]; exact decide_eq_false hx
      have HPf : Hid (textK kw.data.toList edgesO s.data.toList = ([], [], 11)) := Lib.hid (by rw [HL3.out, HX0.out, HP.out, if_neg (fun h => hx h.1)])
      clear hx
      go_wp2
      go_ret3
      exact ⟨HB3.out, .inl ⟨11, by omega, HPf.out, rfl⟩⟩
end Go.Proofs.YtgnbkepdbdgkdaaGreatDoor
/- system.Parse. -/
namespace Go.Proofs.YtgnbkepdbdgkdaaGreatDoor
open Go.RowKit Pl

theorem parseS_large {l : List UInt8} (h : 60000 < l.length) : parseS l = (noSys, 2) := if_pos h
/-- the lines behind the first one -/
theorem parseS_lines {s : ByteArray} (h : ¬ 60000 < s.data.toList.length) : ∃ ls : List (List UInt8), (spB 10 (mk (cut1 s.data.toList))).drop 1 = ls.map mk ∧ (spB 10 (mk (cut1 s.data.toList))).length = ls.length + 1 ∧
    parseS s.data.toList = match headO (at_ (spB 10 (mk (cut1 s.data.toList))) 0).data.toList with
      | none => (noSys, 11)
      | some acts => match rowsO acts 0 ls with
        | none => (noSys, 11)
        | some ss => if sysB ⟨acts, ss⟩ = true then (⟨acts, ss⟩, 0) else (noSys, 20) := by
  unfold parseS spB
  rw [if_neg h, mk_data]
  cases e : sp 10 (cut1 s.data.toList) with
  | nil => exact absurd e (sp_ne _ _)
  | cons l0 ls =>
    refine ⟨ls, rfl, by simp, ?_⟩
    have e1 : (at_ ((l0 :: ls).map mk) 0).data.toList = l0 := by
      show (mk l0).data.toList = l0
      exact mk_data l0
    rw [e1]
    rfl
/-- rows one by one -/
theorem rowsO_bad {acts : List ByteArray} : ∀ (ls : List (List UInt8)) (i k : Nat), k < ls.length → rowO acts (i + k) (ls.getD k []) = none → rowsO acts i ls = none
  | [], i, k, h, _ => by simp at h
  | l :: ls, i, 0, _, h => by
    unfold rowsO
    have : rowO acts i l = none := by simpa using h
    rw [this]
  | l :: ls, i, k + 1, hk, h => by
    have ih := rowsO_bad ls (i + 1) k (by simpa using hk) (by rw [Nat.add_right_comm, Nat.add_assoc]; simpa using h)
    unfold rowsO
    rw [ih]
    split <;> rfl
theorem rowsO_good {acts : List ByteArray} : ∀ (ls : List (List UInt8)) (i : Nat) (ss : List (List Edg)), ss.length = ls.length → (∀ k, k < ls.length → rowO acts (i + k) (ls.getD k []) = some (stAt ss k)) → rowsO acts i ls = some ss
  | [], i, ss, h, _ => by
    have : ss = [] := List.length_eq_zero_iff.1 (by simpa using h)
    subst this; rfl
  | l :: ls, i, [], h, _ => by simp at h
  | l :: ls, i, es :: ss, h, hg => by
    have h0 := hg 0 (by simp)
    have ih := rowsO_good ls (i + 1) ss (by simpa using h) (fun k hk => by
      have := hg (k + 1) (by simpa using hk)
      rw [Nat.add_right_comm, Nat.add_assoc]
      simpa [stAt, List.getD] using this)
    unfold rowsO
    have h1 : rowO acts i l = some es := by simpa [stAt, List.getD] using h0
    rw [h1, ih]
    rfl

set_option maxRecDepth 100000 in
set_option maxHeartbeats 8000000 in
theorem SParse_any (s : ByteArray) (hs : s.size ≤ 9223372036854775807) (w : World) (E : Env w) :
    Calls Tryz.prog 38 #[.string s] w fun e w' => ∃ a n c b k d, e = .returned (.tuple #[.agg #[.slice a n c, .slice b k d], .int .i64 (parseS s.data.toList).2]) ∧ SysArg w' a n c b k d (parseS s.data.toList).1 ∧ Below w.heap.size w w' := by
  have HE := Lib.hid E
  clear E
  have hb1 := (Below.refl w.heap.size w).alloc (Nat.le_refl _) (.cells #[.slice none 0 0, .slice none 0 0] 25)
  have hres := Whole.new w 25 #[.slice none 0 0, .slice none 0 0]
  have HPT := Lib.hid (PText_any ⟨#[115, 121, 115, 116, 101, 109]⟩ s hs _ (HE.out.below hb1))
  have HK := Lib.hid (parseS_K s.data.toList)
  have HB1 := Lib.hid hb1
  have HRes := Lib.hid hres
  clear hb1 hres
  go_enter Tryz.func38, Tryz.ntmps38
  go_wp2_with fail
  refine HPT.out.mono ?_
  rintro e w2 ⟨hb2, hcase⟩
  have hz2 : w.heap.size < w2.heap.size := by have := hb2.size; simp at this; omega
  have hres2 := HRes.out.below hb2 HRes.out.lt
  have r0 := hres2.cell 0
  have r1 := hres2.cell 1
  have f0 := hres2.frozen 0
  have f1 := hres2.frozen 1
  have HR2 := Lib.hid hres2
  simp only [List.getElem?_toArray, List.getElem?_cons_succ, List.getElem?_cons_zero] at r0 r1
  have HBw := Lib.hid (HB1.out.trans (hb2.mono HB1.out.size))
  clear hb2 hres2
  rcases hcase with ⟨cd, hne, ht, rfl⟩ | ⟨acts, ss, a, c, vs, ht, rfl, hAc, hbl, hRw, hst, hsl, hact⟩
  · have HP : Hid (parseS s.data.toList = (noSys, cd)) := Lib.hid (by
      rw [HK.out, show textK bSystem edgesO s.data.toList = ([], [], cd) from ht]
      exact if_neg hne)
    have hq : ((cd : Int) != 0) = true := by rw [bne_iff_ne]; exact hne
    have g0 := (HR2.out.set 0 (.slice none 0 0)).cell 0
    have g1 := ((HR2.out.set 0 (.slice none 0 0)).set 1 (.slice none 0 0)).cell 1
    simp only [List.setIfInBounds_toArray, List.set_cons_zero, List.set_cons_succ, List.getElem?_toArray, List.getElem?_cons_succ, List.getElem?_cons_zero] at g0 g1
    have HBe := Lib.hid ((HBw.out.setCell (p := ⟨w.heap.size, 0, none⟩) (Nat.le_refl _) (.slice none 0 0)).setCell (p := ⟨w.heap.size, 1, none⟩) (Nat.le_refl _) (.slice none 0 0))
    clear ht hne
    go_wp2
    exact bodyPost_ret (v := .tuple #[.agg #[.slice none 0 0, .slice none 0 0], .int .i64 cd]) (by simp [results, Tryz.results38, go_sem, g0, g1]) rfl ⟨none, 0, 0, none, 0, 0, by rw [HP.out], by rw [HP.out]; exact sys_nil _, HBe.out⟩
  · obtain ⟨bb, cc, rfl, hd, hnil, hrows⟩ := hRw.arg (fun i hi => Nat.le_trans (hst i hi) (by decide))
    have HST : Hid (∀ i, i < ss.length → (stAt ss i).length ≤ 140737488355328) := Lib.hid fun i hi => Nat.le_trans (hst i hi) (by decide)
    have hbo : Below w2.heap.size w2 (w2.alloc (.cells #[.slice a acts.length c, .slice bb ss.length cc] 25)) := (Below.refl _ w2).alloc (Nat.le_refl _) _
    have hbox := Whole.new w2 25 #[.slice a acts.length c, .slice bb ss.length cc]
    have hac8 := ((actsB_iff acts).1 hact).1
    have hAg : SysArg (w2.alloc (.cells #[.slice a acts.length c, .slice bb ss.length cc] 25)) a acts.length c bb ss.length cc ⟨acts, ss⟩ := ⟨hAc.below hbo, by omega, hnil, rfl, hd, by omega, hrows.below hbo⟩
    have HKo : Hid (parseS s.data.toList = if sysB ⟨acts, ss⟩ = true then (⟨acts, ss⟩, 0) else (noSys, 20)) := Lib.hid (by
      rw [HK.out, show textK bSystem edgesO s.data.toList = (acts, ss, 0) from ht]
      exact if_pos rfl)
    obtain ⟨e0, e1, e2, hErr⟩ := (HE.out.below (HBw.out.trans (hbo.mono HBw.out.size))).errs
    have HCk := Lib.hid (SCheck_any hErr hAg)
    have HAc := Lib.hid hAc
    have HRw := Lib.hid hRw
    have HBo := Lib.hid hbo
    have HBox := Lib.hid hbox
    have HBL : Hid (∀ ad, a = some ad → ad.block ≠ w.heap.size) := Lib.hid fun ad e => by have := hbl ad e; simp at this; omega
    clear hd hnil hrows hst hbo hbox hAg hErr hAc hRw ht hbl hact
    go_wp2_with fail
    refine HCk.out.mono ?_
    rintro e wC ⟨rfl, hbC⟩
    have hzC : w2.heap.size < wC.heap.size := by have := hbC.size; simp at this; omega
    have hb2C := HBo.out.trans (hbC.mono HBo.out.size)
    have hrC := HR2.out.below hb2C HR2.out.lt
    have hbT := HBw.out.trans (hb2C.mono HBw.out.size)
    have hbx := HBox.out.below hbC HBox.out.lt
    have k0 := hbx.cell 0
    have k1 := hbx.cell 1
    have HArg := Lib.hid (HRw.out.below hb2C)
    have HStr := Lib.hid (HAc.out.below hb2C)
    have q0 := hrC.cell 0
    have q1 := hrC.cell 1
    have q2 := hrC.frozen 0
    have q3 := hrC.frozen 1
    have q4 := hrC.lt
    have HrC := Lib.hid hrC
    simp only [List.getElem?_toArray, List.getElem?_cons_succ, List.getElem?_cons_zero] at k0 k1 q0 q1
    clear hbC hb2C hbx
    by_cases hck : sysB ⟨acts, ss⟩ = true
    · have HP : Hid (parseS s.data.toList = (⟨acts, ss⟩, 0)) := Lib.hid (by rw [HKo.out]; exact if_pos hck)
      rw [chk_yes hck]
      have g0 := (hrC.set 0 (.slice a acts.length c)).cell 0
      have g1 := ((hrC.set 0 (.slice a acts.length c)).set 1 (.slice bb ss.length cc)).cell 1
      simp only [List.setIfInBounds_toArray, List.set_cons_zero, List.set_cons_succ, List.getElem?_toArray, List.getElem?_cons_succ, List.getElem?_cons_zero] at g0 g1
      have HBe := Lib.hid ((hbT.setCell (p := ⟨w.heap.size, 0, none⟩) (Nat.le_refl _) (.slice a acts.length c)).setCell (p := ⟨w.heap.size, 1, none⟩) (Nat.le_refl _) (.slice bb ss.length cc))
      have HFin : Hid (SysArg ((wC.setCell ⟨w.heap.size, 0, none⟩ (.slice a acts.length c)).setCell ⟨w.heap.size, 1, none⟩ (.slice bb ss.length cc)) a acts.length c bb ss.length cc ⟨acts, ss⟩) := Lib.hid (by
        obtain ⟨b', d', e, hd, hnil, hrows⟩ := (rows_stored (u := .slice a acts.length c) (v := .slice bb ss.length cc) HArg.out hrC).arg HST.out
        cases e
        exact ⟨strs_stored HStr.out HBL.out, by omega, hnil, rfl, hd, by omega, hrows⟩)
      clear hrC hbT hck
      go_wp2
      exact bodyPost_ret (v := .tuple #[.agg #[.slice a acts.length c, .slice bb ss.length cc], .int .i64 0]) (by simp [results, Tryz.results38, go_sem, g0, g1]) rfl ⟨a, acts.length, c, bb, ss.length, cc, by rw [HP.out], by rw [HP.out]; exact HFin.out, HBe.out⟩
    · have HP : Hid (parseS s.data.toList = (noSys, 20)) := Lib.hid (by rw [HKo.out]; exact if_neg hck)
      rw [chk_no (by simpa using hck)]
      have g0 := (hrC.set 0 (.slice none 0 0)).cell 0
      have g1 := ((hrC.set 0 (.slice none 0 0)).set 1 (.slice none 0 0)).cell 1
      simp only [List.setIfInBounds_toArray, List.set_cons_zero, List.set_cons_succ, List.getElem?_toArray, List.getElem?_cons_succ, List.getElem?_cons_zero] at g0 g1
      have HBe := Lib.hid ((hbT.setCell (p := ⟨w.heap.size, 0, none⟩) (Nat.le_refl _) (.slice none 0 0)).setCell (p := ⟨w.heap.size, 1, none⟩) (Nat.le_refl _) (.slice none 0 0))
      clear hrC hbT hck
      go_wp2
      exact bodyPost_ret (v := .tuple #[.agg #[.slice none 0 0, .slice none 0 0], .int .i64 20]) (by simp [results, Tryz.results38, go_sem, g0, g1]) rfl ⟨none, 0, 0, none, 0, 0, by rw [HP.out], by rw [HP.out]; exact sys_nil _, HBe.out⟩
end Go.Proofs.YtgnbkepdbdgkdaaGreatDoor
/- offered; checkState; system.Offer. -/
namespace Go.Proofs.YtgnbkepdbdgkdaaGreatDoor
open Go.RowKit Pl

def offN (l : List Edg) : Nat := l.foldl (fun s e => s ||| 2 ^ e.1.toNat) 0
theorem offN_take {l : List Edg} {j : Nat} (h : j < l.length) : offN (l.take (j + 1)) = offN (l.take j) ||| 2 ^ (edAt l j).1.toNat := by
  have e : edAt l j = l[j] := by simp [edAt, List.getD, h]
  unfold offN
  rw [List.take_succ_eq_append_getElem h, List.foldl_append, e]
  rfl
theorem offN_lt {l : List Edg} (h : ∀ k, k < l.length → 0 ≤ (edAt l k).1 ∧ (edAt l k).1 < 8) : ∀ j, j ≤ l.length → offN (l.take j) < 256
  | 0, _ => by simp [offN]
  | j + 1, hj => by
    rw [offN_take (by omega)]
    have h1 := h j (by omega)
    exact Nat.or_lt_two_pow (n := 8) (offN_lt h j (by omega)) (Nat.pow_lt_pow_right (by decide) (by omega))

theorem offered_any {w : World} {a : Option Addr} {n c : Nat} {l : List Edg} (A : EdgeArg w a n c l) (h8 : ∀ k, k < l.length → 0 ≤ (edAt l k).1 ∧ (edAt l k).1 < 8) :
    Calls Tryz.prog 72 #[.slice a n c] w fun e w' => e = .returned (.int .i64 (offN l)) ∧ Below w.heap.size w w' := by
  have HA := Lib.hid A
  have hn : n ≤ 140737488355328 := A.big
  have H8 := Lib.hid h8
  clear A h8
  go_enter Tryz.func72, Tryz.ntmps72
  go_wp2
  go_loopw [3, 5, 8] (fun s _ i wr => ∃ j t : Nat, j ≤ n ∧ i = .int .i64 j ∧ s = .int .i64 t ∧ t < 256 ∧ Hid (t = offN (l.take j)) ∧ Below w.heap.size w wr) (fun _ _ i _ => n - (intOf i).toNat)
  case atStart => exact ⟨0, 0, Nat.zero_le _, rfl, rfl, by decide, Lib.hid rfl, Below.refl _ _⟩
  case round =>
    obtain ⟨j, t, hj, rfl, rfl, ht, htb, hb⟩ := hrel
    by_cases hlt : j < n
    · obtain ⟨b, off, rfl, c0, c1⟩ := (HA.out.cells.below hb) j (by have := HA.out.len; omega)
      obtain ⟨h1, h2⟩ := H8.out j (by have := HA.out.len; omega)
      obtain ⟨m, hm⟩ := Int.eq_ofNat_of_zero_le h1
      obtain ⟨x2, hx2⟩ : ∃ x2, x2 = (edAt l j).2 := ⟨_, rfl⟩
      rw [← hx2] at c1
      rw [hm] at c0 h2
      obtain ⟨R, HR⟩ : ∃ R : Nat, Hid (R = t ||| 2 ^ m) := ⟨_, Lib.hid rfl⟩
      have hR : R < 256 := by rw [HR.out]; exact Nat.or_lt_two_pow (n := 8) ht (Nat.pow_lt_pow_right (by decide) (by omega))
      have HT : Hid (R = offN (l.take (j + 1))) := Lib.hid (by rw [offN_take (by have := HA.out.len; omega), hm, ← htb.out, HR.out]; rfl)
      have HO : Hid (bits .or .i64 (t : Int) (wrap64 (2 ^ m)) = (R : Int)) := Lib.hid (by
        have h2 := pow_le m (by omega)
        have h3 : ((2 ^ m : Nat) : Int) = (2 : Int) ^ m := by norm_cast
        have h4 : 2 ^ m < 256 := Nat.pow_lt_pow_right (n := 8) (by decide) (by omega)
        rw [IntWalk.wrap64_in _ ⟨by omega, by omega⟩, ← h3, HR.out]
        exact i64_or_nat t _ (by omega) (by omega))
      have HB := Lib.hid (hb.alloc hb.size (.cells #[.int .i64 m, .int .i64 x2] 87))
      clear hb h1 hm hx2
      go_wp2
      rw [HO.out]
      go_wp2
      go_roundw
      case rel => exact ⟨j + 1, R, by omega, by go_num, rfl, hR, HT, HB.out⟩
      case measure => simp [intOf]; omega
    · have HT : Hid (t = offN l) := Lib.hid (by
        have := htb.out
        rw [List.take_of_length_le (by have := HA.out.len; omega)] at this
        exact this)
      have HB := Lib.hid hb
      clear hb
      go_wp2
      go_ret
      exact ⟨by rw [HT.out]; rfl, HB.out⟩

/-- the error for a system and a state -/
def stC (m : Syst) (x : Int) : Int := if sysB m = true then (if 0 ≤ x ∧ x < m.states.length then 0 else 1) else 20
set_option maxRecDepth 100000 in
set_option maxHeartbeats 8000000 in
theorem checkState_any {w : World} {a : Option Addr} {n c : Nat} {b : Option Addr} {k d : Nat} {m : Syst} (x : Int) (hx : -9223372036854775808 ≤ x) (hx' : x ≤ 9223372036854775807) {e0 e1 e2 : Addr} (E : Errs w e0 e1 e2) (A : SysArg w a n c b k d m) :
    Calls Tryz.prog 45 #[.agg #[.slice a n c, .slice b k d], .int .i64 x] w fun e w' => e = .returned (.int .i64 (stC m x)) ∧ Below w.heap.size w w' := by
  have hB := (Below.refl w.heap.size w).alloc (Nat.le_refl _) (.cells #[.slice a n c, .slice b k d] 25)
  have hA := A.below hB
  have HC := Lib.hid (SCheck_any (E.below hB) hA)
  have HK := Lib.hid A.len
  have hk2 : k ≤ 140737488355328 := by have := A.cap; have := A.big; omega
  have HBB := Lib.hid hB
  have o2 : (w.alloc (.cells #[.slice a n c, .slice b k d] 25)).cell? ⟨w.heap.size, 1, none⟩ = some (.slice b k d) := (Whole.new w 25 #[.slice a n c, .slice b k d]).cell 1
  clear hB hA A E
  go_enter Tryz.func45, Tryz.ntmps45
  go_wp2_with fail
  refine HC.out.mono ?_
  rintro e w2 ⟨rfl, hb⟩
  have HB := Lib.hid (HBB.out.trans (hb.mono HBB.out.size))
  have o2C := up_cell hb o2
  clear hb
  by_cases hs : sysB m = true
  · rw [chk_yes hs]
    have HS := Lib.hid hs
    clear hs
    by_cases h0 : x < 0
    · have HV : Hid (stC m x = 1) := Lib.hid (by unfold stC; rw [if_pos HS.out, if_neg (by have := HK.out; omega)])
      go_wp2
      go_ret
      exact ⟨by rw [HV.out]; rfl, HB.out⟩
    · by_cases h1 : x < k
      · have HV : Hid (stC m x = 0) := Lib.hid (by unfold stC; rw [if_pos HS.out, if_pos (by have := HK.out; omega)])
        go_wp2
        go_ret
        exact ⟨by rw [HV.out]; rfl, HB.out⟩
      · have HV : Hid (stC m x = 1) := Lib.hid (by unfold stC; rw [if_pos HS.out, if_neg (by have := HK.out; omega)])
        go_wp2
        go_ret
        exact ⟨by rw [HV.out]; rfl, HB.out⟩
  · have HV : Hid (stC m x = 20) := Lib.hid (if_neg hs)
    rw [chk_no (by simpa using hs)]
    go_wp2
    go_ret
    exact ⟨by rw [HV.out]; rfl, HB.out⟩

def offerV (m : Syst) (x : Int) : Int := if stC m x = 0 then (offN (stAt m.states x.toNat) : Int) else 0
set_option maxRecDepth 100000 in
set_option maxHeartbeats 8000000 in
theorem Offer_any {w : World} {a : Option Addr} {n c : Nat} {b : Option Addr} {k d : Nat} {m : Syst} (x : Int) (hx : -9223372036854775808 ≤ x) (hx' : x ≤ 9223372036854775807) {e0 e1 e2 : Addr} (E : Errs w e0 e1 e2) (A : SysArg w a n c b k d m) :
    Calls Tryz.prog 39 #[.agg #[.slice a n c, .slice b k d], .int .i64 x] w fun e w' => e = .returned (.tuple #[.int .i64 (offerV m x), .int .i64 (stC m x)]) ∧ Below w.heap.size w w' := by
  have hB := (Below.refl w.heap.size w).alloc (Nat.le_refl _) (.cells #[.slice a n c, .slice b k d] 25)
  have hA := A.below hB
  have HA := Lib.hid hA
  have HC := Lib.hid (checkState_any x hx hx' (E.below hB) hA)
  have HK := Lib.hid A.len
  have hk2 : k ≤ 140737488355328 := by have := A.cap; have := A.big; omega
  have HBB := Lib.hid hB
  have o2 : (w.alloc (.cells #[.slice a n c, .slice b k d] 25)).cell? ⟨w.heap.size, 1, none⟩ = some (.slice b k d) := (Whole.new w 25 #[.slice a n c, .slice b k d]).cell 1
  clear hB hA A E
  go_enter Tryz.func39, Tryz.ntmps39
  go_wp2_with fail
  refine HC.out.mono ?_
  rintro e w2 ⟨rfl, hb⟩
  have HB := Lib.hid (HBB.out.trans (hb.mono HBB.out.size))
  have o2C := up_cell hb o2
  have HA2 := Lib.hid (HA.out.below hb)
  clear hb
  by_cases hs : stC m x = 0
  · have hx : sysB m = true ∧ 0 ≤ x ∧ x < m.states.length := by
      unfold stC at hs
      split at hs
      · rename_i h
        split at hs
        · exact ⟨h, by assumption⟩
        · cases hs
      · cases hs
    obtain ⟨h1, h2, h3⟩ := hx
    obtain ⟨j, rfl⟩ := Int.eq_ofNat_of_zero_le h2
    have hj : j < k := by have := HK.out; omega
    obtain ⟨bb, off, rfl, ai, ni, ci, c1, hE⟩ := HA2.out.rows j (by omega)
    obtain ⟨h4, h5, h6, h7, h8⟩ := (sysB_iff m).1 h1
    have hac8 := ((actsB_iff m.acts).1 h4).1
    have HO := Lib.hid (offered_any hE (fun q hq => by
      have := (edgesB_iff _ _ _).1 (h7 j (by omega)) q hq
      have := (okE_iff _ _ _).1 (by unfold edgeB at this; rw [Bool.and_eq_true] at this; exact this.1)
      omega))
    have HV : Hid (offerV m j = offN (stAt m.states j)) := Lib.hid (if_pos hs)
    have HSV := Lib.hid hs
    rw [hs]
    clear hs h1 h2 h3 hE h4 h5 h6 h7 h8 hac8
    go_wp2_with fail
    refine HO.out.mono ?_
    rintro e w3 ⟨rfl, hb⟩
    have HB3 := Lib.hid (HB.out.trans (hb.mono HB.out.size))
    clear hb
    go_wp2
    exact bodyPost_ret (v := .tuple #[.int .i64 (offN (stAt m.states j)), .int .i64 0]) (by simp [results, Tryz.results39, go_sem]) rfl ⟨by rw [HV.out, HSV.out], HB3.out⟩
  · have HV : Hid (offerV m x = 0) := Lib.hid (if_neg hs)
    obtain ⟨cd, hcd⟩ : ∃ cd, stC m x = cd := ⟨_, rfl⟩
    rw [hcd] at hs ⊢
    go_wp2
    exact bodyPost_ret (v := .tuple #[.int .i64 0, .int .i64 cd]) (by simp [results, Tryz.results39, go_sem]) rfl ⟨by rw [HV.out, hcd], HB.out⟩
end Go.Proofs.YtgnbkepdbdgkdaaGreatDoor
