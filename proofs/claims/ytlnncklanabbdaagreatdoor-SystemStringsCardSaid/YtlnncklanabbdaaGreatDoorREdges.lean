/- The reference's edges. -/
import Derived.Test.YtlnncklanabbdaaGreatDoorRNumb
namespace Go.Proofs.YtlnncklanabbdaaGreatDoor
open Go.RowKit Pl

set_option maxRecDepth 100000 in
set_option maxHeartbeats 8000000 in
theorem REdges_any {w : World} {a : Option Addr} {n c : Nat} {acts : List ByteArray} (i : Nat) (s : ByteArray) (hi : i ≤ 1000000) (hs : s.size ≤ 1000000) (A : StrArg w a n c acts) :
    Calls Tryz.prog 57 #[.slice a n c, .string s, .int .i64 i] w fun e w' => Below w.heap.size w w' ∧
      ((rowO acts i s.data.toList = none ∧ e = .returned (.tuple #[.slice none 0 0, .bool false])) ∨
        ∃ es v, rowO acts i s.data.toList = some es ∧ e = .returned (.tuple #[v, .bool true]) ∧ EdgeOwn w' w.heap.size v es ∧ es.length ≤ 1000000) := by
  obtain ⟨i1, hi1, hz10, hz11, hz12⟩ := info_parts infoEdge
  have HA := Lib.hid A
  clear A
  obtain ⟨r, hr1, hr2, hr3⟩ := rowO_eq acts i s
  have hN2 := spB_count 32 s
  have HSp := RSplit_any s hs 32 w
  have h32 : ((32 : UInt8).toNat : Int) = 32 := rfl
  rw [h32] at HSp
  clear h32
  obtain ⟨ws, HWS⟩ : ∃ ws, Hid (spB 32 s = ws) := ⟨_, Lib.hid rfl⟩
  rw [HWS.out] at hr1 hr2 hr3 hN2 HSp
  have HSp := Lib.hid HSp
  have HR1 := Lib.hid hr1
  have HR3 := Lib.hid hr3
  have HSz : Hid (∀ x ∈ ws, x.size ≤ 1000000) := Lib.hid (by rw [← HWS.out]; exact fun x hx => Nat.le_trans (spB_size hx) hs)
  obtain ⟨N, HNl⟩ : ∃ N, Hid (ws.length = N) := ⟨_, Lib.hid rfl⟩
  rw [HNl.out] at HSp hN2 hr2
  have HR2 := Lib.hid hr2
  clear hr1 hr2 hr3
  go_enter Tryz.func57, Tryz.ntmps57
  go_wp2_with fail
  refine HSp.out.mono ?_
  rintro e w1 ⟨aw, cw, rfl, hAw, _, hb1⟩
  have hN1 : 0 < N := by have := HR2.out; omega
  obtain ⟨bw, ow, rfl, c0⟩ := hAw.cells 0 (by have := HNl.out; omega)
  change w1.cell? _ = some (.string (at_ ws 0)) at c0
  simp only [Nat.add_zero] at c0
  have HAw := Lib.hid hAw
  have HB1 := Lib.hid hb1
  have hz1 := hb1.size
  clear hAw hb1
  have HI := fun (W : World) => Digits_any i (by omega) W
  obtain ⟨D, HD⟩ : ∃ D, Hid (mk (Lib.decDigits i) = D) := ⟨_, Lib.hid rfl⟩
  rw [HD.out] at HI
  have HI := Lib.hid HI
  have hD : D.size ≤ 21 := by rw [← HD.out, mk_size']; exact dec_length i (by omega)
  obtain ⟨x0, HX0⟩ : ∃ x, Hid (at_ ws 0 = x) := ⟨_, Lib.hid rfl⟩
  rw [HX0.out] at c0
  have hN0 : (0 : Int) < N := by omega
  have HP : Hid (rowO acts i s.data.toList = if x0 = D ++ (⟨#[58]⟩ : ByteArray) then edgesO acts r else none) := Lib.hid (by
    rw [HR3.out, HX0.out, ← HD.out, show (⟨#[58]⟩ : ByteArray) = mk [58] from rfl, mk_add])
  have hcol : (⟨#[58]⟩ : ByteArray).size = 1 := rfl
  by_cases hx : x0 = D ++ (⟨#[58]⟩ : ByteArray)
  · have hq : (x0.toList == (D ++ (⟨#[58]⟩ : ByteArray)).toList) = true := by rw [bytes_eq]; exact decide_eq_true hx
    have HP2 : Hid (rowO acts i s.data.toList = edgesO acts r) := Lib.hid (by rw [HP.out, if_pos hx])
    clear hx
    by_cases hev : N % 2 = 0
    · have HN : Hid (rowO acts i s.data.toList = none) := Lib.hid (by
        rw [HP2.out]
        exact edgesO_odd acts ((r.length - 1) / 2) r (by have := HR2.out; omega))
      have hmod : ((N : Int).tmod 2 == 0) = true := by rw [beq_iff_eq, Int.tmod_eq_emod_of_nonneg (by omega)]; omega
      have hmod2 : ((N : Int) % 2 == 0) = true := by rw [beq_iff_eq]; omega
      go_wp2
      have hadd1 : ¬ 9223372036854775807 < D.size + 1 := by omega
      have hadd2 : ¬ 9223372036854775807 < D.size + (⟨#[58]⟩ : ByteArray).size := by omega
      go_region_held3 (fun w' => w'.cell? ⟨bw, ow, none⟩ = some (.string x0))
        ((first | assumption | go_keep))
        (first | (go_at_call 54; refine (HI.out _).mono ?_; rintro e wI ⟨rfl, rfl⟩))
      go_wp2
      go_ret2
      exact ⟨HB1.out.drew, .inl ⟨HN.out, rfl⟩⟩
    · have hmod : ((N : Int).tmod 2 == 0) = false := by rw [beq_eq_false_iff_ne, Int.tmod_eq_emod_of_nonneg (by omega)]; omega
      have hmod2 : ((N : Int) % 2 == 0) = false := by rw [beq_eq_false_iff_ne]; omega
      go_wp2
      have hadd1 : ¬ 9223372036854775807 < D.size + 1 := by omega
      have hadd2 : ¬ 9223372036854775807 < D.size + (⟨#[58]⟩ : ByteArray).size := by omega
      go_region_held3 (fun w' => w'.cell? ⟨bw, ow, none⟩ = some (.string x0))
        ((first | assumption | go_keep))
        (first | (go_at_call 54; refine (HI.out _).mono ?_; rintro e wI ⟨rfl, rfl⟩))
      have HBI := Lib.hid ((Below.refl w1.heap.size w1).drew)
      have hrl : r.length % 2 = 0 := by have := HR2.out; omega
      go_wp2
      have hm : (N : Int).tmod 2 = (N : Int) % 2 := Int.tmod_eq_emod_of_nonneg (by omega)
      simp only [hm]
      clear hm
      go_loopw [9, 10, 11, 12, 13] (fun v k _ _ _ wr => ∃ (x : Nat) (es : List Edg), k = .int .i64 ((2 * x + 1 : Nat) : Int) ∧ 2 * x + 1 ≤ N ∧ EdgeOwn wr w1.heap.size v es ∧ Hid (es.length = x ∧ edgesO acts r = (edgesO acts (r.drop (2 * x))).map fun q => es ++ q) ∧ Below w1.heap.size w1 wr) (fun _ k _ _ _ _ => N - (intOf k).toNat)
      case atStart => exact ⟨0, [], by simp, by omega, World.ownsRow_nil _ _ _ _, Lib.hid ⟨rfl, by simp⟩, HBI.out⟩
      case round =>
        obtain ⟨x, es, rfl, hx, hes, hrel2, hb⟩ := hrel
        have HES := Lib.hid hes
        have HB := Lib.hid hb
        have hzr := hb.size
        clear hes hb
        by_cases hlt : 2 * x + 1 < N
        · have h2x : 2 * x + 1 < r.length := by have := HR2.out; omega
          obtain ⟨a1, n1, HD2⟩ : ∃ a1 n1, Hid (r.drop (2 * x) = a1 :: n1 :: r.drop (2 * (x + 1))) := ⟨r[2 * x], r[2 * x + 1], Lib.hid (by
            rw [List.drop_eq_getElem_cons (by omega), List.drop_eq_getElem_cons (by omega)]; rfl)⟩
          have HX1 : Hid (at_ ws (2 * x + 1) = mk a1 ∧ at_ ws (2 * x + 1 + 1) = mk n1) := Lib.hid (by
            have e1 : ∀ j, at_ ws (j + 1) = at_ (r.map mk) j := fun j => by rw [← HR1.out]; simp [at_, List.getD]
            have e2 : ∀ j, at_ (r.map mk) (2 * x + j) = at_ ((r.drop (2 * x)).map mk) j := fun j => by simp [at_, List.getD]
            rw [e1, e1]
            have e3 := e2 0
            have e4 := e2 1
            rw [HD2.out] at e3 e4
            exact ⟨e3, e4⟩)
          obtain ⟨X, HX⟩ : ∃ z, Hid (mk a1 = z) := ⟨_, Lib.hid rfl⟩
          obtain ⟨Y, HY⟩ : ∃ z, Hid (mk n1 = z) := ⟨_, Lib.hid rfl⟩
          have HYd : Hid (Y.data.toList = n1) := Lib.hid (by rw [← HY.out, mk_data])
          have hAr := HAw.out.below HB.out
          have c1 : wr.cell? ⟨bw, ow + (2 * x + 1), none⟩ = some (.string X) := by
            obtain ⟨b, off, e, hc⟩ := hAr.cells (2 * x + 1) (by have := HNl.out; omega)
            cases e
            have h3 := HX1.out.1
            unfold at_ at h3
            rw [h3, HX.out] at hc
            exact hc
          have c2 : wr.cell? ⟨bw, ow + (2 * x + 1 + 1), none⟩ = some (.string Y) := by
            obtain ⟨b, off, e, hc⟩ := hAr.cells (2 * x + 1 + 1) (by have := HNl.out; omega)
            cases e
            have h3 := HX1.out.2
            unfold at_ at h3
            rw [h3, HY.out] at hc
            exact hc
          have HAc := Lib.hid ((HA.out.below HB1.out).below HB.out)
          have HF := Lib.hid (Index_any a n c acts X wr HAc.out.len HAc.out.big HAc.out.cells)
          have hYs : Y.size ≤ 1000000 := by
            rw [← HY.out, ← HX1.out.2]
            exact HSz.out _ (at_in _ _ (by have := HNl.out; omega))
          have HPn := RNumber_any Y (by omega) wr
          rw [HYd.out] at HPn
          have hwr1 : IntKind.i64.wrap (((2 * x + 1 : Nat) : Int) + 1) = ((2 * x + 1 : Nat) : Int) + 1 := IntWalk.i64_in _ (by omega)
          clear hAr
          by_cases hgood : 0 ≤ Lib.idxOfS acts X ∧ ∃ t, numV n1 = some t
          · obtain ⟨hidx, t, hnum⟩ := hgood
            rw [numT_some hnum] at HPn
            have HPn := Lib.hid HPn
            have HG : Hid ((es ++ [(Lib.idxOfS acts X, t)]).length = x + 1 ∧ edgesO acts r = (edgesO acts (r.drop (2 * (x + 1)))).map fun q => (es ++ [(Lib.idxOfS acts X, t)]) ++ q) := Lib.hid ⟨by rw [List.length_append, hrel2.out.1]; rfl, by
              rw [hrel2.out.2, HD2.out, edgesO_good (by rw [HX.out]; omega) hnum, HX.out, Option.map_map]
              congr 1
              funext q
              simp⟩
            obtain ⟨Z, HZ⟩ : ∃ z, Hid (Lib.idxOfS acts X = z) := ⟨_, Lib.hid rfl⟩
            rw [HZ.out] at HG HF hidx
            obtain ⟨va, vc, rfl⟩ := own_slice' HES.out
            have HOW : Hid (wr.ownsRow w1.heap.size 81 2 (.slice va es.length vc) es.length (ecells es)) := Lib.hid HES.out
            clear hnum
            go_wp2_with fail
            refine HF.out.mono ?_
            rintro e w' ⟨rfl, rfl⟩
            go_wp2_with fail
            refine HPn.out.mono ?_
            rintro e w2 ⟨rfl, rfl⟩
            have hb2 := Below.refl wr.heap.size wr
            have HOW2 : Hid (∀ o, (wr.alloc o).ownsRow w1.heap.size 81 2 (.slice va es.length vc) es.length (ecells es)) := Lib.hid fun o => (own_up' HOW.out hb2).alloc o
            have Hb2 := Lib.hid hb2
            have hz2 := hb2.size
            have hesl : es.length ≤ 1000000 := by have := hrel2.out.1; omega
            clear hb2
            go_wp2_with (at_builtin; (refine wpList_append_sz rfl (.tmp 56) (.tmp 60) 77 rfl w1.heap.size 81 i1 (.agg #[.int .i64 0, .int .i64 0]) 2 16 Tryz.underlying77 hi1 hz10 hz11 hz12 rfl (by decide) (.slice va es.length vc) rfl es.length (ecells es) (HOW2.out _) (some ⟨wr.heap.size, 0, none⟩) 1 1 rfl [.int .i64 Z, .int .i64 t] (fun h => by cases h) rfl (two_src _ _ _ _) (by simp [Value.oneCell']) (by unfold maxLen; omega) (by omega) (by simp; omega) ?_); intro v4 w4 hv4 hg4 hat4; refine Hid.out ?_)
            refine Lib.hid ?_
            have hE4 : EdgeOwn w4 w1.heap.size v4 (es ++ [(Z, t)]) := by
              unfold EdgeOwn
              rw [List.length_append, ecells_app]
              exact hv4
            have hb4 : Below w1.heap.size w1 w4 := (((HB.out.trans (Hb2.out.mono hzr)).alloc (by omega) _)).grown hg4 (by simp; omega) (own_ge (HOW2.out (.cells #[.int .i64 Z, .int .i64 t] 81)))
            have HE4 := Lib.hid hE4
            have HB4 := Lib.hid hb4
            clear hv4 hg4 hat4 hE4 hb4
            go_wp2
            go_roundw
            case rel => exact ⟨x + 1, es ++ [(Z, t)], by go_num, by omega, HE4.out, HG, HB4.out⟩
            case measure => simp [intOf]; omega
          · have HN : Hid (rowO acts i s.data.toList = none) := Lib.hid (by
              rw [HP2.out, hrel2.out.2, HD2.out, edgesO_bad]
              · rfl
              · by_cases hidx : Lib.idxOfS acts X < 0
                · exact .inl (by rw [HX.out]; exact hidx)
                · right
                  cases hnv : numV n1 with
                  | none => rfl
                  | some t => exact absurd ⟨by omega, t, hnv⟩ hgood)
            cases hnv : numV n1 with
            | none =>
              rw [numT_none hnv] at HPn
              have HPn := Lib.hid HPn
              by_cases hidx : Lib.idxOfS acts X < 0
              · obtain ⟨Z, HZ⟩ : ∃ z, Hid (Lib.idxOfS acts X = z) := ⟨_, Lib.hid rfl⟩
                rw [HZ.out] at HF hidx
                clear hgood hnv
                go_wp2_with fail
                refine HF.out.mono ?_
                rintro e w' ⟨rfl, rfl⟩
                go_wp2_with fail
                refine HPn.out.mono ?_
                rintro e w2 ⟨rfl, rfl⟩
                have hb2 := Below.refl wr.heap.size wr
                go_wp2
                go_ret2
                exact ⟨HB1.out.trans ((HB.out.trans (hb2.mono hzr)).mono hz1), .inl ⟨HN.out, rfl⟩⟩
              · obtain ⟨Z, HZ⟩ : ∃ z, Hid (Lib.idxOfS acts X = z) := ⟨_, Lib.hid rfl⟩
                rw [HZ.out] at HF hidx
                have hidx2 : (0 : Int) ≤ Z := by omega
                clear hidx hgood hnv
                go_wp2_with fail
                refine HF.out.mono ?_
                rintro e w' ⟨rfl, rfl⟩
                go_wp2_with fail
                refine HPn.out.mono ?_
                rintro e w2 ⟨rfl, rfl⟩
                have hb2 := Below.refl wr.heap.size wr
                go_wp2
                go_ret2
                exact ⟨HB1.out.trans ((HB.out.trans (hb2.mono hzr)).mono hz1), .inl ⟨HN.out, rfl⟩⟩
            | some t =>
              have hidx : Lib.idxOfS acts X < 0 := by
                rcases Int.lt_or_le (Lib.idxOfS acts X) 0 with h | h
                · exact h
                · exact absurd ⟨h, t, hnv⟩ hgood
              rw [numT_some hnv] at HPn
              have HPn := Lib.hid HPn
              obtain ⟨Z, HZ⟩ : ∃ z, Hid (Lib.idxOfS acts X = z) := ⟨_, Lib.hid rfl⟩
              rw [HZ.out] at HF hidx
              clear hgood hnv
              go_wp2_with fail
              refine HF.out.mono ?_
              rintro e w' ⟨rfl, rfl⟩
              go_wp2_with fail
              refine HPn.out.mono ?_
              rintro e w2 ⟨rfl, rfl⟩
              have hb2 := Below.refl wr.heap.size wr
              go_wp2
              go_ret2
              exact ⟨HB1.out.trans ((HB.out.trans (hb2.mono hzr)).mono hz1), .inl ⟨HN.out, rfl⟩⟩
        · have HN : Hid (rowO acts i s.data.toList = some es) := Lib.hid (by
            rw [HP2.out, hrel2.out.2, List.drop_of_length_le (by have := HR2.out; omega)]
            simp [edgesO])
          obtain ⟨va, vc, rfl⟩ := own_slice' HES.out
          go_wp2
          go_ret2
          exact ⟨HB1.out.trans (HB.out.mono hz1), .inr ⟨es, _, HN.out, rfl, own_low HES.out hz1, by have := hrel2.out.1; omega⟩⟩
  · have hq : (x0.toList == (D ++ (⟨#[58]⟩ : ByteArray)).toList) = false := by rw [bytes_eq]; exact decide_eq_false hx
    have HP2 : Hid (rowO acts i s.data.toList = none) := Lib.hid (by rw [HP.out, if_neg hx])
    clear hx
    go_wp2
    have hadd1 : ¬ 9223372036854775807 < D.size + 1 := by omega
    have hadd2 : ¬ 9223372036854775807 < D.size + (⟨#[58]⟩ : ByteArray).size := by omega
    have hI2 := fun (W : World) => (HI.out W).mono (fun e w' h => (⟨h.1, by rw [← h.2]; exact Below.refl _ _⟩ : e = .returned (.string D) ∧ Below W.heap.size W w'))
    have cI := fun (d : Nat) (os : Array Obj) => Calls.regrown_of (w := w1) (d := d) (os := os) (hI2 _)
    have cC := fun (d : Nat) (os : Array Obj) => cell_regrown c0 d os
    clear hI2
    refine wp_region_quiet_below (by kernel_rfl) (by kernel_rfl) ?_
    repeat (go_big_quiet_step ((go_at_call 54; exact cI _ _)))
    refine wpQuiet_nil ?_
    intro _ hw'
    obtain ⟨⟨dq, osq⟩, hw''⟩ := hw'
    subst hw''
    have hq1 := below_regrown w1 dq osq
    go_wp2
    go_ret2
    exact ⟨HB1.out.trans (hq1.mono hz1), .inl ⟨HP2.out, rfl⟩⟩
end Go.Proofs.YtlnncklanabbdaaGreatDoor
