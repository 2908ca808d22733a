/- parseState. -/
import Derived.Test.YtilibhjhcomndaaGreatDoorPActs
import Derived.Deep.RegionHeld3
import Derived.Lib.QuietBelow
namespace Go.Proofs.YtilibhjhcomndaaGreatDoor
open Go.RowKit Pl

theorem edgesO_odd (acts : List ByteArray) : ∀ (x : Nat) (r : List (List UInt8)), r.length = 2 * x + 1 → edgesO acts r = none
  | 0, r, h => by
    match r, h with
    | [a], _ => rfl
  | x + 1, r, h => by
    match r, h with
    | a :: n :: r', h =>
      have ih := edgesO_odd acts x r' (by simp at h; omega)
      unfold edgesO
      rw [ih]
      split
      · rfl
      · split <;> rfl
theorem edgesO_bad {acts : List ByteArray} {a n : List UInt8} {r : List (List UInt8)} (h : Lib.idxOfS acts (mk a) < 0 ∨ numV n = none) : edgesO acts (a :: n :: r) = none := by
  unfold edgesO
  rcases h with h | h
  · rw [if_pos h]
  · split
    · rfl
    · rw [h]
theorem edgesO_good {acts : List ByteArray} {a n : List UInt8} {r : List (List UInt8)} {t : Int} (h : ¬ Lib.idxOfS acts (mk a) < 0) (h2 : numV n = some t) : edgesO acts (a :: n :: r) = (edgesO acts r).map fun l => (Lib.idxOfS acts (mk a), t) :: l := by
  rw [edgesO, if_neg h, h2]
theorem rowO_eq (acts : List ByteArray) (i : Nat) (s : ByteArray) : ∃ r : List (List UInt8), (spB 32 s).drop 1 = r.map mk ∧ (spB 32 s).length = r.length + 1 ∧ rowO acts i s.data.toList = if at_ (spB 32 s) 0 = mk (Lib.decDigits i ++ [58]) then edgesO acts r else none := by
  unfold rowO spB
  cases e : sp 32 s.data.toList with
  | nil => exact absurd e (sp_ne _ _)
  | cons h r =>
    refine ⟨r, rfl, by simp, ?_⟩
    have e1 : at_ ((h :: r).map mk) 0 = mk h := rfl
    rw [e1]
    have e3 : (mk h = mk (Lib.decDigits i ++ [58])) ↔ h = Lib.decDigits i ++ [58] := ⟨fun q => by have := congrArg (fun x : ByteArray => x.data.toList) q; simpa [mk] using this, fun q => by rw [q]⟩
    simp only [e3]
theorem bytes_eq (x y : ByteArray) : (x.toList == y.toList) = decide (x = y) := by
  rw [Bool.eq_iff_iff, beq_iff_eq, decide_eq_true_iff, ByteArray.toList_eq, ByteArray.toList_eq]
  exact ⟨fun h => by rw [← mk_of x, h, mk_of], fun h => by rw [h]⟩
theorem two_src (W : World) (u v : Value) (t : TypeId) : SrcAt (W.alloc (.cells #[u, v] t)) (some ⟨W.heap.size, 0, none⟩) [u, v] := fun j x hx => by
  have hj : j < 2 := by
    have := (List.getElem?_eq_some_iff.1 hx).1
    simpa using this
  refine ⟨_, rfl, ?_⟩
  rw [add_plainly, (Whole.new W t #[u, v]).cell, ← hx]
  match j, hj with
  | 0, _ => rfl
  | 1, _ => rfl

theorem own_up' {w w' : World} {base : Nat} {e : TypeId} {size n : Nat} {v : Value} {xs : List Value} (h : w.ownsRow base e size v n xs) (hb : Below w.heap.size w w') : w'.ownsRow base e size v n xs :=
  h.kept (below_grown' hb) (by cases v.ownBlock <;> simp)
theorem at_in (ws : List ByteArray) (k : Nat) (h : k < ws.length) : at_ ws k ∈ ws := by
  unfold at_
  rw [List.getD_eq_getElem?_getD, List.getElem?_eq_getElem h]
  exact List.getElem_mem h
theorem findV_no {acts : List ByteArray} {X : ByteArray} (ha : actsB acts = true) (h : Lib.idxOfS acts X < 0) : findV acts X = .tuple #[.int .i64 0, .bool false, .int .i64 0] := by
  unfold findV; rw [ha, if_pos rfl, if_neg (by omega)]
theorem findV_yes {acts : List ByteArray} {X : ByteArray} (ha : actsB acts = true) (h : 0 ≤ Lib.idxOfS acts X) : findV acts X = .tuple #[.int .i64 (Lib.idxOfS acts X), .bool true, .int .i64 0] := by
  unfold findV; rw [ha, if_pos rfl, if_pos h]
set_option maxRecDepth 100000 in
set_option maxHeartbeats 8000000 in
theorem parseState_any {w : World} {a : Option Addr} {n c : Nat} {acts : List ByteArray} (i : Nat) (s : ByteArray) (hi : i ≤ 1000000) (hs : s.size ≤ 1000000) (E : Env w) (A : StrArg w a n c acts) (hact : actsB acts = true) :
    Calls Tryz.prog 64 #[.slice a n c, .int .i64 i, .string s] w fun e w' => Below w.heap.size w w' ∧
      ((rowO acts i s.data.toList = none ∧ e = .returned (.tuple #[.slice none 0 0, .bool false])) ∨
        ∃ es v, rowO acts i s.data.toList = some es ∧ e = .returned (.tuple #[v, .bool true]) ∧ EdgeOwn w' w.heap.size v es ∧ es.length ≤ 1000000) := by
  obtain ⟨i1, hi1, hz10, hz11, hz12⟩ := info_parts infoEdge
  have HE := Lib.hid E
  have HA := Lib.hid A
  have HACT := Lib.hid hact
  clear E A hact
  obtain ⟨r, hr1, hr2, hr3⟩ := rowO_eq acts i s
  have hN2 := spB_count 32 s
  have HSp := split_any 32 s hs w HE.out
  obtain ⟨ws, HWS⟩ : ∃ ws, Hid (spB 32 s = ws) := ⟨_, Lib.hid rfl⟩
  rw [HWS.out] at hr1 hr2 hr3 hN2 HSp
  have HSp := Lib.hid HSp
  have HR1 := Lib.hid hr1
  have HR3 := Lib.hid hr3
  have HSz : Hid (∀ x ∈ ws, x.size ≤ 1000000) := Lib.hid (by rw [← HWS.out]; exact fun x hx => Nat.le_trans (spB_size hx) hs)
  obtain ⟨N, HNl⟩ : ∃ N, Hid (ws.length = N) := ⟨_, Lib.hid rfl⟩
  rw [HNl.out] at HSp hN2 hr2
  have HR2 := Lib.hid hr2
  clear hr1 hr2 hr3
  go_enter Tryz.func64, Tryz.ntmps64
  go_wp2_with fail
  refine HSp.out.mono ?_
  rintro e w' ⟨rfl, rfl⟩
  have hAw := strs_new w ws (by have := HNl.out; omega) (fun x hx => Nat.le_trans (HSz.out x hx) (by omega))
  rw [HNl.out] at hAw
  obtain ⟨w1, HW1⟩ : ∃ z, Hid (w.alloc (.cells (ws.map Value.string).toArray 9) = z) := ⟨_, Lib.hid rfl⟩
  have hb1 : Below w.heap.size w w1 := by rw [← HW1.out]; exact (Below.refl _ w).alloc (Nat.le_refl _) _
  rw [HW1.out] at hAw ⊢
  have HAw := Lib.hid hAw
  have HB1 := Lib.hid hb1
  have hz1 := hb1.size
  clear hAw hb1
  have HI := fun (W : World) (hb : Below w1.heap.size w1 W) => itoa_any i (by omega) W ((HE.out.below HB1.out).below hb)
  obtain ⟨D, HD⟩ : ∃ D, Hid (mk (Lib.decDigits i) = D) := ⟨_, Lib.hid rfl⟩
  rw [HD.out] at HI
  have HI := Lib.hid HI
  have hD : D.size ≤ 21 := by rw [← HD.out, mk_size']; exact dec_length i (by omega)
  obtain ⟨x0, HX0⟩ : ∃ x, Hid (at_ ws 0 = x) := ⟨_, Lib.hid rfl⟩
  have hN1 : 0 < N := by have := HR2.out; omega
  have c0 : w1.cell? ⟨w.heap.size, 0, none⟩ = some (.string x0) := by
    obtain ⟨b, off, e, hc⟩ := HAw.out.cells 0 (by have := HNl.out; omega)
    cases e
    rw [← HX0.out]; exact hc
  have hN0 : (0 : Int) < N := by omega
  have HP : Hid (rowO acts i s.data.toList = if x0 = D ++ (⟨#[58]⟩ : ByteArray) then edgesO acts r else none) := Lib.hid (by
    rw [HR3.out, HX0.out, ← HD.out, show (⟨#[58]⟩ : ByteArray) = mk [58] from rfl, mk_add])
  have hcol : (⟨#[58]⟩ : ByteArray).size = 1 := rfl
  by_cases hx : x0 = D ++ (⟨#[58]⟩ : ByteArray)
  · have hq : (x0.toList == (D ++ (⟨#[58]⟩ : ByteArray)).toList) = true := by rw [bytes_eq]; exact decide_eq_true hx
    have HP2 : Hid (rowO acts i s.data.toList = edgesO acts r) := Lib.hid (by rw [HP.out, if_pos hx])
    clear hx
    by_cases hev : N % 2 = 0
    · have HN : Hid (rowO acts i s.data.toList = none) := Lib.hid (by
        rw [HP2.out]
        exact edgesO_odd acts ((r.length - 1) / 2) r (by have := HR2.out; omega))
      have hmod : ((N : Int).tmod 2 == 0) = true := by rw [beq_iff_eq, Int.tmod_eq_emod_of_nonneg (by omega)]; omega
      have hmod2 : ((N : Int) % 2 == 0) = true := by rw [beq_iff_eq]; omega
      go_wp2
      have hadd1 : ¬ 9223372036854775807 < D.size + 1 := by omega
      have hadd2 : ¬ 9223372036854775807 < D.size + (⟨#[58]⟩ : ByteArray).size := by omega
      go_region_held3 (fun w' => w'.cell? ⟨w.heap.size, 0, none⟩ = some (.string x0))
        ((first | assumption | go_keep))
        (first | (go_at_call 59; refine (HI.out _ (by first | exact (Below.refl _ _).drew | exact Below.refl _ _)).mono ?_; rintro e wI ⟨rfl, hbI⟩; have kI := up_cell hbI c0))
      go_wp2
      go_ret2
      exact ⟨HB1.out.drew.trans (hbI.mono hz1), .inl ⟨HN.out, rfl⟩⟩
    · have hmod : ((N : Int).tmod 2 == 0) = false := by rw [beq_eq_false_iff_ne, Int.tmod_eq_emod_of_nonneg (by omega)]; omega
      have hmod2 : ((N : Int) % 2 == 0) = false := by rw [beq_eq_false_iff_ne]; omega
      go_wp2
      have hadd1 : ¬ 9223372036854775807 < D.size + 1 := by omega
      have hadd2 : ¬ 9223372036854775807 < D.size + (⟨#[58]⟩ : ByteArray).size := by omega
      go_region_held3 (fun w' => w'.cell? ⟨w.heap.size, 0, none⟩ = some (.string x0))
        ((first | assumption | go_keep))
        (first | (go_at_call 59; refine (HI.out _ (by first | exact (Below.refl _ _).drew | exact Below.refl _ _)).mono ?_; rintro e wI ⟨rfl, hbI⟩; have kI := up_cell hbI c0))
      have HBI := Lib.hid (((Below.refl _ w1).drew).trans hbI)
      have hrl : r.length % 2 = 0 := by have := HR2.out; omega
      clear kI hbI
      go_wp2
      go_loopw [9, 10, 11, 12, 13, 14, 15] (fun v k _ _ _ _ _ wr => ∃ (x : Nat) (es : List Edg), k = .int .i64 ((2 * x + 1 : Nat) : Int) ∧ 2 * x + 1 ≤ N ∧ EdgeOwn wr w1.heap.size v es ∧ Hid (es.length = x ∧ edgesO acts r = (edgesO acts (r.drop (2 * x))).map fun q => es ++ q) ∧ Below w1.heap.size w1 wr) (fun _ k _ _ _ _ _ _ => N - (intOf k).toNat)
      case atStart => exact ⟨0, [], by simp, by omega, World.ownsRow_nil _ _ _ _, Lib.hid ⟨rfl, by simp⟩, HBI.out⟩
      case round =>
        obtain ⟨x, es, rfl, hx, hes, hrel2, hb⟩ := hrel
        have HES := Lib.hid hes
        have HB := Lib.hid hb
        have hzr := hb.size
        clear hes hb
        by_cases hlt : 2 * x + 1 < N
        · have h2x : 2 * x + 1 < r.length := by have := HR2.out; omega
          obtain ⟨a1, n1, HD2⟩ : ∃ a1 n1, Hid (r.drop (2 * x) = a1 :: n1 :: r.drop (2 * (x + 1))) := ⟨r[2 * x], r[2 * x + 1], Lib.hid (by
            rw [List.drop_eq_getElem_cons (by omega), List.drop_eq_getElem_cons (by omega)]; rfl)⟩
          have HX1 : Hid (at_ ws (2 * x + 1) = mk a1 ∧ at_ ws (2 * x + 1 + 1) = mk n1) := Lib.hid (by
            have e1 : ∀ j, at_ ws (j + 1) = at_ (r.map mk) j := fun j => by rw [← HR1.out]; simp [at_, List.getD]
            have e2 : ∀ j, at_ (r.map mk) (2 * x + j) = at_ ((r.drop (2 * x)).map mk) j := fun j => by simp [at_, List.getD]
            rw [e1, e1]
            have e3 := e2 0
            have e4 := e2 1
            rw [HD2.out] at e3 e4
            exact ⟨e3, e4⟩)
          obtain ⟨X, HX⟩ : ∃ z, Hid (mk a1 = z) := ⟨_, Lib.hid rfl⟩
          obtain ⟨Y, HY⟩ : ∃ z, Hid (mk n1 = z) := ⟨_, Lib.hid rfl⟩
          have HYd : Hid (Y.data.toList = n1) := Lib.hid (by rw [← HY.out, mk_data])
          have hAr := HAw.out.below HB.out
          have c1 : wr.cell? ⟨w.heap.size, 2 * x + 1, none⟩ = some (.string X) := by
            obtain ⟨b, off, e, hc⟩ := hAr.cells (2 * x + 1) (by have := HNl.out; omega)
            cases e
            have h3 := HX1.out.1
            unfold at_ at h3
            rw [h3, HX.out, Nat.zero_add] at hc
            exact hc
          have c2 : wr.cell? ⟨w.heap.size, 2 * x + 1 + 1, none⟩ = some (.string Y) := by
            obtain ⟨b, off, e, hc⟩ := hAr.cells (2 * x + 1 + 1) (by have := HNl.out; omega)
            cases e
            have h3 := HX1.out.2
            unfold at_ at h3
            rw [h3, HY.out, Nat.zero_add] at hc
            exact hc
          have HAc := Lib.hid ((HA.out.below HB1.out).below HB.out)
          have HEr := Lib.hid ((HE.out.below HB1.out).below HB.out)
          obtain ⟨e0, e1, e2, hEr⟩ := HEr.out.errs
          have HF := Lib.hid (Find_any X hEr HAc.out)
          have hYs : Y.size ≤ 1000000 := by
            rw [← HY.out, ← HX1.out.2]
            exact HSz.out _ (at_in _ _ (by have := HNl.out; omega))
          have HPn := parseNumber_any Y (by omega) wr HEr.out
          rw [HYd.out] at HPn
          have hwr1 : IntKind.i64.wrap (((2 * x + 1 : Nat) : Int) + 1) = ((2 * x + 1 : Nat) : Int) + 1 := IntWalk.i64_in _ (by omega)
          clear hEr hAr
          by_cases hgood : 0 ≤ Lib.idxOfS acts X ∧ ∃ t, numV n1 = some t
          · obtain ⟨hidx, t, hnum⟩ := hgood
            rw [findV_yes HACT.out hidx] at HF
            rw [numT_some hnum] at HPn
            have HPn := Lib.hid HPn
            have HG : Hid ((es ++ [(Lib.idxOfS acts X, t)]).length = x + 1 ∧ edgesO acts r = (edgesO acts (r.drop (2 * (x + 1)))).map fun q => (es ++ [(Lib.idxOfS acts X, t)]) ++ q) := Lib.hid ⟨by rw [List.length_append, hrel2.out.1]; rfl, by
              rw [hrel2.out.2, HD2.out, edgesO_good (by rw [HX.out]; omega) hnum, HX.out, Option.map_map]
              congr 1
              funext q
              simp⟩
            obtain ⟨Z, HZ⟩ : ∃ z, Hid (Lib.idxOfS acts X = z) := ⟨_, Lib.hid rfl⟩
            rw [HZ.out] at HG HF
            obtain ⟨va, vc, rfl⟩ := own_slice' HES.out
            have HOW : Hid (wr.ownsRow w1.heap.size 81 2 (.slice va es.length vc) es.length (ecells es)) := Lib.hid HES.out
            clear hidx hnum
            go_wp2_with fail
            refine HF.out.mono ?_
            rintro e w' ⟨rfl, rfl⟩
            go_wp2_with fail
            refine HPn.out.mono ?_
            rintro e w2 ⟨rfl, hb2⟩
            have HOW2 : Hid (∀ o, (w2.alloc o).ownsRow w1.heap.size 81 2 (.slice va es.length vc) es.length (ecells es)) := Lib.hid fun o => (own_up' HOW.out hb2).alloc o
            have Hb2 := Lib.hid hb2
            have hz2 := hb2.size
            have hesl : es.length ≤ 1000000 := by have := hrel2.out.1; omega
            clear hb2
            go_wp2_with (at_builtin; (refine wpList_append_sz rfl (.tmp 62) (.tmp 66) 77 rfl w1.heap.size 81 i1 (.agg #[.int .i64 0, .int .i64 0]) 2 16 Tryz.underlying77 hi1 hz10 hz11 hz12 rfl (by decide) (.slice va es.length vc) rfl es.length (ecells es) (HOW2.out _) (some ⟨w2.heap.size, 0, none⟩) 1 1 rfl [.int .i64 Z, .int .i64 t] (fun h => by cases h) rfl (two_src _ _ _ _) (by simp [Value.oneCell']) (by unfold maxLen; omega) (by omega) (by simp; omega) ?_); intro v4 w4 hv4 hg4 hat4; refine Hid.out ?_)
            refine Lib.hid ?_
            have hE4 : EdgeOwn w4 w1.heap.size v4 (es ++ [(Z, t)]) := by
              unfold EdgeOwn
              rw [List.length_append, ecells_app]
              exact hv4
            have hb4 : Below w1.heap.size w1 w4 := (((HB.out.trans (Hb2.out.mono hzr)).alloc (by omega) _)).grown hg4 (by simp; omega) (own_ge (HOW2.out (.cells #[.int .i64 Z, .int .i64 t] 81)))
            have HE4 := Lib.hid hE4
            have HB4 := Lib.hid hb4
            clear hv4 hg4 hat4 hE4 hb4
            go_wp2
            go_roundw
            case rel => exact ⟨x + 1, es ++ [(Z, t)], by go_num, by omega, HE4.out, HG, HB4.out⟩
            case measure => simp [intOf]; omega
          · have HN : Hid (rowO acts i s.data.toList = none) := Lib.hid (by
              rw [HP2.out, hrel2.out.2, HD2.out, edgesO_bad]
              · rfl
              · by_cases hidx : Lib.idxOfS acts X < 0
                · exact .inl (by rw [HX.out]; exact hidx)
                · right
                  cases hnv : numV n1 with
                  | none => rfl
                  | some t => exact absurd ⟨by omega, t, hnv⟩ hgood)
            cases hnv : numV n1 with
            | none =>
              rw [numT_none hnv] at HPn
              have HPn := Lib.hid HPn
              by_cases hidx : Lib.idxOfS acts X < 0
              · rw [findV_no HACT.out hidx] at HF
                clear hidx hgood hnv
                go_wp2_with fail
                refine HF.out.mono ?_
                rintro e w' ⟨rfl, rfl⟩
                go_wp2_with fail
                refine HPn.out.mono ?_
                rintro e w2 ⟨rfl, hb2⟩
                go_wp2
                go_ret2
                exact ⟨HB1.out.trans ((HB.out.trans (hb2.mono hzr)).mono hz1), .inl ⟨HN.out, rfl⟩⟩
              · rw [findV_yes HACT.out (by omega)] at HF
                obtain ⟨Z, HZ⟩ : ∃ z, Hid (Lib.idxOfS acts X = z) := ⟨_, Lib.hid rfl⟩
                rw [HZ.out] at HF
                clear hidx hgood hnv
                go_wp2_with fail
                refine HF.out.mono ?_
                rintro e w' ⟨rfl, rfl⟩
                go_wp2_with fail
                refine HPn.out.mono ?_
                rintro e w2 ⟨rfl, hb2⟩
                go_wp2
                go_ret2
                exact ⟨HB1.out.trans ((HB.out.trans (hb2.mono hzr)).mono hz1), .inl ⟨HN.out, rfl⟩⟩
            | some t =>
              have hidx : Lib.idxOfS acts X < 0 := by
                rcases Int.lt_or_le (Lib.idxOfS acts X) 0 with h | h
                · exact h
                · exact absurd ⟨h, t, hnv⟩ hgood
              rw [findV_no HACT.out hidx] at HF
              rw [numT_some hnv] at HPn
              have HPn := Lib.hid HPn
              clear hidx hgood hnv
              go_wp2_with fail
              refine HF.out.mono ?_
              rintro e w' ⟨rfl, rfl⟩
              go_wp2_with fail
              refine HPn.out.mono ?_
              rintro e w2 ⟨rfl, hb2⟩
              go_wp2
              go_ret2
              exact ⟨HB1.out.trans ((HB.out.trans (hb2.mono hzr)).mono hz1), .inl ⟨HN.out, rfl⟩⟩
        · have HN : Hid (rowO acts i s.data.toList = some es) := Lib.hid (by
            rw [HP2.out, hrel2.out.2, List.drop_of_length_le (by have := HR2.out; omega)]
            simp [edgesO])
          obtain ⟨va, vc, rfl⟩ := own_slice' HES.out
          go_wp2
          go_ret2
          exact ⟨HB1.out.trans (HB.out.mono hz1), .inr ⟨es, _, HN.out, rfl, own_low HES.out hz1, by have := hrel2.out.1; omega⟩⟩
  · have hq : (x0.toList == (D ++ (⟨#[58]⟩ : ByteArray)).toList) = false := by rw [bytes_eq]; exact decide_eq_false hx
    have HP2 : Hid (rowO acts i s.data.toList = none) := Lib.hid (by rw [HP.out, if_neg hx])
    clear hx
    go_wp2
    have hadd1 : ¬ 9223372036854775807 < D.size + 1 := by omega
    have hadd2 : ¬ 9223372036854775807 < D.size + (⟨#[58]⟩ : ByteArray).size := by omega
    have cI := fun (d : Nat) (os : Array Obj) => Calls.regrown_of (w := w1) (d := d) (os := os) (HI.out _ (below_regrown w1 d os))
    have cC := fun (d : Nat) (os : Array Obj) => cell_regrown c0 d os
    refine wp_region_quiet_below (by kernel_rfl) (by kernel_rfl) ?_
    repeat (go_big_quiet_step ((go_at_call 59; exact cI _ _)))
    refine wpQuiet_nil ?_
    intro _ hw'
    obtain ⟨⟨dq, osq⟩, hw''⟩ := hw'
    subst hw''
    have hq1 := below_regrown w1 dq osq
    go_wp2
    go_ret2
    exact ⟨HB1.out.trans (hq1.mono hz1), .inl ⟨HP2.out, rfl⟩⟩
end Go.Proofs.YtilibhjhcomndaaGreatDoor
