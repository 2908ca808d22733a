/- parseState. -/
import Derived.Test.YtlnncklanabbdaaGreatDoorNumb
import Derived.Test.YtlnncklanabbdaaGreatDoorSplit2
import Derived.Test.YtlnncklanabbdaaGreatDoorPActs
import Derived.Deep.RegionHeld3
import Derived.Lib.QuietBelow
namespace Go.Proofs.YtlnncklanabbdaaGreatDoor
open Go.RowKit Pl

theorem edgesO_odd (acts : List ByteArray) : ∀ (x : Nat) (r : List (List UInt8)), r.length = 2 * x + 1 → edgesO acts r = none
  | 0, r, h => by
    match r, h with
    | [a], _ => rfl
  | x + 1, r, h => by
    match r, h with
    | a :: n :: r', h =>
      have ih := edgesO_odd acts x r' (by simp at h; omega)
      unfold edgesO
      rw [ih]
      split
      · rfl
      · split <;> rfl
theorem edgesO_bad {acts : List ByteArray} {a n : List UInt8} {r : List (List UInt8)} (h : Lib.idxOfS acts (mk a) < 0 ∨ numV n = none) : edgesO acts (a :: n :: r) = none := by
  unfold edgesO
  rcases h with h | h
  · rw [if_pos h]
  · split
    · rfl
    · rw [h]
theorem edgesO_good {acts : List ByteArray} {a n : List UInt8} {r : List (List UInt8)} {t : Int} (h : ¬ Lib.idxOfS acts (mk a) < 0) (h2 : numV n = some t) : edgesO acts (a :: n :: r) = (edgesO acts r).map fun l => (Lib.idxOfS acts (mk a), t) :: l := by
  rw [edgesO, if_neg h, h2]
theorem rowO_eq (acts : List ByteArray) (i : Nat) (s : ByteArray) : ∃ r : List (List UInt8), (spB 32 s).drop 1 = r.map mk ∧ (spB 32 s).length = r.length + 1 ∧ rowO acts i s.data.toList = if at_ (spB 32 s) 0 = mk (Lib.decDigits i ++ [58]) then edgesO acts r else none := by
  unfold rowO spB
  cases e : sp 32 s.data.toList with
  | nil => exact absurd e (sp_ne _ _)
  | cons h r =>
    refine ⟨r, rfl, by simp, ?_⟩
    have e1 : at_ ((h :: r).map mk) 0 = mk h := rfl
    rw [e1]
    have e3 : (mk h = mk (Lib.decDigits i ++ [58])) ↔ h = Lib.decDigits i ++ [58] := ⟨fun q => by have := congrArg (fun x : ByteArray => x.data.toList) q; simpa [mk] using this, fun q => by rw [q]⟩
    simp only [e3]
theorem bytes_eq (x y : ByteArray) : (x.toList == y.toList) = decide (x = y) := by
  rw [Bool.eq_iff_iff, beq_iff_eq, decide_eq_true_iff, ByteArray.toList_eq, ByteArray.toList_eq]
  exact ⟨fun h => by rw [← mk_of x, h, mk_of], fun h => by rw [h]⟩
theorem two_src (W : World) (u v : Value) (t : TypeId) : SrcAt (W.alloc (.cells #[u, v] t)) (some ⟨W.heap.size, 0, none⟩) [u, v] := fun j x hx => by
  have hj : j < 2 := by
    have := (List.getElem?_eq_some_iff.1 hx).1
    simpa using this
  refine ⟨_, rfl, ?_⟩
  rw [add_plainly, (Whole.new W t #[u, v]).cell, ← hx]
  match j, hj with
  | 0, _ => rfl
  | 1, _ => rfl

theorem own_up' {w w' : World} {base : Nat} {e : TypeId} {size n : Nat} {v : Value} {xs : List Value} (h : w.ownsRow base e size v n xs) (hb : Below w.heap.size w w') : w'.ownsRow base e size v n xs :=
  h.kept (below_grown' hb) (by cases v.ownBlock <;> simp)
theorem at_in (ws : List ByteArray) (k : Nat) (h : k < ws.length) : at_ ws k ∈ ws := by
  unfold at_
  rw [List.getD_eq_getElem?_getD, List.getElem?_eq_getElem h]
  exact List.getElem_mem h
theorem findV_no {acts : List ByteArray} {X : ByteArray} (ha : actsB acts = true) (h : Lib.idxOfS acts X < 0) : findV acts X = .tuple #[.int .i64 0, .bool false, .int .i64 0] := by
  unfold findV; rw [ha, if_pos rfl, if_neg (by omega)]
theorem findV_yes {acts : List ByteArray} {X : ByteArray} (ha : actsB acts = true) (h : 0 ≤ Lib.idxOfS acts X) : findV acts X = .tuple #[.int .i64 (Lib.idxOfS acts X), .bool true, .int .i64 0] := by
  unfold findV; rw [ha, if_pos rfl, if_pos h]
set_option maxRecDepth 100000 in
set_option maxHeartbeats 8000000 in
theorem parseState_any {w : World} {a : Option Addr} {n c : Nat} {acts : List ByteArray} {a2 : Option Addr} {N c2 : Nat} {r : List (List UInt8)} (E : Env w) (A : StrArg w a n c acts) (B : StrArg w a2 N c2 (r.map mk)) (hact : actsB acts = true) (hr : r.length ≤ 1000000) (hsz : ∀ x ∈ r, x.length ≤ 1000000) :
    Calls Tryz.prog 64 #[.slice a n c, .slice a2 N c2] w fun e w' => Below w.heap.size w w' ∧
      ((edgesO acts r = none ∧ e = .returned (.tuple #[.slice none 0 0, .bool false])) ∨
        ∃ es v, edgesO acts r = some es ∧ e = .returned (.tuple #[v, .bool true]) ∧ EdgeOwn w' w.heap.size v es ∧ es.length ≤ 1000000) := by
  obtain ⟨i1, hi1, hz10, hz11, hz12⟩ := info_parts infoEdge
  have HE := Lib.hid E
  have HA := Lib.hid A
  have HBs := Lib.hid B
  have HACT := Lib.hid hact
  have HSz := Lib.hid hsz
  have hN2 : N ≤ 1000000 := by have := B.len; rw [List.length_map] at this; omega
  have HR2 : Hid (N = r.length) := Lib.hid (by have := B.len; rwa [List.length_map] at this)
  clear E A B hact hsz hr
  go_enter Tryz.func64, Tryz.ntmps64
  by_cases hev : N % 2 = 1
  · have HN : Hid (edgesO acts r = none) := Lib.hid (edgesO_odd acts ((r.length - 1) / 2) r (by have := HR2.out; omega))
    have hmod : ((N : Int).tmod 2 == 1) = true := by rw [beq_iff_eq, Int.tmod_eq_emod_of_nonneg (by omega)]; omega
    have hmod2 : ((N : Int) % 2 == 1) = true := by rw [beq_iff_eq]; omega
    go_wp2
    go_ret2
    exact ⟨Below.refl _ _, .inl ⟨HN.out, rfl⟩⟩
  · have hmod : ((N : Int).tmod 2 == 1) = false := by rw [beq_eq_false_iff_ne, Int.tmod_eq_emod_of_nonneg (by omega)]; omega
    have hmod2 : ((N : Int) % 2 == 1) = false := by rw [beq_eq_false_iff_ne]; omega
    have hrl : r.length % 2 = 0 := by have := HR2.out; omega
    go_wp2
    go_loopw [6, 7, 8, 9, 10, 11, 12] (fun v k _ _ _ _ _ wr => ∃ (x : Nat) (es : List Edg), k = .int .i64 ((2 * x : Nat) : Int) ∧ 2 * x ≤ N ∧ EdgeOwn wr w.heap.size v es ∧ Hid (es.length = x ∧ edgesO acts r = (edgesO acts (r.drop (2 * x))).map fun q => es ++ q) ∧ Below w.heap.size w wr) (fun _ k _ _ _ _ _ _ => N - (intOf k).toNat)
    case atStart => exact ⟨0, [], by simp, by omega, World.ownsRow_nil _ _ _ _, Lib.hid ⟨rfl, by simp⟩, Below.refl _ _⟩
    case round =>
      obtain ⟨x, es, rfl, hx, hes, hrel2, hb⟩ := hrel
      have HES := Lib.hid hes
      have HB := Lib.hid hb
      have hzr := hb.size
      clear hes hb
      by_cases hlt : 2 * x < N
      · have h2x : 2 * x + 1 < r.length := by have := HR2.out; omega
        obtain ⟨a1, n1, HD2⟩ : ∃ a1 n1, Hid (r.drop (2 * x) = a1 :: n1 :: r.drop (2 * (x + 1)) ∧ r[2 * x]? = some a1 ∧ r[2 * x + 1]? = some n1) := ⟨r[2 * x], r[2 * x + 1], Lib.hid ⟨by
          rw [List.drop_eq_getElem_cons (by omega), List.drop_eq_getElem_cons (by omega)]; rfl, List.getElem?_eq_getElem _, List.getElem?_eq_getElem _⟩⟩
        obtain ⟨X, HX⟩ : ∃ z, Hid (mk a1 = z) := ⟨_, Lib.hid rfl⟩
        obtain ⟨Y, HY⟩ : ∃ z, Hid (mk n1 = z) := ⟨_, Lib.hid rfl⟩
        have HYd : Hid (Y.data.toList = n1) := Lib.hid (by rw [← HY.out, mk_data])
        have hAr := HBs.out.below HB.out
        obtain ⟨bw, ow, rfl, c1⟩ := hAr.cells (2 * x) (by rw [List.length_map]; omega)
        have c2' : wr.cell? ⟨bw, ow + (2 * x + 1), none⟩ = some (.string Y) := by
          obtain ⟨b, off, e, hc⟩ := hAr.cells (2 * x + 1) (by rw [List.length_map]; omega)
          cases e
          rw [hc, List.getD_eq_getElem?_getD, List.getElem?_map, HD2.out.2.2, ← HY.out]; rfl
        rw [List.getD_eq_getElem?_getD, List.getElem?_map, HD2.out.2.1, show ((some a1).map mk).getD ByteArray.empty = mk a1 from rfl, HX.out] at c1
        have HAc := Lib.hid (HA.out.below HB.out)
        have HEr := Lib.hid (HE.out.below HB.out)
        obtain ⟨e0, e1, e2, hEr⟩ := HEr.out.errs
        have HF := Lib.hid (Find_any X hEr HAc.out)
        have hYs : Y.size ≤ 1000000 := by
          rw [← HY.out, mk_size']
          exact HSz.out _ (List.mem_of_getElem? HD2.out.2.2)
        have HPn := parseNumber_any Y (by omega) wr HEr.out
        rw [HYd.out] at HPn
        have hwr1 : IntKind.i64.wrap (((2 * x : Nat) : Int) + 1) = ((2 * x : Nat) : Int) + 1 := IntWalk.i64_in _ (by omega)
        clear hEr hAr
        by_cases hgood : 0 ≤ Lib.idxOfS acts X ∧ ∃ t, numV n1 = some t
        · obtain ⟨hidx, t, hnum⟩ := hgood
          rw [findV_yes HACT.out hidx] at HF
          rw [numT_some hnum] at HPn
          have HPn := Lib.hid HPn
          have HG : Hid ((es ++ [(Lib.idxOfS acts X, t)]).length = x + 1 ∧ edgesO acts r = (edgesO acts (r.drop (2 * (x + 1)))).map fun q => (es ++ [(Lib.idxOfS acts X, t)]) ++ q) := Lib.hid ⟨by rw [List.length_append, hrel2.out.1]; rfl, by
            rw [hrel2.out.2, HD2.out.1, edgesO_good (by rw [HX.out]; omega) hnum, HX.out, Option.map_map]
            congr 1
            funext q
            simp⟩
          obtain ⟨Z, HZ⟩ : ∃ z, Hid (Lib.idxOfS acts X = z) := ⟨_, Lib.hid rfl⟩
          rw [HZ.out] at HG HF
          obtain ⟨va, vc, rfl⟩ := own_slice' HES.out
          have HOW : Hid (wr.ownsRow w.heap.size 81 2 (.slice va es.length vc) es.length (ecells es)) := Lib.hid HES.out
          clear hidx hnum
          go_wp2_with fail
          refine HF.out.mono ?_
          rintro e w' ⟨rfl, rfl⟩
          go_wp2_with fail
          refine HPn.out.mono ?_
          rintro e w2 ⟨rfl, hb2⟩
          have HOW2 : Hid (∀ o, (w2.alloc o).ownsRow w.heap.size 81 2 (.slice va es.length vc) es.length (ecells es)) := Lib.hid fun o => (own_up' HOW.out hb2).alloc o
          have Hb2 := Lib.hid hb2
          have hz2 := hb2.size
          have hesl : es.length ≤ 1000000 := by have := hrel2.out.1; omega
          clear hb2
          go_wp2_with (at_builtin; (refine wpList_append_sz rfl (.tmp 48) (.tmp 52) 77 rfl w.heap.size 81 i1 (.agg #[.int .i64 0, .int .i64 0]) 2 16 Tryz.underlying77 hi1 hz10 hz11 hz12 rfl (by decide) (.slice va es.length vc) rfl es.length (ecells es) (HOW2.out _) (some ⟨w2.heap.size, 0, none⟩) 1 1 rfl [.int .i64 Z, .int .i64 t] (fun h => by cases h) rfl (two_src _ _ _ _) (by simp [Value.oneCell']) (by unfold maxLen; omega) (by omega) (by simp; omega) ?_); intro v4 w4 hv4 hg4 hat4; refine Hid.out ?_)
          refine Lib.hid ?_
          have hE4 : EdgeOwn w4 w.heap.size v4 (es ++ [(Z, t)]) := by
            unfold EdgeOwn
            rw [List.length_append, ecells_app]
            exact hv4
          have hb4 : Below w.heap.size w w4 := (((HB.out.trans (Hb2.out.mono hzr)).alloc (by omega) _)).grown hg4 (by simp; omega) (own_ge (HOW2.out (.cells #[.int .i64 Z, .int .i64 t] 81)))
          have HE4 := Lib.hid hE4
          have HB4 := Lib.hid hb4
          clear hv4 hg4 hat4 hE4 hb4
          go_wp2
          go_roundw
          case rel => exact ⟨x + 1, es ++ [(Z, t)], by go_num, by omega, HE4.out, HG, HB4.out⟩
          case measure => simp [intOf]; omega
        · have HN : Hid (edgesO acts r = none) := Lib.hid (by
            rw [hrel2.out.2, HD2.out.1, edgesO_bad]
            · rfl
            · by_cases hidx : Lib.idxOfS acts X < 0
              · exact .inl (by rw [HX.out]; exact hidx)
              · right
                cases hnv : numV n1 with
                | none => rfl
                | some t => exact absurd ⟨by omega, t, hnv⟩ hgood)
          cases hnv : numV n1 with
          | none =>
            rw [numT_none hnv] at HPn
            have HPn := Lib.hid HPn
            by_cases hidx : Lib.idxOfS acts X < 0
            · rw [findV_no HACT.out hidx] at HF
              clear hidx hgood hnv
              go_wp2_with fail
              refine HF.out.mono ?_
              rintro e w' ⟨rfl, rfl⟩
              go_wp2_with fail
              refine HPn.out.mono ?_
              rintro e w2 ⟨rfl, hb2⟩
              go_wp2
              go_ret2
              exact ⟨HB.out.trans (hb2.mono hzr), .inl ⟨HN.out, rfl⟩⟩
            · rw [findV_yes HACT.out (by omega)] at HF
              obtain ⟨Z, HZ⟩ : ∃ z, Hid (Lib.idxOfS acts X = z) := ⟨_, Lib.hid rfl⟩
              rw [HZ.out] at HF
              clear hidx hgood hnv
              go_wp2_with fail
              refine HF.out.mono ?_
              rintro e w' ⟨rfl, rfl⟩
              go_wp2_with fail
              refine HPn.out.mono ?_
              rintro e w2 ⟨rfl, hb2⟩
              go_wp2
              go_ret2
              exact ⟨HB.out.trans (hb2.mono hzr), .inl ⟨HN.out, rfl⟩⟩
          | some t =>
            have hidx : Lib.idxOfS acts X < 0 := by
              rcases Int.lt_or_le (Lib.idxOfS acts X) 0 with h | h
              · exact h
              · exact absurd ⟨h, t, hnv⟩ hgood
            rw [findV_no HACT.out hidx] at HF
            rw [numT_some hnv] at HPn
            have HPn := Lib.hid HPn
            clear hidx hgood hnv
            go_wp2_with fail
            refine HF.out.mono ?_
            rintro e w' ⟨rfl, rfl⟩
            go_wp2_with fail
            refine HPn.out.mono ?_
            rintro e w2 ⟨rfl, hb2⟩
            go_wp2
            go_ret2
            exact ⟨HB.out.trans (hb2.mono hzr), .inl ⟨HN.out, rfl⟩⟩
      · have HN : Hid (edgesO acts r = some es) := Lib.hid (by
          rw [hrel2.out.2, List.drop_of_length_le (by have := HR2.out; omega)]
          simp [edgesO])
        obtain ⟨va, vc, rfl⟩ := own_slice' HES.out
        go_wp2
        go_ret2
        exact ⟨HB.out, .inr ⟨es, _, HN.out, rfl, HES.out, by have := hrel2.out.1; omega⟩⟩
end Go.Proofs.YtlnncklanabbdaaGreatDoor
