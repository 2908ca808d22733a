/- Texts joined: PState, Acc, Obj. -/
import Derived.Test.YtgnbkepdbdgkdaaGreatDoorJq06
import Derived.Deep.RegionHeld3
import Derived.Lib.QuietBelow
/- parseState. -/
namespace Go.Proofs.YtgnbkepdbdgkdaaGreatDoor
open Go.RowKit Pl

theorem edgesO_odd (acts : List ByteArray) : ∀ (x : Nat) (r : List (List UInt8)), r.length = 2 * x + 1 → edgesO acts r = none
  | 0, r, h => by
    match r, h with
    | [a], _ => rfl
  | x + 1, r, h => by
    match r, h with
    | a :: n :: r', h =>
      have ih := edgesO_odd acts x r' (by simp at h; omega)
      unfold edgesO
      rw [ih]
      split
      · rfl
      · split <;> rfl
theorem edgesO_bad {acts : List ByteArray} {a n : List UInt8} {r : List (List UInt8)} (h : Lib.idxOfS acts (mk a) < 0 ∨ numV n = none) : edgesO acts (a :: n :: r) = none := by
  unfold edgesO
  rcases h with h | h
  · rw [if_pos h]
  · split
    · rfl
    · rw [h]
theorem edgesO_good {acts : List ByteArray} {a n : List UInt8} {r : List (List UInt8)} {t : Int} (h : ¬ Lib.idxOfS acts (mk a) < 0) (h2 : numV n = some t) : edgesO acts (a :: n :: r) = (edgesO acts r).map fun l => (Lib.idxOfS acts (mk a), t) :: l := by
  rw [edgesO, if_neg h, h2]
theorem rowO_eq (acts : List ByteArray) (i : Nat) (s : ByteArray) : ∃ r : List (List UInt8), (spB 32 s).drop 1 = r.map mk ∧ (spB 32 s).length = r.length + 1 ∧ rowO acts i s.data.toList = if at_ (spB 32 s) 0 = mk (Lib.decDigits i ++ [58]) then edgesO acts r else none := by
  unfold rowO spB
  cases e : sp 32 s.data.toList with
  | nil => exact absurd e (sp_ne _ _)
  | cons h r =>
    refine ⟨r, rfl, by simp, ?_⟩
    have e1 : at_ ((h :: r).map mk) 0 = mk h := rfl
    rw [e1]
    have e3 : (mk h = mk (Lib.decDigits i ++ [58])) ↔ h = Lib.decDigits i ++ [58] := ⟨fun q => by have := congrArg (fun x : ByteArray => x.data.toList) q; simpa [mk] using this, fun q => by rw [q]⟩
    simp only [e3]
theorem bytes_eq (x y : ByteArray) : (x.toList == y.toList) = decide (x = y) := by
  rw [Bool.eq_iff_iff, beq_iff_eq, decide_eq_true_iff, ByteArray.toList_eq, ByteArray.toList_eq]
  exact ⟨fun h => by rw [← mk_of x, h, mk_of], fun h => by rw [h]⟩
theorem two_src (W : World) (u v : Value) (t : TypeId) : SrcAt (W.alloc (.cells #[u, v] t)) (some ⟨W.heap.size, 0, none⟩) [u, v] := fun j x hx => by
  have hj : j < 2 := by
    have := (List.getElem?_eq_some_iff.1 hx).1
    simpa using this
  refine ⟨_, rfl, ?_⟩
  rw [add_plainly, (Whole.new W t #[u, v]).cell, ← hx]
  match j, hj with
  | 0, _ => rfl
  | 1, _ => rfl

theorem own_up' {w w' : World} {base : Nat} {e : TypeId} {size n : Nat} {v : Value} {xs : List Value} (h : w.ownsRow base e size v n xs) (hb : Below w.heap.size w w') : w'.ownsRow base e size v n xs :=
  h.kept (below_grown' hb) (by cases v.ownBlock <;> simp)
theorem at_in (ws : List ByteArray) (k : Nat) (h : k < ws.length) : at_ ws k ∈ ws := by
  unfold at_
  rw [List.getD_eq_getElem?_getD, List.getElem?_eq_getElem h]
  exact List.getElem_mem h
theorem findV_no {acts : List ByteArray} {X : ByteArray} (ha : actsB acts = true) (h : Lib.idxOfS acts X < 0) : findV acts X = .tuple #[.int .i64 0, .bool false, .int .i64 0] := by
  unfold findV; rw [ha, if_pos rfl, if_neg (by omega)]
theorem findV_yes {acts : List ByteArray} {X : ByteArray} (ha : actsB acts = true) (h : 0 ≤ Lib.idxOfS acts X) : findV acts X = .tuple #[.int .i64 (Lib.idxOfS acts X), .bool true, .int .i64 0] := by
  unfold findV; rw [ha, if_pos rfl, if_pos h]
set_option maxRecDepth 100000 in
set_option maxHeartbeats 8000000 in
theorem parseState_any {w : World} {a : Option Addr} {n c : Nat} {acts : List ByteArray} {a2 : Option Addr} {N c2 : Nat} {r : List (List UInt8)} (E : Env w) (A : StrArg w a n c acts) (B : StrArg w a2 N c2 (r.map mk)) (hact : actsB acts = true) (hr : r.length ≤ 1000000) (hsz : ∀ x ∈ r, x.length ≤ 1000000) :
    Calls Tryz.prog 89 #[.slice a n c, .slice a2 N c2] w fun e w' => Below w.heap.size w w' ∧
      ((edgesO acts r = none ∧ e = .returned (.tuple #[.slice none 0 0, .bool false])) ∨
        ∃ es v, edgesO acts r = some es ∧ e = .returned (.tuple #[v, .bool true]) ∧ EdgeOwn w' w.heap.size v es ∧ es.length ≤ 1000000) := by
  obtain ⟨i1, hi1, hz10, hz11, hz12⟩ := info_parts infoEdge
  have HE := Lib.hid E
  have HA := Lib.hid A
  have HBs := Lib.hid B
  have HACT := Lib.hid hact
  have HSz := Lib.hid hsz
  have hN2 : N ≤ 1000000 := by have := B.len; rw [List.length_map] at this; omega
  have HR2 : Hid (N = r.length) := Lib.hid (by have := B.len; rwa [List.length_map] at this)
  clear E A B hact hsz hr
  go_enter Tryz.func89, Tryz.ntmps89
  by_cases hev : N % 2 = 1
  · have HN : Hid (edgesO acts r = none) := Lib.hid (edgesO_odd acts ((r.length - 1) / 2) r (by have := HR2.out; omega))
    have hmod : ((N : Int).tmod 2 == 1) = true := by rw [beq_iff_eq, Int.tmod_eq_emod_of_nonneg (by omega)]; omega
    have hmod2 : ((N : Int) % 2 == 1) = true := by rw [beq_iff_eq]; omega
    go_wp2
    go_ret2
    exact ⟨Below.refl _ _, .inl ⟨HN.out, rfl⟩⟩
  · have hmod : ((N : Int).tmod 2 == 1) = false := by rw [beq_eq_false_iff_ne, Int.tmod_eq_emod_of_nonneg (by omega)]; omega
    have hmod2 : ((N : Int) % 2 == 1) = false := by rw [beq_eq_false_iff_ne]; omega
    have hrl : r.length % 2 = 0 := by have := HR2.out; omega
    go_wp2
    go_loopw [6, 7, 8, 9, 10, 11, 12] (fun v k _ _ _ _ _ wr => ∃ (x : Nat) (es : List Edg), k = .int .i64 ((2 * x : Nat) : Int) ∧ 2 * x ≤ N ∧ EdgeOwn wr w.heap.size v es ∧ Hid (es.length = x ∧ edgesO acts r = (edgesO acts (r.drop (2 * x))).map fun q => es ++ q) ∧ Below w.heap.size w wr) (fun _ k _ _ _ _ _ _ => N - (intOf k).toNat)
    case atStart => exact ⟨0, [], by simp, by omega, World.ownsRow_nil _ _ _ _, Lib.hid ⟨rfl, by simp⟩, Below.refl _ _⟩
    case round =>
      obtain ⟨x, es, rfl, hx, hes, hrel2, hb⟩ := hrel
      have HES := Lib.hid hes
      have HB := Lib.hid hb
      have hzr := hb.size
      clear hes hb
      by_cases hlt : 2 * x < N
      · have h2x : 2 * x + 1 < r.length := by have := HR2.out; omega
        obtain ⟨a1, n1, HD2⟩ : ∃ a1 n1, Hid (r.drop (2 * x) = a1 :: n1 :: r.drop (2 * (x + 1)) ∧ r[2 * x]? = some a1 ∧ r[2 * x + 1]? = some n1) := ⟨r[2 * x], r[2 * x + 1], Lib.hid ⟨by
          rw [List.drop_eq_getElem_cons (by omega), List.drop_eq_getElem_cons (by omega)]; rfl, List.getElem?_eq_getElem _, List.getElem?_eq_getElem _⟩⟩
        obtain ⟨X, HX⟩ : ∃ z, Hid (mk a1 = z) := ⟨_, Lib.hid rfl⟩
        obtain ⟨Y, HY⟩ : ∃ z, Hid (mk n1 = z) := ⟨_, Lib.hid rfl⟩
        have HYd : Hid (Y.data.toList = n1) := Lib.hid (by rw [← HY.out, mk_data])
        have hAr := HBs.out.below HB.out
        obtain ⟨bw, ow, rfl, c1⟩ := hAr.cells (2 * x) (by rw [List.length_map]; omega)
        have c2' : wr.cell? ⟨bw, ow + (2 * x + 1), none⟩ = some (.string Y) := by
          obtain ⟨b, off, e, hc⟩ := hAr.cells (2 * x + 1) (by rw [List.length_map]; omega)
          cases e
          rw [hc, List.getD_eq_getElem?_getD, List.getElem?_map, HD2.out.2.2, ← HY.out]; rfl
        rw [List.getD_eq_getElem?_getD, List.getElem?_map, HD2.out.2.1, show ((some a1).map mk).getD ByteArray.empty = mk a1 from rfl, HX.out] at c1
        have HAc := Lib.hid (HA.out.below HB.out)
        have HEr := Lib.hid (HE.out.below HB.out)
        obtain ⟨e0, e1, e2, hEr⟩ := HEr.out.errs
        have HF := Lib.hid (Find_any X hEr HAc.out)
        have hYs : Y.size ≤ 1000000 := by
          rw [← HY.out, mk_size']
          exact HSz.out _ (List.mem_of_getElem? HD2.out.2.2)
        have HPn := parseNumber_any Y (by omega) wr HEr.out
        rw [HYd.out] at HPn
        have hwr1 : IntKind.i64.wrap (((2 * x : Nat) : Int) + 1) = ((2 * x : Nat) : Int) + 1 := IntWalk.i64_in _ (by omega)
        clear hEr hAr
        by_cases hgood : 0 ≤ Lib.idxOfS acts X ∧ ∃ t, numV n1 = some t
        · obtain ⟨hidx, t, hnum⟩ := hgood
          rw [findV_yes HACT.out hidx] at HF
          rw [numT_some hnum] at HPn
          have HPn := Lib.hid HPn
          have HG : Hid ((es ++ [(Lib.idxOfS acts X, t)]).length = x + 1 ∧ edgesO acts r = (edgesO acts (r.drop (2 * (x + 1)))).map fun q => (es ++ [(Lib.idxOfS acts X, t)]) ++ q) := Lib.hid ⟨by rw [List.length_append, hrel2.out.1]; rfl, by
            rw [hrel2.out.2, HD2.out.1, edgesO_good (by rw [HX.out]; omega) hnum, HX.out, Option.map_map]
            congr 1
            funext q
            simp⟩
          obtain ⟨Z, HZ⟩ : ∃ z, Hid (Lib.idxOfS acts X = z) := ⟨_, Lib.hid rfl⟩
          rw [HZ.out] at HG HF
          obtain ⟨va, vc, rfl⟩ := own_slice' HES.out
          have HOW : Hid (wr.ownsRow w.heap.size 87 2 (.slice va es.length vc) es.length (ecells es)) := Lib.hid HES.out
          clear hidx hnum
          go_wp2_with fail
          refine HF.out.mono ?_
          rintro e w' ⟨rfl, rfl⟩
          go_wp2_with fail
          refine HPn.out.mono ?_
          rintro e w2 ⟨rfl, hb2⟩
          have HOW2 : Hid (∀ o, (w2.alloc o).ownsRow w.heap.size 87 2 (.slice va es.length vc) es.length (ecells es)) := Lib.hid fun o => (own_up' HOW.out hb2).alloc o
          have Hb2 := Lib.hid hb2
          have hz2 := hb2.size
          have hesl : es.length ≤ 1000000 := by have := hrel2.out.1; omega
          clear hb2
          go_wp2_with (at_builtin; (refine wpList_append_sz rfl (.tmp 48) (.tmp 52) 77 rfl w.heap.size 87 i1 (.agg #[.int .i64 0, .int .i64 0]) 2 16 Tryz.underlying77 hi1 hz10 hz11 hz12 rfl (by decide) (.slice va es.length vc) rfl es.length (ecells es) (HOW2.out _) (some ⟨w2.heap.size, 0, none⟩) 1 1 rfl [.int .i64 Z, .int .i64 t] (fun h => by cases h) rfl (two_src _ _ _ _) (by simp [Value.oneCell']) (by unfold maxLen; omega) (by omega) (by simp; omega) ?_); intro v4 w4 hv4 hg4 hat4; refine Hid.out ?_)
          refine Lib.hid ?_
          have hE4 : EdgeOwn w4 w.heap.size v4 (es ++ [(Z, t)]) := by
            unfold EdgeOwn
            rw [List.length_append, ecells_app]
            exact hv4
          have hb4 : Below w.heap.size w w4 := (((HB.out.trans (Hb2.out.mono hzr)).alloc (by omega) _)).grown hg4 (by simp; omega) (own_ge (HOW2.out (.cells #[.int .i64 Z, .int .i64 t] 87)))
          have HE4 := Lib.hid hE4
          have HB4 := Lib.hid hb4
          clear hv4 hg4 hat4 hE4 hb4
          go_wp2
          go_roundw
          case rel => exact ⟨x + 1, es ++ [(Z, t)], by go_num, by omega, HE4.out, HG, HB4.out⟩
          case measure => simp [intOf]; omega
        · have HN : Hid (edgesO acts r = none) := Lib.hid (by
            rw [hrel2.out.2, HD2.out.1, edgesO_bad]
            · rfl
            · by_cases hidx : Lib.idxOfS acts X < 0
              · exact .inl (by rw [HX.out]; exact hidx)
              · right
                cases hnv : numV n1 with
                | none => rfl
                | some t => exact absurd ⟨by omega, t, hnv⟩ hgood)
          cases hnv : numV n1 with
          | none =>
            rw [numT_none hnv] at HPn
            have HPn := Lib.hid HPn
            by_cases hidx : Lib.idxOfS acts X < 0
            · rw [findV_no HACT.out hidx] at HF
              clear hidx hgood hnv
              go_wp2_with fail
              refine HF.out.mono ?_
              rintro e w' ⟨rfl, rfl⟩
              go_wp2_with fail
              refine HPn.out.mono ?_
              rintro e w2 ⟨rfl, hb2⟩
              go_wp2
              go_ret2
              exact ⟨HB.out.trans (hb2.mono hzr), .inl ⟨HN.out, rfl⟩⟩
            · rw [findV_yes HACT.out (by omega)] at HF
              obtain ⟨Z, HZ⟩ : ∃ z, Hid (Lib.idxOfS acts X = z) := ⟨_, Lib.hid rfl⟩
              rw [HZ.out] at HF
              clear hidx hgood hnv
              go_wp2_with fail
              refine HF.out.mono ?_
              rintro e w' ⟨rfl, rfl⟩
              go_wp2_with fail
              refine HPn.out.mono ?_
              rintro e w2 ⟨rfl, hb2⟩
              go_wp2
              go_ret2
              exact ⟨HB.out.trans (hb2.mono hzr), .inl ⟨HN.out, rfl⟩⟩
          | some t =>
            have hidx : Lib.idxOfS acts X < 0 := by
              rcases Int.lt_or_le (Lib.idxOfS acts X) 0 with h | h
              · exact h
              · exact absurd ⟨h, t, hnv⟩ hgood
            rw [findV_no HACT.out hidx] at HF
            rw [numT_some hnv] at HPn
            have HPn := Lib.hid HPn
            clear hidx hgood hnv
            go_wp2_with fail
            refine HF.out.mono ?_
            rintro e w' ⟨rfl, rfl⟩
            go_wp2_with fail
            refine HPn.out.mono ?_
            rintro e w2 ⟨rfl, hb2⟩
            go_wp2
            go_ret2
            exact ⟨HB.out.trans (hb2.mono hzr), .inl ⟨HN.out, rfl⟩⟩
      · have HN : Hid (edgesO acts r = some es) := Lib.hid (by
          rw [hrel2.out.2, List.drop_of_length_le (by have := HR2.out; omega)]
          simp [edgesO])
        obtain ⟨va, vc, rfl⟩ := own_slice' HES.out
        go_wp2
        go_ret2
        exact ⟨HB.out, .inr ⟨es, _, HN.out, rfl, HES.out, by have := hrel2.out.1; omega⟩⟩
end Go.Proofs.YtgnbkepdbdgkdaaGreatDoor
/- A system that a call puts together in a variable of its own, state by state. -/
namespace Go.Proofs.YtgnbkepdbdgkdaaGreatDoor
open Go.RowKit Pl

/-- the variable at block w2.heap.size holds va and the lists of ss so far; what lay below stands -/
structure SysAcc (w2 : World) (va vs : Value) (ss : List (List Edg)) (wr : World) : Prop where
  out : Whole wr w2.heap.size 25 #[va, vs]
  rows : RowsOwn wr w2.heap.size vs ss
  mid : Below w2.heap.size w2 wr
theorem SysAcc.drew {w2 wr : World} {va vs : Value} {ss : List (List Edg)} (h : SysAcc w2 va vs ss wr) : SysAcc w2 va vs ss wr.drew := ⟨h.out, h.rows, h.mid.drew⟩
theorem SysAcc.below {w2 wr wA : World} {va vs : Value} {ss : List (List Edg)} (h : SysAcc w2 va vs ss wr) (hb : Below wr.heap.size wr wA) : SysAcc w2 va vs ss wA :=
  ⟨h.out.below hb h.out.lt, h.rows.below hb, h.mid.trans (hb.mono h.mid.size)⟩
theorem SysAcc.start (w2 : World) (va : Value) : SysAcc w2 va (.slice none 0 0) [] (w2.alloc (.cells #[va, .slice none 0 0] 25)) :=
  ⟨Whole.new _ _ _, RowsOwn.none _ _, (Below.refl _ w2).alloc (Nat.le_refl _) _⟩
theorem SysAcc.mono_mid {w2 wr : World} {va vs : Value} {ss : List (List Edg)} (h : SysAcc w2 va vs ss wr) {B C : Nat} (h1 : B ≤ w2.heap.size) (h2 : C < B) : Below C w2 wr := h.mid.mono (by omega)
/-- what is known of the variable behind the append -/
theorem SysAcc.grown {w2 wA wB : World} {va vs : Value} {ss : List (List Edg)} (h : SysAcc w2 va vs ss wA) (hg : wA.grownBy wB vs.ownBlock) : Whole wB w2.heap.size 25 #[va, vs] := by
  obtain ⟨rows, r1, r2, r3⟩ := h.rows
  exact h.out.grown hg (own_whole r2 h.out (by decide))
/-- one state more -/
theorem SysAcc.next {w2 wA wB : World} {va vs v1 v2 : Value} {ss : List (List Edg)} {l : List Edg} (h : SysAcc w2 va vs ss wA) (hA : EdgeOwn wA w2.heap.size v1 l) (hg : wA.grownBy wB vs.ownBlock)
    (hB : ∀ rows, wA.ownsRow w2.heap.size 77 1 vs ss.length rows → rows.length = ss.length → wB.ownsRow w2.heap.size 77 1 v2 (ss.length + 1) (rows ++ [v1])) :
    SysAcc w2 va v2 (ss ++ [l]) (wB.setCell ⟨w2.heap.size, 1, none⟩ v2) := by
  have hw := h.grown hg
  obtain ⟨rows, r1, r2, r3⟩ := h.rows
  have hs := RowsOwn.snoc (v' := v2) ⟨rows, r1, r2, r3⟩ hA hg hB
  refine ⟨by simpa using hw.set 1 v2, ?_, (h.mid.grown hg h.mid.size (own_ge r2)).setCell (by simp) _⟩
  exact hs.kept (grown_self wB ⟨w2.heap.size, 1, none⟩ v2) (.inr (own_whole hs.choose_spec.2.1 hw (by decide)).symm) (fun r l hr => .inr (own_whole hr hw (by decide)).symm)
theorem StrArg.kept {w w' : World} {a : Option Addr} {n c : Nat} {ss : List ByteArray} {row : Option Nat} (h : StrArg w a n c ss) (hg : w.grownBy w' row) (hne : ∀ ad, a = some ad → some ad.block ≠ row) : StrArg w' a n c ss :=
  ⟨h.nil, h.len, h.cap, h.big, h.sz, fun j hj => by
    obtain ⟨b, off, e, hc⟩ := h.cells j hj
    refine ⟨b, off, e, ?_⟩
    rw [World.cell?_of_block (hg.block b (lt_of_cell hc) (hne _ e))]
    exact hc⟩
/-- the lists of a system that lies apart from a variable, behind two stores into it -/
theorem rows_stored {w : World} {base g : Nat} {vs x y u v : Value} {ss : List (List Edg)} (h : RowsOwn w base vs ss) (hw : Whole w g 25 #[x, y]) :
    RowsOwn ((w.setCell ⟨g, 0, none⟩ u).setCell ⟨g, 1, none⟩ v) base vs ss := by
  have s1 := h.kept (grown_self w ⟨g, 0, none⟩ u) (.inr (own_whole h.choose_spec.2.1 hw (by decide)).symm) (fun r l hr => .inr (own_whole hr hw (by decide)).symm)
  have hw1 := hw.set 0 u
  exact s1.kept (grown_self _ ⟨g, 1, none⟩ v) (.inr (own_whole s1.choose_spec.2.1 hw1 (by decide)).symm) (fun r l hr => .inr (own_whole hr hw1 (by decide)).symm)
theorem strs_stored {w : World} {a : Option Addr} {n c g : Nat} {ss : List ByteArray} {u v : Value} (h : StrArg w a n c ss) (hne : ∀ ad, a = some ad → ad.block ≠ g) :
    StrArg ((w.setCell ⟨g, 0, none⟩ u).setCell ⟨g, 1, none⟩ v) a n c ss :=
  (h.kept (grown_self w ⟨g, 0, none⟩ u) (fun ad e q => hne ad e (Option.some.inj q))).kept (grown_self _ ⟨g, 1, none⟩ v) (fun ad e q => hne ad e (Option.some.inj q))
theorem sys_nil (w : World) : SysArg w none 0 0 none 0 0 noSys :=
  ⟨⟨fun _ => rfl, rfl, Nat.le_refl _, by omega, fun k hk => by omega, fun j hj => by simp [noSys] at hj⟩, by omega, fun _ => rfl, rfl, Nat.le_refl _, by omega, fun i hi => by simp [noSys] at hi⟩
end Go.Proofs.YtgnbkepdbdgkdaaGreatDoor
/- Plain facts: what a string of an object is read as, whatever its kind and the rows of its states; nothing here is about a program. -/
namespace Go.Proofs.YtgnbkepdbdgkdaaGreatDoor.Pl
open Go Go.Lib

/-- the actions of a first line of a kind -/
def headK (kw : List UInt8) (line : List UInt8) : Option (List ByteArray) :=
  match sp 32 line with
  | [] => none
  | h :: r => if h = kw ∧ actsB (r.map mk) = true then some (r.map mk) else none
/-- the line of a state -/
def rowK {R : Type} (rp : List ByteArray → List (List UInt8) → Option R) (acts : List ByteArray) (i : Nat) (line : List UInt8) : Option R :=
  match sp 32 line with
  | [] => none
  | h :: r => if h = decDigits i ++ [58] then rp acts r else none
def rowsK {R : Type} (rp : List ByteArray → List (List UInt8) → Option R) (acts : List ByteArray) : Nat → List (List UInt8) → Option (List R)
  | _, [] => some []
  | i, l :: r => match rowK rp acts i l with
    | none => none
    | some es => (rowsK rp acts (i + 1) r).map fun ss => es :: ss
/-- the actions, the rows, the error -/
def textK {R : Type} (kw : List UInt8) (rp : List ByteArray → List (List UInt8) → Option R) (s : List UInt8) : List ByteArray × List R × Int :=
  if 60000 < s.length then ([], [], 2) else
  match sp 10 (cut1 s) with
  | [] => ([], [], 11)
  | l0 :: ls =>
    match headK kw l0 with
    | none => ([], [], 11)
    | some acts =>
      match rowsK rp acts 0 ls with
      | none => ([], [], 11)
      | some ss => (acts, ss, 0)
theorem rowsK_bad {R : Type} {rp : List ByteArray → List (List UInt8) → Option R} {acts : List ByteArray} : ∀ (ls : List (List UInt8)) (i k : Nat), k < ls.length → rowK rp acts (i + k) (ls.getD k []) = none → rowsK rp acts i ls = none
  | [], i, k, h, _ => by simp at h
  | l :: ls, i, 0, _, h => by
    unfold rowsK
    have : rowK rp acts i l = none := by simpa using h
    rw [this]
  | l :: ls, i, k + 1, hk, h => by
    have ih := rowsK_bad ls (i + 1) k (by simpa using hk) (by rw [Nat.add_right_comm, Nat.add_assoc]; simpa using h)
    unfold rowsK
    rw [ih]
    split <;> rfl
theorem rowsK_good {R : Type} {rp : List ByteArray → List (List UInt8) → Option R} {acts : List ByteArray} : ∀ (ls : List (List UInt8)) (i : Nat) (ss : List R), ss.length = ls.length → (∀ k, k < ls.length → ∃ x, ss[k]? = some x ∧ rowK rp acts (i + k) (ls.getD k []) = some x) → rowsK rp acts i ls = some ss
  | [], i, ss, h, _ => by
    have : ss = [] := List.length_eq_zero_iff.1 (by simpa using h)
    subst this; rfl
  | l :: ls, i, [], h, _ => by simp at h
  | l :: ls, i, es :: ss, h, hg => by
    obtain ⟨x0, h0, h0'⟩ := hg 0 (by simp)
    have ih := rowsK_good ls (i + 1) ss (by simpa using h) (fun k hk => by
      obtain ⟨x, h1, h2⟩ := hg (k + 1) (by simpa using hk)
      exact ⟨x, by simpa using h1, by rw [Nat.add_right_comm, Nat.add_assoc]; simpa using h2⟩)
    unfold rowsK
    have h1 : rowK rp acts i l = some es := by
      simp at h0
      rw [h0]; simpa using h0'
    rw [h1, ih]
    rfl
theorem textK_large {R : Type} {kw : List UInt8} {rp : List ByteArray → List (List UInt8) → Option R} {l : List UInt8} (h : 60000 < l.length) : textK kw rp l = ([], [], 2) := if_pos h
theorem cut1_le (l : List UInt8) : (cut1 l).length ≤ l.length := by
  unfold cut1 Lib.trimSuffix
  split
  · rw [List.length_take]; omega
  · exact Nat.le_refl _
theorem mkd (l : List UInt8) : (mk l).data.toList = l := by simp [mk]
theorem mk_iff (h : List UInt8) (x : ByteArray) : mk h = x ↔ h = x.data.toList := ⟨fun q => by rw [← q, mkd], fun q => by rw [q]; exact mk_of x⟩
end Go.Proofs.YtgnbkepdbdgkdaaGreatDoor.Pl
namespace Go.Proofs.YtgnbkepdbdgkdaaGreatDoor
open Go.RowKit Pl
/-- the lines behind the first one -/
theorem textK_lines {R : Type} (kw : List UInt8) (rp : List ByteArray → List (List UInt8) → Option R) {s : ByteArray} (h : ¬ 60000 < s.data.toList.length) :
    ∃ ls : List (List UInt8), (spB 10 (mk (cut1 s.data.toList))).drop 1 = ls.map mk ∧ (spB 10 (mk (cut1 s.data.toList))).length = ls.length + 1 ∧
    textK kw rp s.data.toList = match headK kw (at_ (spB 10 (mk (cut1 s.data.toList))) 0).data.toList with
      | none => ([], [], 11)
      | some acts => match rowsK rp acts 0 ls with
        | none => ([], [], 11)
        | some ss => (acts, ss, 0) := by
  unfold textK spB
  rw [if_neg h, mkd]
  cases e : sp 10 (cut1 s.data.toList) with
  | nil => exact absurd e (sp_ne _ _)
  | cons l0 ls =>
    refine ⟨ls, rfl, by simp, ?_⟩
    have e1 : (at_ ((l0 :: ls).map mk) 0).data.toList = l0 := by
      show (mk l0).data.toList = l0
      exact mkd l0
    rw [e1]
theorem headK_eq (kw : ByteArray) (s : ByteArray) : headK kw.data.toList s.data.toList = if at_ (spB 32 s) 0 = kw ∧ actsB ((spB 32 s).drop 1) = true then some ((spB 32 s).drop 1) else none := by
  unfold headK spB
  cases e : sp 32 s.data.toList with
  | nil => exact absurd e (sp_ne _ _)
  | cons h r =>
    have e1 : at_ ((h :: r).map mk) 0 = mk h := rfl
    have e2 : ((h :: r).map mk).drop 1 = r.map mk := rfl
    rw [e1, e2]
    simp only [mk_iff]
theorem rowK_eq {R : Type} (rp : List ByteArray → List (List UInt8) → Option R) (acts : List ByteArray) (i : Nat) (s : ByteArray) : ∃ r : List (List UInt8), (spB 32 s).drop 1 = r.map mk ∧ (spB 32 s).length = r.length + 1 ∧ (∀ x ∈ r, x.length ≤ s.size) ∧
    rowK rp acts i s.data.toList = if at_ (spB 32 s) 0 = mk (Lib.decDigits i ++ [58]) then rp acts r else none := by
  have hall : ∀ x ∈ spB 32 s, x.size ≤ s.size := fun x hx => spB_size hx
  unfold rowK
  unfold spB at hall ⊢
  cases e : sp 32 s.data.toList with
  | nil => exact absurd e (sp_ne _ _)
  | cons h r =>
    refine ⟨r, rfl, by simp, fun x hx => ?_, ?_⟩
    · have := hall (mk x) (by rw [e]; exact List.mem_map_of_mem (List.mem_cons_of_mem _ hx))
      rwa [mk_size'] at this
    · have e1 : at_ ((h :: r).map mk) 0 = mk h := rfl
      rw [e1]
      simp only [mk_iff, mkd]
/-- what is read of a system -/
theorem rowsO_K (acts : List ByteArray) : ∀ (ls : List (List UInt8)) (i : Nat), rowsO acts i ls = rowsK edgesO acts i ls
  | [], _ => rfl
  | l :: ls, i => by
    have e : rowO acts i l = rowK edgesO acts i l := by unfold rowO rowK; cases sp 32 l <;> rfl
    unfold rowsO rowsK
    rw [rowsO_K acts ls (i + 1), e]
    cases rowK edgesO acts i l <;> rfl
theorem parseS_K (s : List UInt8) : parseS s = if (textK bSystem edgesO s).2.2 = 0 then (if sysB ⟨(textK bSystem edgesO s).1, (textK bSystem edgesO s).2.1⟩ = true then (⟨(textK bSystem edgesO s).1, (textK bSystem edgesO s).2.1⟩, 0) else (noSys, 20)) else (noSys, (textK bSystem edgesO s).2.2) := by
  unfold parseS textK
  by_cases h : 60000 < s.length
  · rw [if_pos h, if_pos h]; rfl
  · rw [if_neg h, if_neg h]
    cases e : sp 10 (cut1 s) with
    | nil => rfl
    | cons l0 ls =>
      have e1 : headO l0 = headK bSystem l0 := rfl
      simp only [e1]
      cases headK bSystem l0 with
      | none => rfl
      | some acts =>
        simp only [rowsO_K]
        cases rowsK edgesO acts 0 ls with
        | none => rfl
        | some ss => rfl
end Go.Proofs.YtgnbkepdbdgkdaaGreatDoor
