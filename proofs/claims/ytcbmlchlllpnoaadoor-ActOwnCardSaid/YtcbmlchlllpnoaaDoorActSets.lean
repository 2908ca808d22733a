/- ActSets: Sets returns the numbers in increasing order, each once, or the error. -/
import Derived.Test.YtcbmlchlllpnoaaDoorPut
namespace Go.Proofs.YtcbmlchlllpnoaaDoor
open Go.RowKit Pl

theorem wpList_append_src {P : Program} {w w0 : World} {ops : Array Oper} {rest : List Oper} {o : Oper} {a : Act} {Q : Exit → Act → World → Prop} (hg : o.guard = none) (s x : Operand) (t : TypeId)
    (ho : o.op = .call { callee := .builtin .append, args := #[s, x], argTypes := #[t, t] }) (e : TypeId) (i : TypeInfo) (z : Value) (bytes : Nat) (ht : P.underlying t = some (.slice e)) (hi : P.info? e = some i) (hz : i.zero = some z)
    (hsize : i.size = 1) (hby : i.bytes = bytes) (hzs : z.cells.size = 1) (v : Value) (hs : a.eval s = v) (n : Nat) (xs : List Value) (hown : w.ownsRow w0.heap.size e 1 v n xs)
    (ao : Option Addr) (m c : Nat) (hx : a.eval x = .slice ao m c) (news : List Value) (hnil : ao = none → m = 0 ∧ c = 0) (hl : news.length = m) (hnews : ∀ j u, news[j]? = some u → ∃ ad, ao = some ad ∧ w.cell? (ad.add j) = some u) (h1 : ∀ u ∈ news, u.oneCell' = true)
    (h63 : n + m ≤ maxLen) (hbytes : (n + m) * bytes ≤ 140737488355328) (hB : Below w0.heap.size w0 w)
    (hK : ∀ v' w', w'.ownsRow w0.heap.size e 1 v' (n + m) (xs ++ news) → w.grownBy w' v.ownBlock → Below w0.heap.size w0 w' → wpList P ops Q rest (a.put o.dst v') w') : wpList P ops Q (o :: rest) a w := by
  refine wpList_plain hg fun K hK' => ?_
  obtain ⟨v', w', hrun, r1, r2, r3⟩ := run_append_src (P := P) (w := w) (w0 := w0) t o.type e i z bytes ht hi hz hsize hby hzs v n xs hown ao m c news hnil hl hnews h1 h63 hbytes hB
  unfold Oper.wp
  simp [execOp, ho, resolve, invoke, builtin, hs, hx, hrun, Result.andThen]
  exact hK' _ _ (hK v' w' r1 r2 r3)

theorem IntArg.nils {w : World} {a : Option Addr} {n c : Nat} {xs : List Int} (h : IntArg w a n c xs) : a = none → n = 0 ∧ c = 0 := fun ha => ⟨by
  by_cases hn : 0 < n
  · obtain ⟨b, off, h1, _⟩ := h.cells 0 (by have := h.len; omega)
    rw [ha] at h1
    cases h1
  · omega, h.nil ha⟩

set_option maxRecDepth 100000 in
set_option maxHeartbeats 8000000 in
theorem ActSets_any {w : World} {e0 e1 e2 : Addr} (E : Errs w e0 e1 e2) (T : Tab w) {a : Option Addr} {n c : Nat} {ss : List ByteArray} (A : StrArg w a n c ss) (hr : n * 16 ≤ 140737488351232)
    {a' : Option Addr} {m c' : Nat} {xs : List Int} (X : IntArg w a' m c' xs) (hr' : m * 8 ≤ 140737488351232) (_hw : ∀ x ∈ xs, (Lit.int .i64 x).wf = true) :
    Calls Tryd.prog 5 #[.slice a n c, .slice a' m c'] w fun e w' => e = .returned (.bool true) ∧ Below w.heap.size w w' := by
  obtain ⟨i0, hi, hz0, hz1, hz2⟩ := info_parts infoInt
  have HIs := Lib.hid (Is_arg A)
  have HNil := Lib.hid X.nils
  have HLen : Hid ((xs.map (Value.int .i64)).length = m) := Lib.hid (by rw [List.length_map]; exact X.len.symm)
  have HE := Lib.hid E
  have HT := Lib.hid T
  have HA := Lib.hid A
  have HX := Lib.hid X
  have hmb := X.big
  clear E T A X
  cases hb : actsB ss
  · have HC : Hid (setCode ss xs = 10) := Lib.hid (by unfold setCode; rw [hb]; rfl)
    have HS : Hid (setsL ss xs = []) := Lib.hid (by unfold setsL; rw [HC.out]; rfl)
    have hB := Below.refl w.heap.size w
    rw [hb] at HIs
    clear hb
    go_enter Tryd.func5, Tryd.ntmps5
    go_wp2_with fail
    refine HIs.out.mono ?_
    rintro e w' ⟨rfl, rfl⟩
    go_wp2
    go_loopw [6, 7, 8] (fun q v i wr => q = .bool true ∧ v = .slice none 0 0 ∧ i = .int .i64 0 ∧ w = wr) (fun _ _ _ _ => 0)
    case atStart => exact ⟨rfl, rfl, rfl, rfl⟩
    case round =>
      obtain ⟨rfl, rfl, rfl, rfl⟩ := hrel
      by_cases h0 : 0 < m
      · go_wp2_with fail
        refine (copied_any (HA.out.below hB) hr).mono ?_
        rintro e w1 ⟨a1, c1, rfl, hA1, hb1⟩
        have B1 := hB.trans (hb1.mono hB.size)
        have HA1 := Lib.hid hA1
        have HX1 : Hid (IntsIn w1 a' xs) := Lib.hid (HX.out.cells.below B1)
        clear hA1
        go_wp2_with (at_builtin; refine wpList_append_src (w0 := w) rfl _ _ 33 rfl 3 i0 (.int .i64 0) 8 Tryd.underlying33 hi hz0 hz1 hz2 rfl _ rfl 0 [] (World.ownsRow_nil _ _ _ _) a' m c' rfl (xs.map (Value.int .i64)) HNil.out HLen.out (ints_at HX1.out) (ints_one _) (by unfold maxLen; omega) (by omega) B1 ?_; intro v2 w2 hown2 hg2 hB2)
        have hb2 : Below w1.heap.size w1 w2 := (Below.refl _ w1).grown hg2 (Nat.le_refl _) (fun k e => by cases e)
        rw [List.nil_append, Nat.zero_add] at hown2
        obtain ⟨a2, c2, rfl, hI2⟩ := ints_of_row hown2 HX.out.len HX.out.big
        have HI2 := Lib.hid hI2
        clear hI2 hown2 hg2
        refine (Sets_any (HE.out.below hB2) (HA1.out.below hb2) HI2.out).mono ?_
        rintro e w3 ⟨v3, rfl, hrow, hb3⟩
        have B3 := hB2.trans (hb3.mono hB2.size)
        rw [HS.out, HC.out] at *
        obtain ⟨a3, c3, rfl, hI3⟩ := ints_of_row (xs := ([] : List Nat).map (fun k : Nat => (k : Int))) (by rw [List.map_map]; exact hrow) (by rw [List.length_map]) (by simp)
        have HI3 := Lib.hid hI3
        clear hI3 hrow
        go_wp2_with fail
        refine (awake_any (HE.out.below B3) (HT.out.below B3)).mono ?_
        rintro e w4 ⟨rfl, hb4⟩
        go_wp2
        go_ret
        exact ⟨rfl, B3.trans (hb4.mono B3.size)⟩
      · go_wp2_with fail
        refine (copied_any (HA.out.below hB) hr).mono ?_
        rintro e w1 ⟨a1, c1, rfl, hA1, hb1⟩
        have B1 := hB.trans (hb1.mono hB.size)
        have HA1 := Lib.hid hA1
        have HX1 : Hid (IntsIn w1 a' xs) := Lib.hid (HX.out.cells.below B1)
        clear hA1
        go_wp2_with (at_builtin; refine wpList_append_src (w0 := w) rfl _ _ 33 rfl 3 i0 (.int .i64 0) 8 Tryd.underlying33 hi hz0 hz1 hz2 rfl _ rfl 0 [] (World.ownsRow_nil _ _ _ _) a' m c' rfl (xs.map (Value.int .i64)) HNil.out HLen.out (ints_at HX1.out) (ints_one _) (by unfold maxLen; omega) (by omega) B1 ?_; intro v2 w2 hown2 hg2 hB2)
        have hb2 : Below w1.heap.size w1 w2 := (Below.refl _ w1).grown hg2 (Nat.le_refl _) (fun k e => by cases e)
        rw [List.nil_append, Nat.zero_add] at hown2
        obtain ⟨a2, c2, rfl, hI2⟩ := ints_of_row hown2 HX.out.len HX.out.big
        have HI2 := Lib.hid hI2
        clear hI2 hown2 hg2
        refine (Sets_any (HE.out.below hB2) (HA1.out.below hb2) HI2.out).mono ?_
        rintro e w3 ⟨v3, rfl, hrow, hb3⟩
        have B3 := hB2.trans (hb3.mono hB2.size)
        rw [HS.out, HC.out] at *
        obtain ⟨a3, c3, rfl, hI3⟩ := ints_of_row (xs := ([] : List Nat).map (fun k : Nat => (k : Int))) (by rw [List.map_map]; exact hrow) (by rw [List.length_map]) (by simp)
        have HI3 := Lib.hid hI3
        clear hI3 hrow
        go_wp2_with fail
        refine (awake_any (HE.out.below B3) (HT.out.below B3)).mono ?_
        rintro e w4 ⟨rfl, hb4⟩
        go_wp2
        go_ret
        exact ⟨rfl, B3.trans (hb4.mono B3.size)⟩
  · rw [hb] at HIs
    have h8 : n ≤ 8 := by have := ((actsB_iff ss).1 hb).1; have := HA.out.len; omega
    have HB := Lib.hid hb
    have HNs := Lib.hid HA.out.len
    clear hb
    go_enter Tryd.func5, Tryd.ntmps5
    go_wp2_with fail
    refine HIs.out.mono ?_
    rintro e w' ⟨rfl, rfl⟩
    go_wp2
    go_loopw [6, 7, 8] (fun q v i wr => ∃ k : Nat, k ≤ m ∧ i = .int .i64 k ∧ Below w.heap.size w wr ∧ ∃ aw : Option Addr, ∃ nw cw : Nat, v = .slice aw nw cw ∧ ((q = .bool true ∧ Hid (∀ j, j < k → setB ss.length (xs.getD j 0) = true) ∧ Hid (IntArg wr aw nw cw ((gotL (xs.take k) 256).map fun k : Nat => (k : Int)))) ∨ (q = .bool false ∧ Hid (xs.all (setB ss.length) = false)))) (fun _ _ i _ => m - (intOf i).toNat)
    case atStart => exact ⟨0, Nat.zero_le _, rfl, Below.refl _ _, none, 0, 0, rfl, Or.inl ⟨rfl, Lib.hid fun j hj => absurd hj (Nat.not_lt_zero _), Lib.hid ⟨fun _ => rfl, rfl, Nat.le_refl _, by omega, fun j hj => absurd hj (Nat.not_lt_zero _)⟩⟩⟩
    case round =>
      obtain ⟨k, hk, rfl, hB, aw, nw, cw, rfl, hq⟩ := hrel
      rcases hq with ⟨rfl, hok, HW⟩ | ⟨rfl, hno⟩
      · by_cases hlt : k < m
        · have hkx : Hid (k < xs.length) := Lib.hid (by have := HX.out.len; omega)
          obtain ⟨b, off, hab, hcell⟩ := (HX.out.cells.below hB) k hkx.out
          subst hab
          obtain ⟨y, HY⟩ : ∃ y, Hid (xs.getD k 0 = y) := ⟨_, Lib.hid rfl⟩
          rw [HY.out] at hcell
          have HSt := Lib.hid (fun W => Set_any n y W (by omega))
          cases hy : setB n y
          · have HNo : Hid (xs.all (setB ss.length) = false) := Lib.hid (sets_bad _ xs k hkx.out (by rw [HY.out, ← HNs.out]; exact hy))
            rw [hy] at HSt
            clear hy
            go_wp2_with fail
            refine (HSt.out _).mono ?_
            rintro e w' ⟨rfl, rfl⟩
            go_wp2
            go_roundw
            case rel => exact ⟨k + 1, by omega, by go_num, hB, aw, nw, cw, rfl, Or.inr ⟨rfl, HNo⟩⟩
            case measure => simp [intOf]; omega
          · have HOk : Hid (∀ j, j < k + 1 → setB ss.length (xs.getD j 0) = true) := Lib.hid fun j hj => by
              by_cases e : j = k
              · subst e; rw [HY.out, ← HNs.out]; exact hy
              · exact hok.out j (by omega)
            have hy2 := (setB_iff n y).1 hy
            obtain ⟨z, rfl⟩ := Int.eq_ofNat_of_zero_le hy2.1
            have hz : z < 256 := by
              have h1 : 2 ^ n ≤ 2 ^ 8 := Nat.pow_le_pow_right (by decide) h8
              have h3 : ((2 ^ n : Nat) : Int) = (2 : Int) ^ n := by norm_cast
              omega
            have HG : Hid (putL ((gotL (xs.take k) 256).map fun k : Nat => (k : Int)) (z : Int) = (gotL (xs.take (k + 1)) 256).map fun k : Nat => (k : Int)) := Lib.hid (by
              rw [got_put _ z 256 hz, List.take_succ_eq_append_getElem hkx.out]
              have h1 : xs[k]'hkx.out = (z : Int) := by
                have := HY.out
                rw [List.getD_eq_getElem?_getD, List.getElem?_eq_getElem hkx.out] at this
                exact this
              rw [h1])
            have hnw : nw ≤ 256 := by have h1 := HW.out.len; have h2 := gotL_len (xs.take k) 256; rw [List.length_map] at h1; omega
            rw [hy] at HSt
            clear hy hy2
            go_wp2_with fail
            refine (HSt.out _).mono ?_
            rintro e w' ⟨rfl, rfl⟩
            go_wp2_with fail
            refine (Put_any _ HW.out hnw).mono ?_
            rintro e wx ⟨ax, nx, cx, rfl, hIx, hbx⟩
            rw [HG.out] at hIx
            have HIx := Lib.hid hIx
            clear hIx
            go_wp2
            go_roundw
            case rel => exact ⟨k + 1, by omega, by go_num, hB.trans (hbx.mono hB.size), ax, nx, cx, rfl, Or.inl ⟨rfl, HOk, HIx⟩⟩
            case measure => simp [intOf]; omega
        · obtain rfl : m = k := by omega
          have HAll : Hid (xs.all (setB ss.length) = true) := Lib.hid (sets_good _ xs fun j hj => hok.out j (by have := HX.out.len; omega))
          have HC : Hid (setCode ss xs = 0) := Lib.hid (by unfold setCode; rw [HB.out, HAll.out]; rfl)
          have HS : Hid (setsL ss xs = gotL xs 256) := Lib.hid (by unfold setsL; rw [if_pos HC.out])
          have HT' : Hid (xs.take m = xs) := Lib.hid (List.take_of_length_le (by have := HX.out.len; omega))
          go_wp2_with fail
          refine (copied_any (HA.out.below hB) hr).mono ?_
          rintro e w1 ⟨a1, c1, rfl, hA1, hb1⟩
          have B1 := hB.trans (hb1.mono hB.size)
          have HA1 := Lib.hid hA1
          have HX1 : Hid (IntsIn w1 a' xs) := Lib.hid (HX.out.cells.below B1)
          clear hA1
          go_wp2_with (at_builtin; refine wpList_append_src (w0 := w) rfl _ _ 33 rfl 3 i0 (.int .i64 0) 8 Tryd.underlying33 hi hz0 hz1 hz2 rfl _ rfl 0 [] (World.ownsRow_nil _ _ _ _) a' m c' rfl (xs.map (Value.int .i64)) HNil.out HLen.out (ints_at HX1.out) (ints_one _) (by unfold maxLen; omega) (by omega) B1 ?_; intro v2 w2 hown2 hg2 hB2)
          have hb2 : Below w1.heap.size w1 w2 := (Below.refl _ w1).grown hg2 (Nat.le_refl _) (fun k e => by cases e)
          rw [List.nil_append, Nat.zero_add] at hown2
          obtain ⟨a2, c2, rfl, hI2⟩ := ints_of_row hown2 HX.out.len HX.out.big
          have HI2 := Lib.hid hI2
          clear hI2 hown2 hg2
          refine (Sets_any (HE.out.below hB2) (HA1.out.below hb2) HI2.out).mono ?_
          rintro e w3 ⟨v3, rfl, hrow, hb3⟩
          have B3 := hB2.trans (hb3.mono hB2.size)
          rw [HS.out, HC.out] at *
          obtain ⟨a3, c3, rfl, hI3⟩ := ints_of_row (xs := (gotL xs 256).map (fun k : Nat => (k : Int))) (by rw [List.map_map]; exact hrow) (by rw [List.length_map]) (by have := gotL_len xs 256; omega)
          have HI3 := Lib.hid hI3
          clear hI3 hrow
          have HW3 : Hid (IntsIn w3 aw ((gotL xs 256).map fun k : Nat => (k : Int))) := Lib.hid (by
            have h1 := HW.out.cells
            rw [HT'.out] at h1
            exact h1.below ((hb1.trans (hb2.mono hb1.size)).trans (hb3.mono (Nat.le_trans hb1.size hb2.size))))
          go_wp2_with fail
          refine (SameInts_any _ _ _ ((gotL xs 256).map fun k : Nat => (k : Int)) _ _ _ ((gotL xs 256).map fun k : Nat => (k : Int)) _ HI3.out.len (by have := HW.out.len; rw [HT'.out] at this; exact this) HI3.out.big HW.out.big HI3.out.cells HW3.out).mono ?_
          rintro e w' ⟨rfl, rfl⟩
          rw [decide_eq_true rfl]
          go_wp2_with fail
          refine (awake_any (HE.out.below B3) (HT.out.below B3)).mono ?_
          rintro e w4 ⟨rfl, hb4⟩
          go_wp2
          go_ret
          exact ⟨rfl, B3.trans (hb4.mono B3.size)⟩
      · have HC : Hid (setCode ss xs = 1) := Lib.hid (by unfold setCode; rw [HB.out, hno.out]; rfl)
        have HS : Hid (setsL ss xs = []) := Lib.hid (by unfold setsL; rw [if_neg (by rw [HC.out]; decide)])
        by_cases hlt : k < m
        · go_wp2_with fail
          refine (copied_any (HA.out.below hB) hr).mono ?_
          rintro e w1 ⟨a1, c1, rfl, hA1, hb1⟩
          have B1 := hB.trans (hb1.mono hB.size)
          have HA1 := Lib.hid hA1
          have HX1 : Hid (IntsIn w1 a' xs) := Lib.hid (HX.out.cells.below B1)
          clear hA1
          go_wp2_with (at_builtin; refine wpList_append_src (w0 := w) rfl _ _ 33 rfl 3 i0 (.int .i64 0) 8 Tryd.underlying33 hi hz0 hz1 hz2 rfl _ rfl 0 [] (World.ownsRow_nil _ _ _ _) a' m c' rfl (xs.map (Value.int .i64)) HNil.out HLen.out (ints_at HX1.out) (ints_one _) (by unfold maxLen; omega) (by omega) B1 ?_; intro v2 w2 hown2 hg2 hB2)
          have hb2 : Below w1.heap.size w1 w2 := (Below.refl _ w1).grown hg2 (Nat.le_refl _) (fun k e => by cases e)
          rw [List.nil_append, Nat.zero_add] at hown2
          obtain ⟨a2, c2, rfl, hI2⟩ := ints_of_row hown2 HX.out.len HX.out.big
          have HI2 := Lib.hid hI2
          clear hI2 hown2 hg2
          refine (Sets_any (HE.out.below hB2) (HA1.out.below hb2) HI2.out).mono ?_
          rintro e w3 ⟨v3, rfl, hrow, hb3⟩
          have B3 := hB2.trans (hb3.mono hB2.size)
          rw [HS.out, HC.out] at *
          obtain ⟨a3, c3, rfl, hI3⟩ := ints_of_row (xs := ([] : List Nat).map (fun k : Nat => (k : Int))) (by rw [List.map_map]; exact hrow) (by rw [List.length_map]) (by simp)
          have HI3 := Lib.hid hI3
          clear hI3 hrow
          go_wp2_with fail
          refine (awake_any (HE.out.below B3) (HT.out.below B3)).mono ?_
          rintro e w4 ⟨rfl, hb4⟩
          go_wp2
          go_ret
          exact ⟨rfl, B3.trans (hb4.mono B3.size)⟩
        · obtain rfl : m = k := by omega
          go_wp2_with fail
          refine (copied_any (HA.out.below hB) hr).mono ?_
          rintro e w1 ⟨a1, c1, rfl, hA1, hb1⟩
          have B1 := hB.trans (hb1.mono hB.size)
          have HA1 := Lib.hid hA1
          have HX1 : Hid (IntsIn w1 a' xs) := Lib.hid (HX.out.cells.below B1)
          clear hA1
          go_wp2_with (at_builtin; refine wpList_append_src (w0 := w) rfl _ _ 33 rfl 3 i0 (.int .i64 0) 8 Tryd.underlying33 hi hz0 hz1 hz2 rfl _ rfl 0 [] (World.ownsRow_nil _ _ _ _) a' m c' rfl (xs.map (Value.int .i64)) HNil.out HLen.out (ints_at HX1.out) (ints_one _) (by unfold maxLen; omega) (by omega) B1 ?_; intro v2 w2 hown2 hg2 hB2)
          have hb2 : Below w1.heap.size w1 w2 := (Below.refl _ w1).grown hg2 (Nat.le_refl _) (fun k e => by cases e)
          rw [List.nil_append, Nat.zero_add] at hown2
          obtain ⟨a2, c2, rfl, hI2⟩ := ints_of_row hown2 HX.out.len HX.out.big
          have HI2 := Lib.hid hI2
          clear hI2 hown2 hg2
          refine (Sets_any (HE.out.below hB2) (HA1.out.below hb2) HI2.out).mono ?_
          rintro e w3 ⟨v3, rfl, hrow, hb3⟩
          have B3 := hB2.trans (hb3.mono hB2.size)
          rw [HS.out, HC.out] at *
          obtain ⟨a3, c3, rfl, hI3⟩ := ints_of_row (xs := ([] : List Nat).map (fun k : Nat => (k : Int))) (by rw [List.map_map]; exact hrow) (by rw [List.length_map]) (by simp)
          have HI3 := Lib.hid hI3
          clear hI3 hrow
          go_wp2_with fail
          refine (awake_any (HE.out.below B3) (HT.out.below B3)).mono ?_
          rintro e w4 ⟨rfl, hb4⟩
          go_wp2
          go_ret
          exact ⟨rfl, B3.trans (hb4.mono B3.size)⟩
end Go.Proofs.YtcbmlchlllpnoaaDoor
