/- Texts joined: RGood, Is2. -/
import Derived.Test.YtgpfpnenpgnogaaGreatDoorJa26
import Derived.Test.YtgpfpnenpgnogaaGreatDoorJa05
import Derived.Test.YtgpfpnenpgnogaaGreatDoorJa22
import Derived.Deep.RegionHeld3
import Derived.Test.YtgpfpnenpgnogaaGreatDoorJa06
/- The reference's In, Accepts, good, bad. -/
namespace Go.Proofs.YtgpfpnenpgnogaaGreatDoor
open Go.RowKit Pl

set_option maxHeartbeats 1000000 in
theorem In_any {w : World} {a : Option Addr} {n c : Nat} {xs : List Int} (A : IntArg w a n c xs) (x : Int) :
    Calls Tryz.prog 44 #[.slice a n c, .int .i64 x] w fun e w' => e = .returned (.bool (decide (x ∈ xs))) ∧ w = w' := by
  have HA := Lib.hid A
  have hn : n ≤ 9223372036854775807 := A.big
  clear A
  go_enter Tryz.func44, Tryz.ntmps44
  go_wp2
  go_loop [6, 9] (fun _ p => ∃ j : Nat, j ≤ n ∧ p = .int .i64 j ∧ Hid (x ∉ xs.take j)) (fun _ p => n - (intOf p).toNat)
  case atStart => exact ⟨0, Nat.zero_le _, rfl, Lib.hid (by simp)⟩
  case round =>
    obtain ⟨j, hj, rfl, hne⟩ := hrel
    by_cases hlt : j < n
    · have hjx : j < xs.length := by have := HA.out.len; omega
      obtain ⟨b, off, rfl, c1⟩ := HA.out.cells j hjx
      obtain ⟨y, HY⟩ : ∃ y, Hid (xs.getD j 0 = y) := ⟨_, Lib.hid rfl⟩
      change w.cell? _ = some (.int .i64 (xs.getD j 0)) at c1
      rw [HY.out] at c1
      have HT := Lib.hid (take_next xs j 0 hjx)
      by_cases he : x = y
      · have hq : (x == y) = true := by rw [he]; simp
        have HM : Hid (decide (x ∈ xs) = true) := Lib.hid (decide_eq_true (by
          rw [he, ← HY.out, List.getD_eq_getElem?_getD, List.getElem?_eq_getElem hjx]
          exact List.getElem_mem hjx))
        subst he
        go_wp2
        go_ret
        exact ⟨by rw [HM.out]; rfl, rfl⟩
      · have hq : (x == y) = false := by rw [beq_eq_false_iff_ne]; exact he
        have HN : Hid (x ∉ xs.take (j + 1)) := Lib.hid (by
          rw [HT.out, List.mem_append, List.mem_singleton, HY.out]
          rintro (h | h)
          · exact hne.out h
          · exact he h)
        clear hjx
        go_wp2
        go_round
        case rel => exact ⟨j + 1, by omega, by go_num, HN⟩
        case measure => simp [intOf]; omega
    · have HM : Hid (decide (x ∈ xs) = false) := Lib.hid (decide_eq_false (by
        have := hne.out
        rwa [List.take_of_length_le (by have := HA.out.len; omega)] at this))
      go_wp2
      go_ret
      exact ⟨by rw [HM.out]; rfl, rfl⟩

set_option maxHeartbeats 1000000 in
theorem Accepts_any {w : World} {a : Option Addr} {n c : Nat} {b : Option Addr} {k d : Nat} {s : Spc} (A : SpecArg w a n c b k d s) (y x : Int) (hy : y < s.states.length) :
    Calls Tryz.prog 72 #[.agg #[.slice a n c, .slice b k d], .int .i64 y, .int .i64 x] w fun e w' => e = .returned (.bool (decide (0 ≤ y) && decide (x ∈ (teAt s.states y.toNat).1))) ∧ Below w.heap.size w w' := by
  have hB := (Below.refl w.heap.size w).alloc (Nat.le_refl _) (.cells #[.slice a n c, .slice b k d] 28)
  have HB := Lib.hid hB
  have hk : k ≤ 140737488355328 := A.big
  by_cases h0 : 0 ≤ y
  · obtain ⟨u, rfl⟩ := Int.eq_ofNat_of_zero_le h0
    have hus : u < s.states.length := by omega
    obtain ⟨bb, off, rfl, a1, n1, c1, a2, n2, c2, d1, d2, hN1, hN2⟩ := (A.rows.below hB) u hus
    have hu1 : (u : Int) < k := by have := A.len; omega
    have HI := Lib.hid (In_any hN1.arg x)
    have HV : Hid ((decide ((0 : Int) ≤ (u : Int)) && decide (x ∈ (teAt s.states (u : Int).toNat).1)) = decide (x ∈ (teAt s.states u).1)) := Lib.hid (by rw [Int.toNat_natCast, decide_eq_true h0, Bool.true_and])
    obtain ⟨v, Hv⟩ : ∃ v, Hid (decide (x ∈ (teAt s.states u).1) = v) := ⟨_, Lib.hid rfl⟩
    rw [Hv.out] at HI HV
    rw [HV.out]
    clear A hB hN1 hN2 hy hus
    go_enter Tryz.func72, Tryz.ntmps72
    go_wp2_with fail
    refine HI.out.mono ?_
    rintro e w' ⟨rfl, rfl⟩
    go_wp2
    go_ret
    exact ⟨rfl, HB.out⟩
  · have HV : Hid ((decide ((0 : Int) ≤ y) && decide (x ∈ (teAt s.states y.toNat).1)) = false) := Lib.hid (by rw [decide_eq_false h0]; rfl)
    rw [HV.out]
    have h1 : y < 0 := by omega
    clear A hB
    go_enter Tryz.func72, Tryz.ntmps72
    go_wp2
    go_ret
    exact ⟨rfl, HB.out⟩

theorem fit_off (m : Syst) (s : Spc) (x y : Nat) : fitB m s x y = decide ((offN (stAt m.states x) : Int) ∈ (teAt s.states y).1) := rfl

set_option maxRecDepth 100000 in
set_option maxHeartbeats 2000000 in
theorem good_any {w : World} {a : Option Addr} {n c : Nat} {b : Option Addr} {k d : Nat} {m : Syst} {a' : Option Addr} {n' c' : Nat} {b' : Option Addr} {k' d' : Nat} {s : Spc} (A : SysArg w a n c b k d m) (S : SpecArg w a' n' c' b' k' d' s) (hv : sysB m = true) (x : Nat) (y : Int) (hx : x < m.states.length) (hy : y < s.states.length) :
    Calls Tryz.prog 32 #[.agg #[.slice a n c, .slice b k d], .agg #[.slice a' n' c', .slice b' k' d'], .agg #[.int .i64 x, .int .i64 y]] w fun e w' => e = .returned (.bool (goodB m s x y)) ∧ Below w.heap.size w w' := by
  have hb0 := (((Below.refl w.heap.size w).alloc (Nat.le_refl _) (.cells #[.slice a n c, .slice b k d] 25)).alloc (by simp) (.cells #[.slice a' n' c', .slice b' k' d'] 28)).alloc (by simp; omega) (.cells #[.int .i64 x, .int .i64 y] 75)
  have h1 := ((Whole.new w 25 #[.slice a n c, .slice b k d]).alloc (.cells #[.slice a' n' c', .slice b' k' d'] 28)).alloc (.cells #[.int .i64 x, .int .i64 y] 75)
  have h2 := (Whole.new (w.alloc (.cells #[.slice a n c, .slice b k d] 25)) 28 #[.slice a' n' c', .slice b' k' d']).alloc (.cells #[.int .i64 x, .int .i64 y] 75)
  have h3 := Whole.new ((w.alloc (.cells #[.slice a n c, .slice b k d] 25)).alloc (.cells #[.slice a' n' c', .slice b' k' d'] 28)) 75 #[.int .i64 x, .int .i64 y]
  simp only [World.size_alloc] at h2 h3
  obtain ⟨w0, HW0⟩ : ∃ z, Hid (((w.alloc (.cells #[.slice a n c, .slice b k d] 25)).alloc (.cells #[.slice a' n' c', .slice b' k' d'] 28)).alloc (.cells #[.int .i64 x, .int .i64 y] 75) = z) := ⟨_, Lib.hid rfl⟩
  rw [HW0.out] at hb0 h1 h2 h3
  have q0 : w0.cell? ⟨w.heap.size, 0, none⟩ = some (.slice a n c) := h1.cell 0
  have q1 : w0.cell? ⟨w.heap.size, 1, none⟩ = some (.slice b k d) := h1.cell 1
  have q2 : w0.cell? ⟨w.heap.size + 1, 0, none⟩ = some (.slice a' n' c') := h2.cell 0
  have q3 : w0.cell? ⟨w.heap.size + 1, 1, none⟩ = some (.slice b' k' d') := h2.cell 1
  have q4 : w0.cell? ⟨w.heap.size + 1 + 1, 0, none⟩ = some (.int .i64 x) := h3.cell 0
  have q5 : w0.cell? ⟨w.heap.size + 1 + 1, 1, none⟩ = some (.int .i64 y) := h3.cell 1
  have HOf : Hid (∀ W, Below w0.heap.size w0 W → Calls Tryz.prog 73 #[.agg #[.slice a n c, .slice b k d], .int .i64 x] W fun e w' => e = .returned (.int .i64 (offN (stAt m.states x))) ∧ Below W.heap.size W w') := Lib.hid fun W hb => ROffer_any ((A.below hb0).below hb) hv x hx
  obtain ⟨o, HOo⟩ : ∃ z, Hid (offN (stAt m.states x) = z) := ⟨_, Lib.hid rfl⟩
  rw [HOo.out] at HOf
  have HAc : Hid (∀ W, Below w0.heap.size w0 W → Calls Tryz.prog 72 #[.agg #[.slice a' n' c', .slice b' k' d'], .int .i64 y, .int .i64 o] W fun e w' => e = .returned (.bool (goodB m s x y)) ∧ Below W.heap.size W w') := Lib.hid fun W hb => by
    have := Accepts_any ((S.below hb0).below hb) y o hy
    unfold goodB
    rw [fit_off, HOo.out]
    exact this
  obtain ⟨v, Hv⟩ : ∃ v, Hid (goodB m s x y = v) := ⟨_, Lib.hid rfl⟩
  rw [Hv.out] at HAc
  rw [Hv.out]
  have HB0 := Lib.hid hb0
  have d0 : w0.drew.cell? ⟨w.heap.size, 0, none⟩ = some (.slice a n c) := q0
  have d1 : w0.drew.cell? ⟨w.heap.size, 1, none⟩ = some (.slice b k d) := q1
  have d2 : w0.drew.cell? ⟨w.heap.size + 1, 0, none⟩ = some (.slice a' n' c') := q2
  have d3 : w0.drew.cell? ⟨w.heap.size + 1, 1, none⟩ = some (.slice b' k' d') := q3
  have d4 : w0.drew.cell? ⟨w.heap.size + 1 + 1, 0, none⟩ = some (.int .i64 x) := q4
  have d5 : w0.drew.cell? ⟨w.heap.size + 1 + 1, 1, none⟩ = some (.int .i64 y) := q5
  clear A S hv hx hy hb0 h1 h2 h3
  go_enter Tryz.func32, Tryz.ntmps32
  go_wp2
  rw [HW0.out]
  go_region_held3 (fun w' => w'.cell? ⟨w.heap.size, 0, none⟩ = some (.slice a n c) ∧ w'.cell? ⟨w.heap.size, 1, none⟩ = some (.slice b k d) ∧ w'.cell? ⟨w.heap.size + 1, 0, none⟩ = some (.slice a' n' c') ∧ w'.cell? ⟨w.heap.size + 1, 1, none⟩ = some (.slice b' k' d') ∧ w'.cell? ⟨w.heap.size + 1 + 1, 0, none⟩ = some (.int .i64 x) ∧ w'.cell? ⟨w.heap.size + 1 + 1, 1, none⟩ = some (.int .i64 y))
    ((with_reducible (first | assumption | exact ⟨k0, k1, k2, k3, k4, k5⟩ | exact ⟨d0, d1, d2, d3, d4, d5⟩ | exact ⟨q0, q1, q2, q3, q4, q5⟩)))
    (first
      | (go_at_call 72; refine (HAc.out _ hbO).mono ?_; rintro e wP ⟨rfl, hbP⟩; have hbQ := below_two hbO hbP; have k0 := up_cell hbQ q0; have k1 := up_cell hbQ q1; have k2 := up_cell hbQ q2; have k3 := up_cell hbQ q3; have k4 := up_cell hbQ q4; have k5 := up_cell hbQ q5)
      | (go_at_call 73; refine (HOf.out _ (Below.refl _ w0).drew).mono ?_; rintro e wO ⟨rfl, hbO'⟩; have hbO := below_two (Below.refl w0.heap.size w0).drew hbO'; have k0 := up_cell hbO q0; have k1 := up_cell hbO q1; have k2 := up_cell hbO q2; have k3 := up_cell hbO q3; have k4 := up_cell hbO q4; have k5 := up_cell hbO q5))
  go_wp2
  go_ret
  exact ⟨rfl, HB0.out.trans (hbQ.mono HB0.out.size)⟩

set_option maxRecDepth 100000 in
set_option maxHeartbeats 2000000 in
theorem bad_any {w : World} {a : Option Addr} {n c : Nat} {b : Option Addr} {k d : Nat} {m : Syst} {a' : Option Addr} {n' c' : Nat} {b' : Option Addr} {k' d' : Nat} {s : Spc} {la : Option Addr} {ln lc : Nat} {l : List Nat} (A : SysArg w a n c b k d m) (S : SpecArg w a' n' c' b' k' d' s) (hv : sysB m = true) (L : IntArg w la ln lc (zs l)) (hl : ∀ x ∈ l, x < m.states.length) (y : Int) (hy : y < s.states.length) :
    Calls Tryz.prog 42 #[.agg #[.slice a n c, .slice b k d], .agg #[.slice a' n' c', .slice b' k' d'], .slice la ln lc, .int .i64 y] w fun e w' => e = .returned (.bool (badB m s l y)) ∧ Below w.heap.size w w' := by
  have hb0 := ((Below.refl w.heap.size w).alloc (Nat.le_refl _) (.cells #[.slice a n c, .slice b k d] 25)).alloc (by simp) (.cells #[.slice a' n' c', .slice b' k' d'] 28)
  have h1 := (Whole.new w 25 #[.slice a n c, .slice b k d]).alloc (.cells #[.slice a' n' c', .slice b' k' d'] 28)
  have h2 := Whole.new (w.alloc (.cells #[.slice a n c, .slice b k d] 25)) 28 #[.slice a' n' c', .slice b' k' d']
  simp only [World.size_alloc] at h2
  obtain ⟨w0, HW0⟩ : ∃ z, Hid ((w.alloc (.cells #[.slice a n c, .slice b k d] 25)).alloc (.cells #[.slice a' n' c', .slice b' k' d'] 28) = z) := ⟨_, Lib.hid rfl⟩
  rw [HW0.out] at hb0 h1 h2
  have H1 := Lib.hid h1
  have H2 := Lib.hid h2
  have HB0 := Lib.hid hb0
  have HA := Lib.hid (A.below hb0)
  have HS := Lib.hid (S.below hb0)
  have HL := Lib.hid (L.below hb0)
  have HV := Lib.hid hv
  have HLr := Lib.hid hl
  have HY := Lib.hid hy
  have HLn : Hid (l.length = ln) := Lib.hid (by have := L.len; rw [this]; simp [zs])
  have hn : ln ≤ 9223372036854775807 := L.big
  clear A S hv L hl hy hb0 h1 h2
  go_enter Tryz.func42, Tryz.ntmps42
  go_wp2
  rw [HW0.out]
  go_loopw [10, 13] (fun _ p wr => ∃ j : Nat, j ≤ ln ∧ p = .int .i64 j ∧ Hid (badB m s (l.take j) y = false) ∧ Below w0.heap.size w0 wr) (fun _ p _ => ln - (intOf p).toNat)
  case atStart => exact ⟨0, Nat.zero_le _, rfl, Lib.hid rfl, Below.refl _ _⟩
  case round =>
    obtain ⟨j, hj, rfl, hgo, hb⟩ := hrel
    have Hb := Lib.hid hb
    by_cases hlt : j < ln
    · have hjl : j < l.length := by rw [HLn.out]; exact hlt
      obtain ⟨bl, ol, rfl, c1⟩ := (HL.out.below hb).cells j (by simp [zs]; exact hjl)
      obtain ⟨x, HX⟩ : ∃ x, Hid (l.getD j 0 = x) := ⟨_, Lib.hid rfl⟩
      have hz : (zs l).getD j 0 = (x : Int) := by rw [← HX.out]; simp [zs, List.getD, hjl]
      rw [hz] at c1
      have hxs : x < m.states.length := by rw [← HX.out, List.getD_eq_getElem?_getD, List.getElem?_eq_getElem hjl]; exact HLr.out _ (List.getElem_mem hjl)
      have HG := good_any (HA.out.below hb) (HS.out.below hb) HV.out x y hxs HY.out
      have x0 := (H1.out.below hb H1.out.lt).cell 0
      have x1 := (H1.out.below hb H1.out.lt).cell 1
      have x2 := (H2.out.below hb H2.out.lt).cell 0
      have x3 := (H2.out.below hb H2.out.lt).cell 1
      simp only [List.getElem?_toArray, List.getElem?_cons_succ, List.getElem?_cons_zero] at x0 x1 x2 x3
      have HTk : Hid (l.take (j + 1) = l.take j ++ [x]) := Lib.hid (by rw [take_next l j 0 hjl, HX.out])
      have HBa : Hid (badB m s (l.take (j + 1)) y = !goodB m s x y) := Lib.hid (by
        rw [HTk.out]
        have := hgo.out
        unfold badB at this ⊢
        rw [List.any_append, this]
        simp)
      clear hb hz hxs
      cases hg : goodB m s x y
      · rw [hg] at HG HBa
        have HG := Lib.hid HG
        have HF : Hid (badB m s l y = true) := Lib.hid (by
          have h9 := HBa.out
          unfold badB at h9 ⊢
          obtain ⟨z, hz1, hz2⟩ := List.any_eq_true.1 (show _ = true from h9)
          exact List.any_eq_true.2 ⟨z, List.mem_of_mem_take hz1, hz2⟩)
        clear hg hjl
        go_wp2_with fail
        refine HG.out.mono ?_
        rintro e w2 ⟨rfl, hb2⟩
        have HB2 := Lib.hid (HB0.out.trans ((Hb.out.trans (hb2.mono Hb.out.size)).mono HB0.out.size))
        clear hb2
        go_wp2
        go_ret
        exact ⟨by rw [HF.out]; rfl, HB2.out⟩
      · rw [hg] at HG HBa
        have HG := Lib.hid HG
        clear hg hjl
        go_wp2_with fail
        refine HG.out.mono ?_
        rintro e w2 ⟨rfl, hb2⟩
        have HB2 := Lib.hid (Hb.out.trans (hb2.mono Hb.out.size))
        clear hb2
        go_wp2
        go_roundw
        case rel => exact ⟨j + 1, by omega, by go_num, HBa, HB2.out⟩
        case measure => simp [intOf]; omega
    · have HF : Hid (badB m s l y = false) := Lib.hid (by
        have := hgo.out
        rwa [List.take_of_length_le (by rw [HLn.out]; omega)] at this)
      have HB2 := Lib.hid (HB0.out.trans (hb.mono HB0.out.size))
      clear hb
      go_wp2
      go_ret
      exact ⟨by rw [HF.out]; rfl, HB2.out⟩
end Go.Proofs.YtgpfpnenpgnogaaGreatDoor
/- The reference's Is of systems. -/
namespace Go.Proofs.YtgpfpnenpgnogaaGreatDoor
open Go.RowKit Pl

set_option maxHeartbeats 2000000 in
theorem RIs_any {w : World} {a : Option Addr} {n c : Nat} {b : Option Addr} {k d : Nat} {m : Syst} (A : SysArg w a n c b k d m) (ht : total m.states ≤ 4611686018427387904) :
    Calls Tryz.prog 21 #[.agg #[.slice a n c, .slice b k d]] w fun e w' => e = .returned (.bool (sysB m)) ∧ Below w.heap.size w w' := by
  have hB := (Below.refl w.heap.size w).alloc (Nat.le_refl _) (.cells #[.slice a n c, .slice b k d] 25)
  have HC := Lib.hid (Is_arg (A.acts.below hB))
  have HA := Lib.hid A
  have HTT := Lib.hid ht
  have h1 : n ≤ 140737488355328 := A.abig
  have h2 : k ≤ 140737488355328 := by have := A.cap; have := A.big; omega
  have HR := Lib.hid (A.rows.below hB)
  have HBB := Lib.hid hB
  clear A hB ht
  cases ha : actsB m.acts
  · have HB := Lib.hid (sysB_acts ha)
    rw [ha] at HC
    clear ha
    go_enter Tryz.func21, Tryz.ntmps21
    go_wp2_with fail
    refine HC.out.mono ?_
    rintro e w' ⟨rfl, rfl⟩
    go_wp2
    go_ret
    exact ⟨by rw [HB.out]; rfl, HBB.out⟩
  · rw [ha] at HC
    have HAC := Lib.hid ha
    clear ha
    by_cases hk : 1 ≤ k ∧ k ≤ 5000
    · obtain ⟨hk1, hk2⟩ := hk
      go_enter Tryz.func21, Tryz.ntmps21
      go_wp2_with fail
      refine HC.out.mono ?_
      rintro e w' ⟨rfl, rfl⟩
      go_wp2
      go_loopw [3, 5, 6, 7, 27] (fun s _ _ _ i wr => ∃ j t : Nat, j ≤ k ∧ i = .int .i64 j ∧ s = .int .i64 t ∧ Hid (t = total (m.states.take j) ∧ ∀ x, x < j → edgesB m.acts.length m.states.length (stAt m.states x) = true) ∧ t ≤ 4611686018427387904 ∧ Below (w.heap.size + 1) (w.alloc (.cells #[.slice a n c, .slice b k d] 25)) wr) (fun _ _ _ _ i _ => k - (intOf i).toNat)
      case atStart => exact ⟨0, 0, Nat.zero_le _, rfl, rfl, Lib.hid ⟨by simp [total], fun x hx => by omega⟩, by omega, Below.refl _ _⟩
      case round =>
        obtain ⟨w0, hw0⟩ : ∃ z, z = wr := ⟨_, rfl⟩
        subst hw0
        obtain ⟨j, t, hj, rfl, rfl, ht, htb, hb⟩ := hrel
        have hb' : Below (w.alloc (.cells #[.slice a n c, .slice b k d] 25)).heap.size (w.alloc (.cells #[.slice a n c, .slice b k d] 25)) w0 := hb.mono (by simp)
        by_cases hlt : j < k
        · obtain ⟨bb, off, rfl, ai, ni, ci, c1, hE⟩ := (HR.out.below hb') j (by have := HA.out.len; omega)
          have h3 : ni ≤ 140737488355328 := by have := hE.cap; have := hE.big; omega
          have HE := Lib.hid hE
          have HT : Hid (t + ni = total (m.states.take (j + 1))) := Lib.hid (by
            have := ht.out.1; have := total_take m.states j (by have := HA.out.len; omega); have := hE.len; omega)
          have h4 : t + ni ≤ 4611686018427387904 := by have := HT.out; have := total_take_le m.states (j + 1); have := HTT.out; omega
          have c2 : w0.cell? ⟨w.heap.size, 0, none⟩ = some (.slice a n c) := by rw [hb'.cell (by simp)]; simp
          have c3 : w0.cell? ⟨w.heap.size, 1, none⟩ = some (.slice (some ⟨bb, off, none⟩) k d) := by rw [hb'.cell (by simp)]; simp
          clear hE
          go_wp2
          go_loopw [6, 7, 37] (fun _ _ i wr => ∃ x : Nat, x ≤ ni ∧ i = .int .i64 x ∧ Hid (∀ y, y < x → edgeB n k (stAt m.states j) y = true) ∧ Below w0.heap.size w0 wr) (fun _ _ i _ => ni - (intOf i).toNat)
          case atStart => exact ⟨0, Nat.zero_le _, rfl, Lib.hid fun y hy => by omega, Below.refl _ _⟩
          case round =>
            obtain ⟨x, hx, rfl, hgood, hb1⟩ := hrel
            by_cases hxl : x < ni
            · obtain ⟨be, oe, rfl, d1, d2⟩ := (HE.out.cells.below hb1) x (by have := HE.out.len; omega)
              obtain ⟨X, HX⟩ : ∃ z, Hid ((edAt (stAt m.states j) x).1 = z) := ⟨_, Lib.hid rfl⟩
              obtain ⟨Y, HY⟩ : ∃ z, Hid ((edAt (stAt m.states j) x).2 = z) := ⟨_, Lib.hid rfl⟩
              rw [HX.out] at d1
              rw [HY.out] at d2
              have k2 : wr.cell? ⟨w.heap.size, 0, none⟩ = some (.slice a n c) := (hb1.cell (lt_of_cell c2)).trans c2
              have k3 : wr.cell? ⟨w.heap.size, 1, none⟩ = some (.slice (some ⟨bb, off, none⟩) k d) := (hb1.cell (lt_of_cell c3)).trans c3
              have K2 := cell_new k2
              have K3 := cell_new k3
              have e1 : edAt (stAt m.states j) x = (X, Y) := by rw [← HX.out, ← HY.out]
              have HE1 := Lib.hid e1
              clear e1
              have hbw : Below w.heap.size w wr := (HBB.out.trans (hb'.mono HBB.out.size)).trans (hb1.mono (Nat.le_trans HBB.out.size hb'.size))
              have hb0 := hb1.alloc hb1.size (.cells #[.int .i64 X, .int .i64 Y] 69)
              have hbz := (hbw.alloc hbw.size (.cells #[.int .i64 X, .int .i64 Y] 69))
              by_cases hok : okE n k (X, Y) = true
              · have h4' := (okE_iff _ _ _).1 hok
                simp only at h4'
                obtain ⟨o1, o2, o3, o4⟩ := h4'
                have g1 : decide (X < 0) = false := decide_eq_false (by omega)
                have g2 : decide ((n : Int) ≤ X) = false := decide_eq_false (by omega)
                have g3 : decide (Y < 0) = false := decide_eq_false (by omega)
                have g4 : decide ((k : Int) ≤ Y) = false := decide_eq_false (by omega)
                have HO := Lib.hid hok
                clear hok
                by_cases h0 : 0 < x
                · obtain ⟨z, rfl⟩ : ∃ z, x = z + 1 := ⟨x - 1, by omega⟩
                  obtain ⟨be', oe', e, f1, f2⟩ := (HE.out.cells.below hb1) z (by have := HE.out.len; omega)
                  cases e
                  obtain ⟨PX, HPX⟩ : ∃ q, Hid ((edAt (stAt m.states j) z).1 = q) := ⟨_, Lib.hid rfl⟩
                  obtain ⟨PY, HPY⟩ : ∃ q, Hid ((edAt (stAt m.states j) z).2 = q) := ⟨_, Lib.hid rfl⟩
                  rw [HPX.out] at f1
                  rw [HPY.out] at f2
                  have HE2 : Hid (edAt (stAt m.states j) (z + 1 - 1) = (PX, PY)) := Lib.hid (by rw [← HPX.out, ← HPY.out]; rfl)
                  have hg : decide ((0 : Int) < (z + 1 : Nat)) = true := decide_eq_true (by omega)
                  have hk1 : IntKind.i64.wrap (z : Int) = (z : Int) := IntWalk.i64_in _ (by omega)
                  have hk2 : (0 : Int) ≤ (z : Int) := by omega
                  have hk4 : (z : Int) < ni := by omega
                  obtain ⟨q, HQ⟩ : ∃ q, Hid (ltE (PX, PY) (X, Y) = q) := ⟨_, Lib.hid rfl⟩
                  cases q
                  · have HB := Lib.hid (sysB_edges (m := m) j (by have := HA.out.len; omega) (by
                      rw [← HA.out.len, ← HA.out.acts.len]
                      exact edgesB_bad (k := z + 1) (by have := HE.out.len; omega) (edgeB_back h0 (by rw [HE1.out, HE2.out]; exact HQ.out))))
                    go_wp2
                    go_region_held3 (fun w' => w'.cell? ⟨wr.heap.size, 0, none⟩ = some (.int .i64 X) ∧ w'.cell? ⟨wr.heap.size, 1, none⟩ = some (.int .i64 Y) ∧ w'.cell? ⟨w.heap.size, 0, none⟩ = some (.slice a n c) ∧ w'.cell? ⟨w.heap.size, 1, none⟩ = some (.slice (some ⟨bb, off, none⟩) k d) ∧ w'.cell? ⟨be, oe + z * 2, none⟩ = some (.int .i64 PX) ∧ w'.cell? ⟨be, oe + z * 2 + 1, none⟩ = some (.int .i64 PY)) (simp (maxDischargeDepth := 12) [*, World.cell?_alloc_some])
                      (first | (go_at_call 53; refine (before_at _ _ _ _ _).mono ?_; rw [HQ.out]; rintro e w' ⟨rfl, rfl⟩))
                    go_wp2
                    go_ret
                    exact ⟨by rw [HB.out]; rfl, (((hbw.alloc hbw.size _).alloc (by have := hbw.size; simp; omega) _).alloc (by have := hbw.size; simp; omega) _).drew⟩
                  · have HG : Hid (∀ y, y < z + 1 + 1 → edgeB n k (stAt m.states j) y = true) := Lib.hid fun y hy => by
                      by_cases e : y = z + 1
                      · rw [e]
                        exact edgeB_next (by rw [HE1.out]; exact HO.out) (by rw [HE1.out, HE2.out]; exact HQ.out)
                      · exact hgood.out y (by omega)
                    go_wp2
                    go_region_held3 (fun w' => w'.cell? ⟨wr.heap.size, 0, none⟩ = some (.int .i64 X) ∧ w'.cell? ⟨wr.heap.size, 1, none⟩ = some (.int .i64 Y) ∧ w'.cell? ⟨w.heap.size, 0, none⟩ = some (.slice a n c) ∧ w'.cell? ⟨w.heap.size, 1, none⟩ = some (.slice (some ⟨bb, off, none⟩) k d) ∧ w'.cell? ⟨be, oe + z * 2, none⟩ = some (.int .i64 PX) ∧ w'.cell? ⟨be, oe + z * 2 + 1, none⟩ = some (.int .i64 PY)) (simp (maxDischargeDepth := 12) [*, World.cell?_alloc_some])
                      (first | (go_at_call 53; refine (before_at _ _ _ _ _).mono ?_; rw [HQ.out]; rintro e w' ⟨rfl, rfl⟩))
                    go_wp2
                    go_roundw
                    case rel => exact ⟨z + 1 + 1, by omega, by go_num, HG, (((hb1.alloc hb1.size _).alloc (by have := hb1.size; simp; omega) _).alloc (by have := hb1.size; simp; omega) _).drew⟩
                    case measure => simp [intOf]; omega
                · have hg : decide ((0 : Int) < x) = false := decide_eq_false (by omega)
                  obtain rfl : x = 0 := by omega
                  simp only [Nat.zero_mul, Nat.add_zero] at d1 d2
                  have HG : Hid (∀ y, y < 0 + 1 → edgeB n k (stAt m.states j) y = true) := Lib.hid fun y hy => by
                    obtain rfl : y = 0 := by omega
                    exact edgeB_zero (by rw [HE1.out]; exact HO.out)
                  go_wp2
                  go_quiet (fail)
                  go_wp2
                  go_roundw
                  case rel => exact ⟨0 + 1, by omega, by go_num, HG, below_drewN (hb1.alloc hb1.size _) _⟩
                  case measure => simp [intOf]; omega
              · have HB := Lib.hid (sysB_edges (m := m) j (by have := HA.out.len; omega) (by
                  rw [← HA.out.len, ← HA.out.acts.len]
                  exact edgesB_bad (k := x) (by have := HE.out.len; omega) (edgeB_out (by rw [HE1.out]; rw [Bool.eq_false_iff]; exact hok))))
                have HOK := Lib.hid hok
                clear hok
                by_cases q1 : X < 0
                · have g1 : decide (X < 0) = true := decide_eq_true q1
                  go_wp2
                  go_quiet (fail)
                  go_wp2
                  go_ret
                  exact ⟨by rw [HB.out]; rfl, below_drewN hbz _⟩
                · have g1 : decide (X < 0) = false := decide_eq_false q1
                  by_cases q2 : (n : Int) ≤ X
                  · have g2 : decide ((n : Int) ≤ X) = true := decide_eq_true q2
                    go_wp2
                    go_quiet (fail)
                    go_wp2
                    go_ret
                    exact ⟨by rw [HB.out]; rfl, below_drewN hbz _⟩
                  · have g2 : decide ((n : Int) ≤ X) = false := decide_eq_false q2
                    by_cases q3 : Y < 0
                    · have g3 : decide (Y < 0) = true := decide_eq_true q3
                      go_wp2
                      go_quiet (fail)
                      go_wp2
                      go_ret
                      exact ⟨by rw [HB.out]; rfl, below_drewN hbz _⟩
                    · have g3 : decide (Y < 0) = false := decide_eq_false q3
                      have q4 : (k : Int) ≤ Y := by have h := HOK.out; rw [okE_iff] at h; simp only at h; omega
                      have g4 : decide ((k : Int) ≤ Y) = true := decide_eq_true q4
                      go_wp2
                      go_quiet (fail)
                      go_wp2
                      go_ret
                      exact ⟨by rw [HB.out]; rfl, below_drewN hbz _⟩
            · have HG : Hid (t + ni = total (m.states.take (j + 1)) ∧ ∀ x, x < j + 1 → edgesB m.acts.length m.states.length (stAt m.states x) = true) := Lib.hid ⟨HT.out, fun y hy => by
                by_cases e : y = j
                · rw [e, ← HA.out.len, ← HA.out.acts.len]; exact edgesB_good fun z hz => hgood.out z (by have := HE.out.len; omega)
                · exact ht.out.2 y (by omega)⟩
              go_wp2
              go_roundw
              case rel => exact ⟨j + 1, t + ni, by omega, by go_num, by go_num, HG, h4, hb.trans (hb1.mono (by have := hb'.size; simp at this; omega))⟩
              case measure => simp [intOf]; omega
        · have HB := Lib.hid (sysB_good (m := m) HAC.out (by have := HA.out.len; omega) (by have := HA.out.len; omega) (fun i hi => ht.out.2 i (by have := HA.out.len; omega)))
          have HT : Hid (t = total m.states) := Lib.hid (by
            have := ht.out.1
            rwa [List.take_of_length_le (by have := HA.out.len; omega)] at this)
          by_cases hle : t ≤ 400000
          · have HB2 := Lib.hid (HB.out (by have := HT.out; omega))
            go_wp2
            go_ret
            exact ⟨by rw [HB2.out]; simp; omega, HBB.out.trans (hb'.mono HBB.out.size)⟩
          · have HB2 := Lib.hid (sysB_total (m := m) (by have := HT.out; omega))
            go_wp2
            go_ret
            exact ⟨by rw [HB2.out]; simp; omega, HBB.out.trans (hb'.mono HBB.out.size)⟩
    · have HB : Hid (sysB m = false) := Lib.hid (by
        by_cases h : k < 1
        · exact sysB_few (by have := HA.out.len; omega)
        · exact sysB_many (by have := HA.out.len; omega))
      by_cases hk1 : k < 1
      · go_enter Tryz.func21, Tryz.ntmps21
        go_wp2_with fail
        refine HC.out.mono ?_
        rintro e w' ⟨rfl, rfl⟩
        go_wp2
        go_ret
        exact ⟨by rw [HB.out]; rfl, HBB.out⟩
      · have hk2 : 5000 < k := by omega
        go_enter Tryz.func21, Tryz.ntmps21
        go_wp2_with fail
        refine HC.out.mono ?_
        rintro e w' ⟨rfl, rfl⟩
        go_wp2
        go_ret
        exact ⟨by rw [HB.out]; rfl, HBB.out⟩
end Go.Proofs.YtgpfpnenpgnogaaGreatDoor
