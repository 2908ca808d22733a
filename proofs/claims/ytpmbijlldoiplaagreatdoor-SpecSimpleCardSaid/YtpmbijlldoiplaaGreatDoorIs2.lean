/- The reference's Is of systems. -/
import Derived.Test.YtpmbijlldoiplaaGreatDoorSame
namespace Go.Proofs.YtpmbijlldoiplaaGreatDoor
open Go.RowKit Pl

set_option maxHeartbeats 2000000 in
theorem RIs_any {w : World} {a : Option Addr} {n c : Nat} {b : Option Addr} {k d : Nat} {m : Syst} (A : SysArg w a n c b k d m) (ht : total m.states ≤ 4611686018427387904) :
    Calls Tryz.prog 10 #[.agg #[.slice a n c, .slice b k d]] w fun e w' => e = .returned (.bool (sysB m)) ∧ Below w.heap.size w w' := by
  have hB := (Below.refl w.heap.size w).alloc (Nat.le_refl _) (.cells #[.slice a n c, .slice b k d] 25)
  have HC := Lib.hid (Is_arg (A.acts.below hB))
  have HA := Lib.hid A
  have HTT := Lib.hid ht
  have h1 : n ≤ 140737488355328 := A.abig
  have h2 : k ≤ 140737488355328 := by have := A.cap; have := A.big; omega
  have HR := Lib.hid (A.rows.below hB)
  have HBB := Lib.hid hB
  clear A hB ht
  cases ha : actsB m.acts
  · have HB := Lib.hid (sysB_acts ha)
    rw [ha] at HC
    clear ha
    go_enter Tryz.func10, Tryz.ntmps10
    go_wp2_with fail
    refine HC.out.mono ?_
    rintro e w' ⟨rfl, rfl⟩
    go_wp2
    go_ret
    exact ⟨by rw [HB.out]; rfl, HBB.out⟩
  · rw [ha] at HC
    have HAC := Lib.hid ha
    clear ha
    by_cases hk : 1 ≤ k ∧ k ≤ 5000
    · obtain ⟨hk1, hk2⟩ := hk
      go_enter Tryz.func10, Tryz.ntmps10
      go_wp2_with fail
      refine HC.out.mono ?_
      rintro e w' ⟨rfl, rfl⟩
      go_wp2
      go_loopw [3, 5, 6, 7, 27] (fun s _ _ _ i wr => ∃ j t : Nat, j ≤ k ∧ i = .int .i64 j ∧ s = .int .i64 t ∧ Hid (t = total (m.states.take j) ∧ ∀ x, x < j → edgesB m.acts.length m.states.length (stAt m.states x) = true) ∧ t ≤ 4611686018427387904 ∧ Below (w.heap.size + 1) (w.alloc (.cells #[.slice a n c, .slice b k d] 25)) wr) (fun _ _ _ _ i _ => k - (intOf i).toNat)
      case atStart => exact ⟨0, 0, Nat.zero_le _, rfl, rfl, Lib.hid ⟨by simp [total], fun x hx => by omega⟩, by omega, Below.refl _ _⟩
      case round =>
        obtain ⟨w0, hw0⟩ : ∃ z, z = wr := ⟨_, rfl⟩
        subst hw0
        obtain ⟨j, t, hj, rfl, rfl, ht, htb, hb⟩ := hrel
        have hb' : Below (w.alloc (.cells #[.slice a n c, .slice b k d] 25)).heap.size (w.alloc (.cells #[.slice a n c, .slice b k d] 25)) w0 := hb.mono (by simp)
        by_cases hlt : j < k
        · obtain ⟨bb, off, rfl, ai, ni, ci, c1, hE⟩ := (HR.out.below hb') j (by have := HA.out.len; omega)
          have h3 : ni ≤ 140737488355328 := by have := hE.cap; have := hE.big; omega
          have HE := Lib.hid hE
          have HT : Hid (t + ni = total (m.states.take (j + 1))) := Lib.hid (by
            have := ht.out.1; have := total_take m.states j (by have := HA.out.len; omega); have := hE.len; omega)
          have h4 : t + ni ≤ 4611686018427387904 := by have := HT.out; have := total_take_le m.states (j + 1); have := HTT.out; omega
          have c2 : w0.cell? ⟨w.heap.size, 0, none⟩ = some (.slice a n c) := by rw [hb'.cell (by simp)]; simp
          have c3 : w0.cell? ⟨w.heap.size, 1, none⟩ = some (.slice (some ⟨bb, off, none⟩) k d) := by rw [hb'.cell (by simp)]; simp
          clear hE
          go_wp2
          go_loopw [6, 7, 37] (fun _ _ i wr => ∃ x : Nat, x ≤ ni ∧ i = .int .i64 x ∧ Hid (∀ y, y < x → edgeB n k (stAt m.states j) y = true) ∧ Below w0.heap.size w0 wr) (fun _ _ i _ => ni - (intOf i).toNat)
          case atStart => exact ⟨0, Nat.zero_le _, rfl, Lib.hid fun y hy => by omega, Below.refl _ _⟩
          case round =>
            obtain ⟨x, hx, rfl, hgood, hb1⟩ := hrel
            by_cases hxl : x < ni
            · obtain ⟨be, oe, rfl, d1, d2⟩ := (HE.out.cells.below hb1) x (by have := HE.out.len; omega)
              obtain ⟨X, HX⟩ : ∃ z, Hid ((edAt (stAt m.states j) x).1 = z) := ⟨_, Lib.hid rfl⟩
              obtain ⟨Y, HY⟩ : ∃ z, Hid ((edAt (stAt m.states j) x).2 = z) := ⟨_, Lib.hid rfl⟩
              rw [HX.out] at d1
              rw [HY.out] at d2
              have k2 : wr.cell? ⟨w.heap.size, 0, none⟩ = some (.slice a n c) := (hb1.cell (lt_of_cell c2)).trans c2
              have k3 : wr.cell? ⟨w.heap.size, 1, none⟩ = some (.slice (some ⟨bb, off, none⟩) k d) := (hb1.cell (lt_of_cell c3)).trans c3
              have K2 := cell_new k2
              have K3 := cell_new k3
              have e1 : edAt (stAt m.states j) x = (X, Y) := by rw [← HX.out, ← HY.out]
              have HE1 := Lib.hid e1
              clear e1
              have hbw : Below w.heap.size w wr := (HBB.out.trans (hb'.mono HBB.out.size)).trans (hb1.mono (Nat.le_trans HBB.out.size hb'.size))
              have hb0 := hb1.alloc hb1.size (.cells #[.int .i64 X, .int .i64 Y] 85)
              have hbz := (hbw.alloc hbw.size (.cells #[.int .i64 X, .int .i64 Y] 85))
              by_cases hok : okE n k (X, Y) = true
              · have h4' := (okE_iff _ _ _).1 hok
                simp only at h4'
                obtain ⟨o1, o2, o3, o4⟩ := h4'
                have g1 : decide (X < 0) = false := decide_eq_false (by omega)
                have g2 : decide ((n : Int) ≤ X) = false := decide_eq_false (by omega)
                have g3 : decide (Y < 0) = false := decide_eq_false (by omega)
                have g4 : decide ((k : Int) ≤ Y) = false := decide_eq_false (by omega)
                have HO := Lib.hid hok
                clear hok
                by_cases h0 : 0 < x
                · obtain ⟨z, rfl⟩ : ∃ z, x = z + 1 := ⟨x - 1, by omega⟩
                  obtain ⟨be', oe', e, f1, f2⟩ := (HE.out.cells.below hb1) z (by have := HE.out.len; omega)
                  cases e
                  obtain ⟨PX, HPX⟩ : ∃ q, Hid ((edAt (stAt m.states j) z).1 = q) := ⟨_, Lib.hid rfl⟩
                  obtain ⟨PY, HPY⟩ : ∃ q, Hid ((edAt (stAt m.states j) z).2 = q) := ⟨_, Lib.hid rfl⟩
                  rw [HPX.out] at f1
                  rw [HPY.out] at f2
                  have HE2 : Hid (edAt (stAt m.states j) (z + 1 - 1) = (PX, PY)) := Lib.hid (by rw [← HPX.out, ← HPY.out]; rfl)
                  have hg : decide ((0 : Int) < (z + 1 : Nat)) = true := decide_eq_true (by omega)
                  have hk1 : IntKind.i64.wrap (z : Int) = (z : Int) := IntWalk.i64_in _ (by omega)
                  have hk2 : (0 : Int) ≤ (z : Int) := by omega
                  have hk4 : (z : Int) < ni := by omega
                  obtain ⟨q, HQ⟩ : ∃ q, Hid (ltE (PX, PY) (X, Y) = q) := ⟨_, Lib.hid rfl⟩
                  cases q
                  · have HB := Lib.hid (sysB_edges (m := m) j (by have := HA.out.len; omega) (by
                      rw [← HA.out.len, ← HA.out.acts.len]
                      exact edgesB_bad (k := z + 1) (by have := HE.out.len; omega) (edgeB_back h0 (by rw [HE1.out, HE2.out]; exact HQ.out))))
                    go_wp2
                    go_region_held3 (fun w' => w'.cell? ⟨wr.heap.size, 0, none⟩ = some (.int .i64 X) ∧ w'.cell? ⟨wr.heap.size, 1, none⟩ = some (.int .i64 Y) ∧ w'.cell? ⟨w.heap.size, 0, none⟩ = some (.slice a n c) ∧ w'.cell? ⟨w.heap.size, 1, none⟩ = some (.slice (some ⟨bb, off, none⟩) k d) ∧ w'.cell? ⟨be, oe + z * 2, none⟩ = some (.int .i64 PX) ∧ w'.cell? ⟨be, oe + z * 2 + 1, none⟩ = some (.int .i64 PY)) (simp (maxDischargeDepth := 12) [*, World.cell?_alloc_some])
                      (first | (go_at_call 46; refine (before_at _ _ _ _ _).mono ?_; rw [HQ.out]; rintro e w' ⟨rfl, rfl⟩))
                    go_wp2
                    go_ret
                    exact ⟨by rw [HB.out]; rfl, (((hbw.alloc hbw.size _).alloc (by have := hbw.size; simp; omega) _).alloc (by have := hbw.size; simp; omega) _).drew⟩
                  · have HG : Hid (∀ y, y < z + 1 + 1 → edgeB n k (stAt m.states j) y = true) := Lib.hid fun y hy => by
                      by_cases e : y = z + 1
                      · rw [e]
                        exact edgeB_next (by rw [HE1.out]; exact HO.out) (by rw [HE1.out, HE2.out]; exact HQ.out)
                      · exact hgood.out y (by omega)
                    go_wp2
                    go_region_held3 (fun w' => w'.cell? ⟨wr.heap.size, 0, none⟩ = some (.int .i64 X) ∧ w'.cell? ⟨wr.heap.size, 1, none⟩ = some (.int .i64 Y) ∧ w'.cell? ⟨w.heap.size, 0, none⟩ = some (.slice a n c) ∧ w'.cell? ⟨w.heap.size, 1, none⟩ = some (.slice (some ⟨bb, off, none⟩) k d) ∧ w'.cell? ⟨be, oe + z * 2, none⟩ = some (.int .i64 PX) ∧ w'.cell? ⟨be, oe + z * 2 + 1, none⟩ = some (.int .i64 PY)) (simp (maxDischargeDepth := 12) [*, World.cell?_alloc_some])
                      (first | (go_at_call 46; refine (before_at _ _ _ _ _).mono ?_; rw [HQ.out]; rintro e w' ⟨rfl, rfl⟩))
                    go_wp2
                    go_roundw
                    case rel => exact ⟨z + 1 + 1, by omega, by go_num, HG, (((hb1.alloc hb1.size _).alloc (by have := hb1.size; simp; omega) _).alloc (by have := hb1.size; simp; omega) _).drew⟩
                    case measure => simp [intOf]; omega
                · have hg : decide ((0 : Int) < x) = false := decide_eq_false (by omega)
                  obtain rfl : x = 0 := by omega
                  simp only [Nat.zero_mul, Nat.add_zero] at d1 d2
                  have HG : Hid (∀ y, y < 0 + 1 → edgeB n k (stAt m.states j) y = true) := Lib.hid fun y hy => by
                    obtain rfl : y = 0 := by omega
                    exact edgeB_zero (by rw [HE1.out]; exact HO.out)
                  go_wp2
                  go_quiet (fail)
                  go_wp2
                  go_roundw
                  case rel => exact ⟨0 + 1, by omega, by go_num, HG, below_drewN (hb1.alloc hb1.size _) _⟩
                  case measure => simp [intOf]; omega
              · have HB := Lib.hid (sysB_edges (m := m) j (by have := HA.out.len; omega) (by
                  rw [← HA.out.len, ← HA.out.acts.len]
                  exact edgesB_bad (k := x) (by have := HE.out.len; omega) (edgeB_out (by rw [HE1.out]; rw [Bool.eq_false_iff]; exact hok))))
                have HOK := Lib.hid hok
                clear hok
                by_cases q1 : X < 0
                · have g1 : decide (X < 0) = true := decide_eq_true q1
                  go_wp2
                  go_quiet (fail)
                  go_wp2
                  go_ret
                  exact ⟨by rw [HB.out]; rfl, below_drewN hbz _⟩
                · have g1 : decide (X < 0) = false := decide_eq_false q1
                  by_cases q2 : (n : Int) ≤ X
                  · have g2 : decide ((n : Int) ≤ X) = true := decide_eq_true q2
                    go_wp2
                    go_quiet (fail)
                    go_wp2
                    go_ret
                    exact ⟨by rw [HB.out]; rfl, below_drewN hbz _⟩
                  · have g2 : decide ((n : Int) ≤ X) = false := decide_eq_false q2
                    by_cases q3 : Y < 0
                    · have g3 : decide (Y < 0) = true := decide_eq_true q3
                      go_wp2
                      go_quiet (fail)
                      go_wp2
                      go_ret
                      exact ⟨by rw [HB.out]; rfl, below_drewN hbz _⟩
                    · have g3 : decide (Y < 0) = false := decide_eq_false q3
                      have q4 : (k : Int) ≤ Y := by have h := HOK.out; rw [okE_iff] at h; simp only at h; omega
                      have g4 : decide ((k : Int) ≤ Y) = true := decide_eq_true q4
                      go_wp2
                      go_quiet (fail)
                      go_wp2
                      go_ret
                      exact ⟨by rw [HB.out]; rfl, below_drewN hbz _⟩
            · have HG : Hid (t + ni = total (m.states.take (j + 1)) ∧ ∀ x, x < j + 1 → edgesB m.acts.length m.states.length (stAt m.states x) = true) := Lib.hid ⟨HT.out, fun y hy => by
                by_cases e : y = j
                · rw [e, ← HA.out.len, ← HA.out.acts.len]; exact edgesB_good fun z hz => hgood.out z (by have := HE.out.len; omega)
                · exact ht.out.2 y (by omega)⟩
              go_wp2
              go_roundw
              case rel => exact ⟨j + 1, t + ni, by omega, by go_num, by go_num, HG, h4, hb.trans (hb1.mono (by have := hb'.size; simp at this; omega))⟩
              case measure => simp [intOf]; omega
        · have HB := Lib.hid (sysB_good (m := m) HAC.out (by have := HA.out.len; omega) (by have := HA.out.len; omega) (fun i hi => ht.out.2 i (by have := HA.out.len; omega)))
          have HT : Hid (t = total m.states) := Lib.hid (by
            have := ht.out.1
            rwa [List.take_of_length_le (by have := HA.out.len; omega)] at this)
          by_cases hle : t ≤ 400000
          · have HB2 := Lib.hid (HB.out (by have := HT.out; omega))
            go_wp2
            go_ret
            exact ⟨by rw [HB2.out]; simp; omega, HBB.out.trans (hb'.mono HBB.out.size)⟩
          · have HB2 := Lib.hid (sysB_total (m := m) (by have := HT.out; omega))
            go_wp2
            go_ret
            exact ⟨by rw [HB2.out]; simp; omega, HBB.out.trans (hb'.mono HBB.out.size)⟩
    · have HB : Hid (sysB m = false) := Lib.hid (by
        by_cases h : k < 1
        · exact sysB_few (by have := HA.out.len; omega)
        · exact sysB_many (by have := HA.out.len; omega))
      by_cases hk1 : k < 1
      · go_enter Tryz.func10, Tryz.ntmps10
        go_wp2_with fail
        refine HC.out.mono ?_
        rintro e w' ⟨rfl, rfl⟩
        go_wp2
        go_ret
        exact ⟨by rw [HB.out]; rfl, HBB.out⟩
      · have hk2 : 5000 < k := by omega
        go_enter Tryz.func10, Tryz.ntmps10
        go_wp2_with fail
        refine HC.out.mono ?_
        rintro e w' ⟨rfl, rfl⟩
        go_wp2
        go_ret
        exact ⟨by rw [HB.out]; rfl, HBB.out⟩
end Go.Proofs.YtpmbijlldoiplaaGreatDoor
