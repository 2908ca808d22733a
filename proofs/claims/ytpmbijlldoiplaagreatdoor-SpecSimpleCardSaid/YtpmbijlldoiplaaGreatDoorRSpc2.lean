/- The reference's Is and Same of specifications. -/
import Derived.Test.YtpmbijlldoiplaaGreatDoorRSpc
import Derived.Test.YtpmbijlldoiplaaGreatDoorPSame
namespace Go.Proofs.YtpmbijlldoiplaaGreatDoor
open Go.RowKit Pl

set_option maxHeartbeats 2000000 in
theorem RSIs_any {w : World} {a : Option Addr} {n c : Nat} {b : Option Addr} {k d : Nat} {s : Spc} (A : SpecArg w a n c b k d s) :
    Calls Tryz.prog 18 #[.agg #[.slice a n c, .slice b k d]] w fun e w' => e = .returned (.bool (spcB s)) ∧ Below w.heap.size w w' := by
  have hB := (Below.refl w.heap.size w).alloc (Nat.le_refl _) (.cells #[.slice a n c, .slice b k d] 40)
  have HC := Lib.hid (Is_arg (A.acts.below hB))
  have HA := Lib.hid A
  have h1 : n ≤ 140737488355328 := A.abig
  have h2 : k ≤ 140737488355328 := A.big
  have HBB := Lib.hid hB
  clear A hB
  cases ha : actsB s.acts
  · have HV := Lib.hid (spcB_acts ha)
    rw [ha] at HC
    clear ha
    go_enter Tryz.func18, Tryz.ntmps18
    go_wp2_with fail
    refine HC.out.mono ?_
    rintro e w' ⟨rfl, rfl⟩
    go_wp2
    go_ret
    exact ⟨by rw [HV.out]; rfl, HBB.out⟩
  · rw [ha] at HC
    have HAC := Lib.hid ha
    have h8 : n ≤ 8 := by have := ((actsB_iff s.acts).1 ha).1; have := HA.out.acts.len; omega
    clear ha
    by_cases hk : 1 ≤ k ∧ k ≤ 500
    · obtain ⟨hk1, hk2⟩ := hk
      go_enter Tryz.func18, Tryz.ntmps18
      go_wp2_with fail
      refine HC.out.mono ?_
      rintro e w' ⟨rfl, rfl⟩
      go_wp2
      go_loopw [4, 24] (fun _ i wr => ∃ j : Nat, j ≤ k ∧ i = .int .i64 j ∧ Hid (∀ x, x < j → steB s.acts.length s.states.length (teAt s.states x) = true) ∧ Below (w.heap.size + 1) (w.alloc (.cells #[.slice a n c, .slice b k d] 40)) wr) (fun _ i _ => k - (intOf i).toNat)
      case atStart => exact ⟨0, Nat.zero_le _, rfl, Lib.hid fun x hx => by omega, Below.refl _ _⟩
      case round =>
        obtain ⟨j, hj, rfl, ht, hb⟩ := hrel
        have q0 : wr.cell? ⟨w.heap.size, 0, none⟩ = some (.slice a n c) := by rw [hb.cell (by simp)]; simp
        have q1 : wr.cell? ⟨w.heap.size, 1, none⟩ = some (.slice b k d) := by rw [hb.cell (by simp)]; simp
        have q2 : w.heap.size < wr.heap.size := lt_of_cell q0
        have HBr := Lib.hid hb
        have HBw := Lib.hid (HBB.out.trans (hb.mono (by omega)))
        clear hb
        by_cases hlt : j < k
        · obtain ⟨bb, off, rfl, a1, n1, c1, a2, n2, c2, d1, d2, hN1, hN2⟩ := (HA.out.rows.below HBw.out) j (by have := HA.out.len; omega)
          have hbl : Below wr.heap.size wr (wr.alloc (.cells #[.slice a1 n1 c1, .slice a2 n2 c2] 101)) := (Below.refl _ wr).alloc (Nat.le_refl _) _
          have HX := Lib.hid (state_any n k h8 hk2 (hN1.below hbl) (hN2.below hbl))
          have HBe := Lib.hid (HBr.out.alloc (Nat.le_trans (by simp) HBr.out.size) (.cells #[.slice a1 n1 c1, .slice a2 n2 c2] 101))
          have HBf := Lib.hid (HBw.out.alloc HBw.out.size (.cells #[.slice a1 n1 c1, .slice a2 n2 c2] 101))
          clear hN1 hN2 hbl
          cases hst : steB n k (teAt s.states j)
          · have HV := Lib.hid (spcB_ste (s := s) j (by have := HA.out.len; omega) (by rw [← HA.out.len, ← HA.out.acts.len]; exact hst))
            rw [hst] at HX
            clear hst
            go_wp2_with fail
            refine HX.out.mono ?_
            rintro e w' ⟨rfl, hb1⟩
            go_wp2
            go_ret
            exact ⟨by rw [HV.out]; rfl, HBf.out.trans (hb1.mono HBf.out.size)⟩
          · have HG : Hid (∀ x, x < j + 1 → steB s.acts.length s.states.length (teAt s.states x) = true) := Lib.hid fun x hx => by
              by_cases e : x = j
              · rw [e, ← HA.out.len, ← HA.out.acts.len]
                exact hst
              · exact ht.out x (by omega)
            rw [hst] at HX
            clear hst
            go_wp2_with fail
            refine HX.out.mono ?_
            rintro e w' ⟨rfl, hb1⟩
            have HBn := Lib.hid (HBe.out.trans (hb1.mono (Nat.le_trans (by simp) HBe.out.size)))
            clear hb1
            go_wp2
            go_roundw
            case rel => exact ⟨j + 1, by omega, by go_num, HG, HBn.out⟩
            case measure => simp [intOf]; omega
        · have HV := Lib.hid ((spcB_iff s).2 ⟨HAC.out, by have := HA.out.len; omega, by have := HA.out.len; omega, fun i hi => ht.out i (by have := HA.out.len; omega)⟩)
          go_wp2
          go_ret
          exact ⟨by rw [HV.out]; rfl, HBw.out⟩
    · have HV : Hid (spcB s = false) := Lib.hid (by
        by_cases h : k < 1
        · exact spcB_few (by have := HA.out.len; omega)
        · exact spcB_many (by have := HA.out.len; omega))
      by_cases hk1 : k < 1
      · go_enter Tryz.func18, Tryz.ntmps18
        go_wp2_with fail
        refine HC.out.mono ?_
        rintro e w' ⟨rfl, rfl⟩
        go_wp2
        go_ret
        exact ⟨by rw [HV.out]; rfl, HBB.out⟩
      · have hk2 : 500 < k := by omega
        go_enter Tryz.func18, Tryz.ntmps18
        go_wp2_with fail
        refine HC.out.mono ?_
        rintro e w' ⟨rfl, rfl⟩
        go_wp2
        go_ret
        exact ⟨by rw [HV.out]; rfl, HBB.out⟩
end Go.Proofs.YtpmbijlldoiplaaGreatDoor
