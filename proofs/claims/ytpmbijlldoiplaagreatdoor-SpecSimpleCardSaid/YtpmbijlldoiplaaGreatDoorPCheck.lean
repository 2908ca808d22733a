/- spec.Check. -/
import Derived.Test.YtpmbijlldoiplaaGreatDoorSpec
namespace Go.Proofs.YtpmbijlldoiplaaGreatDoor
open Go.RowKit Pl

def chkS (s : Spc) : Int := if spcB s = true then 0 else 30
theorem chkS_yes {s : Spc} (h : spcB s = true) : chkS s = 0 := if_pos h
theorem chkS_no {s : Spc} (h : spcB s = false) : chkS s = 30 := by unfold chkS; rw [h]; rfl
theorem steB_next {na ns : Nat} {t : Ste} (h : nextB na ns t.2 = false) : steB na ns t = false := by simp [steB, h]
theorem steB_acc {na ns : Nat} {t : Ste} (h : accB t.1 t.2 = false) : steB na ns t = false := by simp [steB, h]
set_option maxHeartbeats 2000000 in
theorem PCheck_any {w : World} {a : Option Addr} {n c : Nat} {b : Option Addr} {k d : Nat} {s : Spc} {e0 e1 e2 : Addr} (E : Errs w e0 e1 e2) (A : SpecArg w a n c b k d s) :
    Calls Tryz.prog 64 #[.agg #[.slice a n c, .slice b k d]] w fun e w' => e = .returned (.int .i64 (chkS s)) ∧ Below w.heap.size w w' := by
  have hB := (Below.refl w.heap.size w).alloc (Nat.le_refl _) (.cells #[.slice a n c, .slice b k d] 40)
  have HC := Lib.hid (Check_any (E.below hB) (A.acts.below hB))
  have HA := Lib.hid A
  have h1 : n ≤ 140737488355328 := A.abig
  have h2 : k ≤ 140737488355328 := A.big
  have HBB := Lib.hid hB
  clear A hB E
  cases ha : actsB s.acts
  · have HV := Lib.hid (chkS_no (spcB_acts ha))
    rw [ha] at HC
    clear ha
    go_enter Tryz.func64, Tryz.ntmps64
    go_wp2_with fail
    refine HC.out.mono ?_
    rintro e w' ⟨rfl, rfl⟩
    go_wp2
    go_ret
    exact ⟨by rw [HV.out]; rfl, HBB.out⟩
  · rw [ha] at HC
    have HAC := Lib.hid ha
    have h8 := ((actsB_iff s.acts).1 ha).1
    clear ha
    by_cases hk : 1 ≤ k ∧ k ≤ 500
    · obtain ⟨hk1, hk2⟩ := hk
      go_enter Tryz.func64, Tryz.ntmps64
      go_wp2_with fail
      refine HC.out.mono ?_
      rintro e w' ⟨rfl, rfl⟩
      go_wp2
      go_loopw [4, 24] (fun _ i wr => ∃ j : Nat, j ≤ k ∧ i = .int .i64 j ∧ Hid (∀ x, x < j → steB s.acts.length s.states.length (teAt s.states x) = true) ∧ Below (w.heap.size + 1) (w.alloc (.cells #[.slice a n c, .slice b k d] 40)) wr) (fun _ i _ => k - (intOf i).toNat)
      case atStart => exact ⟨0, Nat.zero_le _, rfl, Lib.hid fun x hx => by omega, Below.refl _ _⟩
      case round =>
        obtain ⟨j, hj, rfl, ht, hb⟩ := hrel
        have q0 : wr.cell? ⟨w.heap.size, 0, none⟩ = some (.slice a n c) := by rw [hb.cell (by simp)]; simp
        have q1 : wr.cell? ⟨w.heap.size, 1, none⟩ = some (.slice b k d) := by rw [hb.cell (by simp)]; simp
        have q2 : w.heap.size < wr.heap.size := lt_of_cell q0
        have HBr := Lib.hid hb
        have HBw := Lib.hid (HBB.out.trans (hb.mono (by omega)))
        clear hb
        by_cases hlt : j < k
        · obtain ⟨bb, off, rfl, a1, n1, c1, a2, n2, c2, d1, d2, hN1, hN2⟩ := (HA.out.rows.below HBw.out) j (by have := HA.out.len; omega)
          have hbl : Below wr.heap.size wr (wr.alloc (.cells #[.slice a1 n1 c1, .slice a2 n2 c2] 101)) := (Below.refl _ wr).alloc (Nat.le_refl _) _
          have HX := Lib.hid (isNext_any n k (by omega) (by omega) (hN2.arg.below hbl))
          have HY := fun h8 => isAccept_any (hN1.below hbl) (hN2.arg.below hbl) h8
          have HBe := Lib.hid (HBr.out.alloc (Nat.le_trans (by simp) HBr.out.size) (.cells #[.slice a1 n1 c1, .slice a2 n2 c2] 101))
          have HBf := Lib.hid (HBw.out.alloc HBw.out.size (.cells #[.slice a1 n1 c1, .slice a2 n2 c2] 101))
          clear hN1 hN2 hbl
          cases hnx : nextB n k (teAt s.states j).2
          · have HV := Lib.hid (chkS_no (s := s) (spcB_ste j (by have := HA.out.len; omega) (steB_next (by rw [← HA.out.len, ← HA.out.acts.len]; exact hnx))))
            rw [hnx] at HX
            clear hnx
            go_wp2_with fail
            refine HX.out.mono ?_
            rintro e w' ⟨rfl, rfl⟩
            go_wp2
            go_ret
            exact ⟨by rw [HV.out]; rfl, HBf.out⟩
          · have hlen := ((nextB_iff _ _ _).1 hnx).1
            have HY := Lib.hid (HY (by have := HA.out.acts.len; omega))
            rw [hnx] at HX
            cases hac : accB (teAt s.states j).1 (teAt s.states j).2
            · have HV := Lib.hid (chkS_no (s := s) (spcB_ste j (by have := HA.out.len; omega) (steB_acc hac)))
              rw [hac] at HY
              clear hnx hac hlen
              go_wp2_with fail
              refine HX.out.mono ?_
              rintro e w' ⟨rfl, rfl⟩
              go_wp2_with fail
              refine HY.out.mono ?_
              rintro e w' ⟨rfl, rfl⟩
              go_wp2
              go_ret
              exact ⟨by rw [HV.out]; rfl, HBf.out⟩
            · have HG : Hid (∀ x, x < j + 1 → steB s.acts.length s.states.length (teAt s.states x) = true) := Lib.hid fun x hx => by
                by_cases e : x = j
                · rw [e]
                  unfold steB
                  rw [← HA.out.len, ← HA.out.acts.len, hnx, hac]
                  rfl
                · exact ht.out x (by omega)
              rw [hac] at HY
              clear hnx hac hlen
              go_wp2_with fail
              refine HX.out.mono ?_
              rintro e w' ⟨rfl, rfl⟩
              go_wp2_with fail
              refine HY.out.mono ?_
              rintro e w' ⟨rfl, rfl⟩
              go_wp2
              go_roundw
              case rel => exact ⟨j + 1, by omega, by go_num, HG, HBe.out⟩
              case measure => simp [intOf]; omega
        · have HV := Lib.hid (chkS_yes (s := s) ((spcB_iff s).2 ⟨HAC.out, by have := HA.out.len; omega, by have := HA.out.len; omega, fun i hi => ht.out i (by have := HA.out.len; omega)⟩))
          go_wp2
          go_ret
          exact ⟨by rw [HV.out]; rfl, HBw.out⟩
    · have HV : Hid (chkS s = 30) := Lib.hid (by
        by_cases h : k < 1
        · exact chkS_no (spcB_few (by have := HA.out.len; omega))
        · exact chkS_no (spcB_many (by have := HA.out.len; omega)))
      by_cases hk1 : k < 1
      · go_enter Tryz.func64, Tryz.ntmps64
        go_wp2_with fail
        refine HC.out.mono ?_
        rintro e w' ⟨rfl, rfl⟩
        go_wp2
        go_ret
        exact ⟨by rw [HV.out]; rfl, HBB.out⟩
      · have hk2 : 500 < k := by omega
        go_enter Tryz.func64, Tryz.ntmps64
        go_wp2_with fail
        refine HC.out.mono ?_
        rintro e w' ⟨rfl, rfl⟩
        go_wp2
        go_ret
        exact ⟨by rw [HV.out]; rfl, HBB.out⟩
end Go.Proofs.YtpmbijlldoiplaaGreatDoor
