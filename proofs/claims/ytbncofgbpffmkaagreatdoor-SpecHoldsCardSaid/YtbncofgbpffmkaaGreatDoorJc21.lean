/- Texts joined: FaultPl, IsW, Word, CopyA, RGood, Is2, RList, RSpc, RSpc2, RFault. -/
import Derived.Test.YtbncofgbpffmkaaGreatDoorJc01
import Derived.Test.YtbncofgbpffmkaaGreatDoorJc07
import Derived.Test.YtbncofgbpffmkaaGreatDoorJc03
import Derived.Test.YtbncofgbpffmkaaGreatDoorJc09
import Derived.Test.YtbncofgbpffmkaaGreatDoorJc13
import Derived.Test.YtbncofgbpffmkaaGreatDoorJc04
import Derived.Test.YtbncofgbpffmkaaGreatDoorJc15
import Derived.Deep.RegionHeld3
import Derived.Test.YtbncofgbpffmkaaGreatDoorJc05
import Derived.Test.YtbncofgbpffmkaaGreatDoorJc02
import Derived.Maps.AppendAt
import Derived.OwnWalk
import Derived.Test.YtbncofgbpffmkaaGreatDoorJc06
/- Plain facts: what shows that a system does not satisfy a specification; nothing here is about a program. -/
namespace Go.Proofs.YtbncofgbpffmkaaGreatDoor.Pl
open Go Go.Lib

/-- a state of the system offers what a state of the specification, or none, accepts -/
def goodB (m : Syst) (s : Spc) (x : Nat) (y : Int) : Bool := decide (0 ≤ y) && fitB m s x y.toNat
def badB (m : Syst) (s : Spc) (l : List Nat) (y : Int) : Bool := l.any fun x => !goodB m s x y
def nextI (s : Spc) (y a : Int) : Int := (teAt s.states y.toNat).2.getD a.toNat 0
/-- along a list: the states of the system, and the one of the specification; nothing where the list is no fault -/
def faultF (m : Syst) (s : Spc) : List Int → List Nat → Int → Option (List Nat × Int)
  | [], l, y => some (l, y)
  | a :: w, l, y => if l = [] ∨ badB m s l y = true then none else if nextI s y a < 0 ∧ nextL m.states l a = [] then none else faultF m s w (nextL m.states l a) (nextI s y a)
def faultB (m : Syst) (s : Spc) (word : List Int) (at_ : Int) : Bool :=
  actsK m.acts.length word && match faultF m s word [0] 0 with
  | none => false
  | some (l, y) => decide (at_ ∈ l.map (fun (x : Nat) => (x : Int))) && !goodB m s at_.toNat y
theorem faultF_stop {m : Syst} {s : Spc} {a : Int} {w : List Int} {l : List Nat} {y : Int} (h : l = [] ∨ badB m s l y = true) : faultF m s (a :: w) l y = none := by
  unfold faultF
  rw [if_pos h]
theorem faultF_lost {m : Syst} {s : Spc} {a : Int} {w : List Int} {l : List Nat} {y : Int} (h : ¬ (l = [] ∨ badB m s l y = true)) (h2 : nextI s y a < 0 ∧ nextL m.states l a = []) : faultF m s (a :: w) l y = none := by
  unfold faultF
  rw [if_neg h, if_pos h2]
theorem faultF_go {m : Syst} {s : Spc} {a : Int} {w : List Int} {l : List Nat} {y : Int} (h : ¬ (l = [] ∨ badB m s l y = true)) (h2 : ¬ (nextI s y a < 0 ∧ nextL m.states l a = [])) : faultF m s (a :: w) l y = faultF m s w (nextL m.states l a) (nextI s y a) := by
  rw [faultF, if_neg h, if_neg h2]
theorem good_pos {m : Syst} {s : Spc} {l : List Nat} {y : Int} (h : ¬ (l = [] ∨ badB m s l y = true)) : 0 ≤ y := by
  cases l with
  | nil => exact absurd (.inl rfl) h
  | cons x l =>
    have h1 : ¬ badB m s (x :: l) y = true := fun e => h (.inr e)
    unfold badB at h1
    rw [List.any_cons, Bool.or_eq_true, not_or] at h1
    have h2 := h1.1
    unfold goodB at h2
    rcases Int.lt_or_le y 0 with h3 | h3
    · rw [decide_eq_false (by omega)] at h2
      simp at h2
    · exact h3
theorem nextI_rng {s : Spc} (hv : spcB s = true) {y a : Int} (hy : 0 ≤ y ∧ y < s.states.length) (ha : 0 ≤ a ∧ a < s.acts.length) : -1 ≤ nextI s y a ∧ nextI s y a < s.states.length ∧ a.toNat < (teAt s.states y.toNat).2.length := by
  have h := ((spcB_iff s).1 hv).2.2.2 y.toNat (by omega)
  unfold steB at h
  rw [Bool.and_eq_true, nextB_iff] at h
  have h2 := h.1.2 a.toNat (by rw [h.1.1]; omega)
  rw [okNext_iff] at h2
  exact ⟨h2.1, h2.2, by rw [h.1.1]; omega⟩
end Go.Proofs.YtbncofgbpffmkaaGreatDoor.Pl
/- Words of actions: terms.IsWord, the reference's Word. -/
namespace Go.Proofs.YtbncofgbpffmkaaGreatDoor
open Go.RowKit Pl

end Go.Proofs.YtbncofgbpffmkaaGreatDoor
/- The reference's Offer. -/
namespace Go.Proofs.YtbncofgbpffmkaaGreatDoor
open Go.RowKit Pl

end Go.Proofs.YtbncofgbpffmkaaGreatDoor
/- The reference's Copy, as an argument of another call. -/
namespace Go.Proofs.YtbncofgbpffmkaaGreatDoor
open Go.RowKit Pl

/-- a copy, as an argument of another call -/
theorem CopyA_any {w : World} {a : Option Addr} {n c : Nat} {b : Option Addr} {k d : Nat} {m : Syst} (A : SysArg w a n c b k d m) (hq : m.acts.length + m.states.length + total m.states ≤ 1000000) :
    Calls Tryz.prog 8 #[.agg #[.slice a n c, .slice b k d]] w fun e w' => ∃ a2 c2 b2 d2, e = .returned (.agg #[.slice a2 m.acts.length c2, .slice b2 m.states.length d2]) ∧ SysArg w' a2 m.acts.length c2 b2 m.states.length d2 m ∧ Below w.heap.size w w' := by
  refine (Copy_any A hq).mono ?_
  rintro e w2 ⟨va, vs, rfl, hO, hb2⟩
  obtain ⟨a2, c2, b2, d2, rfl, rfl, hA2⟩ := hO.arg (by omega) (by omega) (fun i hi => by have := total_take_le m.states (i + 1); have := total_take m.states i hi; omega) (fun k hk => A.acts.sz k (by have := A.acts.len; omega))
  exact ⟨a2, c2, b2, d2, rfl, hA2, hb2⟩
end Go.Proofs.YtbncofgbpffmkaaGreatDoor
/- The reference's In, Accepts, good, bad. -/
namespace Go.Proofs.YtbncofgbpffmkaaGreatDoor
open Go.RowKit Pl

theorem fit_off (m : Syst) (s : Spc) (x y : Nat) : fitB m s x y = decide ((offN (stAt m.states x) : Int) ∈ (teAt s.states y).1) := rfl

end Go.Proofs.YtbncofgbpffmkaaGreatDoor
/- The reference's Is of systems. -/
namespace Go.Proofs.YtbncofgbpffmkaaGreatDoor
open Go.RowKit Pl

set_option maxHeartbeats 2000000 in
theorem RIs_any {w : World} {a : Option Addr} {n c : Nat} {b : Option Addr} {k d : Nat} {m : Syst} (A : SysArg w a n c b k d m) (ht : total m.states ≤ 4611686018427387904) :
    Calls Tryz.prog 12 #[.agg #[.slice a n c, .slice b k d]] w fun e w' => e = .returned (.bool (sysB m)) ∧ Below w.heap.size w w' := by
  have hB := (Below.refl w.heap.size w).alloc (Nat.le_refl _) (.cells #[.slice a n c, .slice b k d] 25)
  have HC := Lib.hid (Is_arg (A.acts.below hB))
  have HA := Lib.hid A
  have HTT := Lib.hid ht
  have h1 : n ≤ 140737488355328 := A.abig
  have h2 : k ≤ 140737488355328 := by have := A.cap; have := A.big; omega
  have HR := Lib.hid (A.rows.below hB)
  have HBB := Lib.hid hB
  clear A hB ht
  cases ha : actsB m.acts
  · have HB := Lib.hid (sysB_acts ha)
    rw [ha] at HC
    clear ha
    go_enter Tryz.func12, Tryz.ntmps12
    go_wp2_with fail
    refine HC.out.mono ?_
    rintro e w' ⟨rfl, rfl⟩
    go_wp2
    go_ret
    exact ⟨by rw [HB.out]; rfl, HBB.out⟩
  · rw [ha] at HC
    have HAC := Lib.hid ha
    clear ha
    by_cases hk : 1 ≤ k ∧ k ≤ 5000
    · obtain ⟨hk1, hk2⟩ := hk
      go_enter Tryz.func12, Tryz.ntmps12
      go_wp2_with fail
      refine HC.out.mono ?_
      rintro e w' ⟨rfl, rfl⟩
      go_wp2
      go_loopw [3, 5, 6, 7, 27] (fun s _ _ _ i wr => ∃ j t : Nat, j ≤ k ∧ i = .int .i64 j ∧ s = .int .i64 t ∧ Hid (t = total (m.states.take j) ∧ ∀ x, x < j → edgesB m.acts.length m.states.length (stAt m.states x) = true) ∧ t ≤ 4611686018427387904 ∧ Below (w.heap.size + 1) (w.alloc (.cells #[.slice a n c, .slice b k d] 25)) wr) (fun _ _ _ _ i _ => k - (intOf i).toNat)
      case atStart => exact ⟨0, 0, Nat.zero_le _, rfl, rfl, Lib.hid ⟨by simp [total], fun x hx => by omega⟩, by omega, Below.refl _ _⟩
      case round =>
        obtain ⟨w0, hw0⟩ : ∃ z, z = wr := ⟨_, rfl⟩
        subst hw0
        obtain ⟨j, t, hj, rfl, rfl, ht, htb, hb⟩ := hrel
        have hb' : Below (w.alloc (.cells #[.slice a n c, .slice b k d] 25)).heap.size (w.alloc (.cells #[.slice a n c, .slice b k d] 25)) w0 := hb.mono (by simp)
        by_cases hlt : j < k
        · obtain ⟨bb, off, rfl, ai, ni, ci, c1, hE⟩ := (HR.out.below hb') j (by have := HA.out.len; omega)
          have h3 : ni ≤ 140737488355328 := by have := hE.cap; have := hE.big; omega
          have HE := Lib.hid hE
          have HT : Hid (t + ni = total (m.states.take (j + 1))) := Lib.hid (by
            have := ht.out.1; have := total_take m.states j (by have := HA.out.len; omega); have := hE.len; omega)
          have h4 : t + ni ≤ 4611686018427387904 := by have := HT.out; have := total_take_le m.states (j + 1); have := HTT.out; omega
          have c2 : w0.cell? ⟨w.heap.size, 0, none⟩ = some (.slice a n c) := by rw [hb'.cell (by simp)]; simp
          have c3 : w0.cell? ⟨w.heap.size, 1, none⟩ = some (.slice (some ⟨bb, off, none⟩) k d) := by rw [hb'.cell (by simp)]; simp
          clear hE
          go_wp2
          go_loopw [6, 7, 37] (fun _ _ i wr => ∃ x : Nat, x ≤ ni ∧ i = .int .i64 x ∧ Hid (∀ y, y < x → edgeB n k (stAt m.states j) y = true) ∧ Below w0.heap.size w0 wr) (fun _ _ i _ => ni - (intOf i).toNat)
          case atStart => exact ⟨0, Nat.zero_le _, rfl, Lib.hid fun y hy => by omega, Below.refl _ _⟩
          case round =>
            obtain ⟨x, hx, rfl, hgood, hb1⟩ := hrel
            by_cases hxl : x < ni
            · obtain ⟨be, oe, rfl, d1, d2⟩ := (HE.out.cells.below hb1) x (by have := HE.out.len; omega)
              obtain ⟨X, HX⟩ : ∃ z, Hid ((edAt (stAt m.states j) x).1 = z) := ⟨_, Lib.hid rfl⟩
              obtain ⟨Y, HY⟩ : ∃ z, Hid ((edAt (stAt m.states j) x).2 = z) := ⟨_, Lib.hid rfl⟩
              rw [HX.out] at d1
              rw [HY.out] at d2
              have k2 : wr.cell? ⟨w.heap.size, 0, none⟩ = some (.slice a n c) := (hb1.cell (lt_of_cell c2)).trans c2
              have k3 : wr.cell? ⟨w.heap.size, 1, none⟩ = some (.slice (some ⟨bb, off, none⟩) k d) := (hb1.cell (lt_of_cell c3)).trans c3
              have K2 := cell_new k2
              have K3 := cell_new k3
              have e1 : edAt (stAt m.states j) x = (X, Y) := by rw [← HX.out, ← HY.out]
              have HE1 := Lib.hid e1
              clear e1
              have hbw : Below w.heap.size w wr := (HBB.out.trans (hb'.mono HBB.out.size)).trans (hb1.mono (Nat.le_trans HBB.out.size hb'.size))
              have hb0 := hb1.alloc hb1.size (.cells #[.int .i64 X, .int .i64 Y] 58)
              have hbz := (hbw.alloc hbw.size (.cells #[.int .i64 X, .int .i64 Y] 58))
              by_cases hok : okE n k (X, Y) = true
              · have h4' := (okE_iff _ _ _).1 hok
                simp only at h4'
                obtain ⟨o1, o2, o3, o4⟩ := h4'
                have g1 : decide (X < 0) = false := decide_eq_false (by omega)
                have g2 : decide ((n : Int) ≤ X) = false := decide_eq_false (by omega)
                have g3 : decide (Y < 0) = false := decide_eq_false (by omega)
                have g4 : decide ((k : Int) ≤ Y) = false := decide_eq_false (by omega)
                have HO := Lib.hid hok
                clear hok
                by_cases h0 : 0 < x
                · obtain ⟨z, rfl⟩ : ∃ z, x = z + 1 := ⟨x - 1, by omega⟩
                  obtain ⟨be', oe', e, f1, f2⟩ := (HE.out.cells.below hb1) z (by have := HE.out.len; omega)
                  cases e
                  obtain ⟨PX, HPX⟩ : ∃ q, Hid ((edAt (stAt m.states j) z).1 = q) := ⟨_, Lib.hid rfl⟩
                  obtain ⟨PY, HPY⟩ : ∃ q, Hid ((edAt (stAt m.states j) z).2 = q) := ⟨_, Lib.hid rfl⟩
                  rw [HPX.out] at f1
                  rw [HPY.out] at f2
                  have HE2 : Hid (edAt (stAt m.states j) (z + 1 - 1) = (PX, PY)) := Lib.hid (by rw [← HPX.out, ← HPY.out]; rfl)
                  have hg : decide ((0 : Int) < (z + 1 : Nat)) = true := decide_eq_true (by omega)
                  have hk1 : IntKind.i64.wrap (z : Int) = (z : Int) := IntWalk.i64_in _ (by omega)
                  have hk2 : (0 : Int) ≤ (z : Int) := by omega
                  have hk4 : (z : Int) < ni := by omega
                  obtain ⟨q, HQ⟩ : ∃ q, Hid (ltE (PX, PY) (X, Y) = q) := ⟨_, Lib.hid rfl⟩
                  cases q
                  · have HB := Lib.hid (sysB_edges (m := m) j (by have := HA.out.len; omega) (by
                      rw [← HA.out.len, ← HA.out.acts.len]
                      exact edgesB_bad (k := z + 1) (by have := HE.out.len; omega) (edgeB_back h0 (by rw [HE1.out, HE2.out]; exact HQ.out))))
                    go_wp2
                    go_region_held3 (fun w' => w'.cell? ⟨wr.heap.size, 0, none⟩ = some (.int .i64 X) ∧ w'.cell? ⟨wr.heap.size, 1, none⟩ = some (.int .i64 Y) ∧ w'.cell? ⟨w.heap.size, 0, none⟩ = some (.slice a n c) ∧ w'.cell? ⟨w.heap.size, 1, none⟩ = some (.slice (some ⟨bb, off, none⟩) k d) ∧ w'.cell? ⟨be, oe + z * 2, none⟩ = some (.int .i64 PX) ∧ w'.cell? ⟨be, oe + z * 2 + 1, none⟩ = some (.int .i64 PY)) (simp (maxDischargeDepth := 12) [*, World.cell?_alloc_some])
                      (first | (go_at_call 31; refine (before_at _ _ _ _ _).mono ?_; rw [HQ.out]; rintro e w' ⟨rfl, rfl⟩))
                    go_wp2
                    go_ret
                    exact ⟨by rw [HB.out]; rfl, (((hbw.alloc hbw.size _).alloc (by have := hbw.size; simp; omega) _).alloc (by have := hbw.size; simp; omega) _).drew⟩
                  · have HG : Hid (∀ y, y < z + 1 + 1 → edgeB n k (stAt m.states j) y = true) := Lib.hid fun y hy => by
                      by_cases e : y = z + 1
                      · rw [e]
                        exact edgeB_next (by rw [HE1.out]; exact HO.out) (by rw [HE1.out, HE2.out]; exact HQ.out)
                      · exact hgood.out y (by omega)
                    go_wp2
                    go_region_held3 (fun w' => w'.cell? ⟨wr.heap.size, 0, none⟩ = some (.int .i64 X) ∧ w'.cell? ⟨wr.heap.size, 1, none⟩ = some (.int .i64 Y) ∧ w'.cell? ⟨w.heap.size, 0, none⟩ = some (.slice a n c) ∧ w'.cell? ⟨w.heap.size, 1, none⟩ = some (.slice (some ⟨bb, off, none⟩) k d) ∧ w'.cell? ⟨be, oe + z * 2, none⟩ = some (.int .i64 PX) ∧ w'.cell? ⟨be, oe + z * 2 + 1, none⟩ = some (.int .i64 PY)) (simp (maxDischargeDepth := 12) [*, World.cell?_alloc_some])
                      (first | (go_at_call 31; refine (before_at _ _ _ _ _).mono ?_; rw [HQ.out]; rintro e w' ⟨rfl, rfl⟩))
                    go_wp2
                    go_roundw
                    case rel => exact ⟨z + 1 + 1, by omega, by go_num, HG, (((hb1.alloc hb1.size _).alloc (by have := hb1.size; simp; omega) _).alloc (by have := hb1.size; simp; omega) _).drew⟩
                    case measure => simp [intOf]; omega
                · have hg : decide ((0 : Int) < x) = false := decide_eq_false (by omega)
                  obtain rfl : x = 0 := by omega
                  simp only [Nat.zero_mul, Nat.add_zero] at d1 d2
                  have HG : Hid (∀ y, y < 0 + 1 → edgeB n k (stAt m.states j) y = true) := Lib.hid fun y hy => by
                    obtain rfl : y = 0 := by omega
                    exact edgeB_zero (by rw [HE1.out]; exact HO.out)
                  go_wp2
                  go_quiet (fail)
                  go_wp2
                  go_roundw
                  case rel => exact ⟨0 + 1, by omega, by go_num, HG, below_drewN (hb1.alloc hb1.size _) _⟩
                  case measure => simp [intOf]; omega
              · have HB := Lib.hid (sysB_edges (m := m) j (by have := HA.out.len; omega) (by
                  rw [← HA.out.len, ← HA.out.acts.len]
                  exact edgesB_bad (k := x) (by have := HE.out.len; omega) (edgeB_out (by rw [HE1.out]; rw [Bool.eq_false_iff]; exact hok))))
                have HOK := Lib.hid hok
                clear hok
                by_cases q1 : X < 0
                · have g1 : decide (X < 0) = true := decide_eq_true q1
                  go_wp2
                  go_quiet (fail)
                  go_wp2
                  go_ret
                  exact ⟨by rw [HB.out]; rfl, below_drewN hbz _⟩
                · have g1 : decide (X < 0) = false := decide_eq_false q1
                  by_cases q2 : (n : Int) ≤ X
                  · have g2 : decide ((n : Int) ≤ X) = true := decide_eq_true q2
                    go_wp2
                    go_quiet (fail)
                    go_wp2
                    go_ret
                    exact ⟨by rw [HB.out]; rfl, below_drewN hbz _⟩
                  · have g2 : decide ((n : Int) ≤ X) = false := decide_eq_false q2
                    by_cases q3 : Y < 0
                    · have g3 : decide (Y < 0) = true := decide_eq_true q3
                      go_wp2
                      go_quiet (fail)
                      go_wp2
                      go_ret
                      exact ⟨by rw [HB.out]; rfl, below_drewN hbz _⟩
                    · have g3 : decide (Y < 0) = false := decide_eq_false q3
                      have q4 : (k : Int) ≤ Y := by have h := HOK.out; rw [okE_iff] at h; simp only at h; omega
                      have g4 : decide ((k : Int) ≤ Y) = true := decide_eq_true q4
                      go_wp2
                      go_quiet (fail)
                      go_wp2
                      go_ret
                      exact ⟨by rw [HB.out]; rfl, below_drewN hbz _⟩
            · have HG : Hid (t + ni = total (m.states.take (j + 1)) ∧ ∀ x, x < j + 1 → edgesB m.acts.length m.states.length (stAt m.states x) = true) := Lib.hid ⟨HT.out, fun y hy => by
                by_cases e : y = j
                · rw [e, ← HA.out.len, ← HA.out.acts.len]; exact edgesB_good fun z hz => hgood.out z (by have := HE.out.len; omega)
                · exact ht.out.2 y (by omega)⟩
              go_wp2
              go_roundw
              case rel => exact ⟨j + 1, t + ni, by omega, by go_num, by go_num, HG, h4, hb.trans (hb1.mono (by have := hb'.size; simp at this; omega))⟩
              case measure => simp [intOf]; omega
        · have HB := Lib.hid (sysB_good (m := m) HAC.out (by have := HA.out.len; omega) (by have := HA.out.len; omega) (fun i hi => ht.out.2 i (by have := HA.out.len; omega)))
          have HT : Hid (t = total m.states) := Lib.hid (by
            have := ht.out.1
            rwa [List.take_of_length_le (by have := HA.out.len; omega)] at this)
          by_cases hle : t ≤ 400000
          · have HB2 := Lib.hid (HB.out (by have := HT.out; omega))
            go_wp2
            go_ret
            exact ⟨by rw [HB2.out]; simp; omega, HBB.out.trans (hb'.mono HBB.out.size)⟩
          · have HB2 := Lib.hid (sysB_total (m := m) (by have := HT.out; omega))
            go_wp2
            go_ret
            exact ⟨by rw [HB2.out]; simp; omega, HBB.out.trans (hb'.mono HBB.out.size)⟩
    · have HB : Hid (sysB m = false) := Lib.hid (by
        by_cases h : k < 1
        · exact sysB_few (by have := HA.out.len; omega)
        · exact sysB_many (by have := HA.out.len; omega))
      by_cases hk1 : k < 1
      · go_enter Tryz.func12, Tryz.ntmps12
        go_wp2_with fail
        refine HC.out.mono ?_
        rintro e w' ⟨rfl, rfl⟩
        go_wp2
        go_ret
        exact ⟨by rw [HB.out]; rfl, HBB.out⟩
      · have hk2 : 5000 < k := by omega
        go_enter Tryz.func12, Tryz.ntmps12
        go_wp2_with fail
        refine HC.out.mono ?_
        rintro e w' ⟨rfl, rfl⟩
        go_wp2
        go_ret
        exact ⟨by rw [HB.out]; rfl, HBB.out⟩
end Go.Proofs.YtbncofgbpffmkaaGreatDoor
/- The reference's List. -/
namespace Go.Proofs.YtbncofgbpffmkaaGreatDoor
open Go.RowKit Pl

theorem own_geL {W : World} {base : Nat} {e : TypeId} {size n : Nat} {v : Value} {xs : List Value} (h : W.ownsRow base e size v n xs) : ∀ k, v.ownBlock = some k → base ≤ k := by
  intro k hk
  rcases h.2 with ⟨rfl, rfl⟩ | ⟨g, cap, cur, rfl, hg, _⟩
  · cases hk
  · cases hk
    exact hg
theorem infoIntL : (Tryz.prog.info? 3).map (fun i => (i.zero, i.size, i.bytes)) = some (some (.int .i64 0), 1, 8) := by kernel_rfl
/-- the members of y below n, as the reference runs through them -/
def bitsL (n y : Nat) : List Nat := (List.range n).filter fun k => y.testBit k
theorem bitsL_yes (n y : Nat) (h : y.testBit n = true) : bitsL (n + 1) y = bitsL n y ++ [n] := by
  simp only [bitsL, List.range_succ, List.filter_append, List.filter_cons, List.filter_nil, h, if_true]
theorem bitsL_no (n y : Nat) (h : y.testBit n = false) : bitsL (n + 1) y = bitsL n y := by
  simp only [bitsL, List.range_succ, List.filter_append, List.filter_cons, List.filter_nil, h, Bool.false_eq_true, if_false, List.append_nil]
theorem bitsL_len (n y : Nat) : (bitsL n y).length ≤ n := by
  have := List.length_filter_le (fun k => y.testBit k) (List.range n)
  rwa [List.length_range] at this
theorem bitsL_lt {n y k : Nat} (h : k ∈ bitsL n y) : k < n := List.mem_range.1 (List.mem_filter.1 h).1
end Go.Proofs.YtbncofgbpffmkaaGreatDoor
/- The reference's Rising and state. -/
namespace Go.Proofs.YtbncofgbpffmkaaGreatDoor
open Go.RowKit Pl

def risAll (l : List Int) : Bool := (List.range l.length).all (risB l)
theorem risAll_iff (l : List Int) : risAll l = true ↔ ∀ i, i < l.length → risB l i = true := by
  simp only [risAll, List.all_eq_true, List.mem_range]
theorem ris_next {l : List Int} {p : Nat} {z x : Int} (hz : l.getD p 0 = z) (hx : l.getD (p + 1) 0 = x) (h : z < x) : risB l (p + 1) = true := by
  unfold risB
  rw [Nat.add_sub_cancel, hz, hx, decide_eq_true h, Bool.or_true]
theorem ris_bad {l : List Int} {p : Nat} {z x : Int} (hz : l.getD p 0 = z) (hx : l.getD (p + 1) 0 = x) (h : ¬ z < x) : risB l (p + 1) = false := by
  unfold risB
  rw [Nat.add_sub_cancel, hz, hx, decide_eq_false h, Bool.or_false]
  exact decide_eq_false (by omega)
theorem accB_ris {acc next : List Int} (h : risAll acc = false) : accB acc next = false := by
  rw [Bool.eq_false_iff, Ne, accB_iff]
  intro h'
  rw [Bool.eq_false_iff, Ne, risAll_iff] at h
  exact h fun i hi => (h' i hi).2
theorem nextB_len {na ns : Nat} {next : List Int} (h : next.length ≠ na) : nextB na ns next = false := by
  rw [Bool.eq_false_iff, Ne, nextB_iff]
  exact fun h' => h h'.1
theorem nextB_out {na ns : Nat} {next : List Int} (j : Nat) (hj : j < next.length) (h : okNext ns (next.getD j 0) = false) : nextB na ns next = false := by
  rw [Bool.eq_false_iff, Ne, nextB_iff]
  intro h'
  rw [h'.2 j hj] at h
  cases h
theorem ste_next {na ns : Nat} {t : Ste} (h : nextB na ns t.2 = false) : steB na ns t = false := by unfold steB; rw [h]; rfl
theorem ste_acc {na ns : Nat} {t : Ste} (h : accB t.1 t.2 = false) : steB na ns t = false := by unfold steB; rw [h, Bool.and_false]
theorem okSet_of {na X : Nat} {next : List Int} (hna : na ≤ 8) (hl : next.length = na) (hX : X < 2 ^ na) : okSet next (X : Int) = true ↔ ∀ a ∈ bitsL na X, leadP next a = true := by
  rw [okSet_iff, Int.toNat_natCast]
  constructor
  · rintro ⟨_, h⟩ a ha
    obtain ⟨h1, h2⟩ := List.mem_filter.1 ha
    exact h a (by have := List.mem_range.1 h1; omega) h2
  · intro h
    refine ⟨by omega, fun a _ hb => h a (List.mem_filter.2 ⟨List.mem_range.2 ?_, hb⟩)⟩
    by_cases e : a < na
    · exact e
    · rw [Nat.testBit_lt_two_pow (Nat.lt_of_lt_of_le hX (Nat.pow_le_pow_right (by decide) (by omega)))] at hb
      cases hb
theorem okSet_set {na : Nat} {x : Int} {next : List Int} (hl : next.length = na) (hx : x ≤ 9223372036854775807) (h : setB na x = false) : okSet next x = false := by
  rw [Bool.eq_false_iff, Ne, okSet_iff]
  rintro ⟨h0, h1⟩
  have h2 : x.toNat < 2 ^ na := Nat.lt_pow_two_of_testBit _ fun i hi => by
    by_cases h64 : i < 64
    · cases hb : x.toNat.testBit i
      · rfl
      · have := h1 i h64 hb
        unfold leadP at this
        rw [decide_eq_false (by omega)] at this
        cases this
    · exact Nat.testBit_lt_two_pow (Nat.lt_of_lt_of_le (show x.toNat < 2 ^ 64 by omega) (Nat.pow_le_pow_right (by decide) (by omega)))
  have h3 : x < 2 ^ na := by
    have : ((2 ^ na : Nat) : Int) = (2 : Int) ^ na := by norm_cast
    omega
  rw [setB, decide_eq_true h0, decide_eq_true h3] at h
  cases h
theorem set_nat {na : Nat} {x : Int} (h : setB na x = true) : ∃ X : Nat, x = (X : Int) ∧ X < 2 ^ na := by
  unfold setB at h
  rw [Bool.and_eq_true, decide_eq_true_eq, decide_eq_true_eq] at h
  refine ⟨x.toNat, by omega, ?_⟩
  have : ((2 ^ na : Nat) : Int) = (2 : Int) ^ na := by norm_cast
  omega

def natsI (l : List Nat) : List Int := l.map fun (x : Nat) => (x : Int)
theorem natsI_length (l : List Nat) : (natsI l).length = l.length := by simp [natsI]
theorem natsI_at {l : List Nat} {j : Nat} (h : j < l.length) : (natsI l).getD j 0 = ((l.getD j 0 : Nat) : Int) := by
  unfold natsI
  rw [List.getD_eq_getElem?_getD, List.getElem?_map, List.getElem?_eq_getElem h, List.getD_eq_getElem?_getD, List.getElem?_eq_getElem h]
  rfl
theorem nats_arg {w : World} {base : Nat} {v : Value} {l : List Nat} (h : w.ownsRow base 3 1 v l.length (l.map fun k : Nat => Value.int .i64 k)) (hl : l.length ≤ 140737488355328) : ∃ a c, v = .slice a l.length c ∧ IntArg w a l.length c (natsI l) := by
  rcases h.2 with ⟨rfl, h0⟩ | ⟨g, cap, cur, rfl, hg, hh, hc, hm, hz, ht⟩
  · rw [h0]
    exact ⟨none, 0, rfl, ⟨fun _ => rfl, by rw [natsI_length, h0], Nat.le_refl _, by omega, fun j hj => by rw [natsI_length, h0] at hj; omega⟩⟩
  · refine ⟨some ⟨g, 0, none⟩, cap, rfl, ⟨(fun h => by cases h), (natsI_length l).symm, hc, by omega, fun j hj => ⟨g, 0, rfl, ?_⟩⟩⟩
    rw [natsI_length] at hj
    rw [Nat.zero_add, World.ownsRow.cellAt h j (by omega), List.getElem?_map, List.getElem?_eq_getElem hj, natsI_at hj, List.getD_eq_getElem?_getD, List.getElem?_eq_getElem hj]
    rfl

end Go.Proofs.YtbncofgbpffmkaaGreatDoor
/- The reference's Is and Same of specifications. -/
namespace Go.Proofs.YtbncofgbpffmkaaGreatDoor
open Go.RowKit Pl

end Go.Proofs.YtbncofgbpffmkaaGreatDoor
/- The reference's IsFault; both, the error that a system and a specification cause. -/
namespace Go.Proofs.YtbncofgbpffmkaaGreatDoor
open Go.RowKit Pl

def bothC (m : Syst) (s : Spc) : Int := if sysB m = true then (if spcB s = true then (if m.acts = s.acts then 0 else 10) else 30) else 20
theorem zs_len (l : List Nat) : (zs l).length = l.length := by simp [zs]
theorem zs_nil {l : List Nat} (h : l.length = 0) : l = [] := List.length_eq_zero_iff.1 h
theorem litI_arg (W : World) (x : Int) : IntArg (W.alloc (.cells #[.int .i64 x] 3)) (some ⟨W.heap.size, 0, none⟩) 1 1 [x] :=
  ⟨(fun h => by cases h), rfl, Nat.le_refl _, by decide, fun j hj => ⟨W.heap.size, 0, rfl, by
    obtain rfl : j = 0 := by simpa using hj
    exact (Whole.new W 3 #[.int .i64 x]).cell 0⟩⟩

end Go.Proofs.YtbncofgbpffmkaaGreatDoor
