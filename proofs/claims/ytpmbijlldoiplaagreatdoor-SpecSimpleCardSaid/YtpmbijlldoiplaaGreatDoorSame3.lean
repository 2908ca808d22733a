/- slices.Equal and slices.EqualFunc as the program calls them; system.Same. -/
import Derived.Test.YtpmbijlldoiplaaGreatDoorOwnKit
namespace Go.Proofs.YtpmbijlldoiplaaGreatDoor
open Go.RowKit Pl

set_option maxHeartbeats 1000000 in
theorem eqStr_any {w : World} {a : Option Addr} {n c : Nat} {xs : List ByteArray} {a' : Option Addr} {n' c' : Nat} {ys : List ByteArray} (A : StrArg w a n c xs) (A' : StrArg w a' n' c' ys) :
    Calls Tryz.prog 122 #[.slice a n c, .slice a' n' c'] w fun e w' => e = .returned (.bool (decide (xs = ys))) ∧ Below w.heap.size w w' := by
  have HA := Lib.hid A
  have HA' := Lib.hid A'
  have h1 : n ≤ 9223372036854775807 := A.big
  have h2 : n' ≤ 9223372036854775807 := A'.big
  clear A A'
  by_cases hl : n = n'
  · subst hl
    have hq : ((n : Int) != n) = false := by simp
    go_enter Tryz.func122, Tryz.ntmps122
    go_wp2
    go_loopw [5, 13] (fun _ i wr => ∃ k : Nat, k ≤ n ∧ i = .int .i64 k ∧ Hid (∀ j, j < k → at_ xs j = at_ ys j) ∧ Below w.heap.size w wr) (fun _ i _ => n - (intOf i).toNat)
    case atStart => exact ⟨0, Nat.zero_le _, rfl, Lib.hid fun j hj => absurd hj (Nat.not_lt_zero _), Below.refl _ _⟩
    case round =>
      obtain ⟨k, hk, rfl, hgood, hb⟩ := hrel
      by_cases hlt : k < n
      · obtain ⟨b, off, rfl, c1⟩ := (HA.out.below hb).cells k (by have := HA.out.len; omega)
        obtain ⟨b', off', rfl, d1⟩ := (HA'.out.below hb).cells k (by have := HA'.out.len; omega)
        obtain ⟨x, HX⟩ : ∃ x, Hid (at_ xs k = x) := ⟨_, Lib.hid rfl⟩
        obtain ⟨y, HY⟩ : ∃ y, Hid (at_ ys k = y) := ⟨_, Lib.hid rfl⟩
        change wr.cell? _ = some (.string (at_ xs k)) at c1
        change wr.cell? _ = some (.string (at_ ys k)) at d1
        rw [HX.out] at c1
        rw [HY.out] at d1
        have hk0 : (0 : Int) ≤ (k : Int) := by omega
        have hk1 : (k : Int) < (n : Int) := by omega
        by_cases he : x = y
        · have HG : Hid (∀ j, j < k + 1 → at_ xs j = at_ ys j) := Lib.hid fun j hj => by
            by_cases e : j = k
            · rw [e, HX.out, HY.out]; exact he
            · exact hgood.out j (by omega)
          subst he
          have hq2 : (x.toList == x.toList) = true := by simp
          go_wp2
          go_quiet (fail)
          go_wp2
          go_roundw
          case rel => exact ⟨k + 1, by omega, by go_num, HG, below_drewN hb _⟩
          case measure => simp [intOf]; omega
        · have heq : (x.toList == y.toList) = false := (Lib.bytes_beq_false_iff _ _).2 he
          have HE : Hid (xs ≠ ys) := Lib.hid fun e => he (by rw [← HX.out, ← HY.out, e])
          clear he
          go_wp2
          go_quiet (fail)
          go_wp2
          go_ret
          exact ⟨by rw [decide_eq_false HE.out]; rfl, below_drewN hb _⟩
      · have HE : Hid (xs = ys) := Lib.hid (by
          have h1 := HA.out.len
          have h2 := HA'.out.len
          refine List.ext_getElem (by omega) fun j hj hj' => ?_
          have := hgood.out j (by omega)
          unfold at_ at this
          simpa [List.getD, List.getElem?_eq_getElem hj, List.getElem?_eq_getElem hj'] using this)
        go_wp2
        go_ret
        exact ⟨by rw [decide_eq_true HE.out]; rfl, hb⟩
  · have hq : ((n : Int) != n') = true := by rw [bne_iff_ne]; omega
    have HE : Hid (xs ≠ ys) := Lib.hid fun e => hl (by rw [HA.out.len, HA'.out.len, e])
    clear hl
    go_enter Tryz.func122, Tryz.ntmps122
    go_wp2
    go_ret
    exact ⟨by rw [decide_eq_false HE.out]; rfl, Below.refl _ _⟩

end Go.Proofs.YtpmbijlldoiplaaGreatDoor
