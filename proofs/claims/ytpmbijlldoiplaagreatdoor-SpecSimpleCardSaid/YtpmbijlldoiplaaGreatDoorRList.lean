/- The reference's List. -/
import Derived.Test.YtpmbijlldoiplaaGreatDoorLists
import Derived.Maps.AppendAt
import Derived.OwnWalk
namespace Go.Proofs.YtpmbijlldoiplaaGreatDoor
open Go.RowKit Pl

theorem own_geL {W : World} {base : Nat} {e : TypeId} {size n : Nat} {v : Value} {xs : List Value} (h : W.ownsRow base e size v n xs) : ∀ k, v.ownBlock = some k → base ≤ k := by
  intro k hk
  rcases h.2 with ⟨rfl, rfl⟩ | ⟨g, cap, cur, rfl, hg, _⟩
  · cases hk
  · cases hk
    exact hg
theorem infoIntL : (Tryz.prog.info? 3).map (fun i => (i.zero, i.size, i.bytes)) = some (some (.int .i64 0), 1, 8) := by kernel_rfl
/-- the members of y below n, as the reference runs through them -/
def bitsL (n y : Nat) : List Nat := (List.range n).filter fun k => y.testBit k
theorem bitsL_yes (n y : Nat) (h : y.testBit n = true) : bitsL (n + 1) y = bitsL n y ++ [n] := by
  simp only [bitsL, List.range_succ, List.filter_append, List.filter_cons, List.filter_nil, h, if_true]
theorem bitsL_no (n y : Nat) (h : y.testBit n = false) : bitsL (n + 1) y = bitsL n y := by
  simp only [bitsL, List.range_succ, List.filter_append, List.filter_cons, List.filter_nil, h, Bool.false_eq_true, if_false, List.append_nil]
theorem bitsL_len (n y : Nat) : (bitsL n y).length ≤ n := by
  have := List.length_filter_le (fun k => y.testBit k) (List.range n)
  rwa [List.length_range] at this
theorem bitsL_lt {n y k : Nat} (h : k ∈ bitsL n y) : k < n := List.mem_range.1 (List.mem_filter.1 h).1
theorem has_at (y k : Nat) (hk : k ≤ 62) (hy : y ≤ 9223372036854775807) (W : World) : Calls Tryz.prog 105 #[.int .i64 y, .int .i64 k] W fun e w' => e = .returned (.bool (y.testBit k)) ∧ W = w' := by
  have := Has_any (y : Int) (k : Int) W (by omega) (by omega) (by omega) (by omega)
  simpa using this

set_option maxRecDepth 100000 in
set_option maxHeartbeats 1000000 in
theorem RList_any {w : World} (n y : Nat) (hn : n ≤ 8) (hy : y < 256) :
    Calls Tryz.prog 104 #[.int .i64 n, .int .i64 y] w fun e w' => ∃ v, e = .returned v ∧ w'.ownsRow w.heap.size 3 1 v (bitsL n y).length ((bitsL n y).map (fun k : Nat => Value.int .i64 k)) ∧ Below w.heap.size w w' := by
  obtain ⟨i0, hi, hz0, hz1, hz2⟩ := info_parts infoIntL
  go_enter Tryz.func104, Tryz.ntmps104
  go_wp2
  go_loopw [5, 6, 8] (fun v _ i wr => ∃ k : Nat, k ≤ n ∧ i = .int .i64 k ∧ wr.ownsRow w.heap.size 3 1 v (bitsL k y).length ((bitsL k y).map (fun k : Nat => Value.int .i64 k)) ∧ Below w.heap.size w wr) (fun _ _ i _ => n - (intOf i).toNat)
  case atStart => exact ⟨0, by omega, rfl, World.ownsRow_nil _ _ _ _, Below.refl _ _⟩
  case round =>
    obtain ⟨k, hk, rfl, hrow, hB⟩ := hrel
    by_cases hlt : k < n
    · have HH := Lib.hid (has_at y k (by omega) (by omega))
      have hl := bitsL_len k y
      cases hb : y.testBit k
      · have HG := Lib.hid (bitsL_no k y hb)
        rw [hb] at HH
        clear hb
        go_wp2_with fail
        refine (HH.out _).mono ?_
        rintro e w' ⟨rfl, rfl⟩
        go_wp2
        go_roundw
        case rel => exact ⟨k + 1, by omega, by go_num, by rw [HG.out]; exact hrow, hB⟩
        case measure => simp [intOf]; omega
      · have HG := Lib.hid (bitsL_yes k y hb)
        rw [hb] at HH
        clear hb
        go_wp2_with fail
        refine (HH.out _).mono ?_
        rintro e w' ⟨rfl, rfl⟩
        go_wp2_with (at_builtin; refine wpList_append_own _ rfl _ _ 28 rfl w.heap.size 3 i0 (.int .i64 0) 1 8 Tryz.underlying28 hi hz0 hz1 hz2 rfl (by decide) _ _ _ rfl (hrow.alloc _) ⟨_, 0, none⟩ 1 1 [(.int .i64 k)] rfl rfl (cell_one_new _ _ _) (by simp [Value.oneCell']) (by unfold maxLen; omega) (by omega) (by have := hB.size; simp; omega) ?_; intro v' w1 hown' hgrow _)
        have hg' : (wr.alloc (.cells #[.int .i64 k] 3)).grownBy w1 u5.ownBlock := hgrow
        go_roundw
        case rel =>
          refine ⟨k + 1, by omega, by go_num, ?_, (hB.alloc hB.size _).grown hg' (by have := hB.size; simp; omega) (own_geL hrow)⟩
          rw [HG.out, List.length_append, List.map_append]
          exact hown'
        case measure => simp [intOf]; omega
    · obtain rfl : n = k := by omega
      go_wp2
      go_ret
      exact ⟨_, rfl, hrow, hB⟩
end Go.Proofs.YtpmbijlldoiplaaGreatDoor
