/- The reference's before, SameEdges, Same. -/
import Derived.Test.YtpmbijlldoiplaaGreatDoorSys
import Derived.Laws.StructEq
namespace Go.Proofs.YtpmbijlldoiplaaGreatDoor
open Go.RowKit Pl

theorem before_at (d1 d2 e1 e2 : Int) (w : World) :
    Calls Tryz.prog 46 #[.agg #[.int .i64 d1, .int .i64 d2], .agg #[.int .i64 e1, .int .i64 e2]] w fun e w' => e = .returned (.bool (ltE (d1, d2) (e1, e2))) ∧
      ((w.alloc (.cells #[.int .i64 d1, .int .i64 d2] 85)).alloc (.cells #[.int .i64 e1, .int .i64 e2] 85)) = w' := by
  by_cases h1 : d1 < e1
  · have HV : Hid (ltE (d1, d2) (e1, e2) = true) := Lib.hid ((ltE_iff _ _).2 (.inl h1))
    go_enter Tryz.func46, Tryz.ntmps46
    go_wp2
    all_goals (go_ret; exact ⟨by rw [HV.out]; first | rfl | simp [h1], rfl⟩)
  · by_cases h2 : d1 = e1
    · subst h2
      by_cases h3 : d2 < e2
      · have HV : Hid (ltE (d1, d2) (d1, e2) = true) := Lib.hid ((ltE_iff _ _).2 (.inr ⟨rfl, h3⟩))
        go_enter Tryz.func46, Tryz.ntmps46
        go_wp2
        all_goals (go_ret; exact ⟨by rw [HV.out]; first | rfl | simp [h3], rfl⟩)
      · have HV : Hid (ltE (d1, d2) (d1, e2) = false) := Lib.hid ((ltE_false _ _).2 (.inr ⟨rfl, by simp only; omega⟩))
        go_enter Tryz.func46, Tryz.ntmps46
        go_wp2
        all_goals (go_ret; exact ⟨by rw [HV.out]; first | rfl | (simp; omega), rfl⟩)
    · have HV : Hid (ltE (d1, d2) (e1, e2) = false) := Lib.hid ((ltE_false _ _).2 (.inl (by simp only; omega)))
      have h4 : (d1 == e1) = false := by simpa using h2
      go_enter Tryz.func46, Tryz.ntmps46
      go_wp2
      all_goals (go_ret; exact ⟨by rw [HV.out]; first | rfl | (simp; omega), rfl⟩)

theorem neqE (a b c d : Int) (w : World) : (binOp .neq 85 (.agg #[.int .i64 a, .int .i64 b]) (.agg #[.int .i64 c, .int .i64 d])).run Tryz.prog w = .ok (.bool (!(a == c && b == d))) w := by
  have u3 := Tryz.underlying3
  have a3 := Tryz.isAgg3
  have z3 := Tryz.sizeOf3
  have hS : Tryz.prog.underlying 85 = some (.struct (Tryz.prog.fieldsOf 85)) := by kernel_rfl
  have hp : Tryz.prog.stoodInHeld 85 = false := by kernel_rfl
  rw [run_neq_struct, show (10000 : Nat) = 9999 + 1 from rfl, run_equalIn_agg w 9999 85 _ _ hS hp]
  simp only [Program.fieldsOf, Tryz.underlying85]
  go_simp
  by_cases h1 : a = c <;> by_cases h2 : b = d <;> simp [h1, h2]
theorem guardE (op : BinOp) (x y : Operand) (xs ys : Array Value) (w : World) : (eqGuard op 85 x y (.agg xs) (.agg ys)).run Tryz.prog w = .ok () w := run_eqGuard_agg w op _ x y xs ys (by kernel_rfl)
theorem cell_new {w : World} {p : Addr} {v : Value} (h : w.cell? p = some v) (o : Obj) : (w.alloc o).cell? p = some v := by
  rw [World.cell?_alloc_lt _ _ _ (World.block_lt_of_cell? w p h)]; exact h
theorem edges_ext {l m : List Edg} (h : l.length = m.length) (h' : ∀ k, k < l.length → edAt l k = edAt m k) : l = m := by
  refine List.ext_getElem h fun k hk hk' => ?_
  have := h' k hk
  unfold edAt at this
  rwa [List.getD_eq_getElem?_getD, List.getD_eq_getElem?_getD, List.getElem?_eq_getElem hk, List.getElem?_eq_getElem hk', Option.getD_some, Option.getD_some] at this
set_option maxHeartbeats 1000000 in
/-- SameEdges -/
theorem SameEdges_any {w : World} {a : Option Addr} {n c : Nat} {l : List Edg} {a' : Option Addr} {n' c' : Nat} {l' : List Edg} (A : EdgeArg w a n c l) (A' : EdgeArg w a' n' c' l') :
    Calls Tryz.prog 55 #[.slice a n c, .slice a' n' c'] w fun e w' => e = .returned (.bool (decide (l = l'))) ∧ Below w.heap.size w w' := by
  have HA := Lib.hid A
  have HA' := Lib.hid A'
  have h1 : n ≤ 140737488355328 := by have := A.cap; have := A.big; omega
  have h2 : n' ≤ 140737488355328 := by have := A'.cap; have := A'.big; omega
  clear A A'
  by_cases hl : n = n'
  · subst hl
    go_enter Tryz.func55, Tryz.ntmps55
    go_wp2
    go_loopw [5, 6, 14] (fun _ _ i wr => ∃ k : Nat, k ≤ n ∧ i = .int .i64 k ∧ Hid (∀ j, j < k → edAt l j = edAt l' j) ∧ Below w.heap.size w wr) (fun _ _ i _ => n - (intOf i).toNat)
    case atStart => exact ⟨0, Nat.zero_le _, rfl, Lib.hid fun j hj => absurd hj (Nat.not_lt_zero _), Below.refl _ _⟩
    case round =>
      obtain ⟨k, hk, rfl, hgood, hb⟩ := hrel
      by_cases hlt : k < n
      · obtain ⟨b, off, rfl, c1, c2⟩ := (HA.out.cells.below hb) k (by have := HA.out.len; omega)
        obtain ⟨b', off', rfl, d1, d2⟩ := (HA'.out.cells.below hb) k (by have := HA'.out.len; omega)
        obtain ⟨x, HX⟩ : ∃ x, Hid ((edAt l k).1 = x) := ⟨_, Lib.hid rfl⟩
        obtain ⟨y, HY⟩ : ∃ y, Hid ((edAt l k).2 = y) := ⟨_, Lib.hid rfl⟩
        obtain ⟨x', HX'⟩ : ∃ x, Hid ((edAt l' k).1 = x) := ⟨_, Lib.hid rfl⟩
        obtain ⟨y', HY'⟩ : ∃ y, Hid ((edAt l' k).2 = y) := ⟨_, Lib.hid rfl⟩
        rw [HX.out] at c1
        rw [HY.out] at c2
        rw [HX'.out] at d1
        rw [HY'.out] at d2
        have hgd := guardE .neq
        have D1 := cell_new d1
        have D2 := cell_new d2
        by_cases he : (x, y) = (x', y')
        · obtain ⟨rfl, rfl⟩ := Prod.mk.inj he
          have hne := neqE x y x y
          rw [show (!(x == x && y == y)) = false by simp] at hne
          have HG : Hid (∀ j, j < k + 1 → edAt l j = edAt l' j) := Lib.hid fun j hj => by
            by_cases e : j = k
            · rw [e]; exact Prod.ext (HX.out.trans HX'.out.symm) (HY.out.trans HY'.out.symm)
            · exact hgood.out j (by omega)
          clear he
          go_wp2
          go_quiet (fail)
          go_wp2
          go_roundw
          case rel => exact ⟨k + 1, by omega, by go_num, HG, below_drewN (hb.alloc hb.size _) _⟩
          case measure => simp [intOf]; omega
        · have hne := neqE x y x' y'
          rw [show (!(x == x' && y == y')) = true by
            by_cases h1 : x = x'
            · have h2 : y ≠ y' := fun h => he (by rw [h1, h])
              simp [h2]
            · simp [h1]] at hne
          have HE : Hid (l ≠ l') := Lib.hid fun e => he (by rw [← HX.out, ← HY.out, ← HX'.out, ← HY'.out, e])
          clear he
          go_wp2
          go_quiet (fail)
          go_wp2
          go_ret
          exact ⟨by rw [decide_eq_false HE.out]; rfl, below_drewN (hb.alloc hb.size _) _⟩
      · have HB : Hid (l = l') := Lib.hid (edges_ext (by have := HA.out.len; have := HA'.out.len; omega) fun j hj => hgood.out j (by have := HA.out.len; omega))
        go_wp2
        go_ret
        exact ⟨by rw [decide_eq_true HB.out]; rfl, hb⟩
  · have hq : ((n : Int) != n') = true := by rw [bne_iff_ne]; omega
    have HE : Hid (l ≠ l') := Lib.hid fun e => hl (by rw [HA.out.len, HA'.out.len, e])
    clear hl
    go_enter Tryz.func55, Tryz.ntmps55
    go_wp2
    go_ret
    exact ⟨by rw [decide_eq_false HE.out]; rfl, Below.refl _ _⟩
end Go.Proofs.YtpmbijlldoiplaaGreatDoor
