/- Texts joined: Same, Same2. -/
import Derived.Test.YtgpfpnenpgnogaaGreatDoorJa05
import Derived.Laws.StructEq
/- The reference's before, SameEdges, Same. -/
namespace Go.Proofs.YtgpfpnenpgnogaaGreatDoor
open Go.RowKit Pl

theorem before_at (d1 d2 e1 e2 : Int) (w : World) :
    Calls Tryz.prog 53 #[.agg #[.int .i64 d1, .int .i64 d2], .agg #[.int .i64 e1, .int .i64 e2]] w fun e w' => e = .returned (.bool (ltE (d1, d2) (e1, e2))) ∧
      ((w.alloc (.cells #[.int .i64 d1, .int .i64 d2] 69)).alloc (.cells #[.int .i64 e1, .int .i64 e2] 69)) = w' := by
  by_cases h1 : d1 < e1
  · have HV : Hid (ltE (d1, d2) (e1, e2) = true) := Lib.hid ((ltE_iff _ _).2 (.inl h1))
    go_enter Tryz.func53, Tryz.ntmps53
    go_wp2
    all_goals (go_ret; exact ⟨by rw [HV.out]; first | rfl | simp [h1], rfl⟩)
  · by_cases h2 : d1 = e1
    · subst h2
      by_cases h3 : d2 < e2
      · have HV : Hid (ltE (d1, d2) (d1, e2) = true) := Lib.hid ((ltE_iff _ _).2 (.inr ⟨rfl, h3⟩))
        go_enter Tryz.func53, Tryz.ntmps53
        go_wp2
        all_goals (go_ret; exact ⟨by rw [HV.out]; first | rfl | simp [h3], rfl⟩)
      · have HV : Hid (ltE (d1, d2) (d1, e2) = false) := Lib.hid ((ltE_false _ _).2 (.inr ⟨rfl, by simp only; omega⟩))
        go_enter Tryz.func53, Tryz.ntmps53
        go_wp2
        all_goals (go_ret; exact ⟨by rw [HV.out]; first | rfl | (simp; omega), rfl⟩)
    · have HV : Hid (ltE (d1, d2) (e1, e2) = false) := Lib.hid ((ltE_false _ _).2 (.inl (by simp only; omega)))
      have h4 : (d1 == e1) = false := by simpa using h2
      go_enter Tryz.func53, Tryz.ntmps53
      go_wp2
      all_goals (go_ret; exact ⟨by rw [HV.out]; first | rfl | (simp; omega), rfl⟩)

theorem neqE (a b c d : Int) (w : World) : (binOp .neq 69 (.agg #[.int .i64 a, .int .i64 b]) (.agg #[.int .i64 c, .int .i64 d])).run Tryz.prog w = .ok (.bool (!(a == c && b == d))) w := by
  have u3 := Tryz.underlying3
  have a3 := Tryz.isAgg3
  have z3 := Tryz.sizeOf3
  have hS : Tryz.prog.underlying 69 = some (.struct (Tryz.prog.fieldsOf 69)) := by kernel_rfl
  have hp : Tryz.prog.stoodInHeld 69 = false := by kernel_rfl
  rw [run_neq_struct, show (10000 : Nat) = 9999 + 1 from rfl, run_equalIn_agg w 9999 69 _ _ hS hp]
  simp only [Program.fieldsOf, Tryz.underlying69]
  go_simp
  by_cases h1 : a = c <;> by_cases h2 : b = d <;> simp [h1, h2]
theorem guardE (op : BinOp) (x y : Operand) (xs ys : Array Value) (w : World) : (eqGuard op 69 x y (.agg xs) (.agg ys)).run Tryz.prog w = .ok () w := run_eqGuard_agg w op _ x y xs ys (by kernel_rfl)
theorem cell_new {w : World} {p : Addr} {v : Value} (h : w.cell? p = some v) (o : Obj) : (w.alloc o).cell? p = some v := by
  rw [World.cell?_alloc_lt _ _ _ (World.block_lt_of_cell? w p h)]; exact h
theorem edges_ext {l m : List Edg} (h : l.length = m.length) (h' : ∀ k, k < l.length → edAt l k = edAt m k) : l = m := by
  refine List.ext_getElem h fun k hk hk' => ?_
  have := h' k hk
  unfold edAt at this
  rwa [List.getD_eq_getElem?_getD, List.getD_eq_getElem?_getD, List.getElem?_eq_getElem hk, List.getElem?_eq_getElem hk', Option.getD_some, Option.getD_some] at this
set_option maxHeartbeats 1000000 in
/-- SameEdges -/
theorem SameEdges_any {w : World} {a : Option Addr} {n c : Nat} {l : List Edg} {a' : Option Addr} {n' c' : Nat} {l' : List Edg} (A : EdgeArg w a n c l) (A' : EdgeArg w a' n' c' l') :
    Calls Tryz.prog 61 #[.slice a n c, .slice a' n' c'] w fun e w' => e = .returned (.bool (decide (l = l'))) ∧ Below w.heap.size w w' := by
  have HA := Lib.hid A
  have HA' := Lib.hid A'
  have h1 : n ≤ 140737488355328 := by have := A.cap; have := A.big; omega
  have h2 : n' ≤ 140737488355328 := by have := A'.cap; have := A'.big; omega
  clear A A'
  by_cases hl : n = n'
  · subst hl
    go_enter Tryz.func61, Tryz.ntmps61
    go_wp2
    go_loopw [5, 6, 14] (fun _ _ i wr => ∃ k : Nat, k ≤ n ∧ i = .int .i64 k ∧ Hid (∀ j, j < k → edAt l j = edAt l' j) ∧ Below w.heap.size w wr) (fun _ _ i _ => n - (intOf i).toNat)
    case atStart => exact ⟨0, Nat.zero_le _, rfl, Lib.hid fun j hj => absurd hj (Nat.not_lt_zero _), Below.refl _ _⟩
    case round =>
      obtain ⟨k, hk, rfl, hgood, hb⟩ := hrel
      by_cases hlt : k < n
      · obtain ⟨b, off, rfl, c1, c2⟩ := (HA.out.cells.below hb) k (by have := HA.out.len; omega)
        obtain ⟨b', off', rfl, d1, d2⟩ := (HA'.out.cells.below hb) k (by have := HA'.out.len; omega)
        obtain ⟨x, HX⟩ : ∃ x, Hid ((edAt l k).1 = x) := ⟨_, Lib.hid rfl⟩
        obtain ⟨y, HY⟩ : ∃ y, Hid ((edAt l k).2 = y) := ⟨_, Lib.hid rfl⟩
        obtain ⟨x', HX'⟩ : ∃ x, Hid ((edAt l' k).1 = x) := ⟨_, Lib.hid rfl⟩
        obtain ⟨y', HY'⟩ : ∃ y, Hid ((edAt l' k).2 = y) := ⟨_, Lib.hid rfl⟩
        rw [HX.out] at c1
        rw [HY.out] at c2
        rw [HX'.out] at d1
        rw [HY'.out] at d2
        have hgd := guardE .neq
        have D1 := cell_new d1
        have D2 := cell_new d2
        by_cases he : (x, y) = (x', y')
        · obtain ⟨rfl, rfl⟩ := Prod.mk.inj he
          have hne := neqE x y x y
          rw [show (!(x == x && y == y)) = false by simp] at hne
          have HG : Hid (∀ j, j < k + 1 → edAt l j = edAt l' j) := Lib.hid fun j hj => by
            by_cases e : j = k
            · rw [e]; exact Prod.ext (HX.out.trans HX'.out.symm) (HY.out.trans HY'.out.symm)
            · exact hgood.out j (by omega)
          clear he
          go_wp2
          go_quiet (fail)
          go_wp2
          go_roundw
          case rel => exact ⟨k + 1, by omega, by go_num, HG, below_drewN (hb.alloc hb.size _) _⟩
          case measure => simp [intOf]; omega
        · have hne := neqE x y x' y'
          rw [show (!(x == x' && y == y')) = true by
            by_cases h1 : x = x'
            · have h2 : y ≠ y' := fun h => he (by rw [h1, h])
              simp [h2]
            · simp [h1]] at hne
          have HE : Hid (l ≠ l') := Lib.hid fun e => he (by rw [← HX.out, ← HY.out, ← HX'.out, ← HY'.out, e])
          clear he
          go_wp2
          go_quiet (fail)
          go_wp2
          go_ret
          exact ⟨by rw [decide_eq_false HE.out]; rfl, below_drewN (hb.alloc hb.size _) _⟩
      · have HB : Hid (l = l') := Lib.hid (edges_ext (by have := HA.out.len; have := HA'.out.len; omega) fun j hj => hgood.out j (by have := HA.out.len; omega))
        go_wp2
        go_ret
        exact ⟨by rw [decide_eq_true HB.out]; rfl, hb⟩
  · have hq : ((n : Int) != n') = true := by rw [bne_iff_ne]; omega
    have HE : Hid (l ≠ l') := Lib.hid fun e => hl (by rw [HA.out.len, HA'.out.len, e])
    clear hl
    go_enter Tryz.func61, Tryz.ntmps61
    go_wp2
    go_ret
    exact ⟨by rw [decide_eq_false HE.out]; rfl, Below.refl _ _⟩
end Go.Proofs.YtgpfpnenpgnogaaGreatDoor
/- The reference's Same. -/
namespace Go.Proofs.YtgpfpnenpgnogaaGreatDoor
open Go.RowKit Pl

theorem states_ext {l m : List (List Edg)} (h : l.length = m.length) (h' : ∀ k, k < l.length → stAt l k = stAt m k) : l = m := by
  refine List.ext_getElem h fun k hk hk' => ?_
  have := h' k hk
  unfold stAt at this
  rwa [List.getD_eq_getElem?_getD, List.getD_eq_getElem?_getD, List.getElem?_eq_getElem hk, List.getElem?_eq_getElem hk', Option.getD_some, Option.getD_some] at this
/-- two systems are equal -/
def sameB (m m' : Syst) : Bool := decide (m.acts = m'.acts) && decide (m.states = m'.states)
theorem sameB_iff (m m' : Syst) : sameB m m' = true ↔ m = m' := by
  cases m; cases m'; simp [sameB]
set_option maxHeartbeats 1000000 in
theorem RSame_any {w : World} {a : Option Addr} {n c : Nat} {b : Option Addr} {k d : Nat} {m : Syst} {a' : Option Addr} {n' c' : Nat} {b' : Option Addr} {k' d' : Nat} {m' : Syst} (A : SysArg w a n c b k d m) (A' : SysArg w a' n' c' b' k' d' m') :
    Calls Tryz.prog 24 #[.agg #[.slice a n c, .slice b k d], .agg #[.slice a' n' c', .slice b' k' d']] w fun e w' => e = .returned (.bool (sameB m m')) ∧ Below w.heap.size w w' := by
  have hB := ((Below.refl w.heap.size w).alloc (Nat.le_refl _) (.cells #[.slice a n c, .slice b k d] 25)).alloc (by simp) (.cells #[.slice a' n' c', .slice b' k' d'] 25)
  have HS := Lib.hid (SameStrings_any _ _ c _ _ _ c' _ ((w.alloc (.cells #[.slice a n c, .slice b k d] 25)).alloc (.cells #[.slice a' n' c', .slice b' k' d'] 25)) A.acts.len A'.acts.len A.acts.big A'.acts.big (A.acts.cells.below hB) (A'.acts.cells.below hB))
  have HA := Lib.hid A
  have HA' := Lib.hid A'
  have h2 : k ≤ 140737488355328 := by have := A.cap; have := A.big; omega
  have h2' : k' ≤ 140737488355328 := by have := A'.cap; have := A'.big; omega
  have HR := Lib.hid (A.rows.below hB)
  have HR' := Lib.hid (A'.rows.below hB)
  have HBB := Lib.hid hB
  clear A A' hB
  by_cases ha : m.acts = m'.acts
  · rw [decide_eq_true ha] at HS
    by_cases hk : k = k'
    · subst hk
      have HAC := Lib.hid ha
      clear ha
      go_enter Tryz.func24, Tryz.ntmps24
      go_wp2_with fail
      refine HS.out.mono ?_
      rintro e w' ⟨rfl, rfl⟩
      go_wp2
      go_loopw [5, 6, 25] (fun _ _ i wr => ∃ j : Nat, j ≤ k ∧ i = .int .i64 j ∧ Hid (∀ x, x < j → stAt m.states x = stAt m'.states x) ∧ Below (w.heap.size + 1 + 1) ((w.alloc (.cells #[.slice a n c, .slice b k d] 25)).alloc (.cells #[.slice a' n' c', .slice b' k d'] 25)) wr) (fun _ _ i _ => k - (intOf i).toNat)
      case atStart => exact ⟨0, Nat.zero_le _, rfl, Lib.hid fun x hx => by omega, Below.refl _ _⟩
      case round =>
        obtain ⟨j, hj, rfl, ht, hb⟩ := hrel
        have hb' : Below ((w.alloc (.cells #[.slice a n c, .slice b k d] 25)).alloc (.cells #[.slice a' n' c', .slice b' k d'] 25)).heap.size ((w.alloc (.cells #[.slice a n c, .slice b k d] 25)).alloc (.cells #[.slice a' n' c', .slice b' k d'] 25)) wr := hb.mono (by simp)
        by_cases hlt : j < k
        · obtain ⟨bb, off, rfl, ai, ni, ci, c1, hE⟩ := (HR.out.below hb') j (by have := HA.out.len; omega)
          obtain ⟨bb', off', rfl, ai', ni', ci', c1', hE'⟩ := (HR'.out.below hb') j (by have := HA'.out.len; omega)
          have c3 : wr.cell? ⟨w.heap.size + 1, 1, none⟩ = some (.slice (some ⟨bb', off', none⟩) k d') := by rw [hb'.cell (by simp)]; simp
          have HE := Lib.hid (SameEdges_any (w := wr) hE hE')
          clear hE hE'
          by_cases hes : stAt m.states j = stAt m'.states j
          · have HG : Hid (∀ x, x < j + 1 → stAt m.states x = stAt m'.states x) := Lib.hid fun x hx => by
              by_cases e : x = j
              · rw [e]; exact hes
              · exact ht.out x (by omega)
            rw [decide_eq_true hes] at HE
            clear hes
            go_wp2_with fail
            refine HE.out.mono ?_
            rintro e w1 ⟨rfl, hb1⟩
            go_wp2
            go_roundw
            case rel => exact ⟨j + 1, by omega, by go_num, HG, hb.trans (hb1.mono (by have := hb'.size; simp at this; omega))⟩
            case measure => simp [intOf]; omega
          · have HB : Hid (sameB m m' = false) := Lib.hid (by
              rw [Bool.eq_false_iff, Ne, sameB_iff]
              intro e
              rw [e] at hes
              exact hes rfl)
            rw [decide_eq_false hes] at HE
            clear hes
            go_wp2_with fail
            refine HE.out.mono ?_
            rintro e w1 ⟨rfl, hb1⟩
            go_wp2
            go_ret
            exact ⟨by rw [HB.out]; rfl, (HBB.out.trans (hb'.mono HBB.out.size)).trans (hb1.mono (Nat.le_trans HBB.out.size hb'.size))⟩
        · have HB : Hid (sameB m m' = true) := Lib.hid (by
            have e := states_ext (l := m.states) (m := m'.states) (by have := HA.out.len; have := HA'.out.len; omega) (fun x hx => ht.out x (by have := HA.out.len; omega))
            unfold sameB
            rw [decide_eq_true HAC.out, decide_eq_true e]; rfl)
          go_wp2
          go_ret
          exact ⟨by rw [HB.out]; rfl, HBB.out.trans (hb'.mono HBB.out.size)⟩
    · have hq : ((k : Int) != k') = true := by rw [bne_iff_ne]; omega
      have HB : Hid (sameB m m' = false) := Lib.hid (by
        rw [Bool.eq_false_iff, Ne, sameB_iff]
        intro e
        rw [HA.out.len, HA'.out.len, e] at hk
        exact hk rfl)
      clear ha hk
      go_enter Tryz.func24, Tryz.ntmps24
      go_wp2_with fail
      refine HS.out.mono ?_
      rintro e w' ⟨rfl, rfl⟩
      go_wp2
      go_ret
      exact ⟨by rw [HB.out]; rfl, HBB.out⟩
  · have HB : Hid (sameB m m' = false) := Lib.hid (by
      rw [Bool.eq_false_iff, Ne, sameB_iff]
      intro e
      rw [e] at ha
      exact ha rfl)
    rw [decide_eq_false ha] at HS
    clear ha
    go_enter Tryz.func24, Tryz.ntmps24
    go_wp2_with fail
    refine HS.out.mono ?_
    rintro e w' ⟨rfl, rfl⟩
    go_wp2
    go_ret
    exact ⟨by rw [HB.out]; rfl, HBB.out⟩
end Go.Proofs.YtgpfpnenpgnogaaGreatDoor
