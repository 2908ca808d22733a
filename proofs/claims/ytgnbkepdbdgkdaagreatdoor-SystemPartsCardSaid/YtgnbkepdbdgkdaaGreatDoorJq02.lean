/- Texts joined: Sys, Same, Same2, OwnKit. -/
import Derived.Test.YtgnbkepdbdgkdaaGreatDoorJq01
import Derived.Laws.StructEq
import Derived.Maps.AppendAt
import Derived.OwnWalk
import Derived.Laws.OwnMore
import Derived.RegionTactic
import Derived.Deep.AppendLies
/- A system in memory; the reference's Few; system.Check. -/
namespace Go.Proofs.YtgnbkepdbdgkdaaGreatDoor
open Go.RowKit Pl

/-- the lists of edges of the states -/
def RowsIn (w : World) (b : Option Addr) (ss : List (List Edg)) : Prop :=
  ∀ i, i < ss.length → ∃ bb off, b = some ⟨bb, off, none⟩ ∧ ∃ ai ni ci, w.cell? ⟨bb, off + i, none⟩ = some (.slice ai ni ci) ∧ EdgeArg w ai ni ci (stAt ss i)
theorem RowsIn.below {w w' : World} {b : Option Addr} {ss : List (List Edg)} (h : RowsIn w b ss) (hb : Below w.heap.size w w') : RowsIn w' b ss := fun i hi => by
  obtain ⟨bb, off, e, ai, ni, ci, h1, h2⟩ := h i hi
  exact ⟨bb, off, e, ai, ni, ci, (hb.cell (lt_of_cell h1)).trans h1, h2.below hb⟩
/-- a system as its two slices hold it -/
structure SysArg (w : World) (a : Option Addr) (n c : Nat) (b : Option Addr) (k d : Nat) (m : Syst) : Prop where
  acts : StrArg w a n c m.acts
  abig : n ≤ 140737488355328
  nil : b = none → d = 0
  len : k = m.states.length
  cap : k ≤ d
  big : k ≤ 140737488355328
  rows : RowsIn w b m.states
theorem SysArg.below {w w' : World} {a : Option Addr} {n c : Nat} {b : Option Addr} {k d : Nat} {m : Syst} (h : SysArg w a n c b k d m) (hb : Below w.heap.size w w') : SysArg w' a n c b k d m :=
  ⟨h.acts.below hb, h.abig, h.nil, h.len, h.cap, h.big, h.rows.below hb⟩

theorem fewB_no {m : Syst} {most i : Nat} (h : most < m.acts.length + m.states.length + total (m.states.take i)) : fewB m most = false := by
  have := total_take_le m.states i
  rw [Bool.eq_false_iff, Ne, fewB_iff]; omega
theorem Few_any {w : World} {a : Option Addr} {n c : Nat} {b : Option Addr} {k d : Nat} {m : Syst} (most : Nat) (hm : most ≤ 4611686018427387904) (A : SysArg w a n c b k d m) :
    Calls Tryz.prog 7 #[.agg #[.slice a n c, .slice b k d], .int .i64 most] w fun e w' => e = .returned (.bool (fewB m most)) ∧ w.alloc (.cells #[.slice a n c, .slice b k d] 25) = w' := by
  have HA := Lib.hid A
  have h1 : n ≤ 140737488355328 := A.abig
  have h2 : k ≤ 140737488355328 := by have := A.cap; have := A.big; omega
  have hB := (Below.refl w.heap.size w).alloc (Nat.le_refl _) (.cells #[.slice a n c, .slice b k d] 25)
  have HR := Lib.hid (A.rows.below hB)
  clear A hB
  go_enter Tryz.func7, Tryz.ntmps7
  go_wp2
  go_loop [5, 6] (fun s i => ∃ j t : Nat, j ≤ k ∧ i = .int .i64 j ∧ s = .int .i64 t ∧ Hid (t = m.acts.length + m.states.length + total (m.states.take j)) ∧ t ≤ 4611686018427387904 + 140737488355328) (fun _ i => k - (intOf i).toNat)
  case atStart => exact ⟨0, n + k, Nat.zero_le _, rfl, by go_num, Lib.hid (by have := HA.out.len; have := HA.out.acts.len; simp [total]; omega), by omega⟩
  case round =>
    obtain ⟨j, t, hj, rfl, rfl, ht, htb⟩ := hrel
    by_cases hlt : j < k
    · by_cases hle : t ≤ most
      · obtain ⟨bb, off, rfl, ai, ni, ci, c1, hE⟩ := HR.out j (by have := HA.out.len; omega)
        have h3 : ni ≤ 140737488355328 := by have := hE.cap; have := hE.big; omega
        have HT : Hid (t + ni = m.acts.length + m.states.length + total (m.states.take (j + 1))) := Lib.hid (by
          have := ht.out; have := total_take m.states j (by have := HA.out.len; omega); have := hE.len; omega)
        have HE := Lib.hid hE
        clear hE
        go_wp2
        go_round
        case rel => exact ⟨j + 1, t + ni, by omega, by go_num, by go_num, HT, by omega⟩
        case measure => simp [intOf]; omega
      · have HB := Lib.hid (fewB_no (m := m) (most := most) (i := j) (by have := ht.out; omega))
        go_wp2
        go_ret
        exact ⟨by rw [HB.out]; rfl, rfl⟩
    · have HT : Hid (fewB m most = decide (t ≤ most)) := Lib.hid (by
        have := ht.out
        rw [List.take_of_length_le (by have := HA.out.len; omega)] at this
        rw [this]; rfl)
      by_cases hle : t ≤ most
      · have HB : Hid (fewB m most = true) := Lib.hid (by rw [HT.out]; exact decide_eq_true hle)
        go_wp2
        go_ret
        exact ⟨by rw [HB.out]; rfl, rfl⟩
      · have HB : Hid (fewB m most = false) := Lib.hid (by rw [HT.out]; exact decide_eq_false hle)
        go_wp2
        go_ret
        exact ⟨by rw [HB.out]; rfl, rfl⟩

/-- what Check answers -/
def chk (m : Syst) : Int := if sysB m = true then 0 else 20
theorem chk_yes {m : Syst} (h : sysB m = true) : chk m = 0 := if_pos h
theorem chk_no {m : Syst} (h : sysB m = false) : chk m = 20 := by unfold chk; rw [h]; rfl
set_option maxHeartbeats 1000000 in
/-- system.Check -/
theorem SCheck_any {w : World} {a : Option Addr} {n c : Nat} {b : Option Addr} {k d : Nat} {m : Syst} {e0 e1 e2 : Addr} (E : Errs w e0 e1 e2) (A : SysArg w a n c b k d m) :
    Calls Tryz.prog 40 #[.agg #[.slice a n c, .slice b k d]] w fun e w' => e = .returned (.int .i64 (chk m)) ∧ Below w.heap.size w w' := by
  have hB := (Below.refl w.heap.size w).alloc (Nat.le_refl _) (.cells #[.slice a n c, .slice b k d] 25)
  have HC := Lib.hid (Check_any (E.below hB) (A.acts.below hB))
  have HA := Lib.hid A
  have h1 : n ≤ 140737488355328 := A.abig
  have h2 : k ≤ 140737488355328 := by have := A.cap; have := A.big; omega
  have HR := Lib.hid (A.rows.below hB)
  have HBB := Lib.hid hB
  clear A hB E
  cases ha : actsB m.acts
  · have HB := Lib.hid (chk_no (sysB_acts ha))
    rw [ha] at HC
    clear ha
    go_enter Tryz.func40, Tryz.ntmps40
    go_wp2_with fail
    refine HC.out.mono ?_
    rintro e w' ⟨rfl, rfl⟩
    go_wp2
    go_ret
    exact ⟨by rw [HB.out]; rfl, HBB.out⟩
  · rw [ha] at HC
    have HAC := Lib.hid ha
    clear ha
    by_cases hk : 1 ≤ k ∧ k ≤ 5000
    · obtain ⟨hk1, hk2⟩ := hk
      go_enter Tryz.func40, Tryz.ntmps40
      go_wp2_with fail
      refine HC.out.mono ?_
      rintro e w' ⟨rfl, rfl⟩
      go_wp2
      go_loopw [3, 5, 25] (fun s _ i wr => ∃ j t : Nat, j ≤ k ∧ i = .int .i64 j ∧ s = .int .i64 t ∧ Hid (t = total (m.states.take j) ∧ ∀ x, x < j → edgesB m.acts.length m.states.length (stAt m.states x) = true) ∧ t ≤ 400000 ∧ Below (w.heap.size + 1) (w.alloc (.cells #[.slice a n c, .slice b k d] 25)) wr) (fun _ _ i _ => k - (intOf i).toNat)
      case atStart => exact ⟨0, 0, Nat.zero_le _, rfl, rfl, Lib.hid ⟨by simp [total], fun x hx => by omega⟩, by omega, Below.refl _ _⟩
      case round =>
        obtain ⟨j, t, hj, rfl, rfl, ht, htb, hb⟩ := hrel
        have hb' : Below (w.alloc (.cells #[.slice a n c, .slice b k d] 25)).heap.size (w.alloc (.cells #[.slice a n c, .slice b k d] 25)) wr := hb.mono (by simp)
        by_cases hlt : j < k
        · obtain ⟨bb, off, rfl, ai, ni, ci, c1, hE⟩ := (HR.out.below hb') j (by have := HA.out.len; omega)
          have c2 : wr.cell? ⟨w.heap.size, 0, none⟩ = some (.slice a n c) := by rw [hb'.cell (by simp)]; simp
          have c3 : wr.cell? ⟨w.heap.size, 1, none⟩ = some (.slice (some ⟨bb, off, none⟩) k d) := by rw [hb'.cell (by simp)]; simp
          have h3 : ni ≤ 140737488355328 := by have := hE.cap; have := hE.big; omega
          have HE := Lib.hid (areEdges_any (w := wr) n k (by omega) (by omega) hE)
          have HT : Hid (t + ni = total (m.states.take (j + 1))) := Lib.hid (by
            have := ht.out.1; have := total_take m.states j (by have := HA.out.len; omega); have := hE.len; omega)
          clear hE
          by_cases hle : t + ni ≤ 400000
          · cases hes : edgesB n k (stAt m.states j)
            · have HB := Lib.hid (chk_no (m := m) (sysB_edges j (by have := HA.out.len; omega) (by rw [← HA.out.len, ← HA.out.acts.len]; exact hes)))
              rw [hes] at HE
              clear hes
              go_wp2_with fail
              refine HE.out.mono ?_
              rintro e w1 ⟨rfl, hb1⟩
              go_wp2
              go_ret
              exact ⟨by rw [HB.out]; rfl, (HBB.out.trans (hb'.mono HBB.out.size)).trans (hb1.mono (Nat.le_trans HBB.out.size hb'.size))⟩
            · have HG : Hid (t + ni = total (m.states.take (j + 1)) ∧ ∀ x, x < j + 1 → edgesB m.acts.length m.states.length (stAt m.states x) = true) := Lib.hid ⟨HT.out, fun x hx => by
                by_cases e : x = j
                · rw [e, ← HA.out.len, ← HA.out.acts.len]; exact hes
                · exact ht.out.2 x (by omega)⟩
              rw [hes] at HE
              clear hes
              go_wp2_with fail
              refine HE.out.mono ?_
              rintro e w1 ⟨rfl, hb1⟩
              go_wp2
              go_roundw
              case rel => exact ⟨j + 1, t + ni, by omega, by go_num, by go_num, HG, hle, hb.trans (hb1.mono (by have := hb'.size; simp at this; omega))⟩
              case measure => simp [intOf]; omega
          · have HB := Lib.hid (chk_no (m := m) (sysB_total (by have := HT.out; have := total_take_le m.states (j + 1); omega)))
            go_wp2
            go_ret
            exact ⟨by rw [HB.out]; rfl, HBB.out.trans (hb'.mono HBB.out.size)⟩
        · have HB := Lib.hid (chk_yes (m := m) (sysB_good HAC.out (by have := HA.out.len; omega) (by have := HA.out.len; omega) (fun i hi => ht.out.2 i (by have := HA.out.len; omega)) (by
            have := ht.out.1
            rw [List.take_of_length_le (by have := HA.out.len; omega)] at this
            omega)))
          go_wp2
          go_ret
          exact ⟨by rw [HB.out]; rfl, HBB.out.trans (hb'.mono HBB.out.size)⟩
    · have HB : Hid (chk m = 20) := Lib.hid (by
        by_cases h : k < 1
        · exact chk_no (sysB_few (by have := HA.out.len; omega))
        · exact chk_no (sysB_many (by have := HA.out.len; omega)))
      by_cases hk1 : k < 1
      · go_enter Tryz.func40, Tryz.ntmps40
        go_wp2_with fail
        refine HC.out.mono ?_
        rintro e w' ⟨rfl, rfl⟩
        go_wp2
        go_ret
        exact ⟨by rw [HB.out]; rfl, HBB.out⟩
      · have hk2 : 5000 < k := by omega
        go_enter Tryz.func40, Tryz.ntmps40
        go_wp2_with fail
        refine HC.out.mono ?_
        rintro e w' ⟨rfl, rfl⟩
        go_wp2
        go_ret
        exact ⟨by rw [HB.out]; rfl, HBB.out⟩
end Go.Proofs.YtgnbkepdbdgkdaaGreatDoor
/- The reference's before, SameEdges, Same. -/
namespace Go.Proofs.YtgnbkepdbdgkdaaGreatDoor
open Go.RowKit Pl

theorem before_at (d1 d2 e1 e2 : Int) (w : World) :
    Calls Tryz.prog 42 #[.agg #[.int .i64 d1, .int .i64 d2], .agg #[.int .i64 e1, .int .i64 e2]] w fun e w' => e = .returned (.bool (ltE (d1, d2) (e1, e2))) ∧
      ((w.alloc (.cells #[.int .i64 d1, .int .i64 d2] 87)).alloc (.cells #[.int .i64 e1, .int .i64 e2] 87)) = w' := by
  by_cases h1 : d1 < e1
  · have HV : Hid (ltE (d1, d2) (e1, e2) = true) := Lib.hid ((ltE_iff _ _).2 (.inl h1))
    go_enter Tryz.func42, Tryz.ntmps42
    go_wp2
    all_goals (go_ret; exact ⟨by rw [HV.out]; first | rfl | simp [h1], rfl⟩)
  · by_cases h2 : d1 = e1
    · subst h2
      by_cases h3 : d2 < e2
      · have HV : Hid (ltE (d1, d2) (d1, e2) = true) := Lib.hid ((ltE_iff _ _).2 (.inr ⟨rfl, h3⟩))
        go_enter Tryz.func42, Tryz.ntmps42
        go_wp2
        all_goals (go_ret; exact ⟨by rw [HV.out]; first | rfl | simp [h3], rfl⟩)
      · have HV : Hid (ltE (d1, d2) (d1, e2) = false) := Lib.hid ((ltE_false _ _).2 (.inr ⟨rfl, by simp only; omega⟩))
        go_enter Tryz.func42, Tryz.ntmps42
        go_wp2
        all_goals (go_ret; exact ⟨by rw [HV.out]; first | rfl | (simp; omega), rfl⟩)
    · have HV : Hid (ltE (d1, d2) (e1, e2) = false) := Lib.hid ((ltE_false _ _).2 (.inl (by simp only; omega)))
      have h4 : (d1 == e1) = false := by simpa using h2
      go_enter Tryz.func42, Tryz.ntmps42
      go_wp2
      all_goals (go_ret; exact ⟨by rw [HV.out]; first | rfl | (simp; omega), rfl⟩)

theorem neqE (a b c d : Int) (w : World) : (binOp .neq 87 (.agg #[.int .i64 a, .int .i64 b]) (.agg #[.int .i64 c, .int .i64 d])).run Tryz.prog w = .ok (.bool (!(a == c && b == d))) w := by
  have u3 := Tryz.underlying3
  have a3 := Tryz.isAgg3
  have z3 := Tryz.sizeOf3
  have hS : Tryz.prog.underlying 87 = some (.struct (Tryz.prog.fieldsOf 87)) := by kernel_rfl
  have hp : Tryz.prog.stoodInHeld 87 = false := by kernel_rfl
  rw [run_neq_struct, show (10000 : Nat) = 9999 + 1 from rfl, run_equalIn_agg w 9999 87 _ _ hS hp]
  simp only [Program.fieldsOf, Tryz.underlying87]
  go_simp
  by_cases h1 : a = c <;> by_cases h2 : b = d <;> simp [h1, h2]
theorem guardE (op : BinOp) (x y : Operand) (xs ys : Array Value) (w : World) : (eqGuard op 87 x y (.agg xs) (.agg ys)).run Tryz.prog w = .ok () w := run_eqGuard_agg w op _ x y xs ys (by kernel_rfl)
theorem cell_new {w : World} {p : Addr} {v : Value} (h : w.cell? p = some v) (o : Obj) : (w.alloc o).cell? p = some v := by
  rw [World.cell?_alloc_lt _ _ _ (World.block_lt_of_cell? w p h)]; exact h
theorem edges_ext {l m : List Edg} (h : l.length = m.length) (h' : ∀ k, k < l.length → edAt l k = edAt m k) : l = m := by
  refine List.ext_getElem h fun k hk hk' => ?_
  have := h' k hk
  unfold edAt at this
  rwa [List.getD_eq_getElem?_getD, List.getD_eq_getElem?_getD, List.getElem?_eq_getElem hk, List.getElem?_eq_getElem hk', Option.getD_some, Option.getD_some] at this
set_option maxHeartbeats 1000000 in
/-- SameEdges -/
theorem SameEdges_any {w : World} {a : Option Addr} {n c : Nat} {l : List Edg} {a' : Option Addr} {n' c' : Nat} {l' : List Edg} (A : EdgeArg w a n c l) (A' : EdgeArg w a' n' c' l') :
    Calls Tryz.prog 51 #[.slice a n c, .slice a' n' c'] w fun e w' => e = .returned (.bool (decide (l = l'))) ∧ Below w.heap.size w w' := by
  have HA := Lib.hid A
  have HA' := Lib.hid A'
  have h1 : n ≤ 140737488355328 := by have := A.cap; have := A.big; omega
  have h2 : n' ≤ 140737488355328 := by have := A'.cap; have := A'.big; omega
  clear A A'
  by_cases hl : n = n'
  · subst hl
    go_enter Tryz.func51, Tryz.ntmps51
    go_wp2
    go_loopw [5, 6, 14] (fun _ _ i wr => ∃ k : Nat, k ≤ n ∧ i = .int .i64 k ∧ Hid (∀ j, j < k → edAt l j = edAt l' j) ∧ Below w.heap.size w wr) (fun _ _ i _ => n - (intOf i).toNat)
    case atStart => exact ⟨0, Nat.zero_le _, rfl, Lib.hid fun j hj => absurd hj (Nat.not_lt_zero _), Below.refl _ _⟩
    case round =>
      obtain ⟨k, hk, rfl, hgood, hb⟩ := hrel
      by_cases hlt : k < n
      · obtain ⟨b, off, rfl, c1, c2⟩ := (HA.out.cells.below hb) k (by have := HA.out.len; omega)
        obtain ⟨b', off', rfl, d1, d2⟩ := (HA'.out.cells.below hb) k (by have := HA'.out.len; omega)
        obtain ⟨x, HX⟩ : ∃ x, Hid ((edAt l k).1 = x) := ⟨_, Lib.hid rfl⟩
        obtain ⟨y, HY⟩ : ∃ y, Hid ((edAt l k).2 = y) := ⟨_, Lib.hid rfl⟩
        obtain ⟨x', HX'⟩ : ∃ x, Hid ((edAt l' k).1 = x) := ⟨_, Lib.hid rfl⟩
        obtain ⟨y', HY'⟩ : ∃ y, Hid ((edAt l' k).2 = y) := ⟨_, Lib.hid rfl⟩
        rw [HX.out] at c1
        rw [HY.out] at c2
        rw [HX'.out] at d1
        rw [HY'.out] at d2
        have hgd := guardE .neq
        have D1 := cell_new d1
        have D2 := cell_new d2
        by_cases he : (x, y) = (x', y')
        · obtain ⟨rfl, rfl⟩ := Prod.mk.inj he
          have hne := neqE x y x y
          rw [show (!(x == x && y == y)) = false by simp] at hne
          have HG : Hid (∀ j, j < k + 1 → edAt l j = edAt l' j) := Lib.hid fun j hj => by
            by_cases e : j = k
            · rw [e]; exact Prod.ext (HX.out.trans HX'.out.symm) (HY.out.trans HY'.out.symm)
            · exact hgood.out j (by omega)
          clear he
          go_wp2
          go_quiet (fail)
          go_wp2
          go_roundw
          case rel => exact ⟨k + 1, by omega, by go_num, HG, below_drewN (hb.alloc hb.size _) _⟩
          case measure => simp [intOf]; omega
        · have hne := neqE x y x' y'
          rw [show (!(x == x' && y == y')) = true by
            by_cases h1 : x = x'
            · have h2 : y ≠ y' := fun h => he (by rw [h1, h])
              simp [h2]
            · simp [h1]] at hne
          have HE : Hid (l ≠ l') := Lib.hid fun e => he (by rw [← HX.out, ← HY.out, ← HX'.out, ← HY'.out, e])
          clear he
          go_wp2
          go_quiet (fail)
          go_wp2
          go_ret
          exact ⟨by rw [decide_eq_false HE.out]; rfl, below_drewN (hb.alloc hb.size _) _⟩
      · have HB : Hid (l = l') := Lib.hid (edges_ext (by have := HA.out.len; have := HA'.out.len; omega) fun j hj => hgood.out j (by have := HA.out.len; omega))
        go_wp2
        go_ret
        exact ⟨by rw [decide_eq_true HB.out]; rfl, hb⟩
  · have hq : ((n : Int) != n') = true := by rw [bne_iff_ne]; omega
    have HE : Hid (l ≠ l') := Lib.hid fun e => hl (by rw [HA.out.len, HA'.out.len, e])
    clear hl
    go_enter Tryz.func51, Tryz.ntmps51
    go_wp2
    go_ret
    exact ⟨by rw [decide_eq_false HE.out]; rfl, Below.refl _ _⟩
end Go.Proofs.YtgnbkepdbdgkdaaGreatDoor
/- The reference's Same. -/
namespace Go.Proofs.YtgnbkepdbdgkdaaGreatDoor
open Go.RowKit Pl

theorem states_ext {l m : List (List Edg)} (h : l.length = m.length) (h' : ∀ k, k < l.length → stAt l k = stAt m k) : l = m := by
  refine List.ext_getElem h fun k hk hk' => ?_
  have := h' k hk
  unfold stAt at this
  rwa [List.getD_eq_getElem?_getD, List.getD_eq_getElem?_getD, List.getElem?_eq_getElem hk, List.getElem?_eq_getElem hk', Option.getD_some, Option.getD_some] at this
/-- two systems are equal -/
def sameB (m m' : Syst) : Bool := decide (m.acts = m'.acts) && decide (m.states = m'.states)
theorem sameB_iff (m m' : Syst) : sameB m m' = true ↔ m = m' := by
  cases m; cases m'; simp [sameB]
set_option maxHeartbeats 1000000 in
theorem RSame_any {w : World} {a : Option Addr} {n c : Nat} {b : Option Addr} {k d : Nat} {m : Syst} {a' : Option Addr} {n' c' : Nat} {b' : Option Addr} {k' d' : Nat} {m' : Syst} (A : SysArg w a n c b k d m) (A' : SysArg w a' n' c' b' k' d' m') :
    Calls Tryz.prog 13 #[.agg #[.slice a n c, .slice b k d], .agg #[.slice a' n' c', .slice b' k' d']] w fun e w' => e = .returned (.bool (sameB m m')) ∧ Below w.heap.size w w' := by
  have hB := ((Below.refl w.heap.size w).alloc (Nat.le_refl _) (.cells #[.slice a n c, .slice b k d] 25)).alloc (by simp) (.cells #[.slice a' n' c', .slice b' k' d'] 25)
  have HS := Lib.hid (SameStrings_any _ _ c _ _ _ c' _ ((w.alloc (.cells #[.slice a n c, .slice b k d] 25)).alloc (.cells #[.slice a' n' c', .slice b' k' d'] 25)) A.acts.len A'.acts.len A.acts.big A'.acts.big (A.acts.cells.below hB) (A'.acts.cells.below hB))
  have HA := Lib.hid A
  have HA' := Lib.hid A'
  have h2 : k ≤ 140737488355328 := by have := A.cap; have := A.big; omega
  have h2' : k' ≤ 140737488355328 := by have := A'.cap; have := A'.big; omega
  have HR := Lib.hid (A.rows.below hB)
  have HR' := Lib.hid (A'.rows.below hB)
  have HBB := Lib.hid hB
  clear A A' hB
  by_cases ha : m.acts = m'.acts
  · rw [decide_eq_true ha] at HS
    by_cases hk : k = k'
    · subst hk
      have HAC := Lib.hid ha
      clear ha
      go_enter Tryz.func13, Tryz.ntmps13
      go_wp2_with fail
      refine HS.out.mono ?_
      rintro e w' ⟨rfl, rfl⟩
      go_wp2
      go_loopw [5, 6, 25] (fun _ _ i wr => ∃ j : Nat, j ≤ k ∧ i = .int .i64 j ∧ Hid (∀ x, x < j → stAt m.states x = stAt m'.states x) ∧ Below (w.heap.size + 1 + 1) ((w.alloc (.cells #[.slice a n c, .slice b k d] 25)).alloc (.cells #[.slice a' n' c', .slice b' k d'] 25)) wr) (fun _ _ i _ => k - (intOf i).toNat)
      case atStart => exact ⟨0, Nat.zero_le _, rfl, Lib.hid fun x hx => by omega, Below.refl _ _⟩
      case round =>
        obtain ⟨j, hj, rfl, ht, hb⟩ := hrel
        have hb' : Below ((w.alloc (.cells #[.slice a n c, .slice b k d] 25)).alloc (.cells #[.slice a' n' c', .slice b' k d'] 25)).heap.size ((w.alloc (.cells #[.slice a n c, .slice b k d] 25)).alloc (.cells #[.slice a' n' c', .slice b' k d'] 25)) wr := hb.mono (by simp)
        by_cases hlt : j < k
        · obtain ⟨bb, off, rfl, ai, ni, ci, c1, hE⟩ := (HR.out.below hb') j (by have := HA.out.len; omega)
          obtain ⟨bb', off', rfl, ai', ni', ci', c1', hE'⟩ := (HR'.out.below hb') j (by have := HA'.out.len; omega)
          have c3 : wr.cell? ⟨w.heap.size + 1, 1, none⟩ = some (.slice (some ⟨bb', off', none⟩) k d') := by rw [hb'.cell (by simp)]; simp
          have HE := Lib.hid (SameEdges_any (w := wr) hE hE')
          clear hE hE'
          by_cases hes : stAt m.states j = stAt m'.states j
          · have HG : Hid (∀ x, x < j + 1 → stAt m.states x = stAt m'.states x) := Lib.hid fun x hx => by
              by_cases e : x = j
              · rw [e]; exact hes
              · exact ht.out x (by omega)
            rw [decide_eq_true hes] at HE
            clear hes
            go_wp2_with fail
            refine HE.out.mono ?_
            rintro e w1 ⟨rfl, hb1⟩
            go_wp2
            go_roundw
            case rel => exact ⟨j + 1, by omega, by go_num, HG, hb.trans (hb1.mono (by have := hb'.size; simp at this; omega))⟩
            case measure => simp [intOf]; omega
          · have HB : Hid (sameB m m' = false) := Lib.hid (by
              rw [Bool.eq_false_iff, Ne, sameB_iff]
              intro e
              rw [e] at hes
              exact hes rfl)
            rw [decide_eq_false hes] at HE
            clear hes
            go_wp2_with fail
            refine HE.out.mono ?_
            rintro e w1 ⟨rfl, hb1⟩
            go_wp2
            go_ret
            exact ⟨by rw [HB.out]; rfl, (HBB.out.trans (hb'.mono HBB.out.size)).trans (hb1.mono (Nat.le_trans HBB.out.size hb'.size))⟩
        · have HB : Hid (sameB m m' = true) := Lib.hid (by
            have e := states_ext (l := m.states) (m := m'.states) (by have := HA.out.len; have := HA'.out.len; omega) (fun x hx => ht.out x (by have := HA.out.len; omega))
            unfold sameB
            rw [decide_eq_true HAC.out, decide_eq_true e]; rfl)
          go_wp2
          go_ret
          exact ⟨by rw [HB.out]; rfl, HBB.out.trans (hb'.mono HBB.out.size)⟩
    · have hq : ((k : Int) != k') = true := by rw [bne_iff_ne]; omega
      have HB : Hid (sameB m m' = false) := Lib.hid (by
        rw [Bool.eq_false_iff, Ne, sameB_iff]
        intro e
        rw [HA.out.len, HA'.out.len, e] at hk
        exact hk rfl)
      clear ha hk
      go_enter Tryz.func13, Tryz.ntmps13
      go_wp2_with fail
      refine HS.out.mono ?_
      rintro e w' ⟨rfl, rfl⟩
      go_wp2
      go_ret
      exact ⟨by rw [HB.out]; rfl, HBB.out⟩
  · have HB : Hid (sameB m m' = false) := Lib.hid (by
      rw [Bool.eq_false_iff, Ne, sameB_iff]
      intro e
      rw [e] at ha
      exact ha rfl)
    rw [decide_eq_false ha] at HS
    clear ha
    go_enter Tryz.func13, Tryz.ntmps13
    go_wp2_with fail
    refine HS.out.mono ?_
    rintro e w' ⟨rfl, rfl⟩
    go_wp2
    go_ret
    exact ⟨by rw [HB.out]; rfl, HBB.out⟩
end Go.Proofs.YtgnbkepdbdgkdaaGreatDoor
/- Rows of the call's own: append from whatever source, rows of different element types; a system in the call's own memory. -/
namespace Go.Proofs.YtgnbkepdbdgkdaaGreatDoor
open Go.RowKit Pl

theorem add_plainly (b off j : Nat) : (⟨b, off, none⟩ : Addr).add j = ⟨b, off + j, none⟩ := by
  unfold Addr.add
  by_cases h : j = 0
  · rw [if_pos h, h, Nat.add_zero]
  · rw [if_neg h]
/-- what is appended: m elements, the source nil or not -/
def SrcAt (w : World) (ao : Option Addr) (news : List Value) : Prop := ∀ j u, news[j]? = some u → ∃ ad, ao = some ad ∧ w.cell? (ad.add j) = some u
theorem run_append_sz {P : Program} {w : World} (base : Nat) (t ty e : TypeId) (i : TypeInfo) (z : Value) (size bytes : Nat) (ht : P.underlying t = some (.slice e)) (hi : P.info? e = some i) (hz : i.zero = some z)
    (hsize : i.size = size) (hby : i.bytes = bytes) (hzs : z.cells.size = size) (hsz : 0 < size) (v : Value) (n : Nat) (xs : List Value) (hown : w.ownsRow base e size v n xs)
    (ao : Option Addr) (m c : Nat) (news : List Value) (hnil : ao = none → m = 0 ∧ c = 0) (hl : news.length = m * size) (hnews : SrcAt w ao news) (h1 : ∀ u ∈ news, u.oneCell' = true)
    (h63 : n + m ≤ maxLen) (hbytes : (n + m) * bytes ≤ 140737488355328) (hbase : base ≤ w.heap.size) :
    ∃ v' w', (Builtin.append_ #[t, t] ty #[v, .slice ao m c]).run P w = .ok v' w' ∧ w'.ownsRow base e size v' (n + m) (xs ++ news) ∧ w.grownBy w' v.ownBlock ∧ (v'.ownBlock = v.ownBlock ∨ v'.ownBlock = some w.heap.size) := by
  cases ao with
  | none =>
    obtain ⟨rfl, rfl⟩ := hnil rfl
    obtain rfl := List.length_eq_zero_iff.1 (hl.trans (Nat.zero_mul _))
    rw [List.append_nil]
    exact ⟨v, w, run_append_owned_none (w := w) base t ty e i size ht hi v n xs hown, hown, ⟨rfl, rfl, rfl, Nat.le_refl _, fun _ _ _ => rfl⟩, .inl rfl⟩
  | some ad =>
    obtain ⟨v', w', h2, h3, h4, _, h6⟩ := run_append_own_at (P := P) w base t ty e i z size bytes ht hi hz hsize hby hzs hsz v n xs hown ad m c news hl (fun j u hu => by
      obtain ⟨ad', h, hc⟩ := hnews j u hu
      cases h
      exact hc) h1 h63 hbytes hbase
    exact ⟨v', w', h2, h3, h4, h6⟩
theorem wp_append_sz {P : Program} {w : World} {o : Oper} {a : Act} {K : Act → World → Prop} {Q : Exit → Act → World → Prop} (s x : Operand) (t : TypeId)
    (ho : o.op = .call { callee := .builtin .append, args := #[s, x], argTypes := #[t, t] }) (base : Nat) (e : TypeId) (i : TypeInfo) (z : Value) (size bytes : Nat) (ht : P.underlying t = some (.slice e)) (hi : P.info? e = some i) (hz : i.zero = some z)
    (hsize : i.size = size) (hby : i.bytes = bytes) (hzs : z.cells.size = size) (hsz : 0 < size) (v : Value) (hs : a.eval s = v) (n : Nat) (xs : List Value) (hown : w.ownsRow base e size v n xs)
    (ao : Option Addr) (m c : Nat) (hx : a.eval x = .slice ao m c) (news : List Value) (hnil : ao = none → m = 0 ∧ c = 0) (hl : news.length = m * size) (hnews : SrcAt w ao news) (h1 : ∀ u ∈ news, u.oneCell' = true)
    (h63 : n + m ≤ maxLen) (hbytes : (n + m) * bytes ≤ 140737488355328) (hbase : base ≤ w.heap.size)
    (hK : ∀ v' w', w'.ownsRow base e size v' (n + m) (xs ++ news) → w.grownBy w' v.ownBlock → (v'.ownBlock = v.ownBlock ∨ v'.ownBlock = some w.heap.size) → K (a.put o.dst v') w') : Oper.wp P o a w K Q := by
  obtain ⟨v', w', hrun, r1, r2, r3⟩ := run_append_sz (P := P) (w := w) base t o.type e i z size bytes ht hi hz hsize hby hzs hsz v n xs hown ao m c news hnil hl hnews h1 h63 hbytes hbase
  unfold Oper.wp
  simp [execOp, ho, resolve, invoke, builtin, hs, hx, hrun, Result.andThen]
  exact hK v' w' r1 r2 r3
theorem step_append_sz {P : Program} {w : World} {ops : Array Oper} {o : Oper} {a : Act} {K : Act → World → Prop} {Q : Exit → Act → World → Prop} {E : Prop} (hg : o.guard = none) (s x : Operand) (t : TypeId)
    (ho : o.op = .call { callee := .builtin .append, args := #[s, x], argTypes := #[t, t] }) (base : Nat) (e : TypeId) (i : TypeInfo) (z : Value) (size bytes : Nat) (ht : P.underlying t = some (.slice e)) (hi : P.info? e = some i) (hz : i.zero = some z)
    (hsize : i.size = size) (hby : i.bytes = bytes) (hzs : z.cells.size = size) (hsz : 0 < size) (v : Value) (hs : a.eval s = v) (n : Nat) (xs : List Value) (hown : w.ownsRow base e size v n xs)
    (ao : Option Addr) (m c : Nat) (hx : a.eval x = .slice ao m c) (news : List Value) (hnil : ao = none → m = 0 ∧ c = 0) (hl : news.length = m * size) (hnews : SrcAt w ao news) (h1 : ∀ u ∈ news, u.oneCell' = true)
    (h63 : n + m ≤ maxLen) (hbytes : (n + m) * bytes ≤ 140737488355328) (hbase : base ≤ w.heap.size)
    (hK : ∀ v' w', w'.ownsRow base e size v' (n + m) (xs ++ news) → w.grownBy w' v.ownBlock → (v'.ownBlock = v.ownBlock ∨ v'.ownBlock = some w.heap.size) → K (a.put o.dst v') w') :
    if Region.wanted o (yielded ops a.tmps) = true then Oper.wp P o a w K Q else E := by
  rw [if_pos (by simp [Region.wanted, hg])]
  exact wp_append_sz s x t ho base e i z size bytes ht hi hz hsize hby hzs hsz v hs n xs hown ao m c hx news hnil hl hnews h1 h63 hbytes hbase hK
theorem wpList_append_sz {P : Program} {w : World} {ops : Array Oper} {rest : List Oper} {o : Oper} {a : Act} {Q : Exit → Act → World → Prop} (hg : o.guard = none) (s x : Operand) (t : TypeId)
    (ho : o.op = .call { callee := .builtin .append, args := #[s, x], argTypes := #[t, t] }) (base : Nat) (e : TypeId) (i : TypeInfo) (z : Value) (size bytes : Nat) (ht : P.underlying t = some (.slice e)) (hi : P.info? e = some i) (hz : i.zero = some z)
    (hsize : i.size = size) (hby : i.bytes = bytes) (hzs : z.cells.size = size) (hsz : 0 < size) (v : Value) (hs : a.eval s = v) (n : Nat) (xs : List Value) (hown : w.ownsRow base e size v n xs)
    (ao : Option Addr) (m c : Nat) (hx : a.eval x = .slice ao m c) (news : List Value) (hnil : ao = none → m = 0 ∧ c = 0) (hl : news.length = m * size) (hnews : SrcAt w ao news) (h1 : ∀ u ∈ news, u.oneCell' = true)
    (h63 : n + m ≤ maxLen) (hbytes : (n + m) * bytes ≤ 140737488355328) (hbase : base ≤ w.heap.size)
    (h : ∀ v' w', w'.ownsRow base e size v' (n + m) (xs ++ news) → w.grownBy w' v.ownBlock → (v'.ownBlock = v.ownBlock ∨ v'.ownBlock = some w.heap.size) → wpList P ops Q rest (a.put o.dst v') w') : wpList P ops Q (o :: rest) a w :=
  wpList_plain hg fun _ hK => wp_append_sz s x t ho base e i z size bytes ht hi hz hsize hby hzs hsz v hs n xs hown ao m c hx news hnil hl hnews h1 h63 hbytes hbase fun v' w' h2 h3 h4 => hK _ _ (h v' w' h2 h3 h4)

/-! ### rows -/
theorem own_ge {W : World} {base : Nat} {e : TypeId} {size n : Nat} {v : Value} {xs : List Value} (h : W.ownsRow base e size v n xs) : ∀ k, v.ownBlock = some k → base ≤ k := fun k hk => (h.lt k hk).1
/-- rows of different element types lie apart -/
theorem own_apart {W : World} {base base' : Nat} {e e' : TypeId} {size size' n n' : Nat} {v v' : Value} {xs xs' : List Value} (h : W.ownsRow base e size v n xs) (h' : W.ownsRow base' e' size' v' n' xs') (hne : e ≠ e') : v.ownBlock = none ∨ v.ownBlock ≠ v'.ownBlock := by
  rcases h.2 with ⟨rfl, _⟩ | ⟨g, cap, cur, rfl, _, hh, _⟩
  · exact .inl rfl
  · right
    rcases h'.2 with ⟨rfl, _⟩ | ⟨g', cap', cur', rfl, _, hh', _⟩
    · simp [Value.ownBlock]
    · simp only [Value.ownBlock, ne_eq, Option.some.injEq]
      rintro rfl
      rw [hh] at hh'
      injection hh' with hh'
      injection hh' with _ h2
      exact hne h2
/-- a block that is known whole -/
def Whole (w : World) (g : Nat) (t : TypeId) (cs : Array Value) : Prop := w.heap[g]? = some (.cells cs t (0, 0))
theorem Whole.lt {w : World} {g : Nat} {t : TypeId} {cs : Array Value} (h : Whole w g t cs) : g < w.heap.size := (Array.getElem?_eq_some_iff.1 h).1
theorem Whole.cell {w : World} {g : Nat} {t : TypeId} {cs : Array Value} (h : Whole w g t cs) (i : Nat) : w.cell? ⟨g, i, none⟩ = cs[i]? := cell_of_row w g i cs t (0, 0) h
theorem Whole.frozen {w : World} {g : Nat} {t : TypeId} {cs : Array Value} (h : Whole w g t cs) (i : Nat) : w.frozen? ⟨g, i, none⟩ = false := by
  unfold Whole at h
  simp [World.frozen?, h]
theorem Whole.new (w : World) (t : TypeId) (cs : Array Value) : Whole (w.alloc (.cells cs t)) w.heap.size t cs := heap_alloc_new w _
theorem Whole.alloc {w : World} {g : Nat} {t : TypeId} {cs : Array Value} (h : Whole w g t cs) (o : Obj) : Whole (w.alloc o) g t cs := (Below.heap_alloc w o g h.lt).trans h
theorem Whole.below {w w' : World} {g B : Nat} {t : TypeId} {cs : Array Value} (h : Whole w g t cs) (hb : Below B w w') (hg : g < B) : Whole w' g t cs := (hb.block g hg).trans h
theorem Whole.grown {w w' : World} {g : Nat} {t : TypeId} {cs : Array Value} {row : Option Nat} (h : Whole w g t cs) (hb : w.grownBy w' row) (hg : some g ≠ row) : Whole w' g t cs := (hb.block g h.lt hg).trans h
theorem Whole.set {w : World} {g : Nat} {t : TypeId} {cs : Array Value} (h : Whole w g t cs) (i : Nat) (u : Value) : Whole (w.setCell ⟨g, i, none⟩ u) g t (cs.setIfInBounds i u) := by
  unfold Whole at h ⊢
  simp [World.setCell, Array.getElem?_modify, h]
theorem Whole.far {w : World} {g : Nat} {t : TypeId} {cs : Array Value} (h : Whole w g t cs) {p : Addr} (hp : g ≠ p.block) (u : Value) : Whole (w.setCell p u) g t cs := (Below.heap_setCell w p u g hp).trans h
theorem own_whole {W : World} {base g : Nat} {e t : TypeId} {size n : Nat} {v : Value} {xs : List Value} {cs : Array Value} (h : W.ownsRow base e size v n xs) (hw : Whole W g t cs) (hne : e ≠ t) : some g ≠ v.ownBlock := by
  rcases h.2 with ⟨rfl, _⟩ | ⟨g', cap, cur, rfl, _, hh, _⟩
  · simp [Value.ownBlock]
  · simp only [Value.ownBlock, ne_eq, Option.some.injEq]
    rintro rfl
    unfold Whole at hw
    rw [hh] at hw
    injection hw with hw
    injection hw with _ h2
    exact hne h2
theorem grown_self (w : World) (a : Addr) (u : Value) : w.grownBy (w.setCell a u) (some a.block) :=
  ⟨rfl, rfl, rfl, by simp [World.setCell], fun k _ hne => Below.heap_setCell w a u k (fun e => hne (by rw [e]))⟩
/-- a store into a block that is known whole leaves a row of another element type -/
theorem own_stored {W : World} {base g i : Nat} {e t : TypeId} {size n : Nat} {v u : Value} {xs : List Value} {cs : Array Value} (h : W.ownsRow base e size v n xs) (hw : Whole W g t cs) (hne : e ≠ t) : (W.setCell ⟨g, i, none⟩ u).ownsRow base e size v n xs :=
  h.kept (grown_self W _ _) (.inr (own_whole h hw hne).symm)

theorem up_whole {W w' : World} {g : Nat} {t : TypeId} {cs : Array Value} (hb : Below W.heap.size W w') (h : Whole W g t cs) : Whole w' g t cs := h.below hb h.lt
theorem up_cell {W w' : World} {p : Addr} {v : Value} (hb : Below W.heap.size W w') (h : W.cell? p = some v) : w'.cell? p = some v := (hb.cell (World.block_lt_of_cell? W p h)).trans h
theorem own_low {W : World} {base base' : Nat} {e : TypeId} {size n : Nat} {v : Value} {xs : List Value} (h : W.ownsRow base e size v n xs) (hb : base' ≤ base) : W.ownsRow base' e size v n xs :=
  ⟨h.1, by
    rcases h.2 with h1 | ⟨g, cap, cur, h1, h2, h3⟩
    · exact .inl h1
    · exact .inr ⟨g, cap, cur, h1, Nat.le_trans hb h2, h3⟩⟩
/-! ### edges -/
/-- the cells of a list of edges -/
def ecells (l : List Edg) : List Value := l.flatMap fun e => [.int .i64 e.1, .int .i64 e.2]
theorem ecells_length : ∀ l : List Edg, (ecells l).length = l.length * 2
  | [] => rfl
  | e :: l => by
    have := ecells_length l
    unfold ecells at this ⊢
    simp only [List.flatMap_cons, List.length_append, List.length_cons, List.length_nil, this]
    omega
theorem ecells_at : ∀ (l : List Edg) (k : Nat), k < l.length → (ecells l)[k * 2]? = some (.int .i64 (edAt l k).1) ∧ (ecells l)[k * 2 + 1]? = some (.int .i64 (edAt l k).2)
  | [], k, h => by simp at h
  | e :: l, 0, _ => ⟨rfl, rfl⟩
  | e :: l, k + 1, h => by
    have := ecells_at l k (by simpa using h)
    have e1 : ecells (e :: l) = .int .i64 e.1 :: .int .i64 e.2 :: ecells l := rfl
    rw [e1, show (k + 1) * 2 = k * 2 + 1 + 1 by omega]
    simp only [List.getElem?_cons_succ]
    exact this
theorem ecells_app (l l' : List Edg) : ecells (l ++ l') = ecells l ++ ecells l' := by simp [ecells]
theorem ecells_one (l : List Edg) : ∀ u ∈ ecells l, u.oneCell' = true := fun u hu => by
  obtain ⟨e, _, h⟩ := List.mem_flatMap.1 hu
  simp at h
  rcases h with rfl | rfl <;> rfl
theorem edges_src {w : World} {a : Option Addr} {l : List Edg} (h : EdgesIn w a l) : SrcAt w a (ecells l) := fun j u hu => by
  have hj : j < (ecells l).length := (List.getElem?_eq_some_iff.1 hu).1
  rw [ecells_length] at hj
  obtain ⟨b, off, rfl, c1, c2⟩ := h (j / 2) (by omega)
  refine ⟨_, rfl, ?_⟩
  rw [add_plainly]
  obtain ⟨h1, h2⟩ := ecells_at l (j / 2) (by omega)
  rcases Nat.mod_two_eq_zero_or_one j with hm | hm
  · rw [show off + j = off + j / 2 * 2 by omega, c1, ← hu, ← h1]
    congr 1
    omega
  · rw [show off + j = off + j / 2 * 2 + 1 by omega, c2, ← hu, ← h2]
    congr 1
    omega
/-- a list of edges in the call's own memory -/
def EdgeOwn (w : World) (base : Nat) (v : Value) (l : List Edg) : Prop := w.ownsRow base 87 2 v l.length (ecells l)
theorem EdgeOwn.arg {w : World} {base : Nat} {v : Value} {l : List Edg} (h : EdgeOwn w base v l) (hl : l.length ≤ 140737488355328) : ∃ a c, v = .slice a l.length c ∧ EdgeArg w a l.length c l := by
  rcases h.2 with ⟨rfl, h0⟩ | ⟨g, cap, cur, rfl, _, hh, hn, hm, hz, ht⟩
  · have e : l = [] := List.length_eq_zero_iff.1 h0
    subst e
    exact ⟨none, 0, rfl, ⟨fun _ => rfl, rfl, Nat.le_refl _, hl, fun k hk => by simp at hk⟩⟩
  · refine ⟨some ⟨g, 0, none⟩, cap, rfl, ⟨(fun h => by cases h), rfl, hn, hl, fun k hk => ⟨g, 0, rfl, ?_⟩⟩⟩
    obtain ⟨h1, h2⟩ := ecells_at l k hk
    have c1 := h.cells (g := g) rfl _ _ h1
    have c2 := h.cells (g := g) rfl _ _ h2
    rw [add_plainly] at c1 c2
    exact ⟨c1, by rw [Nat.add_assoc]; exact c2⟩

/-- the lists of edges of some states in the call's own memory -/
def RowsOwn (w : World) (base : Nat) (v : Value) (ss : List (List Edg)) : Prop :=
  ∃ rows : List Value, rows.length = ss.length ∧ w.ownsRow base 77 1 v ss.length rows ∧ ∀ i, i < ss.length → ∃ r, rows[i]? = some r ∧ EdgeOwn w base r (stAt ss i)
theorem RowsOwn.none (w : World) (base : Nat) : RowsOwn w base (.slice none 0 0) [] := ⟨[], rfl, World.ownsRow_nil _ _ _ _, fun i hi => by simp at hi⟩
theorem row_one {w : World} {base : Nat} {v : Value} {l : List Edg} (h : EdgeOwn w base v l) : v.oneCell' = true := by
  rcases h.2 with ⟨rfl, _⟩ | ⟨g, cap, cur, rfl, _⟩ <;> rfl
theorem EdgeOwn.kept {w w' : World} {base : Nat} {v : Value} {l : List Edg} {row : Option Nat} (h : EdgeOwn w base v l) (hg : w.grownBy w' row) (hne : v.ownBlock = none ∨ v.ownBlock ≠ row) : EdgeOwn w' base v l := World.ownsRow.kept h hg hne
theorem EdgeOwn.alloc {w : World} {base : Nat} {v : Value} {l : List Edg} (h : EdgeOwn w base v l) (o : Obj) : EdgeOwn (w.alloc o) base v l := World.ownsRow.alloc h o
theorem EdgeOwn.below {w w' : World} {base : Nat} {v : Value} {l : List Edg} (h : EdgeOwn w base v l) (hb : Below w.heap.size w w') : EdgeOwn w' base v l :=
  h.kept (row := Option.none) ⟨hb.os, hb.tape, hb.output, hb.size, fun k hk _ => hb.block k hk⟩ (by cases e : v.ownBlock <;> simp)
theorem RowsOwn.kept {w w' : World} {base : Nat} {v : Value} {ss : List (List Edg)} {row : Option Nat} (h : RowsOwn w base v ss) (hg : w.grownBy w' row) (hne : v.ownBlock = Option.none ∨ v.ownBlock ≠ row)
    (hne' : ∀ r l, EdgeOwn w base r l → r.ownBlock = Option.none ∨ r.ownBlock ≠ row) : RowsOwn w' base v ss := by
  obtain ⟨rows, h1, h2, h3⟩ := h
  refine ⟨rows, h1, h2.kept hg hne, fun i hi => ?_⟩
  obtain ⟨r, h4, h5⟩ := h3 i hi
  exact ⟨r, h4, h5.kept hg (hne' r _ h5)⟩
theorem RowsOwn.below {w w' : World} {base : Nat} {v : Value} {ss : List (List Edg)} (h : RowsOwn w base v ss) (hb : Below w.heap.size w w') : RowsOwn w' base v ss :=
  h.kept (row := Option.none) ⟨hb.os, hb.tape, hb.output, hb.size, fun k hk _ => hb.block k hk⟩ (by cases e : v.ownBlock <;> simp) (fun r _ _ => by cases e : r.ownBlock <;> simp)
theorem RowsOwn.alloc {w : World} {base : Nat} {v : Value} {ss : List (List Edg)} (h : RowsOwn w base v ss) (o : Obj) : RowsOwn (w.alloc o) base v ss :=
  h.below ((Below.refl _ w).alloc (Nat.le_refl _) o)
theorem stAt_snoc (ss : List (List Edg)) (l : List Edg) : stAt (ss ++ [l]) ss.length = l := by simp [stAt, List.getD]
theorem stAt_app (ss ss' : List (List Edg)) (i : Nat) (h : i < ss.length) : stAt (ss ++ ss') i = stAt ss i := by simp [stAt, List.getD, List.getElem?_append_left h]
/-- one list more: what an append of its value leaves -/
theorem RowsOwn.snoc {w w' : World} {base : Nat} {v v' r : Value} {ss : List (List Edg)} {l : List Edg} (h : RowsOwn w base v ss) (hr : EdgeOwn w base r l) (hg : w.grownBy w' v.ownBlock)
    (hown : ∀ rows, w.ownsRow base 77 1 v ss.length rows → rows.length = ss.length → w'.ownsRow base 77 1 v' (ss.length + 1) (rows ++ [r])) : RowsOwn w' base v' (ss ++ [l]) := by
  obtain ⟨rows, h1, h2, h3⟩ := h
  have h4 := hown rows h2 h1
  refine ⟨rows ++ [r], by simp [h1], by simpa using h4, fun i hi => ?_⟩
  rw [List.length_append, List.length_singleton] at hi
  by_cases e : i < ss.length
  · obtain ⟨r', h5, h6⟩ := h3 i e
    exact ⟨r', by rw [List.getElem?_append_left (by omega)]; exact h5, by rw [stAt_app _ _ _ e]; exact h6.kept hg (own_apart h6 h2 (by decide))⟩
  · obtain rfl : i = ss.length := by omega
    exact ⟨r, by rw [List.getElem?_append_right (by omega), h1, Nat.sub_self]; rfl, by rw [stAt_snoc]; exact hr.kept hg (own_apart hr h2 (by decide))⟩
theorem RowsOwn.arg {w : World} {base : Nat} {v : Value} {ss : List (List Edg)} (h : RowsOwn w base v ss) (hl : ∀ i, i < ss.length → (stAt ss i).length ≤ 140737488355328) : ∃ b d, v = .slice b ss.length d ∧ ss.length ≤ d ∧ (b = Option.none → d = 0) ∧ RowsIn w b ss := by
  obtain ⟨rows, h1, h2, h3⟩ := h
  rcases h2.2 with ⟨rfl, h0⟩ | ⟨g, cap, cur, rfl, _, hh, hn, hm, hz, ht⟩
  · have e : ss = [] := List.length_eq_zero_iff.1 h0
    subst e
    exact ⟨Option.none, 0, rfl, Nat.le_refl _, fun _ => rfl, fun i hi => by simp at hi⟩
  · refine ⟨some ⟨g, 0, Option.none⟩, cap, rfl, hn, (fun h => by cases h), fun i hi => ⟨g, 0, rfl, ?_⟩⟩
    obtain ⟨r, h4, h5⟩ := h3 i hi
    obtain ⟨a, c, rfl, hE⟩ := h5.arg (hl i hi)
    have c1 := h2.cells (g := g) rfl _ _ h4
    rw [add_plainly] at c1
    exact ⟨a, _, c, c1, hE⟩
/-- a system in the call's own memory -/
structure SysOwn (w : World) (base : Nat) (va vs : Value) (m : Syst) : Prop where
  acts : w.ownsRow base 9 1 va m.acts.length (m.acts.map Value.string)
  rows : RowsOwn w base vs m.states
theorem SysOwn.arg {w : World} {base : Nat} {va vs : Value} {m : Syst} (h : SysOwn w base va vs m) (h1 : m.acts.length ≤ 140737488355328) (h2 : m.states.length ≤ 140737488355328) (h3 : ∀ i, i < m.states.length → (stAt m.states i).length ≤ 140737488355328)
    (hs : ∀ k, k < m.acts.length → (at_ m.acts k).size ≤ 9223372036854775807) : ∃ a c b d, va = .slice a m.acts.length c ∧ vs = .slice b m.states.length d ∧ SysArg w a m.acts.length c b m.states.length d m := by
  obtain ⟨b, d, rfl, hd, hnil, hrows⟩ := h.rows.arg h3
  rcases h.acts.2 with ⟨rfl, h0⟩ | ⟨g, cap, cur, rfl, hg, hh, hc, hm, hz, ht⟩
  · rw [h0]
    exact ⟨Option.none, 0, b, d, rfl, rfl, ⟨⟨fun _ => rfl, h0.symm, Nat.le_refl _, by omega, fun k hk => by omega, fun j hj => by omega⟩, by omega, hnil, rfl, hd, h2, hrows⟩⟩
  · refine ⟨some ⟨g, 0, Option.none⟩, cap, b, d, rfl, rfl, ⟨⟨(fun h => by cases h), rfl, hc, by omega, hs, fun j hj => ⟨g, 0, rfl, ?_⟩⟩, h1, hnil, rfl, hd, h2, hrows⟩⟩
    have h9 := h.acts.cells (g := g) rfl j (.string (m.acts.getD j ByteArray.empty)) (by rw [List.getElem?_map, List.getElem?_eq_getElem hj]; simp [List.getD, hj])
    rw [add_plainly] at h9
    exact h9
end Go.Proofs.YtgnbkepdbdgkdaaGreatDoor
