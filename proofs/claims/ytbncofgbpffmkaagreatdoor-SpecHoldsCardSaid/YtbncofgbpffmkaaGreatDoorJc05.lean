/- Texts joined: Sys, Same, Same2. -/
import Derived.Test.YtbncofgbpffmkaaGreatDoorJc04
import Derived.Laws.StructEq
/- A system in memory; the reference's Few; system.Check. -/
namespace Go.Proofs.YtbncofgbpffmkaaGreatDoor
open Go.RowKit Pl

/-- the lists of edges of the states -/
def RowsIn (w : World) (b : Option Addr) (ss : List (List Edg)) : Prop :=
  ∀ i, i < ss.length → ∃ bb off, b = some ⟨bb, off, none⟩ ∧ ∃ ai ni ci, w.cell? ⟨bb, off + i, none⟩ = some (.slice ai ni ci) ∧ EdgeArg w ai ni ci (stAt ss i)
theorem RowsIn.below {w w' : World} {b : Option Addr} {ss : List (List Edg)} (h : RowsIn w b ss) (hb : Below w.heap.size w w') : RowsIn w' b ss := fun i hi => by
  obtain ⟨bb, off, e, ai, ni, ci, h1, h2⟩ := h i hi
  exact ⟨bb, off, e, ai, ni, ci, (hb.cell (lt_of_cell h1)).trans h1, h2.below hb⟩
/-- a system as its two slices hold it -/
structure SysArg (w : World) (a : Option Addr) (n c : Nat) (b : Option Addr) (k d : Nat) (m : Syst) : Prop where
  acts : StrArg w a n c m.acts
  abig : n ≤ 140737488355328
  nil : b = none → d = 0
  len : k = m.states.length
  cap : k ≤ d
  big : k ≤ 140737488355328
  rows : RowsIn w b m.states
theorem SysArg.below {w w' : World} {a : Option Addr} {n c : Nat} {b : Option Addr} {k d : Nat} {m : Syst} (h : SysArg w a n c b k d m) (hb : Below w.heap.size w w') : SysArg w' a n c b k d m :=
  ⟨h.acts.below hb, h.abig, h.nil, h.len, h.cap, h.big, h.rows.below hb⟩

theorem fewB_no {m : Syst} {most i : Nat} (h : most < m.acts.length + m.states.length + total (m.states.take i)) : fewB m most = false := by
  have := total_take_le m.states i
  rw [Bool.eq_false_iff, Ne, fewB_iff]; omega
theorem Few_any {w : World} {a : Option Addr} {n c : Nat} {b : Option Addr} {k d : Nat} {m : Syst} (most : Nat) (hm : most ≤ 4611686018427387904) (A : SysArg w a n c b k d m) :
    Calls Tryz.prog 4 #[.agg #[.slice a n c, .slice b k d], .int .i64 most] w fun e w' => e = .returned (.bool (fewB m most)) ∧ w.alloc (.cells #[.slice a n c, .slice b k d] 25) = w' := by
  have HA := Lib.hid A
  have h1 : n ≤ 140737488355328 := A.abig
  have h2 : k ≤ 140737488355328 := by have := A.cap; have := A.big; omega
  have hB := (Below.refl w.heap.size w).alloc (Nat.le_refl _) (.cells #[.slice a n c, .slice b k d] 25)
  have HR := Lib.hid (A.rows.below hB)
  clear A hB
  go_enter Tryz.func4, Tryz.ntmps4
  go_wp2
  go_loop [5, 6] (fun s i => ∃ j t : Nat, j ≤ k ∧ i = .int .i64 j ∧ s = .int .i64 t ∧ Hid (t = m.acts.length + m.states.length + total (m.states.take j)) ∧ t ≤ 4611686018427387904 + 140737488355328) (fun _ i => k - (intOf i).toNat)
  case atStart => exact ⟨0, n + k, Nat.zero_le _, rfl, by go_num, Lib.hid (by have := HA.out.len; have := HA.out.acts.len; simp [total]; omega), by omega⟩
  case round =>
    obtain ⟨j, t, hj, rfl, rfl, ht, htb⟩ := hrel
    by_cases hlt : j < k
    · by_cases hle : t ≤ most
      · obtain ⟨bb, off, rfl, ai, ni, ci, c1, hE⟩ := HR.out j (by have := HA.out.len; omega)
        have h3 : ni ≤ 140737488355328 := by have := hE.cap; have := hE.big; omega
        have HT : Hid (t + ni = m.acts.length + m.states.length + total (m.states.take (j + 1))) := Lib.hid (by
          have := ht.out; have := total_take m.states j (by have := HA.out.len; omega); have := hE.len; omega)
        have HE := Lib.hid hE
        clear hE
        go_wp2
        go_round
        case rel => exact ⟨j + 1, t + ni, by omega, by go_num, by go_num, HT, by omega⟩
        case measure => simp [intOf]; omega
      · have HB := Lib.hid (fewB_no (m := m) (most := most) (i := j) (by have := ht.out; omega))
        go_wp2
        go_ret
        exact ⟨by rw [HB.out]; rfl, rfl⟩
    · have HT : Hid (fewB m most = decide (t ≤ most)) := Lib.hid (by
        have := ht.out
        rw [List.take_of_length_le (by have := HA.out.len; omega)] at this
        rw [this]; rfl)
      by_cases hle : t ≤ most
      · have HB : Hid (fewB m most = true) := Lib.hid (by rw [HT.out]; exact decide_eq_true hle)
        go_wp2
        go_ret
        exact ⟨by rw [HB.out]; rfl, rfl⟩
      · have HB : Hid (fewB m most = false) := Lib.hid (by rw [HT.out]; exact decide_eq_false hle)
        go_wp2
        go_ret
        exact ⟨by rw [HB.out]; rfl, rfl⟩

/-- what Check answers -/
def chk (m : Syst) : Int := if sysB m = true then 0 else 20
theorem chk_yes {m : Syst} (h : sysB m = true) : chk m = 0 := if_pos h
theorem chk_no {m : Syst} (h : sysB m = false) : chk m = 20 := by unfold chk; rw [h]; rfl
set_option maxHeartbeats 1000000 in
/-- system.Check -/
theorem SCheck_any {w : World} {a : Option Addr} {n c : Nat} {b : Option Addr} {k d : Nat} {m : Syst} {e0 e1 e2 : Addr} (E : Errs w e0 e1 e2) (A : SysArg w a n c b k d m) :
    Calls Tryz.prog 35 #[.agg #[.slice a n c, .slice b k d]] w fun e w' => e = .returned (.int .i64 (chk m)) ∧ Below w.heap.size w w' := by
  have hB := (Below.refl w.heap.size w).alloc (Nat.le_refl _) (.cells #[.slice a n c, .slice b k d] 25)
  have HC := Lib.hid (Check_any (E.below hB) (A.acts.below hB))
  have HA := Lib.hid A
  have h1 : n ≤ 140737488355328 := A.abig
  have h2 : k ≤ 140737488355328 := by have := A.cap; have := A.big; omega
  have HR := Lib.hid (A.rows.below hB)
  have HBB := Lib.hid hB
  clear A hB E
  cases ha : actsB m.acts
  · have HB := Lib.hid (chk_no (sysB_acts ha))
    rw [ha] at HC
    clear ha
    go_enter Tryz.func35, Tryz.ntmps35
    go_wp2_with fail
    refine HC.out.mono ?_
    rintro e w' ⟨rfl, rfl⟩
    go_wp2
    go_ret
    exact ⟨by rw [HB.out]; rfl, HBB.out⟩
  · rw [ha] at HC
    have HAC := Lib.hid ha
    clear ha
    by_cases hk : 1 ≤ k ∧ k ≤ 5000
    · obtain ⟨hk1, hk2⟩ := hk
      go_enter Tryz.func35, Tryz.ntmps35
      go_wp2_with fail
      refine HC.out.mono ?_
      rintro e w' ⟨rfl, rfl⟩
      go_wp2
      go_loopw [3, 5, 25] (fun s _ i wr => ∃ j t : Nat, j ≤ k ∧ i = .int .i64 j ∧ s = .int .i64 t ∧ Hid (t = total (m.states.take j) ∧ ∀ x, x < j → edgesB m.acts.length m.states.length (stAt m.states x) = true) ∧ t ≤ 400000 ∧ Below (w.heap.size + 1) (w.alloc (.cells #[.slice a n c, .slice b k d] 25)) wr) (fun _ _ i _ => k - (intOf i).toNat)
      case atStart => exact ⟨0, 0, Nat.zero_le _, rfl, rfl, Lib.hid ⟨by simp [total], fun x hx => by omega⟩, by omega, Below.refl _ _⟩
      case round =>
        obtain ⟨j, t, hj, rfl, rfl, ht, htb, hb⟩ := hrel
        have hb' : Below (w.alloc (.cells #[.slice a n c, .slice b k d] 25)).heap.size (w.alloc (.cells #[.slice a n c, .slice b k d] 25)) wr := hb.mono (by simp)
        by_cases hlt : j < k
        · obtain ⟨bb, off, rfl, ai, ni, ci, c1, hE⟩ := (HR.out.below hb') j (by have := HA.out.len; omega)
          have c2 : wr.cell? ⟨w.heap.size, 0, none⟩ = some (.slice a n c) := by rw [hb'.cell (by simp)]; simp
          have c3 : wr.cell? ⟨w.heap.size, 1, none⟩ = some (.slice (some ⟨bb, off, none⟩) k d) := by rw [hb'.cell (by simp)]; simp
          have h3 : ni ≤ 140737488355328 := by have := hE.cap; have := hE.big; omega
          have HE := Lib.hid (areEdges_any (w := wr) n k (by omega) (by omega) hE)
          have HT : Hid (t + ni = total (m.states.take (j + 1))) := Lib.hid (by
            have := ht.out.1; have := total_take m.states j (by have := HA.out.len; omega); have := hE.len; omega)
          clear hE
          by_cases hle : t + ni ≤ 400000
          · cases hes : edgesB n k (stAt m.states j)
            · have HB := Lib.hid (chk_no (m := m) (sysB_edges j (by have := HA.out.len; omega) (by rw [← HA.out.len, ← HA.out.acts.len]; exact hes)))
              rw [hes] at HE
              clear hes
              go_wp2_with fail
              refine HE.out.mono ?_
              rintro e w1 ⟨rfl, hb1⟩
              go_wp2
              go_ret
              exact ⟨by rw [HB.out]; rfl, (HBB.out.trans (hb'.mono HBB.out.size)).trans (hb1.mono (Nat.le_trans HBB.out.size hb'.size))⟩
            · have HG : Hid (t + ni = total (m.states.take (j + 1)) ∧ ∀ x, x < j + 1 → edgesB m.acts.length m.states.length (stAt m.states x) = true) := Lib.hid ⟨HT.out, fun x hx => by
                by_cases e : x = j
                · rw [e, ← HA.out.len, ← HA.out.acts.len]; exact hes
                · exact ht.out.2 x (by omega)⟩
              rw [hes] at HE
              clear hes
              go_wp2_with fail
              refine HE.out.mono ?_
              rintro e w1 ⟨rfl, hb1⟩
              go_wp2
              go_roundw
              case rel => exact ⟨j + 1, t + ni, by omega, by go_num, by go_num, HG, hle, hb.trans (hb1.mono (by have := hb'.size; simp at this; omega))⟩
              case measure => simp [intOf]; omega
          · have HB := Lib.hid (chk_no (m := m) (sysB_total (by have := HT.out; have := total_take_le m.states (j + 1); omega)))
            go_wp2
            go_ret
            exact ⟨by rw [HB.out]; rfl, HBB.out.trans (hb'.mono HBB.out.size)⟩
        · have HB := Lib.hid (chk_yes (m := m) (sysB_good HAC.out (by have := HA.out.len; omega) (by have := HA.out.len; omega) (fun i hi => ht.out.2 i (by have := HA.out.len; omega)) (by
            have := ht.out.1
            rw [List.take_of_length_le (by have := HA.out.len; omega)] at this
            omega)))
          go_wp2
          go_ret
          exact ⟨by rw [HB.out]; rfl, HBB.out.trans (hb'.mono HBB.out.size)⟩
    · have HB : Hid (chk m = 20) := Lib.hid (by
        by_cases h : k < 1
        · exact chk_no (sysB_few (by have := HA.out.len; omega))
        · exact chk_no (sysB_many (by have := HA.out.len; omega)))
      by_cases hk1 : k < 1
      · go_enter Tryz.func35, Tryz.ntmps35
        go_wp2_with fail
        refine HC.out.mono ?_
        rintro e w' ⟨rfl, rfl⟩
        go_wp2
        go_ret
        exact ⟨by rw [HB.out]; rfl, HBB.out⟩
      · have hk2 : 5000 < k := by omega
        go_enter Tryz.func35, Tryz.ntmps35
        go_wp2_with fail
        refine HC.out.mono ?_
        rintro e w' ⟨rfl, rfl⟩
        go_wp2
        go_ret
        exact ⟨by rw [HB.out]; rfl, HBB.out⟩
end Go.Proofs.YtbncofgbpffmkaaGreatDoor
/- The reference's before, SameEdges, Same. -/
namespace Go.Proofs.YtbncofgbpffmkaaGreatDoor
open Go.RowKit Pl

theorem before_at (d1 d2 e1 e2 : Int) (w : World) :
    Calls Tryz.prog 31 #[.agg #[.int .i64 d1, .int .i64 d2], .agg #[.int .i64 e1, .int .i64 e2]] w fun e w' => e = .returned (.bool (ltE (d1, d2) (e1, e2))) ∧
      ((w.alloc (.cells #[.int .i64 d1, .int .i64 d2] 58)).alloc (.cells #[.int .i64 e1, .int .i64 e2] 58)) = w' := by
  by_cases h1 : d1 < e1
  · have HV : Hid (ltE (d1, d2) (e1, e2) = true) := Lib.hid ((ltE_iff _ _).2 (.inl h1))
    go_enter Tryz.func31, Tryz.ntmps31
    go_wp2
    all_goals (go_ret; exact ⟨by rw [HV.out]; first | rfl | simp [h1], rfl⟩)
  · by_cases h2 : d1 = e1
    · subst h2
      by_cases h3 : d2 < e2
      · have HV : Hid (ltE (d1, d2) (d1, e2) = true) := Lib.hid ((ltE_iff _ _).2 (.inr ⟨rfl, h3⟩))
        go_enter Tryz.func31, Tryz.ntmps31
        go_wp2
        all_goals (go_ret; exact ⟨by rw [HV.out]; first | rfl | simp [h3], rfl⟩)
      · have HV : Hid (ltE (d1, d2) (d1, e2) = false) := Lib.hid ((ltE_false _ _).2 (.inr ⟨rfl, by simp only; omega⟩))
        go_enter Tryz.func31, Tryz.ntmps31
        go_wp2
        all_goals (go_ret; exact ⟨by rw [HV.out]; first | rfl | (simp; omega), rfl⟩)
    · have HV : Hid (ltE (d1, d2) (e1, e2) = false) := Lib.hid ((ltE_false _ _).2 (.inl (by simp only; omega)))
      have h4 : (d1 == e1) = false := by simpa using h2
      go_enter Tryz.func31, Tryz.ntmps31
      go_wp2
      all_goals (go_ret; exact ⟨by rw [HV.out]; first | rfl | (simp; omega), rfl⟩)

theorem neqE (a b c d : Int) (w : World) : (binOp .neq 58 (.agg #[.int .i64 a, .int .i64 b]) (.agg #[.int .i64 c, .int .i64 d])).run Tryz.prog w = .ok (.bool (!(a == c && b == d))) w := by
  have u3 := Tryz.underlying3
  have a3 := Tryz.isAgg3
  have z3 := Tryz.sizeOf3
  have hS : Tryz.prog.underlying 58 = some (.struct (Tryz.prog.fieldsOf 58)) := by kernel_rfl
  have hp : Tryz.prog.stoodInHeld 58 = false := by kernel_rfl
  rw [run_neq_struct, show (10000 : Nat) = 9999 + 1 from rfl, run_equalIn_agg w 9999 58 _ _ hS hp]
  simp only [Program.fieldsOf, Tryz.underlying58]
  go_simp
  by_cases h1 : a = c <;> by_cases h2 : b = d <;> simp [h1, h2]
theorem guardE (op : BinOp) (x y : Operand) (xs ys : Array Value) (w : World) : (eqGuard op 58 x y (.agg xs) (.agg ys)).run Tryz.prog w = .ok () w := run_eqGuard_agg w op _ x y xs ys (by kernel_rfl)
theorem cell_new {w : World} {p : Addr} {v : Value} (h : w.cell? p = some v) (o : Obj) : (w.alloc o).cell? p = some v := by
  rw [World.cell?_alloc_lt _ _ _ (World.block_lt_of_cell? w p h)]; exact h
theorem edges_ext {l m : List Edg} (h : l.length = m.length) (h' : ∀ k, k < l.length → edAt l k = edAt m k) : l = m := by
  refine List.ext_getElem h fun k hk hk' => ?_
  have := h' k hk
  unfold edAt at this
  rwa [List.getD_eq_getElem?_getD, List.getD_eq_getElem?_getD, List.getElem?_eq_getElem hk, List.getElem?_eq_getElem hk', Option.getD_some, Option.getD_some] at this
end Go.Proofs.YtbncofgbpffmkaaGreatDoor
/- The reference's Same. -/
namespace Go.Proofs.YtbncofgbpffmkaaGreatDoor
open Go.RowKit Pl

theorem states_ext {l m : List (List Edg)} (h : l.length = m.length) (h' : ∀ k, k < l.length → stAt l k = stAt m k) : l = m := by
  refine List.ext_getElem h fun k hk hk' => ?_
  have := h' k hk
  unfold stAt at this
  rwa [List.getD_eq_getElem?_getD, List.getD_eq_getElem?_getD, List.getElem?_eq_getElem hk, List.getElem?_eq_getElem hk', Option.getD_some, Option.getD_some] at this
/-- two systems are equal -/
def sameB (m m' : Syst) : Bool := decide (m.acts = m'.acts) && decide (m.states = m'.states)
theorem sameB_iff (m m' : Syst) : sameB m m' = true ↔ m = m' := by
  cases m; cases m'; simp [sameB]
end Go.Proofs.YtbncofgbpffmkaaGreatDoor
