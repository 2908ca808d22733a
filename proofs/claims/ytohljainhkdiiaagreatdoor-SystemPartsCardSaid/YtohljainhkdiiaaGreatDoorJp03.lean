/- Texts joined: Edge, Sys, Same. -/
import Derived.Test.YtohljainhkdiiaaGreatDoorJp02
import Derived.Deep.RegionHeld3
import Derived.IntWalk
import Derived.Deep.QuietTactic
import Derived.BigQuiet
import Derived.WalkSmall
import Derived.Laws.StructEq
/- Edges in memory; compareEdges, areEdges; the reference's before. -/
namespace Go.Proofs.YtohljainhkdiiaaGreatDoor
open Go.RowKit Pl

/-- a list of edges at an address: two cells for each -/
def EdgesIn (w : World) (a : Option Addr) (l : List Edg) : Prop :=
  ∀ k, k < l.length → ∃ b off, a = some ⟨b, off, none⟩ ∧ w.cell? ⟨b, off + k * 2, none⟩ = some (.int .i64 (edAt l k).1) ∧ w.cell? ⟨b, off + k * 2 + 1, none⟩ = some (.int .i64 (edAt l k).2)
structure EdgeArg (w : World) (a : Option Addr) (n c : Nat) (l : List Edg) : Prop where
  nil : a = none → c = 0
  len : n = l.length
  cap : n ≤ c
  big : n ≤ 140737488355328
  cells : EdgesIn w a l
theorem EdgesIn.below {w w' : World} {a : Option Addr} {l : List Edg} (h : EdgesIn w a l) (hb : Below w.heap.size w w') : EdgesIn w' a l := fun k hk => by
  obtain ⟨b, off, e, h1, h2⟩ := h k hk
  exact ⟨b, off, e, (hb.cell (lt_of_cell h1)).trans h1, (hb.cell (lt_of_cell h2)).trans h2⟩
theorem EdgeArg.below {w w' : World} {a : Option Addr} {n c : Nat} {l : List Edg} (h : EdgeArg w a n c l) (hb : Below w.heap.size w w') : EdgeArg w' a n c l :=
  ⟨h.nil, h.len, h.cap, h.big, h.cells.below hb⟩

def cmpV (a b : Int) : Int := if a < b then -1 else if b < a then 1 else 0
theorem cmpV_lt {a b : Int} (h : a < b) : cmpV a b = -1 := if_pos h
theorem cmpV_gt {a b : Int} (h : b < a) : cmpV a b = 1 := by unfold cmpV; rw [if_neg (by omega), if_pos h]
theorem cmpV_eq {a b : Int} (h : a = b) : cmpV a b = 0 := by unfold cmpV; rw [if_neg (by omega), if_neg (by omega)]
theorem nan_any (a : Int) (w : World) : Calls Tryz.prog 141 #[.int .i64 a] w fun e w' => e = .returned (.bool false) ∧ w = w' := by
  go_enter Tryz.func141, Tryz.ntmps141
  go_wp2
  go_ret
  exact ⟨rfl, rfl⟩
theorem compare_any (a b : Int) (w : World) : Calls Tryz.prog 107 #[.int .i64 a, .int .i64 b] w fun e w' => e = .returned (.int .i64 (cmpV a b)) ∧ w = w' := by
  rcases Int.lt_trichotomy a b with h | h | h
  · have HV := Lib.hid (cmpV_lt h)
    go_enter Tryz.func107, Tryz.ntmps107
    go_wp2_with (go_at_call 141; refine (nan_any _ _).mono ?_; rintro e w' ⟨rfl, rfl⟩)
    go_ret
    exact ⟨by rw [HV.out]; rfl, rfl⟩
  · have HV := Lib.hid (cmpV_eq h)
    subst h
    go_enter Tryz.func107, Tryz.ntmps107
    go_wp2_with (go_at_call 141; refine (nan_any _ _).mono ?_; rintro e w' ⟨rfl, rfl⟩)
    go_ret
    exact ⟨by rw [HV.out]; rfl, rfl⟩
  · have HV := Lib.hid (cmpV_gt h)
    have h' : ¬ a < b := by omega
    go_enter Tryz.func107, Tryz.ntmps107
    go_wp2_with (go_at_call 141; refine (nan_any _ _).mono ?_; rintro e w' ⟨rfl, rfl⟩)
    go_ret
    exact ⟨by rw [HV.out]; rfl, rfl⟩
def orV (a b : Int) : Int := if a = 0 then b else a
theorem or_any (b off : Nat) (x y : Int) (w : World) (hx : w.cell? ⟨b, off, none⟩ = some (.int .i64 x)) (hy : w.cell? ⟨b, off + 1, none⟩ = some (.int .i64 y)) :
    Calls Tryz.prog 106 #[.slice (some ⟨b, off, none⟩) 2 2] w fun e w' => e = .returned (.int .i64 (orV x y)) ∧ w = w' := by
  by_cases hx0 : x = 0
  · have HV : Hid (orV x y = y) := Lib.hid (if_pos hx0)
    subst hx0
    by_cases hy0 : y = 0
    · subst hy0
      go_enter Tryz.func106, Tryz.ntmps106
      go_wp2
      refine wp_loop_rounds 3 ?_
      rw [rounds_succ]
      go_wp2
      rw [rounds_succ]
      go_wp2
      rw [rounds_succ]
      go_wp2
      go_ret
      exact ⟨by rw [HV.out]; rfl, rfl⟩
    · have hy1 : (y != 0) = true := by simpa using hy0
      clear hy0
      go_enter Tryz.func106, Tryz.ntmps106
      go_wp2
      refine wp_loop_rounds 3 ?_
      rw [rounds_succ]
      go_wp2
      rw [rounds_succ]
      go_wp2
      go_ret
      exact ⟨by rw [HV.out]; rfl, rfl⟩
  · have HV : Hid (orV x y = x) := Lib.hid (if_neg hx0)
    have hx1 : (x != 0) = true := by simpa using hx0
    clear hx0
    go_enter Tryz.func106, Tryz.ntmps106
    go_wp2
    refine wp_loop_rounds 3 ?_
    rw [rounds_succ]
    go_wp2
    go_ret
    exact ⟨by rw [HV.out]; rfl, rfl⟩

/-- compareEdges -/
def cmpE (d e : Edg) : Int := orV (cmpV d.1 e.1) (cmpV d.2 e.2)
theorem cmpE_lt (d e : Edg) : cmpE d e < 0 ↔ ltE d e = true := by
  rw [ltE_iff]
  unfold cmpE orV cmpV
  split <;> split <;> (try split) <;> (try split) <;> omega
theorem compareEdges_at (d1 d2 e1 e2 : Int) (w : World) :
    Calls Tryz.prog 75 #[.agg #[.int .i64 d1, .int .i64 d2], .agg #[.int .i64 e1, .int .i64 e2]] w fun e w' => e = .returned (.int .i64 (cmpE (d1, d2) (e1, e2))) ∧
      (((w.alloc (.cells #[.int .i64 d1, .int .i64 d2] 71)).alloc (.cells #[.int .i64 e1, .int .i64 e2] 71)).alloc (.cells #[.int .i64 (cmpV d1 e1), .int .i64 (cmpV d2 e2)] 3)).drew = w' := by
  go_enter Tryz.func75, Tryz.ntmps75
  go_wp2_with fail
  go_region_held3 (fun w' => w'.cell? ⟨w.heap.size, 0, none⟩ = some (.int .i64 d1) ∧ w'.cell? ⟨w.heap.size, 1, none⟩ = some (.int .i64 d2) ∧ w'.cell? ⟨w.heap.size + 1, 0, none⟩ = some (.int .i64 e1) ∧ w'.cell? ⟨w.heap.size + 1, 1, none⟩ = some (.int .i64 e2)) (go_keep)
    (first | (go_at_call 107; refine (compare_any _ _ _).mono ?_; rintro e w' ⟨rfl, rfl⟩) | (go_at_call 106; refine (or_any _ _ (cmpV d1 e1) (cmpV d2 e2) _ ?_ ?_).mono ?_; go_simp; go_simp; rintro e w' ⟨rfl, rfl⟩))
  go_wp2
  go_ret
  exact ⟨rfl, rfl⟩
theorem three_below (w : World) (o1 o2 o3 : Obj) : Below w.heap.size w (((w.alloc o1).alloc o2).alloc o3).drew :=
  ((((Below.refl _ w).alloc (Nat.le_refl _) o1).alloc (by simp) o2).alloc (by simp; omega) o3).drew
theorem compareEdges_any (d1 d2 e1 e2 : Int) (w : World) :
    Calls Tryz.prog 75 #[.agg #[.int .i64 d1, .int .i64 d2], .agg #[.int .i64 e1, .int .i64 e2]] w fun e w' => e = .returned (.int .i64 (cmpE (d1, d2) (e1, e2))) ∧ Below w.heap.size w w' :=
  (compareEdges_at d1 d2 e1 e2 w).mono fun e w' ⟨h1, h2⟩ => ⟨h1, by rw [← h2]; exact three_below w _ _ _⟩

set_option maxHeartbeats 1000000 in
/-- areEdges -/
theorem areEdges_any {w : World} {a : Option Addr} {n c : Nat} {l : List Edg} (na ns : Nat) (_hna : na ≤ 9223372036854775807) (_hns : ns ≤ 9223372036854775807) (A : EdgeArg w a n c l) :
    Calls Tryz.prog 71 #[.slice a n c, .int .i64 na, .int .i64 ns] w fun e w' => e = .returned (.bool (edgesB na ns l)) ∧ Below w.heap.size w w' := by
  have HA := Lib.hid A
  have hbig : n ≤ 9223372036854775807 := by have := A.cap; have := A.big; omega
  clear A
  go_enter Tryz.func71, Tryz.ntmps71
  go_wp2
  go_loopw [7, 8, 11] (fun _ _ i wr => ∃ k : Nat, k ≤ n ∧ i = .int .i64 k ∧ Hid (∀ j, j < k → edgeB na ns l j = true) ∧ Below w.heap.size w wr) (fun _ _ i _ => n - (intOf i).toNat)
  case atStart => exact ⟨0, Nat.zero_le _, rfl, Lib.hid fun j hj => absurd hj (Nat.not_lt_zero _), Below.refl _ _⟩
  case round =>
    obtain ⟨k, hk, rfl, hgood, hb⟩ := hrel
    by_cases hlt : k < n
    · obtain ⟨b, off, rfl, c1, c2⟩ := (HA.out.cells.below hb) k (by have := HA.out.len; omega)
      obtain ⟨x, HX⟩ : ∃ x, Hid ((edAt l k).1 = x) := ⟨_, Lib.hid rfl⟩
      obtain ⟨y, HY⟩ : ∃ y, Hid ((edAt l k).2 = y) := ⟨_, Lib.hid rfl⟩
      rw [HX.out] at c1
      rw [HY.out] at c2
      by_cases hok : okE na ns (x, y) = true
      · have h4 := (okE_iff _ _ _).1 hok
        simp only at h4
        obtain ⟨o1, o2, o3, o4⟩ := h4
        have HO := Lib.hid hok
        clear hok
        by_cases h0 : 0 < k
        · obtain ⟨b', off', e, d1, d2⟩ := (HA.out.cells.below hb) (k - 1) (by have := HA.out.len; omega)
          cases e
          obtain ⟨px, HPX⟩ : ∃ x, Hid ((edAt l (k - 1)).1 = x) := ⟨_, Lib.hid rfl⟩
          obtain ⟨py, HPY⟩ : ∃ y, Hid ((edAt l (k - 1)).2 = y) := ⟨_, Lib.hid rfl⟩
          rw [HPX.out] at d1
          rw [HPY.out] at d2
          obtain ⟨j, rfl⟩ : ∃ j, k = j + 1 := ⟨k - 1, by omega⟩
          simp only [Nat.add_sub_cancel] at d1 d2 HPX HPY
          have hg : decide ((0 : Int) < (j + 1 : Nat)) = true := decide_eq_true (by omega)
          have hk1 : IntKind.i64.wrap (j : Int) = (j : Int) := IntWalk.i64_in _ (by omega)
          have hk2 : (0 : Int) ≤ (j : Int) := by omega
          have hk4 : (j : Int) < n := by omega
          go_wp2
          go_region_held3 (fun w' => w'.cell? ⟨b, off + j * 2, none⟩ = some (.int .i64 px) ∧ w'.cell? ⟨b, off + j * 2 + 1, none⟩ = some (.int .i64 py) ∧ w'.cell? ⟨wr.heap.size, 0, none⟩ = some (.int .i64 x) ∧ w'.cell? ⟨wr.heap.size, 1, none⟩ = some (.int .i64 y)) (simp (maxDischargeDepth := 12) [*, World.cell?_alloc_some])
            (first | (go_at_call 75; refine (compareEdges_at _ _ _ _ _).mono ?_; rintro e w' ⟨rfl, rfl⟩))
          cases hlt2 : ltE (px, py) (x, y)
          · have hc2 : (0 : Int) ≤ cmpE (px, py) (x, y) := by
              rcases Int.lt_or_le (cmpE (px, py) (x, y)) 0 with h | h
              · rw [(cmpE_lt _ _).1 h] at hlt2; cases hlt2
              · exact h
            have HB : Hid (edgesB na ns l = false) := Lib.hid (edgesB_bad (k := j + 1) (by have := HA.out.len; omega) (edgeB_back h0 (by
              have e1 : edAt l (j + 1) = (x, y) := by rw [← HX.out, ← HY.out]
              have e2 : edAt l (j + 1 - 1) = (px, py) := by rw [← HPX.out, ← HPY.out]; rfl
              rw [e1, e2]; exact hlt2)))
            clear hlt2
            go_wp2
            go_ret
            exact ⟨by rw [HB.out]; rfl, (hb.alloc hb.size _).trans ((three_below _ _ _ _).drew.mono (by have := hb.size; simp; omega))⟩
          · have hc2 : cmpE (px, py) (x, y) < 0 := (cmpE_lt _ _).2 hlt2
            have HG : Hid (∀ i, i < j + 1 + 1 → edgeB na ns l i = true) := Lib.hid fun i hi => by
              by_cases e : i = j + 1
              · have e1 : edAt l (j + 1) = (x, y) := by rw [← HX.out, ← HY.out]
                have e2 : edAt l (j + 1 - 1) = (px, py) := by rw [← HPX.out, ← HPY.out]; rfl
                rw [e]
                exact edgeB_next (by rw [e1]; exact HO.out) (by rw [e1, e2]; exact hlt2)
              · exact hgood.out i (by omega)
            clear hlt2
            go_wp2
            go_roundw
            case rel => exact ⟨j + 1 + 1, by omega, by go_num, HG, (hb.alloc hb.size _).trans ((three_below _ _ _ _).drew.mono (by have := hb.size; simp; omega))⟩
            case measure => simp [intOf]; omega
        · have hg : decide ((0 : Int) < k) = false := decide_eq_false (by omega)
          obtain rfl : k = 0 := by omega
          simp only [Nat.zero_mul, Nat.add_zero] at c1 c2
          have HG : Hid (∀ j, j < 0 + 1 → edgeB na ns l j = true) := Lib.hid fun j hj => by
            have e1 : edAt l 0 = (x, y) := by rw [← HX.out, ← HY.out]
            obtain rfl : j = 0 := by omega
            exact edgeB_zero (by rw [e1]; exact HO.out)
          go_wp2
          go_quiet (fail)
          go_wp2
          go_roundw
          case rel => exact ⟨0 + 1, by omega, by go_num, HG, below_drewN (hb.alloc hb.size _) _⟩
          case measure => simp [intOf]; omega
      · have HOK := Lib.hid hok
        clear hok
        have HB : Hid (edgesB na ns l = false) := Lib.hid (edgesB_bad (k := k) (by have := HA.out.len; omega) (edgeB_out (by
          rw [Bool.eq_false_iff]
          intro h
          have e : edAt l k = (x, y) := by rw [← HX.out, ← HY.out]
          rw [e] at h
          exact HOK.out h)))
        go_wp2
        all_goals first
          | (go_ret; exact ⟨by rw [HB.out]; rfl, hb.alloc hb.size _⟩)
          | (exfalso; have h := HOK.out; rw [okE_iff] at h; simp only at h; omega)
    · have HB : Hid (edgesB na ns l = true) := Lib.hid (edgesB_good fun j hj => hgood.out j (by have := HA.out.len; omega))
      go_wp2
      go_ret
      exact ⟨by rw [HB.out]; rfl, hb⟩
end Go.Proofs.YtohljainhkdiiaaGreatDoor
/- A system in memory; the reference's Few; system.Check. -/
namespace Go.Proofs.YtohljainhkdiiaaGreatDoor
open Go.RowKit Pl

/-- the lists of edges of the states -/
def RowsIn (w : World) (b : Option Addr) (ss : List (List Edg)) : Prop :=
  ∀ i, i < ss.length → ∃ bb off, b = some ⟨bb, off, none⟩ ∧ ∃ ai ni ci, w.cell? ⟨bb, off + i, none⟩ = some (.slice ai ni ci) ∧ EdgeArg w ai ni ci (stAt ss i)
theorem RowsIn.below {w w' : World} {b : Option Addr} {ss : List (List Edg)} (h : RowsIn w b ss) (hb : Below w.heap.size w w') : RowsIn w' b ss := fun i hi => by
  obtain ⟨bb, off, e, ai, ni, ci, h1, h2⟩ := h i hi
  exact ⟨bb, off, e, ai, ni, ci, (hb.cell (lt_of_cell h1)).trans h1, h2.below hb⟩
/-- a system as its two slices hold it -/
structure SysArg (w : World) (a : Option Addr) (n c : Nat) (b : Option Addr) (k d : Nat) (m : Syst) : Prop where
  acts : StrArg w a n c m.acts
  abig : n ≤ 140737488355328
  nil : b = none → d = 0
  len : k = m.states.length
  cap : k ≤ d
  big : k ≤ 140737488355328
  rows : RowsIn w b m.states
theorem SysArg.below {w w' : World} {a : Option Addr} {n c : Nat} {b : Option Addr} {k d : Nat} {m : Syst} (h : SysArg w a n c b k d m) (hb : Below w.heap.size w w') : SysArg w' a n c b k d m :=
  ⟨h.acts.below hb, h.abig, h.nil, h.len, h.cap, h.big, h.rows.below hb⟩

theorem fewB_no {m : Syst} {most i : Nat} (h : most < m.acts.length + m.states.length + total (m.states.take i)) : fewB m most = false := by
  have := total_take_le m.states i
  rw [Bool.eq_false_iff, Ne, fewB_iff]; omega
theorem Few_any {w : World} {a : Option Addr} {n c : Nat} {b : Option Addr} {k d : Nat} {m : Syst} (most : Nat) (hm : most ≤ 4611686018427387904) (A : SysArg w a n c b k d m) :
    Calls Tryz.prog 6 #[.agg #[.slice a n c, .slice b k d], .int .i64 most] w fun e w' => e = .returned (.bool (fewB m most)) ∧ w.alloc (.cells #[.slice a n c, .slice b k d] 25) = w' := by
  have HA := Lib.hid A
  have h1 : n ≤ 140737488355328 := A.abig
  have h2 : k ≤ 140737488355328 := by have := A.cap; have := A.big; omega
  have hB := (Below.refl w.heap.size w).alloc (Nat.le_refl _) (.cells #[.slice a n c, .slice b k d] 25)
  have HR := Lib.hid (A.rows.below hB)
  clear A hB
  go_enter Tryz.func6, Tryz.ntmps6
  go_wp2
  go_loop [5, 6] (fun s i => ∃ j t : Nat, j ≤ k ∧ i = .int .i64 j ∧ s = .int .i64 t ∧ Hid (t = m.acts.length + m.states.length + total (m.states.take j)) ∧ t ≤ 4611686018427387904 + 140737488355328) (fun _ i => k - (intOf i).toNat)
  case atStart => exact ⟨0, n + k, Nat.zero_le _, rfl, by go_num, Lib.hid (by have := HA.out.len; have := HA.out.acts.len; simp [total]; omega), by omega⟩
  case round =>
    obtain ⟨j, t, hj, rfl, rfl, ht, htb⟩ := hrel
    by_cases hlt : j < k
    · by_cases hle : t ≤ most
      · obtain ⟨bb, off, rfl, ai, ni, ci, c1, hE⟩ := HR.out j (by have := HA.out.len; omega)
        have h3 : ni ≤ 140737488355328 := by have := hE.cap; have := hE.big; omega
        have HT : Hid (t + ni = m.acts.length + m.states.length + total (m.states.take (j + 1))) := Lib.hid (by
          have := ht.out; have := total_take m.states j (by have := HA.out.len; omega); have := hE.len; omega)
        have HE := Lib.hid hE
        clear hE
        go_wp2
        go_round
        case rel => exact ⟨j + 1, t + ni, by omega, by go_num, by go_num, HT, by omega⟩
        case measure => simp [intOf]; omega
      · have HB := Lib.hid (fewB_no (m := m) (most := most) (i := j) (by have := ht.out; omega))
        go_wp2
        go_ret
        exact ⟨by rw [HB.out]; rfl, rfl⟩
    · have HT : Hid (fewB m most = decide (t ≤ most)) := Lib.hid (by
        have := ht.out
        rw [List.take_of_length_le (by have := HA.out.len; omega)] at this
        rw [this]; rfl)
      by_cases hle : t ≤ most
      · have HB : Hid (fewB m most = true) := Lib.hid (by rw [HT.out]; exact decide_eq_true hle)
        go_wp2
        go_ret
        exact ⟨by rw [HB.out]; rfl, rfl⟩
      · have HB : Hid (fewB m most = false) := Lib.hid (by rw [HT.out]; exact decide_eq_false hle)
        go_wp2
        go_ret
        exact ⟨by rw [HB.out]; rfl, rfl⟩

/-- what Check answers -/
def chk (m : Syst) : Int := if sysB m = true then 0 else 20
theorem chk_yes {m : Syst} (h : sysB m = true) : chk m = 0 := if_pos h
theorem chk_no {m : Syst} (h : sysB m = false) : chk m = 20 := by unfold chk; rw [h]; rfl
set_option maxHeartbeats 1000000 in
/-- system.Check -/
theorem SCheck_any {w : World} {a : Option Addr} {n c : Nat} {b : Option Addr} {k d : Nat} {m : Syst} {e0 e1 e2 : Addr} (E : Errs w e0 e1 e2) (A : SysArg w a n c b k d m) :
    Calls Tryz.prog 30 #[.agg #[.slice a n c, .slice b k d]] w fun e w' => e = .returned (.int .i64 (chk m)) ∧ Below w.heap.size w w' := by
  have hB := (Below.refl w.heap.size w).alloc (Nat.le_refl _) (.cells #[.slice a n c, .slice b k d] 25)
  have HC := Lib.hid (Check_any (E.below hB) (A.acts.below hB))
  have HA := Lib.hid A
  have h1 : n ≤ 140737488355328 := A.abig
  have h2 : k ≤ 140737488355328 := by have := A.cap; have := A.big; omega
  have HR := Lib.hid (A.rows.below hB)
  have HBB := Lib.hid hB
  clear A hB E
  cases ha : actsB m.acts
  · have HB := Lib.hid (chk_no (sysB_acts ha))
    rw [ha] at HC
    clear ha
    go_enter Tryz.func30, Tryz.ntmps30
    go_wp2_with fail
    refine HC.out.mono ?_
    rintro e w' ⟨rfl, rfl⟩
    go_wp2
    go_ret
    exact ⟨by rw [HB.out]; rfl, HBB.out⟩
  · rw [ha] at HC
    have HAC := Lib.hid ha
    clear ha
    by_cases hk : 1 ≤ k ∧ k ≤ 5000
    · obtain ⟨hk1, hk2⟩ := hk
      go_enter Tryz.func30, Tryz.ntmps30
      go_wp2_with fail
      refine HC.out.mono ?_
      rintro e w' ⟨rfl, rfl⟩
      go_wp2
      go_loopw [3, 5, 25] (fun s _ i wr => ∃ j t : Nat, j ≤ k ∧ i = .int .i64 j ∧ s = .int .i64 t ∧ Hid (t = total (m.states.take j) ∧ ∀ x, x < j → edgesB m.acts.length m.states.length (stAt m.states x) = true) ∧ t ≤ 400000 ∧ Below (w.heap.size + 1) (w.alloc (.cells #[.slice a n c, .slice b k d] 25)) wr) (fun _ _ i _ => k - (intOf i).toNat)
      case atStart => exact ⟨0, 0, Nat.zero_le _, rfl, rfl, Lib.hid ⟨by simp [total], fun x hx => by omega⟩, by omega, Below.refl _ _⟩
      case round =>
        obtain ⟨j, t, hj, rfl, rfl, ht, htb, hb⟩ := hrel
        have hb' : Below (w.alloc (.cells #[.slice a n c, .slice b k d] 25)).heap.size (w.alloc (.cells #[.slice a n c, .slice b k d] 25)) wr := hb.mono (by simp)
        by_cases hlt : j < k
        · obtain ⟨bb, off, rfl, ai, ni, ci, c1, hE⟩ := (HR.out.below hb') j (by have := HA.out.len; omega)
          have c2 : wr.cell? ⟨w.heap.size, 0, none⟩ = some (.slice a n c) := by rw [hb'.cell (by simp)]; simp
          have c3 : wr.cell? ⟨w.heap.size, 1, none⟩ = some (.slice (some ⟨bb, off, none⟩) k d) := by rw [hb'.cell (by simp)]; simp
          have h3 : ni ≤ 140737488355328 := by have := hE.cap; have := hE.big; omega
          have HE := Lib.hid (areEdges_any (w := wr) n k (by omega) (by omega) hE)
          have HT : Hid (t + ni = total (m.states.take (j + 1))) := Lib.hid (by
            have := ht.out.1; have := total_take m.states j (by have := HA.out.len; omega); have := hE.len; omega)
          clear hE
          by_cases hle : t + ni ≤ 400000
          · cases hes : edgesB n k (stAt m.states j)
            · have HB := Lib.hid (chk_no (m := m) (sysB_edges j (by have := HA.out.len; omega) (by rw [← HA.out.len, ← HA.out.acts.len]; exact hes)))
              rw [hes] at HE
              clear hes
              go_wp2_with fail
              refine HE.out.mono ?_
              rintro e w1 ⟨rfl, hb1⟩
              go_wp2
              go_ret
              exact ⟨by rw [HB.out]; rfl, (HBB.out.trans (hb'.mono HBB.out.size)).trans (hb1.mono (Nat.le_trans HBB.out.size hb'.size))⟩
            · have HG : Hid (t + ni = total (m.states.take (j + 1)) ∧ ∀ x, x < j + 1 → edgesB m.acts.length m.states.length (stAt m.states x) = true) := Lib.hid ⟨HT.out, fun x hx => by
                by_cases e : x = j
                · rw [e, ← HA.out.len, ← HA.out.acts.len]; exact hes
                · exact ht.out.2 x (by omega)⟩
              rw [hes] at HE
              clear hes
              go_wp2_with fail
              refine HE.out.mono ?_
              rintro e w1 ⟨rfl, hb1⟩
              go_wp2
              go_roundw
              case rel => exact ⟨j + 1, t + ni, by omega, by go_num, by go_num, HG, hle, hb.trans (hb1.mono (by have := hb'.size; simp at this; omega))⟩
              case measure => simp [intOf]; omega
          · have HB := Lib.hid (chk_no (m := m) (sysB_total (by have := HT.out; have := total_take_le m.states (j + 1); omega)))
            go_wp2
            go_ret
            exact ⟨by rw [HB.out]; rfl, HBB.out.trans (hb'.mono HBB.out.size)⟩
        · have HB := Lib.hid (chk_yes (m := m) (sysB_good HAC.out (by have := HA.out.len; omega) (by have := HA.out.len; omega) (fun i hi => ht.out.2 i (by have := HA.out.len; omega)) (by
            have := ht.out.1
            rw [List.take_of_length_le (by have := HA.out.len; omega)] at this
            omega)))
          go_wp2
          go_ret
          exact ⟨by rw [HB.out]; rfl, HBB.out.trans (hb'.mono HBB.out.size)⟩
    · have HB : Hid (chk m = 20) := Lib.hid (by
        by_cases h : k < 1
        · exact chk_no (sysB_few (by have := HA.out.len; omega))
        · exact chk_no (sysB_many (by have := HA.out.len; omega)))
      by_cases hk1 : k < 1
      · go_enter Tryz.func30, Tryz.ntmps30
        go_wp2_with fail
        refine HC.out.mono ?_
        rintro e w' ⟨rfl, rfl⟩
        go_wp2
        go_ret
        exact ⟨by rw [HB.out]; rfl, HBB.out⟩
      · have hk2 : 5000 < k := by omega
        go_enter Tryz.func30, Tryz.ntmps30
        go_wp2_with fail
        refine HC.out.mono ?_
        rintro e w' ⟨rfl, rfl⟩
        go_wp2
        go_ret
        exact ⟨by rw [HB.out]; rfl, HBB.out⟩
end Go.Proofs.YtohljainhkdiiaaGreatDoor
/- The reference's before, SameEdges, Same. -/
namespace Go.Proofs.YtohljainhkdiiaaGreatDoor
open Go.RowKit Pl

theorem before_at (d1 d2 e1 e2 : Int) (w : World) :
    Calls Tryz.prog 32 #[.agg #[.int .i64 d1, .int .i64 d2], .agg #[.int .i64 e1, .int .i64 e2]] w fun e w' => e = .returned (.bool (ltE (d1, d2) (e1, e2))) ∧
      ((w.alloc (.cells #[.int .i64 d1, .int .i64 d2] 71)).alloc (.cells #[.int .i64 e1, .int .i64 e2] 71)) = w' := by
  by_cases h1 : d1 < e1
  · have HV : Hid (ltE (d1, d2) (e1, e2) = true) := Lib.hid ((ltE_iff _ _).2 (.inl h1))
    go_enter Tryz.func32, Tryz.ntmps32
    go_wp2
    all_goals (go_ret; exact ⟨by rw [HV.out]; first | rfl | simp [h1], rfl⟩)
  · by_cases h2 : d1 = e1
    · subst h2
      by_cases h3 : d2 < e2
      · have HV : Hid (ltE (d1, d2) (d1, e2) = true) := Lib.hid ((ltE_iff _ _).2 (.inr ⟨rfl, h3⟩))
        go_enter Tryz.func32, Tryz.ntmps32
        go_wp2
        all_goals (go_ret; exact ⟨by rw [HV.out]; first | rfl | simp [h3], rfl⟩)
      · have HV : Hid (ltE (d1, d2) (d1, e2) = false) := Lib.hid ((ltE_false _ _).2 (.inr ⟨rfl, by simp only; omega⟩))
        go_enter Tryz.func32, Tryz.ntmps32
        go_wp2
        all_goals (go_ret; exact ⟨by rw [HV.out]; first | rfl | (simp; omega), rfl⟩)
    · have HV : Hid (ltE (d1, d2) (e1, e2) = false) := Lib.hid ((ltE_false _ _).2 (.inl (by simp only; omega)))
      have h4 : (d1 == e1) = false := by simpa using h2
      go_enter Tryz.func32, Tryz.ntmps32
      go_wp2
      all_goals (go_ret; exact ⟨by rw [HV.out]; first | rfl | (simp; omega), rfl⟩)

theorem neqE (a b c d : Int) (w : World) : (binOp .neq 71 (.agg #[.int .i64 a, .int .i64 b]) (.agg #[.int .i64 c, .int .i64 d])).run Tryz.prog w = .ok (.bool (!(a == c && b == d))) w := by
  have u3 := Tryz.underlying3
  have a3 := Tryz.isAgg3
  have z3 := Tryz.sizeOf3
  have hS : Tryz.prog.underlying 71 = some (.struct (Tryz.prog.fieldsOf 71)) := by kernel_rfl
  have hp : Tryz.prog.stoodInHeld 71 = false := by kernel_rfl
  rw [run_neq_struct, show (10000 : Nat) = 9999 + 1 from rfl, run_equalIn_agg w 9999 71 _ _ hS hp]
  simp only [Program.fieldsOf, Tryz.underlying71]
  go_simp
  by_cases h1 : a = c <;> by_cases h2 : b = d <;> simp [h1, h2]
theorem guardE (op : BinOp) (x y : Operand) (xs ys : Array Value) (w : World) : (eqGuard op 71 x y (.agg xs) (.agg ys)).run Tryz.prog w = .ok () w := run_eqGuard_agg w op _ x y xs ys (by kernel_rfl)
theorem cell_new {w : World} {p : Addr} {v : Value} (h : w.cell? p = some v) (o : Obj) : (w.alloc o).cell? p = some v := by
  rw [World.cell?_alloc_lt _ _ _ (World.block_lt_of_cell? w p h)]; exact h
theorem edges_ext {l m : List Edg} (h : l.length = m.length) (h' : ∀ k, k < l.length → edAt l k = edAt m k) : l = m := by
  refine List.ext_getElem h fun k hk hk' => ?_
  have := h' k hk
  unfold edAt at this
  rwa [List.getD_eq_getElem?_getD, List.getD_eq_getElem?_getD, List.getElem?_eq_getElem hk, List.getElem?_eq_getElem hk', Option.getD_some, Option.getD_some] at this
set_option maxHeartbeats 1000000 in
/-- SameEdges -/
theorem SameEdges_any {w : World} {a : Option Addr} {n c : Nat} {l : List Edg} {a' : Option Addr} {n' c' : Nat} {l' : List Edg} (A : EdgeArg w a n c l) (A' : EdgeArg w a' n' c' l') :
    Calls Tryz.prog 41 #[.slice a n c, .slice a' n' c'] w fun e w' => e = .returned (.bool (decide (l = l'))) ∧ Below w.heap.size w w' := by
  have HA := Lib.hid A
  have HA' := Lib.hid A'
  have h1 : n ≤ 140737488355328 := by have := A.cap; have := A.big; omega
  have h2 : n' ≤ 140737488355328 := by have := A'.cap; have := A'.big; omega
  clear A A'
  by_cases hl : n = n'
  · subst hl
    go_enter Tryz.func41, Tryz.ntmps41
    go_wp2
    go_loopw [5, 6, 14] (fun _ _ i wr => ∃ k : Nat, k ≤ n ∧ i = .int .i64 k ∧ Hid (∀ j, j < k → edAt l j = edAt l' j) ∧ Below w.heap.size w wr) (fun _ _ i _ => n - (intOf i).toNat)
    case atStart => exact ⟨0, Nat.zero_le _, rfl, Lib.hid fun j hj => absurd hj (Nat.not_lt_zero _), Below.refl _ _⟩
    case round =>
      obtain ⟨k, hk, rfl, hgood, hb⟩ := hrel
      by_cases hlt : k < n
      · obtain ⟨b, off, rfl, c1, c2⟩ := (HA.out.cells.below hb) k (by have := HA.out.len; omega)
        obtain ⟨b', off', rfl, d1, d2⟩ := (HA'.out.cells.below hb) k (by have := HA'.out.len; omega)
        obtain ⟨x, HX⟩ : ∃ x, Hid ((edAt l k).1 = x) := ⟨_, Lib.hid rfl⟩
        obtain ⟨y, HY⟩ : ∃ y, Hid ((edAt l k).2 = y) := ⟨_, Lib.hid rfl⟩
        obtain ⟨x', HX'⟩ : ∃ x, Hid ((edAt l' k).1 = x) := ⟨_, Lib.hid rfl⟩
        obtain ⟨y', HY'⟩ : ∃ y, Hid ((edAt l' k).2 = y) := ⟨_, Lib.hid rfl⟩
        rw [HX.out] at c1
        rw [HY.out] at c2
        rw [HX'.out] at d1
        rw [HY'.out] at d2
        have hgd := guardE .neq
        have D1 := cell_new d1
        have D2 := cell_new d2
        by_cases he : (x, y) = (x', y')
        · obtain ⟨rfl, rfl⟩ := Prod.mk.inj he
          have hne := neqE x y x y
          rw [show (!(x == x && y == y)) = false by simp] at hne
          have HG : Hid (∀ j, j < k + 1 → edAt l j = edAt l' j) := Lib.hid fun j hj => by
            by_cases e : j = k
            · rw [e]; exact Prod.ext (HX.out.trans HX'.out.symm) (HY.out.trans HY'.out.symm)
            · exact hgood.out j (by omega)
          clear he
          go_wp2
          go_quiet (fail)
          go_wp2
          go_roundw
          case rel => exact ⟨k + 1, by omega, by go_num, HG, below_drewN (hb.alloc hb.size _) _⟩
          case measure => simp [intOf]; omega
        · have hne := neqE x y x' y'
          rw [show (!(x == x' && y == y')) = true by
            by_cases h1 : x = x'
            · have h2 : y ≠ y' := fun h => he (by rw [h1, h])
              simp [h2]
            · simp [h1]] at hne
          have HE : Hid (l ≠ l') := Lib.hid fun e => he (by rw [← HX.out, ← HY.out, ← HX'.out, ← HY'.out, e])
          clear he
          go_wp2
          go_quiet (fail)
          go_wp2
          go_ret
          exact ⟨by rw [decide_eq_false HE.out]; rfl, below_drewN (hb.alloc hb.size _) _⟩
      · have HB : Hid (l = l') := Lib.hid (edges_ext (by have := HA.out.len; have := HA'.out.len; omega) fun j hj => hgood.out j (by have := HA.out.len; omega))
        go_wp2
        go_ret
        exact ⟨by rw [decide_eq_true HB.out]; rfl, hb⟩
  · have hq : ((n : Int) != n') = true := by rw [bne_iff_ne]; omega
    have HE : Hid (l ≠ l') := Lib.hid fun e => hl (by rw [HA.out.len, HA'.out.len, e])
    clear hl
    go_enter Tryz.func41, Tryz.ntmps41
    go_wp2
    go_ret
    exact ⟨by rw [decide_eq_false HE.out]; rfl, Below.refl _ _⟩
end Go.Proofs.YtohljainhkdiiaaGreatDoor
