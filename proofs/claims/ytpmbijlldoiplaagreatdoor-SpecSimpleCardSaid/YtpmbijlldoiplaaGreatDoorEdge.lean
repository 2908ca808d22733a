/- Edges in memory; compareEdges, areEdges; the reference's before. -/
import Derived.Test.YtpmbijlldoiplaaGreatDoorCheck
import Derived.Test.YtpmbijlldoiplaaGreatDoorSysPl
import Derived.Deep.RegionHeld3
import Derived.IntWalk
import Derived.Deep.QuietTactic
import Derived.BigQuiet
import Derived.WalkSmall
namespace Go.Proofs.YtpmbijlldoiplaaGreatDoor
open Go.RowKit Pl

/-- a list of edges at an address: two cells for each -/
def EdgesIn (w : World) (a : Option Addr) (l : List Edg) : Prop :=
  ∀ k, k < l.length → ∃ b off, a = some ⟨b, off, none⟩ ∧ w.cell? ⟨b, off + k * 2, none⟩ = some (.int .i64 (edAt l k).1) ∧ w.cell? ⟨b, off + k * 2 + 1, none⟩ = some (.int .i64 (edAt l k).2)
structure EdgeArg (w : World) (a : Option Addr) (n c : Nat) (l : List Edg) : Prop where
  nil : a = none → c = 0
  len : n = l.length
  cap : n ≤ c
  big : n ≤ 140737488355328
  cells : EdgesIn w a l
theorem EdgesIn.below {w w' : World} {a : Option Addr} {l : List Edg} (h : EdgesIn w a l) (hb : Below w.heap.size w w') : EdgesIn w' a l := fun k hk => by
  obtain ⟨b, off, e, h1, h2⟩ := h k hk
  exact ⟨b, off, e, (hb.cell (lt_of_cell h1)).trans h1, (hb.cell (lt_of_cell h2)).trans h2⟩
theorem EdgeArg.below {w w' : World} {a : Option Addr} {n c : Nat} {l : List Edg} (h : EdgeArg w a n c l) (hb : Below w.heap.size w w') : EdgeArg w' a n c l :=
  ⟨h.nil, h.len, h.cap, h.big, h.cells.below hb⟩

def cmpV (a b : Int) : Int := if a < b then -1 else if b < a then 1 else 0
theorem cmpV_lt {a b : Int} (h : a < b) : cmpV a b = -1 := if_pos h
theorem cmpV_gt {a b : Int} (h : b < a) : cmpV a b = 1 := by unfold cmpV; rw [if_neg (by omega), if_pos h]
theorem cmpV_eq {a b : Int} (h : a = b) : cmpV a b = 0 := by unfold cmpV; rw [if_neg (by omega), if_neg (by omega)]
theorem nan_any (a : Int) (w : World) : Calls Tryz.prog 170 #[.int .i64 a] w fun e w' => e = .returned (.bool false) ∧ w = w' := by
  go_enter Tryz.func170, Tryz.ntmps170
  go_wp2
  go_ret
  exact ⟨rfl, rfl⟩
theorem compare_any (a b : Int) (w : World) : Calls Tryz.prog 138 #[.int .i64 a, .int .i64 b] w fun e w' => e = .returned (.int .i64 (cmpV a b)) ∧ w = w' := by
  rcases Int.lt_trichotomy a b with h | h | h
  · have HV := Lib.hid (cmpV_lt h)
    go_enter Tryz.func138, Tryz.ntmps138
    go_wp2_with (go_at_call 170; refine (nan_any _ _).mono ?_; rintro e w' ⟨rfl, rfl⟩)
    go_ret
    exact ⟨by rw [HV.out]; rfl, rfl⟩
  · have HV := Lib.hid (cmpV_eq h)
    subst h
    go_enter Tryz.func138, Tryz.ntmps138
    go_wp2_with (go_at_call 170; refine (nan_any _ _).mono ?_; rintro e w' ⟨rfl, rfl⟩)
    go_ret
    exact ⟨by rw [HV.out]; rfl, rfl⟩
  · have HV := Lib.hid (cmpV_gt h)
    have h' : ¬ a < b := by omega
    go_enter Tryz.func138, Tryz.ntmps138
    go_wp2_with (go_at_call 170; refine (nan_any _ _).mono ?_; rintro e w' ⟨rfl, rfl⟩)
    go_ret
    exact ⟨by rw [HV.out]; rfl, rfl⟩
def orV (a b : Int) : Int := if a = 0 then b else a
theorem or_any (b off : Nat) (x y : Int) (w : World) (hx : w.cell? ⟨b, off, none⟩ = some (.int .i64 x)) (hy : w.cell? ⟨b, off + 1, none⟩ = some (.int .i64 y)) :
    Calls Tryz.prog 137 #[.slice (some ⟨b, off, none⟩) 2 2] w fun e w' => e = .returned (.int .i64 (orV x y)) ∧ w = w' := by
  by_cases hx0 : x = 0
  · have HV : Hid (orV x y = y) := Lib.hid (if_pos hx0)
    subst hx0
    by_cases hy0 : y = 0
    · subst hy0
      go_enter Tryz.func137, Tryz.ntmps137
      go_wp2
      refine wp_loop_rounds 3 ?_
      rw [rounds_succ]
      go_wp2
      rw [rounds_succ]
      go_wp2
      rw [rounds_succ]
      go_wp2
      go_ret
      exact ⟨by rw [HV.out]; rfl, rfl⟩
    · have hy1 : (y != 0) = true := by simpa using hy0
      clear hy0
      go_enter Tryz.func137, Tryz.ntmps137
      go_wp2
      refine wp_loop_rounds 3 ?_
      rw [rounds_succ]
      go_wp2
      rw [rounds_succ]
      go_wp2
      go_ret
      exact ⟨by rw [HV.out]; rfl, rfl⟩
  · have HV : Hid (orV x y = x) := Lib.hid (if_neg hx0)
    have hx1 : (x != 0) = true := by simpa using hx0
    clear hx0
    go_enter Tryz.func137, Tryz.ntmps137
    go_wp2
    refine wp_loop_rounds 3 ?_
    rw [rounds_succ]
    go_wp2
    go_ret
    exact ⟨by rw [HV.out]; rfl, rfl⟩

/-- compareEdges -/
def cmpE (d e : Edg) : Int := orV (cmpV d.1 e.1) (cmpV d.2 e.2)
theorem cmpE_lt (d e : Edg) : cmpE d e < 0 ↔ ltE d e = true := by
  rw [ltE_iff]
  unfold cmpE orV cmpV
  split <;> split <;> (try split) <;> (try split) <;> omega
theorem compareEdges_at (d1 d2 e1 e2 : Int) (w : World) :
    Calls Tryz.prog 101 #[.agg #[.int .i64 d1, .int .i64 d2], .agg #[.int .i64 e1, .int .i64 e2]] w fun e w' => e = .returned (.int .i64 (cmpE (d1, d2) (e1, e2))) ∧
      (((w.alloc (.cells #[.int .i64 d1, .int .i64 d2] 85)).alloc (.cells #[.int .i64 e1, .int .i64 e2] 85)).alloc (.cells #[.int .i64 (cmpV d1 e1), .int .i64 (cmpV d2 e2)] 3)).drew = w' := by
  go_enter Tryz.func101, Tryz.ntmps101
  go_wp2_with fail
  go_region_held3 (fun w' => w'.cell? ⟨w.heap.size, 0, none⟩ = some (.int .i64 d1) ∧ w'.cell? ⟨w.heap.size, 1, none⟩ = some (.int .i64 d2) ∧ w'.cell? ⟨w.heap.size + 1, 0, none⟩ = some (.int .i64 e1) ∧ w'.cell? ⟨w.heap.size + 1, 1, none⟩ = some (.int .i64 e2)) (go_keep)
    (first | (go_at_call 138; refine (compare_any _ _ _).mono ?_; rintro e w' ⟨rfl, rfl⟩) | (go_at_call 137; refine (or_any _ _ (cmpV d1 e1) (cmpV d2 e2) _ ?_ ?_).mono ?_; go_simp; go_simp; rintro e w' ⟨rfl, rfl⟩))
  go_wp2
  go_ret
  exact ⟨rfl, rfl⟩
theorem three_below (w : World) (o1 o2 o3 : Obj) : Below w.heap.size w (((w.alloc o1).alloc o2).alloc o3).drew :=
  ((((Below.refl _ w).alloc (Nat.le_refl _) o1).alloc (by simp) o2).alloc (by simp; omega) o3).drew
theorem compareEdges_any (d1 d2 e1 e2 : Int) (w : World) :
    Calls Tryz.prog 101 #[.agg #[.int .i64 d1, .int .i64 d2], .agg #[.int .i64 e1, .int .i64 e2]] w fun e w' => e = .returned (.int .i64 (cmpE (d1, d2) (e1, e2))) ∧ Below w.heap.size w w' :=
  (compareEdges_at d1 d2 e1 e2 w).mono fun e w' ⟨h1, h2⟩ => ⟨h1, by rw [← h2]; exact three_below w _ _ _⟩

set_option maxHeartbeats 1000000 in
/-- areEdges -/
theorem areEdges_any {w : World} {a : Option Addr} {n c : Nat} {l : List Edg} (na ns : Nat) (_hna : na ≤ 9223372036854775807) (_hns : ns ≤ 9223372036854775807) (A : EdgeArg w a n c l) :
    Calls Tryz.prog 99 #[.slice a n c, .int .i64 na, .int .i64 ns] w fun e w' => e = .returned (.bool (edgesB na ns l)) ∧ Below w.heap.size w w' := by
  have HA := Lib.hid A
  have hbig : n ≤ 9223372036854775807 := by have := A.cap; have := A.big; omega
  clear A
  go_enter Tryz.func99, Tryz.ntmps99
  go_wp2
  go_loopw [7, 8, 11] (fun _ _ i wr => ∃ k : Nat, k ≤ n ∧ i = .int .i64 k ∧ Hid (∀ j, j < k → edgeB na ns l j = true) ∧ Below w.heap.size w wr) (fun _ _ i _ => n - (intOf i).toNat)
  case atStart => exact ⟨0, Nat.zero_le _, rfl, Lib.hid fun j hj => absurd hj (Nat.not_lt_zero _), Below.refl _ _⟩
  case round =>
    obtain ⟨k, hk, rfl, hgood, hb⟩ := hrel
    by_cases hlt : k < n
    · obtain ⟨b, off, rfl, c1, c2⟩ := (HA.out.cells.below hb) k (by have := HA.out.len; omega)
      obtain ⟨x, HX⟩ : ∃ x, Hid ((edAt l k).1 = x) := ⟨_, Lib.hid rfl⟩
      obtain ⟨y, HY⟩ : ∃ y, Hid ((edAt l k).2 = y) := ⟨_, Lib.hid rfl⟩
      rw [HX.out] at c1
      rw [HY.out] at c2
      by_cases hok : okE na ns (x, y) = true
      · have h4 := (okE_iff _ _ _).1 hok
        simp only at h4
        obtain ⟨o1, o2, o3, o4⟩ := h4
        have HO := Lib.hid hok
        clear hok
        by_cases h0 : 0 < k
        · obtain ⟨b', off', e, d1, d2⟩ := (HA.out.cells.below hb) (k - 1) (by have := HA.out.len; omega)
          cases e
          obtain ⟨px, HPX⟩ : ∃ x, Hid ((edAt l (k - 1)).1 = x) := ⟨_, Lib.hid rfl⟩
          obtain ⟨py, HPY⟩ : ∃ y, Hid ((edAt l (k - 1)).2 = y) := ⟨_, Lib.hid rfl⟩
          rw [HPX.out] at d1
          rw [HPY.out] at d2
          obtain ⟨j, rfl⟩ : ∃ j, k = j + 1 := ⟨k - 1, by omega⟩
          simp only [Nat.add_sub_cancel] at d1 d2 HPX HPY
          have hg : decide ((0 : Int) < (j + 1 : Nat)) = true := decide_eq_true (by omega)
          have hk1 : IntKind.i64.wrap (j : Int) = (j : Int) := IntWalk.i64_in _ (by omega)
          have hk2 : (0 : Int) ≤ (j : Int) := by omega
          have hk4 : (j : Int) < n := by omega
          go_wp2
          go_region_held3 (fun w' => w'.cell? ⟨b, off + j * 2, none⟩ = some (.int .i64 px) ∧ w'.cell? ⟨b, off + j * 2 + 1, none⟩ = some (.int .i64 py) ∧ w'.cell? ⟨wr.heap.size, 0, none⟩ = some (.int .i64 x) ∧ w'.cell? ⟨wr.heap.size, 1, none⟩ = some (.int .i64 y)) (simp (maxDischargeDepth := 12) [*, World.cell?_alloc_some])
            (first | (go_at_call 101; refine (compareEdges_at _ _ _ _ _).mono ?_; rintro e w' ⟨rfl, rfl⟩))
          cases hlt2 : ltE (px, py) (x, y)
          · have hc2 : (0 : Int) ≤ cmpE (px, py) (x, y) := by
              rcases Int.lt_or_le (cmpE (px, py) (x, y)) 0 with h | h
              · rw [(cmpE_lt _ _).1 h] at hlt2; cases hlt2
              · exact h
            have HB : Hid (edgesB na ns l = false) := Lib.hid (edgesB_bad (k := j + 1) (by have := HA.out.len; omega) (edgeB_back h0 (by
              have e1 : edAt l (j + 1) = (x, y) := by rw [← HX.out, ← HY.out]
              have e2 : edAt l (j + 1 - 1) = (px, py) := by rw [← HPX.out, ← HPY.out]; rfl
              rw [e1, e2]; exact hlt2)))
            clear hlt2
            go_wp2
            go_ret
            exact ⟨by rw [HB.out]; rfl, (hb.alloc hb.size _).trans ((three_below _ _ _ _).drew.mono (by have := hb.size; simp; omega))⟩
          · have hc2 : cmpE (px, py) (x, y) < 0 := (cmpE_lt _ _).2 hlt2
            have HG : Hid (∀ i, i < j + 1 + 1 → edgeB na ns l i = true) := Lib.hid fun i hi => by
              by_cases e : i = j + 1
              · have e1 : edAt l (j + 1) = (x, y) := by rw [← HX.out, ← HY.out]
                have e2 : edAt l (j + 1 - 1) = (px, py) := by rw [← HPX.out, ← HPY.out]; rfl
                rw [e]
                exact edgeB_next (by rw [e1]; exact HO.out) (by rw [e1, e2]; exact hlt2)
              · exact hgood.out i (by omega)
            clear hlt2
            go_wp2
            go_roundw
            case rel => exact ⟨j + 1 + 1, by omega, by go_num, HG, (hb.alloc hb.size _).trans ((three_below _ _ _ _).drew.mono (by have := hb.size; simp; omega))⟩
            case measure => simp [intOf]; omega
        · have hg : decide ((0 : Int) < k) = false := decide_eq_false (by omega)
          obtain rfl : k = 0 := by omega
          simp only [Nat.zero_mul, Nat.add_zero] at c1 c2
          have HG : Hid (∀ j, j < 0 + 1 → edgeB na ns l j = true) := Lib.hid fun j hj => by
            have e1 : edAt l 0 = (x, y) := by rw [← HX.out, ← HY.out]
            obtain rfl : j = 0 := by omega
            exact edgeB_zero (by rw [e1]; exact HO.out)
          go_wp2
          go_quiet (fail)
          go_wp2
          go_roundw
          case rel => exact ⟨0 + 1, by omega, by go_num, HG, below_drewN (hb.alloc hb.size _) _⟩
          case measure => simp [intOf]; omega
      · have HOK := Lib.hid hok
        clear hok
        have HB : Hid (edgesB na ns l = false) := Lib.hid (edgesB_bad (k := k) (by have := HA.out.len; omega) (edgeB_out (by
          rw [Bool.eq_false_iff]
          intro h
          have e : edAt l k = (x, y) := by rw [← HX.out, ← HY.out]
          rw [e] at h
          exact HOK.out h)))
        go_wp2
        all_goals first
          | (go_ret; exact ⟨by rw [HB.out]; rfl, hb.alloc hb.size _⟩)
          | (exfalso; have h := HOK.out; rw [okE_iff] at h; simp only at h; omega)
    · have HB : Hid (edgesB na ns l = true) := Lib.hid (edgesB_good fun j hj => hgood.out j (by have := HA.out.len; omega))
      go_wp2
      go_ret
      exact ⟨by rw [HB.out]; rfl, hb⟩
end Go.Proofs.YtpmbijlldoiplaaGreatDoor
