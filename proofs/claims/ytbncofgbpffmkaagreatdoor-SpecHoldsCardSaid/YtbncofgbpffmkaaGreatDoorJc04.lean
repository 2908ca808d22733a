/- Texts joined: Edge, Spec. -/
import Derived.Test.YtbncofgbpffmkaaGreatDoorJc03
import Derived.Test.YtbncofgbpffmkaaGreatDoorJc01
import Derived.Deep.RegionHeld3
import Derived.IntWalk
import Derived.Deep.QuietTactic
import Derived.BigQuiet
import Derived.WalkSmall
/- Edges in memory; compareEdges, areEdges; the reference's before. -/
namespace Go.Proofs.YtbncofgbpffmkaaGreatDoor
open Go.RowKit Pl

/-- a list of edges at an address: two cells for each -/
def EdgesIn (w : World) (a : Option Addr) (l : List Edg) : Prop :=
  ∀ k, k < l.length → ∃ b off, a = some ⟨b, off, none⟩ ∧ w.cell? ⟨b, off + k * 2, none⟩ = some (.int .i64 (edAt l k).1) ∧ w.cell? ⟨b, off + k * 2 + 1, none⟩ = some (.int .i64 (edAt l k).2)
structure EdgeArg (w : World) (a : Option Addr) (n c : Nat) (l : List Edg) : Prop where
  nil : a = none → c = 0
  len : n = l.length
  cap : n ≤ c
  big : n ≤ 140737488355328
  cells : EdgesIn w a l
theorem EdgesIn.below {w w' : World} {a : Option Addr} {l : List Edg} (h : EdgesIn w a l) (hb : Below w.heap.size w w') : EdgesIn w' a l := fun k hk => by
  obtain ⟨b, off, e, h1, h2⟩ := h k hk
  exact ⟨b, off, e, (hb.cell (lt_of_cell h1)).trans h1, (hb.cell (lt_of_cell h2)).trans h2⟩
theorem EdgeArg.below {w w' : World} {a : Option Addr} {n c : Nat} {l : List Edg} (h : EdgeArg w a n c l) (hb : Below w.heap.size w w') : EdgeArg w' a n c l :=
  ⟨h.nil, h.len, h.cap, h.big, h.cells.below hb⟩

def cmpV (a b : Int) : Int := if a < b then -1 else if b < a then 1 else 0
theorem cmpV_lt {a b : Int} (h : a < b) : cmpV a b = -1 := if_pos h
theorem cmpV_gt {a b : Int} (h : b < a) : cmpV a b = 1 := by unfold cmpV; rw [if_neg (by omega), if_pos h]
theorem cmpV_eq {a b : Int} (h : a = b) : cmpV a b = 0 := by unfold cmpV; rw [if_neg (by omega), if_neg (by omega)]
theorem nan_any (a : Int) (w : World) : Calls Tryz.prog 117 #[.int .i64 a] w fun e w' => e = .returned (.bool false) ∧ w = w' := by
  go_enter Tryz.func117, Tryz.ntmps117
  go_wp2
  go_ret
  exact ⟨rfl, rfl⟩
theorem compare_any (a b : Int) (w : World) : Calls Tryz.prog 102 #[.int .i64 a, .int .i64 b] w fun e w' => e = .returned (.int .i64 (cmpV a b)) ∧ w = w' := by
  rcases Int.lt_trichotomy a b with h | h | h
  · have HV := Lib.hid (cmpV_lt h)
    go_enter Tryz.func102, Tryz.ntmps102
    go_wp2_with (go_at_call 117; refine (nan_any _ _).mono ?_; rintro e w' ⟨rfl, rfl⟩)
    go_ret
    exact ⟨by rw [HV.out]; rfl, rfl⟩
  · have HV := Lib.hid (cmpV_eq h)
    subst h
    go_enter Tryz.func102, Tryz.ntmps102
    go_wp2_with (go_at_call 117; refine (nan_any _ _).mono ?_; rintro e w' ⟨rfl, rfl⟩)
    go_ret
    exact ⟨by rw [HV.out]; rfl, rfl⟩
  · have HV := Lib.hid (cmpV_gt h)
    have h' : ¬ a < b := by omega
    go_enter Tryz.func102, Tryz.ntmps102
    go_wp2_with (go_at_call 117; refine (nan_any _ _).mono ?_; rintro e w' ⟨rfl, rfl⟩)
    go_ret
    exact ⟨by rw [HV.out]; rfl, rfl⟩
def orV (a b : Int) : Int := if a = 0 then b else a
theorem or_any (b off : Nat) (x y : Int) (w : World) (hx : w.cell? ⟨b, off, none⟩ = some (.int .i64 x)) (hy : w.cell? ⟨b, off + 1, none⟩ = some (.int .i64 y)) :
    Calls Tryz.prog 101 #[.slice (some ⟨b, off, none⟩) 2 2] w fun e w' => e = .returned (.int .i64 (orV x y)) ∧ w = w' := by
  by_cases hx0 : x = 0
  · have HV : Hid (orV x y = y) := Lib.hid (if_pos hx0)
    subst hx0
    by_cases hy0 : y = 0
    · subst hy0
      go_enter Tryz.func101, Tryz.ntmps101
      go_wp2
      refine wp_loop_rounds 3 ?_
      rw [rounds_succ]
      go_wp2
      rw [rounds_succ]
      go_wp2
      rw [rounds_succ]
      go_wp2
      go_ret
      exact ⟨by rw [HV.out]; rfl, rfl⟩
    · have hy1 : (y != 0) = true := by simpa using hy0
      clear hy0
      go_enter Tryz.func101, Tryz.ntmps101
      go_wp2
      refine wp_loop_rounds 3 ?_
      rw [rounds_succ]
      go_wp2
      rw [rounds_succ]
      go_wp2
      go_ret
      exact ⟨by rw [HV.out]; rfl, rfl⟩
  · have HV : Hid (orV x y = x) := Lib.hid (if_neg hx0)
    have hx1 : (x != 0) = true := by simpa using hx0
    clear hx0
    go_enter Tryz.func101, Tryz.ntmps101
    go_wp2
    refine wp_loop_rounds 3 ?_
    rw [rounds_succ]
    go_wp2
    go_ret
    exact ⟨by rw [HV.out]; rfl, rfl⟩

/-- compareEdges -/
def cmpE (d e : Edg) : Int := orV (cmpV d.1 e.1) (cmpV d.2 e.2)
theorem cmpE_lt (d e : Edg) : cmpE d e < 0 ↔ ltE d e = true := by
  rw [ltE_iff]
  unfold cmpE orV cmpV
  split <;> split <;> (try split) <;> (try split) <;> omega
theorem compareEdges_at (d1 d2 e1 e2 : Int) (w : World) :
    Calls Tryz.prog 83 #[.agg #[.int .i64 d1, .int .i64 d2], .agg #[.int .i64 e1, .int .i64 e2]] w fun e w' => e = .returned (.int .i64 (cmpE (d1, d2) (e1, e2))) ∧
      (((w.alloc (.cells #[.int .i64 d1, .int .i64 d2] 58)).alloc (.cells #[.int .i64 e1, .int .i64 e2] 58)).alloc (.cells #[.int .i64 (cmpV d1 e1), .int .i64 (cmpV d2 e2)] 3)).drew = w' := by
  go_enter Tryz.func83, Tryz.ntmps83
  go_wp2_with fail
  go_region_held3 (fun w' => w'.cell? ⟨w.heap.size, 0, none⟩ = some (.int .i64 d1) ∧ w'.cell? ⟨w.heap.size, 1, none⟩ = some (.int .i64 d2) ∧ w'.cell? ⟨w.heap.size + 1, 0, none⟩ = some (.int .i64 e1) ∧ w'.cell? ⟨w.heap.size + 1, 1, none⟩ = some (.int .i64 e2)) (go_keep)
    (first | (go_at_call 102; refine (compare_any _ _ _).mono ?_; rintro e w' ⟨rfl, rfl⟩) | (go_at_call 101; refine (or_any _ _ (cmpV d1 e1) (cmpV d2 e2) _ ?_ ?_).mono ?_; go_simp; go_simp; rintro e w' ⟨rfl, rfl⟩))
  go_wp2
  go_ret
  exact ⟨rfl, rfl⟩
theorem three_below (w : World) (o1 o2 o3 : Obj) : Below w.heap.size w (((w.alloc o1).alloc o2).alloc o3).drew :=
  ((((Below.refl _ w).alloc (Nat.le_refl _) o1).alloc (by simp) o2).alloc (by simp; omega) o3).drew
theorem compareEdges_any (d1 d2 e1 e2 : Int) (w : World) :
    Calls Tryz.prog 83 #[.agg #[.int .i64 d1, .int .i64 d2], .agg #[.int .i64 e1, .int .i64 e2]] w fun e w' => e = .returned (.int .i64 (cmpE (d1, d2) (e1, e2))) ∧ Below w.heap.size w w' :=
  (compareEdges_at d1 d2 e1 e2 w).mono fun e w' ⟨h1, h2⟩ => ⟨h1, by rw [← h2]; exact three_below w _ _ _⟩

set_option maxHeartbeats 1000000 in
/-- areEdges -/
theorem areEdges_any {w : World} {a : Option Addr} {n c : Nat} {l : List Edg} (na ns : Nat) (_hna : na ≤ 9223372036854775807) (_hns : ns ≤ 9223372036854775807) (A : EdgeArg w a n c l) :
    Calls Tryz.prog 62 #[.slice a n c, .int .i64 na, .int .i64 ns] w fun e w' => e = .returned (.bool (edgesB na ns l)) ∧ Below w.heap.size w w' := by
  have HA := Lib.hid A
  have hbig : n ≤ 9223372036854775807 := by have := A.cap; have := A.big; omega
  clear A
  go_enter Tryz.func62, Tryz.ntmps62
  go_wp2
  go_loopw [7, 8, 11] (fun _ _ i wr => ∃ k : Nat, k ≤ n ∧ i = .int .i64 k ∧ Hid (∀ j, j < k → edgeB na ns l j = true) ∧ Below w.heap.size w wr) (fun _ _ i _ => n - (intOf i).toNat)
  case atStart => exact ⟨0, Nat.zero_le _, rfl, Lib.hid fun j hj => absurd hj (Nat.not_lt_zero _), Below.refl _ _⟩
  case round =>
    obtain ⟨k, hk, rfl, hgood, hb⟩ := hrel
    by_cases hlt : k < n
    · obtain ⟨b, off, rfl, c1, c2⟩ := (HA.out.cells.below hb) k (by have := HA.out.len; omega)
      obtain ⟨x, HX⟩ : ∃ x, Hid ((edAt l k).1 = x) := ⟨_, Lib.hid rfl⟩
      obtain ⟨y, HY⟩ : ∃ y, Hid ((edAt l k).2 = y) := ⟨_, Lib.hid rfl⟩
      rw [HX.out] at c1
      rw [HY.out] at c2
      by_cases hok : okE na ns (x, y) = true
      · have h4 := (okE_iff _ _ _).1 hok
        simp only at h4
        obtain ⟨o1, o2, o3, o4⟩ := h4
        have HO := Lib.hid hok
        clear hok
        by_cases h0 : 0 < k
        · obtain ⟨b', off', e, d1, d2⟩ := (HA.out.cells.below hb) (k - 1) (by have := HA.out.len; omega)
          cases e
          obtain ⟨px, HPX⟩ : ∃ x, Hid ((edAt l (k - 1)).1 = x) := ⟨_, Lib.hid rfl⟩
          obtain ⟨py, HPY⟩ : ∃ y, Hid ((edAt l (k - 1)).2 = y) := ⟨_, Lib.hid rfl⟩
          rw [HPX.out] at d1
          rw [HPY.out] at d2
          obtain ⟨j, rfl⟩ : ∃ j, k = j + 1 := ⟨k - 1, by omega⟩
          simp only [Nat.add_sub_cancel] at d1 d2 HPX HPY
          have hg : decide ((0 : Int) < (j + 1 : Nat)) = true := decide_eq_true (by omega)
          have hk1 : IntKind.i64.wrap (j : Int) = (j : Int) := IntWalk.i64_in _ (by omega)
          have hk2 : (0 : Int) ≤ (j : Int) := by omega
          have hk4 : (j : Int) < n := by omega
          go_wp2
          go_region_held3 (fun w' => w'.cell? ⟨b, off + j * 2, none⟩ = some (.int .i64 px) ∧ w'.cell? ⟨b, off + j * 2 + 1, none⟩ = some (.int .i64 py) ∧ w'.cell? ⟨wr.heap.size, 0, none⟩ = some (.int .i64 x) ∧ w'.cell? ⟨wr.heap.size, 1, none⟩ = some (.int .i64 y)) (simp (maxDischargeDepth := 12) [*, World.cell?_alloc_some])
            (first | (go_at_call 83; refine (compareEdges_at _ _ _ _ _).mono ?_; rintro e w' ⟨rfl, rfl⟩))
          cases hlt2 : ltE (px, py) (x, y)
          · have hc2 : (0 : Int) ≤ cmpE (px, py) (x, y) := by
              rcases Int.lt_or_le (cmpE (px, py) (x, y)) 0 with h | h
              · rw [(cmpE_lt _ _).1 h] at hlt2; cases hlt2
              · exact h
            have HB : Hid (edgesB na ns l = false) := Lib.hid (edgesB_bad (k := j + 1) (by have := HA.out.len; omega) (edgeB_back h0 (by
              have e1 : edAt l (j + 1) = (x, y) := by rw [← HX.out, ← HY.out]
              have e2 : edAt l (j + 1 - 1) = (px, py) := by rw [← HPX.out, ← HPY.out]; rfl
              rw [e1, e2]; exact hlt2)))
            clear hlt2
            go_wp2
            go_ret
            exact ⟨by rw [HB.out]; rfl, (hb.alloc hb.size _).trans ((three_below _ _ _ _).drew.mono (by have := hb.size; simp; omega))⟩
          · have hc2 : cmpE (px, py) (x, y) < 0 := (cmpE_lt _ _).2 hlt2
            have HG : Hid (∀ i, i < j + 1 + 1 → edgeB na ns l i = true) := Lib.hid fun i hi => by
              by_cases e : i = j + 1
              · have e1 : edAt l (j + 1) = (x, y) := by rw [← HX.out, ← HY.out]
                have e2 : edAt l (j + 1 - 1) = (px, py) := by rw [← HPX.out, ← HPY.out]; rfl
                rw [e]
                exact edgeB_next (by rw [e1]; exact HO.out) (by rw [e1, e2]; exact hlt2)
              · exact hgood.out i (by omega)
            clear hlt2
            go_wp2
            go_roundw
            case rel => exact ⟨j + 1 + 1, by omega, by go_num, HG, (hb.alloc hb.size _).trans ((three_below _ _ _ _).drew.mono (by have := hb.size; simp; omega))⟩
            case measure => simp [intOf]; omega
        · have hg : decide ((0 : Int) < k) = false := decide_eq_false (by omega)
          obtain rfl : k = 0 := by omega
          simp only [Nat.zero_mul, Nat.add_zero] at c1 c2
          have HG : Hid (∀ j, j < 0 + 1 → edgeB na ns l j = true) := Lib.hid fun j hj => by
            have e1 : edAt l 0 = (x, y) := by rw [← HX.out, ← HY.out]
            obtain rfl : j = 0 := by omega
            exact edgeB_zero (by rw [e1]; exact HO.out)
          go_wp2
          go_quiet (fail)
          go_wp2
          go_roundw
          case rel => exact ⟨0 + 1, by omega, by go_num, HG, below_drewN (hb.alloc hb.size _) _⟩
          case measure => simp [intOf]; omega
      · have HOK := Lib.hid hok
        clear hok
        have HB : Hid (edgesB na ns l = false) := Lib.hid (edgesB_bad (k := k) (by have := HA.out.len; omega) (edgeB_out (by
          rw [Bool.eq_false_iff]
          intro h
          have e : edAt l k = (x, y) := by rw [← HX.out, ← HY.out]
          rw [e] at h
          exact HOK.out h)))
        go_wp2
        all_goals first
          | (go_ret; exact ⟨by rw [HB.out]; rfl, hb.alloc hb.size _⟩)
          | (exfalso; have h := HOK.out; rw [okE_iff] at h; simp only at h; omega)
    · have HB : Hid (edgesB na ns l = true) := Lib.hid (edgesB_good fun j hj => hgood.out j (by have := HA.out.len; omega))
      go_wp2
      go_ret
      exact ⟨by rw [HB.out]; rfl, hb⟩
end Go.Proofs.YtbncofgbpffmkaaGreatDoor
/- A specification in memory; the reference's Few; spec.Check. -/
namespace Go.Proofs.YtbncofgbpffmkaaGreatDoor
open Go.RowKit Pl

/-- numbers of ints that lie in memory -/
structure NumsArg (w : World) (a : Option Addr) (n c : Nat) (xs : List Int) : Prop where
  arg : IntArg w a n c xs
  few : n ≤ 17592186044416
  rng : ∀ j, j < xs.length → -9223372036854775808 ≤ xs.getD j 0 ∧ xs.getD j 0 ≤ 9223372036854775807
theorem NumsArg.below {w w' : World} {a : Option Addr} {n c : Nat} {xs : List Int} (h : NumsArg w a n c xs) (hb : Below w.heap.size w w') : NumsArg w' a n c xs := ⟨h.arg.below hb, h.few, h.rng⟩
/-- the states: each two slices -/
def StesIn (w : World) (b : Option Addr) (ss : List Ste) : Prop :=
  ∀ i, i < ss.length → ∃ bb off, b = some ⟨bb, off, none⟩ ∧ ∃ a1 n1 c1 a2 n2 c2, w.cell? ⟨bb, off + i * 2, none⟩ = some (.slice a1 n1 c1) ∧ w.cell? ⟨bb, off + i * 2 + 1, none⟩ = some (.slice a2 n2 c2) ∧
    NumsArg w a1 n1 c1 (teAt ss i).1 ∧ NumsArg w a2 n2 c2 (teAt ss i).2
theorem StesIn.below {w w' : World} {b : Option Addr} {ss : List Ste} (h : StesIn w b ss) (hb : Below w.heap.size w w') : StesIn w' b ss := fun i hi => by
  obtain ⟨bb, off, e, a1, n1, c1, a2, n2, c2, h1, h2, h3, h4⟩ := h i hi
  exact ⟨bb, off, e, a1, n1, c1, a2, n2, c2, (hb.cell (lt_of_cell h1)).trans h1, (hb.cell (lt_of_cell h2)).trans h2, h3.below hb, h4.below hb⟩
/-- a specification as its two slices hold it -/
structure SpecArg (w : World) (a : Option Addr) (n c : Nat) (b : Option Addr) (k d : Nat) (s : Spc) : Prop where
  acts : StrArg w a n c s.acts
  abig : n ≤ 140737488355328
  nil : b = none → d = 0
  len : k = s.states.length
  cap : k ≤ d
  big : k ≤ 140737488355328
  rows : StesIn w b s.states
theorem SpecArg.below {w w' : World} {a : Option Addr} {n c : Nat} {b : Option Addr} {k d : Nat} {s : Spc} (h : SpecArg w a n c b k d s) (hb : Below w.heap.size w w') : SpecArg w' a n c b k d s :=
  ⟨h.acts.below hb, h.abig, h.nil, h.len, h.cap, h.big, h.rows.below hb⟩

theorem fewS_no {s : Spc} {most i : Nat} (h : most < s.acts.length + s.states.length + totalS (s.states.take i)) : fewS s most = false := by
  have := totalS_take_le s.states i
  rw [Bool.eq_false_iff, Ne, fewS_iff]; omega
set_option maxHeartbeats 1000000 in
theorem SFew_any {w : World} {a : Option Addr} {n c : Nat} {b : Option Addr} {k d : Nat} {s : Spc} (most : Nat) (hm : most ≤ 4611686018427387904) (A : SpecArg w a n c b k d s) :
    Calls Tryz.prog 5 #[.agg #[.slice a n c, .slice b k d], .int .i64 most] w fun e w' => e = .returned (.bool (fewS s most)) ∧ Below w.heap.size w w' := by
  have HA := Lib.hid A
  have h1 : n ≤ 140737488355328 := A.abig
  have h2 : k ≤ 140737488355328 := A.big
  have hB := (Below.refl w.heap.size w).alloc (Nat.le_refl _) (.cells #[.slice a n c, .slice b k d] 28)
  have HX := Lib.hid (hB.cell (p := ⟨w.heap.size, 1, none⟩))
  have HB := Lib.hid hB
  clear A hB HX
  go_enter Tryz.func5, Tryz.ntmps5
  go_wp2
  go_loopw [5, 6] (fun q i wr => ∃ j t : Nat, j ≤ k ∧ i = .int .i64 j ∧ q = .int .i64 t ∧ Hid (t = s.acts.length + s.states.length + totalS (s.states.take j)) ∧ t ≤ 4611686018427387904 + 281474976710656 ∧ Below (w.heap.size + 1) (w.alloc (.cells #[.slice a n c, .slice b k d] 28)) wr) (fun _ i _ => k - (intOf i).toNat)
  case atStart => exact ⟨0, n + k, Nat.zero_le _, rfl, by go_num, Lib.hid (by have := HA.out.len; have := HA.out.acts.len; simp [totalS]; omega), by omega, Below.refl _ _⟩
  case round =>
    obtain ⟨j, t, hj, rfl, rfl, ht, htb, hb⟩ := hrel
    have q1 : wr.cell? ⟨w.heap.size, 1, none⟩ = some (.slice b k d) := by rw [hb.cell (by simp)]; simp
    have HBr := Lib.hid hb
    have HBw := Lib.hid (HB.out.trans (hb.mono (by omega)))
    clear hb
    by_cases hlt : j < k
    · by_cases hle : t ≤ most
      · obtain ⟨bb, off, rfl, a1, n1, c1, a2, n2, c2, d1, d2, hN1, hN2⟩ := (HA.out.rows.below HBw.out) j (by have := HA.out.len; omega)
        have h3 := hN1.few
        have h4 := hN2.few
        have HT : Hid (t + (n1 + n2) = s.acts.length + s.states.length + totalS (s.states.take (j + 1))) := Lib.hid (by
          have := ht.out; have := totalS_take s.states j (by have := HA.out.len; omega); have := hN1.arg.len; have := hN2.arg.len; omega)
        have hj0 : (0 : Int) ≤ (j : Int) := by omega
        have hj1 : (j : Int) < (k : Int) := by omega
        have hw1 : IntKind.i64.wrap ((n1 : Int) + n2) = (n1 : Int) + n2 := IntWalk.i64_in _ (by omega)
        have hw2 : IntKind.i64.wrap ((t : Int) + ((n1 : Int) + n2)) = (t : Int) + ((n1 : Int) + n2) := IntWalk.i64_in _ (by omega)
        clear hN1 hN2
        go_wp2
        go_quiet (fail)
        go_wp2
        go_roundw
        case rel => exact ⟨j + 1, t + (n1 + n2), by omega, by go_num, by go_num, HT, by omega, below_drewN HBr.out _⟩
        case measure => simp [intOf]; omega
      · have HV := Lib.hid (fewS_no (s := s) (most := most) (i := j) (by have := ht.out; omega))
        go_wp2
        go_ret
        exact ⟨by rw [HV.out]; rfl, HBw.out⟩
    · have HT : Hid (fewS s most = decide (t ≤ most)) := Lib.hid (by
        have := ht.out
        rw [List.take_of_length_le (by have := HA.out.len; omega)] at this
        rw [this]; rfl)
      by_cases hle : t ≤ most
      · have HV : Hid (fewS s most = true) := Lib.hid (by rw [HT.out]; exact decide_eq_true hle)
        go_wp2
        go_ret
        exact ⟨by rw [HV.out]; rfl, HBw.out⟩
      · have HV : Hid (fewS s most = false) := Lib.hid (by rw [HT.out]; exact decide_eq_false hle)
        go_wp2
        go_ret
        exact ⟨by rw [HV.out]; rfl, HBw.out⟩

set_option maxHeartbeats 1000000 in
theorem isNext_any {w : World} {a : Option Addr} {n c : Nat} {next : List Int} (na ns : Nat) (hna : na ≤ 9223372036854775807) (_hns : ns ≤ 9223372036854775807) (A : IntArg w a n c next) :
    Calls Tryz.prog 63 #[.slice a n c, .int .i64 na, .int .i64 ns] w fun e w' => e = .returned (.bool (nextB na ns next)) ∧ w = w' := by
  have HA := Lib.hid A
  have HL := Lib.hid A.len
  have hbig : n ≤ 9223372036854775807 := A.big
  clear A
  by_cases hl : n = na
  · subst hl
    have hq : ((n : Int) != n) = false := by simp
    go_enter Tryz.func63, Tryz.ntmps63
    go_wp2
    go_loop [8, 15] (fun _ i => ∃ j : Nat, j ≤ n ∧ i = .int .i64 j ∧ Hid (∀ x, x < j → okNext ns (next.getD x 0) = true)) (fun _ i => n - (intOf i).toNat)
    case atStart => exact ⟨0, Nat.zero_le _, rfl, Lib.hid fun x hx => by omega⟩
    case round =>
      obtain ⟨j, hj, rfl, hg⟩ := hrel
      by_cases hlt : j < n
      · obtain ⟨bl, ol, rfl, c1⟩ := HA.out.cells j (by have := HL.out; omega)
        obtain ⟨x, HX⟩ : ∃ x, Hid (next.getD j 0 = x) := ⟨_, Lib.hid rfl⟩
        rw [HX.out] at c1
        cases hok : okNext ns x
        · have HB : Hid (nextB n ns next = false) := Lib.hid (by
            rw [Bool.eq_false_iff, Ne, nextB_iff]
            rintro ⟨_, h⟩
            have := h j (by have := HL.out; omega)
            rw [HX.out, hok] at this
            cases this)
          have hno : x < -1 ∨ (ns : Int) ≤ x := by
            rw [Bool.eq_false_iff, Ne, okNext_iff] at hok
            omega
          have hne : (x != -1) = true := by rw [bne_iff_ne]; omega
          clear hok
          rcases hno with h | h
          · have hx0 : x < 0 := by omega
            go_wp2
            go_ret
            exact ⟨by rw [HB.out]; rfl, rfl⟩
          · have hx0 : ¬ x < 0 := by omega
            go_wp2
            go_ret
            exact ⟨by rw [HB.out]; rfl, rfl⟩
        · have HG : Hid (∀ z, z < j + 1 → okNext ns (next.getD z 0) = true) := Lib.hid fun z hz => by
            by_cases e : z = j
            · rw [e, HX.out]; exact hok
            · exact hg.out z (by omega)
          have hyes := (okNext_iff _ _).1 hok
          clear hok
          by_cases hm : x = -1
          · have hne : (x != -1) = false := by rw [bne_eq_false_iff_eq]; exact hm
            clear hm
            go_wp2
            go_round
            case rel => exact ⟨j + 1, by omega, by go_num, HG⟩
            case measure => simp [intOf]; omega
          · have hne : (x != -1) = true := by rw [bne_iff_ne]; exact hm
            have hx0 : ¬ x < 0 := by omega
            have hx1 : ¬ (ns : Int) ≤ x := by omega
            clear hm
            go_wp2
            go_round
            case rel => exact ⟨j + 1, by omega, by go_num, HG⟩
            case measure => simp [intOf]; omega
      · have HB : Hid (nextB n ns next = true) := Lib.hid ((nextB_iff _ _ _).2 ⟨HL.out.symm, fun z hz => hg.out z (by have := HL.out; omega)⟩)
        go_wp2
        go_ret
        exact ⟨by rw [HB.out]; rfl, rfl⟩
  · have hq : ((n : Int) != na) = true := by rw [bne_iff_ne]; omega
    have HB : Hid (nextB na ns next = false) := Lib.hid (by
      rw [Bool.eq_false_iff, Ne, nextB_iff]
      rintro ⟨h, _⟩
      have := HL.out
      omega)
    clear hl
    go_enter Tryz.func63, Tryz.ntmps63
    go_wp2
    go_ret
    exact ⟨by rw [HB.out]; rfl, rfl⟩

set_option maxHeartbeats 2000000 in
theorem isAccept_any {w : World} {a : Option Addr} {n c : Nat} {acc : List Int} {a2 : Option Addr} {n2 c2 : Nat} {next : List Int} (A : NumsArg w a n c acc) (N : IntArg w a2 n2 c2 next) (h8 : next.length ≤ 8) :
    Calls Tryz.prog 64 #[.slice a n c, .slice a2 n2 c2] w fun e w' => e = .returned (.bool (accB acc next)) ∧ w = w' := by
  have HA := Lib.hid A.arg
  have HR := Lib.hid A.rng
  have HL := Lib.hid A.arg.len
  have HN := Lib.hid N
  have HNL := Lib.hid N.len
  have hbig : n ≤ 17592186044416 := A.few
  have hn8 : n2 ≤ 8 := by have := N.len; omega
  have H8 := Lib.hid h8
  clear A N h8
  go_enter Tryz.func64, Tryz.ntmps64
  go_wp2
  go_loop [5, 6, 7, 12] (fun q _ _ i => ∃ j t : Nat, j ≤ n2 ∧ i = .int .i64 j ∧ q = .int .i64 t ∧ t < 256 ∧ Hid (t = leadN next j)) (fun _ _ _ i => n2 - (intOf i).toNat)
  case atStart => exact ⟨0, 0, Nat.zero_le _, rfl, rfl, by decide, Lib.hid rfl⟩
  case round =>
    obtain ⟨j, t, hj, rfl, rfl, ht, htb⟩ := hrel
    by_cases hlt : j < n2
    · obtain ⟨bl, ol, rfl, c1⟩ := HN.out.cells j (by have := HNL.out; omega)
      obtain ⟨x, HX⟩ : ∃ x, Hid (next.getD j 0 = x) := ⟨_, Lib.hid rfl⟩
      rw [HX.out] at c1
      by_cases hm : x = -1
      · have hne : (x != -1) = false := by rw [bne_eq_false_iff_eq]; exact hm
        have HT : Hid (t = leadN next (j + 1)) := Lib.hid (by rw [leadN, if_neg (by rw [HX.out, hm]; simp)]; exact htb.out)
        clear hm
        go_wp2
        go_round
        case rel => exact ⟨j + 1, t, by omega, by go_num, rfl, ht, HT⟩
        case measure => simp [intOf]; omega
      · have hne : (x != -1) = true := by rw [bne_iff_ne]; exact hm
        obtain ⟨R, HRr⟩ : ∃ R : Nat, Hid (R = t ||| 2 ^ j) := ⟨_, Lib.hid rfl⟩
        have hR : R < 256 := by rw [HRr.out]; exact Nat.or_lt_two_pow (n := 8) ht (Nat.pow_lt_pow_right (by decide) (by omega))
        have HT : Hid (R = leadN next (j + 1)) := Lib.hid (by rw [leadN, if_pos (by rw [HX.out]; exact hm), ← htb.out]; exact HRr.out)
        have HO : Hid (bits .or .i64 (t : Int) (wrap64 (2 ^ j)) = (R : Int)) := Lib.hid (by
          have h2 := pow_le j (by omega)
          have h3 : ((2 ^ j : Nat) : Int) = (2 : Int) ^ j := by norm_cast
          have h4 : 2 ^ j < 256 := Nat.pow_lt_pow_right (n := 8) (by decide) (by omega)
          rw [IntWalk.wrap64_in _ ⟨by omega, by omega⟩, ← h3, HRr.out]
          exact i64_or_nat t _ (by omega) (by omega))
        clear hm
        go_wp2
        rw [HO.out]
        go_wp2
        go_round
        case rel => exact ⟨j + 1, R, by omega, by go_num, rfl, hR, HT⟩
        case measure => simp [intOf]; omega
    · have HT : Hid (t = leadN next next.length) := Lib.hid (by rw [htb.out, show j = next.length from by have := HNL.out; omega])
      go_wp2
      go_loop [8, 9, 26] (fun _ _ i => ∃ y : Nat, y ≤ n ∧ i = .int .i64 y ∧ Hid (∀ z, z < y → okSet next (acc.getD z 0) = true ∧ risB acc z = true)) (fun _ _ i => n - (intOf i).toNat)
      case atStart => exact ⟨0, Nat.zero_le _, rfl, Lib.hid fun x hx => by omega⟩
      case round =>
        obtain ⟨y, hy, rfl, hg⟩ := hrel
        by_cases hlt2 : y < n
        · obtain ⟨bl, ol, rfl, c1⟩ := HA.out.cells y (by have := HL.out; omega)
          obtain ⟨x, HX⟩ : ∃ x, Hid (acc.getD y 0 = x) := ⟨_, Lib.hid rfl⟩
          have hrx := HR.out y (by have := HL.out; omega)
          rw [HX.out] at c1 hrx
          have hos := okSet_lead H8.out x hrx.1 hrx.2
          rw [← HT.out] at hos
          cases hok : okSet next x
          · have hq : (bits .andNot .i64 x (t : Int) != 0) = true := by rw [bne_iff_ne]; intro e; rw [hos.1 e] at hok; cases hok
            have HB : Hid (accB acc next = false) := Lib.hid (accB_bad (i := y) (by have := HL.out; omega) (.inl (by rw [HX.out]; exact hok)))
            clear hok hos
            go_wp2
            go_ret
            exact ⟨by rw [HB.out]; rfl, rfl⟩
          · have hq : (bits .andNot .i64 x (t : Int) != 0) = false := by rw [bne_eq_false_iff_eq]; exact hos.2 hok
            have HOk : Hid (okSet next (acc.getD y 0) = true) := Lib.hid (by rw [HX.out]; exact hok)
            clear hok hos
            by_cases h0 : 0 < y
            · obtain ⟨p, rfl⟩ : ∃ p, y = p + 1 := ⟨y - 1, by omega⟩
              obtain ⟨bl', ol', e, c3⟩ := HA.out.cells p (by have := HL.out; omega)
              cases e
              obtain ⟨z, HZ⟩ : ∃ z, Hid (acc.getD p 0 = z) := ⟨_, Lib.hid rfl⟩
              rw [HZ.out] at c3
              have hg1 : decide ((0 : Int) < (p + 1 : Nat)) = true := decide_eq_true (by omega)
              have hk1 : IntKind.i64.wrap (p : Int) = (p : Int) := IntWalk.i64_in _ (by omega)
              have hk2 : (0 : Int) ≤ (p : Int) := by omega
              have hk4 : (p : Int) < n := by omega
              by_cases hzx : z < x
              · have HG : Hid (∀ q, q < p + 1 + 1 → okSet next (acc.getD q 0) = true ∧ risB acc q = true) := Lib.hid fun q hq => by
                  by_cases e : q = p + 1
                  · rw [e]
                    refine ⟨HOk.out, ?_⟩
                    unfold risB
                    rw [Nat.add_sub_cancel, HX.out, HZ.out, decide_eq_true hzx, Bool.or_true]
                  · exact hg.out q (by omega)
                have hzx2 : ¬ x ≤ z := by omega
                go_wp2
                go_round
                case rel => exact ⟨p + 1 + 1, by omega, by go_num, HG⟩
                case measure => simp [intOf]; omega
              · have HB : Hid (accB acc next = false) := Lib.hid (accB_bad (i := p + 1) (by have := HL.out; omega) (.inr (by
                  unfold risB
                  rw [Nat.add_sub_cancel, HX.out, HZ.out, decide_eq_false hzx]
                  simp)))
                have hzx2 : x ≤ z := by omega
                go_wp2
                go_ret
                exact ⟨by rw [HB.out]; rfl, rfl⟩
            · have hg1 : decide ((0 : Int) < y) = false := decide_eq_false (by omega)
              have HG : Hid (∀ q, q < y + 1 → okSet next (acc.getD q 0) = true ∧ risB acc q = true) := Lib.hid fun q hq => by
                obtain rfl : q = y := by omega
                refine ⟨HOk.out, ?_⟩
                unfold risB
                rw [decide_eq_true (show q = 0 by omega), Bool.true_or]
              go_wp2
              go_round
              case rel => exact ⟨y + 1, by omega, by go_num, HG⟩
              case measure => simp [intOf]; omega
        · have HB : Hid (accB acc next = true) := Lib.hid ((accB_iff _ _).2 fun z hz => hg.out z (by have := HL.out; omega))
          go_wp2
          go_ret
          exact ⟨by rw [HB.out]; rfl, rfl⟩
end Go.Proofs.YtbncofgbpffmkaaGreatDoor
