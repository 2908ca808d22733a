/- slices.Equal and slices.EqualFunc as the program calls them; system.Same. -/
import Derived.Test.YtlnncklanabbdaaGreatDoorOwnKit
namespace Go.Proofs.YtlnncklanabbdaaGreatDoor
open Go.RowKit Pl

set_option maxHeartbeats 1000000 in
theorem eqStr_any {w : World} {a : Option Addr} {n c : Nat} {xs : List ByteArray} {a' : Option Addr} {n' c' : Nat} {ys : List ByteArray} (A : StrArg w a n c xs) (A' : StrArg w a' n' c' ys) :
    Calls Tryz.prog 50 #[.slice a n c, .slice a' n' c'] w fun e w' => e = .returned (.bool (decide (xs = ys))) ∧ Below w.heap.size w w' := by
  have HA := Lib.hid A
  have HA' := Lib.hid A'
  have h1 : n ≤ 9223372036854775807 := A.big
  have h2 : n' ≤ 9223372036854775807 := A'.big
  clear A A'
  by_cases hl : n = n'
  · subst hl
    have hq : ((n : Int) != n) = false := by simp
    go_enter Tryz.func50, Tryz.ntmps50
    go_wp2
    go_loopw [5, 13] (fun _ i wr => ∃ k : Nat, k ≤ n ∧ i = .int .i64 k ∧ Hid (∀ j, j < k → at_ xs j = at_ ys j) ∧ Below w.heap.size w wr) (fun _ i _ => n - (intOf i).toNat)
    case atStart => exact ⟨0, Nat.zero_le _, rfl, Lib.hid fun j hj => absurd hj (Nat.not_lt_zero _), Below.refl _ _⟩
    case round =>
      obtain ⟨k, hk, rfl, hgood, hb⟩ := hrel
      by_cases hlt : k < n
      · obtain ⟨b, off, rfl, c1⟩ := (HA.out.below hb).cells k (by have := HA.out.len; omega)
        obtain ⟨b', off', rfl, d1⟩ := (HA'.out.below hb).cells k (by have := HA'.out.len; omega)
        obtain ⟨x, HX⟩ : ∃ x, Hid (at_ xs k = x) := ⟨_, Lib.hid rfl⟩
        obtain ⟨y, HY⟩ : ∃ y, Hid (at_ ys k = y) := ⟨_, Lib.hid rfl⟩
        change wr.cell? _ = some (.string (at_ xs k)) at c1
        change wr.cell? _ = some (.string (at_ ys k)) at d1
        rw [HX.out] at c1
        rw [HY.out] at d1
        have hk0 : (0 : Int) ≤ (k : Int) := by omega
        have hk1 : (k : Int) < (n : Int) := by omega
        by_cases he : x = y
        · have HG : Hid (∀ j, j < k + 1 → at_ xs j = at_ ys j) := Lib.hid fun j hj => by
            by_cases e : j = k
            · rw [e, HX.out, HY.out]; exact he
            · exact hgood.out j (by omega)
          subst he
          have hq2 : (x.toList == x.toList) = true := by simp
          go_wp2
          go_quiet (fail)
          go_wp2
          go_roundw
          case rel => exact ⟨k + 1, by omega, by go_num, HG, below_drewN hb _⟩
          case measure => simp [intOf]; omega
        · have heq : (x.toList == y.toList) = false := (Lib.bytes_beq_false_iff _ _).2 he
          have HE : Hid (xs ≠ ys) := Lib.hid fun e => he (by rw [← HX.out, ← HY.out, e])
          clear he
          go_wp2
          go_quiet (fail)
          go_wp2
          go_ret
          exact ⟨by rw [decide_eq_false HE.out]; rfl, below_drewN hb _⟩
      · have HE : Hid (xs = ys) := Lib.hid (by
          have h1 := HA.out.len
          have h2 := HA'.out.len
          refine List.ext_getElem (by omega) fun j hj hj' => ?_
          have := hgood.out j (by omega)
          unfold at_ at this
          simpa [List.getD, List.getElem?_eq_getElem hj, List.getElem?_eq_getElem hj'] using this)
        go_wp2
        go_ret
        exact ⟨by rw [decide_eq_true HE.out]; rfl, hb⟩
  · have hq : ((n : Int) != n') = true := by rw [bne_iff_ne]; omega
    have HE : Hid (xs ≠ ys) := Lib.hid fun e => hl (by rw [HA.out.len, HA'.out.len, e])
    clear hl
    go_enter Tryz.func50, Tryz.ntmps50
    go_wp2
    go_ret
    exact ⟨by rw [decide_eq_false HE.out]; rfl, Below.refl _ _⟩

set_option maxHeartbeats 1000000 in
theorem eqEdge_any {w : World} {a : Option Addr} {n c : Nat} {l : List Edg} {a' : Option Addr} {n' c' : Nat} {l' : List Edg} (A : EdgeArg w a n c l) (A' : EdgeArg w a' n' c' l') :
    Calls Tryz.prog 52 #[.slice a n c, .slice a' n' c'] w fun e w' => e = .returned (.bool (decide (l = l'))) ∧ Below w.heap.size w w' := by
  have HA := Lib.hid A
  have HA' := Lib.hid A'
  have h1 : n ≤ 140737488355328 := by have := A.cap; have := A.big; omega
  have h2 : n' ≤ 140737488355328 := by have := A'.cap; have := A'.big; omega
  clear A A'
  by_cases hl : n = n'
  · subst hl
    have hq : ((n : Int) != n) = false := by simp
    go_enter Tryz.func52, Tryz.ntmps52
    go_wp2
    go_loopw [5, 13] (fun _ i wr => ∃ k : Nat, k ≤ n ∧ i = .int .i64 k ∧ Hid (∀ j, j < k → edAt l j = edAt l' j) ∧ Below w.heap.size w wr) (fun _ i _ => n - (intOf i).toNat)
    case atStart => exact ⟨0, Nat.zero_le _, rfl, Lib.hid fun j hj => absurd hj (Nat.not_lt_zero _), Below.refl _ _⟩
    case round =>
      obtain ⟨k, hk, rfl, hgood, hb⟩ := hrel
      by_cases hlt : k < n
      · obtain ⟨b, off, rfl, c1, c2⟩ := (HA.out.cells.below hb) k (by have := HA.out.len; omega)
        obtain ⟨b', off', rfl, d1, d2⟩ := (HA'.out.cells.below hb) k (by have := HA'.out.len; omega)
        obtain ⟨x, HX⟩ : ∃ x, Hid ((edAt l k).1 = x) := ⟨_, Lib.hid rfl⟩
        obtain ⟨y, HY⟩ : ∃ y, Hid ((edAt l k).2 = y) := ⟨_, Lib.hid rfl⟩
        obtain ⟨x', HX'⟩ : ∃ x, Hid ((edAt l' k).1 = x) := ⟨_, Lib.hid rfl⟩
        obtain ⟨y', HY'⟩ : ∃ y, Hid ((edAt l' k).2 = y) := ⟨_, Lib.hid rfl⟩
        rw [HX.out] at c1
        rw [HY.out] at c2
        rw [HX'.out] at d1
        rw [HY'.out] at d2
        have hgd := guardE .neq
        have hk0 : (0 : Int) ≤ (k : Int) := by omega
        have hk1 : (k : Int) < (n : Int) := by omega
        by_cases he : (x, y) = (x', y')
        · obtain ⟨rfl, rfl⟩ := Prod.mk.inj he
          have hne := neqE x y x y
          rw [show (!(x == x && y == y)) = false by simp] at hne
          have HG : Hid (∀ j, j < k + 1 → edAt l j = edAt l' j) := Lib.hid fun j hj => by
            by_cases e : j = k
            · rw [e]; exact Prod.ext (HX.out.trans HX'.out.symm) (HY.out.trans HY'.out.symm)
            · exact hgood.out j (by omega)
          clear he
          go_wp2
          go_quiet (fail)
          go_wp2
          go_roundw
          case rel => exact ⟨k + 1, by omega, by go_num, HG, below_drewN hb _⟩
          case measure => simp [intOf]; omega
        · have hne := neqE x y x' y'
          rw [show (!(x == x' && y == y')) = true by
            by_cases h1 : x = x'
            · have h2 : y ≠ y' := fun h => he (by rw [h1, h])
              simp [h2]
            · simp [h1]] at hne
          have HE : Hid (l ≠ l') := Lib.hid fun e => he (by rw [← HX.out, ← HY.out, ← HX'.out, ← HY'.out, e])
          clear he
          go_wp2
          go_quiet (fail)
          go_wp2
          go_ret
          exact ⟨by rw [decide_eq_false HE.out]; rfl, below_drewN hb _⟩
      · have HB : Hid (l = l') := Lib.hid (edges_ext (by have := HA.out.len; have := HA'.out.len; omega) fun j hj => hgood.out j (by have := HA.out.len; omega))
        go_wp2
        go_ret
        exact ⟨by rw [decide_eq_true HB.out]; rfl, hb⟩
  · have hq : ((n : Int) != n') = true := by rw [bne_iff_ne]; omega
    have HE : Hid (l ≠ l') := Lib.hid fun e => hl (by rw [HA.out.len, HA'.out.len, e])
    clear hl
    go_enter Tryz.func52, Tryz.ntmps52
    go_wp2
    go_ret
    exact ⟨by rw [decide_eq_false HE.out]; rfl, Below.refl _ _⟩

set_option maxHeartbeats 1000000 in
theorem eqFunc_any {w : World} {b : Option Addr} {k d : Nat} {ss : List (List Edg)} {b' : Option Addr} {k' d' : Nat} {ss' : List (List Edg)} (hk : k = ss.length) (hk' : k' = ss'.length) (h2 : k ≤ 140737488355328) (h2' : k' ≤ 140737488355328) (R : RowsIn w b ss) (R' : RowsIn w b' ss') :
    Calls Tryz.prog 51 #[.slice b k d, .slice b' k' d', .func (.func 52) #[] #[]] w fun e w' => e = .returned (.bool (decide (ss = ss'))) ∧ Below w.heap.size w w' := by
  have HR := Lib.hid R
  have HR' := Lib.hid R'
  have HK := Lib.hid hk
  have HK' := Lib.hid hk'
  clear R R' hk hk'
  by_cases hl : k = k'
  · subst hl
    have hq : ((k : Int) != k) = false := by simp
    go_enter Tryz.func51, Tryz.ntmps51
    go_wp2
    go_loopw [7, 8, 9, 17] (fun _ _ _ i wr => ∃ j : Nat, j ≤ k ∧ i = .int .i64 j ∧ Hid (∀ x, x < j → stAt ss x = stAt ss' x) ∧ Below w.heap.size w wr) (fun _ _ _ i _ => k - (intOf i).toNat)
    case atStart => exact ⟨0, Nat.zero_le _, rfl, Lib.hid fun x hx => by omega, Below.refl _ _⟩
    case round =>
      obtain ⟨j, hj, rfl, ht, hb⟩ := hrel
      by_cases hlt : j < k
      · obtain ⟨bb, off, rfl, ai, ni, ci, c1, hE⟩ := (HR.out.below hb) j (by have := HK.out; omega)
        obtain ⟨bb', off', rfl, ai', ni', ci', c1', hE'⟩ := (HR'.out.below hb) j (by have := HK'.out; omega)
        have HE := Lib.hid (eqEdge_any (w := wr) hE hE')
        clear hE hE'
        by_cases hes : stAt ss j = stAt ss' j
        · have HG : Hid (∀ x, x < j + 1 → stAt ss x = stAt ss' x) := Lib.hid fun x hx => by
            by_cases e : x = j
            · rw [e]; exact hes
            · exact ht.out x (by omega)
          rw [decide_eq_true hes] at HE
          clear hes
          go_wp2_with fail
          refine HE.out.mono ?_
          rintro e w1 ⟨rfl, hb1⟩
          go_wp2
          go_roundw
          case rel => exact ⟨j + 1, by omega, by go_num, HG, hb.trans (hb1.mono hb.size)⟩
          case measure => simp [intOf]; omega
        · have HB : Hid (ss ≠ ss') := Lib.hid (fun e => hes (by rw [e]))
          rw [decide_eq_false hes] at HE
          clear hes
          go_wp2_with fail
          refine HE.out.mono ?_
          rintro e w1 ⟨rfl, hb1⟩
          go_wp2
          go_ret
          exact ⟨by rw [decide_eq_false HB.out]; rfl, hb.trans (hb1.mono hb.size)⟩
      · have HB : Hid (ss = ss') := Lib.hid (states_ext (by have := HK.out; have := HK'.out; omega) (fun x hx => ht.out x (by have := HK.out; omega)))
        go_wp2
        go_ret
        exact ⟨by rw [decide_eq_true HB.out]; rfl, hb⟩
  · have hq : ((k : Int) != k') = true := by rw [bne_iff_ne]; omega
    have HB : Hid (ss ≠ ss') := Lib.hid (fun e => hl (by rw [HK.out, HK'.out, e]))
    clear hl
    go_enter Tryz.func51, Tryz.ntmps51
    go_wp2
    go_ret
    exact ⟨by rw [decide_eq_false HB.out]; rfl, Below.refl _ _⟩

set_option maxHeartbeats 1000000 in
theorem SSame_any {w : World} {a : Option Addr} {n c : Nat} {b : Option Addr} {k d : Nat} {m : Syst} {a' : Option Addr} {n' c' : Nat} {b' : Option Addr} {k' d' : Nat} {m' : Syst} (A : SysArg w a n c b k d m) (A' : SysArg w a' n' c' b' k' d' m') :
    Calls Tryz.prog 19 #[.agg #[.slice a n c, .slice b k d], .agg #[.slice a' n' c', .slice b' k' d']] w fun e w' => e = .returned (.bool (sameB m m')) ∧ Below w.heap.size w w' := by
  have hB := ((Below.refl w.heap.size w).alloc (Nat.le_refl _) (.cells #[.slice a n c, .slice b k d] 25)).alloc (by simp) (.cells #[.slice a' n' c', .slice b' k' d'] 25)
  have hw1 := (Whole.new w 25 #[.slice a n c, .slice b k d]).alloc (.cells #[.slice a' n' c', .slice b' k' d'] 25)
  have hw2 := Whole.new (w.alloc (.cells #[.slice a n c, .slice b k d] 25)) 25 #[.slice a' n' c', .slice b' k' d']
  have HS := Lib.hid (eqStr_any (A.acts.below hB) (A'.acts.below hB))
  have HA := Lib.hid A
  have HA' := Lib.hid A'
  have h2 : k ≤ 140737488355328 := by have := A.cap; have := A.big; omega
  have h2' : k' ≤ 140737488355328 := by have := A'.cap; have := A'.big; omega
  have HBB := Lib.hid hB
  have HW1 := Lib.hid hw1
  have HW2 := Lib.hid hw2
  clear A A' hB hw1 hw2
  by_cases ha : m.acts = m'.acts
  · rw [decide_eq_true ha] at HS
    have HV : Hid (sameB m m' = decide (m.states = m'.states)) := Lib.hid (by unfold sameB; rw [decide_eq_true ha]; rfl)
    clear ha
    go_enter Tryz.func19, Tryz.ntmps19
    go_wp2_with fail
    refine HS.out.mono ?_
    rintro e w1 ⟨rfl, hb1⟩
    have x1 := HW1.out.below hb1 HW1.out.lt
    have x2 := HW2.out.below hb1 HW2.out.lt
    have k1 := x1.cell 1
    have k2 := x2.cell 1
    have HB1 := Lib.hid (HBB.out.trans (hb1.mono HBB.out.size))
    have HF := Lib.hid (eqFunc_any (d := d) (d' := d') HA.out.len HA'.out.len h2 h2' (HA.out.rows.below HB1.out) (HA'.out.rows.below HB1.out))
    simp only [List.getElem?_toArray, List.getElem?_cons_succ, List.getElem?_cons_zero, World.size_alloc] at k1 k2
    clear hb1 x1 x2
    go_wp2_with fail
    refine HF.out.mono ?_
    rintro e w2 ⟨rfl, hb2⟩
    go_wp2
    go_ret
    exact ⟨by rw [HV.out]; rfl, HB1.out.trans (hb2.mono HB1.out.size)⟩
  · have HV : Hid (sameB m m' = false) := Lib.hid (by unfold sameB; rw [decide_eq_false ha]; rfl)
    rw [decide_eq_false ha] at HS
    clear ha
    go_enter Tryz.func19, Tryz.ntmps19
    go_wp2_with fail
    refine HS.out.mono ?_
    rintro e w1 ⟨rfl, hb1⟩
    go_wp2
    go_ret
    exact ⟨by rw [HV.out]; rfl, HBB.out.trans (hb1.mono HBB.out.size)⟩
end Go.Proofs.YtlnncklanabbdaaGreatDoor
