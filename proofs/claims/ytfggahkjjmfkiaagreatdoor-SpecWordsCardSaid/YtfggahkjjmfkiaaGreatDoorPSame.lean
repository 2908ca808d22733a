/- spec.Same, and what it calls. -/
import Derived.Test.YtfggahkjjmfkiaaGreatDoorSpec
import Derived.Test.YtfggahkjjmfkiaaGreatDoorOwnKit
namespace Go.Proofs.YtfggahkjjmfkiaaGreatDoor
open Go.RowKit Pl

theorem ints_ext {xs ys : List Int} (h : xs.length = ys.length) (h' : ∀ j, j < xs.length → xs.getD j 0 = ys.getD j 0) : xs = ys := by
  refine List.ext_getElem h fun j hj hj' => ?_
  have := h' j hj
  simpa [List.getD, List.getElem?_eq_getElem hj, List.getElem?_eq_getElem hj'] using this
theorem stes_ext {l m : List Ste} (h : l.length = m.length) (h' : ∀ k, k < l.length → teAt l k = teAt m k) : l = m := by
  refine List.ext_getElem h fun k hk hk' => ?_
  have := h' k hk
  unfold teAt at this
  rwa [List.getD_eq_getElem?_getD, List.getD_eq_getElem?_getD, List.getElem?_eq_getElem hk, List.getElem?_eq_getElem hk', Option.getD_some, Option.getD_some] at this
def sameP (s t : Spc) : Bool := decide (s.acts = t.acts) && decide (s.states = t.states)
theorem sameP_iff (s t : Spc) : sameP s t = true ↔ s = t := by
  cases s; cases t; simp [sameP]

set_option maxHeartbeats 1000000 in
theorem eqInt_any {w : World} {a : Option Addr} {n c : Nat} {xs : List Int} {a' : Option Addr} {n' c' : Nat} {ys : List Int} (A : IntArg w a n c xs) (A' : IntArg w a' n' c' ys) :
    Calls Tryz.prog 114 #[.slice a n c, .slice a' n' c'] w fun e w' => e = .returned (.bool (decide (xs = ys))) ∧ Below w.heap.size w w' := by
  have HA := Lib.hid A
  have HA' := Lib.hid A'
  have h1 : n ≤ 9223372036854775807 := A.big
  have h2 : n' ≤ 9223372036854775807 := A'.big
  clear A A'
  by_cases hl : n = n'
  · subst hl
    have hq : ((n : Int) != n) = false := by simp
    go_enter Tryz.func114, Tryz.ntmps114
    go_wp2
    go_loopw [5, 13] (fun _ i wr => ∃ k : Nat, k ≤ n ∧ i = .int .i64 k ∧ Hid (∀ j, j < k → xs.getD j 0 = ys.getD j 0) ∧ Below w.heap.size w wr) (fun _ i _ => n - (intOf i).toNat)
    case atStart => exact ⟨0, Nat.zero_le _, rfl, Lib.hid fun j hj => absurd hj (Nat.not_lt_zero _), Below.refl _ _⟩
    case round =>
      obtain ⟨k, hk, rfl, hgood, hb⟩ := hrel
      by_cases hlt : k < n
      · obtain ⟨b, off, rfl, c1⟩ := (HA.out.below hb).cells k (by have := HA.out.len; omega)
        obtain ⟨b', off', rfl, d1⟩ := (HA'.out.below hb).cells k (by have := HA'.out.len; omega)
        obtain ⟨x, HX⟩ : ∃ x, Hid (xs.getD k 0 = x) := ⟨_, Lib.hid rfl⟩
        obtain ⟨y, HY⟩ : ∃ y, Hid (ys.getD k 0 = y) := ⟨_, Lib.hid rfl⟩
        rw [HX.out] at c1
        rw [HY.out] at d1
        have hk0 : (0 : Int) ≤ (k : Int) := by omega
        have hk1 : (k : Int) < (n : Int) := by omega
        by_cases he : x = y
        · have HG : Hid (∀ j, j < k + 1 → xs.getD j 0 = ys.getD j 0) := Lib.hid fun j hj => by
            by_cases e : j = k
            · rw [e, HX.out, HY.out]; exact he
            · exact hgood.out j (by omega)
          subst he
          have hq2 : (x != x) = false := by simp
          go_wp2
          go_quiet (fail)
          go_wp2
          go_roundw
          case rel => exact ⟨k + 1, by omega, by go_num, HG, below_drewN hb _⟩
          case measure => simp [intOf]; omega
        · have heq : (x != y) = true := by rw [bne_iff_ne]; exact he
          have HE : Hid (xs ≠ ys) := Lib.hid fun e => he (by rw [← HX.out, ← HY.out, e])
          clear he
          go_wp2
          go_quiet (fail)
          go_wp2
          go_ret
          exact ⟨by rw [decide_eq_false HE.out]; rfl, below_drewN hb _⟩
      · have HE : Hid (xs = ys) := Lib.hid (ints_ext (by have := HA.out.len; have := HA'.out.len; omega) fun j hj => hgood.out j (by have := HA.out.len; omega))
        go_wp2
        go_ret
        exact ⟨by rw [decide_eq_true HE.out]; rfl, hb⟩
  · have hq : ((n : Int) != n') = true := by rw [bne_iff_ne]; omega
    have HE : Hid (xs ≠ ys) := Lib.hid fun e => hl (by rw [HA.out.len, HA'.out.len, e])
    clear hl
    go_enter Tryz.func114, Tryz.ntmps114
    go_wp2
    go_ret
    exact ⟨by rw [decide_eq_false HE.out]; rfl, Below.refl _ _⟩

set_option maxHeartbeats 1000000 in
theorem sameState_any {w : World} {a1 a2 b1 b2 : Option Addr} {n1 c1 n2 c2 m1 d1 m2 d2 : Nat} {t u : Ste} (A : IntArg w a1 n1 c1 t.1) (B : IntArg w a2 n2 c2 t.2) (A' : IntArg w b1 m1 d1 u.1) (B' : IntArg w b2 m2 d2 u.2) :
    Calls Tryz.prog 59 #[.agg #[.slice a1 n1 c1, .slice a2 n2 c2], .agg #[.slice b1 m1 d1, .slice b2 m2 d2]] w fun e w' => e = .returned (.bool (decide (t = u))) ∧ Below w.heap.size w w' := by
  have hB := ((Below.refl w.heap.size w).alloc (Nat.le_refl _) (.cells #[.slice a1 n1 c1, .slice a2 n2 c2] 88)).alloc (by simp) (.cells #[.slice b1 m1 d1, .slice b2 m2 d2] 88)
  have hw1 := (Whole.new w 88 #[.slice a1 n1 c1, .slice a2 n2 c2]).alloc (.cells #[.slice b1 m1 d1, .slice b2 m2 d2] 88)
  have hw2 := Whole.new (w.alloc (.cells #[.slice a1 n1 c1, .slice a2 n2 c2] 88)) 88 #[.slice b1 m1 d1, .slice b2 m2 d2]
  simp only [World.size_alloc] at hw2
  have HS := Lib.hid (eqInt_any (A.below hB) (A'.below hB))
  have HB := Lib.hid B
  have HB' := Lib.hid B'
  have HBB := Lib.hid hB
  have HW1 := Lib.hid hw1
  have HW2 := Lib.hid hw2
  clear A B A' B' hB hw1 hw2
  by_cases ha : t.1 = u.1
  · rw [decide_eq_true ha] at HS
    have HV : Hid (decide (t = u) = decide (t.2 = u.2)) := Lib.hid (by
      rw [decide_eq_decide]
      exact ⟨fun e => by rw [e], fun e => Prod.ext ha e⟩)
    clear ha
    go_enter Tryz.func59, Tryz.ntmps59
    go_wp2_with fail
    refine HS.out.mono ?_
    rintro e w1 ⟨rfl, hb1⟩
    have x1 := HW1.out.below hb1 HW1.out.lt
    have x2 := HW2.out.below hb1 HW2.out.lt
    have k1 := x1.cell 1
    have k2 := x2.cell 1
    have HB1 := Lib.hid (HBB.out.trans (hb1.mono HBB.out.size))
    have HF := Lib.hid (eqInt_any (HB.out.below HB1.out) (HB'.out.below HB1.out))
    simp only [List.getElem?_toArray, List.getElem?_cons_succ, List.getElem?_cons_zero] at k1 k2
    clear hb1 x1 x2
    go_wp2_with fail
    refine HF.out.mono ?_
    rintro e w2 ⟨rfl, hb2⟩
    go_wp2
    go_ret
    exact ⟨by rw [HV.out]; rfl, HB1.out.trans (hb2.mono HB1.out.size)⟩
  · have HV : Hid (decide (t = u) = false) := Lib.hid (decide_eq_false fun e => ha (by rw [e]))
    rw [decide_eq_false ha] at HS
    clear ha
    go_enter Tryz.func59, Tryz.ntmps59
    go_wp2_with fail
    refine HS.out.mono ?_
    rintro e w1 ⟨rfl, hb1⟩
    go_wp2
    go_ret
    exact ⟨by rw [HV.out]; rfl, HBB.out.trans (hb1.mono HBB.out.size)⟩

set_option maxHeartbeats 2000000 in
theorem eqStes_any {w : World} {b : Option Addr} {k d : Nat} {ss : List Ste} {b' : Option Addr} {k' d' : Nat} {ss' : List Ste} (hk : k = ss.length) (hk' : k' = ss'.length) (h2 : k ≤ 140737488355328) (h2' : k' ≤ 140737488355328) (R : StesIn w b ss) (R' : StesIn w b' ss') :
    Calls Tryz.prog 58 #[.slice b k d, .slice b' k' d', .func (.func 59) #[] #[]] w fun e w' => e = .returned (.bool (decide (ss = ss'))) ∧ Below w.heap.size w w' := by
  have HR := Lib.hid R
  have HR' := Lib.hid R'
  have HK := Lib.hid hk
  have HK' := Lib.hid hk'
  clear R R' hk hk'
  by_cases hl : k = k'
  · subst hl
    have hq : ((k : Int) != k) = false := by simp
    go_enter Tryz.func58, Tryz.ntmps58
    go_wp2
    go_loopw [7, 8, 9, 17] (fun _ _ _ i wr => ∃ j : Nat, j ≤ k ∧ i = .int .i64 j ∧ Hid (∀ x, x < j → teAt ss x = teAt ss' x) ∧ Below w.heap.size w wr) (fun _ _ _ i _ => k - (intOf i).toNat)
    case atStart => exact ⟨0, Nat.zero_le _, rfl, Lib.hid fun x hx => by omega, Below.refl _ _⟩
    case round =>
      obtain ⟨j, hj, rfl, ht, hb⟩ := hrel
      by_cases hlt : j < k
      · obtain ⟨bb, off, rfl, a1, n1, c1, a2, n2, c2, d1, d2, hN1, hN2⟩ := (HR.out.below hb) j (by have := HK.out; omega)
        obtain ⟨bb', off', rfl, b1, m1, e1, b2, m2, e2, f1, f2, hM1, hM2⟩ := (HR'.out.below hb) j (by have := HK'.out; omega)
        have g1 := cell_new f1 (.cells #[.slice a1 n1 c1, .slice a2 n2 c2] 88)
        have g2 := cell_new f2 (.cells #[.slice a1 n1 c1, .slice a2 n2 c2] 88)
        have hbl : Below wr.heap.size wr ((wr.alloc (.cells #[.slice a1 n1 c1, .slice a2 n2 c2] 88)).alloc (.cells #[.slice b1 m1 e1, .slice b2 m2 e2] 88)) := ((Below.refl _ wr).alloc (Nat.le_refl _) _).alloc (by simp) _
        have HE := Lib.hid (sameState_any (hN1.arg.below hbl) (hN2.arg.below hbl) (hM1.arg.below hbl) (hM2.arg.below hbl))
        have hjj : (j : Int) < (k : Int) := by omega
        have hj0 : (0 : Int) ≤ (j : Int) := by omega
        have HBl := Lib.hid (hb.trans (hbl.mono hb.size))
        clear hN1 hN2 hM1 hM2 hbl
        by_cases hes : teAt ss j = teAt ss' j
        · have HG : Hid (∀ x, x < j + 1 → teAt ss x = teAt ss' x) := Lib.hid fun x hx => by
            by_cases e : x = j
            · rw [e]; exact hes
            · exact ht.out x (by omega)
          rw [decide_eq_true hes] at HE
          clear hes
          go_wp2_with fail
          refine HE.out.mono ?_
          rintro e w1 ⟨rfl, hb1⟩
          go_wp2
          go_roundw
          case rel => exact ⟨j + 1, by omega, by go_num, HG, HBl.out.trans (hb1.mono HBl.out.size)⟩
          case measure => simp [intOf]; omega
        · have HB : Hid (ss ≠ ss') := Lib.hid (fun e => hes (by rw [e]))
          rw [decide_eq_false hes] at HE
          clear hes
          go_wp2_with fail
          refine HE.out.mono ?_
          rintro e w1 ⟨rfl, hb1⟩
          go_wp2
          go_ret
          exact ⟨by rw [decide_eq_false HB.out]; rfl, HBl.out.trans (hb1.mono HBl.out.size)⟩
      · have HB : Hid (ss = ss') := Lib.hid (stes_ext (by have := HK.out; have := HK'.out; omega) (fun x hx => ht.out x (by have := HK.out; omega)))
        go_wp2
        go_ret
        exact ⟨by rw [decide_eq_true HB.out]; rfl, hb⟩
  · have hq : ((k : Int) != k') = true := by rw [bne_iff_ne]; omega
    have HB : Hid (ss ≠ ss') := Lib.hid (fun e => hl (by rw [HK.out, HK'.out, e]))
    clear hl
    go_enter Tryz.func58, Tryz.ntmps58
    go_wp2
    go_ret
    exact ⟨by rw [decide_eq_false HB.out]; rfl, Below.refl _ _⟩
end Go.Proofs.YtfggahkjjmfkiaaGreatDoor
