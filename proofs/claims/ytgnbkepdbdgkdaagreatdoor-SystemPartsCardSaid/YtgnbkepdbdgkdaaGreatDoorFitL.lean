/- slices.Contains at numbers; spec: allFit, by slices.ContainsFunc at a function literal. -/
import Derived.Test.YtgnbkepdbdgkdaaGreatDoorJq26
import Derived.Test.YtgnbkepdbdgkdaaGreatDoorJq19
import Derived.Test.YtgnbkepdbdgkdaaGreatDoorJq17
import Derived.Test.YtgnbkepdbdgkdaaGreatDoorRelPlL
namespace Go.Proofs.YtgnbkepdbdgkdaaGreatDoor
open Go.RowKit Pl

set_option maxHeartbeats 1000000 in
theorem idxI_any {w : World} {a : Option Addr} {n c : Nat} {xs : List Int} (A : IntArg w a n c xs) (x : Int) :
    Calls Tryz.prog 137 #[.slice a n c, .int .i64 x] w fun e w' => ∃ i : Int, e = .returned (.int .i64 i) ∧ -1 ≤ i ∧ (0 ≤ i ↔ x ∈ xs) ∧ w = w' := by
  have HA := Lib.hid A
  have hn : n ≤ 9223372036854775807 := A.big
  clear A
  go_enter Tryz.func137, Tryz.ntmps137
  go_wp2
  go_loop [5, 8] (fun _ p => ∃ j : Nat, j ≤ n ∧ p = .int .i64 j ∧ Hid (x ∉ xs.take j)) (fun _ p => n - (intOf p).toNat)
  case atStart => exact ⟨0, Nat.zero_le _, rfl, Lib.hid (by simp)⟩
  case round =>
    obtain ⟨j, hj, rfl, hne⟩ := hrel
    by_cases hlt : j < n
    · have hjx : j < xs.length := by have := HA.out.len; omega
      obtain ⟨b, off, rfl, c1⟩ := HA.out.cells j hjx
      obtain ⟨y, HY⟩ : ∃ y, Hid (xs.getD j 0 = y) := ⟨_, Lib.hid rfl⟩
      change w.cell? _ = some (.int .i64 (xs.getD j 0)) at c1
      rw [HY.out] at c1
      have HT := Lib.hid (take_next xs j 0 hjx)
      have hj0 : (0 : Int) ≤ (j : Int) := by omega
      have hj1 : (j : Int) < (n : Int) := by omega
      by_cases he : x = y
      · have hq : (x == y) = true := by rw [he]; simp
        have HM : Hid (decide (x ∈ xs) = true) := Lib.hid (decide_eq_true (by
          rw [he, ← HY.out, List.getD_eq_getElem?_getD, List.getElem?_eq_getElem hjx]
          exact List.getElem_mem hjx))
        subst he
        go_wp2
        go_ret
        exact ⟨j, rfl, by omega, ⟨fun _ => of_decide_eq_true HM.out, fun _ => by omega⟩, rfl⟩
      · have hq : (x == y) = false := by rw [beq_eq_false_iff_ne]; exact he
        have HN : Hid (x ∉ xs.take (j + 1)) := Lib.hid (by
          rw [HT.out, List.mem_append, List.mem_singleton, HY.out]
          rintro (h | h)
          · exact hne.out h
          · exact he h)
        clear hjx
        go_wp2
        go_round
        case rel => exact ⟨j + 1, by omega, by go_num, HN⟩
        case measure => simp [intOf]; omega
    · have HM : Hid (decide (x ∈ xs) = false) := Lib.hid (decide_eq_false (by
        have := hne.out
        rwa [List.take_of_length_le (by have := HA.out.len; omega)] at this))
      go_wp2
      go_ret
      exact ⟨-1, rfl, by omega, ⟨fun h => by omega, fun h => absurd h (of_decide_eq_false HM.out)⟩, rfl⟩
set_option maxHeartbeats 1000000 in
theorem hasI_any {w : World} {a : Option Addr} {n c : Nat} {xs : List Int} (A : IntArg w a n c xs) (x : Int) :
    Calls Tryz.prog 105 #[.slice a n c, .int .i64 x] w fun e w' => e = .returned (.bool (decide (x ∈ xs))) ∧ w = w' := by
  have HC := Lib.hid (idxI_any A x)
  clear A
  obtain ⟨q, HQ⟩ : ∃ q, Hid (decide (x ∈ xs) = q) := ⟨_, Lib.hid rfl⟩
  go_enter Tryz.func105, Tryz.ntmps105
  go_wp2_with fail
  refine HC.out.mono ?_
  rintro e w' ⟨i, rfl, hi, hd, rfl⟩
  have HD : Hid (decide (0 ≤ i) = q) := Lib.hid (by rw [← HQ.out]; exact decide_eq_decide.2 hd)
  clear hd
  go_wp2
  go_ret
  exact ⟨by rw [HQ.out, ← HD.out]; rfl, rfl⟩

set_option maxRecDepth 100000 in
set_option maxHeartbeats 4000000 in
theorem fit1_any {w : World} {B : Nat} {a : Option Addr} {n c : Nat} {b : Option Addr} {k d : Nat} {m : Syst} {a' : Option Addr} {n' c' : Nat} {b' : Option Addr} {k' d' : Nat} {s : Spc} {oa : Option Addr} {oc R x y C1 C2 : Nat} (h : TrArg w B a n c b k d m a' n' c' b' k' d' s (.slice oa k oc) R) (hm : sysB m = true) (hx : x < k) (hy : y < k') (hk : k ≤ 1000000) (hk' : k' ≤ 1000000)
    (h1 : Whole w C1 123 #[.slice a n c, .slice b k d, .slice a' n' c', .slice b' k' d', .slice oa k oc, .slice (some ⟨R, 0, none⟩) k' k']) (h2 : w.cell? ⟨C2, 0, none⟩ = some (.int .i64 (y : Int))) :
    Calls Tryz.prog 136 #[.int .i64 x, .pointer (some ⟨C1, 0, none⟩), .pointer (some ⟨C2, 0, none⟩)] w fun e w' => e = .returned (.bool (!fitB m s x y)) ∧ Below w.heap.size w w' := by
  have HC := Lib.hid (fits_any h hm hx hy hk hk')
  have c0 := h1.cell 0
  have c1 := h1.cell 1
  have c2 := h1.cell 2
  have c3 := h1.cell 3
  have c4 := h1.cell 4
  have c5 := h1.cell 5
  simp only [List.getElem?_toArray, List.getElem?_cons_succ, List.getElem?_cons_zero] at c0 c1 c2 c3 c4 c5
  obtain ⟨q, HQ⟩ : ∃ q, Hid (fitB m s x y = q) := ⟨_, Lib.hid rfl⟩
  rw [HQ.out] at HC ⊢
  clear h h1
  go_enter Tryz.func136, Tryz.ntmps136
  go_wp2_with fail
  refine HC.out.mono ?_
  rintro e w' ⟨rfl, hb⟩
  have HB := Lib.hid hb
  clear hb
  go_wp2
  go_ret
  exact ⟨rfl, HB.out⟩

set_option maxRecDepth 100000 in
set_option maxHeartbeats 4000000 in
theorem idxF_any {w : World} {B : Nat} {a : Option Addr} {n c : Nat} {b : Option Addr} {k d : Nat} {m : Syst} {a' : Option Addr} {n' c' : Nat} {b' : Option Addr} {k' d' : Nat} {s : Spc} {oa : Option Addr} {oc R y C1 C2 : Nat} (h : TrArg w B a n c b k d m a' n' c' b' k' d' s (.slice oa k oc) R) (hm : sysB m = true) (hy : y < k') (hk : k ≤ 1000000) (hk' : k' ≤ 1000000)
    (h1 : Whole w C1 123 #[.slice a n c, .slice b k d, .slice a' n' c', .slice b' k' d', .slice oa k oc, .slice (some ⟨R, 0, none⟩) k' k']) (h2 : w.cell? ⟨C2, 0, none⟩ = some (.int .i64 (y : Int))) {la : Option Addr} {ln lc : Nat} {l : List Nat} (A : IntArg w la ln lc (zs l)) (hl : ∀ x ∈ l, x < k) :
    Calls Tryz.prog 170 #[.slice la ln lc, .func (.func 136) #[] #[.pointer (some ⟨C1, 0, none⟩), .pointer (some ⟨C2, 0, none⟩)]] w fun e w' => ∃ i : Int, e = .returned (.int .i64 i) ∧ -1 ≤ i ∧ decide (0 ≤ i) = badB m s l y ∧ Below w.heap.size w w' := by
  have HT := Lib.hid h
  have H1 := Lib.hid h1
  have H2 := Lib.hid h2
  have HA := Lib.hid A
  have HL := Lib.hid hl
  have HM := Lib.hid hm
  have hn : ln ≤ 9223372036854775807 := A.big
  have HLn : Hid (l.length = ln) := Lib.hid (by rw [A.len, zs_len])
  have HBd : ∀ x, Hid (goodB m s x (y : Int) = fitB m s x y) := fun x => Lib.hid (by unfold goodB; rw [Int.toNat_natCast, decide_eq_true (by omega), Bool.true_and])
  clear h h1 h2 A hl hm
  go_enter Tryz.func170, Tryz.ntmps170
  go_wp2
  go_loopw [5, 8] (fun _ p wr => ∃ j : Nat, j ≤ ln ∧ p = .int .i64 j ∧ Hid (badB m s (l.take j) y = false) ∧ Hid (Below w.heap.size w wr)) (fun _ p _ => ln - (intOf p).toNat)
  case atStart => exact ⟨0, Nat.zero_le _, rfl, Lib.hid rfl, Lib.hid (Below.refl _ _)⟩
  case round =>
    obtain ⟨w1, hw1⟩ : ∃ z, z = wr := ⟨_, rfl⟩
    subst hw1
    obtain ⟨j, hj, rfl, hgd, hb⟩ := hrel
    by_cases hlt : j < ln
    · have hjl : j < l.length := by have := HLn.out; omega
      have hjx : j < (zs l).length := by rw [zs_len]; exact hjl
      obtain ⟨bb, off, rfl, c1⟩ := (HA.out.below hb.out).cells j hjx
      obtain ⟨x, HX⟩ : ∃ x, Hid (l[j]? = some x) := ⟨_, Lib.hid (List.getElem?_eq_getElem hjl)⟩
      have hzx : (zs l).getD j 0 = (x : Int) := by
        rw [List.getD_eq_getElem?_getD]
        unfold zs
        rw [List.getElem?_map, HX.out]
        rfl
      change w1.cell? _ = some (.int .i64 ((zs l).getD j 0)) at c1
      rw [hzx] at c1
      have hxk := HL.out x (List.mem_of_getElem? HX.out)
      have HC := fit1_any (HT.out.below hb.out) HM.out hxk hy hk hk' (H1.out.below hb.out H1.out.lt) ((hb.out.cell (lt_of_cell H2.out)).trans H2.out)
      have HTk : Hid (l.take (j + 1) = l.take j ++ [x]) := Lib.hid (take_one HX.out)
      have hj0 : (0 : Int) ≤ (j : Int) := by omega
      have hj1 : (j : Int) < (ln : Int) := by omega
      cases hf : fitB m s x y
      · rw [hf] at HC
        have HC := Lib.hid HC
        have HBy : Hid (badB m s l y = true) := Lib.hid (by
          unfold badB
          rw [List.any_eq_true]
          exact ⟨x, List.mem_of_getElem? HX.out, by rw [(HBd x).out, hf]; rfl⟩)
        clear hf hzx hjx hjl
        go_wp2_with fail
        refine HC.out.mono ?_
        rintro e w2 ⟨rfl, hb2⟩
        have HB2 := Lib.hid (hb.out.trans (hb2.mono hb.out.size))
        clear hb2
        go_wp2
        go_ret
        exact ⟨j, rfl, by omega, by rw [HBy.out]; exact decide_eq_true (by omega), HB2.out⟩
      · rw [hf] at HC
        have HC := Lib.hid HC
        have HBn : Hid (badB m s (l.take (j + 1)) y = false) := Lib.hid (by
          have h1 := hgd.out
          unfold badB at h1 ⊢
          rw [HTk.out, List.any_append, h1]
          simp [(HBd x).out, hf])
        clear hf hzx hjx hjl
        go_wp2_with fail
        refine HC.out.mono ?_
        rintro e w2 ⟨rfl, hb2⟩
        have HB2 := Lib.hid (hb.out.trans (hb2.mono hb.out.size))
        clear hb2
        go_wp2
        go_roundw
        case rel => exact ⟨j + 1, by omega, by go_num, HBn, HB2⟩
        case measure => simp [intOf]; omega
    · have HBn : Hid (badB m s l y = false) := Lib.hid (by
        have := hgd.out
        rwa [List.take_of_length_le (by rw [HLn.out]; omega)] at this)
      go_wp2
      go_ret
      exact ⟨-1, rfl, by omega, by rw [HBn.out]; rfl, hb.out⟩

set_option maxRecDepth 100000 in
set_option maxHeartbeats 4000000 in
theorem allFit_any {w : World} {B : Nat} {a : Option Addr} {n c : Nat} {b : Option Addr} {k d : Nat} {m : Syst} {a' : Option Addr} {n' c' : Nat} {b' : Option Addr} {k' d' : Nat} {s : Spc} {oa : Option Addr} {oc R y : Nat} (h : TrArg w B a n c b k d m a' n' c' b' k' d' s (.slice oa k oc) R) (hm : sysB m = true) (hy : y < k') (hk : k ≤ 1000000) (hk' : k' ≤ 1000000)
    {la : Option Addr} {ln lc : Nat} {l : List Nat} (A : IntArg w la ln lc (zs l)) (hl : ∀ x ∈ l, x < k) :
    Calls Tryz.prog 103 #[.agg #[.slice a n c, .slice b k d, .slice a' n' c', .slice b' k' d', .slice oa k oc, .slice (some ⟨R, 0, none⟩) k' k'], .slice la ln lc, .int .i64 y] w fun e w' => e = .returned (.bool (!badB m s l y)) ∧ Below w.heap.size w w' := by
  have hb0 := ((Below.refl w.heap.size w).alloc (Nat.le_refl _) (.cells #[.slice a n c, .slice b k d, .slice a' n' c', .slice b' k' d', .slice oa k oc, .slice (some ⟨R, 0, none⟩) k' k'] 123)).alloc (by simp) (.cells #[.int .i64 (y : Int)] 3)
  have h1 := (Whole.new w 123 #[.slice a n c, .slice b k d, .slice a' n' c', .slice b' k' d', .slice oa k oc, .slice (some ⟨R, 0, none⟩) k' k']).alloc (.cells #[.int .i64 (y : Int)] 3)
  have h2 := cell_first (w.alloc (.cells #[.slice a n c, .slice b k d, .slice a' n' c', .slice b' k' d', .slice oa k oc, .slice (some ⟨R, 0, none⟩) k' k'] 123)) (.int .i64 (y : Int)) 3
  simp only [World.size_alloc] at h2
  have hC := idxF_any (h.below hb0) hm hy hk hk' h1 h2 (A.below hb0) hl
  obtain ⟨w0, HW0⟩ : ∃ z, Hid ((w.alloc (.cells #[.slice a n c, .slice b k d, .slice a' n' c', .slice b' k' d', .slice oa k oc, .slice (some ⟨R, 0, none⟩) k' k'] 123)).alloc (.cells #[.int .i64 (y : Int)] 3) = z) := ⟨_, Lib.hid rfl⟩
  rw [HW0.out] at hb0 hC
  have HC := Lib.hid hC
  have HB0 := Lib.hid hb0
  clear h A hC hb0 h1 h2 hl
  have hF : Calls Tryz.prog 135 #[.slice la ln lc, .func (.func 136) #[] #[.pointer (some ⟨w.heap.size, 0, none⟩), .pointer (some ⟨w.heap.size + 1, 0, none⟩)]] w0 fun e w' => e = .returned (.bool (badB m s l y)) ∧ Below w0.heap.size w0 w' := by
    obtain ⟨q, HQ⟩ : ∃ q, Hid (badB m s l (y : Int) = q) := ⟨_, Lib.hid rfl⟩
    go_enter Tryz.func135, Tryz.ntmps135
    go_wp2_with fail
    refine HC.out.mono ?_
    rintro e w' ⟨i, rfl, hi, hd, hb⟩
    rw [HQ.out] at hd
    have HD := Lib.hid hd
    have HB := Lib.hid hb
    clear hd hb
    go_wp2
    go_ret
    exact ⟨by rw [HQ.out, ← HD.out]; rfl, HB.out⟩
  have HF := Lib.hid hF
  clear hF
  obtain ⟨q, HQ⟩ : ∃ q, Hid (badB m s l (y : Int) = q) := ⟨_, Lib.hid rfl⟩
  rw [HQ.out] at HF ⊢
  go_enter Tryz.func103, Tryz.ntmps103
  go_wp2_with fail
  rw [HW0.out]
  refine HF.out.mono ?_
  rintro e w' ⟨rfl, hb⟩
  have HB := Lib.hid (HB0.out.trans (hb.mono HB0.out.size))
  clear hb
  go_wp2
  go_ret
  exact ⟨rfl, HB.out⟩
end Go.Proofs.YtgnbkepdbdgkdaaGreatDoor
