/- The reference's Sorted: it parts a list, sorts both parts, and merges them. -/
import Derived.Test.YtgnbkepdbdgkdaaGreatDoorProdRefK
import Derived.Test.YtgnbkepdbdgkdaaGreatDoorJq32
import Derived.Test.YtgnbkepdbdgkdaaGreatDoorJq11
import Derived.Deep.RegionHeld3
namespace Go.Proofs.YtgnbkepdbdgkdaaGreatDoor
open Go.RowKit Pl

/-! ### parts of a list of numbers -/
theorem intLo_run (a : Option Addr) (n c k : Nat) (h : k ≤ n) (w' : World) : (Instr.slice 28 (.slice a n c) (some (.int .i64 k)) none none).run Tryz.prog w' = .ok (.slice (if c = k then a else a.map fun x => x.add k) (n - k) (c - k)) w' := by
  have h1 : (0 : Int) ≤ k := by omega
  have h2 : (k : Int) ≤ n := by omega
  go_simp
theorem intLo {w : World} {a : Option Addr} {n c : Nat} {xs : List Int} (A : IntArg w a n c xs) (k : Nat) (h : k ≤ n) :
    ∃ a', (∀ w', (Instr.slice 28 (.slice a n c) (some (.int .i64 k)) none none).run Tryz.prog w' = .ok (.slice a' (n - k) (c - k)) w') ∧ IntArg w a' (n - k) (c - k) (xs.drop k) := by
  refine ⟨_, intLo_run a n c k h, ⟨?_, by rw [List.length_drop, A.len], by have := A.cap; omega, by have := A.big; omega, fun j hj => ?_⟩⟩
  · intro e
    by_cases hc : c = k
    · omega
    · rw [if_neg hc] at e
      cases a with
      | none => have := A.nil rfl; omega
      | some x => cases e
  · rw [List.length_drop] at hj
    obtain ⟨b, off, rfl, hcell⟩ := A.cells (k + j) (by omega)
    have e : (xs.drop k).getD j 0 = xs.getD (k + j) 0 := by simp [List.getD]
    rw [e, if_neg (by have := A.cap; have := A.len; omega)]
    exact ⟨b, off + k, by simp [add_plainly], by rw [Nat.add_assoc]; exact hcell⟩
theorem intHi_run (a : Option Addr) (n c k : Nat) (h : k ≤ n) (hc : n ≤ c) (w' : World) : (Instr.slice 28 (.slice a n c) none (some (.int .i64 k)) none).run Tryz.prog w' = .ok (.slice a k c) w' := by
  have h1 : (0 : Int) ≤ k := by omega
  have h2 : (k : Int) ≤ c := by omega
  cases a with
  | none => go_simp
  | some x =>
    have e : x.add 0 = x := by unfold Addr.add; rw [if_pos rfl]
    go_simp
theorem intHi {w : World} {a : Option Addr} {n c : Nat} {xs : List Int} (A : IntArg w a n c xs) (k : Nat) (h : k ≤ n) : IntArg w a k c (xs.take k) :=
  ⟨A.nil, by rw [List.length_take, ← A.len]; omega, by have := A.cap; omega, by have := A.big; omega, fun j hj => by
    rw [List.length_take] at hj
    obtain ⟨b, off, e, hcell⟩ := A.cells j (by omega)
    refine ⟨b, off, e, ?_⟩
    rw [hcell, List.getD_eq_getElem?_getD, List.getD_eq_getElem?_getD, List.getElem?_take_of_lt (by omega)]⟩

/-! ### merging -/
structure Mrg (l lo l3 l4 : List Int) : Prop where
  perm : (lo ++ (l3 ++ l4)).Perm l
  so : RiseI lo
  s3 : RiseI l3
  s4 : RiseI l4
  low : ∀ x ∈ lo, ∀ y, y ∈ l3 ∨ y ∈ l4 → x ≤ y
theorem rise_snoc {lo : List Int} {x : Int} (h : RiseI lo) (hx : ∀ z ∈ lo, z ≤ x) : RiseI (lo ++ [x]) := by
  unfold RiseI
  rw [List.pairwise_append]
  exact ⟨h, by simp, fun a ha b hb => by
    rw [List.mem_singleton] at hb
    subst hb
    exact hx a ha⟩
theorem Mrg.left {l lo l3 l4 : List Int} {x y : Int} (h : Mrg l lo (x :: l3) (y :: l4)) (hxy : x ≤ y) : Mrg l (lo ++ [x]) l3 (y :: l4) := by
  have h3 := List.pairwise_cons.1 h.s3
  have h4 := List.pairwise_cons.1 h.s4
  refine ⟨by simpa using h.perm, rise_snoc h.so (fun z hz => h.low z hz x (.inl (by simp))), h3.2, h.s4, fun z hz u hu => ?_⟩
  rcases List.mem_append.1 hz with hz | hz
  · exact h.low z hz u (hu.imp (fun q => List.mem_cons_of_mem _ q) id)
  · rw [List.mem_singleton] at hz
    subst hz
    rcases hu with hu | hu
    · exact h3.1 u hu
    · rcases List.mem_cons.1 hu with rfl | hu
      · exact hxy
      · exact Int.le_trans hxy (h4.1 u hu)
theorem Mrg.right {l lo l3 l4 : List Int} {x y : Int} (h : Mrg l lo (x :: l3) (y :: l4)) (hxy : ¬ x ≤ y) : Mrg l (lo ++ [y]) (x :: l3) l4 := by
  have h3 := List.pairwise_cons.1 h.s3
  have h4 := List.pairwise_cons.1 h.s4
  refine ⟨?_, rise_snoc h.so (fun z hz => h.low z hz y (.inr (by simp))), h.s3, h4.2, fun z hz u hu => ?_⟩
  · refine List.Perm.trans ?_ h.perm
    rw [List.append_assoc]
    refine List.Perm.append_left lo ?_
    show (y :: ((x :: l3) ++ l4)).Perm ((x :: l3) ++ y :: l4)
    exact List.perm_middle.symm
  · rcases List.mem_append.1 hz with hz | hz
    · exact h.low z hz u (hu.imp id (fun q => List.mem_cons_of_mem _ q))
    · rw [List.mem_singleton] at hz
      subst hz
      rcases hu with hu | hu
      · rcases List.mem_cons.1 hu with rfl | hu
        · omega
        · have := h3.1 u hu
          omega
      · exact h4.1 u hu
theorem Mrg.done {l lo l3 l4 : List Int} (h : Mrg l lo l3 l4) (he : l3 = [] ∨ l4 = []) : (lo ++ l3 ++ l4).Perm l ∧ RiseI (lo ++ l3 ++ l4) := by
  refine ⟨by rw [List.append_assoc]; exact h.perm, ?_⟩
  unfold RiseI
  rcases he with rfl | rfl
  · rw [List.append_nil, List.pairwise_append]
    exact ⟨h.so, h.s4, fun a ha b hb => h.low a ha b (.inr hb)⟩
  · rw [List.append_nil, List.pairwise_append]
    exact ⟨h.so, h.s3, fun a ha b hb => h.low a ha b (.inl hb)⟩
def lenV : Value → Nat
  | .slice _ n _ => n
  | _ => 0

set_option maxHeartbeats 1000000 in
theorem Sorted_small {w : World} {a : Option Addr} {n c : Nat} {l : List Int} (A : IntArg w a n c l) (h : n < 2) :
    Calls Tryz.prog 52 #[.slice a n c] w fun e w' => ∃ v l', e = .returned v ∧ NumO w' w.heap.size v l' ∧ l'.Perm l ∧ RiseI l' ∧ Below w.heap.size w w' := by
  obtain ⟨iN, hiN, hN0, hN1, hN2⟩ := info_parts infoNum
  have HNil := Lib.hid A.nils
  have HLn : Hid ((l.map (Value.int .i64)).length = n * 1) := Lib.hid (by have := A.len; simp; omega)
  have HSrc := Lib.hid (ints_src A.cells)
  have HLl := Lib.hid A.len
  have h2 : (n : Int) < 2 := by omega
  have HR : Hid (RiseI l) := Lib.hid (by
    have := A.len
    match l, this with
    | [], _ => exact List.Pairwise.nil
    | [x], _ => exact List.pairwise_singleton _ _
    | x :: y :: t, e => simp at e; omega)
  clear A
  go_enter Tryz.func52, Tryz.ntmps52
  go_wp2_with (at_builtin; (refine wpList_append_sz rfl (.const (.slice none 0 0)) (.tmp 9) 28 rfl w.heap.size 3 iN (.int .i64 0) 1 8 Tryz.underlying28 hiN hN0 hN1 hN2 rfl (by decide) (.slice none 0 0) rfl 0 [] (World.ownsRow_nil _ _ _ _) a n c rfl (l.map (Value.int .i64)) HNil.out HLn.out HSrc.out (fun u hu => by obtain ⟨z, _, rfl⟩ := List.mem_map.1 hu; rfl) (by unfold maxLen; omega) (by omega) (Nat.le_refl _) ?_); intro v w1 hv hg hat; refine Hid.out ?_)
  refine Lib.hid ?_
  simp only [Nat.zero_add, List.nil_append] at hv
  rw [HLl.out] at hv
  have HV : Hid (NumO w1 w.heap.size v l) := Lib.hid hv
  have HB : Hid (Below w.heap.size w w1) := Lib.hid ((Below.refl _ w).grown hg (Nat.le_refl _) (fun k hk => by cases hk))
  clear hv hg hat
  go_wp2
  go_ret
  exact ⟨_, l, rfl, HV.out, List.Perm.refl _, HR.out, HB.out⟩

set_option maxRecDepth 100000 in
set_option maxHeartbeats 8000000 in
theorem Sorted_step {w : World} {a : Option Addr} {n c : Nat} {l : List Int} (A : IntArg w a n c l) (h : ¬ n < 2) (hn : n ≤ 1000000)
    (IH : ∀ {W : World} {a' : Option Addr} {n' c' : Nat} {l' : List Int}, IntArg W a' n' c' l' → n' < n → Calls Tryz.prog 52 #[.slice a' n' c'] W fun e w' => ∃ v l2, e = .returned v ∧ NumO w' W.heap.size v l2 ∧ l2.Perm l' ∧ RiseI l2 ∧ Below W.heap.size W w') :
    Calls Tryz.prog 52 #[.slice a n c] w fun e w' => ∃ v l', e = .returned v ∧ NumO w' w.heap.size v l' ∧ l'.Perm l ∧ RiseI l' ∧ Below w.heap.size w w' := by
  obtain ⟨iN, hiN, hN0, hN1, hN2⟩ := info_parts infoNum
  obtain ⟨h2, HH⟩ : ∃ z, Hid (n / 2 = z) := ⟨_, Lib.hid rfl⟩
  have hlt1 : h2 < n := by have := HH.out; omega
  have hlt2 : n - h2 < n := by have := HH.out; omega
  have hq : (n : Int).tdiv 2 = (h2 : Int) := by
    rw [← HH.out, Int.tdiv_eq_ediv_of_nonneg (by omega)]
    omega
  have hq2 : (n : Int) / 2 = (h2 : Int) := by
    rw [← HH.out]
    omega
  obtain ⟨a2, hLo, hA2⟩ := intLo A h2 (by omega)
  have hHi := intHi_run a n c h2 (by omega) A.cap
  have hA1 := intHi A h2 (by omega)
  have hc1 := IH (W := w.drew) (hA1.below (Below.refl _ _).drew) hlt1
  have HA2 := Lib.hid hA2
  have HTD : Hid (l.take h2 ++ l.drop h2 = l) := Lib.hid (List.take_append_drop _ _)
  have n2 : ¬ (n : Int) < 2 := by omega
  have n3 : (0 : Int) ≤ (h2 : Int) := by omega
  have n4 : (h2 : Int) ≤ (n : Int) := by omega
  have n5 : (h2 : Int) ≤ (c : Int) := by have := A.cap; omega
  have hwr : IntKind.i64.wrap ((h2 : Nat) : Int) = (h2 : Int) := IntWalk.i64_in _ (by omega)
  have HN := Lib.hid hn
  have A_len := Lib.hid A.len
  clear hA1 hA2 A h
  go_enter Tryz.func52, Tryz.ntmps52
  go_upto_region 3 with (fail)
  go_region_held3 (fun _ => True) (trivial)
    (first
      | (go_at_call 52; first
          | (have hc2 := IH (W := w5) (HA2.out.below hb5) hlt2; (with_reducible refine Calls.mono hc2 ?_); clear hc2; rintro e w6 ⟨v6, l6, rfl, hN6, hp6, hr6, hb6⟩)
          | ((with_reducible refine Calls.mono hc1 ?_); rintro e w5 ⟨v5, l5, rfl, hN5, hp5, hr5, hb5'⟩; have hb5 : Below w.heap.size w w5 := (Below.refl _ w).drew.trans hb5'))
      | fail)
  all_goals
    obtain ⟨a5, c5, rfl⟩ := own_slice' hN5
    obtain ⟨a6, c6, rfl⟩ := own_slice' hN6
    have hl5 : l5.length = h2 := by rw [hp5.length_eq, List.length_take, ← A_len.out]; omega
    have hl6 : l6.length = n - h2 := by rw [hp6.length_eq, List.length_drop, ← A_len.out]
    obtain ⟨x5, y5, e5, hI5⟩ := RowInts.arg hN5 (by omega)
    obtain ⟨x6, y6, e6, hI6⟩ := RowInts.arg hN6 (by omega)
    have e5 := e5.symm
    have e6 := e6.symm
    simp only [Value.slice.injEq, true_and] at e5 e6
    obtain ⟨e51, e52⟩ := e5
    obtain ⟨e61, e62⟩ := e6
    subst e51 e52 e61 e62
    have HI5 := Lib.hid (hI5.below hb6)
    have HI6 := Lib.hid hI6
    have HB6 := Lib.hid (hb5.trans (hb6.mono hb5.size))
    have HM0 : Hid (Mrg l [] l5 l6) := Lib.hid ⟨by
      rw [List.nil_append]
      refine (hp5.append hp6).trans ?_
      rw [HTD.out], List.Pairwise.nil, hr5, hr6, fun x hx => by simp at hx⟩
    have HLe : Hid (l5.length + l6.length = n) := Lib.hid (by rw [hl5, hl6]; omega)
    clear hN5 hN6 hp5 hp6 hr5 hr6 hI5 hI6 hb6 hb5 hb5' hl5 hl6 hLo hHi hc1 hwr hq hq2 n2 n3 n4 n5
    go_upto_region 5 with (fail)
    go_loopw [3, 4, 5] (fun q3 q4 q5 wr => ∃ (x3 : Option Addr) (z3 : Nat) (l3 : List Int) (x4 : Option Addr) (z4 : Nat) (l4 : List Int) (o : Option Addr) (oc : Nat) (lo : List Int), q3 = .slice x3 l3.length z3 ∧ q4 = .slice x4 l4.length z4 ∧ q5 = .slice o lo.length oc ∧ Hid (IntArg w6 x3 l3.length z3 l3) ∧ Hid (IntArg w6 x4 l4.length z4 l4) ∧ Hid (NumO wr w6.heap.size (.slice o lo.length oc) lo) ∧ Hid (Mrg l lo l3 l4) ∧ Hid (Below w6.heap.size w6 wr) ∧ lo.length + l3.length + l4.length = n) (fun q3 q4 _ _ => lenV q3 + lenV q4)
    case atStart => exact ⟨_, _, l5, _, _, l6, none, 0, [], rfl, rfl, rfl, HI5, HI6, Lib.hid (World.ownsRow_nil _ _ _ _), HM0, Lib.hid (Below.refl _ _), by have := HLe.out; simp; omega⟩
    case round =>
      as_aux_lemma =>
      obtain ⟨w7, hw7⟩ : ∃ z, z = wr := ⟨_, rfl⟩
      subst hw7
      obtain ⟨x3, z3, l3, x4, z4, l4, o, oc, lo, rfl, rfl, rfl, hA3, hA4, hO, hM, hB7, hsum⟩ := hrel
      by_cases hnil : l3 = [] ∨ l4 = []
      · obtain ⟨hp, hr⟩ := hM.out.done hnil
        have HP := Lib.hid hp
        have HR := Lib.hid hr
        have hgt : ¬ (0 : Int) < (l3.length : Int) ∨ ((0 : Int) < (l3.length : Int) ∧ ¬ (0 : Int) < (l4.length : Int)) := by
          rcases hnil with rfl | rfl
          · exact .inl (by simp)
          · by_cases e : l3.length = 0
            · exact .inl (by omega)
            · exact .inr ⟨by omega, by simp⟩
        have hAa := hA3.out.below hB7.out
        have HNil3 := Lib.hid hAa.nils
        have HL3 : Hid ((l3.map (Value.int .i64)).length = l3.length * 1) := Lib.hid (by simp)
        have HS3 := Lib.hid (ints_src hAa.cells)
        obtain ⟨m3, HM3⟩ : ∃ z, Hid (l3.length = z) := ⟨_, Lib.hid rfl⟩
        obtain ⟨m4, HM4⟩ : ∃ z, Hid (l4.length = z) := ⟨_, Lib.hid rfl⟩
        obtain ⟨mo, HMo⟩ : ∃ z, Hid (lo.length = z) := ⟨_, Lib.hid rfl⟩
        have hOo : w7.ownsRow w6.heap.size 3 1 (.slice o lo.length oc) lo.length (lo.map (Value.int .i64)) := hO.out
        rw [HMo.out] at hOo
        rw [HM3.out, HM4.out] at hgt
        rw [HM3.out, HM4.out, HMo.out] at hsum
        rw [HM3.out] at HNil3 HL3
        rw [HM3.out, HM4.out, HMo.out]
        have HOo := Lib.hid hOo
        have hzz := hB7.out.size
        clear hnil hp hr hAa hOo hO
        rcases hgt with g3 | ⟨g3, g4⟩
        all_goals
          go_wp2_with (at_builtin; (refine wpList_append_sz rfl (.tmp 54) (.tmp 55) 28 rfl w6.heap.size 3 iN (.int .i64 0) 1 8 Tryz.underlying28 hiN hN0 hN1 hN2 rfl (by decide) (.slice o mo oc) rfl mo (lo.map (Value.int .i64)) HOo.out x3 m3 z3 rfl (l3.map (Value.int .i64)) HNil3.out HL3.out HS3.out (fun u hu => by obtain ⟨z, _, rfl⟩ := List.mem_map.1 hu; rfl) (by unfold maxLen; omega) (by omega) hzz ?_); intro v8 w8 hv8 hg8 hat8; refine Hid.out ?_)
          obtain ⟨xo, co, rfl⟩ := own_slice hv8
          have hB8 := hB7.out.grown hg8 hzz (own_ge HOo.out)
          have HB8 := Lib.hid hB8
          have hAb := hA4.out.below hB8
          have HNil4 := Lib.hid hAb.nils
          have HL4 : Hid ((l4.map (Value.int .i64)).length = l4.length * 1) := Lib.hid (by simp)
          have HS4 := Lib.hid (ints_src hAb.cells)
          rw [HM4.out] at HNil4 HL4
          have HO8 := Lib.hid hv8
          have hz8 := hB8.size
          clear hv8 hg8 hat8 hAb hB8
          refine Lib.hid ?_
          go_wp2_with (at_builtin; (refine wpList_append_sz rfl (.tmp 56) (.tmp 57) 28 rfl w6.heap.size 3 iN (.int .i64 0) 1 8 Tryz.underlying28 hiN hN0 hN1 hN2 rfl (by decide) (.slice xo (mo + m3) co) rfl (mo + m3) (lo.map (Value.int .i64) ++ l3.map (Value.int .i64)) HO8.out x4 m4 z4 rfl (l4.map (Value.int .i64)) HNil4.out HL4.out HS4.out (fun u hu => by obtain ⟨z, _, rfl⟩ := List.mem_map.1 hu; rfl) (by unfold maxLen; omega) (by omega) hz8 ?_); intro v9 w9 hv9 hg9 hat9; refine Hid.out ?_)
          have HF : Hid (NumO w9 w.heap.size v9 (lo ++ l3 ++ l4)) := Lib.hid (by
            unfold NumO
            rw [List.length_append, List.length_append, HMo.out, HM3.out, HM4.out, List.map_append, List.map_append]
            exact own_low hv9 HB6.out.size)
          have HBF : Hid (Below w.heap.size w w9) := Lib.hid (HB6.out.trans ((HB8.out.grown hg9 hz8 (own_ge HO8.out)).mono HB6.out.size))
          clear hv9 hg9 hat9
          refine Lib.hid ?_
          go_wp2
          go_ret
          exact ⟨_, _, rfl, HF.out, HP.out, HR.out, HBF.out⟩
      · obtain ⟨x, t3, rfl⟩ : ∃ x t3, l3 = x :: t3 := by
          cases l3 with
          | nil => exact absurd (.inl rfl) hnil
          | cons x t3 => exact ⟨x, t3, rfl⟩
        obtain ⟨y, t4, rfl⟩ : ∃ y t4, l4 = y :: t4 := by
          cases l4 with
          | nil => exact absurd (.inr rfl) hnil
          | cons y t4 => exact ⟨y, t4, rfl⟩
        obtain ⟨b3, f3, e3, c3b⟩ := hA3.out.cells 0 (by simp)
        obtain ⟨b4, f4, e4, c4b⟩ := hA4.out.cells 0 (by simp)
        have c3 := up_cell hB7.out c3b
        have c4 := up_cell hB7.out c4b
        obtain ⟨a3, hs3, hT3⟩ := intLo hA3.out 1 (by simp)
        obtain ⟨a4, hs4, hT4⟩ := intLo hA4.out 1 (by simp)
        simp only [List.getD_cons_zero, Nat.add_zero, List.length_cons, Nat.add_sub_cancel, List.drop_succ_cons, List.drop_zero] at c3 c4 c3b c4b hs3 hs4 hT3 hT4 hsum
        simp only [List.length_cons]
        obtain ⟨m3, HM3⟩ : ∃ z, Hid (t3.length = z) := ⟨_, Lib.hid rfl⟩
        obtain ⟨m4, HM4⟩ : ∃ z, Hid (t4.length = z) := ⟨_, Lib.hid rfl⟩
        obtain ⟨mo, HMo⟩ : ∃ z, Hid (lo.length = z) := ⟨_, Lib.hid rfl⟩
        have hOo : w7.ownsRow w6.heap.size 3 1 (.slice o lo.length oc) lo.length (lo.map (Value.int .i64)) := hO.out
        have hM := Lib.hid hM.out
        have HA3 := Lib.hid hA3.out
        have HA4 := Lib.hid hA4.out
        simp only [List.length_cons] at HA3 HA4
        rw [HMo.out] at hOo
        rw [HM3.out, HM4.out, HMo.out] at hsum
        rw [HM3.out] at hs3 hT3 HA3
        rw [HM4.out] at hs4 hT4 HA4
        rw [HM3.out, HM4.out, HMo.out]
        have HOo := Lib.hid hOo
        have HT3 := Lib.hid hT3
        have HT4 := Lib.hid hT4
        have hzz := hB7.out.size
        have g3 : (0 : Int) < ((m3 + 1 : Nat) : Int) := by omega
        have g4 : (0 : Int) < ((m4 + 1 : Nat) : Int) := by omega
        subst e3
        subst e4
        have hs3 : ∀ w', (Instr.slice 28 (.slice (some ⟨b3, f3, none⟩) (m3 + 1) z3) (some (.int .i64 1)) none none).run Tryz.prog w' = .ok (.slice a3 m3 (z3 - 1)) w' := fun w' => hs3 w'
        have hs4 : ∀ w', (Instr.slice 28 (.slice (some ⟨b4, f4, none⟩) (m4 + 1) z4) (some (.int .i64 1)) none none).run Tryz.prog w' = .ok (.slice a4 m4 (z4 - 1)) w' := fun w' => hs4 w'
        clear hnil hOo hO hT3 hT4 hA3 hA4
        by_cases hxy : x ≤ y
        · have HMl := Lib.hid (hM.out.left hxy)
          go_upto_region 6 with (fail)
          go_quiet (fail)
          obtain ⟨wq, HWq, kq, hbq⟩ : ∃ z, Hid (World.drewN w7 nq = z) ∧ z.cell? ⟨b3, f3, none⟩ = some (.int .i64 x) ∧ Below w7.heap.size w7 z := ⟨_, Lib.hid rfl, c3, below_drewN (Below.refl _ _) _⟩
          rw [HWq.out]
          have kD : wq.drew.cell? ⟨b3, f3, none⟩ = some (.int .i64 x) := kq
          have kA : (wq.alloc (.cells #[.int .i64 x] 3)).drew.cell? ⟨b3, f3, none⟩ = some (.int .i64 x) := cell_new kq (.cells #[.int .i64 x] 3)
          have HOq := Lib.hid ((own_up' HOo.out hbq).alloc (.cells #[.int .i64 x] 3))
          have HBq := Lib.hid (hB7.out.trans (hbq.mono hzz))
          have hzq := HBq.out.size
          clear hbq HWq
          go_upto_region 7 with (fail)
          go_region_held3 (fun w' => w'.cell? ⟨b3, f3, none⟩ = some (.int .i64 x))
            ((with_reducible (first | assumption | exact kE | exact kA | exact cell_new kD _ | exact cell_new kq _ | exact kD)))
            (first
              | (refine step_append_sz rfl (.tmp 38) (.tmp 42) 28 (by rfl) w6.heap.size 3 iN (.int .i64 0) 1 8 Tryz.underlying28 hiN hN0 hN1 hN2 rfl (by decide) (.slice o mo oc) (by rfl) mo (lo.map (Value.int .i64)) HOq.out (some ⟨wq.heap.size, 0, none⟩) 1 1 (by rfl) [.int .i64 x] (fun h => by cases h) rfl (one_src _ _ _) (by simp [Value.oneCell']) (by unfold maxLen; omega) (by omega) (Nat.le_trans hzq (by simp)) ?_; intro v8 w8 hv8 hg8 hat8; clear hat8; obtain ⟨xo, co, rfl⟩ := own_slice' hv8; have hg9 : (wq.alloc (.cells #[.int .i64 x] 3)).grownBy w8 (Value.slice o mo oc).ownBlock := ⟨hg8.os, hg8.tape, hg8.output, hg8.size, hg8.block⟩; have hB8 := (HBq.out.alloc hzq (.cells #[.int .i64 x] 3)).grown hg9 (Nat.le_trans hzq (by simp)) (own_ge HOq.out); have kE : w8.cell? ⟨b3, f3, none⟩ = some (.int .i64 x) := up_cell hB8 c3b)
              | fail)
          all_goals
            have HOn : Hid (NumO w8 w6.heap.size (.slice xo (mo + 1) co) (lo ++ [x])) := Lib.hid (by
              unfold NumO
              rw [List.length_append, HMo.out, List.map_append]
              exact hv8)
            have HBn := Lib.hid hB8
            have HLn : Hid ((lo ++ [x]).length = mo + 1) := Lib.hid (by rw [List.length_append, HMo.out]; rfl)
            clear hv8 hg8 hg9 hB8 kE kD kq kA
            go_wp2
            go_roundw
            case rel => exact ⟨_, _, t3, _, _, y :: t4, _, _, lo ++ [x], by rw [HM3.out], by rw [List.length_cons, HM4.out], by rw [HLn.out], by rw [HM3.out]; exact HT3, by rw [List.length_cons, HM4.out]; exact HA4, by rw [HLn.out]; exact HOn, HMl, HBn, by rw [HLn.out, List.length_cons, HM3.out, HM4.out]; omega⟩
            case measure => simp [lenV]
        · have HMr := Lib.hid (hM.out.right hxy)
          go_upto_region 6 with (fail)
          go_quiet (fail)
          obtain ⟨wq, HWq, kq, hbq⟩ : ∃ z, Hid (World.drewN w7 nq = z) ∧ z.cell? ⟨b4, f4, none⟩ = some (.int .i64 y) ∧ Below w7.heap.size w7 z := ⟨_, Lib.hid rfl, c4, below_drewN (Below.refl _ _) _⟩
          rw [HWq.out]
          have kD : wq.drew.cell? ⟨b4, f4, none⟩ = some (.int .i64 y) := kq
          have kA : (wq.alloc (.cells #[.int .i64 y] 3)).drew.cell? ⟨b4, f4, none⟩ = some (.int .i64 y) := cell_new kq (.cells #[.int .i64 y] 3)
          have HOq := Lib.hid ((own_up' HOo.out hbq).alloc (.cells #[.int .i64 y] 3))
          have HBq := Lib.hid (hB7.out.trans (hbq.mono hzz))
          have hzq := HBq.out.size
          clear hbq HWq
          go_upto_region 8 with (fail)
          go_region_held3 (fun w' => w'.cell? ⟨b4, f4, none⟩ = some (.int .i64 y))
            ((with_reducible (first | assumption | exact kE | exact kA | exact cell_new kD _ | exact cell_new kq _ | exact kD)))
            (first
              | (refine step_append_sz rfl (.tmp 46) (.tmp 50) 28 (by rfl) w6.heap.size 3 iN (.int .i64 0) 1 8 Tryz.underlying28 hiN hN0 hN1 hN2 rfl (by decide) (.slice o mo oc) (by rfl) mo (lo.map (Value.int .i64)) HOq.out (some ⟨wq.heap.size, 0, none⟩) 1 1 (by rfl) [.int .i64 y] (fun h => by cases h) rfl (one_src _ _ _) (by simp [Value.oneCell']) (by unfold maxLen; omega) (by omega) (Nat.le_trans hzq (by simp)) ?_; intro v8 w8 hv8 hg8 hat8; clear hat8; obtain ⟨xo, co, rfl⟩ := own_slice' hv8; have hg9 : (wq.alloc (.cells #[.int .i64 y] 3)).grownBy w8 (Value.slice o mo oc).ownBlock := ⟨hg8.os, hg8.tape, hg8.output, hg8.size, hg8.block⟩; have hB8 := (HBq.out.alloc hzq (.cells #[.int .i64 y] 3)).grown hg9 (Nat.le_trans hzq (by simp)) (own_ge HOq.out); have kE : w8.cell? ⟨b4, f4, none⟩ = some (.int .i64 y) := up_cell hB8 c4b)
              | fail)
          all_goals
            have HOn : Hid (NumO w8 w6.heap.size (.slice xo (mo + 1) co) (lo ++ [y])) := Lib.hid (by
              unfold NumO
              rw [List.length_append, HMo.out, List.map_append]
              exact hv8)
            have HBn := Lib.hid hB8
            have HLn : Hid ((lo ++ [y]).length = mo + 1) := Lib.hid (by rw [List.length_append, HMo.out]; rfl)
            clear hv8 hg8 hg9 hB8 kE kD kq kA
            go_wp2
            go_roundw
            case rel => exact ⟨_, _, x :: t3, _, _, t4, _, _, lo ++ [y], by rw [List.length_cons, HM3.out], by rw [HM4.out], by rw [HLn.out], by rw [List.length_cons, HM3.out]; exact HA3, by rw [HM4.out]; exact HT4, by rw [HLn.out]; exact HOn, HMr, HBn, by rw [HLn.out, List.length_cons, HM3.out, HM4.out]; omega⟩
            case measure => simp [lenV]

theorem Sorted_any : ∀ (N : Nat) {w : World} {a : Option Addr} {n c : Nat} {l : List Int}, n ≤ N → n ≤ 1000000 → IntArg w a n c l →
    Calls Tryz.prog 52 #[.slice a n c] w fun e w' => ∃ v l', e = .returned v ∧ NumO w' w.heap.size v l' ∧ l'.Perm l ∧ RiseI l' ∧ Below w.heap.size w w' := by
  intro N
  induction N with
  | zero =>
    intro w a n c l h _ A
    exact Sorted_small A (by omega)
  | succ N ih =>
    intro w a n c l h hn A
    by_cases h2 : n < 2
    · exact Sorted_small A h2
    · exact Sorted_step A h2 hn (fun {W a' n' c' l'} A' hlt => ih (by omega) (by omega) A')
end Go.Proofs.YtgnbkepdbdgkdaaGreatDoor
