/- Texts joined: SimAll, SpAcc, ROf. -/
import Derived.Test.YtbncofgbpffmkaaGreatDoorJc36
import Derived.Test.YtbncofgbpffmkaaGreatDoorJc28
import Derived.Test.YtbncofgbpffmkaaGreatDoorJc21
/- spec.All and spec.None. -/
namespace Go.Proofs.YtbncofgbpffmkaaGreatDoor
open Go.RowKit Pl

theorem spcOwn_nil (w : World) (base : Nat) : SpcOwn w base (.slice none 0 0) (.slice none 0 0) noSpc := ⟨World.ownsRow_nil _ _ _ _, StesOwn.none _ _⟩
theorem SpcOwn.slices {w : World} {base : Nat} {va vs : Value} {s : Spc} (h : SpcOwn w base va vs s) : ∃ a1 c1 a2 c2, va = .slice a1 s.acts.length c1 ∧ vs = .slice a2 s.states.length c2 := by
  obtain ⟨a1, c1, h1⟩ := own_slice' h.acts
  obtain ⟨rows, r1, r2, r3⟩ := h.rows
  obtain ⟨a2, c2, h2⟩ := own_slice' r2
  exact ⟨a1, c1, a2, c2, h1, h2⟩
theorem made_zeros (n : Nat) : (madeCells (Value.int .i64 0).cells (n * 1)).toList = (List.replicate n (0 : Int)).map (Value.int .i64) := by
  refine List.ext_getElem (by simp [madeCells]) fun i h1 h2 => ?_
  simp [madeCells, Value.cells, Nat.mod_one]

set_option maxRecDepth 100000 in
set_option maxHeartbeats 4000000 in
theorem All_any {w : World} {a : Option Addr} {n c : Nat} {acts : List ByteArray} {e0 e1 e2 : Addr} (E : Errs w e0 e1 e2) (A : StrArg w a n c acts) :
    Calls Tryz.prog 13 #[.slice a n c] w fun e w' => ∃ va vs, e = .returned (.tuple #[.agg #[va, vs], .int .i64 (if actsB acts then 0 else 10)]) ∧ SpcOwn w' w.heap.size va vs (if actsB acts then allQ acts else noSpc) ∧ Below w.heap.size w w' := by
  obtain ⟨i1, hi1, hz10, hz11, hz12⟩ := info_parts infoNumS
  have HA := Lib.hid A
  have HNl : Hid (acts.length = n) := Lib.hid A.len.symm
  have hb0 := (Below.refl w.heap.size w).alloc (Nat.le_refl _) (.cells #[.slice none 0 0, .slice none 0 0] 28)
  have hres0 := Whole.new w 28 #[.slice none 0 0, .slice none 0 0]
  have hsz0 : (w.alloc (.cells #[.slice none 0 0, .slice none 0 0] 28)).heap.size = w.heap.size + 1 := by simp
  obtain ⟨w0, HW0⟩ : ∃ z, Hid (w.alloc (.cells #[.slice none 0 0, .slice none 0 0] 28) = z) := ⟨_, Lib.hid rfl⟩
  rw [HW0.out] at hb0 hres0 hsz0
  have HCk := Check_any (E.below hb0) (A.below hb0)
  have r0 := hres0.cell 0
  have r1 := hres0.cell 1
  have f0 := hres0.frozen 0
  have f1 := hres0.frozen 1
  have hl := hres0.lt
  simp only [List.getElem?_toArray, List.getElem?_cons_succ, List.getElem?_cons_zero] at r0 r1
  have HB0 := Lib.hid hb0
  have HRes0 := Lib.hid hres0
  have HZ0 := Lib.hid hsz0
  clear hsz0 hb0
  cases hac : actsB acts
  · rw [hac] at HCk
    have HCk := Lib.hid HCk
    have g0 := (hres0.set 0 (.slice none 0 0)).cell 0
    have g1 := ((hres0.set 0 (.slice none 0 0)).set 1 (.slice none 0 0)).cell 1
    simp only [List.setIfInBounds_toArray, List.set_cons_zero, List.set_cons_succ, List.getElem?_toArray, List.getElem?_cons_succ, List.getElem?_cons_zero] at g0 g1
    have HBe := Lib.hid ((HB0.out.setCell (p := ⟨w.heap.size, 0, none⟩) (Nat.le_refl _) (.slice none 0 0)).setCell (p := ⟨w.heap.size, 1, none⟩) (Nat.le_refl _) (.slice none 0 0))
    clear A E hac hres0
    go_enter Tryz.func13, Tryz.ntmps13
    go_wp2_with fail
    rw [HW0.out]
    refine HCk.out.mono ?_
    rintro e w' ⟨rfl, rfl⟩
    go_wp2
    exact bodyPost_ret (v := .tuple #[.agg #[.slice none 0 0, .slice none 0 0], .int .i64 10]) (by simp [results, Tryz.results13, go_sem, g0, g1]) rfl ⟨_, _, rfl, spcOwn_nil _ _, HBe.out⟩
  · rw [hac] at HCk
    have HCk := Lib.hid HCk
    have hn8 : n ≤ 8 := by have := ((actsB_iff acts).1 hac).1; have := A.len; omega
    obtain ⟨p1, p2⟩ := pow_le n (by omega)
    have hN : ((2 ^ n : Nat) : Int) = (2 : Int) ^ n := by norm_cast
    have hN8 : 2 ^ n ≤ 2 ^ 8 := Nat.pow_le_pow_right (by decide) hn8
    obtain ⟨N, HN⟩ : ∃ N : Nat, Hid (2 ^ n = N) := ⟨_, Lib.hid rfl⟩
    rw [HN.out] at hN hN8
    have HNN := Lib.hid hN
    clear A E hac hres0 hN
    go_enter Tryz.func13, Tryz.ntmps13
    go_wp2_with fail
    rw [HW0.out]
    refine HCk.out.mono ?_
    rintro e w' ⟨rfl, rfl⟩
    go_wp2_with (at_make; refine wpList_make_full _ rfl _ _ 33 rfl w0.heap.size 3 i1 (.int .i64 0) 1 Tryz.underlying33 hi1 hz10 hz11 .i64 .i64 n n n rfl rfl rfl rfl (by rw [hz12]; omega) (by unfold maxLen; omega) (Nat.le_refl _) ?_; intro w1 hrow hg1; refine Hid.out ?_)
    rw [made_zeros] at hrow
    have hb1 : Below w0.heap.size w0 w1 := below_up hg1
    have hz1 := hb1.size
    have HXi : Hid (RxAt w0 (w1.alloc (.cells #[.slice none 0 0, .slice (some ⟨w0.heap.size, 0, none⟩) n n] 52)) w1.heap.size (.slice none 0 0) (.slice (some ⟨w0.heap.size, 0, none⟩) n n) [] (List.replicate n 0)) := Lib.hid
      ⟨Whole.new w1 52 #[.slice none 0 0, .slice (some ⟨w0.heap.size, 0, none⟩) n n], World.ownsRow_nil _ _ _ _, by unfold NumO; rw [List.length_replicate]; exact hrow.alloc _, .inl rfl, hz1, hb1.alloc hz1 _⟩
    have HZ1 := Lib.hid hz1
    clear hrow hg1 hb1 r0 r1 f0 f1 hl
    refine Lib.hid ?_
    go_wp2
    go_loopw [5, 17] (fun _ p wr => ∃ (j : Nat) (va : Value), j ≤ N ∧ p = .int .i64 j ∧ Hid (RxAt w0 wr w1.heap.size va (.slice (some ⟨w0.heap.size, 0, none⟩) n n) (upTo j) (List.replicate n 0))) (fun _ p _ => N - (intOf p).toNat)
    case atStart => exact ⟨0, _, Nat.zero_le _, rfl, HXi⟩
    case round =>
      obtain ⟨j, va, hj, rfl, HR⟩ := hrel
      obtain ⟨ha, hc, hva⟩ := own_slice' HR.out.acc
      rw [upTo_len] at hva
      subst hva
      have k0 := HR.out.box.cell 0
      have k1 := HR.out.box.cell 1
      simp only [List.getElem?_toArray, List.getElem?_cons_succ, List.getElem?_cons_zero] at k0 k1
      have hzr := HR.out.below.size
      have hxr := HR.out.box.lt
      by_cases hlt : j < N
      · have hlt' : (j : Int) < 2 ^ n := by rw [← HNN.out]; omega
        have hal : Below wr.heap.size wr (wr.alloc (.cells #[.int .i64 j] 3)) := (Below.refl _ wr).alloc (Nat.le_refl _) _
        have HRa := Lib.hid (HR.out.up hal)
        have HOw : Hid ((wr.alloc (.cells #[.int .i64 j] 3)).ownsRow w0.heap.size 3 1 (.slice ha j hc) j ((upTo j).map (Value.int .i64))) := Lib.hid (by
          have := HRa.out.acc
          unfold NumO at this
          rwa [upTo_len] at this)
        clear hal
        go_wp2_with (at_builtin; (refine wpList_append_sz rfl (.tmp 21) (.tmp 23) 33 rfl w0.heap.size 3 i1 (.int .i64 0) 1 8 Tryz.underlying33 hi1 hz10 hz11 hz12 rfl (by decide) (.slice ha j hc) rfl j _ HOw.out (some ⟨wr.heap.size, 0, none⟩) 1 1 rfl [.int .i64 j] (fun h => by cases h) rfl (one_src _ _ _) (by simp [Value.oneCell']) (by unfold maxLen; omega) (by omega) (by simp; omega) ?_); intro v2 wB hB hgB hatB; refine Hid.out ?_)
        have hN2' : NumO wB w0.heap.size v2 (upTo (j + 1)) := by
          unfold NumO
          rw [upTo_len, upTo_next, List.map_append]
          exact hB
        obtain ⟨xa, xc, rfl⟩ := own_slice' hB
        have kw := HRa.out.box.grown hgB (own_whole HRa.out.acc HRa.out.box (by decide))
        have m1 := kw.cell 0
        have m2 := kw.frozen 0
        have m3 := kw.lt
        simp only [List.getElem?_toArray, List.getElem?_cons_zero] at m1
        have HNx := Lib.hid (HRa.out.push hgB hN2' hatB)
        clear hB hgB hatB hN2' kw
        refine Lib.hid ?_
        go_wp2
        go_roundw
        case rel => exact ⟨j + 1, _, by omega, by go_num, HNx⟩
        case measure => simp [intOf]; omega
      · have hlt' : ¬ (j : Int) < 2 ^ n := by rw [← HNN.out]; omega
        obtain rfl : N = j := by omega
        have hbr := HB0.out.trans (HR.out.below.mono HB0.out.size)
        have HBr := Lib.hid hbr
        have hlow : w.heap.size ≤ w0.heap.size := by have := HZ0.out; omega
        have HSg := Lib.hid (single_any (base := w.heap.size) (t := (upTo N, List.replicate n 0)) (HA.out.below hbr) (by omega) hbr.size (own_low HR.out.acc hlow) (own_low HR.out.nx hlow))
        have HRr := Lib.hid (HRes0.out.below HR.out.below HRes0.out.lt)
        clear hbr
        go_wp2_with fail
        refine HSg.out.mono ?_
        rintro e w5 ⟨va, vs, rfl, hO, hb5⟩
        obtain ⟨a1, c1, a2, c2, rfl, rfl⟩ := hO.slices
        have hrs := HRr.out.below hb5 HRr.out.lt
        have b0 := hrs.cell 0
        have b1 := hrs.cell 1
        have f0 := hrs.frozen 0
        have f1 := hrs.frozen 1
        have hl := hrs.lt
        simp only [List.getElem?_toArray, List.getElem?_cons_succ, List.getElem?_cons_zero] at b0 b1
        obtain ⟨L1, hL1⟩ : ∃ z, acts.length = z := ⟨_, rfl⟩
        have hbT := HBr.out.trans (hb5.mono HBr.out.size)
        have g0 := (hrs.set 0 (.slice a1 acts.length c1)).cell 0
        have g1 := ((hrs.set 0 (.slice a1 acts.length c1)).set 1 (.slice a2 1 c2)).cell 1
        simp only [List.setIfInBounds_toArray, List.set_cons_zero, List.set_cons_succ, List.getElem?_toArray, List.getElem?_cons_succ, List.getElem?_cons_zero] at g0 g1
        have HBe := Lib.hid ((hbT.setCell (p := ⟨w.heap.size, 0, none⟩) (Nat.le_refl _) (.slice a1 acts.length c1)).setCell (p := ⟨w.heap.size, 1, none⟩) (Nat.le_refl _) (.slice a2 1 c2))
        have HOf := Lib.hid (spc_stored hO hrs (.slice a1 acts.length c1) (.slice a2 1 c2))
        have HQ : Hid (allQ acts = ⟨acts, [(upTo N, List.replicate n 0)]⟩) := Lib.hid (by unfold allQ; rw [HNl.out, HN.out])
        simp only [List.length_cons, List.length_nil, Nat.zero_add] at HOf ⊢
        rw [hL1] at g0 g1 HBe HOf
        rw [hL1]
        clear hO hb5 hrs hbT hL1
        go_wp2
        exact bodyPost_ret (v := .tuple #[.agg #[.slice a1 L1 c1, .slice a2 1 c2], .int .i64 0]) (by simp [results, Tryz.results13, go_sem, g0, g1]) rfl ⟨_, _, rfl, by rw [HQ.out]; exact HOf.out, HBe.out⟩

set_option maxRecDepth 100000 in
set_option maxHeartbeats 4000000 in
theorem None_any {w : World} {a : Option Addr} {n c : Nat} {acts : List ByteArray} {e0 e1 e2 : Addr} (E : Errs w e0 e1 e2) (A : StrArg w a n c acts) :
    Calls Tryz.prog 14 #[.slice a n c] w fun e w' => ∃ va vs, e = .returned (.tuple #[.agg #[va, vs], .int .i64 (if actsB acts then 0 else 10)]) ∧ SpcOwn w' w.heap.size va vs (if actsB acts then noneQ acts else noSpc) ∧ Below w.heap.size w w' := by
  have HA := Lib.hid A
  have HNl : Hid (acts.length = n) := Lib.hid A.len.symm
  have hb0 := (Below.refl w.heap.size w).alloc (Nat.le_refl _) (.cells #[.slice none 0 0, .slice none 0 0] 28)
  have hres0 := Whole.new w 28 #[.slice none 0 0, .slice none 0 0]
  have hsz0 : (w.alloc (.cells #[.slice none 0 0, .slice none 0 0] 28)).heap.size = w.heap.size + 1 := by simp
  obtain ⟨w0, HW0⟩ : ∃ z, Hid (w.alloc (.cells #[.slice none 0 0, .slice none 0 0] 28) = z) := ⟨_, Lib.hid rfl⟩
  rw [HW0.out] at hb0 hres0 hsz0
  have HCk := Check_any (E.below hb0) (A.below hb0)
  have r0 := hres0.cell 0
  have r1 := hres0.cell 1
  have f0 := hres0.frozen 0
  have f1 := hres0.frozen 1
  have hl := hres0.lt
  simp only [List.getElem?_toArray, List.getElem?_cons_succ, List.getElem?_cons_zero] at r0 r1
  have HB0 := Lib.hid hb0
  have HRes0 := Lib.hid hres0
  have HZ0 := Lib.hid hsz0
  clear hsz0 hb0
  cases hac : actsB acts
  · rw [hac] at HCk
    have HCk := Lib.hid HCk
    have g0 := (hres0.set 0 (.slice none 0 0)).cell 0
    have g1 := ((hres0.set 0 (.slice none 0 0)).set 1 (.slice none 0 0)).cell 1
    simp only [List.setIfInBounds_toArray, List.set_cons_zero, List.set_cons_succ, List.getElem?_toArray, List.getElem?_cons_succ, List.getElem?_cons_zero] at g0 g1
    have HBe := Lib.hid ((HB0.out.setCell (p := ⟨w.heap.size, 0, none⟩) (Nat.le_refl _) (.slice none 0 0)).setCell (p := ⟨w.heap.size, 1, none⟩) (Nat.le_refl _) (.slice none 0 0))
    clear A E hac hres0
    go_enter Tryz.func14, Tryz.ntmps14
    go_wp2_with fail
    rw [HW0.out]
    refine HCk.out.mono ?_
    rintro e w' ⟨rfl, rfl⟩
    go_wp2
    exact bodyPost_ret (v := .tuple #[.agg #[.slice none 0 0, .slice none 0 0], .int .i64 10]) (by simp [results, Tryz.results14, go_sem, g0, g1]) rfl ⟨_, _, rfl, spcOwn_nil _ _, HBe.out⟩
  · rw [hac] at HCk
    have HCk := Lib.hid HCk
    have hn8 : n ≤ 8 := by have := ((actsB_iff acts).1 hac).1; have := A.len; omega
    have hlt0 : (w0.alloc (.cells #[.int .i64 (-1)] 3)).cell? ⟨w0.heap.size, 0, none⟩ = some (.int .i64 (-1)) := (Whole.new w0 3 #[.int .i64 (-1)]).cell 0
    have HRep := Lib.hid (Repeat_any (c := 1) (n := n) (by omega) hlt0)
    have HBl := Lib.hid ((Below.refl w0.heap.size w0).alloc (Nat.le_refl _) (.cells #[.int .i64 (-1)] 3))
    clear A E hac hres0 hlt0
    go_enter Tryz.func14, Tryz.ntmps14
    go_wp2_with fail
    rw [HW0.out]
    refine HCk.out.mono ?_
    rintro e w' ⟨rfl, rfl⟩
    go_wp2_with fail
    refine HRep.out.mono ?_
    rintro e w3 ⟨rfl, hrow, hb3⟩
    have hb03 := HBl.out.trans (hb3.mono HBl.out.size)
    have hbr := HB0.out.trans (hb03.mono HB0.out.size)
    have HBr := Lib.hid hbr
    have hrN : NumO w3 w.heap.size (.slice (some ⟨(w0.alloc (.cells #[.int .i64 (-1)] 3)).heap.size, 0, none⟩) n n) (List.replicate n (-1)) := by
      unfold NumO
      rw [List.length_replicate]
      exact own_low hrow (by have := HZ0.out; simp; omega)
    have HSg := Lib.hid (single_any (base := w.heap.size) (t := ([], List.replicate n (-1))) (HA.out.below hbr) (by omega) hbr.size (World.ownsRow_nil _ _ _ _) hrN)
    have HRr := Lib.hid (HRes0.out.below hb03 HRes0.out.lt)
    rw [World.size_alloc] at HSg
    clear hbr hrow hb3 hb03 hrN
    go_wp2_with fail
    refine HSg.out.mono ?_
    rintro e w5 ⟨va, vs, rfl, hO, hb5⟩
    obtain ⟨a1, c1, a2, c2, rfl, rfl⟩ := hO.slices
    have hrs := HRr.out.below hb5 HRr.out.lt
    have b0 := hrs.cell 0
    have b1 := hrs.cell 1
    have f0 := hrs.frozen 0
    have f1 := hrs.frozen 1
    have hl := hrs.lt
    simp only [List.getElem?_toArray, List.getElem?_cons_succ, List.getElem?_cons_zero] at b0 b1
    obtain ⟨L1, hL1⟩ : ∃ z, acts.length = z := ⟨_, rfl⟩
    have hbT := HBr.out.trans (hb5.mono HBr.out.size)
    have g0 := (hrs.set 0 (.slice a1 acts.length c1)).cell 0
    have g1 := ((hrs.set 0 (.slice a1 acts.length c1)).set 1 (.slice a2 1 c2)).cell 1
    simp only [List.setIfInBounds_toArray, List.set_cons_zero, List.set_cons_succ, List.getElem?_toArray, List.getElem?_cons_succ, List.getElem?_cons_zero] at g0 g1
    have HBe := Lib.hid ((hbT.setCell (p := ⟨w.heap.size, 0, none⟩) (Nat.le_refl _) (.slice a1 acts.length c1)).setCell (p := ⟨w.heap.size, 1, none⟩) (Nat.le_refl _) (.slice a2 1 c2))
    have HOf := Lib.hid (spc_stored hO hrs (.slice a1 acts.length c1) (.slice a2 1 c2))
    have HQ : Hid (noneQ acts = ⟨acts, [([], List.replicate n (-1))]⟩) := Lib.hid (by unfold noneQ; rw [HNl.out])
    simp only [List.length_cons, List.length_nil, Nat.zero_add] at HOf ⊢
    rw [hL1] at g0 g1 HBe HOf
    rw [hL1]
    clear hO hb5 hrs hbT hL1
    go_wp2
    exact bodyPost_ret (v := .tuple #[.agg #[.slice a1 L1 c1, .slice a2 1 c2], .int .i64 0]) (by simp [results, Tryz.results14, go_sem, g0, g1]) rfl ⟨_, _, rfl, by rw [HQ.out]; exact HOf.out, HBe.out⟩
end Go.Proofs.YtbncofgbpffmkaaGreatDoor
/- A specification that a call puts together in a variable of its own, state by state. -/
namespace Go.Proofs.YtbncofgbpffmkaaGreatDoor
open Go.RowKit Pl

/-- the variable at block w2.heap.size holds va and the states ss so far; what lay below stands -/
structure SpcAcc (w2 : World) (va vs : Value) (ss : List Ste) (wr : World) : Prop where
  out : Whole wr w2.heap.size 28 #[va, vs]
  rows : StesOwn wr w2.heap.size vs ss
  mid : Below w2.heap.size w2 wr
theorem SpcAcc.drew {w2 wr : World} {va vs : Value} {ss : List Ste} (h : SpcAcc w2 va vs ss wr) : SpcAcc w2 va vs ss wr.drew := ⟨h.out, h.rows, h.mid.drew⟩
theorem SpcAcc.below {w2 wr wA : World} {va vs : Value} {ss : List Ste} (h : SpcAcc w2 va vs ss wr) (hb : Below wr.heap.size wr wA) : SpcAcc w2 va vs ss wA :=
  ⟨h.out.below hb h.out.lt, h.rows.below hb, h.mid.trans (hb.mono h.mid.size)⟩
theorem SpcAcc.start (w2 : World) (va : Value) : SpcAcc w2 va (.slice none 0 0) [] (w2.alloc (.cells #[va, .slice none 0 0] 28)) :=
  ⟨Whole.new _ _ _, StesOwn.none _ _, (Below.refl _ w2).alloc (Nat.le_refl _) _⟩
theorem SpcAcc.mono_mid {w2 wr : World} {va vs : Value} {ss : List Ste} (h : SpcAcc w2 va vs ss wr) {B C : Nat} (h1 : B ≤ w2.heap.size) (h2 : C < B) : Below C w2 wr := h.mid.mono (by omega)
/-- what is known of the variable behind the append -/
theorem SpcAcc.grown {w2 wA wB : World} {va vs : Value} {ss : List Ste} (h : SpcAcc w2 va vs ss wA) (hg : wA.grownBy wB vs.ownBlock) : Whole wB w2.heap.size 28 #[va, vs] := by
  obtain ⟨rows, r1, r2, r3⟩ := h.rows
  exact h.out.grown hg (own_whole r2 h.out (by decide))
/-- one state more -/
theorem SpcAcc.next {w2 wA wB : World} {va vs p q v2 : Value} {ss : List Ste} {t : Ste} (h : SpcAcc w2 va vs ss wA) (hP : NumO wA w2.heap.size p t.1) (hQ : NumO wA w2.heap.size q t.2) (hg : wA.grownBy wB vs.ownBlock)
    (hB : ∀ rows, wA.ownsRow w2.heap.size 52 2 vs ss.length (rcells rows) → rows.length = ss.length → wB.ownsRow w2.heap.size 52 2 v2 (ss.length + 1) (rcells rows ++ [p, q])) :
    SpcAcc w2 va v2 (ss ++ [t]) (wB.setCell ⟨w2.heap.size, 1, none⟩ v2) := by
  have hw := h.grown hg
  obtain ⟨rows, r1, r2, r3⟩ := h.rows
  have hs := StesOwn.snoc (v' := v2) (t := t) ⟨rows, r1, r2, r3⟩ hP hQ hg hB
  refine ⟨by simpa using hw.set 1 v2, ?_, (h.mid.grown hg h.mid.size (own_ge r2)).setCell (by simp) _⟩
  exact hs.kept (grown_self wB ⟨w2.heap.size, 1, none⟩ v2) (.inr (own_whole hs.choose_spec.2.1 hw (by decide)).symm) (fun r l hr => .inr (own_whole hr hw (by decide)).symm)
end Go.Proofs.YtbncofgbpffmkaaGreatDoor
/- The reference's Of. -/
namespace Go.Proofs.YtbncofgbpffmkaaGreatDoor
open Go.RowKit Pl

theorem setE_off (l : List Edg) : setE l = offN l := rfl
theorem lit_num (W : World) (x : Int) : NumO (W.alloc (.cells #[.int .i64 x] 3)) W.heap.size (.slice (some ⟨W.heap.size, 0, none⟩) 1 1) [x] := by
  have h := World.ownsRow_lit (base := W.heap.size) (e := 3) (size := 1) W #[.int .i64 x] 1 (Nat.le_refl _) (by unfold maxLen; omega) rfl
  exact h
/-- edges of a valid system -/
theorem edge_fit {m : Syst} (hv : sysB m = true) {x : Nat} (hx : x < m.states.length) {y : Nat} (hy : y < (stAt m.states x).length) : 0 ≤ (edAt (stAt m.states x) y).1 ∧ (edAt (stAt m.states x) y).1 < m.acts.length ∧ 0 ≤ (edAt (stAt m.states x) y).2 ∧ (edAt (stAt m.states x) y).2 < m.states.length := by
  have hok : okE m.acts.length m.states.length (edAt (stAt m.states x) y) = true := edge_in (((sysB_iff m).1 hv).2.2.2.1 x hx) (by unfold edAt; rw [List.getD_eq_getElem?_getD, List.getElem?_eq_getElem hy]; exact List.getElem_mem _)
  exact (okE_iff _ _ _).1 hok
theorem off_fit {m : Syst} (hv : sysB m = true) {x : Nat} (hx : x < m.states.length) : offN (stAt m.states x) < 256 := by
  have h := offN_lt (l := stAt m.states x) (fun k hk => by have := edge_fit hv hx hk; have := ((actsB_iff m.acts).1 ((sysB_iff m).1 hv).1).1; omega) (stAt m.states x).length (Nat.le_refl _)
  rwa [List.take_length] at h
/-- the states so far are an int's -/
theorem ofK_fits {m : Syst} (hv : sysB m = true) : ∀ i ss, i ≤ m.states.length → ofK m i = some ss → ss.length = i ∧ ∀ t ∈ ss, Fits t.1 ∧ Fits t.2
  | 0, ss, _, h => by cases h; exact ⟨rfl, fun t ht => by cases ht⟩
  | i + 1, ss, hi, h => by
    unfold ofK at h
    cases h1 : ofK m i with
    | none => rw [h1] at h; cases h
    | some s0 =>
      rw [h1, Option.bind_some] at h
      obtain ⟨h2, h3⟩ := ofK_fits hv i s0 (by omega) h1
      cases h4 : nxE m.acts.length (stAt m.states i) (stAt m.states i).length with
      | none => rw [h4] at h; cases h
      | some nx =>
        rw [h4] at h
        cases h
        obtain ⟨f1, f2⟩ := nxE_fit (ns := m.states.length) (fun k hk => (edge_fit hv (by omega) hk).2.2) _ nx (Nat.le_refl _) h4
        have h8 := ((actsB_iff m.acts).1 ((sysB_iff m).1 hv).1).1
        have h5 := (sysB_iff m).1 hv
        refine ⟨by simp [h2], fun t ht => ?_⟩
        rcases List.mem_append.1 ht with ht | ht
        · exact h3 t ht
        · rw [List.mem_singleton] at ht
          subst ht
          have ho := off_fit hv (x := i) (by omega)
          refine ⟨⟨by simp, fun j hj => ?_⟩, ⟨by simp only; omega, fun j hj => ?_⟩⟩
          · have hj0 : j = 0 := by simpa using hj
            subst hj0
            rw [setE_off]
            simp
            omega
          · simp only at hj ⊢
            have := f2 (nx.getD j 0) (by rw [List.getD_eq_getElem?_getD, List.getElem?_eq_getElem hj]; exact List.getElem_mem _)
            omega

end Go.Proofs.YtbncofgbpffmkaaGreatDoor
