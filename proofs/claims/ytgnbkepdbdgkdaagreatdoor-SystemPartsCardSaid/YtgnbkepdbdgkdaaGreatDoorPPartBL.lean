/- system.Part. -/
import Derived.Test.YtgnbkepdbdgkdaaGreatDoorRedBL
import Derived.Test.YtgnbkepdbdgkdaaGreatDoorJq25
import Derived.Test.YtgnbkepdbdgkdaaGreatDoorJq08
import Derived.Test.YtgnbkepdbdgkdaaGreatDoorJq06
import Derived.StillTailTactics
namespace Go.Proofs.YtgnbkepdbdgkdaaGreatDoor
open Go.RowKit Go.Sort Pl

set_option maxRecDepth 100000 in
set_option maxHeartbeats 1000000 in
theorem ofI_any {w : World} {g st : Nat} (h0 : w.cell? ⟨g, 0, none⟩ = some (.int .i64 (st : Int))) :
    Calls Tryz.prog 46 #[.slice (some ⟨g, 0, none⟩) 1 1] w fun e w' => ∃ nb M sv, e = .returned (.pointer (some ⟨nb, 0, none⟩)) ∧ w.heap.size ≤ nb ∧ w.heap.size ≤ M ∧ NbAt w' w.heap.size nb M sv [st] ∧ Below w.heap.size w w' := by
  have hmm := @run_makeMap Tryz.prog
  have HN : Hid (NbAt ((w.alloc (.map #[] 0)).alloc (.cells #[.slice none 0 0, .map (some w.heap.size)] 97)) w.heap.size (w.heap.size + 1) w.heap.size (.slice none 0 0) []) := Lib.hid
    ⟨by simpa using Whole.new (w.alloc (.map #[] 0)) 97 #[.slice none 0 0, .map (some w.heap.size)],
     tab_kept (heap_alloc_new w _) (World.grownBy_alloc _ _ none) (by simp), World.ownsRow_nil _ _ _ _⟩
  have hb1 := ((Below.refl w.heap.size w).alloc (Nat.le_refl _) (.map #[] 0)).alloc (by simp) (.cells #[.slice none 0 0, .map (some w.heap.size)] 97)
  obtain ⟨M, HM⟩ : ∃ z, Hid (w.heap.size = z) := ⟨_, Lib.hid rfl⟩
  obtain ⟨nb, HNb⟩ : ∃ z, Hid (w.heap.size + 1 = z) := ⟨_, Lib.hid rfl⟩
  obtain ⟨w1, HW1⟩ : ∃ z, Hid ((w.alloc (.map #[] 0)).alloc (.cells #[.slice none 0 0, .map (some w.heap.size)] 97) = z) := ⟨_, Lib.hid rfl⟩
  rw [HW1.out] at HN hb1
  have HB1 := Lib.hid hb1
  have HN1 : Hid (NbAt w1 w.heap.size nb M (.slice none 0 0) []) := Lib.hid (by rw [← HNb.out, ← HM.out]; exact HN.out)
  have HMl : Hid (w.heap.size ≤ M ∧ w.heap.size ≤ nb) := Lib.hid ⟨by rw [HM.out]; exact Nat.le_refl _, by rw [← HNb.out]; omega⟩
  clear hb1 HN
  go_enter Tryz.func46, Tryz.ntmps46
  go_upto_region 2 with (fail)
  rw [HW1.out, HNb.out]
  go_upto_region 3 with (fail)
  go_loopw [5, 11] (fun _ q wr => ∃ (j : Nat) (sv : Value), q = .int .i64 j ∧ j ≤ 1 ∧ Hid (NbAt wr w.heap.size nb M sv (if j = 0 then [] else [st])) ∧ Hid (Below w.heap.size w wr)) (fun _ q _ => 1 - (intOf q).toNat)
  case atStart => exact ⟨0, _, rfl, by omega, HN1, HB1⟩
  case round =>
    as_aux_lemma =>
    obtain ⟨w3, hw3⟩ : ∃ z, z = wr := ⟨_, rfl⟩
    subst hw3
    obtain ⟨j, sv, rfl, hj, hN, hB⟩ := hrel
    by_cases hlt : j < 1
    · obtain rfl : j = 0 := by omega
      rw [if_pos rfl] at hN
      have d0 := (hB.out.cell (lt_of_cell h0)).trans h0
      go_wp2_with fail
      refine (number_any hN.out hB.out.size (by simp) st).mono ?_
      rintro e w5 ⟨s2, rfl, hN5, h3, hat5⟩
      have HN5 : Hid (NbAt w5 w.heap.size nb M s2 [st]) := Lib.hid (by simpa [cAdd] using hN5)
      have HB5 : Hid (Below w.heap.size w w5) := Lib.hid (hB.out.trans (h3.below hB.out.size
        (fun k hk => by cases hk; exact HMl.out.1) (fun k hk => own_ge hN.out.lst k hk) (fun k hk => by cases hk; exact HMl.out.2)))
      clear hN5 h3 hat5 d0
      go_wp2
      go_roundw
      case rel => exact ⟨1, s2, by go_num, by omega, by simpa using HN5, HB5⟩
      case measure => simp [intOf]
    · obtain rfl : j = 1 := by omega
      rw [if_neg (by omega)] at hN
      go_wp2
      go_ret
      exact ⟨nb, M, sv, rfl, HMl.out.2, HMl.out.1, hN.out, hB.out⟩

/-! ### what stands beside a numbering -/
section
variable {W W' : World} {B nb M : Nat} {sv : Value} {L : List Nat}
theorem Kp.row (hK : Kp W W' (fun k => k = nb ∨ k = M ∨ some k = sv.ownBlock)) (hN : NbAt W B nb M sv L) {base : Nat} {e : TypeId} {size n : Nat} {v : Value} {xs : List Value} (hO : W.ownsRow base e size v n xs) (h1 : e ≠ 3) (h2 : e ≠ 97) : W'.ownsRow base e size v n xs :=
  hK.own hO (fun q hq h9 => by
    rcases h9 with rfl | rfl | h9
    · exact own_whole hO hN.box h2 hq.symm
    · exact tab_own hN.tab hO hq.symm
    · rcases own_apart hO hN.lst h1 with h8 | h8
      · rw [h8] at hq; cases hq
      · exact h8 (hq.trans h9))
theorem Kp.box (hK : Kp W W' (fun k => k = nb ∨ k = M ∨ some k = sv.ownBlock)) (hN : NbAt W B nb M sv L) {g : Nat} {t : TypeId} {cs : Array Value} (hw : Whole W g t cs) (h1 : t ≠ 3) (h2 : t ≠ 97) : Whole W' g t cs :=
  hK.whole hw (fun h9 => by
    rcases h9 with h9 | h9 | h9
    · exact whole_ne hw hN.box h2 h9
    · exact tab_whole hN.tab hw h9
    · exact own_whole hN.lst hw (Ne.symm h1) h9)
theorem Kp.copy {w : World} {B3 j : Nat} {box : Array Value} {va vs : Value} {m : Syst} (hK : Kp W W' (fun k => k = nb ∨ k = M ∨ some k = sv.ownBlock)) (hN : NbAt W w.heap.size nb M sv L) (hnb : w.heap.size ≤ nb) (hM : w.heap.size ≤ M) (h : CopyAt w B3 box va m j vs W) : CopyAt w B3 box va m j vs W' := by
  refine ⟨hK.box hN h.box (by decide) (by decide), hK.box hN h.res (by decide) (by decide), hK.box hN h.out (by decide) (by decide), ?_, hK.row hN h.acts (by decide) (by decide), h.lo, ?_⟩
  · obtain ⟨rows, r1, r2, r3⟩ := h.rows
    refine ⟨rows, r1, hK.row hN r2 (by decide) (by decide), fun i hi => ?_⟩
    obtain ⟨r, h1, h2⟩ := r3 i hi
    exact ⟨r, h1, hK.row hN h2 (by decide) (by decide)⟩
  · exact h.below.trans (hK.below h.below.size (fun k hk => by
      rcases hk with rfl | rfl | hk
      · exact hnb
      · exact hM
      · exact own_ge hN.lst k hk.symm))
theorem CopyAt.swap {w : World} {B3 j : Nat} {box : Array Value} {va vs : Value} {m m' : Syst} (h : CopyAt w B3 box va m j vs W) (h1 : m'.acts = m.acts) (h2 : m'.states.take j = m.states.take j) : CopyAt w B3 box va m' j vs W :=
  ⟨h.box, h.res, h.out, by rw [h2]; exact h.rows, by rw [h1]; exact h.acts, h.lo, h.below⟩
/-- one row more is put behind the system's: the numbering stays -/
theorem NbAt.more {wB : World} {B' B3 : Nat} {vs v1 v2 : Value} {t : TypeId} {n : Nat} {rows : List Value} {cs : Array Value} (h : NbAt W B nb M sv L)
    (hr : (W.alloc (.cells #[v1] t)).ownsRow B' 77 1 vs n rows) (hg : (W.alloc (.cells #[v1] t)).grownBy wB vs.ownBlock) (hw : Whole wB B3 25 cs) : NbAt (wB.setCell ⟨B3, 1, none⟩ v2) B nb M sv L := by
  have h1 := (h.alloc (.cells #[v1] t)).grown hg hr (by decide) (by decide)
  exact ⟨h1.box.far (fun e => whole_ne h1.box hw (by decide) e) _, tab_kept h1.tab (grown_self wB ⟨B3, 1, none⟩ v2) (fun e => tab_whole h1.tab hw (by simpa using e.symm)), own_stored h1.lst hw (by decide)⟩
theorem NbAt.low {B' : Nat} (h : NbAt W B nb M sv L) (hb : B' ≤ B) : NbAt W B' nb M sv L := ⟨h.box, h.tab, own_low h.lst hb⟩
end
/-- the rows of the first i states -/
def rowsQ (m : Syst) (st i : Nat) : List (List Edg) := (List.range i).map fun r => sortEd (redL (ordQ m st r) (stAt m.states ((ordQ m st r).getD r 0)))
theorem rowsQ_len (m : Syst) (st i : Nat) : (rowsQ m st i).length = i := by simp [rowsQ]
theorem rowsQ_take (m : Syst) (st i : Nat) : (rowsQ m st (i + 1)).take i = (rowsQ m st i).take i := by
  have e : rowsQ m st (i + 1) = rowsQ m st i ++ [sortEd (redL (ordQ m st i) (stAt m.states ((ordQ m st i).getD i 0)))] := by
    unfold rowsQ
    rw [List.range_succ, List.map_append]
    rfl
  rw [e, List.take_append_of_le_length (by rw [rowsQ_len]; exact Nat.le_refl _)]
theorem rowsQ_at (m : Syst) (st i : Nat) : stAt (rowsQ m st (i + 1)) i = sortEd (redL (ordQ m st i) (stAt m.states ((ordQ m st i).getD i 0))) := by
  unfold stAt rowsQ
  rw [List.getD_eq_getElem?_getD, List.getElem?_map, List.getElem?_range (by omega)]
  rfl

set_option maxRecDepth 100000 in
set_option maxHeartbeats 16000000 in
theorem PPart_any {w : World} {a : Option Addr} {n c : Nat} {b : Option Addr} {k d : Nat} {m : Syst} {a0 a1 a2 : Addr} (E : Errs w a0 a1 a2) (A : SysArg w a n c b k d m) (hv : sysB m = true) {st : Nat} (hst : st < k) :
    Calls Tryz.prog 11 #[.agg #[.slice a n c, .slice b k d], .int .i64 st] w fun e w' => ∃ va vs v i, e = .returned (.tuple #[.agg #[va, vs], v, .int .i64 0]) ∧ OStp m st i ∧ (ordQ m st i).length = i ∧ SysOwn w' w.heap.size va vs ⟨m.acts, rowsQ m st i⟩ ∧ NumO w' w.heap.size v (zs (ordQ m st i)) ∧ Below w.heap.size w w' := by
  obtain ⟨i2, hi2, hz20, hz21, hz22⟩ := info_parts infoRow
  have hk5 : k ≤ 5000 := by have := ((sysB_iff m).1 hv).2.2.1; have := A.len; omega
  have hst' : st < m.states.length := by have := A.len; omega
  have hb0 := ((Below.refl w.heap.size w).alloc (Nat.le_refl _) (.cells #[.slice a n c, .slice b k d] 25)).alloc (by simp) (.cells #[.slice none 0 0, .slice none 0 0] 25)
  have hx1 := (Whole.new w 25 #[.slice a n c, .slice b k d]).alloc (.cells #[.slice none 0 0, .slice none 0 0] 25)
  have hx2 := Whole.new (w.alloc (.cells #[.slice a n c, .slice b k d] 25)) 25 #[.slice none 0 0, .slice none 0 0]
  have hz : ((w.alloc (.cells #[.slice a n c, .slice b k d] 25)).alloc (.cells #[.slice none 0 0, .slice none 0 0] 25)).heap.size = w.heap.size + 2 := by simp
  obtain ⟨w0, HW0⟩ : ∃ z, Hid ((w.alloc (.cells #[.slice a n c, .slice b k d] 25)).alloc (.cells #[.slice none 0 0, .slice none 0 0] 25) = z) := ⟨_, Lib.hid rfl⟩
  rw [HW0.out] at hb0 hx1 hx2 hz
  simp only [World.size_alloc] at hx2
  have HA := Lib.hid A
  have HV := Lib.hid hv
  have HX1 := Lib.hid hx1
  have HX2 := Lib.hid hx2
  have HZ0 := Lib.hid hz
  have HB0 := Lib.hid hb0
  have HKl : Hid (m.states.length = k) := Lib.hid A.len.symm
  have HC0 := Lib.hid (checkState_any (st : Int) (by omega) (by omega) (E.below hb0) (A.below hb0))
  have HSt : Hid (stC m (st : Int) = 0) := Lib.hid (by unfold stC; rw [if_pos hv, if_pos (by omega)])
  have q0 := hx1.cell 0
  have q1 := hx1.cell 1
  simp only [List.getElem?_toArray, List.getElem?_cons_succ, List.getElem?_cons_zero] at q0 q1
  clear A hv hb0 hx1 hx2 hz E
  go_enter Tryz.func11, Tryz.ntmps11
  go_upto_region 1 with (fail)
  rw [HW0.out]
  go_upto_region 4 with (go_at_call 45; refine HC0.out.mono ?_; rw [HSt.out]; rintro e w1 ⟨rfl, hb1⟩; have q0 := up_cell hb1 q0; have q1 := up_cell hb1 q1)
  have hal := (Below.refl w1.heap.size w1).alloc (Nat.le_refl _) (.cells #[.int .i64 (st : Int)] 3)
  have hcN := (Whole.new w1 3 #[.int .i64 (st : Int)]).cell 0
  simp only [List.getElem?_toArray, List.getElem?_cons_zero] at hcN
  have HO := Lib.hid (ofI_any hcN)
  clear hcN
  go_upto_region 5 with (go_at_call 46; refine HO.out.mono ?_; rintro e w3 ⟨nb, M, sv, rfl, hnb, hM, hN3, hb3⟩)
  have hb13 := hal.trans (hb3.mono hal.size)
  have hb03 := hb1.trans (hb13.mono hb1.size)
  have hz3 : w.heap.size ≤ (w1.alloc (.cells #[.int .i64 (st : Int)] 3)).heap.size := Nat.le_trans HB0.out.size (Nat.le_trans hb1.size hal.size)
  have hM : w.heap.size ≤ M := Nat.le_trans hz3 hM
  have hnb : w.heap.size ≤ nb := Nat.le_trans hz3 hnb
  have hN3 : NbAt w3 w.heap.size nb M sv (ordQ m st 0) := hN3.low hz3
  have hx1 := HX1.out.below hb03 HX1.out.lt
  have hx2 := HX2.out.below hb03 HX2.out.lt
  have hB3 : Below w.heap.size w w3 := HB0.out.trans (hb03.mono HB0.out.size)
  have HX13 := Lib.hid hx1
  have HX23 := Lib.hid hx2
  have HB3 := Lib.hid hB3
  have HN3 := Lib.hid hN3
  have q0 := hx1.cell 0
  simp only [List.getElem?_toArray, List.getElem?_cons_succ, List.getElem?_cons_zero] at q0
  have hn8 : n ≤ 1000000 := by have := HA.out.acts.len; have := ((actsB_iff _).1 ((sysB_iff m).1 HV.out).1).1; omega
  clear hN3 hx1 hx2 hB3 hb13 hb03 hz3 hal hb1 hb3
  go_upto_region 6 with (go_at_call 47; refine (cloneT_any (HA.out.acts.below HB3.out) hn8).mono ?_; rintro e w4 ⟨va, rfl, hva, hb4⟩; obtain ⟨aa, ca, rfl⟩ := own_slice' hva)
  obtain ⟨B3, HB3e⟩ : ∃ z, Hid (w4.heap.size = z) := ⟨_, Lib.hid rfl⟩
  obtain ⟨w5, HW5⟩ : ∃ z, Hid (w4.alloc (.cells #[.slice aa n ca, .slice none 0 0] 25) = z) := ⟨_, Lib.hid rfl⟩
  have hb5 := hb4.trans (((Below.refl _ w4).alloc (Nat.le_refl _) (.cells #[.slice aa n ca, .slice none 0 0] 25)).mono hb4.size)
  have HN5 : Hid (NbAt w5 w.heap.size nb M sv (ordQ m st 0)) := Lib.hid (by rw [← HW5.out]; exact HN3.out.below hb5)
  have HC5 : Hid (CopyAt w B3 #[.slice a n c, .slice b k d] (.slice aa n ca) ⟨m.acts, rowsQ m st 0⟩ 0 (.slice none 0 0) w5) := Lib.hid (by
    rw [HW5.out] at hb5
    refine ⟨HX13.out.below hb5 HX13.out.lt, HX23.out.below hb5 HX23.out.lt, ?_, RowsOwn.none _ _, ?_, ?_, HB3.out.trans (hb5.mono HB3.out.size)⟩
    · rw [← HW5.out, ← HB3e.out]; exact Whole.new _ _ _
    · rw [← HW5.out]
      have := HA.out.acts.len
      show World.ownsRow _ _ _ _ _ m.acts.length _
      rw [← this]
      exact own_low (hva.alloc _) HB3.out.size
    · have := hb4.size
      have := HB3e.out
      have := HX23.out.lt
      omega)
  have HS0 : Hid (OStp m st 0) := Lib.hid (fun j hj => by omega)
  clear hva hb4 hb5 q0
  rw [HW5.out, HB3e.out]
  go_upto_region 7 with (fail)
  go_loopw [10, 11] (fun q _ wr => ∃ (j : Nat) (sv vs : Value), q = .int .i64 j ∧ j ≤ (ordQ m st j).length ∧ Hid (OStp m st j) ∧ Hid (NbAt wr w.heap.size nb M sv (ordQ m st j)) ∧ Hid (CopyAt w B3 #[.slice a n c, .slice b k d] (.slice aa n ca) ⟨m.acts, rowsQ m st j⟩ j vs wr)) (fun q _ _ => 5001 - (intOf q).toNat)
  case atStart => exact ⟨0, sv, _, rfl, Nat.zero_le _, HS0, HN5, HC5⟩
  case round =>
    as_aux_lemma =>
    obtain ⟨w7, hw7⟩ : ∃ z, z = wr := ⟨_, rfl⟩
    subst hw7
    obtain ⟨j, sv, vs, rfl, hj, hSt, hN, hC⟩ := hrel
    have HOk := Lib.hid (ordQ_ok HV.out hst' j hSt.out)
    obtain ⟨L, HLq⟩ : ∃ z, Hid (ordQ m st j = z) := ⟨_, Lib.hid rfl⟩
    rw [HLq.out] at hN hj HOk
    obtain ⟨ln, HLn⟩ : ∃ z, Hid (L.length = z) := ⟨_, Lib.hid rfl⟩
    rw [HLn.out] at hj
    have hln5 : ln ≤ 5000 := by have := HOk.out.len; have := HKl.out; have := HLn.out; omega
    obtain ⟨la, lc, rfl⟩ : ∃ la lc, sv = .slice la ln lc := by
      obtain ⟨y, z, e⟩ := own_slice' hN.out.lst
      rw [zs_len, HLn.out] at e
      exact ⟨y, z, e⟩
    obtain ⟨rows, r1, r2, r3⟩ := hC.out.rows
    have hl : (List.take j (rowsQ m st j)).length = j := by rw [List.length_take, rowsQ_len]; omega
    rw [hl] at r1 r2
    obtain ⟨bb, cc, rfl⟩ := own_slice r2
    clear r1 r2 r3 hl rows
    have s1 := hN.out.box.cell 0
    have y1 := hC.out.box.cell 1
    simp only [List.getElem?_toArray, List.getElem?_cons_succ, List.getElem?_cons_zero] at s1 y1
    by_cases hlt : j < ln
    · have hii : j < L.length := by rw [HLn.out]; exact hlt
      have hrow : w7.ownsRow w.heap.size 3 1 (.slice la ln lc) (zs L).length ((zs L).map (Value.int .i64)) := hN.out.lst
      obtain ⟨lb, rfl⟩ := (own_some hrow).2 (by rw [zs_len]; omega)
      obtain ⟨x, HX⟩ : ∃ x, Hid (L[j]? = some x) := ⟨_, Lib.hid (List.getElem?_eq_getElem hii)⟩
      rw [zs_len, HLn.out] at hrow
      have c0 : w7.cell? ⟨lb, j, none⟩ = some (.int .i64 (x : Int)) := by
        rw [hrow.cellAt j (by omega)]
        exact zs_cell HX.out
      have hxm := HOk.out.2 x (List.mem_of_getElem? HX.out)
      have HXm := Lib.hid hxm
      obtain ⟨bx, off, rfl, ai, ni, ci, e11, hE⟩ := HA.out.rows x hxm
      have e10 := (hC.out.below.cell (lt_of_cell e11)).trans e11
      have HE := Lib.hid hE
      have hX0 : (0 : Int) ≤ (x : Int) := by omega
      have hX1 : (x : Int) < (k : Int) := by have := HKl.out; omega
      have hI0 : (0 : Int) ≤ (j : Int) := by omega
      have hI1 : (j : Int) < (ln : Int) := by omega
      have HEl : Hid ((stAt m.states x).length = ni) := Lib.hid hE.len.symm
      have hni : ni ≤ 400000 := by
        have h3 := hE.len
        have h4 := total_take m.states x hxm
        have h5 := total_take_le m.states (x + 1)
        have := ((sysB_iff m).1 HV.out).2.2.2.2
        omega
      have HR := Lib.hid (fun W (hW : NbAt W w.heap.size nb M (.slice (some ⟨lb, 0, none⟩) ln lc) L) (hB : Below w.heap.size w W) => redirect_any (w00 := w) hB HE.out hW hnb hM (fun j' hj' => (edge_ok HV.out HXm.out (by rw [HEl.out]; exact hj')).2.2.1) hni (fun j' hj' => by
        have h7 := (ordE_ok HV.out HXm.out HOk.out j' (by rw [HEl.out]; exact hj')).len
        have := HKl.out
        omega))
      have HNx : Hid (ordQ m st (j + 1) = ordE L (stAt m.states x)) := Lib.hid (by
        show ordE (ordQ m st j) (stAt m.states ((ordQ m st j).getD j 0)) = _
        rw [HLq.out, List.getD_eq_getElem?_getD, HX.out]
        rfl)
      have HSn : Hid (OStp m st (j + 1)) := Lib.hid (steps_next hSt.out (by rw [HLq.out]; exact hii))
      have HRw : Hid (stAt (rowsQ m st (j + 1)) j = sortEd (redL L (stAt m.states x))) := Lib.hid (by
        rw [rowsQ_at, HLq.out, List.getD_eq_getElem?_getD, HX.out]
        rfl)
      clear hrow hE hxm e11 hii
      go_upto_region 9 with (fail)
      go_still_tail 13, (by kernel_rfl)
      change wpList _ _ _ _ _ w7.drew
      go_upto_region 10 with (go_at_call 48; refine (HR.out w7.drew hN.out.drew hC.out.below.drew).mono ?_; rintro e w8 ⟨v, s3, rfl, hv8, hN8, hK8, hs8⟩)
      have hK8' : Kp w7 w8 (fun k => k = nb ∨ k = M ∨ some k = (Value.slice (some ⟨lb, 0, none⟩) ln lc).ownBlock) := ⟨hK8.os, hK8.tape, hK8.output, hK8.size, hK8.block⟩
      have hC8 := (hK8'.copy hN.out hnb hM hC.out).swap (m' := ⟨m.acts, rowsQ m st (j + 1)⟩) rfl (rowsQ_take m st j)
      obtain ⟨ea, ec, rfl⟩ := own_slice' hv8
      obtain ⟨el, HEl2⟩ : ∃ z, Hid ((sortEd (redL L (stAt m.states x))).length = z) := ⟨_, Lib.hid rfl⟩
      have hv8' : EdgeOwn w8 w.heap.size (.slice ea (sortEd (redL L (stAt m.states x))).length ec) (stAt (rowsQ m st (j + 1)) j) := by
        rw [HRw.out]
        exact own_low hv8 hC.out.below.size
      rw [HEl2.out] at hv8' ⊢
      obtain ⟨rows, r1, r2, r3⟩ := hC8.rows
      have hl : (List.take j (rowsQ m st (j + 1))).length = j := by rw [List.length_take, rowsQ_len]; omega
      rw [hl] at r1 r2
      have o1 := hC8.out.cell 1
      simp only [List.getElem?_toArray, List.getElem?_cons_succ, List.getElem?_cons_zero] at o1
      have HNE := Lib.hid (own_whole r2 hC8.out (by decide))
      have HO8 := Lib.hid (hC8.out.alloc (.cells #[.slice ea el ec] 77))
      have HR8 := Lib.hid (r2.alloc (.cells #[.slice ea el ec] 77))
      have HS8 := Lib.hid hC8.below.size
      have HC8 := Lib.hid hC8
      have HV8 := Lib.hid hv8'
      have HN8 := Lib.hid hN8
      clear hv8 hN8 hK8 hs8 hK8' hC8 hv8' r1 r2 r3 hl s1 y1 c0 e10 hX0 hX1 hI0 hI1
      go_wp2_with (at_builtin; (refine wpList_append_sz rfl (.tmp 50) (.tmp 52) 23 rfl w.heap.size 77 i2 (.slice none 0 0) 1 24 Tryz.underlying23 hi2 hz20 hz21 hz22 rfl (by decide) (.slice bb j cc) rfl j rows HR8.out (some ⟨w8.heap.size, 0, none⟩) 1 1 rfl [.slice ea el ec] (fun h => by cases h) rfl (one_src _ _ _) (by simp [Value.oneCell']) (by unfold maxLen; omega) (by omega) (Nat.le_trans HS8.out (by simp)) ?_); intro v2 wB hv2 hgB hatB; refine Hid.out ?_)
      obtain ⟨a2, q2, rfl⟩ := own_slice hv2
      have kW := HO8.out.grown hgB HNE.out
      have k1 := kW.cell 1
      have k2 := kW.frozen 1
      have k3 := kW.lt
      simp only [List.getElem?_toArray, List.getElem?_cons_succ, List.getElem?_cons_zero] at k1
      have HC2 : Hid (CopyAt w B3 #[.slice a n c, .slice (some ⟨bx, off, none⟩) k d] (.slice aa n ca) ⟨m.acts, rowsQ m st (j + 1)⟩ (j + 1) (.slice a2 (j + 1) q2) (wB.setCell ⟨B3, 1, none⟩ (.slice a2 (j + 1) q2))) :=
        Lib.hid (HC8.out.next (by rw [rowsQ_len]; omega) HV8.out (below_grown (Below.refl _ _)) hgB (fun rows' e1 e2 => by
          have e3 := own_eq e1 HR8.out
          rw [e3]; exact hv2))
      have HN9 : Hid (NbAt (wB.setCell ⟨B3, 1, none⟩ (.slice a2 (j + 1) q2)) w.heap.size nb M s3 (ordQ m st (j + 1))) := Lib.hid (by
        rw [HNx.out]
        exact HN8.out.more HR8.out hgB kW)
      have HLe : Hid (j + 1 ≤ (ordQ m st (j + 1)).length) := Lib.hid (by
        have h7 := (ordQ_pre m st j 1).length_le
        rw [HLq.out, HLn.out] at h7
        omega)
      clear hv2 hgB hatB kW
      refine Lib.hid ?_
      go_wp2
      go_roundw
      case rel => exact ⟨j + 1, s3, _, by go_num, HLe.out, HSn, HN9, HC2⟩
      case measure => simp [intOf]; omega
    · have hjn : ln = j := by omega
      subst hjn
      have x0 := hC.out.res.cell 0
      have x1 := hC.out.res.cell 1
      have x2 := hC.out.res.frozen 0
      have x3 := hC.out.res.frozen 1
      have x4 := hC.out.res.lt
      have x5 := hC.out.lo
      have z1 := hC.out.out.cell 0
      have z2 := hC.out.out.cell 1
      simp only [List.getElem?_toArray, List.getElem?_cons_succ, List.getElem?_cons_zero] at x0 x1 z1 z2
      have hrows := hC.out.rows
      rw [List.take_of_length_le (by show (rowsQ m st ln).length ≤ ln; rw [rowsQ_len]; exact Nat.le_refl _)] at hrows
      have hw := hC.out.res.set 0 (.slice aa n ca)
      have hL7 : w7.ownsRow w.heap.size 3 1 (.slice la ln lc) (zs L).length ((zs L).map (Value.int .i64)) := hN.out.lst
      have HR : Hid (SysOwn ((w7.setCell ⟨w.heap.size + 1, 0, none⟩ (.slice aa n ca)).setCell ⟨w.heap.size + 1, 1, none⟩ (.slice bb ln cc)) w.heap.size (.slice aa n ca) (.slice bb ln cc) ⟨m.acts, rowsQ m st ln⟩) := Lib.hid (by
        refine ⟨own_stored (own_stored hC.out.acts hC.out.res (by decide)) hw (by decide), ?_⟩
        have s1 := hrows.kept (grown_self w7 ⟨w.heap.size + 1, 0, none⟩ (.slice aa n ca)) (.inr (own_whole hrows.choose_spec.2.1 hC.out.res (by decide)).symm) (fun r l hr => .inr (own_whole hr hC.out.res (by decide)).symm)
        exact s1.kept (grown_self _ ⟨w.heap.size + 1, 1, none⟩ (.slice bb ln cc)) (.inr (own_whole s1.choose_spec.2.1 hw (by decide)).symm) (fun r l hr => .inr (own_whole hr hw (by decide)).symm))
      have HRB : Hid (Below w.heap.size w ((w7.setCell ⟨w.heap.size + 1, 0, none⟩ (.slice aa n ca)).setCell ⟨w.heap.size + 1, 1, none⟩ (.slice bb ln cc))) := Lib.hid ((hC.out.below.setCell (by simp) _).setCell (by simp) _)
      have HRL : Hid (NumO ((w7.setCell ⟨w.heap.size + 1, 0, none⟩ (.slice aa n ca)).setCell ⟨w.heap.size + 1, 1, none⟩ (.slice bb ln cc)) w.heap.size (.slice la ln lc) (zs (ordQ m st ln))) := Lib.hid (by
        rw [HLq.out]
        exact own_stored (own_stored hL7 hC.out.res (by decide)) hw (by decide))
      have HLe : Hid ((ordQ m st ln).length = ln) := Lib.hid (by rw [HLq.out, HLn.out])
      have g0 := (hC.out.res.set 0 (.slice aa n ca)).cell 0
      have g1 := ((hC.out.res.set 0 (.slice aa n ca)).set 1 (.slice bb ln cc)).cell 1
      simp only [List.setIfInBounds_toArray, List.set_cons_zero, List.set_cons_succ, List.getElem?_toArray, List.getElem?_cons_succ, List.getElem?_cons_zero] at g0 g1
      have hne : nb ≠ w.heap.size + 1 := whole_ne hN.out.box hC.out.res (by decide)
      have s2 := ((hN.out.box.far (p := ⟨w.heap.size + 1, 0, none⟩) hne (.slice aa n ca)).far (p := ⟨w.heap.size + 1, 1, none⟩) hne (.slice bb ln cc)).cell 0
      simp only [List.getElem?_toArray, List.getElem?_cons_succ, List.getElem?_cons_zero] at s2
      clear hrows hw hL7 y1 hne
      go_upto_region 11 with (fail)
      go_region
      all_goals
        go_wp2
        first
          | exact bodyPost_ret (v := .tuple #[.agg #[.slice aa n ca, .slice bb ln cc], .slice la ln lc, .int .i64 0]) (by simp [results, Tryz.results11, go_sem, g0, g1]) rfl ⟨_, _, _, ln, rfl, hSt.out, HLe.out, HR.out, HRL.out, HRB.out⟩
          | exact bodyPost_ret (v := .tuple #[.agg #[.slice aa n ca, .slice bb ln cc], .slice la ln lc, .int .i64 0]) (by simp [results, Tryz.results11, go_sem, g0, g1]) rfl ⟨_, _, _, ln, rfl, hSt.out, HLe.out, ⟨HR.out.acts, HR.out.rows⟩, HRL.out, HRB.out.drew⟩
end Go.Proofs.YtgnbkepdbdgkdaaGreatDoor
