/- Texts joined: PPart, PartRows, PPartBad. -/
import Derived.Test.YtohljainhkdiiaaGreatDoorJp45
import Derived.Test.YtohljainhkdiiaaGreatDoorJp11
import Derived.Test.YtohljainhkdiiaaGreatDoorJp08
import Derived.StillTailTactics
import Derived.Test.YtohljainhkdiiaaGreatDoorJp44
import Derived.Deep.Cut
/- system.Part. -/
namespace Go.Proofs.YtohljainhkdiiaaGreatDoor
open Go.RowKit Go.Sort Pl

set_option maxRecDepth 100000 in
set_option maxHeartbeats 1000000 in
theorem newNumbering_any (w : World) : Calls Tryz.prog 36 #[] w fun e w' => e = .returned (.pointer (some ⟨w.heap.size + 1, 0, none⟩)) ∧ NbAt w' w.heap.size (w.heap.size + 1) w.heap.size (.slice none 0 0) [] ∧ Below w.heap.size w w' := by
  have hmm := @run_makeMap Tryz.prog
  have HN : Hid (NbAt ((w.alloc (.map #[] 0)).alloc (.cells #[.map (some w.heap.size), .slice none 0 0] 82)) w.heap.size (w.heap.size + 1) w.heap.size (.slice none 0 0) []) := Lib.hid
    ⟨by simpa using Whole.new (w.alloc (.map #[] 0)) 82 #[.map (some w.heap.size), .slice none 0 0],
     tab_kept (heap_alloc_new w _) (World.grownBy_alloc _ _ none) (by simp), World.ownsRow_nil _ _ _ _⟩
  have HB := Lib.hid (((Below.refl w.heap.size w).alloc (Nat.le_refl _) (.map #[] 0)).alloc (by simp) (.cells #[.map (some w.heap.size), .slice none 0 0] 82))
  go_enter Tryz.func36, Tryz.ntmps36
  go_wp2
  go_ret
  exact ⟨by simp, HN.out, HB.out⟩

/-! ### what stands beside a numbering -/
section
variable {W W' : World} {B nb M : Nat} {sv : Value} {L : List Nat}
theorem Kp.row (hK : Kp W W' (fun k => k = nb ∨ k = M ∨ some k = sv.ownBlock)) (hN : NbAt W B nb M sv L) {base : Nat} {e : TypeId} {size n : Nat} {v : Value} {xs : List Value} (hO : W.ownsRow base e size v n xs) (h1 : e ≠ 3) (h2 : e ≠ 82) : W'.ownsRow base e size v n xs :=
  hK.own hO (fun q hq h9 => by
    rcases h9 with rfl | rfl | h9
    · exact own_whole hO hN.box h2 hq.symm
    · exact tab_own hN.tab hO hq.symm
    · rcases own_apart hO hN.lst h1 with h8 | h8
      · rw [h8] at hq; cases hq
      · exact h8 (hq.trans h9))
theorem Kp.box (hK : Kp W W' (fun k => k = nb ∨ k = M ∨ some k = sv.ownBlock)) (hN : NbAt W B nb M sv L) {g : Nat} {t : TypeId} {cs : Array Value} (hw : Whole W g t cs) (h1 : t ≠ 3) (h2 : t ≠ 82) : Whole W' g t cs :=
  hK.whole hw (fun h9 => by
    rcases h9 with h9 | h9 | h9
    · exact whole_ne hw hN.box h2 h9
    · exact tab_whole hN.tab hw h9
    · exact own_whole hN.lst hw (Ne.symm h1) h9)
theorem Kp.copy {w : World} {B3 j : Nat} {box : Array Value} {va vs : Value} {m : Syst} (hK : Kp W W' (fun k => k = nb ∨ k = M ∨ some k = sv.ownBlock)) (hN : NbAt W w.heap.size nb M sv L) (hnb : w.heap.size ≤ nb) (hM : w.heap.size ≤ M) (h : CopyAt w B3 box va m j vs W) : CopyAt w B3 box va m j vs W' := by
  refine ⟨hK.box hN h.box (by decide) (by decide), hK.box hN h.res (by decide) (by decide), hK.box hN h.out (by decide) (by decide), ?_, hK.row hN h.acts (by decide) (by decide), h.lo, ?_⟩
  · obtain ⟨rows, r1, r2, r3⟩ := h.rows
    refine ⟨rows, r1, hK.row hN r2 (by decide) (by decide), fun i hi => ?_⟩
    obtain ⟨r, h1, h2⟩ := r3 i hi
    exact ⟨r, h1, hK.row hN h2 (by decide) (by decide)⟩
  · exact h.below.trans (hK.below h.below.size (fun k hk => by
      rcases hk with rfl | rfl | hk
      · exact hnb
      · exact hM
      · exact own_ge hN.lst k hk.symm))
theorem CopyAt.swap {w : World} {B3 j : Nat} {box : Array Value} {va vs : Value} {m m' : Syst} (h : CopyAt w B3 box va m j vs W) (h1 : m'.acts = m.acts) (h2 : m'.states.take j = m.states.take j) : CopyAt w B3 box va m' j vs W :=
  ⟨h.box, h.res, h.out, by rw [h2]; exact h.rows, by rw [h1]; exact h.acts, h.lo, h.below⟩
/-- one row more is put behind the system's: the numbering stays -/
theorem NbAt.more {wB : World} {B' B3 : Nat} {vs v1 v2 : Value} {t : TypeId} {n : Nat} {rows : List Value} {cs : Array Value} (h : NbAt W B nb M sv L)
    (hr : (W.alloc (.cells #[v1] t)).ownsRow B' 60 1 vs n rows) (hg : (W.alloc (.cells #[v1] t)).grownBy wB vs.ownBlock) (hw : Whole wB B3 25 cs) : NbAt (wB.setCell ⟨B3, 1, none⟩ v2) B nb M sv L := by
  have h1 := (h.alloc (.cells #[v1] t)).grown hg hr (by decide) (by decide)
  exact ⟨h1.box.far (fun e => whole_ne h1.box hw (by decide) e) _, tab_kept h1.tab (grown_self wB ⟨B3, 1, none⟩ v2) (fun e => tab_whole h1.tab hw (by simpa using e.symm)), own_stored h1.lst hw (by decide)⟩
theorem NbAt.low {B' : Nat} (h : NbAt W B nb M sv L) (hb : B' ≤ B) : NbAt W B' nb M sv L := ⟨h.box, h.tab, own_low h.lst hb⟩
end
/-- the rows of the first i states -/
def rowsQ (m : Syst) (st i : Nat) : List (List Edg) := (List.range i).map fun r => sortEd (redL (ordQ m st r) (stAt m.states ((ordQ m st r).getD r 0)))
theorem rowsQ_len (m : Syst) (st i : Nat) : (rowsQ m st i).length = i := by simp [rowsQ]
theorem rowsQ_take (m : Syst) (st i : Nat) : (rowsQ m st (i + 1)).take i = (rowsQ m st i).take i := by
  have e : rowsQ m st (i + 1) = rowsQ m st i ++ [sortEd (redL (ordQ m st i) (stAt m.states ((ordQ m st i).getD i 0)))] := by
    unfold rowsQ
    rw [List.range_succ, List.map_append]
    rfl
  rw [e, List.take_append_of_le_length (by rw [rowsQ_len]; exact Nat.le_refl _)]
theorem rowsQ_at (m : Syst) (st i : Nat) : stAt (rowsQ m st (i + 1)) i = sortEd (redL (ordQ m st i) (stAt m.states ((ordQ m st i).getD i 0))) := by
  unfold stAt rowsQ
  rw [List.getD_eq_getElem?_getD, List.getElem?_map, List.getElem?_range (by omega)]
  rfl

set_option maxRecDepth 100000 in
set_option maxHeartbeats 16000000 in
theorem PPart_any {w : World} {a : Option Addr} {n c : Nat} {b : Option Addr} {k d : Nat} {m : Syst} {a0 a1 a2 : Addr} (E : Errs w a0 a1 a2) (A : SysArg w a n c b k d m) (hv : sysB m = true) {st : Nat} (hst : st < k) :
    Calls Tryz.prog 10 #[.agg #[.slice a n c, .slice b k d], .int .i64 st] w fun e w' => ∃ va vs v i, e = .returned (.tuple #[.agg #[va, vs], v, .int .i64 0]) ∧ OStp m st i ∧ (ordQ m st i).length = i ∧ SysOwn w' w.heap.size va vs ⟨m.acts, rowsQ m st i⟩ ∧ NumO w' w.heap.size v (zs (ordQ m st i)) ∧ Below w.heap.size w w' := by
  obtain ⟨i2, hi2, hz20, hz21, hz22⟩ := info_parts infoRow
  have hk5 : k ≤ 5000 := by have := ((sysB_iff m).1 hv).2.2.1; have := A.len; omega
  have hst' : st < m.states.length := by have := A.len; omega
  have hb0 := ((Below.refl w.heap.size w).alloc (Nat.le_refl _) (.cells #[.slice a n c, .slice b k d] 25)).alloc (by simp) (.cells #[.slice none 0 0, .slice none 0 0] 25)
  have hx1 := (Whole.new w 25 #[.slice a n c, .slice b k d]).alloc (.cells #[.slice none 0 0, .slice none 0 0] 25)
  have hx2 := Whole.new (w.alloc (.cells #[.slice a n c, .slice b k d] 25)) 25 #[.slice none 0 0, .slice none 0 0]
  have hz : ((w.alloc (.cells #[.slice a n c, .slice b k d] 25)).alloc (.cells #[.slice none 0 0, .slice none 0 0] 25)).heap.size = w.heap.size + 2 := by simp
  obtain ⟨w0, HW0⟩ : ∃ z, Hid ((w.alloc (.cells #[.slice a n c, .slice b k d] 25)).alloc (.cells #[.slice none 0 0, .slice none 0 0] 25) = z) := ⟨_, Lib.hid rfl⟩
  rw [HW0.out] at hb0 hx1 hx2 hz
  simp only [World.size_alloc] at hx2
  have HA := Lib.hid A
  have HV := Lib.hid hv
  have HX1 := Lib.hid hx1
  have HX2 := Lib.hid hx2
  have HZ0 := Lib.hid hz
  have HB0 := Lib.hid hb0
  have HKl : Hid (m.states.length = k) := Lib.hid A.len.symm
  have HC0 := Lib.hid (checkState_any (st : Int) (by omega) (by omega) (E.below hb0) (A.below hb0))
  have HSt : Hid (stC m (st : Int) = 0) := Lib.hid (by unfold stC; rw [if_pos hv, if_pos (by omega)])
  have q0 := hx1.cell 0
  have q1 := hx1.cell 1
  simp only [List.getElem?_toArray, List.getElem?_cons_succ, List.getElem?_cons_zero] at q0 q1
  clear A hv hb0 hx1 hx2 hz E
  go_enter Tryz.func10, Tryz.ntmps10
  go_upto_region 1 with (fail)
  rw [HW0.out]
  go_upto_region 4 with (go_at_call 35; refine HC0.out.mono ?_; rw [HSt.out]; rintro e w1 ⟨rfl, hb1⟩; have q0 := up_cell hb1 q0; have q1 := up_cell hb1 q1)
  go_upto_region 5 with (go_at_call 36; refine (newNumbering_any w1).mono ?_; rintro e w2 ⟨rfl, hN2, hb2⟩)
  have HB2 := Lib.hid (HB0.out.trans ((hb1.trans (hb2.mono hb1.size)).mono HB0.out.size))
  have HB12 := Lib.hid (hb1.trans (hb2.mono hb1.size))
  have hz1 : w.heap.size + 2 ≤ w1.heap.size := by have := hb1.size; have := HZ0.out; omega
  obtain ⟨M, HM⟩ : ∃ z, Hid (w1.heap.size = z) := ⟨_, Lib.hid rfl⟩
  rw [HM.out] at hN2 hz1 ⊢
  obtain ⟨nb, HNb⟩ : ∃ z, Hid (M + 1 = z) := ⟨_, Lib.hid rfl⟩
  rw [HNb.out] at hN2 ⊢
  have hM : w.heap.size ≤ M := by omega
  have hnb : w.heap.size ≤ nb := by have := HNb.out; omega
  have hN2 := hN2.low (B' := w.heap.size) (by omega)
  have HN2 := Lib.hid hN2
  clear hb1 hb2 hN2 q0 q1
  go_upto_region 6 with (go_at_call 37; refine (number_any HN2.out HB2.out.size (by simp) st).mono ?_; rintro e w3 ⟨sv, rfl, hN3, h3, hat⟩)
  have hq0 : cAdd [] st = ordQ m st 0 := by simp [cAdd, ordQ]
  rw [hq0] at hN3
  have hK3 : Kp w2 w3 (fun k => k = nb ∨ k = M ∨ some k = (Value.slice none 0 0).ownBlock) := (Kp.of_nb3 h3).mono (fun k _ h9 => by
    rcases h9 with h9 | h9 | h9
    · exact .inr (.inl (by simpa using h9))
    · exact .inr (.inr h9)
    · exact .inl (by simpa using h9))
  have hx1 := hK3.box HN2.out (HX1.out.below HB12.out HX1.out.lt) (by decide) (by decide)
  have hx2 := hK3.box HN2.out (HX2.out.below HB12.out HX2.out.lt) (by decide) (by decide)
  have hB3 : Below w.heap.size w w3 := HB2.out.trans (hK3.below HB2.out.size (fun k hk => by
    rcases hk with rfl | rfl | hk
    · exact hnb
    · exact hM
    · simp [Value.ownBlock] at hk))
  have HX13 := Lib.hid hx1
  have HX23 := Lib.hid hx2
  have HB3 := Lib.hid hB3
  have HN3 := Lib.hid hN3
  have q0 := hx1.cell 0
  simp only [List.getElem?_toArray, List.getElem?_cons_succ, List.getElem?_cons_zero] at q0
  have hn8 : n ≤ 1000000 := by have := HA.out.acts.len; have := ((actsB_iff _).1 ((sysB_iff m).1 HV.out).1).1; omega
  clear hN3 h3 hat hq0 hK3 hx1 hx2 hB3
  go_upto_region 7 with (go_at_call 38; refine (cloneT_any (HA.out.acts.below HB3.out) hn8).mono ?_; rintro e w4 ⟨va, rfl, hva, hb4⟩; obtain ⟨aa, ca, rfl⟩ := own_slice' hva)
  obtain ⟨B3, HB3e⟩ : ∃ z, Hid (w4.heap.size = z) := ⟨_, Lib.hid rfl⟩
  obtain ⟨w5, HW5⟩ : ∃ z, Hid (w4.alloc (.cells #[.slice aa n ca, .slice none 0 0] 25) = z) := ⟨_, Lib.hid rfl⟩
  have hb5 := hb4.trans (((Below.refl _ w4).alloc (Nat.le_refl _) (.cells #[.slice aa n ca, .slice none 0 0] 25)).mono hb4.size)
  have HN5 : Hid (NbAt w5 w.heap.size nb M sv (ordQ m st 0)) := Lib.hid (by rw [← HW5.out]; exact HN3.out.below hb5)
  have HC5 : Hid (CopyAt w B3 #[.slice a n c, .slice b k d] (.slice aa n ca) ⟨m.acts, rowsQ m st 0⟩ 0 (.slice none 0 0) w5) := Lib.hid (by
    rw [HW5.out] at hb5
    refine ⟨HX13.out.below hb5 HX13.out.lt, HX23.out.below hb5 HX23.out.lt, ?_, RowsOwn.none _ _, ?_, ?_, HB3.out.trans (hb5.mono HB3.out.size)⟩
    · rw [← HW5.out, ← HB3e.out]; exact Whole.new _ _ _
    · rw [← HW5.out]
      have := HA.out.acts.len
      show World.ownsRow _ _ _ _ _ m.acts.length _
      rw [← this]
      exact own_low (hva.alloc _) HB3.out.size
    · have := hb4.size
      have := HB3e.out
      have := HX23.out.lt
      omega)
  have HS0 : Hid (OStp m st 0) := Lib.hid (fun j hj => by omega)
  clear hva hb4 hb5 q0
  rw [HW5.out, HB3e.out]
  go_upto_region 8 with (fail)
  go_loopw [10, 11] (fun q _ wr => ∃ (j : Nat) (sv vs : Value), q = .int .i64 j ∧ j ≤ (ordQ m st j).length ∧ Hid (OStp m st j) ∧ Hid (NbAt wr w.heap.size nb M sv (ordQ m st j)) ∧ Hid (CopyAt w B3 #[.slice a n c, .slice b k d] (.slice aa n ca) ⟨m.acts, rowsQ m st j⟩ j vs wr)) (fun q _ _ => 5001 - (intOf q).toNat)
  case atStart => exact ⟨0, sv, _, rfl, Nat.zero_le _, HS0, HN5, HC5⟩
  case round =>
    as_aux_lemma =>
    obtain ⟨w7, hw7⟩ : ∃ z, z = wr := ⟨_, rfl⟩
    subst hw7
    obtain ⟨j, sv, vs, rfl, hj, hSt, hN, hC⟩ := hrel
    have HOk := Lib.hid (ordQ_ok HV.out hst' j hSt.out)
    obtain ⟨L, HLq⟩ : ∃ z, Hid (ordQ m st j = z) := ⟨_, Lib.hid rfl⟩
    rw [HLq.out] at hN hj HOk
    obtain ⟨ln, HLn⟩ : ∃ z, Hid (L.length = z) := ⟨_, Lib.hid rfl⟩
    rw [HLn.out] at hj
    have hln5 : ln ≤ 5000 := by have := HOk.out.len; have := HKl.out; have := HLn.out; omega
    obtain ⟨la, lc, rfl⟩ : ∃ la lc, sv = .slice la ln lc := by
      obtain ⟨y, z, e⟩ := own_slice' hN.out.lst
      rw [zs_len, HLn.out] at e
      exact ⟨y, z, e⟩
    obtain ⟨rows, r1, r2, r3⟩ := hC.out.rows
    have hl : (List.take j (rowsQ m st j)).length = j := by rw [List.length_take, rowsQ_len]; omega
    rw [hl] at r1 r2
    obtain ⟨bb, cc, rfl⟩ := own_slice r2
    clear r1 r2 r3 hl rows
    have s1 := hN.out.box.cell 1
    have y1 := hC.out.box.cell 1
    simp only [List.getElem?_toArray, List.getElem?_cons_succ, List.getElem?_cons_zero] at s1 y1
    by_cases hlt : j < ln
    · have hii : j < L.length := by rw [HLn.out]; exact hlt
      have hrow : w7.ownsRow w.heap.size 3 1 (.slice la ln lc) (zs L).length ((zs L).map (Value.int .i64)) := hN.out.lst
      obtain ⟨lb, rfl⟩ := (own_some hrow).2 (by rw [zs_len]; omega)
      obtain ⟨x, HX⟩ : ∃ x, Hid (L[j]? = some x) := ⟨_, Lib.hid (List.getElem?_eq_getElem hii)⟩
      rw [zs_len, HLn.out] at hrow
      have c0 : w7.cell? ⟨lb, j, none⟩ = some (.int .i64 (x : Int)) := by
        rw [hrow.cellAt j (by omega)]
        exact zs_cell HX.out
      have hxm := HOk.out.2 x (List.mem_of_getElem? HX.out)
      have HXm := Lib.hid hxm
      obtain ⟨bx, off, rfl, ai, ni, ci, e11, hE⟩ := HA.out.rows x hxm
      have e10 := (hC.out.below.cell (lt_of_cell e11)).trans e11
      have HE := Lib.hid hE
      have hX0 : (0 : Int) ≤ (x : Int) := by omega
      have hX1 : (x : Int) < (k : Int) := by have := HKl.out; omega
      have hI0 : (0 : Int) ≤ (j : Int) := by omega
      have hI1 : (j : Int) < (ln : Int) := by omega
      have HEl : Hid ((stAt m.states x).length = ni) := Lib.hid hE.len.symm
      have hni : ni ≤ 400000 := by
        have h3 := hE.len
        have h4 := total_take m.states x hxm
        have h5 := total_take_le m.states (x + 1)
        have := ((sysB_iff m).1 HV.out).2.2.2.2
        omega
      have HR := Lib.hid (fun W (hW : NbAt W w.heap.size nb M (.slice (some ⟨lb, 0, none⟩) ln lc) L) (hB : Below w.heap.size w W) => redirect_any (w00 := w) hB HE.out hW hnb hM (fun j' hj' => (edge_ok HV.out HXm.out (by rw [HEl.out]; exact hj')).2.2.1) hni (fun j' hj' => by
        have h7 := (ordE_ok HV.out HXm.out HOk.out j' (by rw [HEl.out]; exact hj')).len
        have := HKl.out
        omega))
      have HNx : Hid (ordQ m st (j + 1) = ordE L (stAt m.states x)) := Lib.hid (by
        show ordE (ordQ m st j) (stAt m.states ((ordQ m st j).getD j 0)) = _
        rw [HLq.out, List.getD_eq_getElem?_getD, HX.out]
        rfl)
      have HSn : Hid (OStp m st (j + 1)) := Lib.hid (steps_next hSt.out (by rw [HLq.out]; exact hii))
      have HRw : Hid (stAt (rowsQ m st (j + 1)) j = sortEd (redL L (stAt m.states x))) := Lib.hid (by
        rw [rowsQ_at, HLq.out, List.getD_eq_getElem?_getD, HX.out]
        rfl)
      clear hrow hE hxm e11 hii
      go_upto_region 10 with (fail)
      go_still_tail 13, (by kernel_rfl)
      change wpList _ _ _ _ _ w7.drew
      go_upto_region 11 with (go_at_call 39; refine (HR.out w7.drew hN.out.drew hC.out.below.drew).mono ?_; rintro e w8 ⟨v, s3, rfl, hv8, hN8, hK8, hs8⟩)
      have hK8' : Kp w7 w8 (fun k => k = nb ∨ k = M ∨ some k = (Value.slice (some ⟨lb, 0, none⟩) ln lc).ownBlock) := ⟨hK8.os, hK8.tape, hK8.output, hK8.size, hK8.block⟩
      have hC8 := (hK8'.copy hN.out hnb hM hC.out).swap (m' := ⟨m.acts, rowsQ m st (j + 1)⟩) rfl (rowsQ_take m st j)
      obtain ⟨ea, ec, rfl⟩ := own_slice' hv8
      obtain ⟨el, HEl2⟩ : ∃ z, Hid ((sortEd (redL L (stAt m.states x))).length = z) := ⟨_, Lib.hid rfl⟩
      have hv8' : EdgeOwn w8 w.heap.size (.slice ea (sortEd (redL L (stAt m.states x))).length ec) (stAt (rowsQ m st (j + 1)) j) := by
        rw [HRw.out]
        exact own_low hv8 hC.out.below.size
      rw [HEl2.out] at hv8' ⊢
      obtain ⟨rows, r1, r2, r3⟩ := hC8.rows
      have hl : (List.take j (rowsQ m st (j + 1))).length = j := by rw [List.length_take, rowsQ_len]; omega
      rw [hl] at r1 r2
      have o1 := hC8.out.cell 1
      simp only [List.getElem?_toArray, List.getElem?_cons_succ, List.getElem?_cons_zero] at o1
      have HNE := Lib.hid (own_whole r2 hC8.out (by decide))
      have HO8 := Lib.hid (hC8.out.alloc (.cells #[.slice ea el ec] 60))
      have HR8 := Lib.hid (r2.alloc (.cells #[.slice ea el ec] 60))
      have HS8 := Lib.hid hC8.below.size
      have HC8 := Lib.hid hC8
      have HV8 := Lib.hid hv8'
      have HN8 := Lib.hid hN8
      clear hv8 hN8 hK8 hs8 hK8' hC8 hv8' r1 r2 r3 hl s1 y1 c0 e10 hX0 hX1 hI0 hI1
      go_wp2_with (at_builtin; (refine wpList_append_sz rfl (.tmp 51) (.tmp 53) 23 rfl w.heap.size 60 i2 (.slice none 0 0) 1 24 Tryz.underlying23 hi2 hz20 hz21 hz22 rfl (by decide) (.slice bb j cc) rfl j rows HR8.out (some ⟨w8.heap.size, 0, none⟩) 1 1 rfl [.slice ea el ec] (fun h => by cases h) rfl (one_src _ _ _) (by simp [Value.oneCell']) (by unfold maxLen; omega) (by omega) (Nat.le_trans HS8.out (by simp)) ?_); intro v2 wB hv2 hgB hatB; refine Hid.out ?_)
      obtain ⟨a2, q2, rfl⟩ := own_slice hv2
      have kW := HO8.out.grown hgB HNE.out
      have k1 := kW.cell 1
      have k2 := kW.frozen 1
      have k3 := kW.lt
      simp only [List.getElem?_toArray, List.getElem?_cons_succ, List.getElem?_cons_zero] at k1
      have HC2 : Hid (CopyAt w B3 #[.slice a n c, .slice (some ⟨bx, off, none⟩) k d] (.slice aa n ca) ⟨m.acts, rowsQ m st (j + 1)⟩ (j + 1) (.slice a2 (j + 1) q2) (wB.setCell ⟨B3, 1, none⟩ (.slice a2 (j + 1) q2))) :=
        Lib.hid (HC8.out.next (by rw [rowsQ_len]; omega) HV8.out (below_grown (Below.refl _ _)) hgB (fun rows' e1 e2 => by
          have e3 := own_eq e1 HR8.out
          rw [e3]; exact hv2))
      have HN9 : Hid (NbAt (wB.setCell ⟨B3, 1, none⟩ (.slice a2 (j + 1) q2)) w.heap.size nb M s3 (ordQ m st (j + 1))) := Lib.hid (by
        rw [HNx.out]
        exact HN8.out.more HR8.out hgB kW)
      have HLe : Hid (j + 1 ≤ (ordQ m st (j + 1)).length) := Lib.hid (by
        have h7 := (ordQ_pre m st j 1).length_le
        rw [HLq.out, HLn.out] at h7
        omega)
      clear hv2 hgB hatB kW
      refine Lib.hid ?_
      go_wp2
      go_roundw
      case rel => exact ⟨j + 1, s3, _, by go_num, HLe.out, HSn, HN9, HC2⟩
      case measure => simp [intOf]; omega
    · have hjn : ln = j := by omega
      subst hjn
      have x0 := hC.out.res.cell 0
      have x1 := hC.out.res.cell 1
      have x2 := hC.out.res.frozen 0
      have x3 := hC.out.res.frozen 1
      have x4 := hC.out.res.lt
      have x5 := hC.out.lo
      have z1 := hC.out.out.cell 0
      have z2 := hC.out.out.cell 1
      simp only [List.getElem?_toArray, List.getElem?_cons_succ, List.getElem?_cons_zero] at x0 x1 z1 z2
      have hrows := hC.out.rows
      rw [List.take_of_length_le (by show (rowsQ m st ln).length ≤ ln; rw [rowsQ_len]; exact Nat.le_refl _)] at hrows
      have hw := hC.out.res.set 0 (.slice aa n ca)
      have hL7 : w7.ownsRow w.heap.size 3 1 (.slice la ln lc) (zs L).length ((zs L).map (Value.int .i64)) := hN.out.lst
      have HR : Hid (SysOwn ((w7.setCell ⟨w.heap.size + 1, 0, none⟩ (.slice aa n ca)).setCell ⟨w.heap.size + 1, 1, none⟩ (.slice bb ln cc)) w.heap.size (.slice aa n ca) (.slice bb ln cc) ⟨m.acts, rowsQ m st ln⟩) := Lib.hid (by
        refine ⟨own_stored (own_stored hC.out.acts hC.out.res (by decide)) hw (by decide), ?_⟩
        have s1 := hrows.kept (grown_self w7 ⟨w.heap.size + 1, 0, none⟩ (.slice aa n ca)) (.inr (own_whole hrows.choose_spec.2.1 hC.out.res (by decide)).symm) (fun r l hr => .inr (own_whole hr hC.out.res (by decide)).symm)
        exact s1.kept (grown_self _ ⟨w.heap.size + 1, 1, none⟩ (.slice bb ln cc)) (.inr (own_whole s1.choose_spec.2.1 hw (by decide)).symm) (fun r l hr => .inr (own_whole hr hw (by decide)).symm))
      have HRB : Hid (Below w.heap.size w ((w7.setCell ⟨w.heap.size + 1, 0, none⟩ (.slice aa n ca)).setCell ⟨w.heap.size + 1, 1, none⟩ (.slice bb ln cc))) := Lib.hid ((hC.out.below.setCell (by simp) _).setCell (by simp) _)
      have HRL : Hid (NumO ((w7.setCell ⟨w.heap.size + 1, 0, none⟩ (.slice aa n ca)).setCell ⟨w.heap.size + 1, 1, none⟩ (.slice bb ln cc)) w.heap.size (.slice la ln lc) (zs (ordQ m st ln))) := Lib.hid (by
        rw [HLq.out]
        exact own_stored (own_stored hL7 hC.out.res (by decide)) hw (by decide))
      have HLe : Hid ((ordQ m st ln).length = ln) := Lib.hid (by rw [HLq.out, HLn.out])
      have g0 := (hC.out.res.set 0 (.slice aa n ca)).cell 0
      have g1 := ((hC.out.res.set 0 (.slice aa n ca)).set 1 (.slice bb ln cc)).cell 1
      simp only [List.setIfInBounds_toArray, List.set_cons_zero, List.set_cons_succ, List.getElem?_toArray, List.getElem?_cons_succ, List.getElem?_cons_zero] at g0 g1
      have hne : nb ≠ w.heap.size + 1 := whole_ne hN.out.box hC.out.res (by decide)
      have s2 := ((hN.out.box.far (p := ⟨w.heap.size + 1, 0, none⟩) hne (.slice aa n ca)).far (p := ⟨w.heap.size + 1, 1, none⟩) hne (.slice bb ln cc)).cell 1
      simp only [List.getElem?_toArray, List.getElem?_cons_succ, List.getElem?_cons_zero] at s2
      clear hrows hw hL7 y1 hne
      go_upto_region 12 with (fail)
      go_region
      all_goals
        go_wp2
        first
          | exact bodyPost_ret (v := .tuple #[.agg #[.slice aa n ca, .slice bb ln cc], .slice la ln lc, .int .i64 0]) (by simp [results, Tryz.results10, go_sem, g0, g1]) rfl ⟨_, _, _, ln, rfl, hSt.out, HLe.out, HR.out, HRL.out, HRB.out⟩
          | exact bodyPost_ret (v := .tuple #[.agg #[.slice aa n ca, .slice bb ln cc], .slice la ln lc, .int .i64 0]) (by simp [results, Tryz.results10, go_sem, g0, g1]) rfl ⟨_, _, _, ln, rfl, hSt.out, HLe.out, ⟨HR.out.acts, HR.out.rows⟩, HRL.out, HRB.out.drew⟩
end Go.Proofs.YtohljainhkdiiaaGreatDoor
/- Plain facts: the two ways to the system of the states that can be reached; nothing here is about a program. -/
namespace Go.Proofs.YtohljainhkdiiaaGreatDoor
open Go Go.Lib Pl

theorem prefix_idx {l L : List Nat} (h : l <+: L) {y : Nat} (hy : y ∈ l) : L.idxOf y = l.idxOf y := by
  obtain ⟨t, rfl⟩ := h
  rw [List.idxOf_append, if_pos hy]
theorem prefix_getD {l L : List Nat} (h : l <+: L) {r : Nat} (hr : r < l.length) : L.getD r 0 = l.getD r 0 := by
  obtain ⟨t, rfl⟩ := h
  rw [List.getD_eq_getElem?_getD, List.getElem?_append_left hr, List.getD_eq_getElem?_getD]
theorem toK_at {k : Nat} {L : List Nat} (hn : L.Nodup) (hk : ∀ y ∈ L, y < k) {y : Nat} (hy : y ∈ L) : ∀ j, j ≤ L.length → L.idxOf y < j → (toK k L j).getD y 0 = ((L.idxOf y : Nat) : Int)
  | 0, _, h => by omega
  | j + 1, hj, h => by
    have hjl : j < L.length := by omega
    have e1 : L.getD j 0 = L[j] := by simp [List.getD, hjl]
    have hyk : y < (toK k L j).length := by rw [toK_len]; exact hk y hy
    unfold toK
    rw [List.getD_eq_getElem?_getD, List.getElem?_set, e1]
    by_cases e : L[j] = y
    · have e2 : L.idxOf y = j := by rw [← e]; exact hn.idxOf_getElem j hjl
      rw [if_pos e, if_pos (by rw [e]; exact hyk), e2]
      rfl
    · rw [if_neg e, ← List.getD_eq_getElem?_getD]
      refine toK_at hn hk hy j (by omega) ?_
      rcases Nat.lt_or_eq_of_le (Nat.le_of_lt_succ h) with h1 | h1
      · exact h1
      · exfalso
        apply e
        subst h1
        exact List.getElem_idxOf hjl
theorem edges_rise {na ns : Nat} {l : List Edg} (h : edgesB na ns l = true) : Rise l := by
  have h1 := (edgesB_iff na ns l).1 h
  have h2 : ∀ k, k + 1 < l.length → ltE (edAt l k) (edAt l (k + 1)) = true := fun k hk => by
    cases h9 : ltE (edAt l k) (edAt l (k + 1))
    · have := edgeB_back (na := na) (ns := ns) (l := l) (k := k + 1) (by omega) (by simpa using h9)
      rw [h1 (k + 1) hk] at this
      cases this
    · rfl
  have h3 : ∀ d k, k + d + 1 < l.length → ltE (edAt l k) (edAt l (k + d + 1)) = true := fun d => by
    induction d with
    | zero => intro k hk; exact h2 k hk
    | succ d ih =>
      intro k hk
      exact lt_trans_E (ih k (by omega)) (h2 (k + d + 1) hk)
  unfold Rise
  rw [List.pairwise_iff_getElem]
  intro i j hi hj hij
  have h4 := h3 (j - i - 1) i (by omega)
  rw [show i + (j - i - 1) + 1 = j by omega] at h4
  have e1 : edAt l i = l[i] := by simp [edAt, List.getD, hi]
  have e2 : edAt l j = l[j] := by simp [edAt, List.getD, hj]
  rw [e1, e2] at h4
  exact h4
theorem part_rows {m : Syst} (hm : sysB m = true) {st : Nat} (hst : st < m.states.length) {i : Nat} (hS : OStp m st i) (hl : (ordQ m st i).length = i) : rowsQ m st i = (partS m (ordQ m st i)).states := by
  have hok := ordQ_ok hm hst i hS
  refine List.ext_getElem (by simp [rowsQ, partS, hl]) fun r h1 h2 => ?_
  have hr : r < i := by simpa [rowsQ] using h1
  have p0 := ordQ_pre m st r (i - r)
  rw [show r + (i - r) = i by omega] at p0
  have p1 := ordQ_pre m st (r + 1) (i - (r + 1))
  rw [show r + 1 + (i - (r + 1)) = i by omega] at p1
  have hrl := hS r hr
  have hri : r < (ordQ m st i).length := by omega
  have ex := prefix_getD p0 hrl
  have exx : (ordQ m st i)[r] = (ordQ m st r).getD r 0 := by
    rw [← ex]
    simp [List.getD, hri]
  simp only [rowsQ, partS, List.getElem_map, List.getElem_range, exx]
  obtain ⟨x, hx⟩ : ∃ x, (ordQ m st r).getD r 0 = x := ⟨_, rfl⟩
  have hxm : x < m.states.length := by
    rw [← hx, ← exx]
    exact hok.2 _ (List.getElem_mem hri)
  have e1 : ordQ m st (r + 1) = ordE (ordQ m st r) (stAt m.states x) := by
    show ordE (ordQ m st r) (stAt m.states ((ordQ m st r).getD r 0)) = _
    rw [hx]
  rw [hx]
  rw [e1] at p1
  have hidx : ∀ e ∈ stAt m.states x, (ordE (ordQ m st r) (stAt m.states x)).idxOf e.2.toNat = (ordQ m st i).idxOf e.2.toNat := fun e he => (prefix_idx p1 (mem_ordE _ _ he)).symm
  have hmem : ∀ e ∈ stAt m.states x, e.2.toNat ∈ ordQ m st i := fun e he => p1.subset (mem_ordE _ _ he)
  have er : redL (ordQ m st r) (stAt m.states x) = (stAt m.states x).map fun e => (e.1, (((ordQ m st i).idxOf e.2.toNat : Nat) : Int)) := List.map_congr_left fun e he => by rw [hidx e he]
  have hrise := edges_rise (((sysB_iff m).1 hm).2.2.2.1 x hxm)
  have hpos : ∀ e ∈ stAt m.states x, 0 ≤ e.2 := fun e he => by
    obtain ⟨q, hq, rfl⟩ := List.getElem_of_mem he
    have h9 := (edge_ok hm hxm hq).2.2.1
    have e9 : edAt (stAt m.states x) q = (stAt m.states x)[q] := by simp [edAt, List.getD, hq]
    rwa [e9] at h9
  have hnd : ((stAt m.states x).map fun e => (e.1, (((ordQ m st i).idxOf e.2.toNat : Nat) : Int))).Nodup := by
    unfold List.Nodup
    rw [List.pairwise_map]
    refine (rise_nodup hrise).imp_of_mem fun {a b} ha hb hab h9 => hab ?_
    simp only [Prod.mk.injEq] at h9
    have ha2 := hmem a ha
    have hb2 := hmem b hb
    have h10 : (ordQ m st i).idxOf a.2.toNat = (ordQ m st i).idxOf b.2.toNat := by exact_mod_cast h9.2
    have h11 : a.2.toNat = b.2.toNat := by
      have g1 := List.getElem_idxOf (List.idxOf_lt_length_of_mem ha2)
      have g2 := List.getElem_idxOf (List.idxOf_lt_length_of_mem hb2)
      rw [← g1, ← g2]
      congr 1
    have := hpos a ha
    have := hpos b hb
    exact Prod.ext h9.1 (by omega)
  rw [er, sort_fold hnd, List.foldl_map]
  unfold edP
  have hfold : ∀ (es acc : List Edg), (∀ e ∈ es, e ∈ stAt m.states x) → es.foldl (fun acc e => insE acc (e.1, (((ordQ m st i).idxOf e.2.toNat : Nat) : Int))) acc = es.foldl (fun acc e => insE acc (e.1, (toK m.states.length (ordQ m st i) (ordQ m st i).length).getD e.2.toNat 0)) acc := by
    intro es
    induction es with
    | nil => intro acc _; rfl
    | cons e es ih =>
      intro acc h
      have hy := hmem e (h e (by simp))
      rw [List.foldl_cons, List.foldl_cons, toK_at hok.1 hok.2 hy _ (Nat.le_refl _) (List.idxOf_lt_length_of_mem hy)]
      exact ih _ (fun z hz => h z (by simp [hz]))
  exact hfold _ _ (fun e he => he)
end Go.Proofs.YtohljainhkdiiaaGreatDoor
/- system.Part where it refuses. -/
namespace Go.Proofs.YtohljainhkdiiaaGreatDoor
open Go.RowKit Go.Sort Pl

set_option maxRecDepth 100000 in
set_option maxHeartbeats 4000000 in
theorem PPart_bad {w : World} {a : Option Addr} {n c : Nat} {b : Option Addr} {k d : Nat} {m : Syst} {a0 a1 a2 : Addr} (E : Errs w a0 a1 a2) (A : SysArg w a n c b k d m) (x : Int) (hx : -9223372036854775808 ≤ x) (hx' : x ≤ 9223372036854775807) (hbad : stC m x ≠ 0) :
    Calls Tryz.prog 10 #[.agg #[.slice a n c, .slice b k d], .int .i64 x] w fun e w' => e = .returned (.tuple #[.agg #[.slice none 0 0, .slice none 0 0], .slice none 0 0, .int .i64 (stC m x)]) ∧ Below w.heap.size w w' := by
  have hb0 := ((Below.refl w.heap.size w).alloc (Nat.le_refl _) (.cells #[.slice a n c, .slice b k d] 25)).alloc (by simp) (.cells #[.slice none 0 0, .slice none 0 0] 25)
  have hx1 := (Whole.new w 25 #[.slice a n c, .slice b k d]).alloc (.cells #[.slice none 0 0, .slice none 0 0] 25)
  have hx2 := Whole.new (w.alloc (.cells #[.slice a n c, .slice b k d] 25)) 25 #[.slice none 0 0, .slice none 0 0]
  obtain ⟨w0, HW0⟩ : ∃ z, Hid ((w.alloc (.cells #[.slice a n c, .slice b k d] 25)).alloc (.cells #[.slice none 0 0, .slice none 0 0] 25) = z) := ⟨_, Lib.hid rfl⟩
  rw [HW0.out] at hb0 hx1 hx2
  simp only [World.size_alloc] at hx2
  have HX2 := Lib.hid hx2
  have HB0 := Lib.hid hb0
  have HC0 := Lib.hid (checkState_any x hx hx' (E.below hb0) (A.below hb0))
  have q0 := hx1.cell 0
  have q1 := hx1.cell 1
  simp only [List.getElem?_toArray, List.getElem?_cons_succ, List.getElem?_cons_zero] at q0 q1
  obtain ⟨cd, HCd⟩ : ∃ z, Hid (stC m x = z) := ⟨_, Lib.hid rfl⟩
  rw [HCd.out] at hbad ⊢
  clear A hb0 hx1 hx2 E
  go_enter Tryz.func10, Tryz.ntmps10
  go_upto_region 1 with (fail)
  rw [HW0.out]
  go_upto_region 2 with (go_at_call 35; refine HC0.out.mono ?_; rw [HCd.out]; rintro e w1 ⟨rfl, hb1⟩)
  have hr := HX2.out.below hb1 HX2.out.lt
  have x0 := hr.cell 0
  have x1 := hr.cell 1
  have x2 := hr.frozen 0
  have x3 := hr.frozen 1
  have x4 := hr.lt
  simp only [List.getElem?_toArray, List.getElem?_cons_succ, List.getElem?_cons_zero] at x0 x1
  have g0 := (hr.set 0 (.slice none 0 0)).cell 0
  have g1 := ((hr.set 0 (.slice none 0 0)).set 1 (.slice none 0 0)).cell 1
  simp only [List.setIfInBounds_toArray, List.set_cons_zero, List.set_cons_succ, List.getElem?_toArray, List.getElem?_cons_succ, List.getElem?_cons_zero] at g0 g1
  have HB1 := Lib.hid (((HB0.out.trans (hb1.mono HB0.out.size)).setCell (p := ⟨w.heap.size + 1, 0, none⟩) (by simp) (.slice none 0 0)).setCell (p := ⟨w.heap.size + 1, 1, none⟩) (by simp) (.slice none 0 0))
  clear hb1 hr q0 q1
  go_wp2
  exact bodyPost_ret (v := .tuple #[.agg #[.slice none 0 0, .slice none 0 0], .slice none 0 0, .int .i64 cd]) (by simp [results, Tryz.results10, go_sem, g0, g1]) rfl ⟨rfl, HB1.out⟩
end Go.Proofs.YtohljainhkdiiaaGreatDoor
