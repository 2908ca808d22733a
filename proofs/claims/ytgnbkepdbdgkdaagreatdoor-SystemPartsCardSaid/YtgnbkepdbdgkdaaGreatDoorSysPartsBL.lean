/- SystemParts: Part answers what the definition asks. -/
import Derived.Test.YtgnbkepdbdgkdaaGreatDoorJq10
import Derived.Test.YtgnbkepdbdgkdaaGreatDoorOPartL
import Derived.Test.YtgnbkepdbdgkdaaGreatDoorPartRowsBL
import Derived.Test.YtgnbkepdbdgkdaaGreatDoorPPartBadL
import Derived.Test.YtgnbkepdbdgkdaaGreatDoorJq07
import Derived.OpenShut
import Derived.Deep.Cut
namespace Go.Proofs.YtgnbkepdbdgkdaaGreatDoor
open Go.RowKit Pl

/-- both ways to the system and the list -/
structure PartArg (w : World) (m : Syst) (L : List Nat) (r : Value) (v : Value) : Prop where
  ex : ∃ a c b d p q, r = .agg #[.slice a m.acts.length c, .slice b L.length d] ∧ SysArg w a m.acts.length c b L.length d (partS m L) ∧ v = .slice p L.length q ∧ IntsIn w p (zs L)
theorem numO_ints {w : World} {B : Nat} {v : Value} {l : List Int} (h : NumO w B v l) : ∃ a c, v = .slice a l.length c ∧ IntsIn w a l := by
  rcases h.2 with ⟨rfl, h0⟩ | ⟨g, cap, cur, rfl, hg, hh, hc, hm, hz, ht⟩
  · exact ⟨none, 0, by rw [h0], fun j hj => by omega⟩
  · refine ⟨some ⟨g, 0, none⟩, cap, rfl, fun j hj => ⟨g, 0, rfl, ?_⟩⟩
    rw [Nat.zero_add, World.ownsRow.cellAt h j (by omega), List.getElem?_map, List.getD_eq_getElem?_getD, List.getElem?_eq_getElem hj]
    rfl
theorem partArg_of {w w0 : World} {a0 : Option Addr} {n0 c0 : Nat} {b0 : Option Addr} {k0 d0 B : Nat} {m : Syst} {va vs v : Value} {L : List Nat} (A : SysArg w0 a0 n0 c0 b0 k0 d0 m) (hm : sysB m = true) (hL : CrOk m.states.length L) (hO : SysOwn w B va vs (partS m L)) (hN : NumO w B v (zs L)) : PartArg w m L (.agg #[va, vs]) v := by
  have h1 := (sysB_iff m).1 hm
  have h2 := ((actsB_iff _).1 h1.1).1
  have hl := hL.len
  have e1 : (partS m L).states.length = L.length := by simp [partS]
  obtain ⟨a, c, b, d, e2, e3, hA⟩ := hO.arg (by show m.acts.length ≤ _; omega) (by rw [e1]; omega) (fun i hi => by
    rw [e1] at hi
    have hx : L.getD i 0 < m.states.length := by
      rw [List.getD_eq_getElem?_getD, List.getElem?_eq_getElem hi]
      exact hL.2 _ (List.getElem_mem hi)
    have h4 := total_take m.states (L.getD i 0) hx
    have h5 := total_take_le m.states (L.getD i 0 + 1)
    have h6 := edP_len (toK m.states.length L L.length) (stAt m.states (L.getD i 0)) _ (Nat.le_refl _)
    rw [List.take_length] at h6
    rw [partS_row hi]
    omega) (fun k hk => A.acts.sz k (by have := A.acts.len; have hk' : k < m.acts.length := hk; omega))
  obtain ⟨p, q, e4, hI⟩ := numO_ints hN
  rw [zs_len] at e4
  rw [e1] at e3 hA
  exact ⟨a, c, b, d, p, q, by rw [e2, e3]; rfl, hA, e4, hI⟩
theorem PartArg.below {w w' : World} {m : Syst} {L : List Nat} {r v : Value} (h : PartArg w m L r v) (hb : Below w.heap.size w w') : PartArg w' m L r v := by
  obtain ⟨a, c, b, d, p, q, h1, h2, h3, h4⟩ := h.ex
  exact ⟨a, c, b, d, p, q, h1, h2.below hb, h3, h4.below hb⟩
theorem RPartA_any {w : World} {a : Option Addr} {n c : Nat} {b : Option Addr} {k d : Nat} {m : Syst} (A : SysArg w a n c b k d m) (hv : sysB m = true) {st : Nat} (hst : st < k) :
    Calls Tryz.prog 10 #[.agg #[.slice a n c, .slice b k d], .int .i64 st] w fun e w' => ∃ L r v, e = .returned (.tuple #[r, v]) ∧ OrdIs m st L ∧ PartArg w' m L r v ∧ Below w.heap.size w w' := by
  refine (RPart_any A hv hst).mono ?_
  rintro e w' ⟨va, vs, v, L, rfl, h1, h2, h3, h4⟩
  exact ⟨L, _, v, rfl, h1, partArg_of A hv (ordIs_ok hv (by have := A.len; omega) h1) h2 h3, h4⟩
theorem PPartA_any {w : World} {a : Option Addr} {n c : Nat} {b : Option Addr} {k d : Nat} {m : Syst} {a0 a1 a2 : Addr} (E : Errs w a0 a1 a2) (A : SysArg w a n c b k d m) (hv : sysB m = true) {st : Nat} (hst : st < k) {L : List Nat} (hL : OrdIs m st L) :
    Calls Tryz.prog 11 #[.agg #[.slice a n c, .slice b k d], .int .i64 st] w fun e w' => ∃ r v, e = .returned (.tuple #[r, v, .int .i64 0]) ∧ PartArg w' m L r v ∧ Below w.heap.size w w' := by
  refine (PPart_any E A hv hst).mono ?_
  rintro e w' ⟨va, vs, v, i, rfl, h1, h2, h3, h4, h5⟩
  have hst' : st < m.states.length := by have := A.len; omega
  have e1 : ordQ m st i = L := ord_once ⟨i, h1, h2, rfl⟩ hL
  rw [part_rows hv hst' h1 h2] at h3
  rw [e1] at h3 h4
  exact ⟨_, v, rfl, partArg_of A hv (ordIs_ok hv hst' hL) h3 h4, h5⟩

theorem sys_stored {W : World} {B g : Nat} {va vs : Value} {m : Syst} {cs : Array Value} (h : SysOwn W B va vs m) (hw : Whole W g 25 cs) (u1 u2 : Value) : SysOwn ((W.setCell ⟨g, 0, none⟩ u1).setCell ⟨g, 1, none⟩ u2) B va vs m := by
  have hw1 := hw.set 0 u1
  refine ⟨own_stored (own_stored h.acts hw (by decide)) hw1 (by decide), ?_⟩
  have s1 := h.rows.kept (grown_self W ⟨g, 0, none⟩ u1) (.inr (own_whole h.rows.choose_spec.2.1 hw (by decide)).symm) (fun r l hr => .inr (own_whole hr hw (by decide)).symm)
  exact s1.kept (grown_self _ ⟨g, 1, none⟩ u2) (.inr (own_whole s1.choose_spec.2.1 hw1 (by decide)).symm) (fun r l hr => .inr (own_whole hr hw1 (by decide)).symm)

set_option maxRecDepth 100000 in
set_option maxHeartbeats 32000000 in
theorem SystemParts_any {w : World} (x : Int) (E : Env w) {a : Option Addr} {n c : Nat} {b : Option Addr} {k d : Nat} {m : Syst} (A : SysArg w a n c b k d m) (hxw : (Lit.int .i64 x).wf = true) :
    Calls Tryz.prog 3 #[.agg #[.slice a n c, .slice b k d], .int .i64 x] w fun e w' => e = .returned (.bool true) ∧ Below w.heap.size w w' := by
  have hxb : -9223372036854775808 ≤ x ∧ x ≤ 9223372036854775807 := Go.bounds_i64 hxw
  have hB := (Below.refl w.heap.size w).alloc (Nat.le_refl _) (.cells #[.slice a n c, .slice b k d] 25)
  have hX := Whole.new w 25 #[.slice a n c, .slice b k d]
  obtain ⟨w0, hw0⟩ : ∃ w0, w.alloc (.cells #[.slice a n c, .slice b k d] 25) = w0 := ⟨_, rfl⟩
  rw [hw0] at hB hX
  have HW0 := Lib.hid hw0
  have hA := A.below hB
  have HF := Few_any 2000 (by decide) hA
  obtain ⟨w1, hw1⟩ : ∃ w1, w0.alloc (.cells #[.slice a n c, .slice b k d] 25) = w1 := ⟨_, rfl⟩
  rw [hw1] at HF
  have hb1 : Below w0.heap.size w0 w1 := by rw [← hw1]; exact (Below.refl _ w0).alloc (Nat.le_refl _) _
  have HF := Lib.hid HF
  have HB1 := Lib.hid (hB.trans (hb1.mono hB.size))
  have p0 : w0.cell? ⟨w.heap.size, 0, none⟩ = some (.slice a n c) := hX.cell 0
  have p1 : w0.cell? ⟨w.heap.size, 1, none⟩ = some (.slice b k d) := hX.cell 1
  have hX1 := hX.below hb1 hX.lt
  have HX1 := Lib.hid hX1
  have HA1 := Lib.hid (hA.below hb1)
  have HE1 := Lib.hid (E.below HB1.out)
  have HKl : Hid (m.states.length = k) := Lib.hid A.len.symm
  clear hB hA hX hX1 hw0 hw1 hb1 A E
  cases hf : fewB m 2000
  · rw [hf] at HF
    go_enter Tryz.func3, Tryz.ntmps3
    go_wp2_with fail
    rw [HW0.out]
    refine HF.out.mono ?_
    rintro e w' ⟨rfl, rfl⟩
    go_wp2_with fail
    refine (awake_any HE1.out).mono ?_
    rintro e w3 ⟨rfl, hb3⟩
    have HB3 := Lib.hid (HB1.out.trans (hb3.mono HB1.out.size))
    clear hb3
    go_wp2
    go_ret
    exact ⟨rfl, HB3.out⟩
  · rw [hf] at HF
    have HFE := Lib.hid ((fewB_iff m 2000).1 hf)
    clear hf
    have HQ : Hid (m.acts.length + m.states.length + total m.states ≤ 1000000) := Lib.hid (by have := HFE.out; omega)
    have hk2 : k ≤ 2000 := by have := HFE.out; have := HKl.out; omega
    -- the wanted system's box
    obtain ⟨w2, HW2⟩ : ∃ z, Hid (w1.alloc (.cells #[.slice none 0 0, .slice none 0 0] 25) = z) := ⟨_, Lib.hid rfl⟩
    have hb2 : Below w1.heap.size w1 w2 := by rw [← HW2.out]; exact (Below.refl _ w1).alloc (Nat.le_refl _) _
    have HY2 : Hid (Whole w2 w1.heap.size 25 #[.slice none 0 0, .slice none 0 0]) := Lib.hid (by rw [← HW2.out]; exact Whole.new _ _ _)
    have HA2 := Lib.hid (HA1.out.below hb2)
    have HE2 := Lib.hid (HE1.out.below hb2)
    have HB2 := Lib.hid (HB1.out.trans (hb2.mono HB1.out.size))
    have HX2 := Lib.hid (HX1.out.below hb2 HX1.out.lt)
    have r0 := HX2.out.cell 0
    have r1 := HX2.out.cell 1
    simp only [List.getElem?_toArray, List.getElem?_cons_succ, List.getElem?_cons_zero] at r0 r1
    have HZ : Hid (w.heap.size < w1.heap.size) := Lib.hid HX1.out.lt
    have HI := Lib.hid (RIs_any HA2.out (by have := HQ.out; omega))
    have HC2 : Hid (Below w1.heap.size w1 w2) := Lib.hid hb2
    clear hb2 p0 p1
    cases hv : sysB m
    · rw [hv] at HI
      have HCd : Hid (stC m x = 20) := Lib.hid (by unfold stC; rw [hv]; rfl)
      clear hv
      go_enter Tryz.func3, Tryz.ntmps3
      go_wp2_with fail
      rw [HW0.out]
      refine HF.out.mono ?_
      rintro e w' ⟨rfl, rfl⟩
      go_upto_region 6 with (fail)
      rw [HW2.out]
      go_wp2_with fail
      refine HI.out.mono ?_
      rintro e w3 ⟨rfl, hb⟩
      have HC3 : Hid (Below w1.heap.size w1 w3) := Lib.hid (HC2.out.trans (hb.mono HC2.out.size))
      have s0 := (HX2.out.below hb HX2.out.lt).cell 0
      have s1 := (HX2.out.below hb HX2.out.lt).cell 1
      have HY3 := Lib.hid (HY2.out.below hb HY2.out.lt)
      simp only [List.getElem?_toArray, List.getElem?_cons_succ, List.getElem?_cons_zero] at s0 s1
      have HCp := Lib.hid (CopyA_any (HA1.out.below HC3.out) HQ.out)
      clear hb r0 r1
      go_wp2_with fail
      refine HCp.out.mono ?_
      rintro e w6 ⟨a6, c6, b6, d6, rfl, hA6, hb⟩
      have HC6 := Lib.hid (HC3.out.trans (hb.mono HC3.out.size))
      have HY6 := Lib.hid (HY3.out.below hb HY3.out.lt)
      have HE6 := Lib.hid (HE1.out.below HC6.out)
      obtain ⟨f0, f1, f2, hEr⟩ := HE6.out.errs
      have HPp := Lib.hid (PPart_bad hEr hA6 x hxb.1 hxb.2 (by rw [HCd.out]; decide))
      rw [HCd.out] at HPp
      clear hb hEr hA6 s0 s1
      go_wp2_with fail
      refine HPp.out.mono ?_
      rintro e w7 ⟨rfl, hb⟩
      have hal := (Below.refl _ w7).alloc (Nat.le_refl _) (.cells #[.slice none 0 0, .slice none 0 0] 25)
      have hb8 := hb.trans (hal.mono hb.size)
      have HC8 := Lib.hid (HC6.out.trans (hb8.mono HC6.out.size))
      have hY8 := HY6.out.below hb8 HY6.out.lt
      have y0 := hY8.cell 0
      have y1 := hY8.cell 1
      simp only [List.getElem?_toArray, List.getElem?_cons_succ, List.getElem?_cons_zero] at y0 y1
      have hW8 := Whole.new w7 25 #[.slice none 0 0, .slice none 0 0]
      obtain ⟨w8, HW8⟩ : ∃ z, Hid (w7.alloc (.cells #[.slice none 0 0, .slice none 0 0] 25) = z) := ⟨_, Lib.hid rfl⟩
      rw [HW8.out] at HC8 y0 y1 hW8
      have z0 := hW8.cell 0
      have z1 := hW8.cell 1
      simp only [List.getElem?_toArray, List.getElem?_cons_succ, List.getElem?_cons_zero] at z0 z1
      have HSm := Lib.hid (RSame_any (sys_nil w8) (sys_nil w8))
      clear hal hb8 hY8 hW8 hb HPp
      go_upto_region 12 with (fail)
      rw [HW8.out]
      go_wp2_with fail
      refine HSm.out.mono ?_
      rintro e w9 ⟨rfl, hb⟩
      rw [(sameB_iff _ _).2 rfl]
      have HC9 := Lib.hid (HC8.out.trans (hb.mono HC8.out.size))
      have HE9 := Lib.hid (HE1.out.below HC9.out)
      have HSI := SameInts_any none 0 0 [] none 0 0 [] w9 rfl rfl (by omega) (by omega) (fun j hj => by simp at hj) (fun j hj => by simp at hj)
      rw [decide_eq_true rfl] at HSI
      have HSI := Lib.hid HSI
      clear hb z0 z1 y0 y1
      go_wp2_with fail
      refine HSI.out.mono ?_
      rintro e w' ⟨rfl, rfl⟩
      go_wp2_with fail
      refine (awake_any HE9.out).mono ?_
      rintro e wa ⟨rfl, hb⟩
      have HBz := Lib.hid (HB1.out.trans ((HC9.out.trans (hb.mono HC9.out.size)).mono HB1.out.size))
      clear hb
      go_wp2
      go_ret
      exact ⟨rfl, HBz.out⟩
    · rw [hv] at HI
      have HV := Lib.hid hv
      clear hv
      by_cases hx0 : 0 ≤ x ∧ x < (k : Int)
      · obtain ⟨h0, h1⟩ := hx0
        obtain ⟨st, rfl⟩ := Int.eq_ofNat_of_zero_le h0
        have hst : st < k := by omega
        go_enter Tryz.func3, Tryz.ntmps3
        go_wp2_with fail
        rw [HW0.out]
        refine HF.out.mono ?_
        rintro e w' ⟨rfl, rfl⟩
        go_upto_region 6 with (fail)
        rw [HW2.out]
        go_wp2_with fail
        refine HI.out.mono ?_
        rintro e w3 ⟨rfl, hb⟩
        have HA3 := Lib.hid (HA2.out.below hb)
        have HE3 := Lib.hid (HE2.out.below hb)
        have HC3 : Hid (Below w1.heap.size w1 w3) := Lib.hid (HC2.out.trans (hb.mono HC2.out.size))
        have HX3 := Lib.hid (HX2.out.below hb HX2.out.lt)
        have HY3 := Lib.hid (HY2.out.below hb HY2.out.lt)
        have s0 := HX3.out.cell 0
        have s1 := HX3.out.cell 1
        simp only [List.getElem?_toArray, List.getElem?_cons_succ, List.getElem?_cons_zero] at s0 s1
        clear hb r0 r1
        go_wp2_with fail
        refine (RPart_any HA3.out HV.out hst).mono ?_
        rintro e w4 ⟨va, vs, v, L, rfl, hIs, hO4, hN4, hb⟩
        have HIs := Lib.hid hIs
        have HOk := Lib.hid (ordIs_ok HV.out (by have := HKl.out; omega) hIs)
        have hY4 := HY3.out.below hb HY3.out.lt
        have y0 := hY4.cell 0
        have y1 := hY4.cell 1
        have y2 := hY4.frozen 0
        have y3 := hY4.frozen 1
        have y4 := hY4.lt
        simp only [List.getElem?_toArray, List.getElem?_cons_succ, List.getElem?_cons_zero] at y0 y1
        have HC4 : Hid (Below w1.heap.size w1 w4) := Lib.hid ((((HC3.out).trans (hb.mono HC3.out.size))))
        have HO5 := Lib.hid (sys_stored hO4 hY4 va vs)
        have HN5 : Hid (NumO ((w4.setCell ⟨w1.heap.size, 0, none⟩ va).setCell ⟨w1.heap.size, 1, none⟩ vs) w3.heap.size v (zs L)) := Lib.hid (own_stored (own_stored hN4 hY4 (by decide)) (hY4.set 0 va) (by decide))
        have HY5 : Hid (Whole ((w4.setCell ⟨w1.heap.size, 0, none⟩ va).setCell ⟨w1.heap.size, 1, none⟩ vs) w1.heap.size 25 #[va, vs]) := Lib.hid (by simpa using (hY4.set 0 va).set 1 vs)
        obtain ⟨w5, HW5⟩ : ∃ z, Hid ((w4.setCell ⟨w1.heap.size, 0, none⟩ va).setCell ⟨w1.heap.size, 1, none⟩ vs = z) := ⟨_, Lib.hid rfl⟩
        have HC5 : Hid (Below w1.heap.size w1 w5) := Lib.hid (by rw [← HW5.out]; exact (HC4.out.setCell (Nat.le_refl _) _).setCell (Nat.le_refl _) _)
        rw [HW5.out] at HO5 HN5 HY5
        have HP5 := Lib.hid (partArg_of HA1.out HV.out HOk.out HO5.out HN5.out)
        obtain ⟨ra, rc, rb, rd, rp, rq, e1, hS5, e2, hI5⟩ := HP5.out.ex
        cases e1
        cases e2
        have HS5 := Lib.hid hS5
        have HI5 := Lib.hid hI5
        have t0 := (HX1.out.below HC5.out HX1.out.lt).cell 0
        have t1 := (HX1.out.below HC5.out HX1.out.lt).cell 1
        simp only [List.getElem?_toArray, List.getElem?_cons_succ, List.getElem?_cons_zero] at t0 t1
        have HCp := Lib.hid (CopyA_any (HA1.out.below HC5.out) HQ.out)
        clear hIs hO4 hN4 hb hY4 hS5 hI5 s0 s1
        go_upto_region 11 with (fail)
        rw [HW5.out]
        clear y0 y1 y2 y3 y4
        go_wp2_with fail
        refine HCp.out.mono ?_
        rintro e w6 ⟨a6, c6, b6, d6, rfl, hA6, hb⟩
        have HC6 := Lib.hid (HC5.out.trans (hb.mono HC5.out.size))
        have HS6 := Lib.hid (HS5.out.below hb)
        have HI6 := Lib.hid (HI5.out.below hb)
        have HY6 := Lib.hid (HY5.out.below hb HY5.out.lt)
        have HE6 := Lib.hid (HE1.out.below HC6.out)
        obtain ⟨f0, f1, f2, hEr⟩ := HE6.out.errs
        have HPp := Lib.hid (PPartA_any hEr hA6 HV.out (by have := HKl.out; omega) HIs.out)
        clear hb hEr hA6 t0 t1
        go_wp2_with fail
        refine HPp.out.mono ?_
        rintro e w7 ⟨r, v7, rfl, hP7, hb⟩
        obtain ⟨pa, pc, pb, pd, pp, pq, rfl, hS7, rfl, hI7⟩ := hP7.ex
        have hal := (Below.refl _ w7).alloc (Nat.le_refl _) (.cells #[.slice pa m.acts.length pc, .slice pb L.length pd] 25)
        have hb8 := hb.trans (hal.mono hb.size)
        have HC8 := Lib.hid (HC6.out.trans (hb8.mono HC6.out.size))
        have HS8 := Lib.hid (HS6.out.below hb8)
        have HI8 := Lib.hid (HI6.out.below hb8)
        have HS9 := Lib.hid (hS7.below hal)
        have HI9 := Lib.hid (hI7.below hal)
        have hY8 := HY6.out.below hb8 HY6.out.lt
        have y0 := hY8.cell 0
        have y1 := hY8.cell 1
        simp only [List.getElem?_toArray, List.getElem?_cons_succ, List.getElem?_cons_zero] at y0 y1
        have hW8 := Whole.new w7 25 #[.slice pa m.acts.length pc, .slice pb L.length pd]
        obtain ⟨w8, HW8⟩ : ∃ z, Hid (w7.alloc (.cells #[.slice pa m.acts.length pc, .slice pb L.length pd] 25) = z) := ⟨_, Lib.hid rfl⟩
        rw [HW8.out] at HC8 HS8 HI8 HS9 HI9 y0 y1 hW8
        have z0 := hW8.cell 0
        have z1 := hW8.cell 1
        simp only [List.getElem?_toArray, List.getElem?_cons_succ, List.getElem?_cons_zero] at z0 z1
        have HSm := Lib.hid (RSame_any HS9.out HS8.out)
        clear hal hb8 hY8 hW8 hb hP7 hS7 hI7 HPp
        go_upto_region 12 with (fail)
        rw [HW8.out]
        go_wp2_with fail
        refine HSm.out.mono ?_
        rintro e w9 ⟨rfl, hb⟩
        rw [(sameB_iff _ _).2 rfl]
        have HC9 := Lib.hid (HC8.out.trans (hb.mono HC8.out.size))
        have HE9 := Lib.hid (HE1.out.below HC9.out)
        have hLl := HOk.out.len
        have HSI := SameInts_any pp L.length pq _ rp L.length rq _ w9 (zs_len L).symm (zs_len L).symm (by have := HKl.out; omega) (by have := HKl.out; omega) (HI9.out.below hb) (HI8.out.below hb)
        rw [decide_eq_true rfl] at HSI
        have HSI := Lib.hid HSI
        clear hb z0 z1 y0 y1
        go_wp2_with fail
        refine HSI.out.mono ?_
        rintro e w' ⟨rfl, rfl⟩
        go_wp2_with fail
        refine (awake_any HE9.out).mono ?_
        rintro e wa ⟨rfl, hb⟩
        have HBz := Lib.hid (HB1.out.trans ((HC9.out.trans (hb.mono HC9.out.size)).mono HB1.out.size))
        clear hb
        go_wp2
        go_ret
        exact ⟨rfl, HBz.out⟩
      · have HCd : Hid (stC m x = 1) := Lib.hid (by unfold stC; rw [if_pos HV.out, if_neg (by have := HKl.out; omega)])
        have h3 : x < 0 ∨ (0 ≤ x ∧ (k : Int) ≤ x) := by omega
        clear hx0
        rcases h3 with s1' | ⟨s1', s2'⟩
        all_goals
          go_enter Tryz.func3, Tryz.ntmps3
          go_wp2_with fail
          rw [HW0.out]
          refine HF.out.mono ?_
          rintro e w' ⟨rfl, rfl⟩
          go_upto_region 6 with (fail)
          rw [HW2.out]
          go_wp2_with fail
          refine HI.out.mono ?_
          rintro e w3 ⟨rfl, hb⟩
          have HC3 : Hid (Below w1.heap.size w1 w3) := Lib.hid (HC2.out.trans (hb.mono HC2.out.size))
          have s0 := (HX2.out.below hb HX2.out.lt).cell 0
          have s1 := (HX2.out.below hb HX2.out.lt).cell 1
          have HY3 := Lib.hid (HY2.out.below hb HY2.out.lt)
          simp only [List.getElem?_toArray, List.getElem?_cons_succ, List.getElem?_cons_zero] at s0 s1
          have HCp := Lib.hid (CopyA_any (HA1.out.below HC3.out) HQ.out)
          clear hb r0 r1
          go_wp2_with fail
          refine HCp.out.mono ?_
          rintro e w6 ⟨a6, c6, b6, d6, rfl, hA6, hb⟩
          have HC6 := Lib.hid (HC3.out.trans (hb.mono HC3.out.size))
          have HY6 := Lib.hid (HY3.out.below hb HY3.out.lt)
          have HE6 := Lib.hid (HE1.out.below HC6.out)
          obtain ⟨f0, f1, f2, hEr⟩ := HE6.out.errs
          have HPp := Lib.hid (PPart_bad hEr hA6 x hxb.1 hxb.2 (by rw [HCd.out]; decide))
          rw [HCd.out] at HPp
          clear hb hEr hA6 s0 s1
          go_wp2_with fail
          refine HPp.out.mono ?_
          rintro e w7 ⟨rfl, hb⟩
          have hal := (Below.refl _ w7).alloc (Nat.le_refl _) (.cells #[.slice none 0 0, .slice none 0 0] 25)
          have hb8 := hb.trans (hal.mono hb.size)
          have HC8 := Lib.hid (HC6.out.trans (hb8.mono HC6.out.size))
          have hY8 := HY6.out.below hb8 HY6.out.lt
          have y0 := hY8.cell 0
          have y1 := hY8.cell 1
          simp only [List.getElem?_toArray, List.getElem?_cons_succ, List.getElem?_cons_zero] at y0 y1
          have hW8 := Whole.new w7 25 #[.slice none 0 0, .slice none 0 0]
          obtain ⟨w8, HW8⟩ : ∃ z, Hid (w7.alloc (.cells #[.slice none 0 0, .slice none 0 0] 25) = z) := ⟨_, Lib.hid rfl⟩
          rw [HW8.out] at HC8 y0 y1 hW8
          have z0 := hW8.cell 0
          have z1 := hW8.cell 1
          simp only [List.getElem?_toArray, List.getElem?_cons_succ, List.getElem?_cons_zero] at z0 z1
          have HSm := Lib.hid (RSame_any (sys_nil w8) (sys_nil w8))
          clear hal hb8 hY8 hW8 hb HPp
          go_upto_region 12 with (fail)
          rw [HW8.out]
          go_wp2_with fail
          refine HSm.out.mono ?_
          rintro e w9 ⟨rfl, hb⟩
          rw [(sameB_iff _ _).2 rfl]
          have HC9 := Lib.hid (HC8.out.trans (hb.mono HC8.out.size))
          have HE9 := Lib.hid (HE1.out.below HC9.out)
          have HSI := SameInts_any none 0 0 [] none 0 0 [] w9 rfl rfl (by omega) (by omega) (fun j hj => by simp at hj) (fun j hj => by simp at hj)
          rw [decide_eq_true rfl] at HSI
          have HSI := Lib.hid HSI
          clear hb z0 z1 y0 y1
          go_wp2_with fail
          refine HSI.out.mono ?_
          rintro e w' ⟨rfl, rfl⟩
          go_wp2_with fail
          refine (awake_any HE9.out).mono ?_
          rintro e wa ⟨rfl, hb⟩
          have HBz := Lib.hid (HB1.out.trans ((HC9.out.trans (hb.mono HC9.out.size)).mono HB1.out.size))
          clear hb
          go_wp2
          go_ret
          exact ⟨rfl, HBz.out⟩
end Go.Proofs.YtgnbkepdbdgkdaaGreatDoor
