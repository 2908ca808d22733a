/- Texts joined: SatM. -/
import Derived.Test.YtgnbkepdbdgkdaaGreatDoorJq18
import Derived.Deep.RegionHeld3
/- spec.Satisfies, where both arguments are valid and have the same actions. -/
namespace Go.Proofs.YtgnbkepdbdgkdaaGreatDoor
open Go.RowKit Pl

theorem infoWait : (Tryz.prog.info? 133).map (fun i => (i.zero, i.size, i.bytes)) = some (some (.agg #[.int .i64 0, .int .i64 0, .int .i64 0, .int .i64 0]), 4, 32) := by kernel_rfl
theorem four_src (W : World) (p q u v : Value) (t : TypeId) : SrcAt (W.alloc (.cells #[p, q, u, v] t)) (some ⟨W.heap.size, 0, none⟩) [p, q, u, v] := fun j x hx => by
  have hj : j < 4 := by simpa using (List.getElem?_eq_some_iff.1 hx).1
  refine ⟨_, rfl, ?_⟩
  rw [add_plainly, (Whole.new W t #[p, q, u, v]).cell, ← hx]
  simp

set_option maxRecDepth 100000 in
set_option maxHeartbeats 16000000 in
theorem Satisfies_ok {w : World} {a : Option Addr} {n c : Nat} {b : Option Addr} {k d : Nat} {m : Syst} {a' : Option Addr} {n' c' : Nat} {b' : Option Addr} {k' d' : Nat} {s : Spc} {e0 e1 e2 : Addr} (E : Errs w e0 e1 e2) (A : SysArg w a n c b k d m) (A' : SpecArg w a' n' c' b' k' d' s) (hm : sysB m = true) (hs : spcB s = true) (ha : m.acts = s.acts) :
    Calls Tryz.prog 24 #[.agg #[.slice a n c, .slice b k d], .agg #[.slice a' n' c', .slice b' k' d']] w fun e w' => Below w.heap.size w w' ∧
      ((∃ L v, SatYes m s L ∧ e = .returned (.tuple #[.agg #[.bool true, v, .slice none 0 0, .int .i64 0], .int .i64 0]) ∧ w'.ownsRow w.heap.size 48 2 v L.length (pcells L)) ∨
        ∃ wd x v, SatNo m s wd x ∧ e = .returned (.tuple #[.agg #[.bool false, .slice none 0 0, v, .int .i64 (x : Nat)], .int .i64 0]) ∧ NumO w' w.heap.size v wd) := by
  obtain ⟨i4, hi4, hz40, hz41, hz42⟩ := info_parts infoWait
  have hk5 : k ≤ 5000 := by have := ((sysB_iff m).1 hm).2.2.1; have := A.len; omega
  have hk1 : 1 ≤ k := by have := ((sysB_iff m).1 hm).2.1; have := A.len; omega
  have hk5' : k' ≤ 500 := by have := ((spcB_iff s).1 hs).2.2.1; have := A'.len; omega
  have hk1' : 1 ≤ k' := by have := ((spcB_iff s).1 hs).2.1; have := A'.len; omega
  have hkk : k * k' ≤ 2500000 := Nat.le_trans (Nat.mul_le_mul hk5 hk5') (by decide)
  have hB := (Below.refl w.heap.size w).alloc (Nat.le_refl _) (.cells #[.slice a n c, .slice b k d] 25)
  have hB2 := hB.alloc (by simp) (.cells #[.slice a' n' c', .slice b' k' d'] 52)
  have hB3 := hB2.alloc (by simp; omega) (.cells #[.bool false, .slice none 0 0, .slice none 0 0, .int .i64 0] 57)
  have hW1 := ((Whole.new w 25 #[.slice a n c, .slice b k d]).alloc (.cells #[.slice a' n' c', .slice b' k' d'] 52)).alloc (.cells #[.bool false, .slice none 0 0, .slice none 0 0, .int .i64 0] 57)
  have hW3 := Whole.new ((w.alloc (.cells #[.slice a n c, .slice b k d] 25)).alloc (.cells #[.slice a' n' c', .slice b' k' d'] 52)) 57 #[.bool false, .slice none 0 0, .slice none 0 0, .int .i64 0]
  simp only [World.size_alloc] at hW3
  obtain ⟨w0, HW0⟩ : ∃ z, Hid (((w.alloc (.cells #[.slice a n c, .slice b k d] 25)).alloc (.cells #[.slice a' n' c', .slice b' k' d'] 52)).alloc (.cells #[.bool false, .slice none 0 0, .slice none 0 0, .int .i64 0] 57) = z) := ⟨_, Lib.hid rfl⟩
  have hz0 : w0.heap.size = w.heap.size + 3 := by rw [← HW0.out]; simp
  rw [HW0.out] at hB3 hW1 hW3
  have HT := Lib.hid (newTrial_ok (E.below hB3) (A.below hB3) (A'.below hB3) hm hs ha)
  have HA := Lib.hid A
  have HA' := Lib.hid A'
  have HM := Lib.hid hm
  have HS := Lib.hid hs
  have HB0 := Lib.hid hB3
  have HW1 := Lib.hid hW1
  have HW3 := Lib.hid hW3
  have HZ0 := Lib.hid hz0
  have HKm : Hid (k = m.states.length) := Lib.hid A.len
  have HKs : Hid (k' = s.states.length) := Lib.hid A'.len
  have HOL : Hid ((offL m).length = k) := Lib.hid (by unfold offL; rw [List.length_map]; exact A.len.symm)
  clear hB hB2 hB3 A A' E hW1 hW3 hz0 hm hs ha
  go_enter Tryz.func24, Tryz.ntmps24
  go_wp2_with fail
  rw [HW0.out]
  refine HT.out.mono ?_
  rintro e w1 ⟨vo, R, rfl, hoff, hacc, hb1⟩
  obtain ⟨oa, oc, rfl⟩ := own_slice' hoff
  have hoff' := hoff
  unfold NumO at hoff'
  rw [HOL.out] at hoff'
  rcases hoff.2 with ⟨hq, h0⟩ | ⟨_, _, _, hq, _⟩
  · rw [HOL.out] at h0; omega
  have hlen1 : (offL m).length = k := HOL.out
  rw [hlen1] at hoff ⊢
  have hz1 : w.heap.size + 3 ≤ w1.heap.size := by have := hb1.size; have := HZ0.out; omega
  obtain ⟨G, HG⟩ : ∃ G, Hid (w1.heap.size = G) := ⟨_, Lib.hid rfl⟩
  have hbx := Whole.new w1 123 #[.slice a n c, .slice b k d, .slice a' n' c', .slice b' k' d', .slice oa k oc, .slice (some ⟨R, 0, none⟩) k' k']
  have hb2 := (Below.refl w1.heap.size w1).alloc (Nat.le_refl _) (.cells #[.slice a n c, .slice b k d, .slice a' n' c', .slice b' k' d', .slice oa k oc, .slice (some ⟨R, 0, none⟩) k' k'] 123)
  obtain ⟨w2, HW2⟩ : ∃ z, Hid (w1.alloc (.cells #[.slice a n c, .slice b k d, .slice a' n' c', .slice b' k' d', .slice oa k oc, .slice (some ⟨R, 0, none⟩) k' k'] 123) = z) := ⟨_, Lib.hid rfl⟩
  rw [HW2.out] at hbx hb2
  have hb02 : Below w.heap.size w w2 := HB0.out.trans ((hb1.trans (hb2.mono hb1.size)).mono HB0.out.size)
  have hlo : ∀ {e : TypeId} {size q : Nat} {v : Value} {xs : List Value}, w1.ownsRow w0.heap.size e size v q xs → w2.ownsRow w.heap.size e size v q xs := fun h => own_low (own_up' h hb2) HB0.out.size
  have hTr : TrArg w2 w.heap.size a n c b k d m a' n' c' b' k' d' s (.slice oa k oc) R := ⟨HA.out.below hb02, HA'.out.below hb02, hlo hoff, hlo hacc⟩
  have hs2 : Whole w2 w.heap.size 25 #[.slice a n c, .slice b k d] := (HW1.out.below hb1 HW1.out.lt).below hb2 (by omega)
  have hv2 : Whole w2 (w.heap.size + 2) 57 #[.bool false, .slice none 0 0, .slice none 0 0, .int .i64 0] := (HW3.out.below hb1 HW3.out.lt).below hb2 (by omega)
  have HTr := Lib.hid hTr
  have HS2 := Lib.hid hs2
  have HV2 := Lib.hid hv2
  have HBx := Lib.hid hbx
  have HB2 := Lib.hid hb02
  have hz2 : w2.heap.size = w1.heap.size + 1 := by rw [← HW2.out]; simp
  have hgx : ∀ q : Nat, w2.cell? ⟨w1.heap.size, q, none⟩ = (#[.slice a n c, .slice b k d, .slice a' n' c', .slice b' k' d', .slice oa k oc, .slice (some ⟨R, 0, none⟩) k' k'] : Array Value)[q]? := fun q => hbx.cell q
  have g0 := hgx 0
  have g1 := hgx 1
  have g2 := hgx 2
  have g3 := hgx 3
  have g4 := hgx 4
  have g5 := hgx 5
  simp only [List.getElem?_toArray, List.getElem?_cons_succ, List.getElem?_cons_zero] at g0 g1 g2 g3 g4 g5
  have HNP := Lib.hid (noPairs_any (w := w2) (a := a) (n := n) (c := c) (b := b) (d := d) (a' := a') (n' := n') (c' := c') (b' := b') (d' := d') (oa := oa) (oc := oc) (R := R) (k := k) (k' := k') (by omega) (by omega))
  have HBx : Hid (Whole w2 G 123 #[.slice a n c, .slice b k d, .slice a' n' c', .slice b' k' d', .slice oa k oc, .slice (some ⟨R, 0, none⟩) k' k']) := Lib.hid (by rw [← HG.out]; exact HBx.out)
  clear hoff hoff' hacc hb1 hbx hb2 hb02 hlo hTr hs2 hv2 hq hgx hlen1
  go_wp2_with fail
  rw [HW2.out, HG.out]
  refine HNP.out.mono ?_
  rintro e w3 ⟨g, bl, rfl, hrel, hb3⟩
  have hG2 : w.heap.size + 2 < G := by rw [← HG.out]; omega
  have hSt3 : StAt w w3 G g bl a n c b k d m a' n' c' b' k' d' s oa oc R (.slice none 0 0) [] (noF k k') :=
    ⟨HS2.out.below hb3 HS2.out.lt, HV2.out.below hb3 HV2.out.lt, HBx.out.below hb3 HBx.out.lt, HTr.out.below hb3, ⟨hrel.shp, hrel.len, hrel.nod, own_low hrel.outer HB2.out.size, fun x hx => own_low (hrel.rows x hx) HB2.out.size⟩, World.ownsRow_nil _ _ _ _, hG2, HB2.out.trans (hb3.mono HB2.out.size)⟩
  have HSt3 := Lib.hid hSt3
  have HAd := add_any hSt3.rel (x := 0) (y := 0) (by omega) (by omega) (by omega) (by omega)
  rw [noF_get] at HAd
  have HAd := Lib.hid HAd
  clear hrel hb3 hSt3 g0 g1 g2 g3 g4 g5
  go_wp2_with fail
  refine HAd.out.mono ?_
  rintro e w4 ⟨rfl, hrel4, hg4⟩
  have hSt4 := HSt3.out.mark HA.out HA'.out (x := 0) (by omega) hrel4 hg4
  have hlit := World.ownsRow_lit (base := w.heap.size) (e := 133) (size := 4) w4 #[.int .i64 0, .int .i64 0, .int .i64 0, .int .i64 0] 1 hSt4.below.size (by unfold maxLen; omega) rfl
  have hSt5 := hSt4.up ((Below.refl _ w4).alloc (Nat.le_refl _) (.cells #[.int .i64 0, .int .i64 0, .int .i64 0, .int .i64 0] 133))
  have HSt5 : Hid (StAt w (w4.alloc (.cells #[.int .i64 0, .int .i64 0, .int .i64 0, .int .i64 0] 133)) G g bl a n c b k d m a' n' c' b' k' d' s oa oc R (.slice (some ⟨w4.heap.size, 0, none⟩) 1 1) (stQ m s 0).1 (stQ m s 0).2) := Lib.hid (by
    refine ⟨hSt5.sysb, hSt5.ver, hSt5.tri, hSt5.tr, ?_, ?_, hSt5.low, hSt5.below⟩
    · show RelAt _ _ _ _ _ _ (setF (noF m.states.length s.states.length) 0 0)
      rw [← HKm.out, ← HKs.out]
      exact hSt5.rel
    · exact hlit)
  have HOk0 : Hid (OkQ m s (stQ m s 0)) := Lib.hid (OkQ.zero (by have := HKm.out; omega) (by have := HKs.out; omega))
  clear hrel4 hg4 hSt4 hlit hSt5
  go_wp2
  go_loopw [9, 10, 11, 13, 14, 60] (fun qv iv _ _ _ _ wr => ∃ i : Nat, iv = .int .i64 i ∧ i ≤ (stQ m s i).1.length ∧ Hid (FitsTo m s i) ∧ Hid (OkQ m s (stQ m s i)) ∧ Hid (StAt w wr G g bl a n c b k d m a' n' c' b' k' d' s oa oc R qv (stQ m s i).1 (stQ m s i).2)) (fun _ iv _ _ _ _ _ => k * k' + 1 - (intOf iv).toNat)
  case atStart => exact ⟨0, rfl, Nat.zero_le _, Lib.hid (fun q hq => by omega), HOk0, HSt5⟩
  case round =>
    obtain ⟨i, rfl, hi, hfit, hok, hst⟩ := hrel
    obtain ⟨V, hV⟩ : ∃ z, z = wr := ⟨_, rfl⟩
    subst hV
    obtain ⟨Q, HQ⟩ : ∃ Q, Hid ((stQ m s i).1 = Q) := ⟨_, Lib.hid rfl⟩
    obtain ⟨F, HF⟩ : ∃ F, Hid ((stQ m s i).2 = F) := ⟨_, Lib.hid rfl⟩
    rw [HQ.out] at hi hst
    rw [HF.out] at hst
    have HOk : Hid (OkQ m s (Q, F)) := Lib.hid (by rw [← HQ.out, ← HF.out]; exact hok.out)
    have hcnt : Q.length ≤ k * k' := by have := HOk.out.few; rw [← HKm.out, ← HKs.out] at this; exact this
    have HFit := hfit
    have HSt := hst
    have hbv := hst.out.below
    have HBv := Lib.hid hbv
    have hzv := hbv.size
    obtain ⟨qa, qc, rfl⟩ := own_slice' hst.out.que
    obtain ⟨N, HN⟩ : ∃ N, Hid (Q.length = N) := ⟨_, Lib.hid rfl⟩
    have hque := hst.out.que
    rw [HN.out] at hque hi hcnt
    rw [HN.out] at HSt ⊢
    clear hok hfit hst hbv
    by_cases hlt : i < N
    · rcases hque.2 with ⟨hq, h0⟩ | ⟨gq, cap, cur, hq, _⟩
      · omega
      simp only [Value.slice.injEq, true_and] at hq
      obtain ⟨rfl, rfl⟩ := hq
      have hrx := HOk.out.rng i (by have := HN.out; simp only; omega)
      simp only at hrx
      obtain ⟨x, HX⟩ : ∃ x, Hid ((wtAt Q i).x = x) := ⟨_, Lib.hid rfl⟩
      obtain ⟨y, HY⟩ : ∃ y, Hid ((wtAt Q i).y = y) := ⟨_, Lib.hid rfl⟩
      rw [HX.out, HY.out] at hrx
      have hxk : x < k := by have := HKm.out; omega
      have hyk : y < k' := by have := HKs.out; omega
      have hxm := hrx.1
      have hys := hrx.2
      obtain ⟨_, _, e2', e3'⟩ := qcells_at Q i (by have := HN.out; omega)
      have c2 := hque.cellAt (i * 4 + 2) (by omega)
      have c3 := hque.cellAt (i * 4 + 2 + 1) (by omega)
      rw [e2', HX.out] at c2
      rw [show i * 4 + 2 + 1 = i * 4 + 3 by omega, e3', HY.out] at c3
      rw [show i * 4 + 3 = i * 4 + 2 + 1 by omega] at c3
      have i0 : (0 : Int) ≤ (i : Int) := by omega
      have i1 : (i : Int) < (N : Int) := by omega
      -- the box of the pair
      have hbb := (Below.refl V.heap.size V).alloc (Nat.le_refl _) (.cells #[.int .i64 x, .int .i64 y] 48)
      have hbW := Whole.new V 48 #[.int .i64 x, .int .i64 y]
      obtain ⟨Vb, HVb⟩ : ∃ z, Hid (V.alloc (.cells #[.int .i64 x, .int .i64 y] 48) = z) := ⟨_, Lib.hid rfl⟩
      rw [HVb.out] at hbb hbW
      have hzb : Vb.heap.size = V.heap.size + 1 := by rw [← HVb.out]; simp
      have hStb := HSt.out.up hbb
      have HStb := Lib.hid hStb
      have HbW := Lib.hid hbW
      have gx : ∀ q : Nat, (V.alloc (.cells #[.int .i64 x, .int .i64 y] 48)).cell? ⟨G, q, none⟩ = (#[.slice a n c, .slice b k d, .slice a' n' c', .slice b' k' d', .slice oa k oc, .slice (some ⟨R, 0, none⟩) k' k'] : Array Value)[q]? := fun q => by rw [HVb.out]; exact hStb.tri.cell q
      have g0 := gx 0
      have g1 := gx 1
      have g2 := gx 2
      have g3 := gx 3
      have g4 := gx 4
      have g5 := gx 5
      have kb0 := hbW.cell 0
      have kb1 := hbW.cell 1
      simp only [List.getElem?_toArray, List.getElem?_cons_succ, List.getElem?_cons_zero] at g0 g1 g2 g3 g4 g5 kb0 kb1
      have HFt := fits_any hStb.tr HM.out hxk hyk (by omega) (by omega)
      have HBb := Lib.hid hbb
      have hnow : V.heap.size < Vb.heap.size := by omega
      have hGl : G < Vb.heap.size := hStb.tri.lt
      clear hrx e2' e3' hque hbb hbW hStb gx
      cases hft : fitB m s x y
      · rw [hft] at HFt
        have HFt := Lib.hid HFt
        have HNo : Hid (SatNo m s (spellQ Q i i) x) := Lib.hid ⟨i, HFit.out, by rw [HQ.out, HN.out]; exact hlt, by rw [HQ.out, HX.out, HY.out]; exact hft, by rw [HQ.out], by rw [HQ.out, HX.out]⟩
        clear hft
        go_wp2_with fail
        rw [HVb.out]
        refine HFt.out.mono ?_
        rintro e w5 ⟨rfl, hb5⟩
        have hSt5 := HStb.out.up hb5
        have HSt5 := Lib.hid hSt5
        have k5 := (HbW.out.below hb5 hnow).cell 0
        simp only [List.getElem?_toArray, List.getElem?_cons_zero] at k5
        have hq5 := hSt5.que
        rw [HN.out] at hq5
        have hbef : Bef Q := fun q hq h0 => HOk.out.bef q hq h0
        have HQ5 := Lib.hid hq5
        have HBef := Lib.hid hbef
        have HLe : Hid (N ≤ 3000000) := Lib.hid (by omega)
        have hz5 := hb5.size
        clear hb5 hSt5 hq5 hbef g0 g1 g2 g3 g4 g5 kb0 kb1
        have hver5 := HSt5.out.ver
        have HVer5 := Lib.hid hver5
        obtain ⟨wd, HWd⟩ : ∃ z, Hid (spellQ Q i i = z) := ⟨_, Lib.hid rfl⟩
        rw [HWd.out] at HNo
        clear hver5
        have hvl : w.heap.size + 2 < V.heap.size := HSt.out.ver.lt
        go_wp2
        have hfar : ∀ (W : World) (q : Nat) (u : Value), (W.setCell ⟨w.heap.size + 2, q, none⟩ u).cell? ⟨V.heap.size, 0, none⟩ = W.cell? ⟨V.heap.size, 0, none⟩ := fun W q u => World.cell?_setCell_far W _ _ u (by simp only; omega)
        go_region_held3 (fun w' => w'.cell? ⟨V.heap.size, 0, none⟩ = some (.int .i64 x))
          ((first | exact k5 | exact k6 | (simp only [hfar]; exact k6)))
          (first
            | (go_at_call 65; refine (spell_any (own_up' HQ5.out ?_) HN.out HBef.out hlt HLe.out).mono ?_; (first | exact (Below.refl _ w5).drew | exact Below.refl _ w5); rintro e w6 ⟨v6, rfl, hv6, hb6⟩; rw [HWd.out] at hv6; obtain ⟨va, vc, rfl⟩ := own_slice' hv6; have k6 := up_cell hb6 k5; have hb56 : Below w5.heap.size w5 w6 := (by first | exact below_two (Below.refl _ w5).drew hb6 | exact hb6); have hv6w := HVer5.out.below hb56 HVer5.out.lt; have m0 := hv6w.cell 0; have m1 := hv6w.cell 1; have m2 := hv6w.cell 2; have m3 := hv6w.cell 3; have fz0 := hv6w.frozen 0; have fz1 := hv6w.frozen 1; have fz2 := hv6w.frozen 2; have fz3 := hv6w.frozen 3; simp only [List.getElem?_toArray, List.getElem?_cons_succ, List.getElem?_cons_zero] at m0 m1 m2 m3))
        have l0 := ((((hv6w.set 0 (.bool false)).set 1 (.slice none 0 0)).set 2 (.slice va wd.length vc)).set 3 (.int .i64 (x : Nat))).cell 0
        have l1 := ((((hv6w.set 0 (.bool false)).set 1 (.slice none 0 0)).set 2 (.slice va wd.length vc)).set 3 (.int .i64 (x : Nat))).cell 1
        have l2 := ((((hv6w.set 0 (.bool false)).set 1 (.slice none 0 0)).set 2 (.slice va wd.length vc)).set 3 (.int .i64 (x : Nat))).cell 2
        have l3 := ((((hv6w.set 0 (.bool false)).set 1 (.slice none 0 0)).set 2 (.slice va wd.length vc)).set 3 (.int .i64 (x : Nat))).cell 3
        simp only [List.setIfInBounds_toArray, List.set_cons_zero, List.set_cons_succ, List.getElem?_toArray, List.getElem?_cons_succ, List.getElem?_cons_zero] at l0 l1 l2 l3
        have hgr := ((((grown_self w6 ⟨w.heap.size + 2, 0, none⟩ (.bool false)).trans (grown_self (w6.setCell ⟨w.heap.size + 2, 0, none⟩ (.bool false)) ⟨w.heap.size + 2, 1, none⟩ (.slice none 0 0))).trans (grown_self ((w6.setCell ⟨w.heap.size + 2, 0, none⟩ (.bool false)).setCell ⟨w.heap.size + 2, 1, none⟩ (.slice none 0 0)) ⟨w.heap.size + 2, 2, none⟩ (.slice va wd.length vc))).trans (grown_self (((w6.setCell ⟨w.heap.size + 2, 0, none⟩ (.bool false)).setCell ⟨w.heap.size + 2, 1, none⟩ (.slice none 0 0)).setCell ⟨w.heap.size + 2, 2, none⟩ (.slice va wd.length vc)) ⟨w.heap.size + 2, 3, none⟩ (.int .i64 (x : Nat))))
        have hBw6 : Below w.heap.size w w6 := HSt5.out.below.trans (hb56.mono HSt5.out.below.size)
        have hF : NumO ((((w6.setCell ⟨w.heap.size + 2, 0, none⟩ (.bool false)).setCell ⟨w.heap.size + 2, 1, none⟩ (.slice none 0 0)).setCell ⟨w.heap.size + 2, 2, none⟩ (.slice va wd.length vc)).setCell ⟨w.heap.size + 2, 3, none⟩ (.int .i64 (x : Nat))) w.heap.size (.slice va wd.length vc) wd := (own_low hv6 (by have := HSt5.out.below.size; simpa using this)).kept hgr (.inr (own_whole (own_low hv6 (Nat.zero_le _)) hv6w (by decide)).symm)
        have hH : Below w.heap.size w ((((w6.setCell ⟨w.heap.size + 2, 0, none⟩ (.bool false)).setCell ⟨w.heap.size + 2, 1, none⟩ (.slice none 0 0)).setCell ⟨w.heap.size + 2, 2, none⟩ (.slice va wd.length vc)).setCell ⟨w.heap.size + 2, 3, none⟩ (.int .i64 (x : Nat))) := hBw6.grown hgr hBw6.size (fun q hq => by simp only [Option.some.injEq] at hq; omega)
        have HFF := Lib.hid hF
        have HHH := Lib.hid hH
        clear hF hH hgr hBw6 hv6w hv6 hb6 hb56 m0 m1 m2 m3 fz0 fz1 fz2 fz3 k5 k6 hfar
        go_wp2
        exact bodyPost_ret (v := .tuple #[.agg #[.bool false, .slice none 0 0, .slice va wd.length vc, .int .i64 (x : Nat)], .int .i64 0]) (by simp [results, Tryz.results24, go_sem, l0, l1, l2, l3]) rfl (by first | exact ⟨HHH.out, .inr ⟨wd, x, _, HNo.out, rfl, HFF.out⟩⟩ | exact ⟨HHH.out.drew, .inr ⟨wd, x, _, HNo.out, rfl, HFF.out⟩⟩)
      · rw [hft] at HFt
        have HFt := Lib.hid HFt
        have HNx : Hid (∀ q, q < (stAt m.states x).length → (edAt (stAt m.states x) q).1.toNat < (teAt s.states y).2.length ∧ 0 ≤ (teAt s.states y).2.getD (edAt (stAt m.states x) q).1.toNat 0 ∧ (teAt s.states y).2.getD (edAt (stAt m.states x) q).1.toNat 0 < s.states.length) := Lib.hid fun q hq => fit_next HM.out HS.out hxm hys hft hq
        have HFitN : Hid (FitsTo m s (i + 1)) := Lib.hid fun q hq => by
          by_cases e : q = i
          · rw [e, HQ.out, HN.out, HX.out, HY.out]; exact ⟨hlt, hft⟩
          · exact HFit.out q (by omega)
        clear hft
        go_wp2_with fail
        rw [HVb.out]
        refine HFt.out.mono ?_
        rintro e w5 ⟨rfl, hb5⟩
        have hSt5 := HStb.out.up hb5
        have hNow5 := HbW.out.below hb5 hnow
        have k5 := hNow5.cell 0
        have s1 := hSt5.sysb.cell 1
        simp only [List.getElem?_toArray, List.getElem?_cons_succ, List.getElem?_cons_zero] at k5 s1
        obtain ⟨bx2, off2, rfl, ai, ni, ci, c0, hE⟩ := HA.out.rows x hxm
        have c1 : w5.cell? ⟨bx2, off2 + x, none⟩ = some (.slice ai ni ci) := (hSt5.below.cell (lt_of_cell c0)).trans c0
        have HEd := Lib.hid hE
        have HQF : Hid (stQ m s i = (Q, F)) := Lib.hid (by rw [← HQ.out, ← HF.out])
        clear c0
        have hni : ni = (stAt m.states x).length := hE.len
        have hnib : ni ≤ 140737488355328 := hE.big
        have HSt5 : Hid (StAt w w5 G g bl a n c (some ⟨bx2, off2, none⟩) k d m a' n' c' b' k' d' s oa oc R (.slice (some ⟨gq, 0, none⟩) N qc) (inQ m s i (Q, F) 0).1 (inQ m s i (Q, F) 0).2) := Lib.hid (by rw [inQ_zero]; exact hSt5)
        have HNow5 := Lib.hid hNow5
        have HNI := Lib.hid hni
        have x0 : (0 : Int) ≤ (x : Int) := by omega
        have x1 : (x : Int) < (k : Int) := by omega
        have h05 : V.heap.size < w5.heap.size := hNow5.lt
        have HOk1 : Hid (OkQ m s (inQ m s i (Q, F) 0) ∧ N ≤ (inQ m s i (Q, F) 0).1.length) := Lib.hid (by rw [inQ_zero]; exact ⟨HOk.out, by rw [← HN.out]; exact Nat.le_refl _⟩)
        clear hb5 hSt5 hNow5 hE hni g0 g1 g2 g3 g4 g5 kb0 kb1
        go_wp2
        go_loopw [9, 13, 14, 60] (fun qv _ _ jv wr => ∃ j : Nat, jv = .int .i64 j ∧ j ≤ ni ∧ Hid (OkQ m s (inQ m s i (Q, F) j) ∧ N ≤ (inQ m s i (Q, F) j).1.length) ∧ Hid (StAt w wr G g bl a n c (some ⟨bx2, off2, none⟩) k d m a' n' c' b' k' d' s oa oc R qv (inQ m s i (Q, F) j).1 (inQ m s i (Q, F) j).2) ∧ Hid (Whole wr V.heap.size 48 #[.int .i64 x, .int .i64 y])) (fun _ _ _ jv _ => ni - (intOf jv).toNat)
        case atStart => exact ⟨0, rfl, Nat.zero_le _, HOk1, HSt5, HNow5⟩
        case round =>
          obtain ⟨j, rfl, hj, hokj, hstj, hnowj⟩ := hrel
          obtain ⟨Qj, HQj⟩ : ∃ z, Hid ((inQ m s i (Q, F) j).1 = z) := ⟨_, Lib.hid rfl⟩
          obtain ⟨Fj, HFj⟩ : ∃ z, Hid ((inQ m s i (Q, F) j).2 = z) := ⟨_, Lib.hid rfl⟩
          rw [HQj.out, HFj.out] at hstj
          have hok0 := hokj.out.1
          have hokl := hokj.out.2
          rw [HQj.out] at hokl
          have hfew : Qj.length ≤ k * k' := by have := hok0.few; rw [HQj.out, ← HKm.out, ← HKs.out] at this; exact this
          obtain ⟨qja, qjc, rfl⟩ := own_slice' hstj.out.que
          have hzj := hstj.out.below.size
          by_cases hlt2 : j < ni
          · have hjl : j < (stAt m.states x).length := by have := HNI.out; omega
            obtain ⟨be, oe, rfl, d1, d2⟩ := (HEd.out.cells.below hstj.out.below) j hjl
            obtain ⟨f1, f2, f3, f4⟩ := edge_ok HM.out hxm hjl
            obtain ⟨u, hu⟩ := Int.eq_ofNat_of_zero_le f1
            obtain ⟨z, hz⟩ := Int.eq_ofNat_of_zero_le f3
            obtain ⟨n1, n2, n3⟩ := HNx.out j hjl
            have HU := Lib.hid hu
            have HZ := Lib.hid hz
            rw [hu] at d1 n1 n2 n3
            rw [hz] at d2
            simp only [Int.toNat_natCast] at n1 n2 n3
            obtain ⟨t, ht⟩ := Int.eq_ofNat_of_zero_le n2
            have HTt := Lib.hid ht
            have htk : t < k' := by have := HKs.out; omega
            have hzk : z < k := by have := HKm.out; omega
            have HAdd : Hid (inQ m s i (Q, F) (j + 1) = if getF Fj z t = true then inQ m s i (Q, F) j else (Qj ++ [⟨i, (u : Int), z, t⟩], setF Fj z t)) := Lib.hid (by
              rw [inQ_next _ _ _ _ _ (by simp only; rw [HX.out]; exact hjl)]
              simp only
              rw [HX.out, HY.out]
              unfold addQ nextY
              rw [HU.out, HZ.out, HQj.out, HFj.out]
              simp only [Int.toNat_natCast]
              rw [HTt.out]
              simp only [Int.toNat_natCast])
            have HOkA : Hid (OkQ m s (inQ m s i (Q, F) (j + 1)) ∧ N ≤ (inQ m s i (Q, F) (j + 1)).1.length) := Lib.hid (by
              have e1 := inQ_next m s i (Q, F) j (by simp only; rw [HX.out]; exact hjl)
              simp only at e1
              rw [HX.out, HY.out] at e1
              rw [e1]
              refine ⟨hok0.add (by rw [HQj.out]; omega) (by rw [HZ.out]; simp only [Int.toNat_natCast]; have := HKm.out; omega) ?_, ?_⟩
              · unfold nextY
                rw [HU.out]
                simp only [Int.toNat_natCast]
                rw [HTt.out]
                simp only [Int.toNat_natCast]
                have := HKs.out; omega
              · have := addQ_len s i y (inQ m s i (Q, F) j) (edAt (stAt m.states x) j)
                rw [HQj.out] at this
                omega)
            have HFo := follow_any (hstj.out.up ((Below.refl _ wr).alloc (Nat.le_refl _) (.cells #[.int .i64 u, .int .i64 z] 87))).tr (x := x) (z := z) ⟨_, _, rfl⟩ hyk n1 ht (by omega)
            have gx : ∀ q : Nat, (wr.alloc (.cells #[.int .i64 u, .int .i64 z] 87)).cell? ⟨G, q, none⟩ = (#[.slice a n c, .slice (some ⟨bx2, off2, none⟩) k d, .slice a' n' c', .slice b' k' d', .slice oa k oc, .slice (some ⟨R, 0, none⟩) k' k'] : Array Value)[q]? := fun q => (hstj.out.tri.alloc _).cell q
            have kx : ∀ q : Nat, (wr.alloc (.cells #[.int .i64 u, .int .i64 z] 87)).cell? ⟨V.heap.size, q, none⟩ = (#[.int .i64 x, .int .i64 y] : Array Value)[q]? := fun q => (hnowj.out.alloc _).cell q
            have g0 := gx 0
            have g1 := gx 1
            have g2 := gx 2
            have g3 := gx 3
            have g4 := gx 4
            have g5 := gx 5
            have k0 := kx 0
            have k1 := kx 1
            simp only [List.getElem?_toArray, List.getElem?_cons_succ, List.getElem?_cons_zero] at g0 g1 g2 g3 g4 g5 k0 k1
            have HFo := Lib.hid HFo
            have heb := Whole.new wr 87 #[.int .i64 u, .int .i64 z]
            have hbe := (Below.refl wr.heap.size wr).alloc (Nat.le_refl _) (.cells #[.int .i64 u, .int .i64 z] 87)
            obtain ⟨We, HWe⟩ : ∃ z', Hid (wr.alloc (.cells #[.int .i64 u, .int .i64 z] 87) = z') := ⟨_, Lib.hid rfl⟩
            have HeB : Hid (Whole We wr.heap.size 87 #[.int .i64 u, .int .i64 z]) := Lib.hid (by rw [← HWe.out]; exact heb)
            have HbE : Hid (Below wr.heap.size wr We) := Lib.hid (by rw [← HWe.out]; exact hbe)
            have hze : We.heap.size = wr.heap.size + 1 := by rw [← HWe.out]; simp
            have j0 : (0 : Int) ≤ (j : Int) := by omega
            have j1 : (j : Int) < (ni : Int) := by omega
            clear gx kx f1 f2 f3 f4 hu hz n1 n2 n3 ht heb hbe
            go_wp2_with fail
            rw [HWe.out]
            refine (HWe.out ▸ HFo.out).mono ?_
            rintro e w6 ⟨rfl, hb6⟩
            have h66 : We.heap.size ≤ w6.heap.size := hb6.size
            have hb06 : Below wr.heap.size wr w6 := HbE.out.trans (hb6.mono HbE.out.size)
            have heb6 := HeB.out.below hb6 (by omega)
            have hb7 : Below wr.heap.size wr (w6.alloc (.cells #[.int .i64 z, .int .i64 t] 48)) := hb06.alloc hb06.size _
            have hst7 := hstj.out.up hb7
            have hnx7 := Whole.new w6 48 #[.int .i64 z, .int .i64 t]
            obtain ⟨w7, HW7⟩ : ∃ z', Hid (w6.alloc (.cells #[.int .i64 z, .int .i64 t] 48) = z') := ⟨_, Lib.hid rfl⟩
            rw [HW7.out] at hst7 hnx7 hb7
            have heb7 : Whole w7 wr.heap.size 87 #[.int .i64 u, .int .i64 z] := by rw [← HW7.out]; exact heb6.alloc _
            have hnow7 := hnowj.out.below hb7 hnowj.out.lt
            have hz7 : w7.heap.size = w6.heap.size + 1 := by rw [← HW7.out]; simp
            obtain ⟨q, HQq⟩ : ∃ q, Hid (getF Fj z t = q) := ⟨_, Lib.hid rfl⟩
            have hAd := add_any hst7.rel hzk htk (by omega) (by omega)
            rw [HQq.out] at hAd
            have HAd7 := Lib.hid hAd
            have HSt7 := Lib.hid hst7
            have HEb7 := Lib.hid heb7
            have HNx7 := Lib.hid hnx7
            have HNow7 := Lib.hid hnow7
            clear hb6 hb06 heb6 hb7 hst7 hnx7 heb7 hnow7 hAd g0 g1 g2 g3 g4 g5 k0 k1
            go_wp2_with fail
            rw [HW7.out]
            refine HAd7.out.mono ?_
            rintro e w8 ⟨rfl, hrel8, hg8⟩
            have hrow7 := HSt7.out.rel.rows z hzk
            have hst8 := HSt7.out.mark HA.out HA'.out hzk hrel8 hg8
            have heb8 := HEb7.out.grown hg8 (own_whole hrow7 HEb7.out (by decide))
            have hnx8 := HNx7.out.grown hg8 (own_whole hrow7 HNx7.out (by decide))
            have hnow8 := HNow7.out.grown hg8 (own_whole hrow7 HNow7.out (by decide))
            have HSt8 := Lib.hid hst8
            have HNow8 := Lib.hid hnow8
            have p0 := heb8.cell 0
            have p1 := hnx8.cell 0
            have p2 := hnx8.cell 1
            simp only [List.getElem?_toArray, List.getElem?_cons_succ, List.getElem?_cons_zero] at p0 p1 p2
            have hx8 := heb8.lt
            have hx9 := hnx8.lt
            clear hrel8 hg8 hrow7 hst8 heb8 hnx8 hnow8
            cases q
            · have hque8 := HSt8.out.que
              have HQu := Lib.hid (hque8.alloc (.cells #[.int .i64 i, .int .i64 u, .int .i64 z, .int .i64 t] 133))
              have hz8 := HSt8.out.below.size
              go_wp2_with (at_builtin; (refine wpList_append_sz rfl (.tmp 71) (.tmp 78) 134 rfl w.heap.size 133 i4 (.agg #[.int .i64 0, .int .i64 0, .int .i64 0, .int .i64 0]) 4 32 Tryz.underlying134 hi4 hz40 hz41 hz42 rfl (by decide) (.slice qja Qj.length qjc) rfl Qj.length (qcells Qj) HQu.out (some ⟨w8.heap.size, 0, none⟩) 1 1 rfl [.int .i64 i, .int .i64 u, .int .i64 z, .int .i64 t] (fun h => by cases h) rfl (four_src _ _ _ _ _ _) (by simp [Value.oneCell']) (by unfold maxLen; omega) (by omega) (by simp; omega) ?_); intro v9 w9 hv9 hg9 hat9; refine Hid.out ?_)
              refine Lib.hid ?_
              obtain ⟨v9a, v9c, rfl⟩ := own_slice' hv9
              have HSt9 : Hid (StAt w w9 G g bl a n c (some ⟨bx2, off2, none⟩) k d m a' n' c' b' k' d' s oa oc R (.slice v9a (Qj.length + 1) v9c) (inQ m s i (Q, F) (j + 1)).1 (inQ m s i (Q, F) (j + 1)).2) := Lib.hid (by
                rw [HAdd.out, HQq.out, if_neg (by decide)]
                exact HSt8.out.push HA.out HA'.out (t := ⟨i, (u : Int), z, t⟩) hv9 hg9)
              have HNow9 := Lib.hid ((HNow8.out.alloc (.cells #[.int .i64 i, .int .i64 u, .int .i64 z, .int .i64 t] 133)).grown hg9 (own_whole hque8 HNow8.out (by decide)))
              clear hv9 hg9 hat9 hque8
              go_wp2
              go_roundw
              case rel => exact ⟨j + 1, by go_num, by omega, HOkA, HSt9, HNow9⟩
              case measure => simp [intOf]; omega
            · have HStn : Hid (StAt w w8 G g bl a n c (some ⟨bx2, off2, none⟩) k d m a' n' c' b' k' d' s oa oc R (.slice qja Qj.length qjc) (inQ m s i (Q, F) (j + 1)).1 (inQ m s i (Q, F) (j + 1)).2) := Lib.hid (by
                rw [HAdd.out, if_pos HQq.out, HQj.out, HFj.out]
                have h1 := HSt8.out
                rw [setF_same (HSt7.out.rel.shp) hzk htk HQq.out] at h1
                exact h1)
              go_wp2
              go_roundw
              case rel => exact ⟨j + 1, by go_num, by omega, HOkA, HStn, HNow8⟩
              case measure => simp [intOf]; omega
          · have HEq : Hid (stQ m s (i + 1) = inQ m s i (Q, F) j) := Lib.hid (by
              show inQ m s i (stQ m s i) (stAt m.states (wtAt (stQ m s i).1 i).x).length = _
              rw [HQF.out]
              simp only
              rw [HX.out]
              have : j = (stAt m.states x).length := by have := HNI.out; omega
              rw [this])
            have HStE : Hid (StAt w wr G g bl a n c (some ⟨bx2, off2, none⟩) k d m a' n' c' b' k' d' s oa oc R (.slice qja Qj.length qjc) (stQ m s (i + 1)).1 (stQ m s (i + 1)).2) := Lib.hid (by rw [HEq.out, HQj.out, HFj.out]; exact hstj.out)
            have HOkE : Hid (OkQ m s (stQ m s (i + 1))) := Lib.hid (by rw [HEq.out]; exact hok0)
            have HLe : Hid (i + 1 ≤ (stQ m s (i + 1)).1.length) := Lib.hid (by rw [HEq.out, HQj.out]; omega)
            clear hok0 hokl
            go_wp2
            go_roundw
            case rel => exact ⟨i + 1, by go_num, HLe.out, HFitN, HOkE, HStE⟩
            case measure => simp [intOf]; omega
    · have hiN : i = N := by omega
      have HYes : Hid (SatYes m s (allF F)) := Lib.hid ⟨i, HFit.out, by rw [HQ.out, HN.out, hiN], by rw [HF.out]⟩
      have HAll := all_any g k V
      have hbA := (Below.refl V.heap.size V).alloc (Nat.le_refl _) (.cells #[.slice (some ⟨g, 0, none⟩) k k] 127)
      have hStA := HSt.out.up hbA
      have hcA : (V.alloc (.cells #[.slice (some ⟨g, 0, none⟩) k k] 127)).cell? ⟨V.heap.size, 0, none⟩ = some (.slice (some ⟨g, 0, none⟩) k k) := (Whole.new V 127 #[.slice (some ⟨g, 0, none⟩) k k]).cell 0
      have HCol := Lib.hid (collectAll_any hcA hStA.rel (by omega) (by omega) (by omega))
      have HAll := Lib.hid HAll
      have HStA := Lib.hid hStA
      clear hbA hStA hcA hque
      go_wp2_with fail
      refine HAll.out.mono ?_
      rintro e w5 ⟨rfl, hw5⟩
      have HW5 := Lib.hid hw5
      rw [hw5] at HCol HStA
      clear hw5
      go_wp2_with fail
      refine HCol.out.mono ?_
      rintro e w6 ⟨v6, rfl, hv6, hb6⟩
      obtain ⟨va, vc, rfl⟩ := own_slice' hv6
      have hst6 := HStA.out.up hb6
      have hv6w := hst6.ver
      have m0 := hv6w.cell 0
      have m1 := hv6w.cell 1
      have m2 := hv6w.cell 2
      have m3 := hv6w.cell 3
      have fz0 := hv6w.frozen 0
      have fz1 := hv6w.frozen 1
      have fz2 := hv6w.frozen 2
      have fz3 := hv6w.frozen 3
      obtain ⟨LN, HLN⟩ : ∃ z, Hid ((allF F).length = z) := ⟨_, Lib.hid rfl⟩
      rw [HLN.out] at hv6 ⊢
      have l0 := ((((hv6w.set 0 (.bool true)).set 1 (.slice va LN vc)).set 2 (.slice none 0 0)).set 3 (.int .i64 0)).cell 0
      have l1 := ((((hv6w.set 0 (.bool true)).set 1 (.slice va LN vc)).set 2 (.slice none 0 0)).set 3 (.int .i64 0)).cell 1
      have l2 := ((((hv6w.set 0 (.bool true)).set 1 (.slice va LN vc)).set 2 (.slice none 0 0)).set 3 (.int .i64 0)).cell 2
      have l3 := ((((hv6w.set 0 (.bool true)).set 1 (.slice va LN vc)).set 2 (.slice none 0 0)).set 3 (.int .i64 0)).cell 3
      simp only [List.setIfInBounds_toArray, List.set_cons_zero, List.set_cons_succ, List.getElem?_toArray, List.getElem?_cons_succ, List.getElem?_cons_zero] at m0 m1 m2 m3 l0 l1 l2 l3
      have hgr := (((grown_self w6 ⟨w.heap.size + 2, 0, none⟩ (.bool true)).trans (grown_self (w6.setCell ⟨w.heap.size + 2, 0, none⟩ (.bool true)) ⟨w.heap.size + 2, 1, none⟩ (.slice va LN vc))).trans (grown_self ((w6.setCell ⟨w.heap.size + 2, 0, none⟩ (.bool true)).setCell ⟨w.heap.size + 2, 1, none⟩ (.slice va LN vc)) ⟨w.heap.size + 2, 2, none⟩ (.slice none 0 0))).trans (grown_self (((w6.setCell ⟨w.heap.size + 2, 0, none⟩ (.bool true)).setCell ⟨w.heap.size + 2, 1, none⟩ (.slice va LN vc)).setCell ⟨w.heap.size + 2, 2, none⟩ (.slice none 0 0)) ⟨w.heap.size + 2, 3, none⟩ (.int .i64 0))
      have hF := (own_low hv6 HStA.out.below.size).kept hgr (.inr (own_whole hv6 hv6w (by decide)).symm)
      have hH := hst6.below.grown hgr hst6.below.size (fun q hq => by simp only [Option.some.injEq] at hq; omega)
      have HFF := Lib.hid hF
      have HHH := Lib.hid hH
      have hvl := hv6w.lt
      clear hF hH hgr hv6w hv6 hb6 hst6
      go_wp2
      exact bodyPost_ret (v := .tuple #[.agg #[.bool true, .slice va LN vc, .slice none 0 0, .int .i64 0], .int .i64 0]) (by simp [results, Tryz.results24, go_sem, l0, l1, l2, l3]) rfl ⟨HHH.out, .inl ⟨allF F, _, HYes.out, rfl, by rw [HLN.out]; exact HFF.out⟩⟩
end Go.Proofs.YtgnbkepdbdgkdaaGreatDoor
