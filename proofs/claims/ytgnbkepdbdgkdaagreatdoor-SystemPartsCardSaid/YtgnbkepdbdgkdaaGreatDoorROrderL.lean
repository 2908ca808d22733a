/- The reference's Order. -/
import Derived.Test.YtgnbkepdbdgkdaaGreatDoorJq19
import Derived.Test.YtgnbkepdbdgkdaaGreatDoorStepCL
import Derived.StillTailTactics
import Derived.BigQuiet
import Derived.Deep.Cut
namespace Go.Proofs.YtgnbkepdbdgkdaaGreatDoor
open Go.RowKit Pl

/-- where Order stands: the marks and the list -/
structure OrAt (w0 V : World) (M k : Nat) (lv : Value) (l : List Nat) : Prop where
  lst : NumO V w0.heap.size lv (zs l)
  mar : V.ownsRow w0.heap.size 4 1 (.slice (some ⟨M, 0, none⟩) k k) k (marksL k l)
  below : Below w0.heap.size w0 V
section
variable {w0 V W : World} {M k : Nat} {lv : Value} {l : List Nat}
theorem OrAt.up (h : OrAt w0 V M k lv l) (hb : Below V.heap.size V W) : OrAt w0 W M k lv l :=
  ⟨own_up' h.lst hb, own_up' h.mar hb, h.below.trans (hb.mono h.below.size)⟩
/-- a state is marked, and put behind the list -/
theorem OrAt.next {X : World} {o : Obj} {v2 : Value} {y : Nat} (h : OrAt w0 V M k lv l) (hy : y < k) (hn : y ∉ l) (hX : Below (V.setCell ⟨M, y, none⟩ (.bool true)).heap.size (V.setCell ⟨M, y, none⟩ (.bool true)) X) (hg : (X.alloc o).grownBy W lv.ownBlock)
    (hown : W.ownsRow w0.heap.size 3 1 v2 ((zs l).length + 1) ((zs l).map (Value.int .i64) ++ [.int .i64 (y : Int)])) : OrAt w0 W M k v2 (cAdd l y) := by
  have h1 := h.mar.stored y (.bool true)
  rw [marksL_put hy hn] at h1
  have hl := World.ownsRow.kept h.lst h1.2 (own_apart h.lst h.mar (by decide))
  have hb := h.below.setCell (show w0.heap.size ≤ M from own_ge h.mar _ rfl) (p := ⟨M, y, none⟩) (.bool true)
  have hXa := hX.trans (((Below.refl _ X).alloc (Nat.le_refl _) o).mono hX.size)
  have hm2 := own_up' h1.1 hXa
  have hl2 := own_up' hl hXa
  have e : cAdd l y = l ++ [y] := by unfold cAdd; rw [if_neg hn]
  refine ⟨?_, hm2.kept hg (own_apart hm2 hl2 (by decide)), (hb.trans (hXa.mono hb.size)).grown hg (Nat.le_trans hb.size hXa.size) (own_ge hl2)⟩
  rw [e]
  unfold NumO
  rw [zs_snoc, List.length_append, List.length_singleton, List.map_append]
  exact hown
end
theorem zs_cell {l : List Nat} {r x : Nat} (h : l[r]? = some x) : ((zs l).map (Value.int .i64))[r]? = some (.int .i64 (x : Int)) := by
  unfold zs
  rw [List.map_map, List.getElem?_map, h]
  rfl
theorem own_some {W : World} {B : Nat} {e : TypeId} {size n c m : Nat} {a : Option Addr} {xs : List Value} (h : W.ownsRow B e size (.slice a n c) m xs) : n = m ∧ (0 < m → ∃ b, a = some ⟨b, 0, none⟩) := by
  rcases h.2 with ⟨q, q0⟩ | ⟨g, cap, cur, q, _⟩
  · simp only [Value.slice.injEq] at q
    exact ⟨by omega, fun h0 => by omega⟩
  · simp only [Value.slice.injEq] at q
    exact ⟨q.2.1, fun _ => ⟨g, q.1⟩⟩

set_option maxRecDepth 100000 in
set_option maxHeartbeats 16000000 in
theorem ROrder_any {w : World} {a : Option Addr} {n c : Nat} {b : Option Addr} {k d : Nat} {m : Syst} (A : SysArg w a n c b k d m) (hv : sysB m = true) {st : Nat} (hst : st < k) :
    Calls Tryz.prog 43 #[.agg #[.slice a n c, .slice b k d], .int .i64 st] w fun e w' => ∃ v L, e = .returned v ∧ OrdIs m st L ∧ NumO w' w.heap.size v (zs L) ∧ Below w.heap.size w w' := by
  obtain ⟨i1, hi1, hz10, hz11, hz12⟩ := info_parts infoNumS
  obtain ⟨i2, hi2, hz20, hz21, hz22⟩ := info_parts infoBoolV
  have hk5 : k ≤ 5000 := by have := ((sysB_iff m).1 hv).2.2.1; have := A.len; omega
  have hb0 := (Below.refl w.heap.size w).alloc (Nat.le_refl _) (.cells #[.slice a n c, .slice b k d] 25)
  have h1 := Whole.new w 25 #[.slice a n c, .slice b k d]
  obtain ⟨w0, HW0⟩ : ∃ z, Hid (w.alloc (.cells #[.slice a n c, .slice b k d] 25) = z) := ⟨_, Lib.hid rfl⟩
  rw [HW0.out] at hb0 h1
  have HA := Lib.hid (A.below hb0)
  have HV := Lib.hid hv
  have HB0 := Lib.hid hb0
  have H1 := Lib.hid h1
  have HKl : Hid (m.states.length = k) := Lib.hid A.len.symm
  have q1 : w0.cell? ⟨w.heap.size, 1, none⟩ = some (.slice b k d) := h1.cell 1
  clear A hv hb0 h1
  go_enter Tryz.func43, Tryz.ntmps43
  go_wp2_with (at_make; rw [HW0.out]; refine wpList_make_full _ rfl _ _ 173 rfl w0.heap.size 4 i2 (.bool false) 1 Tryz.underlying173 hi2 hz20 hz21 .i64 .i64 k k k rfl rfl rfl rfl (by rw [hz22]; omega) (by unfold maxLen; omega) (Nat.le_refl _) ?_; intro w1 hrow hg1; refine Hid.out ?_)
  rw [made_falses, ← marksL_none] at hrow
  obtain ⟨M, HMn⟩ : ∃ z, Hid (w0.heap.size = z) := ⟨_, Lib.hid rfl⟩
  have hrow' : w1.ownsRow w0.heap.size 4 1 (.slice (some ⟨M, 0, none⟩) k k) k (marksL k []) := by rw [← HMn.out]; exact hrow
  have HO : Hid (OrAt w0 w1 M k (.slice none 0 0) []) := Lib.hid ⟨World.ownsRow_nil _ _ _ _, hrow', below_up hg1⟩
  rw [HMn.out]
  have c1 := hrow'.cellAt st (by omega)
  rw [marksL_at _ hst] at c1
  simp only [List.not_mem_nil, decide_false] at c1
  have c2 := hrow'.frozenAt st
  obtain ⟨wS, HwS⟩ : ∃ z, Hid (w1.setCell ⟨M, st, none⟩ (.bool true) = z) := ⟨_, Lib.hid rfl⟩
  have hS := HO.out.mar.stored st (.bool true)
  rw [marksL_put hst (by simp)] at hS
  have hbS := HO.out.below.setCell (show w0.heap.size ≤ M from own_ge hrow' _ rfl) (p := ⟨M, st, none⟩) (.bool true)
  rw [HwS.out] at hS hbS
  have hal := (Below.refl wS.heap.size wS).alloc (Nat.le_refl _) (.cells #[.int .i64 (st : Int)] 3)
  have hlit : (wS.alloc (.cells #[.int .i64 (st : Int)] 3)).ownsRow w0.heap.size 3 1 (.slice (some ⟨wS.heap.size, 0, none⟩) 1 1) 1 [.int .i64 (st : Int)] := World.ownsRow_lit (base := w0.heap.size) (e := 3) (size := 1) wS #[.int .i64 (st : Int)] 1 hbS.size (by unfold maxLen; omega) rfl
  have HO1 : Hid (OrAt w0 (wS.alloc (.cells #[.int .i64 (st : Int)] 3)) M k (.slice (some ⟨wS.heap.size, 0, none⟩) 1 1) (ordQ m st 0)) := Lib.hid ⟨hlit, own_up' hS.1 hal, hbS.trans (hal.mono hbS.size)⟩
  have hzS : wS.heap.size = w1.heap.size := by rw [← HwS.out]; simp
  rw [hzS] at HO1
  have HSt0 : Hid (OStp m st 0) := Lib.hid (fun j hj => by omega)
  have hst0 : (0 : Int) ≤ (st : Int) := by omega
  have hst1 : (st : Int) < (k : Int) := by omega
  clear hrow hg1 q1 hrow' hS hbS hal hlit hzS HO
  refine Lib.hid ?_
  go_wp2
  rw [HwS.out]
  clear c1 c2
  go_loopw [6, 7, 9, 34] (fun lv iv _ _ wr => ∃ (i : Nat) (la : Option Addr) (ln lc : Nat), iv = .int .i64 i ∧ lv = .slice la ln lc ∧ i ≤ ln ∧ ln ≤ 5000 ∧ Hid (OStp m st i) ∧ Hid (OrAt w0 wr M k (.slice la ln lc) (ordQ m st i))) (fun _ iv _ _ _ => 5001 - (intOf iv).toNat)
  case atStart => exact ⟨0, _, 1, 1, rfl, rfl, by omega, by omega, HSt0, HO1⟩
  case round =>
    as_aux_lemma =>
    obtain ⟨w3, hw3⟩ : ∃ z, z = wr := ⟨_, rfl⟩
    subst hw3
    obtain ⟨i, la, ln, lc, rfl, rfl, hil, hl5, hSt, hO⟩ := hrel
    have HOk := Lib.hid (ordQ_ok HV.out (show st < m.states.length by have := HKl.out; omega) i hSt.out)
    obtain ⟨l, HLq⟩ : ∃ z, Hid (ordQ m st i = z) := ⟨_, Lib.hid rfl⟩
    rw [HLq.out] at hO HOk
    have hrow : w3.ownsRow w0.heap.size 3 1 (.slice la ln lc) (zs l).length ((zs l).map (Value.int .i64)) := hO.out.lst
    have hls := own_some hrow
    rw [zs_len] at hls
    have HLl : Hid (l.length = ln) := Lib.hid hls.1.symm
    have HZl : Hid ((zs l).length = ln) := Lib.hid (by rw [zs_len, HLl.out])
    rw [HZl.out] at hrow
    by_cases hlt : i < ln
    · have hii : i < l.length := by rw [HLl.out]; exact hlt
      obtain ⟨lb, rfl⟩ := hls.2 (by omega)
      obtain ⟨x, HX⟩ : ∃ x, Hid (l[i]? = some x) := ⟨_, Lib.hid (List.getElem?_eq_getElem hii)⟩
      have c0 : w3.cell? ⟨lb, i, none⟩ = some (.int .i64 (x : Int)) := by
        rw [hrow.cellAt i (by omega)]
        exact zs_cell HX.out
      have hxm := HOk.out.2 x (List.mem_of_getElem? HX.out)
      have HXm := Lib.hid hxm
      obtain ⟨bx, off, rfl, ai, ni, ci, e11, hE⟩ := HA.out.rows x hxm
      have e10 := (hO.out.below.cell (lt_of_cell e11)).trans e11
      have y1 := (H1.out.below hO.out.below H1.out.lt).cell 1
      simp only [List.getElem?_toArray, List.getElem?_cons_succ, List.getElem?_cons_zero] at y1
      have HE := Lib.hid hE
      have hX0 : (0 : Int) ≤ (x : Int) := by omega
      have hX1 : (x : Int) < (k : Int) := by have := HKl.out; omega
      have hI0 : (0 : Int) ≤ (i : Int) := by omega
      have hI1 : (i : Int) < (ln : Int) := by omega
      have HEl : Hid ((stAt m.states x).length = ni) := Lib.hid hE.len.symm
      have hni : ni ≤ 400000 := by
        have h3 := hE.len
        have h4 := total_take m.states x hxm
        have h5 := total_take_le m.states (x + 1)
        have := ((sysB_iff m).1 HV.out).2.2.2.2
        omega
      have HOd : Hid (∀ q, OrAt w0 (w3.drewN q) M k (.slice (some ⟨lb, 0, none⟩) ln lc) (ordE l ((stAt m.states x).take 0))) := Lib.hid (fun q => hO.out.up (below_drewN (Below.refl _ _) q))
      have HNx : Hid (ordQ m st (i + 1) = ordE l (stAt m.states x)) := Lib.hid (by
        show ordE (ordQ m st i) (stAt m.states ((ordQ m st i).getD i 0)) = _
        rw [HLq.out, List.getD_eq_getElem?_getD, HX.out]
        rfl)
      have HSn : Hid (OStp m st (i + 1)) := Lib.hid (steps_next hSt.out (by rw [HLq.out]; exact hii))
      clear hrow hls hE hxm e11 hO hii
      go_wp2
      go_quiet (fail)
      go_wp2
      go_loopw [6, 9, 34] (fun lv _ q wr => ∃ (j : Nat) (la : Option Addr) (n2 lc : Nat), q = .int .i64 j ∧ j ≤ ni ∧ lv = .slice la n2 lc ∧ ln ≤ n2 ∧ n2 ≤ 5000 ∧ Hid (OrAt w0 wr M k (.slice la n2 lc) (ordE l ((stAt m.states x).take j)))) (fun _ _ q _ => ni - (intOf q).toNat)
      case atStart => exact ⟨0, _, _, _, rfl, Nat.zero_le _, rfl, Nat.le_refl _, hl5, Lib.hid (HOd.out _)⟩
      case round =>
        as_aux_lemma =>
        obtain ⟨w8, hw8⟩ : ∃ z, z = wr := ⟨_, rfl⟩
        subst hw8
        obtain ⟨j, la, n2, lc, rfl, hj, rfl, hn2, hn5, hOj⟩ := hrel
        clear c0 e10 y1 hX0 hX1 hI0 hI1 HOd
        by_cases hlt4 : j < ni
        · have hjl : j < (stAt m.states x).length := by have := HEl.out; omega
          obtain ⟨be, oe, rfl, d1, d2⟩ := (HE.out.cells.below hOj.out.below) j hjl
          have hef := edge_ok HV.out HXm.out hjl
          obtain ⟨u, HU⟩ : ∃ z, Hid ((edAt (stAt m.states x) j).1 = z) := ⟨_, Lib.hid rfl⟩
          obtain ⟨v, hvv⟩ := Int.eq_ofNat_of_zero_le hef.2.2.1
          have HVv : Hid ((edAt (stAt m.states x) j).2.toNat = v) := Lib.hid (by rw [hvv]; rfl)
          rw [HU.out] at d1
          rw [hvv] at d2
          have hvk : v < k := by have := hef.2.2.2; have := HKl.out; omega
          have HNj := Lib.hid (ordE_next (l := l) hjl)
          have HOk2 := Lib.hid (ordE_ok HV.out HXm.out HOk.out (j + 1) (by omega))
          rw [HVv.out] at HNj
          obtain ⟨ac, HAc⟩ : ∃ z, Hid (ordE l ((stAt m.states x).take j) = z) := ⟨_, Lib.hid rfl⟩
          rw [HAc.out] at HNj hOj
          have hrow : w8.ownsRow w0.heap.size 3 1 (.slice la n2 lc) (zs ac).length ((zs ac).map (Value.int .i64)) := hOj.out.lst
          have HN2 : Hid ((zs ac).length = n2) := Lib.hid (own_some hrow).1.symm
          have hal : Below w8.heap.size w8 (w8.alloc (.cells #[.int .i64 u, .int .i64 (v : Int)] 87)) := (Below.refl _ w8).alloc (Nat.le_refl _) _
          have hWe := Whole.new w8 87 #[.int .i64 u, .int .i64 (v : Int)]
          have hOe := hOj.out.up hal
          have t3 := hOe.mar.cellAt v (by omega)
          rw [marksL_at _ hvk] at t3
          have t4 := hOe.mar.frozenAt v
          have t1 := hWe.cell 1
          simp only [List.getElem?_toArray, List.getElem?_cons_succ, List.getElem?_cons_zero] at t1
          have HOe := Lib.hid hOe
          have hv0 : (0 : Int) ≤ (v : Int) := by omega
          have hv1 : (v : Int) < (k : Int) := by omega
          by_cases hin : v ∈ ac
          · rw [decide_eq_true hin] at t3
            have HOn : Hid (OrAt w0 (w8.alloc (.cells #[.int .i64 u, .int .i64 (v : Int)] 87)) M k (.slice la n2 lc) (ordE l ((stAt m.states x).take (j + 1)))) := Lib.hid (by
              rw [HNj.out]
              unfold cAdd
              rw [if_pos hin]
              exact HOe.out)
            clear hin hrow hal hWe hOe hef hvv hjl
            go_wp2
            go_roundw
            case rel => exact ⟨j + 1, _, _, _, by go_num, by omega, rfl, hn2, hn5, HOn⟩
            case measure => simp [intOf]; omega
          · rw [decide_eq_false hin] at t3
            have HIn := Lib.hid hin
            have hac5 : n2 + 1 ≤ 5000 := by
              have h7 := HOk2.out.len
              rw [HNj.out] at h7
              unfold cAdd at h7
              rw [if_neg hin, List.length_append, List.length_singleton] at h7
              have h8 := HN2.out
              rw [zs_len] at h8
              have := HKl.out
              omega
            have hWs : Whole ((w8.alloc (.cells #[.int .i64 u, .int .i64 (v : Int)] 87)).setCell ⟨M, v, none⟩ (.bool true)) w8.heap.size 87 #[.int .i64 u, .int .i64 (v : Int)] := hWe.grown (grown_self _ ⟨M, v, none⟩ (.bool true)) (own_whole hOe.mar hWe (by decide))
            have s1 := hWs.cell 1
            simp only [List.getElem?_toArray, List.getElem?_cons_succ, List.getElem?_cons_zero] at s1
            obtain ⟨w9, Hw9⟩ : ∃ z, Hid ((w8.alloc (.cells #[.int .i64 u, .int .i64 (v : Int)] 87)).setCell ⟨M, v, none⟩ (.bool true) = z) := ⟨_, Lib.hid rfl⟩
            have hrow9 : w9.ownsRow w0.heap.size 3 1 (.slice la n2 lc) (zs ac).length ((zs ac).map (Value.int .i64)) := by
              rw [← Hw9.out]
              exact World.ownsRow.kept hOe.lst (grown_self _ ⟨M, v, none⟩ (.bool true)) (own_apart hOe.lst hOe.mar (by decide))
            rw [HN2.out] at hrow9
            have HR9 := Lib.hid (hrow9.alloc (.cells #[.int .i64 (v : Int)] 3))
            have hz9 : w0.heap.size ≤ w9.heap.size := by
              have h7 := hOe.below.size
              rw [← Hw9.out]
              simpa using h7
            clear hin hrow hal hWe hOe hef hvv hjl hWs hrow9
            go_upto_region 12 with (fail)
            rw [Hw9.out]
            rw [Hw9.out] at s1
            clear t1 t3 t4 d1 d2
            go_wp2_with (at_builtin; (refine wpList_append_sz rfl (.tmp 48) (.tmp 51) 28 rfl w0.heap.size 3 i1 (.int .i64 0) 1 8 Tryz.underlying28 hi1 hz10 hz11 hz12 rfl (by decide) (.slice la n2 lc) rfl n2 ((zs ac).map (Value.int .i64)) HR9.out (some ⟨w9.heap.size, 0, none⟩) 1 1 rfl [.int .i64 (v : Int)] (fun h => by cases h) rfl (one_src _ _ _) (by simp [Value.oneCell']) (by unfold maxLen; omega) (by omega) (by simp; omega) ?_); intro v2 w2 hv2 hg2 hat2; refine Hid.out ?_)
            refine Lib.hid ?_
            obtain ⟨va, vc, rfl⟩ := own_slice' hv2
            have HOn : Hid (OrAt w0 w2 M k (.slice va (n2 + 1) vc) (ordE l ((stAt m.states x).take (j + 1)))) := Lib.hid (by
              rw [HNj.out]
              refine HOe.out.next hvk HIn.out (X := w9) (o := .cells #[.int .i64 (v : Int)] 3) (by rw [Hw9.out]; exact Below.refl _ _) hg2 ?_
              rw [HN2.out]
              exact hv2)
            clear hv2 hg2 hat2 s1 hz9
            go_wp2
            go_roundw
            case rel => exact ⟨j + 1, _, _, _, by go_num, by omega, rfl, by omega, hac5, HOn⟩
            case measure => simp [intOf]; omega
        · have hjn : ni = j := by omega
          subst hjn
          have HOn : Hid (OrAt w0 w8 M k (.slice la n2 lc) (ordQ m st (i + 1))) := Lib.hid (by
            have h7 := hOj.out
            rw [List.take_of_length_le (by rw [HEl.out]; exact Nat.le_refl _)] at h7
            rw [HNx.out]
            exact h7)
          go_wp2
          go_roundw
          case rel => exact ⟨i + 1, _, _, _, by go_num, rfl, by omega, hn5, HSn, HOn⟩
          case measure => simp [intOf]; omega
    · have HIs : Hid (OrdIs m st l) := Lib.hid ⟨i, hSt.out, by rw [HLq.out, HLl.out]; omega, HLq.out.symm⟩
      have HR : Hid (NumO w3 w.heap.size (.slice la ln lc) (zs l)) := Lib.hid (own_low hO.out.lst HB0.out.size)
      have HB := Lib.hid (HB0.out.trans (hO.out.below.mono HB0.out.size))
      clear hrow hls
      go_wp2
      go_ret
      exact ⟨_, l, rfl, HIs.out, HR.out, HB.out⟩
end Go.Proofs.YtgnbkepdbdgkdaaGreatDoor
