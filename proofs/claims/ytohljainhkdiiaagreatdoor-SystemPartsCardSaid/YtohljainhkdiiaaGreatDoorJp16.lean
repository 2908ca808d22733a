/- Texts joined: RNext, PSame, SCopy. -/
import Derived.Test.YtohljainhkdiiaaGreatDoorJp08
import Derived.Test.YtohljainhkdiiaaGreatDoorJp15
import Derived.Test.YtohljainhkdiiaaGreatDoorJp04
import Derived.Test.YtohljainhkdiiaaGreatDoorJp06
import Derived.Test.YtohljainhkdiiaaGreatDoorJp14
/- The reference's Next and After: the states after a word. -/
namespace Go.Proofs.YtohljainhkdiiaaGreatDoor
open Go.RowKit Pl

def zs (l : List Nat) : List Int := l.map fun (x : Nat) => (x : Int)
theorem zs_length (l : List Nat) : (zs l).length = l.length := by simp [zs]
theorem zs_app (l l' : List Nat) : zs (l ++ l') = zs l ++ zs l' := by simp [zs]
theorem zs_at {l : List Nat} {j : Nat} (h : j < l.length) : (zs l).getD j 0 = ((l.getD j 0 : Nat) : Int) := by
  unfold zs
  rw [List.getD_eq_getElem?_getD, List.getElem?_map, List.getElem?_eq_getElem h, List.getD_eq_getElem?_getD, List.getElem?_eq_getElem h]
  rfl
/-- a row of numbers of the call's own -/
def NumOwn (w : World) (base : Nat) (v : Value) (l : List Nat) : Prop := w.ownsRow base 3 1 v l.length ((zs l).map (Value.int .i64))
theorem NumOwn.up {w w' : World} {base : Nat} {v : Value} {l : List Nat} (h : NumOwn w base v l) (hb : Below w.heap.size w w') : NumOwn w' base v l := h.kept (below_grown' hb) (by cases v.ownBlock <;> simp)
theorem NumOwn.low {w : World} {base base' : Nat} {v : Value} {l : List Nat} (h : NumOwn w base v l) (hb : base' ≤ base) : NumOwn w base' v l := own_low h hb
theorem NumOwn.arg {w : World} {base : Nat} {v : Value} {l : List Nat} (h : NumOwn w base v l) (hl : l.length ≤ 140737488355328) : ∃ a c, v = .slice a l.length c ∧ IntArg w a l.length c (zs l) := by
  rcases h.2 with ⟨rfl, h0⟩ | ⟨g, cap, cur, rfl, hg, hh, hc, hm, hz, ht⟩
  · rw [h0]
    exact ⟨none, 0, rfl, ⟨fun _ => rfl, by rw [zs_length, h0], Nat.le_refl _, by omega, fun j hj => by rw [zs_length, h0] at hj; omega⟩⟩
  · refine ⟨some ⟨g, 0, none⟩, cap, rfl, ⟨(fun h => by cases h), (zs_length l).symm, hc, by omega, fun j hj => ⟨g, 0, rfl, ?_⟩⟩⟩
    rw [Nat.zero_add, World.ownsRow.cellAt h j (by rw [zs_length] at hj; omega), List.getElem?_map, List.getD_eq_getElem?_getD, List.getElem?_eq_getElem hj]
    rfl
theorem infoNum : (Tryz.prog.info? 3).map (fun i => (i.zero, i.size, i.bytes)) = some (some (.int .i64 0), 1, 8) := by kernel_rfl
theorem infoBit : (Tryz.prog.info? 4).map (fun i => (i.zero, i.size, i.bytes)) = some (some (.bool false), 1, 1) := by kernel_rfl
theorem made_bits (k : Nat) : (madeCells (Value.bool false).cells (k * 1)).toList = boolsP k (fun _ => false) := by
  refine List.ext_getElem (by simp [madeCells, boolsP]) fun i h1 h2 => ?_
  simp [madeCells, Value.cells, boolsP, Nat.mod_one]

theorem own_ne {W : World} {base g : Nat} {e : TypeId} {size n : Nat} {v : Value} {xs : List Value} (h : W.ownsRow base e size v n xs) (hg : g < base) : some g ≠ v.ownBlock := fun e => by
  have := own_ge h g e.symm
  omega
theorem filt_yes {P : Nat → Bool} {j : Nat} (h : P j = true) : (List.range (j + 1)).filter P = (List.range j).filter P ++ [j] := by
  rw [List.range_succ, List.filter_append]
  simp [h]
theorem filt_no {P : Nat → Bool} {j : Nat} (h : P j = false) : (List.range (j + 1)).filter P = (List.range j).filter P := by
  rw [List.range_succ, List.filter_append]
  simp [h]
theorem num_src (W : World) (x : Int) (t : TypeId) : SrcAt (W.alloc (.cells #[.int .i64 x] t)) (some ⟨W.heap.size, 0, none⟩) [.int .i64 x] := one_src W _ t

set_option maxRecDepth 100000 in
set_option maxHeartbeats 8000000 in
theorem RNext_any {w : World} {a : Option Addr} {n c : Nat} {b : Option Addr} {k d : Nat} {m : Syst} {la : Option Addr} {ln lc : Nat} {l : List Nat} (A : SysArg w a n c b k d m) (hv : sysB m = true) (L : IntArg w la ln lc (zs l)) (hl : ∀ x ∈ l, x < m.states.length) (act : Int) :
    Calls Tryz.prog 58 #[.agg #[.slice a n c, .slice b k d], .slice la ln lc, .int .i64 act] w fun e w' => ∃ v, e = .returned v ∧ NumOwn w' w.heap.size v (nextL m.states l act) ∧ Below w.heap.size w w' := by
  obtain ⟨iN, hiN, hN0, hN1, hN2⟩ := info_parts infoNum
  obtain ⟨iB, hiB, hB0, hB1, hB2⟩ := info_parts infoBit
  have HA := Lib.hid A
  have HL := Lib.hid L
  have HV := Lib.hid hv
  have HIn := Lib.hid hl
  have HLL : Hid (ln = l.length) := Lib.hid (by have := L.len; rwa [zs_length] at this)
  have hk5 : k ≤ 5000 := by have := ((sysB_iff m).1 hv).2.2.1; have := A.len; omega
  have hln : ln ≤ 9223372036854775807 := L.big
  have HK := Lib.hid A.len
  have hb0 := (Below.refl w.heap.size w).alloc (Nat.le_refl _) (.cells #[.slice a n c, .slice b k d] 25)
  have hw0 := Whole.new w 25 #[.slice a n c, .slice b k d]
  have HB0 := Lib.hid hb0
  have HW0 := Lib.hid hw0
  clear A L hv hl hb0 hw0
  go_enter Tryz.func58, Tryz.ntmps58
  go_wp2_with (at_make; refine wpList_make_full _ rfl _ _ 95 rfl (w.heap.size + 1) 4 iB (.bool false) 1 Tryz.underlying95 hiB hB0 hB1 .i64 .i64 k k k rfl rfl rfl rfl (by rw [hB2]; omega) (by unfold maxLen; omega) (by simp) ?_; intro w1 hrow hg1; refine Hid.out ?_)
  refine Lib.hid ?_
  rw [made_bits] at hrow
  have hb1 : Below (w.heap.size + 1) (w.alloc (.cells #[.slice a n c, .slice b k d] 25)) w1 := (Below.refl _ _).grown hg1 (by simp) (fun k hk => by cases hk)
  simp only [World.size_alloc] at hrow
  have HB1 := Lib.hid hb1
  have HRow : Hid (w1.ownsRow (w.heap.size + 1) 4 1 (.slice (some ⟨w.heap.size + 1, 0, none⟩) k k) k (boolsP k (hitP m.states (l.take 0) act))) := Lib.hid (by
    rw [boolsP_congr (Q := fun _ => false) (fun y _ => by simp [hitP])]
    exact hrow)
  clear hrow hg1 hb1
  go_wp2
  go_loopw [9, 11, 21, 31] (fun _ _ i _ wr => ∃ j : Nat, j ≤ ln ∧ i = .int .i64 j ∧ wr.ownsRow (w.heap.size + 1) 4 1 (.slice (some ⟨w.heap.size + 1, 0, none⟩) k k) k (boolsP k (hitP m.states (l.take j) act)) ∧ Below (w.heap.size + 1) (w.alloc (.cells #[.slice a n c, .slice b k d] 25)) wr) (fun _ _ i _ _ => ln - (intOf i).toNat)
  case atStart => exact ⟨0, Nat.zero_le _, rfl, HRow.out, HB1.out⟩
  case round =>
    obtain ⟨v0, hv0⟩ : ∃ z, z = wr := ⟨_, rfl⟩
    subst hv0
    obtain ⟨j, hj, rfl, hown, hb⟩ := hrel
    have HOwn := Lib.hid hown
    have HB := Lib.hid hb
    have HBw := Lib.hid (HB0.out.trans (hb.mono (by omega)))
    have q1 := (HW0.out.below hb (by omega)).cell 1
    simp only [List.getElem?_toArray, List.getElem?_cons_succ, List.getElem?_cons_zero] at q1
    clear hown hb
    by_cases hlt : j < ln
    · obtain ⟨bl, ol, rfl, c1⟩ := (HL.out.below HBw.out).cells j (by rw [zs_length]; have := HLL.out; omega)
      rw [zs_at (by have := HLL.out; omega)] at c1
      obtain ⟨x, HX⟩ : ∃ x, Hid (l.getD j 0 = x) := ⟨_, Lib.hid rfl⟩
      rw [HX.out] at c1
      have hx : x < m.states.length := by
        rw [← HX.out, List.getD_eq_getElem?_getD, List.getElem?_eq_getElem (by have := HLL.out; omega)]
        exact HIn.out _ (List.getElem_mem _)
      have HXl := Lib.hid hx
      obtain ⟨bb, off, rfl, ai, ni, ci, c0, hE⟩ := HA.out.rows x hx
      have c2 := (HBw.out.cell (lt_of_cell c0)).trans c0
      have HE := Lib.hid hE
      have hni : ni ≤ 140737488355328 := by have := hE.cap; have := hE.big; omega
      have hx0 : (0 : Int) ≤ (x : Int) := by omega
      have hx1 : (x : Int) < (k : Int) := by have := HK.out; omega
      clear hE hx c0
      go_wp2
      go_loopw [11, 31] (fun _ i wr => ∃ t : Nat, t ≤ ni ∧ i = .int .i64 t ∧ wr.ownsRow (w.heap.size + 1) 4 1 (.slice (some ⟨w.heap.size + 1, 0, none⟩) k k) k (boolsP k (fun y => hitP m.states (l.take j) act y || leads ((stAt m.states x).take t) act y)) ∧ Below (w.heap.size + 1) (w.alloc (.cells #[.slice a n c, .slice (some ⟨bb, off, none⟩) k d] 25)) wr) (fun _ i _ => ni - (intOf i).toNat)
      case atStart => exact ⟨0, Nat.zero_le _, rfl, by rw [boolsP_congr (Q := hitP m.states (l.take j) act) (fun y _ => by simp [leads])]; exact HOwn.out, HB.out⟩
      case round =>
        obtain ⟨t, ht, rfl, hown2, hb2⟩ := hrel
        have HOwn2 := Lib.hid hown2
        have HB2 := Lib.hid hb2
        have HBw2 := Lib.hid (HB0.out.trans (hb2.mono (by omega)))
        clear hown2 hb2
        by_cases hlt2 : t < ni
        · have htl : t < (stAt m.states x).length := by have := HE.out.len; omega
          obtain ⟨be, oe, rfl, d1, d2⟩ := (HE.out.cells.below HBw2.out) t htl
          have hok : okE m.acts.length m.states.length (edAt (stAt m.states x) t) = true := edge_in (((sysB_iff m).1 HV.out).2.2.2.1 x HXl.out) (by unfold edAt; rw [List.getD_eq_getElem?_getD, List.getElem?_eq_getElem htl]; exact List.getElem_mem htl)
          have hok2 := (okE_iff _ _ _).1 hok
          obtain ⟨y, hy⟩ := Int.eq_ofNat_of_zero_le hok2.2.2.1
          obtain ⟨u, HU⟩ : ∃ u, Hid ((edAt (stAt m.states x) t).1 = u) := ⟨_, Lib.hid rfl⟩
          have hyk : y < k := by have := HK.out; omega
          have HY : Hid ((edAt (stAt m.states x) t).2 = (y : Int)) := Lib.hid hy
          have hy0 : (0 : Int) ≤ (y : Int) := by omega
          have hy1 : (y : Int) < (k : Int) := by omega
          rw [HU.out] at d1
          rw [hy] at d2
          have HLt : Hid (∀ z, leads ((stAt m.states x).take (t + 1)) act z = (leads ((stAt m.states x).take t) act z || (decide (u = act) && decide ((y : Int) = (z : Int))))) := Lib.hid fun z => by
            rw [leads_take htl, show (stAt m.states x).getD t (0, 0) = edAt (stAt m.states x) t from rfl, HU.out, HY.out]
          clear hok hok2 hy htl
          by_cases he : u = act
          · have hq : (u == act) = true := by rw [beq_iff_eq]; exact he
            have HS : Hid (((wr.alloc (.cells #[.int .i64 u, .int .i64 y] 71)).setCell ⟨w.heap.size + 1, y, none⟩ (.bool true)).ownsRow (w.heap.size + 1) 4 1 (.slice (some ⟨w.heap.size + 1, 0, none⟩) k k) k (boolsP k (fun z => hitP m.states (l.take j) act z || leads ((stAt m.states x).take (t + 1)) act z))) := Lib.hid (by
              have h1 := (World.ownsRow.stored (HOwn2.out.alloc (.cells #[.int .i64 u, .int .i64 y] 71)) y (.bool true)).1
              rw [boolsP_set _ hyk] at h1
              rw [← boolsP_congr (fun z _ => ?_)]
              · exact h1
              · rw [HLt.out, decide_eq_true he, Bool.true_and, Bool.or_assoc]
                congr 1
                congr 1
                rw [decide_eq_decide]
                omega)
            have k1 := World.ownsRow.cellAt (HOwn2.out.alloc (.cells #[.int .i64 u, .int .i64 y] 71)) y (by omega)
            rw [boolsP_at _ hyk] at k1
            have k2 := World.ownsRow.frozenAt (HOwn2.out.alloc (.cells #[.int .i64 u, .int .i64 y] 71)) y
            have HB3 := Lib.hid ((HB2.out.alloc (Nat.le_trans (by simp) HB2.out.size) (.cells #[.int .i64 u, .int .i64 y] 71)).setCell (p := ⟨w.heap.size + 1, y, none⟩) (Nat.le_refl _) (.bool true))
            clear he
            go_wp2
            go_roundw
            case rel => exact ⟨t + 1, by omega, by go_num, HS.out, HB3.out⟩
            case measure => simp [intOf]; omega
          · have hq : (u == act) = false := by rw [beq_eq_false_iff_ne]; exact he
            have HS : Hid ((wr.alloc (.cells #[.int .i64 u, .int .i64 y] 71)).ownsRow (w.heap.size + 1) 4 1 (.slice (some ⟨w.heap.size + 1, 0, none⟩) k k) k (boolsP k (fun z => hitP m.states (l.take j) act z || leads ((stAt m.states x).take (t + 1)) act z))) := Lib.hid (by
              rw [← boolsP_congr (fun z _ => ?_)]
              · exact HOwn2.out.alloc _
              · rw [HLt.out, decide_eq_false he, Bool.false_and, Bool.or_false])
            have HB3 := Lib.hid (HB2.out.alloc (Nat.le_trans (by simp) HB2.out.size) (.cells #[.int .i64 u, .int .i64 y] 71))
            clear he
            go_wp2
            go_roundw
            case rel => exact ⟨t + 1, by omega, by go_num, HS.out, HB3.out⟩
            case measure => simp [intOf]; omega
        · have HQ : Hid (∀ y, y < k → (hitP m.states (l.take j) act y || leads ((stAt m.states x).take t) act y) = hitP m.states (l.take (j + 1)) act y) := Lib.hid fun y _ => by
            rw [hitP_take (by have := HLL.out; omega), HX.out, show (stAt m.states x).take t = stAt m.states x from List.take_of_length_le (by have := HE.out.len; omega)]
          go_wp2
          go_roundw
          case rel => exact ⟨j + 1, by omega, by go_num, by rw [← boolsP_congr HQ.out]; exact HOwn2.out, HB2.out⟩
          case measure => simp [intOf]; omega
    · have HQ : Hid (hitP m.states (l.take j) act = hitP m.states l act) := Lib.hid (by rw [List.take_of_length_le (by have := HLL.out; omega)])
      rw [HQ.out] at HOwn
      obtain ⟨P, HP⟩ : ∃ P, Hid (hitP m.states l act = P) := ⟨_, Lib.hid rfl⟩
      rw [HP.out] at HOwn
      have HN : Hid (nextL m.states l act = (List.range k).filter P) := Lib.hid (by unfold nextL; rw [HP.out, ← HK.out])
      have hg1 : w.heap.size + 1 < v0.heap.size := (HOwn.out.lt _ rfl).2
      clear HQ
      go_wp2
      go_loopw [12, 13, 14, 47] (fun v _ _ i wr => ∃ x : Nat, x ≤ k ∧ i = .int .i64 x ∧ NumOwn wr (w.heap.size + 2) v ((List.range x).filter P) ∧ wr.ownsRow (w.heap.size + 1) 4 1 (.slice (some ⟨w.heap.size + 1, 0, none⟩) k k) k (boolsP k P) ∧ Below (w.heap.size + 1) (w.alloc (.cells #[.slice a n c, .slice b k d] 25)) wr) (fun _ _ _ i _ => k - (intOf i).toNat)
      case atStart => exact ⟨0, Nat.zero_le _, rfl, World.ownsRow_nil _ _ _ _, HOwn.out, HB.out⟩
      case round =>
        obtain ⟨x, hx, rfl, hv, hown2, hb2⟩ := hrel
        have HVo := Lib.hid hv
        have HOwn2 := Lib.hid hown2
        have HB2 := Lib.hid hb2
        have hg2 : w.heap.size + 1 < wr.heap.size := (hown2.lt _ rfl).2
        have hfl : ((List.range x).filter P).length ≤ x := by
          have := List.length_filter_le P (List.range x)
          rwa [List.length_range] at this
        clear hown2 hb2
        by_cases hlt2 : x < k
        · have k1 := World.ownsRow.cellAt HOwn2.out x (by omega)
          rw [boolsP_at _ hlt2] at k1
          have hx0 : (0 : Int) ≤ (x : Int) := by omega
          have hx1 : (x : Int) < (k : Int) := by omega
          cases hp : P x
          · have HF := Lib.hid (filt_no hp)
            rw [hp] at k1
            clear hv
            go_wp2
            go_roundw
            case rel => exact ⟨x + 1, by omega, by go_num, by rw [HF.out]; exact HVo.out, HOwn2.out, HB2.out⟩
            case measure => simp [intOf]; omega
          · have HF := Lib.hid (filt_yes hp)
            rw [hp] at k1
            obtain ⟨va, vc, rfl⟩ := own_slice' hv
            have HOW : Hid ((wr.alloc (.cells #[.int .i64 x] 3)).ownsRow (w.heap.size + 2) 3 1 (.slice va ((List.range x).filter P).length vc) ((List.range x).filter P).length ((zs ((List.range x).filter P)).map (Value.int .i64))) := Lib.hid (World.ownsRow.alloc hv _)
            clear hv hp
            go_wp2_with (at_builtin; (refine wpList_append_sz rfl (.tmp 53) (.tmp 55) 28 rfl (w.heap.size + 2) 3 iN (.int .i64 0) 1 8 Tryz.underlying28 hiN hN0 hN1 hN2 rfl (by decide) (.slice va ((List.range x).filter P).length vc) rfl ((List.range x).filter P).length ((zs ((List.range x).filter P)).map (Value.int .i64)) HOW.out (some ⟨wr.heap.size, 0, none⟩) 1 1 rfl [.int .i64 x] (fun h => by cases h) rfl (num_src _ _ _) (by simp [Value.oneCell']) (by unfold maxLen; omega) (by omega) (by simp; omega) ?_); intro v2 wB hB hgB hatB; refine Hid.out ?_)
            refine Lib.hid ?_
            have HNx : Hid (NumOwn wB (w.heap.size + 2) v2 ((List.range (x + 1)).filter P)) := Lib.hid (by
              rw [HF.out]
              unfold NumOwn
              rw [List.length_append, zs_app, List.map_append]
              exact hB)
            have HOn : Hid (wB.ownsRow (w.heap.size + 1) 4 1 (.slice (some ⟨w.heap.size + 1, 0, none⟩) k k) k (boolsP k P)) := Lib.hid ((HOwn2.out.alloc _).kept hgB (.inr (own_ne (g := w.heap.size + 1) HOW.out (by omega))))
            have HBn := Lib.hid ((HB2.out.alloc (Nat.le_trans (by simp) HB2.out.size) (.cells #[.int .i64 x] 3)).grown hgB (by simp; omega) (fun k hk => by have := own_ge HOW.out k hk; omega))
            clear hB hgB hatB
            go_wp2
            go_roundw
            case rel => exact ⟨x + 1, by omega, by go_num, HNx.out, HOn.out, HBn.out⟩
            case measure => simp [intOf]; omega
        · have HF : Hid ((List.range x).filter P = nextL m.states l act) := Lib.hid (by rw [HN.out, show x = k from by omega])
          obtain ⟨va, vc, rfl⟩ := own_slice' hv
          clear hv
          go_wp2
          go_ret
          exact ⟨_, rfl, by rw [← HF.out]; exact HVo.out.low (by omega), HB0.out.trans (HB2.out.mono (by omega))⟩

end Go.Proofs.YtohljainhkdiiaaGreatDoor
/- spec.Same, and what it calls. -/
namespace Go.Proofs.YtohljainhkdiiaaGreatDoor
open Go.RowKit Pl

theorem ints_ext {xs ys : List Int} (h : xs.length = ys.length) (h' : ∀ j, j < xs.length → xs.getD j 0 = ys.getD j 0) : xs = ys := by
  refine List.ext_getElem h fun j hj hj' => ?_
  have := h' j hj
  simpa [List.getD, List.getElem?_eq_getElem hj, List.getElem?_eq_getElem hj'] using this
theorem stes_ext {l m : List Ste} (h : l.length = m.length) (h' : ∀ k, k < l.length → teAt l k = teAt m k) : l = m := by
  refine List.ext_getElem h fun k hk hk' => ?_
  have := h' k hk
  unfold teAt at this
  rwa [List.getD_eq_getElem?_getD, List.getD_eq_getElem?_getD, List.getElem?_eq_getElem hk, List.getElem?_eq_getElem hk', Option.getD_some, Option.getD_some] at this
def sameP (s t : Spc) : Bool := decide (s.acts = t.acts) && decide (s.states = t.states)
theorem sameP_iff (s t : Spc) : sameP s t = true ↔ s = t := by
  cases s; cases t; simp [sameP]

end Go.Proofs.YtohljainhkdiiaaGreatDoor
/- The reference's Copy of specifications: the same specification in new memory. -/
namespace Go.Proofs.YtohljainhkdiiaaGreatDoor
open Go.RowKit Pl

theorem infoNumS : (Tryz.prog.info? 3).map (fun i => (i.zero, i.size, i.bytes)) = some (some (.int .i64 0), 1, 8) := by kernel_rfl
theorem ste_le (ss : List Ste) (i : Nat) (h : i < ss.length) : (teAt ss i).1.length + (teAt ss i).2.length ≤ totalS ss := by
  have h1 := totalS_take ss i h
  have h2 := totalS_take_le ss (i + 1)
  omega
/-- where Copy stands behind j states -/
structure SCopyAt (w : World) (B3 : Nat) (box : Array Value) (va : Value) (m : Spc) (j : Nat) (vs : Value) (wr : World) : Prop where
  box : Whole wr w.heap.size 40 box
  res : Whole wr (w.heap.size + 1) 40 #[.slice none 0 0, .slice none 0 0]
  out : Whole wr B3 40 #[va, vs]
  rows : StesOwn wr w.heap.size vs (m.states.take j)
  acts : wr.ownsRow w.heap.size 9 1 va m.acts.length (m.acts.map Value.string)
  lo : w.heap.size + 1 < B3
  below : Below w.heap.size w wr
/-- one state more -/
theorem SCopyAt.next {w wr wA wB : World} {B3 : Nat} {box : Array Value} {va vs p q v2 : Value} {m : Spc} {j : Nat} {t : TypeId} (h : SCopyAt w B3 box va m j vs wr) (hj : j < m.states.length)
    (hP : NumO wA w.heap.size p (teAt m.states j).1) (hQ : NumO wA w.heap.size q (teAt m.states j).2) (bA : Below wr.heap.size wr wA) (hgB : (wA.alloc (.cells #[p, q] t)).grownBy wB vs.ownBlock)
    (hB : ∀ rows, (wA.alloc (.cells #[p, q] t)).ownsRow w.heap.size 87 2 vs j (rcells rows) → rows.length = j → wB.ownsRow w.heap.size 87 2 v2 (j + 1) (rcells rows ++ [p, q])) :
    SCopyAt w B3 box va m (j + 1) v2 (wB.setCell ⟨B3, 1, none⟩ v2) := by
  have hl : (m.states.take j).length = j := by rw [List.length_take]; omega
  have bA' := bA.trans (((Below.refl _ wA).alloc (Nat.le_refl _) (.cells #[p, q] t)).mono bA.size)
  have rA := h.rows.below bA'
  have oA := own_up (own_up h.acts (below_grown bA)) (below_grown ((Below.refl _ wA).alloc (Nat.le_refl _) (.cells #[p, q] t)))
  obtain ⟨rows, r1, r2, r3⟩ := rA
  have lo := h.lo
  have z := h.out.lt
  have n1 : ∀ g cs, Whole wr g 40 cs → Whole wB g 40 cs := fun g cs hw => by
    have h1 := hw.below bA' hw.lt
    exact h1.grown hgB (own_whole r2 h1 (by decide))
  have hs := StesOwn.snoc (w := wA.alloc (.cells #[p, q] t)) (w' := wB) (v' := v2) (t := teAt m.states j) ⟨rows, r1, r2, r3⟩ (hP.alloc _) (hQ.alloc _) hgB (fun rows' h1 h2 => by
    rw [hl] at h1 h2 ⊢
    exact hB rows' h1 h2)
  have et : m.states.take (j + 1) = m.states.take j ++ [teAt m.states j] := take_next m.states j ([], []) hj
  have hw := n1 _ _ h.out
  have hg2 := grown_self wB ⟨B3, 1, none⟩ v2
  refine ⟨(n1 _ _ h.box).far (by simp; omega) _, (n1 _ _ h.res).far (by simp; omega) _, by simpa using hw.set 1 v2, ?_, ?_, lo, ?_⟩
  · rw [et]
    exact hs.kept hg2 (.inr (own_whole hs.choose_spec.2.1 hw (by decide)).symm) (fun r l hr => .inr (own_whole hr hw (by decide)).symm)
  · exact own_stored (oA.kept hgB (own_apart oA r2 (by decide))) hw (by decide)
  · exact ((h.below.trans (bA'.mono h.below.size)).grown hgB (Nat.le_trans h.below.size bA'.size) (own_ge r2)).setCell (by simp; omega) _
theorem SCopyAt.drew {w wr : World} {B3 : Nat} {box : Array Value} {va vs : Value} {m : Spc} {j : Nat} (h : SCopyAt w B3 box va m j vs wr) : SCopyAt w B3 box va m j vs wr.drew :=
  ⟨h.box, h.res, h.out, h.rows, h.acts, h.lo, h.below.drew⟩

set_option maxRecDepth 100000 in
set_option maxHeartbeats 4000000 in
theorem SCopy_any {w : World} {a : Option Addr} {n c : Nat} {b : Option Addr} {k d : Nat} {m : Spc} (A : SpecArg w a n c b k d m) (hq : m.acts.length + m.states.length + totalS m.states ≤ 1000000) :
    Calls Tryz.prog 19 #[.agg #[.slice a n c, .slice b k d]] w fun e w' => ∃ va vs, e = .returned (.agg #[va, vs]) ∧ SpcOwn w' w.heap.size va vs m ∧ Below w.heap.size w w' := by
  obtain ⟨i0, hi, hz0, hz1, hz2⟩ := info_parts infoString
  obtain ⟨i1, hi1, hz10, hz11, hz12⟩ := info_parts infoNumS
  obtain ⟨i2, hi2, hz20, hz21, hz22⟩ := info_parts infoState
  have HA := Lib.hid A
  have h1 : n ≤ 1000000 := by have := A.acts.len; omega
  have h2 : k ≤ 1000000 := by have := A.len; omega
  have HQ := Lib.hid hq
  have hB := ((Below.refl w.heap.size w).alloc (Nat.le_refl _) (.cells #[.slice a n c, .slice b k d] 40)).alloc (by simp) (.cells #[.slice none 0 0, .slice none 0 0] 40)
  have HS := Lib.hid (strs_src (A.acts.below hB))
  have HN := Lib.hid A.acts.nils
  have HL : Hid ((m.acts.map Value.string).length = n * 1) := Lib.hid (by have := A.acts.len; simp; omega)
  have HBB := Lib.hid hB
  have HW1 := Lib.hid ((Whole.new w 40 #[.slice a n c, .slice b k d]).alloc (.cells #[.slice none 0 0, .slice none 0 0] 40))
  have HW2 := Lib.hid (Whole.new (w.alloc (.cells #[.slice a n c, .slice b k d] 40)) 40 #[.slice none 0 0, .slice none 0 0])
  clear A hB hq
  go_enter Tryz.func19, Tryz.ntmps19
  go_wp2_with (at_builtin; (refine wpList_append_sz rfl (.const (.slice none 0 0)) (.tmp 7) 22 rfl w.heap.size 9 i0 (.string ⟨#[]⟩) 1 16 Tryz.underlying22 hi hz0 hz1 hz2 rfl (by decide) (.slice none 0 0) rfl 0 [] (World.ownsRow_nil _ _ _ _) a n c rfl (m.acts.map Value.string) HN.out HL.out HS.out (strs_one _) (by unfold maxLen; omega) (by omega) HBB.out.size ?_); intro va w1 hva hg1 hat1; refine Hid.out ?_)
  simp only [Nat.zero_add, List.nil_append] at hva
  obtain ⟨aa, ca, rfl⟩ := own_slice hva
  have hb1 := HBB.out.grown hg1 HBB.out.size (fun k hk => by cases hk)
  have x1 := HW1.out.grown hg1 (fun h => by cases h)
  have x2 := HW2.out.grown hg1 (fun h => by cases h)
  have y1 := x1.cell 1
  simp only [World.size_alloc, List.getElem?_toArray, List.getElem?_cons_succ, List.getElem?_cons_zero] at y1 x2
  have HC : Hid (SCopyAt w w1.heap.size #[.slice a n c, .slice b k d] (.slice aa n ca) m 0 (.slice none 0 0) (w1.alloc (.cells #[.slice aa n ca, .slice none 0 0] 40))) :=
    Lib.hid ⟨x1.alloc _, x2.alloc _, Whole.new _ _ _, StesOwn.none _ _, by have := HA.out.acts.len; rw [← this]; exact hva.alloc _, x2.lt, hb1.alloc hb1.size _⟩
  have y2 := cell_new y1
  clear hva hb1 hg1 hat1 x1 x2 y1
  refine Lib.hid ?_
  go_wp2
  go_loopw [5, 13] (fun _ i wr => ∃ j vs, j ≤ k ∧ i = .int .i64 (j : Nat) ∧ SCopyAt w w1.heap.size #[.slice a n c, .slice b k d] (.slice aa n ca) m j vs wr) (fun _ i _ => k - (intOf i).toNat)
  case atStart => exact ⟨0, _, Nat.zero_le _, rfl, HC.out⟩
  case round =>
    obtain ⟨j, vs, hj, rfl, hC⟩ := hrel
    have HC := Lib.hid hC
    obtain ⟨rows, r1, r2, r3⟩ := hC.rows
    have hl : (m.states.take j).length = j := by rw [List.length_take]; have := HA.out.len; omega
    rw [hl] at r1 r2
    obtain ⟨bb, cc, rfl⟩ := own_slice r2
    have z1 := hC.out.cell 0
    have z2 := hC.out.cell 1
    have z3 := hC.out.frozen 1
    have z4 := hC.out.lt
    have z5 := hC.below.size
    have z6 := hC.out
    have HNE := Lib.hid (own_whole r2 hC.out (by decide))
    simp only [List.getElem?_toArray, List.getElem?_cons_succ, List.getElem?_cons_zero] at z1 z2
    clear hC hl
    by_cases hlt : j < k
    · obtain ⟨bx, off, rfl, a1, n1, c1, a2, n2, c2, c3, c4, hN1, hN2⟩ := (HA.out.rows.below HC.out.below) j (by have := HA.out.len; omega)
      have h3 : n1 + n2 ≤ 1000000 := by
        have := hN1.arg.len; have := hN2.arg.len; have := ste_le m.states j (by have := HA.out.len; omega); have := HQ.out; omega
      have hbl : Below wr.heap.size wr (wr.alloc (.cells #[.slice a1 n1 c1, .slice a2 n2 c2] 87)) := (Below.refl _ wr).alloc (Nat.le_refl _) _
      have NA := Lib.hid (hN1.arg.below hbl)
      have NB := Lib.hid (hN2.arg.below hbl)
      have LA : Hid (((teAt m.states j).1.map (Value.int .i64)).length = n1 * 1) := Lib.hid (by have := hN1.arg.len; simp; omega)
      have LB : Hid (((teAt m.states j).2.map (Value.int .i64)).length = n2 * 1) := Lib.hid (by have := hN2.arg.len; simp; omega)
      have R1 := Lib.hid r1
      have R2 := Lib.hid (r2.alloc (.cells #[.slice a1 n1 c1, .slice a2 n2 c2] 87))
      have zO := Lib.hid (HC.out.out.alloc (.cells #[.slice a1 n1 c1, .slice a2 n2 c2] 87))
      have zX := Lib.hid (Whole.new wr 87 #[.slice a1 n1 c1, .slice a2 n2 c2])
      have hG : Below (wr.alloc (.cells #[.slice a1 n1 c1, .slice a2 n2 c2] 87)).heap.size (wr.alloc (.cells #[.slice a1 n1 c1, .slice a2 n2 c2] 87)) (wr.alloc (.cells #[.slice a1 n1 c1, .slice a2 n2 c2] 87)).drew := (Below.refl _ _).drew
      have hS0 : w.heap.size ≤ (wr.alloc (.cells #[.slice a1 n1 c1, .slice a2 n2 c2] 87)).heap.size := Nat.le_trans HC.out.below.size hbl.size
      have HBl := Lib.hid hbl
      clear r1 r2 r3 hN1 hN2 hbl
      go_wp2
      go_region_law (first
        | (refine step_append_sz rfl (.const (.slice none 0 0)) (.tmp 20) 28 (by rfl) w.heap.size 3 i1 (.int .i64 0) 1 8 Tryz.underlying28 hi1 hz10 hz11 hz12 rfl (by decide) (.slice none 0 0) (by rfl) 0 [] (World.ownsRow_nil _ _ _ _) a1 n1 c1 (by rfl) ((teAt m.states j).1.map (Value.int .i64)) NA.out.nils LA.out (numsrc (NA.out.below hG)) (numone _) (by unfold maxLen; omega) (by omega) (Nat.le_trans hS0 hG.size) ?_; intro v wA hA hg hat; clear hat; simp only [Nat.zero_add, List.nil_append] at hA; obtain ⟨xA, qA, rfl⟩ := own_slice hA; have hG := hG.trans ((below_up hg).mono hG.size); (try (have hB := own_up hB hg)); have kO := zO.out.below hG zO.out.lt; have kX := zX.out.below hG zX.out.lt; have k1 : wA.cell? ⟨w1.heap.size, 1, none⟩ = some (.slice bb j cc) := kO.cell 1; have k2 := kO.frozen 1; have k5 : wA.cell? ⟨wr.heap.size, 0, none⟩ = some (.slice a1 n1 c1) := kX.cell 0; have k6 : wA.cell? ⟨wr.heap.size, 1, none⟩ = some (.slice a2 n2 c2) := kX.cell 1; have k3 := cell_new k1)
        | (refine step_append_sz rfl (.const (.slice none 0 0)) (.tmp 23) 28 (by rfl) w.heap.size 3 i1 (.int .i64 0) 1 8 Tryz.underlying28 hi1 hz10 hz11 hz12 rfl (by decide) (.slice none 0 0) (by rfl) 0 [] (World.ownsRow_nil _ _ _ _) a2 n2 c2 (by rfl) ((teAt m.states j).2.map (Value.int .i64)) NB.out.nils LB.out (numsrc (NB.out.below hG)) (numone _) (by unfold maxLen; omega) (by omega) (Nat.le_trans hS0 hG.size) ?_; intro v wA hB hg hat; clear hat; simp only [Nat.zero_add, List.nil_append] at hB; obtain ⟨xB, qB, rfl⟩ := own_slice hB; have hG := hG.trans ((below_up hg).mono hG.size); (try (have hA := own_up hA hg)); have kO := zO.out.below hG zO.out.lt; have kX := zX.out.below hG zX.out.lt; have k1 : wA.cell? ⟨w1.heap.size, 1, none⟩ = some (.slice bb j cc) := kO.cell 1; have k2 := kO.frozen 1; have k5 : wA.cell? ⟨wr.heap.size, 0, none⟩ = some (.slice a1 n1 c1) := kX.cell 0; have k6 : wA.cell? ⟨wr.heap.size, 1, none⟩ = some (.slice a2 n2 c2) := kX.cell 1; have k3 := cell_new k1)
        | (refine step_append_sz rfl (.tmp 18) (.tmp 26) 38 (by rfl) w.heap.size 87 i2 (.agg #[.slice none 0 0, .slice none 0 0]) 2 48 Tryz.underlying38 hi2 hz20 hz21 hz22 rfl (by decide) (.slice bb j cc) (by rfl) j (rcells rows) ((own_up R2.out (below_grown hG)).alloc _) (some ⟨_, 0, none⟩) 1 1 (by rfl) [.slice xA n1 qA, .slice xB n2 qB] (fun h => by cases h) rfl (pair_src _ _ _ _) (by simp [Value.oneCell']) (by unfold maxLen; omega) (by omega) (Nat.le_trans hS0 (Nat.le_trans hG.size (by simp))) ?_; intro v2 wC hC hgC hatC; clear hatC; obtain ⟨a3, q3, rfl⟩ := own_slice hC; have kW2 := (kO.alloc (.cells #[.slice xA n1 qA, .slice xB n2 qB] 87)).grown (w' := wC) hgC HNE.out; have k7 := kW2.cell 1; have k8 := kW2.frozen 1; simp only [List.getElem?_toArray, List.getElem?_cons_succ, List.getElem?_cons_zero] at k7))
      all_goals
        have HN2 : Hid (SCopyAt w w1.heap.size #[.slice a n c, .slice (some ⟨bx, off, none⟩) k d] (.slice aa n ca) m (j + 1) (.slice a3 (j + 1) q3) (wC.setCell ⟨w1.heap.size, 1, none⟩ (.slice a3 (j + 1) q3))) :=
          Lib.hid (HC.out.next (by have := HA.out.len; omega) (by unfold NumO; rw [← NA.out.len]; exact hA) (by unfold NumO; rw [← NB.out.len]; exact hB) (HBl.out.trans (hG.mono HBl.out.size)) hgC (fun rows' e1 e2 => by
            have e3 := own_eq e1 ((own_up R2.out (below_grown hG)).alloc (.cells #[.slice xA n1 qA, .slice xB n2 qB] 87))
            rw [e3]; exact hC))
        go_wp2
        go_roundw
        case rel => exact ⟨j + 1, _, by omega, by go_num, HN2.out⟩
        case measure => simp [intOf]; omega
    · obtain rfl : j = k := by omega
      have x0 := HC.out.res.cell 0
      have x1 := HC.out.res.cell 1
      have x2 := HC.out.res.frozen 0
      have x3 := HC.out.res.frozen 1
      have x4 := HC.out.res.lt
      have x5 := HC.out.lo
      simp only [List.getElem?_toArray, List.getElem?_cons_succ, List.getElem?_cons_zero] at x0 x1
      have HR : Hid (SpcOwn ((wr.setCell ⟨w.heap.size + 1, 0, none⟩ (.slice aa n ca)).setCell ⟨w.heap.size + 1, 1, none⟩ (.slice bb j cc)) w.heap.size (.slice aa n ca) (.slice bb j cc) m ∧ Below w.heap.size w ((wr.setCell ⟨w.heap.size + 1, 0, none⟩ (.slice aa n ca)).setCell ⟨w.heap.size + 1, 1, none⟩ (.slice bb j cc))) := Lib.hid (by
        have hw := HC.out.res.set 0 (.slice aa n ca)
        have hrows := HC.out.rows
        rw [List.take_of_length_le (by have := HA.out.len; omega)] at hrows
        refine ⟨⟨own_stored (own_stored HC.out.acts HC.out.res (by decide)) hw (by decide), ?_⟩, (HC.out.below.setCell (by simp) _).setCell (by simp) _⟩
        have s1 := hrows.kept (grown_self wr ⟨w.heap.size + 1, 0, none⟩ (.slice aa n ca)) (.inr (own_whole hrows.choose_spec.2.1 HC.out.res (by decide)).symm) (fun r l hr => .inr (own_whole hr HC.out.res (by decide)).symm)
        exact s1.kept (grown_self _ ⟨w.heap.size + 1, 1, none⟩ (.slice bb j cc)) (.inr (own_whole s1.choose_spec.2.1 hw (by decide)).symm) (fun r l hr => .inr (own_whole hr hw (by decide)).symm))
      have g0 := (HC.out.res.set 0 (.slice aa n ca)).cell 0
      have g1 := ((HC.out.res.set 0 (.slice aa n ca)).set 1 (.slice bb j cc)).cell 1
      simp only [List.setIfInBounds_toArray, List.set_cons_zero, List.set_cons_succ, List.getElem?_toArray, List.getElem?_cons_succ, List.getElem?_cons_zero] at g0 g1
      clear r1 r2 r3
      go_wp2
      exact bodyPost_ret (v := .agg #[.slice aa n ca, .slice bb j cc]) (by simp [results, Tryz.results19, go_sem, g0, g1]) rfl ⟨_, _, rfl, HR.out⟩
end Go.Proofs.YtohljainhkdiiaaGreatDoor
