/- spec: has, isShownBy. -/
import Derived.Test.YtgnbkepdbdgkdaaGreatDoorRIsRelL
import Derived.Test.YtgnbkepdbdgkdaaGreatDoorRoundL
namespace Go.Proofs.YtgnbkepdbdgkdaaGreatDoor
open Go.RowKit Go.Sort Pl

set_option maxRecDepth 100000 in
set_option maxHeartbeats 4000000 in
theorem has_any {w : World} {B g a b : Nat} {bl : List Nat} {F : Mat} (h : RelAt w B g a b bl F) {x y : Nat} (hx : x < a) (hy : y < b) :
    Calls Tryz.prog 102 #[.slice (some ⟨g, 0, none⟩) a a, .agg #[.int .i64 x, .int .i64 y]] w fun e w' => e = .returned (.bool (getF F x y)) ∧ Below w.heap.size w w' := by
  have hb1 := (Below.refl w.heap.size w).alloc (Nat.le_refl _) (.cells #[.int .i64 x, .int .i64 y] 48)
  obtain ⟨c1, c2, _⟩ := (h.below hb1).cells hx hy
  obtain ⟨r, hr⟩ : ∃ r, bl.getD x 0 = r := ⟨_, rfl⟩
  rw [hr] at c1 c2
  obtain ⟨q, HQ⟩ : ∃ q, Hid (getF F x y = q) := ⟨_, Lib.hid rfl⟩
  rw [HQ.out] at c2 ⊢
  unfold rowV at c1
  have i0 : (0 : Int) ≤ (x : Int) := by omega
  have i1 : (x : Int) < (a : Int) := by omega
  have i2 : (0 : Int) ≤ (y : Int) := by omega
  have i3 : (y : Int) < (b : Int) := by omega
  have HB := Lib.hid hb1
  clear h hb1 hr
  go_enter Tryz.func102, Tryz.ntmps102
  go_wp2
  go_quiet (fail)
  go_wp2
  go_ret
  exact ⟨rfl, below_drewN HB.out _⟩

/-- where isShownBy stands: the trial, the result, the variable of the table, the table -/
structure ShAt (w V : World) (tr : Array Value) (r : Bool) (C g k k' : Nat) (bl : List Nat) (F : Mat) : Prop where
  tri : Whole V w.heap.size 123 tr
  res : Whole V (w.heap.size + 1) 4 #[.bool r]
  box : Whole V C 127 #[.slice (some ⟨g, 0, none⟩) k k]
  rel : RelAt V (w.heap.size + 2) g k k' bl F
  below : Below w.heap.size w V
section
variable {w V W : World} {tr : Array Value} {r : Bool} {C g k k' : Nat} {bl : List Nat} {F : Mat}
theorem ShAt.up (h : ShAt w V tr r C g k k' bl F) (hb : Below V.heap.size V W) : ShAt w W tr r C g k k' bl F :=
  ⟨h.tri.below hb h.tri.lt, h.res.below hb h.res.lt, h.box.below hb h.box.lt, h.rel.below hb, h.below.trans (hb.mono h.below.size)⟩
theorem ShAt.mark (h : ShAt w V tr r C g k k' bl F) {x : Nat} (hx : x < k) {F' : Mat} (hr : RelAt W (w.heap.size + 2) g k k' bl F') (hg : V.grownBy W (some (bl.getD x 0))) : ShAt w W tr r C g k k' bl F' := by
  have hrow := h.rel.rows x hx
  exact ⟨h.tri.grown hg (own_whole hrow h.tri (by decide)), h.res.grown hg (fun e => by have e2 := Option.some.inj e; have h9 : w.heap.size + 2 ≤ bl.getD x 0 := own_ge hrow _ rfl; omega), h.box.grown hg (own_whole hrow h.box (by decide)), hr, h.below.grown hg h.below.size (fun q hq => by cases hq; have h9 : w.heap.size + 2 ≤ bl.getD x 0 := own_ge hrow _ rfl; omega)⟩
end
theorem shp_in {F : Mat} {a b x y : Nat} (h : Shp F a b) (hm : getF F x y = true) : x < a ∧ y < b := by
  have hx : x < a := by
    rcases Nat.lt_or_ge x a with h1 | h1
    · exact h1
    · unfold getF at hm
      rw [List.getD_eq_getElem?_getD (l := F), List.getElem?_eq_none (by rw [h.1]; exact h1)] at hm
      cases hm
  refine ⟨hx, ?_⟩
  rcases Nat.lt_or_ge y b with h1 | h1
  · exact h1
  · unfold getF at hm
    rw [List.getD_eq_getElem?_getD (l := F.getD x []), List.getElem?_eq_none (by rw [h.2 x hx]; exact h1)] at hm
    cases hm
theorem ownFrom_whole {β : Type} {B q : Nat} {t : TypeId} {cs : Array Value} : OwnFrom B (fun (_ : β) W => Whole W q t cs) := fun _ X Y row h hg hr => by
  refine (hg.block q (Array.getElem?_eq_some_iff.1 h).1 (fun e => ?_)).trans h
  obtain ⟨_, o, ho, hc⟩ := hr q e.symm
  rw [show X.heap[q]? = _ from h] at ho
  cases ho
  cases hc
theorem ownFrom_const {β : Type} {B : Nat} (p : Prop) : OwnFrom B (fun (_ : β) _ => p) := fun _ _ _ _ h _ _ => h

attribute [local go_sem] Oper.semAt_some

set_option maxRecDepth 100000 in
set_option maxHeartbeats 16000000 in
theorem isShownBy_any {w : World} {B : Nat} {a : Option Addr} {n c : Nat} {b : Option Addr} {k d : Nat} {m : Syst} {a' : Option Addr} {n' c' : Nat} {b' : Option Addr} {k' d' : Nat} {s : Spc} {oa : Option Addr} {oc R : Nat} {pa : Option Addr} {pn pc : Nat} {L : List Edg} (T : TrArg w B a n c b k d m a' n' c' b' k' d' s (.slice oa k oc) R) (hv : sysB m = true) (hs : spcB s = true) (P : EdgeArg w pa pn pc L) :
    Calls Tryz.prog 69 #[.agg #[.slice a n c, .slice b k d, .slice a' n' c', .slice b' k' d', .slice oa k oc, .slice (some ⟨R, 0, none⟩) k' k'], .slice pa pn pc] w fun e w' => e = .returned (.bool (relB m s L)) ∧ Below w.heap.size w w' := by
  have hk5 : k ≤ 5000 := by have := ((sysB_iff m).1 hv).2.2.1; have := T.sys.len; omega
  have hk1 : 1 ≤ k := by have := ((sysB_iff m).1 hv).2.1; have := T.sys.len; omega
  have hk5' : k' ≤ 500 := by have := ((spcB_iff s).1 hs).2.2.1; have := T.spc.len; omega
  have hk1' : 1 ≤ k' := by have := ((spcB_iff s).1 hs).2.1; have := T.spc.len; omega
  obtain ⟨tr, HTr⟩ : ∃ z, Hid ((#[.slice a n c, .slice b k d, .slice a' n' c', .slice b' k' d', .slice oa k oc, .slice (some ⟨R, 0, none⟩) k' k'] : Array Value) = z) := ⟨_, Lib.hid rfl⟩
  have hb0 := ((Below.refl w.heap.size w).alloc (Nat.le_refl _) (.cells #[.slice a n c, .slice b k d, .slice a' n' c', .slice b' k' d', .slice oa k oc, .slice (some ⟨R, 0, none⟩) k' k'] 123)).alloc (by simp) (.cells #[.bool false] 4)
  have h1 := (Whole.new w 123 #[.slice a n c, .slice b k d, .slice a' n' c', .slice b' k' d', .slice oa k oc, .slice (some ⟨R, 0, none⟩) k' k']).alloc (.cells #[.bool false] 4)
  have h2 := Whole.new (w.alloc (.cells #[.slice a n c, .slice b k d, .slice a' n' c', .slice b' k' d', .slice oa k oc, .slice (some ⟨R, 0, none⟩) k' k'] 123)) 4 #[.bool false]
  simp only [World.size_alloc] at h2
  obtain ⟨w0, HW0⟩ : ∃ z, Hid ((w.alloc (.cells #[.slice a n c, .slice b k d, .slice a' n' c', .slice b' k' d', .slice oa k oc, .slice (some ⟨R, 0, none⟩) k' k'] 123)).alloc (.cells #[.bool false] 4) = z) := ⟨_, Lib.hid rfl⟩
  have hz0 : w0.heap.size = w.heap.size + 2 := by rw [← HW0.out]; simp
  rw [HW0.out] at hb0 h1 h2
  have HT := Lib.hid T
  have HP := Lib.hid P
  have HV := Lib.hid hv
  have HSv := Lib.hid hs
  have HB0 := Lib.hid hb0
  have H1 := Lib.hid h1
  have H2 := Lib.hid h2
  have HZ0 := Lib.hid hz0
  have HNp := Lib.hid (noPairs_any (w := w0) (a := a) (n := n) (c := c) (b := b) (k := k) (d := d) (a' := a') (n' := n') (c' := c') (b' := b') (k' := k') (d' := d') (oa := oa) (oc := oc) (R := R) (by omega) (by omega))
  have HKl : Hid (m.states.length = k ∧ s.states.length = k') := Lib.hid ⟨T.sys.len.symm, T.spc.len.symm⟩
  have HPl : Hid (L.length = pn) := Lib.hid P.len.symm
  have hpb : pn ≤ 140737488355328 := P.big
  clear T P hv hs hb0 h1 h2 hz0
  refine (callsIn_wide (n := 3)).1 ?_
  refine callsIn_of_wp_marks Tryz.func69 rfl trivial ?_ rfl
  simp only [Tryz.ntmps69, List.size_toArray, List.length_cons, List.length_nil, Nat.reduceAdd, Nat.reduceSub, Array.replicate_succ, Array.replicate_zero, List.push_toArray, List.append_toArray, List.nil_append, List.cons_append]
  gi_wp2_with (refine ⟨trivial, ?_⟩; gi_at_call 62; rw [HW0.out]; refine (callsIn_wide.2 HNp.out).mono ?_; rintro e w1 ⟨g, bl, rfl, hrel, hb1⟩; refine Hid.out ?_)
  have hsh : ShAt w (w1.alloc (.cells #[.slice (some ⟨g, 0, none⟩) k k] 127)) tr false w1.heap.size g k k' bl (markF (noF k k') (L.take 0)) := by
    have hba := (Below.refl _ w1).alloc (Nat.le_refl _) (.cells #[.slice (some ⟨g, 0, none⟩) k k] 127)
    have h1 := (H1.out.below hb1 H1.out.lt).alloc (.cells #[.slice (some ⟨g, 0, none⟩) k k] 127)
    rw [HTr.out] at h1
    refine ⟨h1, (H2.out.below hb1 H2.out.lt).alloc _, Whole.new w1 _ _, ?_, HB0.out.trans ((hb1.trans (hba.mono hb1.size)).mono HB0.out.size)⟩
    rw [HZ0.out] at hrel
    exact hrel.below hba
  have HM0 := Lib.hid hsh
  have HI0 : Hid ((L.take 0).all (inP k k') = true) := Lib.hid rfl
  obtain ⟨C, HC⟩ : ∃ z, Hid (w1.heap.size = z) := ⟨_, Lib.hid rfl⟩
  rw [HC.out] at HM0
  refine Lib.hid ?_
  clear hsh hb1 hrel HNp
  gi_wp2
  rw [HC.out]
  gi_loopw [7, 15] (fun _ q wr => ∃ r : Nat, q = .int .i64 r ∧ r ≤ pn ∧ Hid ((L.take r).all (inP k k') = true) ∧ Hid (ShAt w wr tr false C g k k' bl (markF (noF k k') (L.take r)))) (fun _ q _ => pn - (intOf q).toNat)
  case atStart => exact ⟨0, rfl, Nat.zero_le _, HI0, HM0⟩
  case round =>
    obtain ⟨w3, hw3⟩ : ∃ z, z = wr := ⟨_, rfl⟩
    subst hw3
    obtain ⟨r, rfl, hr, hI, hM⟩ := hrel
    by_cases hlt : r < pn
    · have HLr : Hid (r < L.length ∧ L[r]? = some (edAt L r)) := Lib.hid ⟨by rw [HPl.out]; exact hlt, edAt_get (by rw [HPl.out]; exact hlt)⟩
      obtain ⟨bw, ow, rfl, c1, c2⟩ := (HP.out.below hM.out.below).cells r HLr.out.1
      obtain ⟨X, HX⟩ : ∃ z, Hid ((edAt L r).1 = z) := ⟨_, Lib.hid rfl⟩
      obtain ⟨Y, HY⟩ : ∃ z, Hid ((edAt L r).2 = z) := ⟨_, Lib.hid rfl⟩
      rw [HX.out] at c1
      rw [HY.out] at c2
      have hal : Below w3.heap.size w3 (w3.alloc (.cells #[.int .i64 X, .int .i64 Y] 48)) := (Below.refl _ w3).alloc (Nat.le_refl _) _
      have HMa := Lib.hid (hM.out.up hal)
      have hPw := Whole.new w3 48 #[.int .i64 X, .int .i64 Y]
      have y0 := HMa.out.tri.cell 1
      have y1 := HMa.out.tri.cell 3
      have y2 := hPw.cell 0
      have y3 := hPw.cell 1
      have y4 := HMa.out.box.cell 0
      have y5 := HMa.out.res.frozen 0
      have y6 := HMa.out.res.cell 0
      rw [← HTr.out] at y0 y1
      simp only [List.getElem?_toArray, List.getElem?_cons_succ, List.getElem?_cons_zero] at y0 y1 y2 y3 y4 y6
      have hz3 : w.heap.size + 2 ≤ w3.heap.size := by have := hM.out.res.lt; omega
      have HRes : Hid (Below w.heap.size w ((w3.alloc (.cells #[.int .i64 X, .int .i64 Y] 48)).setCell ⟨w.heap.size + 1, 0, none⟩ (.bool false)) ∧ ((w3.alloc (.cells #[.int .i64 X, .int .i64 Y] 48)).setCell ⟨w.heap.size + 1, 0, none⟩ (.bool false)).cell? ⟨w.heap.size + 1, 0, none⟩ = some (.bool false)) := Lib.hid ⟨HMa.out.below.setCell (p := ⟨w.heap.size + 1, 0, none⟩) (by simp) _, (HMa.out.res.set 0 (.bool false)).cell 0⟩
      have hbad : ¬ inP k k' (edAt L r) = true → Hid (relB m s L = false) := fun h => Lib.hid (by
        unfold relB
        rw [HKl.out.1, HKl.out.2, all_stop HLr.out.2 (by cases e : inP k k' (edAt L r) <;> first | rfl | exact absurd e h)]
        rfl)
      have hin2 := inP_iff k k' (edAt L r)
      rw [HX.out, HY.out] at hin2
      have HBad := Lib.hid hbad
      have HIn := Lib.hid hin2
      clear hal hPw hbad hin2
      by_cases hX0 : X < 0
      · have HN := HBad.out (fun h => by have := HIn.out.1 h; omega)
        gi_wp2
        exact ⟨.bool false, by simp [results, Tryz.results69, go_sem, HRes.out.2], by rw [HN.out], HRes.out.1⟩
      · by_cases hX1 : (k : Int) ≤ X
        · have HN := HBad.out (fun h => by have := HIn.out.1 h; omega)
          gi_wp2
          exact ⟨.bool false, by simp [results, Tryz.results69, go_sem, HRes.out.2], by rw [HN.out], HRes.out.1⟩
        · by_cases hY0 : Y < 0
          · have HN := HBad.out (fun h => by have := HIn.out.1 h; omega)
            gi_wp2
            exact ⟨.bool false, by simp [results, Tryz.results69, go_sem, HRes.out.2], by rw [HN.out], HRes.out.1⟩
          · by_cases hY1 : (k' : Int) ≤ Y
            · have HN := HBad.out (fun h => by have := HIn.out.1 h; omega)
              gi_wp2
              exact ⟨.bool false, by simp [results, Tryz.results69, go_sem, HRes.out.2], by rw [HN.out], HRes.out.1⟩
            · have HYes : Hid (inP k k' (edAt L r) = true) := Lib.hid (HIn.out.2 (by omega))
              obtain ⟨x, rfl⟩ := Int.eq_ofNat_of_zero_le (show 0 ≤ X by omega)
              obtain ⟨y, rfl⟩ := Int.eq_ofNat_of_zero_le (show 0 ≤ Y by omega)
              have hxk : x < k := by omega
              have hyk : y < k' := by omega
              have HAd := Lib.hid (add_any HMa.out.rel hxk hyk (by omega) (by omega))
              obtain ⟨F, HF⟩ : ∃ z, Hid (markF (noF k k') (L.take r) = z) := ⟨_, Lib.hid rfl⟩
              rw [HF.out] at HMa HAd
              have HFn : Hid (markF (noF k k') (L.take (r + 1)) = setF F x y) := Lib.hid (by
                rw [take_one HLr.out.2, markF_snoc, HF.out, HX.out, HY.out]
                rfl)
              have HAn : Hid ((L.take (r + 1)).all (inP k k') = true) := Lib.hid (all_next HLr.out.2 HYes.out hI.out)
              clear HRes hM
              gi_wp2_with (refine ⟨trivial, ?_⟩; gi_at_call 63; refine (callsIn_wide.2 HAd.out).mono ?_; rintro e w4 ⟨rfl, hr4, hg4⟩; have HS4 : Hid (ShAt w w4 tr false C g k k' bl (markF (noF k k') (L.take (r + 1)))) := Lib.hid (by rw [HFn.out]; exact HMa.out.mark hxk hr4 hg4); clear hr4 hg4)
              go_roundw
              case rel => exact ⟨r + 1, by go_num, by omega, HAn, HS4⟩
              case measure => simp [intOf]; omega
    · have hrn : pn = r := by omega
      subst hrn
      have HIn : Hid (L.all (inP m.states.length s.states.length) = true) := Lib.hid (by rw [HKl.out.1, HKl.out.2]; exact all_end (by rw [HPl.out]; exact Nat.le_refl _) hI.out)
      obtain ⟨F, HF⟩ : ∃ z, Hid (markF (noF m.states.length s.states.length) L = z) := ⟨_, Lib.hid rfl⟩
      have HSh : Hid (ShAt w w3 tr false C g k k' bl F) := Lib.hid (by
        have h1 := hM.out
        rw [List.take_of_length_le (by rw [HPl.out]; exact Nat.le_refl _)] at h1
        rw [← HF.out, HKl.out.1, HKl.out.2]
        exact h1)
      have HRel : Hid (relB m s L = (((allF F).all fun p => pairB m s F p.1 p.2) && getF F 0 0)) := Lib.hid (by rw [relB_marks HIn.out, HF.out])
      clear hM hI hlt HM0 HI0 hr
      have y4 := HSh.out.box.cell 0
      simp only [List.getElem?_toArray, List.getElem?_cons_zero] at y4
      gi_wp2_with (refine ⟨trivial, ?_⟩; gi_at_call 68; refine (callsIn_wide.2 (all_any g k _)).mono ?_; rintro e wR ⟨rfl, hwR⟩; have HwR := Lib.hid hwR; clear hwR)
      have hbR : Below w3.heap.size w3 wR := by rw [← HwR.out]; exact (Below.refl _ w3).alloc (Nat.le_refl _) _
      have HShR := Lib.hid (HSh.out.up hbR)
      have hC2 : wR.cell? ⟨w3.heap.size, 0, none⟩ = some (.slice (some ⟨g, 0, none⟩) k k) := by rw [← HwR.out]; exact cell_first w3 _ _
      obtain ⟨C2, HC2n⟩ : ∃ z, Hid (w3.heap.size = z) := ⟨_, Lib.hid rfl⟩
      rw [HC2n.out] at hC2
      have HC2 := Lib.hid hC2
      have HszR : Hid (w.heap.size + 2 ≤ wR.heap.size) := Lib.hid (by have := HShR.out.res.lt; omega)
      clear hbR hC2 y4 HSh
      rw [HC2n.out]
      change Code.wpIn _ _ _ _ _ (Act.mk ?T _) _
      have hI : OwnFrom wR.heap.size (fun (pre : List (Nat × Nat)) V => Below wR.heap.size wR V ∧ ∀ p ∈ pre, pairB m s F p.1 p.2 = true) := fun pre X Y row h hg hr => ⟨ownFrom_below (β := Unit) (Nat.le_refl _) (Nat.le_refl _) () X Y row h.1 hg hr, h.2⟩
      refine range_lawA (gf := 101) (lb := #[.pointer (some ⟨C2, 0, none⟩)]) rfl (enters_of Tryz.func101 (by kernel_rfl) rfl)
        (encs := fun p : Nat × Nat => #[Value.agg #[.int .i64 p.1, .int .i64 p.2]]) (fun _ => rfl) (ok := fun pre x => pre ++ [x] <+: allF F) (S := fun xs => xs = allF F)
        (fun pre V => Below wR.heap.size wR V ∧ ∀ p ∈ pre, pairB m s F p.1 p.2 = true)
        (fun cc _ V => (cc = .ret ∧ relB m s L = false) ∧ Whole V (w.heap.size + 1) 4 #[.bool false] ∧ Below w.heap.size w V)
        hI (fun cc => (ownFrom_const _).and (ownFrom_whole.and (ownFrom_below (Nat.le_refl _) (by have := HszR.out; omega))))
        ⟨Below.refl _ _, fun p hp => by simp at hp⟩
        (fun pre x a1 W => ∃ q, Whole W q 48 #[.int .i64 x.1, .int .i64 x.2] ∧ a1 = { tmps := Array.setIfInBounds (Array.setIfInBounds (α := Value) ?T 51 (.agg #[.int .i64 x.1, .int .i64 x.2])) 8 (.pointer (some ⟨q, 0, none⟩)), defers := [] } ∧ (Below wR.heap.size wR W ∧ ∀ p ∈ pre, pairB m s F p.1 p.2 = true))
        (fun pre x a1 _ X Y row h hg hr => by
          obtain ⟨q, hq, ha, hi⟩ := h
          exact ⟨q, ownFrom_whole (β := Unit) () X Y row hq hg hr, ha, hI pre X Y row hi hg hr⟩)
        (all_iter wR.heap.size (w.heap.size + 2) C2 g k k' bl F (by omega) (by omega) HShR.out.rel.shp _ _ (fun pre V h => (h.1.cell (lt_of_cell HC2.out)).trans HC2.out) (fun pre V h => HShR.out.rel.below h.1)) ?assign ?body ?done ?stop
      case assign =>
        intro l pre x W K hi _ hK
        gi_wp2
        exact hK _ _ (Stays.alloc _ W _) ⟨W.heap.size, Whole.new W _ _, rfl, hI.alloc _ hi⟩
      case body =>
        rintro l pre ⟨x, y⟩ a1 W ⟨q, hq, rfl, hBW, hpre⟩ ho
        simp only [List.setIfInBounds_toArray, List.set_cons_zero, List.set_cons_succ]
        have hmk : getF F x y = true := by
          rw [← allF_mem]
          exact List.IsPrefix.subset ho (by simp)
        have hxk : x < k ∧ y < k' := shp_in HShR.out.rel.shp hmk
        have HW := Lib.hid hBW
        have HPre := Lib.hid hpre
        have HSW := Lib.hid (HShR.out.up hBW)
        have HTw := HT.out.below HSW.out.below
        have HFi := Lib.hid (fits_any HTw HV.out hxk.1 hxk.2 (by omega) (by omega))
        have HAt : Hid ((x, y) ∈ allF F) := Lib.hid (List.IsPrefix.subset ho (by simp))
        have HQ := Lib.hid hq
        have t0 := HSW.out.tri.cell 0
        have t1 := HSW.out.tri.cell 1
        have t2 := HSW.out.tri.cell 2
        have t3 := HSW.out.tri.cell 3
        have t4 := HSW.out.tri.cell 4
        have t5 := HSW.out.tri.cell 5
        have q0 := hq.cell 0
        have q1 := hq.cell 1
        rw [← HTr.out] at t0 t1 t2 t3 t4 t5
        simp only [List.getElem?_toArray, List.getElem?_cons_succ, List.getElem?_cons_zero] at t0 t1 t2 t3 t4 t5 q0 q1
        obtain ⟨ft, HFt⟩ : ∃ z, Hid (fitB m s x y = z) := ⟨_, Lib.hid rfl⟩
        rw [HFt.out] at HFi
        have HBad : Hid (pairB m s F x y = false → relB m s L = false) := Lib.hid (fun h => by
          rw [HRel.out]
          have : ((allF F).all fun p => pairB m s F p.1 p.2) = false := by
            rw [Bool.eq_false_iff]
            intro h1
            have h2 := List.all_eq_true.1 h1 _ HAt.out
            rw [h] at h2
            cases h2
          rw [this]
          rfl)
        have HKl2 : Hid (x < m.states.length ∧ y < s.states.length) := Lib.hid ⟨by rw [HKl.out.1]; exact hxk.1, by rw [HKl.out.2]; exact hxk.2⟩
        clear hmk hBW hpre HTw ho hq
        cases ft
        · have HN : Hid (relB m s L = false) := Lib.hid (HBad.out (by unfold pairB; rw [HFt.out]; rfl))
          gi_wp2_with (refine ⟨trivial, ?_⟩; gi_at_call 64; refine CallsIn.inRound l ((callsIn_wide.2 HFi.out).mono ?_); rintro e W1 ⟨rfl, hb1⟩; have HS1 := Lib.hid (HSW.out.up hb1); have HB1 := Lib.hid hb1; have y5 := HS1.out.res.frozen 0; have y6 := HS1.out.res.cell 0; simp only [List.getElem?_toArray, List.getElem?_cons_zero] at y6; clear hb1)
          exact ⟨(Stays.below HB1.out).trans (Stays.setCell _ _ _ _), ⟨rfl, HN.out⟩, HS1.out.res.set 0 _, HS1.out.below.setCell (p := ⟨w.heap.size + 1, 0, none⟩) (by simp) _⟩
        · obtain ⟨bx, off, rfl, ai, ni, ci, e10, hE⟩ := HT.out.sys.rows x HKl2.out.1
          have HE := Lib.hid hE
          have hX0 : (0 : Int) ≤ (x : Int) := by omega
          have hX1 : (x : Int) < (k : Int) := by have := hxk.1; omega
          have HEl : Hid ((stAt m.states x).length = ni) := Lib.hid hE.len.symm
          have hni : ni ≤ 400000 := by
            have h3 := hE.len
            have h4 := total_take m.states x HKl2.out.1
            have h5 := total_take_le m.states (x + 1)
            have := ((sysB_iff m).1 HV.out).2.2.2.2
            omega
          have HE0 : Hid (((stAt m.states x).take 0).all (fun e => getF F e.2.toNat (nextY s y e.1)) = true) := Lib.hid rfl
          have HE10 := Lib.hid e10
          clear hE e10
          gi_wp2_with (refine ⟨trivial, ?_⟩; gi_at_call 64; refine CallsIn.inRound l ((callsIn_wide.2 HFi.out).mono ?_); rintro e W1 ⟨rfl, hb1⟩; have HS1 := Lib.hid (HSW.out.up hb1); have HB1 := Lib.hid hb1; have HQ1 := Lib.hid (HQ.out.below hb1 HQ.out.lt); have v1 := HS1.out.tri.cell 1; have v2 := HQ1.out.cell 0; rw [← HTr.out] at v1; simp only [List.getElem?_toArray, List.getElem?_cons_succ, List.getElem?_cons_zero] at v1 v2; have e1 := (HS1.out.below.cell (lt_of_cell HE10.out)).trans HE10.out; clear hb1)
          have HB10 : Hid (Below W.heap.size W W1) := HB1
          clear HQ1 HS1 HB1
          gi_loopw [10, 64] (fun _ q V => ∃ j : Nat, q = .int .i64 j ∧ j ≤ ni ∧ Hid (((stAt m.states x).take j).all (fun e => getF F e.2.toNat (nextY s y e.1)) = true) ∧ Hid (Below W.heap.size W V)) (fun _ q _ => ni - (intOf q).toNat)
          case atStart => exact ⟨0, rfl, Nat.zero_le _, HE0, HB10⟩
          case round =>
            obtain ⟨w8, hw8⟩ : ∃ z, z = wr := ⟨_, rfl⟩
            subst hw8
            obtain ⟨j, rfl, hj, hEj, hBj⟩ := hrel
            clear v1 v2 e1 t0 t1 t2 t3 t4 t5 q0 q1
            have hS8 := HSW.out.up hBj.out
            by_cases hlt4 : j < ni
            · have hjl : j < (stAt m.states x).length := by have := HE.out.len; omega
              obtain ⟨be, oe, rfl, d1, d2⟩ := (HE.out.cells.below hS8.below) j hjl
              have hef := edge_ok HV.out HKl2.out.1 hjl
              have hfn := fit_next HV.out HSv.out HKl2.out.1 HKl2.out.2 HFt.out hjl
              obtain ⟨u, hu⟩ := Int.eq_ofNat_of_zero_le hef.1
              obtain ⟨v, hvv⟩ := Int.eq_ofNat_of_zero_le hef.2.2.1
              obtain ⟨z, hzz⟩ := Int.eq_ofNat_of_zero_le hfn.2.1
              rw [hu] at d1 hfn hzz
              rw [Int.toNat_natCast] at hfn hzz
              rw [hvv] at d2
              have hvk : v < k := by have := hef.2.2.2; have := HKl.out.1; omega
              have hzk : z < k' := by have := hfn.2.2; have := HKl.out.2; omega
              have HEd : Hid ((edAt (stAt m.states x) j).2.toNat = v ∧ nextY s y (edAt (stAt m.states x) j).1 = z ∧ (stAt m.states x)[j]? = some (edAt (stAt m.states x) j)) := Lib.hid ⟨by rw [hvv]; simp, by unfold nextY; rw [hu, Int.toNat_natCast, hzz]; simp, edAt_get hjl⟩
              obtain ⟨wE, HwE⟩ : ∃ z, Hid (w8.alloc (.cells #[.int .i64 (u : Int), .int .i64 (v : Int)] 87) = z) := ⟨_, Lib.hid rfl⟩
              have hal : Below w8.heap.size w8 wE := by rw [← HwE.out]; exact (Below.refl _ w8).alloc (Nat.le_refl _) _
              have hWe : Whole wE w8.heap.size 87 #[.int .i64 (u : Int), .int .i64 (v : Int)] := by rw [← HwE.out]; exact Whole.new w8 _ _
              have hSE := hS8.up hal
              have hQE := (HQ.out.below hBj.out HQ.out.lt).below hal (HQ.out.below hBj.out HQ.out.lt).lt
              have HBE := Lib.hid (hBj.out.trans (hal.mono hBj.out.size))
              have hTE := HT.out.below hSE.below
              have cF := fun (d : Nat) (os : Array Obj) => CallsIn.regrown_of (r := 1 - 1) (w := wE) (d := d) (os := os) (callsIn_wide.2 (follow_any (x := x) (z := v) (hTE.below (below_regrown wE d os)) ⟨oa, oc, rfl⟩ hxk.2 hfn.1 hzz (by omega)))
              have cH := fun (d : Nat) (os : Array Obj) => CallsIn.regrown_of (r := 1 - 1) (w := wE) (d := d) (os := os) (callsIn_wide.2 (has_any (hSE.rel.below (below_regrown wE d os)) hvk hzk))
              have s0 := hSE.tri.cell 0
              have s1 := hSE.tri.cell 1
              have s2 := hSE.tri.cell 2
              have s3 := hSE.tri.cell 3
              have s4 := hSE.tri.cell 4
              have s5 := hSE.tri.cell 5
              have s6 := hQE.cell 0
              have s7 := hQE.cell 1
              have s8 := hSE.box.cell 0
              have s9 := hWe.cell 0
              have s10 := hWe.cell 1
              rw [← HTr.out] at s0 s1 s2 s3 s4 s5
              simp only [List.getElem?_toArray, List.getElem?_cons_succ, List.getElem?_cons_zero] at s0 s1 s2 s3 s4 s5 s6 s7 s8 s9 s10
              have K0 := fun (d : Nat) (os : Array Obj) => cell_regrown s0 d os
              have K1 := fun (d : Nat) (os : Array Obj) => cell_regrown s1 d os
              have K2 := fun (d : Nat) (os : Array Obj) => cell_regrown s2 d os
              have K3 := fun (d : Nat) (os : Array Obj) => cell_regrown s3 d os
              have K4 := fun (d : Nat) (os : Array Obj) => cell_regrown s4 d os
              have K5 := fun (d : Nat) (os : Array Obj) => cell_regrown s5 d os
              have K6 := fun (d : Nat) (os : Array Obj) => cell_regrown s6 d os
              have K7 := fun (d : Nat) (os : Array Obj) => cell_regrown s7 d os
              have K8 := fun (d : Nat) (os : Array Obj) => cell_regrown s8 d os
              have K9 := fun (d : Nat) (os : Array Obj) => cell_regrown s9 d os
              have K10 := fun (d : Nat) (os : Array Obj) => cell_regrown s10 d os
              have HSE := Lib.hid hSE
              obtain ⟨gf, HGf⟩ : ∃ y, Hid (getF F v z = y) := ⟨_, Lib.hid rfl⟩
              rw [HGf.out] at cH
              clear s0 s1 s2 s3 s4 s5 s6 s7 s8 s9 s10 hal hWe hSE hQE hTE hS8 hef hfn hu hvv hzz hjl hvk hzk
              gi_wp2
              rw [HwE.out]
              refine wpIn_round_quiet_below l (by simp) (by kernel_rfl) (by kernel_rfl) ?_
              repeat (refine wpQuietIn_step (by first | exact fun _ _ _ _ => trivial | quiet_asked_in) (fun K hK => ?_); go_simp; first | (refine hK _ ?_; clear hK K) | (apply Exists.intro; refine ⟨fun _ => ?_, hK _ ?_⟩; (first | (gi_at_call 66; with_reducible exact cF _ _) | (gi_at_call 102; with_reducible exact cH _ _)); clear hK K))
              refine wpQuietIn_nil ?_
              intro w9 hw'
              obtain ⟨p9, hw''⟩ := hw'
              have hb9 : Below wE.heap.size wE w9 := by rw [hw'']; exact below_regrown _ _ _
              clear hw'' p9 cF cH K0 K1 K2 K3 K4 K5 K6 K7 K8 K9 K10
              have HS9 := Lib.hid (HSE.out.up hb9)
              have HB9 := Lib.hid (HBE.out.trans (hb9.mono HBE.out.size))
              have y5 := HS9.out.res.frozen 0
              have y6 := HS9.out.res.cell 0
              simp only [List.getElem?_toArray, List.getElem?_cons_zero] at y6
              clear hb9
              cases gf
              · have HN : Hid (relB m s L = false) := Lib.hid (HBad.out (by
                  unfold pairB closeB
                  rw [HFt.out, all_stop (f := fun e : Edg => getF F e.2.toNat (nextY s y e.1)) HEd.out.2.2 (by rw [HEd.out.1, HEd.out.2.1]; exact HGf.out)]
                  rfl))
                gi_wp2
                exact ⟨(Stays.below HB9.out).trans (Stays.setCell _ _ _ _), ⟨rfl, HN.out⟩, HS9.out.res.set 0 _, HS9.out.below.setCell (p := ⟨w.heap.size + 1, 0, none⟩) (by simp) _⟩
              · have HEn : Hid (((stAt m.states x).take (j + 1)).all (fun e => getF F e.2.toNat (nextY s y e.1)) = true) := Lib.hid (all_next (f := fun e : Edg => getF F e.2.toNat (nextY s y e.1)) HEd.out.2.2 (by rw [HEd.out.1, HEd.out.2.1]; exact HGf.out) hEj.out)
                gi_wp2
                go_roundw
                case rel => exact ⟨j + 1, by go_num, by omega, HEn, HB9⟩
                case measure => simp [intOf]; omega
            · have HPa : Hid (pairB m s F x y = true) := Lib.hid (by
                unfold pairB closeB
                rw [HFt.out, all_end (f := fun e : Edg => getF F e.2.toNat (nextY s y e.1)) (by rw [HEl.out]; omega) hEj.out]
                rfl)
              have HEnd : Hid (leftPost wR.heap.size (fun pre V => Below wR.heap.size wR V ∧ ∀ p ∈ pre, pairB m s F p.1 p.2 = true) (fun cc _ V => (cc = .ret ∧ relB m s L = false) ∧ Whole V (w.heap.size + 1) 4 #[.bool false] ∧ Below w.heap.size w V) (pre ++ [(x, y)]) W .normal ⟨#[], []⟩ w8) := Lib.hid ⟨Stays.below hBj.out, HW.out.trans (hBj.out.mono HW.out.size), fun p hp => by
                rcases List.mem_append.1 hp with h1 | h1
                · exact HPre.out p h1
                · rw [List.mem_singleton] at h1
                  rw [h1]
                  exact HPa.out⟩
              gi_wp2
              exact HEnd.out
      case done =>
        rintro D ys W hD hS ⟨hBW, hall⟩ hK
        subst hS
        have HSW := Lib.hid (HShR.out.up hBW)
        have HR : Hid (relB m s L = getF F 0 0) := Lib.hid (by
          rw [HRel.out, List.all_eq_true.2 hall, Bool.true_and])
        obtain ⟨gv, HGv⟩ : ∃ z, Hid (getF F 0 0 = z) := ⟨_, Lib.hid rfl⟩
        have hh : Calls Tryz.prog 102 #[.slice (some ⟨g, 0, none⟩) k k, .agg #[.int .i64 0, .int .i64 0]] W fun e w' => e = .returned (.bool (getF F 0 0)) ∧ Below W.heap.size W w' := has_any (x := 0) (y := 0) HSW.out.rel (by omega) (by omega)
        rw [HGv.out] at hh
        have HH := Lib.hid hh
        have s8 := HSW.out.box.cell 0
        simp only [List.getElem?_toArray, List.getElem?_cons_zero] at s8
        have HK := Lib.hid hK
        have HD := Lib.hid hD
        clear hh hBW hall hK hD
        gi_wp2_with (refine ⟨trivial, ?_⟩; gi_at_call 102; refine (callsIn_wide.2 HH.out).mono ?_; rintro e W1 ⟨rfl, hb1⟩; have HS1 := Lib.hid (HSW.out.up hb1); have HK1 : Hid (W1.heap[D]? = some (.deferred (some []))) := Lib.hid ((hb1.block D (Array.getElem?_eq_some_iff.1 HK.out).1).trans HK.out); have y5 := HS1.out.res.frozen 0; have y6 := HS1.out.res.cell 0; simp only [List.getElem?_toArray, List.getElem?_cons_zero] at y6; clear hb1)
        have hDs : w.heap.size + 1 < D := by have := HD.out; have := HszR.out; omega
        have hK2 : (W1.setCell ⟨w.heap.size + 1, 0, none⟩ (.bool gv)).heap[D]? = some (.deferred (some [])) := ((grown_self W1 ⟨w.heap.size + 1, 0, none⟩ (.bool gv)).block D (Array.getElem?_eq_some_iff.1 HK1.out).1 (fun e => by have e2 := Option.some.inj e; simp only at e2; omega)).trans HK1.out
        have hc2 : (W1.setCell ⟨w.heap.size + 1, 0, none⟩ (.bool gv)).cell? ⟨w.heap.size + 1, 0, none⟩ = some (.bool gv) := (HS1.out.res.set 0 (.bool gv)).cell 0
        have hB2 : Below w.heap.size w (W1.setCell ⟨w.heap.size + 1, 0, none⟩ (.bool gv)) := HS1.out.below.setCell (p := ⟨w.heap.size + 1, 0, none⟩) (by simp) _
        refine ⟨by simp, .inl ⟨_, _, rfl, run_takeDeferred hK2, ?_⟩⟩
        have r4 := cell_kept hc2 (grownBy_putObj' _ D (.deferred none)) (fun r e => by cases e; exact ⟨_, hK2, rfl⟩)
        exact ⟨.bool gv, by simp [results, Tryz.results69, go_sem, r4], by rw [HR.out, HGv.out], hB2.trans (belowK_b (w := w) (Nat.le_refl _) _ D _ _ (by omega) hK2 rfl rfl)⟩
      case stop =>
        rintro D cc pre W hD ⟨⟨rfl, hf⟩, hres, hB⟩ hK
        have hc2 := hres.cell 0
        simp only [List.getElem?_toArray, List.getElem?_cons_zero] at hc2
        have HF0 := Lib.hid hf
        have hDs : w.heap.size + 1 < D := by have := HszR.out; omega
        gi_wp2
        refine ⟨by simp, .inl ⟨_, _, rfl, run_takeDeferred hK, ?_⟩⟩
        have r4 := cell_kept hc2 (grownBy_putObj' _ D (.deferred none)) (fun r e => by cases e; exact ⟨_, hK, rfl⟩)
        exact ⟨.bool false, by simp [results, Tryz.results69, go_sem, r4], by rw [HF0.out], hB.trans (belowK_b (w := w) (Nat.le_refl _) _ D _ _ (by omega) hK rfl rfl)⟩
end Go.Proofs.YtgnbkepdbdgkdaaGreatDoor
