/- The reference's Reach. -/
import Derived.Test.YtgpfpnenpgnogaaGreatDoorJa32
import Derived.Deep.RegionHeld3
import Derived.BigQuiet
import Derived.StillTailTactics
import Derived.Deep.Cut
namespace Go.Proofs.YtgpfpnenpgnogaaGreatDoor
open Go.RowKit Pl

/-- the marks, the pairs of this level and of the next one, in memory -/
structure ReX (w0 wr : World) (g k k' : Nat) (bl : List Nat) (F : Mat) (nv xv : Value) (N X : List (Nat × Nat)) : Prop where
  rel : RelAt wr w0.heap.size g k k' bl F
  now : wr.ownsRow w0.heap.size 75 2 nv N.length (pcells N)
  nxt : wr.ownsRow w0.heap.size 75 2 xv X.length (pcells X)
  far : xv.ownBlock = none ∨ xv.ownBlock ≠ nv.ownBlock
  below : Below w0.heap.size w0 wr
theorem ReX.up {w0 wr wA : World} {g k k' : Nat} {bl : List Nat} {F : Mat} {nv xv : Value} {N X : List (Nat × Nat)} (h : ReX w0 wr g k k' bl F nv xv N X) (hb : Below wr.heap.size wr wA) : ReX w0 wA g k k' bl F nv xv N X :=
  ⟨h.rel.below hb, own_up' h.now hb, own_up' h.nxt hb, h.far, h.below.trans (hb.mono h.below.size)⟩
theorem ReX.drewN {w0 wr : World} {g k k' : Nat} {bl : List Nat} {F : Mat} {nv xv : Value} {N X : List (Nat × Nat)} (h : ReX w0 wr g k k' bl F nv xv N X) (q : Nat) : ReX w0 (wr.drewN q) g k k' bl F nv xv N X := h.up (below_drewN (Below.refl _ _) q)
theorem whole_drewN {wr : World} {g : Nat} {t : TypeId} {cs : Array Value} (h : Whole wr g t cs) (q : Nat) : Whole (wr.drewN q) g t cs := h.below (below_drewN (Below.refl _ _) q) h.lt
theorem ReX.mark {w0 wr : World} {g k k' : Nat} {bl : List Nat} {F : Mat} {nv xv : Value} {N X : List (Nat × Nat)} (h : ReX w0 wr g k k' bl F nv xv N X) {x y : Nat} (hx : x < k) (hy : y < k') :
    ReX w0 (wr.setCell ⟨bl.getD x 0, y, none⟩ (.bool true)) g k k' bl (setF F x y) nv xv N X := by
  have hrow := h.rel.rows x hx
  have hst := (hrow.stored y (.bool true)).2
  exact ⟨h.rel.set hx hy, h.now.kept hst (own_apart h.now hrow (by decide)), h.nxt.kept hst (own_apart h.nxt hrow (by decide)), h.far, h.below.setCell (show w0.heap.size ≤ bl.getD x 0 from own_ge hrow _ rfl) _⟩
theorem ReX.push {w0 wA wB : World} {g k k' : Nat} {bl : List Nat} {F : Mat} {nv xv x2 : Value} {N X : List (Nat × Nat)} {p q : Nat} (h : ReX w0 wA g k k' bl F nv xv N X) (hg : wA.grownBy wB xv.ownBlock) (hB : wB.ownsRow w0.heap.size 75 2 x2 (X.length + 1) (pcells X ++ [.int .i64 p, .int .i64 q])) (hat : x2.ownBlock = xv.ownBlock ∨ x2.ownBlock = some wA.heap.size) :
    ReX w0 wB g k k' bl F nv x2 N (X ++ [(p, q)]) := by
  refine ⟨h.rel.grown h.nxt (by decide) (by decide) hg, h.now.kept hg ?_, by rw [List.length_append, List.length_singleton, pcells_snoc]; exact hB, ?_, h.below.grown hg h.below.size (own_ge h.nxt)⟩
  · rcases h.far with e | e
    · rw [e]; cases nv.ownBlock <;> simp
    · exact .inr fun q => e q.symm
  · rcases hat with e | e
    · rw [e]; exact h.far
    · right
      rw [e]
      intro q
      have := (World.ownsRow.lt h.now _ q.symm).2
      omega
theorem preI_len {F : Mat} {a b x y : Nat} (h : Shp F a b) (hx : x < a) (hy : y ≤ b) : (preI F x y).length ≤ a * b := by
  have h1 := preO_len h x (by omega)
  have h2 : (((List.range y).filter fun z => getF F x z).map fun z => (x, z)).length ≤ y := by
    rw [List.length_map]
    exact Nat.le_trans (List.length_filter_le _ _) (by simp)
  have h3 : (x + 1) * b ≤ a * b := Nat.mul_le_mul_right b (by omega)
  rw [Nat.succ_mul] at h3
  unfold preI
  rw [List.length_append]
  omega
theorem ReX.swap {w0 wr : World} {g k k' : Nat} {bl : List Nat} {F : Mat} {nv xv : Value} {N X : List (Nat × Nat)} (h : ReX w0 wr g k k' bl F nv xv N X) : ReX w0 wr g k k' bl F xv (.slice none 0 0) X [] :=
  ⟨h.rel, h.nxt, World.ownsRow_nil _ _ _ _, .inl rfl, h.below⟩
/-- the cells of a pair of a row -/
theorem pair_cells {W : World} {B n c : Nat} {a : Option Addr} {L : List (Nat × Nat)} (h : W.ownsRow B 75 2 (.slice a n c) n (pcells L)) {r x y : Nat} (hr : r < n) (hL : L[r]? = some (x, y)) :
    ∃ b, a = some ⟨b, 0, none⟩ ∧ W.cell? ⟨b, r * 2, none⟩ = some (.int .i64 x) ∧ W.cell? ⟨b, r * 2 + 1, none⟩ = some (.int .i64 y) := by
  rcases h.2 with ⟨e, e0⟩ | ⟨b, cap, cur, e, _⟩
  · omega
  · simp only [Value.slice.injEq] at e
    obtain ⟨rfl, _, rfl⟩ := e
    obtain ⟨h1, h2⟩ := pcells_at L r x y hL
    exact ⟨b, rfl, (h.cellAt _ (by omega)).trans h1, (h.cellAt _ (by omega)).trans h2⟩

set_option maxRecDepth 100000 in
set_option maxHeartbeats 16000000 in
theorem Reach_any {w : World} {a : Option Addr} {n c : Nat} {b : Option Addr} {k d : Nat} {m : Syst} {a' : Option Addr} {n' c' : Nat} {b' : Option Addr} {k' d' : Nat} {s : Spc} (A : SysArg w a n c b k d m) (S : SpecArg w a' n' c' b' k' d' s) (hv : sysB m = true) (hs : spcB s = true) (_hacts : m.acts = s.acts) :
    Calls Tryz.prog 10 #[.agg #[.slice a n c, .slice b k d], .agg #[.slice a' n' c', .slice b' k' d']] w fun e w' => Below w.heap.size w w' ∧
      ((∃ L v, SatYes m s L ∧ e = .returned (.tuple #[v, .int .i64 0, .bool true]) ∧ w'.ownsRow w.heap.size 75 2 v L.length (pcells L)) ∨
        ∃ i dp : Nat, FitsTo m s i ∧ i < (stQ m s i).1.length ∧ fitB m s (wtAt (stQ m s i).1 i).x (wtAt (stQ m s i).1 i).y = false ∧ lenQ (stQ m s i).1 i = dp ∧ e = .returned (.tuple #[.slice none 0 0, .int .i64 dp, .bool false])) := by
  obtain ⟨i1, hi1, hz10, hz11, hz12⟩ := info_parts infoRowB
  obtain ⟨i2, hi2, hz20, hz21, hz22⟩ := info_parts infoBoolV
  obtain ⟨i3, hi3, hz30, hz31, hz32⟩ := info_parts infoPair
  have hk5 : k ≤ 5000 := by have := ((sysB_iff m).1 hv).2.2.1; have := A.len; omega
  have hk1 : 1 ≤ k := by have := ((sysB_iff m).1 hv).2.1; have := A.len; omega
  have hk5' : k' ≤ 500 := by have := ((spcB_iff s).1 hs).2.2.1; have := S.len; omega
  have hk1' : 1 ≤ k' := by have := ((spcB_iff s).1 hs).2.1; have := S.len; omega
  have hkk : k * k' ≤ 2500000 := Nat.le_trans (Nat.mul_le_mul hk5 hk5') (by decide)
  have hb0 := ((Below.refl w.heap.size w).alloc (Nat.le_refl _) (.cells #[.slice a n c, .slice b k d] 25)).alloc (by simp) (.cells #[.slice a' n' c', .slice b' k' d'] 28)
  have h1 := (Whole.new w 25 #[.slice a n c, .slice b k d]).alloc (.cells #[.slice a' n' c', .slice b' k' d'] 28)
  have h2 := Whole.new (w.alloc (.cells #[.slice a n c, .slice b k d] 25)) 28 #[.slice a' n' c', .slice b' k' d']
  have hsz : ((w.alloc (.cells #[.slice a n c, .slice b k d] 25)).alloc (.cells #[.slice a' n' c', .slice b' k' d'] 28)).heap.size = w.heap.size + 2 := by simp
  simp only [World.size_alloc] at h2
  obtain ⟨w0, HW0⟩ : ∃ z, Hid ((w.alloc (.cells #[.slice a n c, .slice b k d] 25)).alloc (.cells #[.slice a' n' c', .slice b' k' d'] 28) = z) := ⟨_, Lib.hid rfl⟩
  rw [HW0.out] at hb0 h1 h2 hsz
  have H1 := Lib.hid h1
  have H2 := Lib.hid h2
  have HB0 := Lib.hid hb0
  have HA := Lib.hid (A.below hb0)
  have HS := Lib.hid (S.below hb0)
  have HV := Lib.hid hv
  have HSv := Lib.hid hs
  have HKl : Hid (m.states.length = k ∧ s.states.length = k') := Lib.hid ⟨A.len.symm, S.len.symm⟩
  have HZ0 := Lib.hid hsz
  have q1 : w0.cell? ⟨w.heap.size, 1, none⟩ = some (.slice b k d) := h1.cell 1
  clear A S hv hs hb0 h1 h2 hsz
  go_enter Tryz.func10, Tryz.ntmps10
  go_wp2_with (at_make; rw [HW0.out]; refine wpList_make_full _ rfl _ _ 73 rfl w0.heap.size 74 i1 (.slice none 0 0) 1 Tryz.underlying73 hi1 hz10 hz11 .i64 .i64 k k k rfl rfl rfl rfl (by rw [hz12]; omega) (by unfold maxLen; omega) (Nat.le_refl _) ?_; intro w1 hrow hg1; refine Hid.out ?_)
  rw [made_nils] at hrow
  have HN0 : Hid (NoAt w0 w1 w0.heap.size k k' 0 []) := Lib.hid ⟨rfl, fun y z hy => by omega, by simpa using hrow, fun y hy => by omega, below_up hg1⟩
  obtain ⟨g, HGg⟩ : ∃ g, Hid (w0.heap.size = g) := ⟨_, Lib.hid rfl⟩
  have HN0' : Hid (NoAt w0 w1 g k k' 0 []) := Lib.hid (by rw [← HGg.out]; exact HN0.out)
  rw [HGg.out]
  clear hrow hg1 q1 HN0
  refine Lib.hid ?_
  go_wp2
  go_loopw [8, 27] (fun _ p wr => ∃ (x : Nat) (bl : List Nat), p = .int .i64 x ∧ x ≤ k ∧ Hid (NoAt w0 wr g k k' x bl)) (fun _ p _ => k - (intOf p).toNat)
  case atStart => exact ⟨0, [], rfl, Nat.zero_le _, HN0'⟩
  case round => as_aux_lemma =>
    obtain ⟨x, bl, rfl, hx, hN⟩ := hrel
    have hzr := hN.out.below.size
    have p3 := (H2.out.below hN.out.below H2.out.lt).cell 1
    simp only [List.getElem?_toArray, List.getElem?_cons_succ, List.getElem?_cons_zero] at p3
    by_cases hlt : x < k
    · have ii0 : (0 : Int) ≤ (x : Int) := by omega
      have ii1 : (x : Int) < (k : Int) := by omega
      go_wp2_with (at_make; refine wpList_make_full _ rfl _ _ 74 rfl w0.heap.size 4 i2 (.bool false) 1 Tryz.underlying74 hi2 hz20 hz21 .i64 .i64 k' k' k' rfl rfl rfl rfl (by rw [hz22]; omega) (by unfold maxLen; omega) hzr ?_; intro w2 hrow hg2; refine Hid.out ?_)
      refine Lib.hid ?_
      rw [made_falses] at hrow
      have hNx := hN.out.next hlt hrow hg2
      have ho := hN.out.outer.kept hg2 (.inr (by simp [Value.ownBlock]))
      have c1 := ho.cellAt x (by omega)
      have c2 := ho.frozenAt x
      rw [List.getElem?_append_right (by rw [List.length_map, hN.out.len]; exact Nat.le_refl _), List.length_map, hN.out.len, Nat.sub_self, List.getElem?_replicate, if_pos (by omega)] at c1
      have HNx := Lib.hid hNx
      unfold rowV at HNx
      clear hrow hg2 hNx ho p3
      go_wp2
      go_roundw
      case rel => exact ⟨x + 1, _, by go_num, by omega, HNx⟩
      case measure => simp [intOf]; omega
    · have hxk : k = x := by omega
      subst hxk
      have hRel : RelAt wr w0.heap.size g k k' bl (noF k k') := by
        have h1 := hN.out
        refine ⟨noF_shp k k', h1.len, h1.nod, ?_, fun y hy => ?_⟩
        · have := h1.outer
          rwa [Nat.sub_self, List.replicate_zero, List.append_nil] at this
        · have := h1.rows y hy
          have e : (noF k k').getD y [] = List.replicate k' false := by simp [noF, List.getD, hy]
          rw [e]; exact this
      obtain ⟨c1, c2, c3⟩ := hRel.cells (x := 0) (y := 0) (by omega) (by omega)
      have hset := hRel.set (x := 0) (y := 0) (by omega) (by omega)
      have hrow0 := hRel.rows 0 (by omega)
      have hbS : Below w0.heap.size w0 (wr.setCell ⟨bl.getD 0 0, 0, none⟩ (.bool true)) := hN.out.below.setCell (own_ge hrow0 _ rfl) _
      obtain ⟨r0, hr0⟩ : ∃ r, bl.getD 0 0 = r := ⟨_, rfl⟩
      rw [hr0] at c1 c2 c3 hset hbS
      obtain ⟨gb, hgb⟩ : ∃ gb, getF (noF k k') 0 0 = gb := ⟨_, rfl⟩
      rw [hgb] at c2
      obtain ⟨wS, HWS⟩ : ∃ z, Hid (wr.setCell ⟨r0, 0, none⟩ (.bool true) = z) := ⟨_, Lib.hid rfl⟩
      rw [HWS.out] at hset hbS
      have hlit := World.ownsRow_lit (base := w0.heap.size) (e := 75) (size := 2) wS #[.int .i64 0, .int .i64 0] 1 hbS.size (by unfold maxLen; omega) rfl
      have hal : Below wS.heap.size wS (wS.alloc (.cells #[.int .i64 0, .int .i64 0] 75)) := (Below.refl _ wS).alloc (Nat.le_refl _) _
      have HX0 : Hid (ReX w0 (wS.alloc (.cells #[.int .i64 0, .int .i64 0] 75)) g k k' bl (stQ m s 0).2 (.slice (some ⟨wS.heap.size, 0, none⟩) 1 1) (.slice none 0 0) (xyL (stQ m s 0).1 0) []) := Lib.hid
        ⟨by have := hset.below hal; have e : (stQ m s 0).2 = setF (noF k k') 0 0 := by show setF (noF m.states.length s.states.length) 0 0 = _; rw [HKl.out.1, HKl.out.2]
            rw [e]; exact this, hlit, World.ownsRow_nil _ _ _ _, .inl rfl, hbS.alloc hbS.size _⟩
      have hzS : wS.heap.size = wr.heap.size := by rw [← HWS.out]; simp
      have HF0 : Hid (FitsTo m s 0) := Lib.hid (fun k hk => by omega)
      have HL0 := Lib.hid (Lev.zero m s)
      unfold rowV at c1
      have HNL : Hid ((stQ m s 0).1.length = 1) := Lib.hid rfl
      rw [hzS] at HX0
      clear hRel hset hrow0 hbS hlit hal p3 hlt hr0 hgb hx hzS
      go_wp2
      rw [HWS.out]
      go_loopw [9, 10, 11, 13, 15, 16, 51, 68] (fun nvS dpS _ _ _ _ _ _ wr => ∃ (i0 dp : Nat) (na : Option Addr) (nn nc : Nat), nvS = .slice na nn nc ∧ dpS = .int .i64 dp ∧ dp ≤ i0 ∧ i0 ≤ 2500000 ∧ Hid (nn = (stQ m s i0).1.length - i0 ∧ i0 ≤ (stQ m s i0).1.length) ∧ Hid (FitsTo m s i0) ∧ Hid (Lev (stQ m s i0) i0 (stQ m s i0).1.length dp) ∧ Hid (ReX w0 wr g k k' bl (stQ m s i0).2 (.slice na nn nc) (.slice none 0 0) (xyL (stQ m s i0).1 i0) [])) (fun _ dpS _ _ _ _ _ _ _ => 2500001 - (intOf dpS).toNat)
      case atStart => exact ⟨0, 0, _, 1, 1, rfl, rfl, Nat.le_refl _, Nat.zero_le _, Lib.hid ⟨rfl, Nat.zero_le _⟩, HF0, HL0, HX0⟩
      case round => as_aux_lemma =>
        obtain ⟨w5, hw5⟩ : ∃ z, z = wr := ⟨_, rfl⟩
        subst hw5
        obtain ⟨i0, dp, na, nn, nc, rfl, rfl, hdp, hi0, hnn, hF, hLv, hX⟩ := hrel
        clear c1 c2 c3
        obtain ⟨N0, HN0⟩ : ∃ z, Hid ((stQ m s i0).1.length = z) := ⟨_, Lib.hid rfl⟩
        rw [HN0.out] at hnn hLv
        obtain ⟨NL, HNLs⟩ : ∃ z, Hid (xyL (stQ m s i0).1 i0 = z) := ⟨_, Lib.hid rfl⟩
        rw [HNLs.out] at hX
        have HNLl : Hid (NL.length = nn) := Lib.hid (by rw [← HNLs.out, xyL_len, HN0.out, hnn.out.1])
        by_cases h0 : 0 < nn
        · have h0' : (0 : Int) < nn := by omega
          have HX1 : Hid (ReX w0 w5 g k k' bl (stQ m s (i0 + 0)).2 (.slice na nn nc) (.slice none 0 0) NL (xyL (stQ m s (i0 + 0)).1 N0)) := Lib.hid (by
            have e : xyL (stQ m s (i0 + 0)).1 N0 = [] := by rw [Nat.add_zero, ← HN0.out]; exact xyL_end _
            rw [e]; exact hX.out)
          have HL1 : Hid (Lev (stQ m s (i0 + 0)) i0 N0 dp) := hLv
          have HF1 : Hid (FitsTo m s (i0 + 0)) := hF
          have HE1 : Hid (0 = (stQ m s (i0 + 0)).1.length - N0) := Lib.hid (by rw [Nat.add_zero, HN0.out, Nat.sub_self])
          go_wp2
          go_loopw [11, 13, 15, 16, 51, 68] (fun xS _ _ _ rS _ wr => ∃ (r : Nat) (xa : Option Addr) (xn xc : Nat), r ≤ nn ∧ rS = .int .i64 r ∧ xS = .slice xa xn xc ∧ Hid (FitsTo m s (i0 + r)) ∧ Hid (Lev (stQ m s (i0 + r)) i0 N0 dp) ∧ Hid (xn = (stQ m s (i0 + r)).1.length - N0) ∧ Hid (ReX w0 wr g k k' bl (stQ m s (i0 + r)).2 (.slice na nn nc) (.slice xa xn xc) NL (xyL (stQ m s (i0 + r)).1 N0))) (fun _ _ _ _ rS _ _ => nn - (intOf rS).toNat)
          case atStart => exact ⟨0, _, 0, 0, Nat.zero_le _, rfl, rfl, HF1, HL1, HE1, HX1⟩
          case round => as_aux_lemma =>
            obtain ⟨w6, hw6⟩ : ∃ z, z = wr := ⟨_, rfl⟩
            subst hw6
            obtain ⟨r, xa, xn, xc, hr, rfl, rfl, hFr, hLr, hxn, hXr⟩ := hrel
            have hz6 := hXr.out.below.size
            by_cases hlt : r < nn
            · obtain ⟨i, HI⟩ : ∃ z, Hid (i0 + r = z) := ⟨_, Lib.hid rfl⟩
              rw [HI.out] at hFr hLr hxn hXr
              have hil : i < (stQ m s i).1.length := by have := hLr.out.b1; have := HI.out; have := hnn.out; omega
              have hiN : i < N0 := by have := HI.out; have := hnn.out; omega
              have HBf := Lib.hid (bf_at HV.out HSv.out i hFr.out hil)
              obtain ⟨X, HX⟩ : ∃ z, Hid ((wtAt (stQ m s i).1 i).x = z) := ⟨_, Lib.hid rfl⟩
              obtain ⟨Y, HY⟩ : ∃ z, Hid ((wtAt (stQ m s i).1 i).y = z) := ⟨_, Lib.hid rfl⟩
              have hrg := HBf.out.ok.rng i hil
              rw [HX.out, HY.out] at hrg
              have hNLr : NL[r]? = some (X, Y) := by
                rw [← HNLs.out, xyL_at (by rw [HI.out, HN0.out]; exact hiN), HI.out]
                have h9 := (stQ_mono (m := m) (s := s) i0 r).2 i (by rw [HN0.out]; exact hiN)
                rw [HI.out] at h9
                rw [← h9, HX.out, HY.out]
              have hnow := hXr.out.now
              rw [HNLl.out] at hnow
              obtain ⟨bn, rfl, c1, c2⟩ := pair_cells hnow hlt hNLr
              have hal : Below w6.heap.size w6 (w6.alloc (.cells #[.int .i64 X, .int .i64 Y] 75)) := (Below.refl _ w6).alloc (Nat.le_refl _) _
              have HXa := Lib.hid (hXr.out.up hal)
              have hb6 := HXa.out.below
              have HPb := Lib.hid (Whole.new w6 75 #[.int .i64 X, .int .i64 Y])
              have y0 := (H1.out.below hb6 H1.out.lt).cell 0
              have y1 := (H1.out.below hb6 H1.out.lt).cell 1
              have y2 := (H2.out.below hb6 H2.out.lt).cell 0
              have y3 := (H2.out.below hb6 H2.out.lt).cell 1
              simp only [List.getElem?_toArray, List.getElem?_cons_succ, List.getElem?_cons_zero] at y0 y1 y2 y3
              have HGd := good_any (HA.out.below hb6) (HS.out.below hb6) HV.out X (Y : Int) hrg.1 (by have := hrg.2; omega)
              have hfd : goodB m s X (Y : Int) = fitB m s X Y := by unfold goodB; rw [Int.toNat_natCast, decide_eq_true (by omega), Bool.true_and]
              rw [hfd] at HGd
              have HRg := Lib.hid hrg
              have HIl := Lib.hid hil
              have HIN := Lib.hid hiN
              clear hnow hal hb6 hNLr hrg hfd hil hiN
              cases hft : fitB m s X Y
              · rw [hft] at HGd
                have HGd := Lib.hid HGd
                have HNo : Hid (fitB m s (wtAt (stQ m s i).1 i).x (wtAt (stQ m s i).1 i).y = false) := Lib.hid (by rw [HX.out, HY.out]; exact hft)
                have HDp : Hid (lenQ (stQ m s i).1 i = dp) := Lib.hid (hLr.out.lo i (by have := HI.out; omega) HIN.out)
                clear hft
                go_wp2_with fail
                refine HGd.out.mono ?_
                rintro e w7 ⟨rfl, hb7⟩
                have HB7 := Lib.hid (HB0.out.trans ((HXa.out.below.trans (hb7.mono HXa.out.below.size)).mono HB0.out.size))
                clear hb7
                go_wp2
                go_ret3
                exact ⟨HB7.out, .inr ⟨i, dp, hFr.out, HIl.out, HNo.out, HDp.out, rfl⟩⟩
              · rw [hft] at HGd
                have HGd := Lib.hid HGd
                have HFt : Hid (fitB m s X Y = true) := Lib.hid hft
                clear hft
                go_wp2_with fail
                refine HGd.out.mono ?_
                rintro e w7 ⟨rfl, hb7⟩
                have HX7 := Lib.hid (HXa.out.up hb7)
                have HP7 := Lib.hid (HPb.out.below hb7 HPb.out.lt)
                obtain ⟨Pb, HPbn⟩ : ∃ z, Hid (w6.heap.size = z) := ⟨_, Lib.hid rfl⟩
                have HNe7 : Hid ((Value.slice xa xn xc).ownBlock ≠ some Pb) := Lib.hid (fun q => by
                  have := (World.ownsRow.lt hXr.out.nxt _ q).2
                  have := HPbn.out
                  omega)
                rw [HPbn.out] at HP7
                have hb07 := HX7.out.below
                have y4 := (H1.out.below hb07 H1.out.lt).cell 1
                have p0 := HP7.out.cell 0
                simp only [List.getElem?_toArray, List.getElem?_cons_succ, List.getElem?_cons_zero] at y4 p0
                obtain ⟨bx, off, rfl, ai, ni, ci, e10, hE⟩ := HA.out.rows X HRg.out.1
                have e1 := (hb07.cell (lt_of_cell e10)).trans e10
                have HE := Lib.hid hE
                have hX0 : (0 : Int) ≤ (X : Int) := by omega
                have hX1 : (X : Int) < (k : Int) := by have := HRg.out.1; have := HKl.out.1; omega
                have hni : ni ≤ 400000 := by
                  have h3 := hE.len
                  have h4 := total_take m.states X HRg.out.1
                  have h5 := total_take_le m.states (X + 1)
                  have := ((sysB_iff m).1 HV.out).2.2.2.2
                  omega
                have HX4 : Hid (ReX w0 w7 g k k' bl (inQ m s i (stQ m s i) 0).2 (.slice (some ⟨bn, 0, none⟩) nn nc) (.slice xa xn xc) NL (xyL (inQ m s i (stQ m s i) 0).1 N0)) := by rw [inQ_zero]; exact HX7
                have HE4 : Hid (xn = (inQ m s i (stQ m s i) 0).1.length - N0) := by rw [inQ_zero]; exact hxn
                have HEl : Hid ((stAt m.states (wtAt (stQ m s i).1 i).x).length = ni) := Lib.hid (by rw [HX.out]; exact hE.len.symm)
                have HLj : Hid (∀ j, j ≤ ni → Lev (inQ m s i (stQ m s i) j) i0 N0 dp ∧ (inQ m s i (stQ m s i) j).1.length ≤ 2500000) := Lib.hid (fun j hj => by
                  have hft' : fitB m s (wtAt (stQ m s i).1 i).x (wtAt (stQ m s i).1 i).y = true := by rw [HX.out, HY.out]; exact HFt.out
                  have hj' : j ≤ (stAt m.states (wtAt (stQ m s i).1 i).x).length := by rw [HEl.out]; exact hj
                  refine ⟨Lev.inq HV.out HSv.out hLr.out HBf.out hft' (by have := HI.out; omega) HIN.out j hj', ?_⟩
                  have h1 := (Bf.inq HV.out HSv.out HBf.out hft' j hj').1.ok
                  have h2 := cntF_le h1.shp
                  rw [h1.cnt, HKl.out.1, HKl.out.2] at h2
                  omega)
                have HH7 := Lib.hid hb07
                clear hb7 hb07 hE c1 c2 y0 y1 y2 y3 e10
                rw [HPbn.out]
                go_wp2
                go_loopw [11, 15, 16, 68] (fun xS _ _ jS wr => ∃ (j : Nat) (xa : Option Addr) (xn xc : Nat), j ≤ ni ∧ jS = .int .i64 j ∧ xS = .slice xa xn xc ∧ Hid (xn = (inQ m s i (stQ m s i) j).1.length - N0) ∧ Hid (ReX w0 wr g k k' bl (inQ m s i (stQ m s i) j).2 (.slice (some ⟨bn, 0, none⟩) nn nc) (.slice xa xn xc) NL (xyL (inQ m s i (stQ m s i) j).1 N0)) ∧ Hid (Whole wr Pb 75 #[.int .i64 X, .int .i64 Y]) ∧ Hid ((Value.slice xa xn xc).ownBlock ≠ some Pb)) (fun _ _ _ jS _ => ni - (intOf jS).toNat)
                case atStart => exact ⟨0, _, _, _, Nat.zero_le _, rfl, rfl, HE4, HX4, HP7, HNe7⟩
                case round => as_aux_lemma =>
                  obtain ⟨w8, hw8⟩ : ∃ z, z = wr := ⟨_, rfl⟩
                  subst hw8
                  obtain ⟨j, xa, xn, xc, hj, rfl, rfl, hxj, hXj, hPj, hNj⟩ := hrel
                  have hz8 := hXj.out.below.size
                  by_cases hlt4 : j < ni
                  · have hjl : j < (stAt m.states X).length := by have := HE.out.len; omega
                    obtain ⟨be, oe, rfl, d1, d2⟩ := (HE.out.cells.below hXj.out.below) j hjl
                    have hef := edge_ok HV.out HRg.out.1 hjl
                    have hfn := fit_next HV.out HSv.out HRg.out.1 HRg.out.2 HFt.out hjl
                    obtain ⟨u, hu⟩ := Int.eq_ofNat_of_zero_le hef.1
                    obtain ⟨v, hvv⟩ := Int.eq_ofNat_of_zero_le hef.2.2.1
                    obtain ⟨z, hzz⟩ := Int.eq_ofNat_of_zero_le hfn.2.1
                    rw [hu] at d1 hfn hzz
                    rw [Int.toNat_natCast] at hfn hzz
                    rw [hvv] at d2
                    have hvk : v < k := by have := hef.2.2.2; have := HKl.out.1; omega
                    have hzk : z < k' := by have := hfn.2.2; have := HKl.out.2; omega
                    have HEd : Hid ((edAt (stAt m.states X) j).2.toNat = v ∧ nextY s Y (edAt (stAt m.states X) j).1 = z) := Lib.hid ⟨by rw [hvv]; simp, by unfold nextY; rw [hu, Int.toNat_natCast, hzz]; simp⟩
                    obtain ⟨bs, os, e, a1, n1, c1', a2, n2, c2, f1, f2, hN1, hN2⟩ := (HS.out.below hXj.out.below).rows Y HRg.out.2
                    cases e
                    obtain ⟨bn2, on2, e, d3⟩ := hN2.arg.cells u hfn.1
                    cases e
                    rw [hzz] at d3
                    have x3 := (H2.out.below hXj.out.below H2.out.lt).cell 1
                    have p1 := hPj.out.cell 1
                    simp only [List.getElem?_toArray, List.getElem?_cons_succ, List.getElem?_cons_zero] at x3 p1
                    have hal : Below w8.heap.size w8 (w8.alloc (.cells #[.int .i64 u, .int .i64 v] 69)) := (Below.refl _ w8).alloc (Nat.le_refl _) _
                    have HXe := Lib.hid (hXj.out.up hal)
                    have hWe := Whole.new w8 69 #[.int .i64 u, .int .i64 v]
                    have HPe := Lib.hid (hPj.out.below hal hPj.out.lt)
                    obtain ⟨wE, HwE⟩ : ∃ z, Hid (w8.alloc (.cells #[.int .i64 u, .int .i64 v] 69) = z) := ⟨_, Lib.hid rfl⟩
                    have t0 : wE.cell? ⟨w8.heap.size, 0, none⟩ = some (.int .i64 u) := by rw [← HwE.out]; exact hWe.cell 0
                    have t1 : wE.cell? ⟨w8.heap.size, 1, none⟩ = some (.int .i64 v) := by rw [← HwE.out]; exact hWe.cell 1
                    have hzE : wE.heap.size = w8.heap.size + 1 := by rw [← HwE.out]; simp
                    rw [HwE.out] at hal HXe HPe
                    have t2 := up_cell hal x3
                    have t3 := up_cell hal p1
                    have t4 := up_cell hal f2
                    have t5 := up_cell hal d3
                    have hY0 : (0 : Int) ≤ (Y : Int) := by omega
                    have hY1 : (Y : Int) < (k' : Int) := by have := HRg.out.2; have := HKl.out.2; omega
                    have hu0 : (0 : Int) ≤ (u : Int) := by omega
                    have hu1 : (u : Int) < (n2 : Int) := by have := hN2.arg.len; have := hfn.1; omega
                    have hl1 := lt_of_cell t0
                    have hl2 := lt_of_cell t2
                    have hl3 := lt_of_cell t3
                    have hl4 := lt_of_cell t4
                    have hl5 := lt_of_cell t5
                    have HZE := Lib.hid hzE
                    have HXn := Lib.hid hXj.out.nxt
                    simp only at hl1 hl2 hl3 hl4 hl5
                    clear hal hWe hN1 hN2 hef hfn hu hvv hzz x3 p1 f1 f2 d3 hjl hzE
                    go_wp2
                    rw [HwE.out]
                    have hq0 := Whole.new wE 75 #[.int .i64 v, .int .i64 z]
                    have hbQ : Below wE.heap.size wE (wE.alloc (.cells #[.int .i64 v, .int .i64 z] 75)).drew := ((Below.refl _ wE).alloc (Nat.le_refl _) _).drew
                    have HXQ := Lib.hid (HXe.out.up hbQ)
                    have HPQ := Lib.hid (HPe.out.below hbQ HPe.out.lt)
                    have HqQ : Hid (Whole (wE.alloc (.cells #[.int .i64 v, .int .i64 z] 75)).drew wE.heap.size 75 #[.int .i64 v, .int .i64 z]) := Lib.hid hq0
                    clear hq0 hbQ
                    as_aux_lemma =>
                    go_region
                    as_aux_lemma =>
                    obtain ⟨wQ, HwQ⟩ : ∃ y, Hid ((wE.alloc (.cells #[.int .i64 v, .int .i64 z] 75)).drew = y) := ⟨_, Lib.hid rfl⟩
                    rw [HwQ.out] at HXQ HPQ HqQ
                    rw [HwQ.out]
                    have s0 := HqQ.out.cell 0
                    have s1 := HqQ.out.cell 1
                    simp only [List.getElem?_toArray, List.getElem?_cons_succ, List.getElem?_cons_zero] at s0 s1
                    obtain ⟨c1, c2, c3⟩ := HXQ.out.rel.cells hvk hzk
                    obtain ⟨rb, hrb⟩ : ∃ y, bl.getD v 0 = y := ⟨_, rfl⟩
                    rw [hrb] at c1 c2 c3
                    unfold rowV at c1
                    obtain ⟨gf, HGf⟩ : ∃ y, Hid (getF (inQ m s i (stQ m s i) j).2 v z = y) := ⟨_, Lib.hid rfl⟩
                    rw [HGf.out] at c2
                    have hv0 : (0 : Int) ≤ (v : Int) := by omega
                    have hv1 : (v : Int) < (k : Int) := by omega
                    have hz0' : (0 : Int) ≤ (z : Int) := by omega
                    have hz1' : (z : Int) < (k' : Int) := by omega
                    have HRb := Lib.hid hrb
                    have HNx : Hid (inQ m s i (stQ m s i) (j + 1) = addQ s i (wtAt (stQ m s i).1 i).y (inQ m s i (stQ m s i) j) (edAt (stAt m.states X) j)) := Lib.hid (by
                      rw [inQ_next m s i _ j (by rw [HEl.out]; exact hlt4), HX.out])
                    have hl6 := lt_of_cell s0
                    have hl7 := lt_of_cell c1
                    have hl8 := lt_of_cell c2
                    simp only at hl6 hl7 hl8
                    clear t0 t1 t2 t3 t4 t5 hl1 hl2 hl3 hl4 hl5 hrb hY0 hY1 hu0 hu1
                    clear p0 y4 e1 d1 d2 hX0 hX1 hz6 hz8 h0 h0' hr hlt hzr hkk hi0 hdp hl6 hl7 hl8 hk1 hk1' hj
                    cases gf
                    · as_aux_lemma =>
                      have hrow := HXQ.out.rel.rows v hvk
                      have hne1 : wE.heap.size ≠ rb := fun e => own_whole hrow HqQ.out (by decide) (by rw [e, ← HRb.out]; rfl)
                      have hne2 : Pb ≠ rb := fun e => own_whole hrow HPQ.out (by decide) (by rw [e, ← HRb.out]; rfl)
                      have HXv : Hid (∀ q, ReX w0 ((wQ.drewN q).setCell ⟨rb, z, none⟩ (.bool true)) g k k' bl (setF (inQ m s i (stQ m s i) j).2 v z) (.slice (some ⟨bn, 0, none⟩) nn nc) (.slice xa xn xc) NL (xyL (inQ m s i (stQ m s i) j).1 N0)) := Lib.hid (fun q => by
                        have h1 := (HXQ.out.drewN q).mark hvk hzk
                        rw [HRb.out] at h1
                        exact h1)
                      have HPv : Hid (∀ q, Whole ((wQ.drewN q).setCell ⟨rb, z, none⟩ (.bool true)) Pb 75 #[.int .i64 X, .int .i64 Y]) := Lib.hid (fun q => (whole_drewN HPQ.out q).far hne2 _)
                      have Hqv : Hid (∀ q, Whole ((wQ.drewN q).setCell ⟨rb, z, none⟩ (.bool true)) wE.heap.size 75 #[.int .i64 v, .int .i64 z]) := Lib.hid (fun q => (whole_drewN HqQ.out q).far hne1 _)
                      have HSm : Hid ((inQ m s i (stQ m s i) (j + 1)).1.length - N0 = xn + 1 ∧ xyL (inQ m s i (stQ m s i) (j + 1)).1 N0 = xyL (inQ m s i (stQ m s i) j).1 N0 ++ [(v, z)] ∧ (inQ m s i (stQ m s i) (j + 1)).2 = setF (inQ m s i (stQ m s i) j).2 v z) := Lib.hid (by
                        have hb1 := (HLj.out j (by omega)).1.b1
                        have hx := hxj.out
                        have hgf := HGf.out
                        rw [HNx.out]
                        unfold addQ
                        rw [HY.out, HEd.out.1, HEd.out.2, hgf, if_neg (by decide)]
                        refine ⟨?_, xyL_snoc _ _ hb1, rfl⟩
                        simp only [List.length_append, List.length_singleton]
                        omega)
                      have HXl : Hid ((xyL (inQ m s i (stQ m s i) j).1 N0).length = xn) := Lib.hid (by rw [xyL_len, hxj.out])
                      have hxn9 : xn ≤ 2500000 := by have := (HLj.out j (by omega)).2; have := hxj.out; omega
                      clear hrow hne1 hne2
                      go_wp2
                      as_aux_lemma =>
                      go_quiet (fail)
                      as_aux_lemma =>
                      go_wp2
                      as_aux_lemma =>
                      obtain ⟨wD, HwD⟩ : ∃ y, Hid (wQ.drewN nq = y) := ⟨_, Lib.hid rfl⟩
                      rw [HwD.out]
                      have hX9 := HXv.out nq
                      have hP9 := HPv.out nq
                      have hq9 := Hqv.out nq
                      obtain ⟨c1, c2, c3⟩ := (HXQ.out.drewN nq).rel.cells hvk hzk
                      have s0 := (whole_drewN HqQ.out nq).cell 0
                      have s1 := (whole_drewN HqQ.out nq).cell 1
                      simp only [List.getElem?_toArray, List.getElem?_cons_succ, List.getElem?_cons_zero] at s0 s1
                      rw [HwD.out] at hX9 hP9 hq9 c1 c2 c3 s0 s1
                      rw [HRb.out] at c1 c2 c3
                      rw [HGf.out] at c2
                      unfold rowV at c1
                      have HX9 := Lib.hid hX9
                      have HP9 := Lib.hid hP9
                      have Hq9 := Lib.hid hq9
                      have HOW : Hid ((xyL (inQ m s i (stQ m s i) j).1 N0).length = xn ∧ w0.heap.size ≤ wD.heap.size) := Lib.hid ⟨HXl.out, by rw [← HwD.out]; exact (HXQ.out.drewN nq).below.size⟩
                      clear HXv HPv Hqv hX9 hP9 hq9 HXQ HPQ HqQ HXl HNx HGf HXe HPe hXj hPj HwQ HwD HRb
                      obtain ⟨w9, Hw9⟩ : ∃ y, Hid ((wD.setCell ⟨rb, z, none⟩ (.bool true)).drew = y) := ⟨_, Lib.hid rfl⟩
                      have HX9 := Lib.hid (HX9.out.up (Below.refl _ _).drew)
                      have HP9 := Lib.hid (HP9.out.below (Below.refl _ _).drew HP9.out.lt)
                      have Hq9 := Lib.hid (Hq9.out.below (Below.refl _ _).drew Hq9.out.lt)
                      rw [Hw9.out] at HX9 HP9 Hq9
                      obtain ⟨Qb, HQb⟩ : ∃ y, Hid (wE.heap.size = y) := ⟨_, Lib.hid rfl⟩
                      rw [HQb.out] at Hq9 s0 s1
                      rw [HQb.out]
                      as_aux_lemma =>
                      go_still_tail 8, (by kernel_rfl)
                      change wpList _ _ _ _ _ wD.drew
                      have c2 : wD.drew.cell? ⟨rb, z, none⟩ = some (.bool false) := c2
                      have c3 : wD.drew.frozen? ⟨rb, z, none⟩ = false := c3
                      clear s0 s1
                      go_upto_region 24 with (fail)
                      first | rw [Hw9.out] | (rw [show (wD.drew.setCell ⟨rb, z, none⟩ (.bool true)) = w9 from Hw9.out])
                      clear c1 c2 c3
                      as_aux_lemma =>
                      have r0 := Hq9.out.cell 0
                      have r1 := Hq9.out.cell 1
                      simp only [List.getElem?_toArray, List.getElem?_cons_succ, List.getElem?_cons_zero] at r0 r1
                      have hal : Below w9.heap.size w9 (w9.alloc (.cells #[.int .i64 v, .int .i64 z] 75)) := (Below.refl _ w9).alloc (Nat.le_refl _) _
                      have HXA := Lib.hid (HX9.out.up hal)
                      have HOW2 : Hid (∀ o, (w9.alloc o).ownsRow w0.heap.size 75 2 (.slice xa xn xc) xn (pcells (xyL (inQ m s i (stQ m s i) j).1 N0))) := Lib.hid (fun o => by
                        have h1 := HX9.out.nxt
                        rw [HOW.out.1] at h1
                        exact h1.alloc o)
                      have hbV : w0.heap.size ≤ w9.heap.size := HX9.out.below.size
                      have HPz : Hid (Pb < w9.heap.size) := Lib.hid HP9.out.lt
                      have HPA := Lib.hid (HP9.out.below hal HP9.out.lt)
                      clear hal HX9 HP9 Hq9 Hw9
                      go_wp2_with (at_builtin; (refine wpList_append_sz rfl (.tmp 104) (.tmp 106) 34 rfl w0.heap.size 75 i3 (.agg #[.int .i64 0, .int .i64 0]) 2 16 Tryz.underlying34 hi3 hz30 hz31 hz32 rfl (by decide) (.slice xa xn xc) rfl xn (pcells (xyL (inQ m s i (stQ m s i) j).1 N0)) (HOW2.out _) (some ⟨w9.heap.size, 0, none⟩) 1 1 rfl [.int .i64 v, .int .i64 z] (fun h => by cases h) rfl (pair_src _ _ _ _) (by simp [Value.oneCell']) (by unfold maxLen; omega) (by omega) (by simp; omega) ?_); intro v4 w4 hv4 hg4 hat4; refine Hid.out ?_)
                      refine Lib.hid ?_
                      as_aux_lemma =>
                      have hX4 : ReX w0 w4 g k k' bl (inQ m s i (stQ m s i) (j + 1)).2 (.slice (some ⟨bn, 0, none⟩) nn nc) v4 NL (xyL (inQ m s i (stQ m s i) (j + 1)).1 N0) := by
                        rw [HSm.out.2.1, HSm.out.2.2]
                        exact HXA.out.push hg4 (by rw [HOW.out.1]; exact hv4) hat4
                      have HN4 : Hid (xn + 1 = (inQ m s i (stQ m s i) (j + 1)).1.length - N0) := Lib.hid HSm.out.1.symm
                      have HP4 : Hid (Whole w4 Pb 75 #[.int .i64 X, .int .i64 Y]) := Lib.hid (HPA.out.grown hg4 (fun e => hNj.out e.symm))
                      have hPz := HPz.out
                      obtain ⟨va, vc, rfl⟩ := own_slice' hv4
                      have HNe4 : Hid ((Value.slice va (xn + 1) vc).ownBlock ≠ some Pb) := Lib.hid (fun q => by
                        rcases hat4 with e | e
                        · exact hNj.out (e.symm.trans q)
                        · rw [e] at q
                          have q2 : (w9.alloc (.cells #[.int .i64 v, .int .i64 z] 75)).heap.size = Pb := Option.some.inj q
                          rw [World.size_alloc] at q2
                          omega)
                      have HX4 := Lib.hid hX4
                      clear hv4 hg4 hat4 hX4 r0 r1
                      go_wp2
                      go_roundw
                      case rel => exact ⟨j + 1, _, _, _, by omega, by go_num, rfl, HN4, HX4, HP4, HNe4⟩
                      case measure => simp [intOf]; omega
                    · as_aux_lemma =>
                      have HSm : Hid (inQ m s i (stQ m s i) (j + 1) = inQ m s i (stQ m s i) j) := Lib.hid (by
                        rw [HNx.out]
                        unfold addQ
                        rw [HY.out, HEd.out.1, HEd.out.2, HGf.out, if_pos rfl])
                      have hXd := HXQ.out.drewN
                      have hPd := whole_drewN HPQ.out
                      rw [← HSm.out] at hXd hxj
                      have HXd := Lib.hid hXd
                      have HPd := Lib.hid hPd
                      clear hXd hPd
                      go_wp2
                      as_aux_lemma =>
                      go_quiet (fail)
                      as_aux_lemma =>
                      go_wp2
                      go_roundw
                      case rel => exact ⟨j + 1, _, _, _, by omega, by go_num, rfl, hxj, Lib.hid (HXd.out _), Lib.hid (HPd.out _), hNj⟩
                      case measure => simp [intOf]; omega
                  · have hjn : ni = j := by omega
                    subst hjn
                    have HFul : Hid (inQ m s i (stQ m s i) ni = stQ m s (i0 + (r + 1))) := Lib.hid (by
                      have e1 : i0 + (r + 1) = i + 1 := by have := HI.out; omega
                      rw [e1, ← HEl.out]
                      rfl)
                    have HFn : Hid (FitsTo m s (i0 + (r + 1))) := Lib.hid (by
                      have e1 : i0 + (r + 1) = i + 1 := by have := HI.out; omega
                      rw [e1]
                      exact fits_next hFr.out HIl.out (by rw [HX.out, HY.out]; exact HFt.out))
                    have HLn : Hid (Lev (stQ m s (i0 + (r + 1))) i0 N0 dp) := Lib.hid (by rw [← HFul.out]; exact (HLj.out ni (Nat.le_refl _)).1)
                    have hnn9 : nn ≤ 2500000 := by
                      have h1 := HLj.out ni (Nat.le_refl _)
                      have h2 := h1.1.b1
                      have h3 := h1.2
                      have h4 := hnn.out
                      omega
                    rw [HFul.out] at hxj hXj
                    go_wp2
                    go_roundw
                    case rel => exact ⟨r + 1, _, _, _, by omega, by go_num, rfl, HFn, HLn, hxj, hXj⟩
                    case measure => simp [intOf]; omega
            · have hrn : nn = r := by omega
              subst hrn
              have HEq : Hid (i0 + nn = N0) := Lib.hid (by have := hnn.out; omega)
              have HBd : Hid ((stQ m s N0).1.length ≤ 2500000 ∧ N0 ≤ (stQ m s N0).1.length) := Lib.hid (by
                rw [HEq.out] at hFr hLr
                refine ⟨?_, hLr.out.b1⟩
                have h1 := okq_at HV.out HSv.out N0 hFr.out
                have h2 := cntF_le h1.shp
                rw [h1.cnt, HKl.out.1, HKl.out.2] at h2
                omega)
              rw [HEq.out] at hFr hLr hxn hXr
              have HLn : Hid (Lev (stQ m s N0) N0 (stQ m s N0).1.length (dp + 1)) := Lib.hid hLr.out.level
              have HXn : Hid (ReX w0 w6 g k k' bl (stQ m s N0).2 (.slice xa xn xc) (.slice none 0 0) (xyL (stQ m s N0).1 N0) []) := Lib.hid hXr.out.swap
              have hdN : dp + 1 ≤ N0 := by have := HEq.out; omega
              have hN0 : N0 ≤ 2500000 := by have := HBd.out; omega
              have HXl : Hid (xn = (stQ m s N0).1.length - N0 ∧ N0 ≤ (stQ m s N0).1.length) := Lib.hid ⟨hxn.out, HBd.out.2⟩
              go_wp2
              go_roundw
              case rel => exact ⟨N0, dp + 1, _, _, _, rfl, by go_num, hdN, hN0, HXl, hFr, HLn, HXn⟩
              case measure => simp [intOf]; omega
        · have HYes : Hid (SatYes m s (allF (stQ m s i0).2)) := Lib.hid ⟨i0, hF.out, by rw [HN0.out]; have := hnn.out; omega, rfl⟩
          obtain ⟨F, HFF⟩ : ∃ z, Hid ((stQ m s i0).2 = z) := ⟨_, Lib.hid rfl⟩
          rw [HFF.out] at HYes hX
          clear hF hLv hnn HN0 HNLs HNLl hdp hi0
          have HP0 : Hid (ReX w0 w5 g k k' bl F (.slice none 0 0) (.slice none 0 0) [] (preO F 0)) := Lib.hid (by rw [preO_zero]; exact hX.out.swap)
          have HNl : Hid (0 = (preO F 0).length) := Lib.hid (by rw [preO_zero]; rfl)
          clear hX
          go_wp2
          go_loopw [17, 18, 19, 20, 113, 121] (fun pS _ _ _ xS _ wr => ∃ (x : Nat) (pa : Option Addr) (pn pc : Nat), x ≤ k ∧ xS = .int .i64 x ∧ pS = .slice pa pn pc ∧ Hid (pn = (preO F x).length) ∧ Hid (ReX w0 wr g k k' bl F (.slice none 0 0) (.slice pa pn pc) [] (preO F x))) (fun _ _ _ _ xS _ _ => k - (intOf xS).toNat)
          case atStart => exact ⟨0, _, 0, 0, Nat.zero_le _, rfl, rfl, HNl, HP0⟩
          case round => as_aux_lemma =>
            obtain ⟨w6, hw6⟩ : ∃ z, z = wr := ⟨_, rfl⟩
            subst hw6
            obtain ⟨x, pa, pn, pc, hx, rfl, rfl, hpn, hP⟩ := hrel
            by_cases hlt : x < k
            · obtain ⟨c1, _, _⟩ := hP.out.rel.cells (x := x) (y := 0) hlt (by omega)
              unfold rowV at c1
              obtain ⟨rb, HRb⟩ : ∃ y, Hid (bl.getD x 0 = y) := ⟨_, Lib.hid rfl⟩
              rw [HRb.out] at c1
              have hx0 : (0 : Int) ≤ (x : Int) := by omega
              have hx1 : (x : Int) < (k : Int) := by omega
              have HP1 : Hid (ReX w0 w6 g k k' bl F (.slice none 0 0) (.slice pa pn pc) [] (preI F x 0)) := Lib.hid (by rw [preI_zero]; exact hP.out)
              have HN1 : Hid (pn = (preI F x 0).length) := Lib.hid (by rw [preI_zero]; exact hpn.out)
              clear hP hpn
              go_wp2
              go_loopw [17, 19, 20, 121] (fun pS _ _ yS wr => ∃ (y : Nat) (pa : Option Addr) (pn pc : Nat), y ≤ k' ∧ yS = .int .i64 y ∧ pS = .slice pa pn pc ∧ Hid (pn = (preI F x y).length) ∧ Hid (ReX w0 wr g k k' bl F (.slice none 0 0) (.slice pa pn pc) [] (preI F x y))) (fun _ _ _ yS _ => k' - (intOf yS).toNat)
              case atStart => exact ⟨0, _, _, _, Nat.zero_le _, rfl, rfl, HN1, HP1⟩
              case round => as_aux_lemma =>
                obtain ⟨w8, hw8⟩ : ∃ z, z = wr := ⟨_, rfl⟩
                subst hw8
                obtain ⟨y, pa, pn, pc, hy, rfl, rfl, hpn, hP⟩ := hrel
                by_cases hlt2 : y < k'
                · obtain ⟨_, c2, _⟩ := hP.out.rel.cells hlt hlt2
                  rw [HRb.out] at c2
                  have hy0 : (0 : Int) ≤ (y : Int) := by omega
                  have hy1 : (y : Int) < (k' : Int) := by omega
                  have hb8 := hP.out.below.size
                  have hle := preI_len hP.out.rel.shp hlt hy
                  rw [← hpn.out] at hle
                  cases gf : getF F x y
                  · rw [gf] at c2
                    have HN2 : Hid (pn = (preI F x (y + 1)).length) := Lib.hid (by rw [preI_no gf]; exact hpn.out)
                    have HP2 : Hid (ReX w0 w8 g k k' bl F (.slice none 0 0) (.slice pa pn pc) [] (preI F x (y + 1))) := Lib.hid (by rw [preI_no gf]; exact hP.out)
                    clear gf hP hpn
                    go_wp2
                    go_roundw
                    case rel => exact ⟨y + 1, _, _, _, by omega, by go_num, rfl, HN2, HP2⟩
                    case measure => simp [intOf]; omega
                  · rw [gf] at c2
                    have hbA := (Below.refl w8.heap.size w8).alloc (Nat.le_refl _) (.cells #[.int .i64 x, .int .i64 y] 75)
                    have HPA := Lib.hid (hP.out.up hbA)
                    have HOW2 : Hid (∀ o, (w8.alloc o).ownsRow w0.heap.size 75 2 (.slice pa pn pc) pn (pcells (preI F x y))) := Lib.hid (fun o => by
                      have h1 := hP.out.nxt
                      rw [← hpn.out] at h1
                      exact h1.alloc o)
                    have HGf := Lib.hid gf
                    clear gf hP hbA
                    go_wp2_with (at_builtin; (refine wpList_append_sz rfl (.tmp 127) (.tmp 131) 34 rfl w0.heap.size 75 i3 (.agg #[.int .i64 0, .int .i64 0]) 2 16 Tryz.underlying34 hi3 hz30 hz31 hz32 rfl (by decide) (.slice pa pn pc) rfl pn (pcells (preI F x y)) (HOW2.out _) (some ⟨w8.heap.size, 0, none⟩) 1 1 rfl [.int .i64 x, .int .i64 y] (fun h => by cases h) rfl (pair_src _ _ _ _) (by simp [Value.oneCell']) (by unfold maxLen; omega) (by omega) (by simp; omega) ?_); intro v4 w4 hv4 hg4 hat4; refine Hid.out ?_)
                    refine Lib.hid ?_
                    have hP4 : ReX w0 w4 g k k' bl F (.slice none 0 0) v4 [] (preI F x (y + 1)) := by
                      rw [preI_yes HGf.out]
                      exact HPA.out.push hg4 (by rw [← hpn.out]; exact hv4) hat4
                    have HN4 : Hid (pn + 1 = (preI F x (y + 1)).length) := Lib.hid (by rw [preI_yes HGf.out, List.length_append, ← hpn.out]; rfl)
                    obtain ⟨va, vc, rfl⟩ := own_slice' hv4
                    have HP4 := Lib.hid hP4
                    clear hv4 hg4 hat4 hP4
                    go_wp2
                    go_roundw
                    case rel => exact ⟨y + 1, _, _, _, by omega, by go_num, rfl, HN4, HP4⟩
                    case measure => simp [intOf]; omega
                · have hyk : k' = y := by omega
                  have HN2 : Hid (pn = (preO F (x + 1)).length) := Lib.hid (by rw [← preI_row hP.out.rel.shp hlt, hyk]; exact hpn.out)
                  have HP2 : Hid (ReX w0 w8 g k k' bl F (.slice none 0 0) (.slice pa pn pc) [] (preO F (x + 1))) := Lib.hid (by
                    have h1 := preI_row hP.out.rel.shp hlt
                    rw [← h1, hyk]
                    rw [hyk] at hP
                    exact hP.out)
                  go_wp2
                  go_roundw
                  case rel => exact ⟨x + 1, _, _, _, by omega, by go_num, rfl, HN2, HP2⟩
                  case measure => simp [intOf]; omega
            · have hxk : k = x := by omega
              have HA9 : Hid (allF F = preO F x) := Lib.hid (by rw [allF_preO, hP.out.rel.shp.1, hxk])
              have HF9 : Hid (w6.ownsRow w.heap.size 75 2 (.slice pa pn pc) (allF F).length (pcells (allF F))) := Lib.hid (by rw [HA9.out]; exact own_low hP.out.nxt HB0.out.size)
              have HB9 := Lib.hid (HB0.out.trans (hP.out.below.mono HB0.out.size))
              clear hP hpn
              go_wp2
              go_ret3
              exact ⟨HB9.out, .inl ⟨allF F, _, HYes.out, rfl, HF9.out⟩⟩
end Go.Proofs.YtgpfpnenpgnogaaGreatDoor
