/- Texts joined: SatH, SatI, SatJ, SatK. -/
import Derived.Test.YtohljainhkdiiaaGreatDoorJp22
import Derived.Test.YtohljainhkdiiaaGreatDoorJp13
/- noPairs: the table without marks. -/
namespace Go.Proofs.YtohljainhkdiiaaGreatDoor
open Go.RowKit Pl

theorem made_falses (k : Nat) : (madeCells (Value.bool false).cells (k * 1)).toList = (List.replicate k false).map Value.bool := by
  refine List.ext_getElem (by simp [madeCells]) fun i h1 h2 => ?_
  simp [madeCells, Value.cells, Nat.mod_one]
theorem made_nils (k : Nat) : (madeCells (Value.slice none 0 0).cells (k * 1)).toList = List.replicate k (.slice none 0 0) := by
  refine List.ext_getElem (by simp [madeCells]) fun i h1 h2 => ?_
  simp [madeCells, Value.cells, Nat.mod_one]
theorem set_next (l : List Value) (k x : Nat) (v z : Value) (hl : l.length = x) (hx : x < k) : (l ++ List.replicate (k - x) z).set x v = (l ++ [v]) ++ List.replicate (k - (x + 1)) z := by
  rw [List.set_append_right _ _ (by omega), hl, Nat.sub_self, show k - x = (k - (x + 1)) + 1 by omega, List.replicate_succ, List.set_cons_zero]
  simp
/-- where noPairs stands behind x rows -/
structure NoAt (w W : World) (g k b : Nat) (x : Nat) (bl : List Nat) : Prop where
  len : bl.length = x
  nod : ∀ y z, y < x → z < x → bl.getD y 0 = bl.getD z 0 → y = z
  outer : W.ownsRow w.heap.size 95 1 (.slice (some ⟨g, 0, none⟩) k k) k (bl.map (rowV b) ++ List.replicate (k - x) (.slice none 0 0))
  rows : ∀ y, y < x → W.ownsRow w.heap.size 4 1 (rowV b (bl.getD y 0)) b ((List.replicate b false).map Value.bool)
  below : Below w.heap.size w W
theorem NoAt.next {w W W' : World} {g k b x : Nat} {bl : List Nat} (h : NoAt w W g k b x bl) (hx : x < k) (hrow : W'.ownsRow w.heap.size 4 1 (rowV b W.heap.size) b ((List.replicate b false).map Value.bool)) (hg : W.grownBy W' none) :
    NoAt w (W'.setCell ⟨g, x, none⟩ (rowV b W.heap.size)) g k b (x + 1) (bl ++ [W.heap.size]) := by
  have ho := h.outer.kept hg (.inr (by simp [Value.ownBlock]))
  have hst := ho.stored x (rowV b W.heap.size)
  rw [set_next _ k x _ _ (by rw [List.length_map]; exact h.len) hx] at hst
  have hold : ∀ y, y < x → bl.getD y 0 < W.heap.size := fun y hy => ((h.rows y hy).lt _ rfl).2
  have hgl : ∀ y, y < x → (bl ++ [W.heap.size]).getD y 0 = bl.getD y 0 := fun y hy => by
    rw [List.getD_eq_getElem?_getD, List.getElem?_append_left (by rw [h.len]; exact hy), ← List.getD_eq_getElem?_getD]
  have hgx : (bl ++ [W.heap.size]).getD x 0 = W.heap.size := by
    rw [List.getD_eq_getElem?_getD, List.getElem?_append_right (by rw [h.len]; exact Nat.le_refl _), h.len, Nat.sub_self]; rfl
  refine ⟨by simp [h.len], fun y z hy hz e => ?_, ?_, fun y hy => ?_, ((h.below.grown hg h.below.size (fun q hq => by cases hq))).setCell (p := ⟨g, x, none⟩) (by have := own_ge h.outer g rfl; simpa using this) _⟩
  · by_cases e1 : y < x
    · by_cases e2 : z < x
      · rw [hgl y e1, hgl z e2] at e; exact h.nod y z e1 e2 e
      · obtain rfl : z = x := by omega
        rw [hgl y e1, hgx] at e; have := hold y e1; omega
    · obtain rfl : y = x := by omega
      by_cases e2 : z < y
      · rw [hgl z e2, hgx] at e; have := hold z e2; omega
      · omega
  · rw [List.map_append]; exact hst.1
  · by_cases e1 : y < x
    · rw [hgl y e1]
      exact ((h.rows y e1).kept hg (.inr (by simp [Value.ownBlock, rowV]))).kept hst.2 (own_apart ((h.rows y e1).kept hg (.inr (by simp [Value.ownBlock, rowV]))) ho (by decide))
    · obtain rfl : y = x := by omega
      rw [hgx]
      exact hrow.kept hst.2 (own_apart hrow ho (by decide))

set_option maxRecDepth 100000 in
set_option maxHeartbeats 4000000 in
theorem noPairs_any {w : World} {a : Option Addr} {n c : Nat} {b : Option Addr} {k d : Nat} {a' : Option Addr} {n' c' : Nat} {b' : Option Addr} {k' d' : Nat} {oa : Option Addr} {oc R : Nat} (hk : k ≤ 1000000) (hk' : k' ≤ 1000000) :
    Calls Tryz.prog 49 #[.agg #[.slice a n c, .slice b k d, .slice a' n' c', .slice b' k' d', .slice oa k oc, .slice (some ⟨R, 0, none⟩) k' k']] w fun e w' => ∃ g bl, e = .returned (.slice (some ⟨g, 0, none⟩) k k) ∧ RelAt w' w.heap.size g k k' bl (noF k k') ∧ Below w.heap.size w w' := by
  obtain ⟨i1, hi1, hz10, hz11, hz12⟩ := info_parts infoRowB
  obtain ⟨i2, hi2, hz20, hz21, hz22⟩ := info_parts infoBoolV
  have hb1 := (Below.refl w.heap.size w).alloc (Nat.le_refl _) (.cells #[.slice a n c, .slice b k d, .slice a' n' c', .slice b' k' d', .slice oa k oc, .slice (some ⟨R, 0, none⟩) k' k'] 100)
  have hX := Whole.new w 100 #[.slice a n c, .slice b k d, .slice a' n' c', .slice b' k' d', .slice oa k oc, .slice (some ⟨R, 0, none⟩) k' k']
  have HB1 := Lib.hid hb1
  have HX := Lib.hid hX
  clear hb1 hX
  go_enter Tryz.func49, Tryz.ntmps49
  go_wp2_with (at_make; refine wpList_make_full _ rfl _ _ 103 rfl w.heap.size 95 i1 (.slice none 0 0) 1 Tryz.underlying103 hi1 hz10 hz11 .i64 .i64 k k k rfl rfl rfl rfl (by rw [hz12]; omega) (by unfold maxLen; omega) (by simp) ?_; intro w1 hrow hg1; refine Hid.out ?_)
  refine Lib.hid ?_
  rw [made_nils] at hrow
  simp only [World.size_alloc] at hrow
  have hbw := HB1.out.grown hg1 (by simp) (fun q hq => by cases hq)
  have hN0 : NoAt w w1 (w.heap.size + 1) k k' 0 [] := ⟨rfl, fun y z hy => by omega, by simpa using hrow, fun y hy => by omega, hbw⟩
  have HN0 := Lib.hid hN0
  have HX1 : Hid (Whole w1 w.heap.size 100 #[.slice a n c, .slice b k d, .slice a' n' c', .slice b' k' d', .slice oa k oc, .slice (some ⟨R, 0, none⟩) k' k']) := Lib.hid (HX.out.grown hg1 (by simp))
  obtain ⟨g, HGg⟩ : ∃ g, Hid (w.heap.size + 1 = g) := ⟨_, Lib.hid rfl⟩
  rw [HGg.out] at HN0 ⊢
  clear hrow hg1 hbw hN0
  go_wp2
  go_loopw [4, 12] (fun _ i wr => ∃ (x : Nat) (bl : List Nat), i = .int .i64 x ∧ x ≤ k ∧ Hid (NoAt w wr g k k' x bl) ∧ Hid (Whole wr w.heap.size 100 #[.slice a n c, .slice b k d, .slice a' n' c', .slice b' k' d', .slice oa k oc, .slice (some ⟨R, 0, none⟩) k' k'])) (fun _ i _ => k - (intOf i).toNat)
  case atStart => exact ⟨0, [], rfl, Nat.zero_le _, HN0, HX1⟩
  case round =>
    obtain ⟨x, bl, rfl, hx, hN, hX⟩ := hrel
    have hzr := hN.out.below.size
    have p3 := hX.out.cell 3
    have hXl := hX.out.lt
    simp only [List.getElem?_toArray, List.getElem?_cons_succ, List.getElem?_cons_zero] at p3
    by_cases hlt : x < k
    · have i0 : (0 : Int) ≤ (x : Int) := by omega
      have i1' : (x : Int) < (k : Int) := by omega
      go_wp2_with (at_make; refine wpList_make_full _ rfl _ _ 95 rfl w.heap.size 4 i2 (.bool false) 1 Tryz.underlying95 hi2 hz20 hz21 .i64 .i64 k' k' k' rfl rfl rfl rfl (by rw [hz22]; omega) (by unfold maxLen; omega) hzr ?_; intro w2 hrow hg2; refine Hid.out ?_)
      refine Lib.hid ?_
      rw [made_falses] at hrow
      have hNx := hN.out.next hlt hrow hg2
      have ho := hN.out.outer.kept hg2 (.inr (by simp [Value.ownBlock]))
      have c1 := ho.cellAt x (by omega)
      have c2 := ho.frozenAt x
      rw [List.getElem?_append_right (by rw [List.length_map, hN.out.len]; exact Nat.le_refl _), List.length_map, hN.out.len, Nat.sub_self, List.getElem?_replicate, if_pos (by omega)] at c1
      have HNx := Lib.hid hNx
      have hXx := (hX.out.grown hg2 (by simp)).grown (ho.stored x (rowV k' wr.heap.size)).2 (own_whole ho (hX.out.grown hg2 (by simp)) (by decide))
      have HXx := Lib.hid hXx
      unfold rowV at HNx HXx
      clear hrow hg2 hNx ho hXx p3
      go_wp2
      go_roundw
      case rel => exact ⟨x + 1, _, by go_num, by omega, HNx, HXx⟩
      case measure => simp [intOf]; omega
    · have hxk : x = k := by omega
      subst hxk
      have HF : Hid (RelAt wr w.heap.size g x k' bl (noF x k')) := Lib.hid (by
        have h1 := hN.out
        refine ⟨noF_shp x k', h1.len, h1.nod, ?_, fun y hy => ?_⟩
        · have := h1.outer
          rwa [Nat.sub_self, List.replicate_zero, List.append_nil] at this
        · have := h1.rows y hy
          have e : (noF x k').getD y [] = List.replicate k' false := by simp [noF, List.getD, hy]
          rw [e]; exact this)
      go_wp2
      go_ret
      exact ⟨g, bl, rfl, HF.out, hN.out.below⟩
end Go.Proofs.YtohljainhkdiiaaGreatDoor
/- slices.Collect at pairs; the iterator of a table's marks. -/
namespace Go.Proofs.YtohljainhkdiiaaGreatDoor
open Go.RowKit Go.Shelf Pl

theorem infoPair : (Tryz.prog.info? 96).map (fun i => (i.zero, i.size, i.bytes)) = some (some (.agg #[.int .i64 0, .int .i64 0]), 2, 16) := by kernel_rfl
def pcells (L : List (Nat × Nat)) : List Value := L.flatMap fun p => [.int .i64 p.1, .int .i64 p.2]
theorem cell_two_new (W : World) (u v : Value) (t : TypeId) : ∀ j x, [u, v][j]? = some x → (W.alloc (.cells #[u, v] t)).cell? ((⟨W.heap.size, 0, none⟩ : Addr).add j) = some x := fun j x hx => by
  have hj : j < 2 := by simpa using (List.getElem?_eq_some_iff.1 hx).1
  rw [addr_add, (Whole.new W t #[u, v]).cell, ← hx]
  simp

attribute [local go_sem] Oper.semAt_some

set_option maxRecDepth 100000 in
set_option maxHeartbeats 2000000 in
theorem appendSeq2_any (gf : Nat) (lb : Array Value) (ok : List (Nat × Nat) → (Nat × Nat) → Prop) (S : List (Nat × Nat) → Prop) (N : Nat) (hN : N ≤ 10000000) (hok : ∀ pre k, ok pre k → pre.length < N)
    (eg : ∀ args w, (callFunc gf args).run Tryz.prog w = .ok (.enter gf args) w) (w : World)
    (hit : ∀ (B : Nat) (I : List (Nat × Nat) → World → Prop), (∀ pre V, I pre V → Below w.heap.size w V) → IterOf Tryz.prog gf lb (fun p : Nat × Nat => #[Value.agg #[.int .i64 p.1, .int .i64 p.2]]) ok S B I (fun _ _ _ => False)) :
    Calls Tryz.prog 87 #[.slice none 0 0, .func (.func gf) #[] lb] w fun e w' => ∃ v xs, e = .returned v ∧ S xs ∧ w'.ownsRow w.heap.size 96 2 v xs.length (pcells xs) ∧ Below w.heap.size w w' := by
  refine (callsIn_wide (n := 3)).1 ?_
  obtain ⟨i0, hi, hz0, hz1, hz2⟩ := info_parts infoPair
  refine callsIn_of_wp_marks Tryz.func87 rfl trivial ?_ rfl
  simp only [Tryz.ntmps87, List.size_toArray, List.length_cons, List.length_nil, Nat.reduceAdd, Nat.reduceSub, Array.replicate_succ, Array.replicate_zero, List.push_toArray, List.append_toArray, List.nil_append, List.cons_append]
  gi_wp2
  have bO := Boxed.new w 43 (.slice none 0 0)
  have hB0 : Below w.heap.size w (w.alloc (.cells #[.slice none 0 0] 43)) := (Below.refl _ w).alloc (Nat.le_refl _) _
  have hlen : ∀ pre k, ok pre k → pre.length ≤ 10000000 := fun pre k h => by have := hok pre k h; omega
  have hOwn : OwnFrom (w.alloc (.cells #[.slice none 0 0] 43)).heap.size (fun pre W => (∃ v, Boxed W w.heap.size 43 v ∧ W.ownsRow w.heap.size 96 2 v pre.length (pcells pre)) ∧ Below w.heap.size w W) :=
    OwnFrom.and (Own.from (fun s X Y row hs hg hr => by
      obtain ⟨v, hv, hrow, _⟩ := holdsRow_own w.heap.size w.heap.size 43 96 2 (fun pre : List (Nat × Nat) => pre.length) (fun pre => pcells pre) (fun _ _ => True) s X Y row (by obtain ⟨v, a, b⟩ := hs; exact ⟨v, a, b, trivial⟩) hg hr
      exact ⟨v, hv, hrow⟩) _) (ownFrom_below (Nat.le_refl _) (by simp))
  refine range_lawA (gf := gf) (lb := lb) rfl eg (fun _ => rfl)
    (fun pre W => (∃ v, Boxed W w.heap.size 43 v ∧ W.ownsRow w.heap.size 96 2 v pre.length (pcells pre)) ∧ Below w.heap.size w W)
    (fun _ _ _ => False) hOwn
    (fun _ _ _ _ _ hs _ _ => hs)
    ⟨⟨_, bO, World.ownsRow_nil _ _ _ _⟩, hB0⟩
    (fun pre x a1 W => ∃ q, W.heap[q]? = some (.cells #[.int .i64 x.1, .int .i64 x.2] 96 (0, 0)) ∧
      a1 = { tmps := #[.slice none 0 0, .func (.func gf) #[] lb, .pointer (some ⟨w.heap.size, 0, none⟩), undef, .slice none 0 0, .pointer (some ⟨q, 0, none⟩), .func (.func gf) #[] lb, .agg #[.int .i64 x.1, .int .i64 x.2], undef, undef, undef, undef, undef], defers := [] } ∧
      ((∃ v, Boxed W w.heap.size 43 v ∧ W.ownsRow w.heap.size 96 2 v pre.length (pcells pre)) ∧ Below w.heap.size w W))
    (fun pre x a1 _ X Y row h hg hr => by
      obtain ⟨q, hq, ha, hI⟩ := h
      refine ⟨q, ?_, ha, hOwn pre X Y row hI hg hr⟩
      rw [hg.block q (Array.getElem?_eq_some_iff.1 hq).1 (fun e => by
        obtain ⟨_, o, ho, hc⟩ := hr q e.symm
        rw [hq] at ho; cases ho; cases hc)]
      exact hq)
    (hit _ _ (fun pre V h => h.2)) ?assign ?body ?done ?stop
  case assign =>
    intro l pre x W K hI _ hK
    gi_wp2
    refine hK _ _ ?_ ⟨W.heap.size, ?_, rfl, ?_⟩
    · exact Stays.alloc _ W _
    · exact heap_alloc_new W _
    · exact hOwn.alloc _ hI
  case body =>
    rintro l pre x a1 W ⟨q, hq, rfl, ⟨v, hv, hrow⟩, hB⟩ ho
    have hc := hv.cell
    have hl := hlen _ _ ho
    have hw : Whole W q 96 #[.int .i64 x.1, .int .i64 x.2] := hq
    have c0 := hw.cell 0
    have c1 := hw.cell 1
    simp only [List.getElem?_toArray, List.getElem?_cons_succ, List.getElem?_cons_zero] at c0 c1
    have hql := hw.lt
    gi_wp2_with (gi_at_builtin; refine wpListIn_append_own _ rfl _ _ 43 rfl w.heap.size 96 i0 (.agg #[.int .i64 0, .int .i64 0]) 2 16 Tryz.underlying43 hi hz0 hz1 hz2 rfl (by decide) _ _ _ rfl (hrow.alloc _) ⟨W.heap.size, 0, none⟩ 1 1 [.int .i64 x.1, .int .i64 x.2] rfl rfl (cell_two_new _ _ _ _) (by simp [Value.oneCell']) (by unfold maxLen; omega) (by omega) (by have := hB.size; simp; omega) ?_; intro v' w1 hown' hgrow _; obtain ⟨g', cap', rfl⟩ := ownsRow_succ hown'; obtain ⟨hv1, hv2, hr2, hk2, hb2⟩ := hv.appended (by decide) hrow hB.size (Nat.le_refl _) hown' hgrow; have hc1 := hv1.cell; have hf1 := hv1.frozen)
    exact ⟨.others hk2, ⟨_, hv2, by simpa [pcells] using hr2⟩, hB.trans hb2⟩
  case done =>
    rintro D ys W hD hS ⟨⟨v, hv, hrow⟩, hB⟩ hK
    have hc := hv.cell
    gi_wp2
    refine ⟨by simp, .inl ⟨_, _, rfl, run_takeDeferred hK, ?_⟩⟩
    exact ⟨_, results_tmp rfl _ _ _, v, ys, rfl, hS, ownsRow_putObj hrow _ hK rfl, hB.trans (belowK_b (w := w) (Nat.le_refl _) W D _ _ (by simp at hD; omega) hK rfl rfl)⟩
  case stop =>
    rintro D c pre W _ h _
    exact h.elim

set_option maxHeartbeats 400000 in
theorem collect2_any (gf : Nat) (lb : Array Value) (ok : List (Nat × Nat) → (Nat × Nat) → Prop) (S : List (Nat × Nat) → Prop) (N : Nat) (hN : N ≤ 10000000) (hok : ∀ pre k, ok pre k → pre.length < N)
    (eg : ∀ args w, (callFunc gf args).run Tryz.prog w = .ok (.enter gf args) w) (w : World)
    (hit : ∀ (B : Nat) (I : List (Nat × Nat) → World → Prop), (∀ pre V, I pre V → Below w.heap.size w V) → IterOf Tryz.prog gf lb (fun p : Nat × Nat => #[Value.agg #[.int .i64 p.1, .int .i64 p.2]]) ok S B I (fun _ _ _ => False)) :
    Calls Tryz.prog 54 #[.func (.func gf) #[] lb] w fun e w' => ∃ v xs, e = .returned v ∧ S xs ∧ w'.ownsRow w.heap.size 96 2 v xs.length (pcells xs) ∧ Below w.heap.size w w' := by
  have HC := Lib.hid (appendSeq2_any gf lb ok S N hN hok eg w hit)
  clear hit hok eg hN
  go_enter Tryz.func54, Tryz.ntmps54
  go_wp2_with fail
  refine HC.out.mono ?_
  rintro e w1 ⟨v, xs, rfl, hS, hrow, hB⟩
  have HR := Lib.hid hrow
  clear hrow
  go_wp2
  go_ret
  exact ⟨v, xs, rfl, hS, HR.out, hB⟩
end Go.Proofs.YtohljainhkdiiaaGreatDoor
/- The iterator of a table's marks; the pairs that are collected. -/
namespace Go.Proofs.YtohljainhkdiiaaGreatDoor
open Go.RowKit Go.Shelf Pl

/-- the marked pairs of the first x rows -/
def preO (F : Mat) (x : Nat) : List (Nat × Nat) := (List.range x).flatMap fun x => (rowF (F.getD x [])).map fun y => (x, y)
def preI (F : Mat) (x y : Nat) : List (Nat × Nat) := preO F x ++ ((List.range y).filter fun z => getF F x z).map fun z => (x, z)
theorem allF_preO (F : Mat) : allF F = preO F F.length := rfl
theorem preO_zero (F : Mat) : preO F 0 = [] := rfl
theorem preI_zero (F : Mat) (x : Nat) : preI F x 0 = preO F x := by simp [preI]
theorem preI_yes {F : Mat} {x y : Nat} (h : getF F x y = true) : preI F x (y + 1) = preI F x y ++ [(x, y)] := by
  unfold preI
  rw [List.range_succ, List.filter_append, List.map_append, ← List.append_assoc]
  simp [h]
theorem preI_no {F : Mat} {x y : Nat} (h : getF F x y = false) : preI F x (y + 1) = preI F x y := by
  unfold preI
  rw [List.range_succ, List.filter_append]
  simp [h]
theorem preI_row {F : Mat} {a b x : Nat} (h : Shp F a b) (hx : x < a) : preI F x b = preO F (x + 1) := by
  unfold preI preO
  rw [List.range_succ, List.flatMap_append, List.flatMap_singleton]
  unfold rowF getF
  rw [h.2 x hx]
theorem preO_le (F : Mat) {x x' : Nat} (h : x ≤ x') : preO F x <+: preO F x' := by
  obtain ⟨d, rfl⟩ := Nat.exists_eq_add_of_le h
  unfold preO
  rw [List.range_add, List.flatMap_append]
  exact List.prefix_append _ _
theorem preI_le (F : Mat) (x : Nat) {y y' : Nat} (h : y ≤ y') : preI F x y <+: preI F x y' := by
  obtain ⟨d, rfl⟩ := Nat.exists_eq_add_of_le h
  unfold preI
  rw [List.range_add, List.filter_append, List.map_append, ← List.append_assoc]
  exact List.prefix_append _ _
theorem pre_ok {F : Mat} {a b x y : Nat} (h : Shp F a b) (hx : x < a) (hy : y < b) (hm : getF F x y = true) : preI F x y ++ [(x, y)] <+: allF F := by
  rw [← preI_yes hm, allF_preO, h.1]
  have h1 := preI_le F x (show y + 1 ≤ b by omega)
  rw [preI_row h hx] at h1
  exact h1.trans (preO_le F (by omega))

attribute [local go_sem] Oper.semAt_some

set_option maxRecDepth 100000 in
set_option maxHeartbeats 2000000 in
theorem all_iter (B B' C g a b : Nat) (bl : List Nat) (F : Mat) (ha : a ≤ 1000000) (hb1 : b ≤ 1000000) (hs : Shp F a b) (I : List (Nat × Nat) → World → Prop) (Ix : Code → List (Nat × Nat) → World → Prop)
    (hC : ∀ pre V, I pre V → V.cell? ⟨C, 0, none⟩ = some (.slice (some ⟨g, 0, none⟩) a a)) (hR : ∀ pre V, I pre V → RelAt V B' g a b bl F) :
    IterOf Tryz.prog 88 #[.pointer (some ⟨C, 0, none⟩)] (fun p : Nat × Nat => #[Value.agg #[.int .i64 p.1, .int .i64 p.2]]) (fun pre k => pre ++ [k] <+: allF F) (fun xs => xs = allF F) B I Ix := by
  intro l Bk Bx W _ _ hY h0 hb0
  have hc0 := hC _ _ h0
  have HR := Lib.hid hR
  have HS := Lib.hid hs
  clear hR hC hs
  have HY := Lib.hid hY
  clear hY
  refine callsIn_of_wp Tryz.func88 rfl trivial ?_ rfl
  simp only [Tryz.ntmps88, List.size_toArray, List.length_cons, List.length_nil, Nat.reduceAdd, Nat.reduceSub, Array.replicate_succ, Array.replicate_zero, List.push_toArray, List.append_toArray, List.nil_append, List.cons_append]
  gi_wp2
  gi_loopw [3, 4, 5, 6, 9, 16] (fun _ _ _ _ p _ V => ∃ x : Nat, p = .int .i64 x ∧ x ≤ a ∧ Hid (I (preO F x) V ∧ Bk V)) (fun _ _ _ _ p _ _ => a - (intOf p).toNat)
  case atStart => exact ⟨0, rfl, Nat.zero_le _, Lib.hid ⟨h0, hb0⟩⟩
  case round =>
    obtain ⟨x, rfl, hx, hI⟩ := hrel
    by_cases hlt : x < a
    · have hrr := HR.out _ _ hI.out.1
      have c1 : wr.cell? ⟨g, x, none⟩ = some (.slice (some ⟨bl.getD x 0, 0, none⟩) b b) := by
        have h1 := hrr.outer.cellAt x (by omega)
        rw [h1, List.getElem?_map, List.getElem?_eq_getElem (by rw [hrr.len]; exact hlt), List.getD_eq_getElem?_getD, List.getElem?_eq_getElem (by rw [hrr.len]; exact hlt)]
        rfl
      obtain ⟨r, HRr⟩ : ∃ r, Hid (bl.getD x 0 = r) := ⟨_, Lib.hid rfl⟩
      rw [HRr.out] at c1
      have i0 : (0 : Int) ≤ (x : Int) := by omega
      have i1 : (x : Int) < (a : Int) := by omega
      have HI0 : Hid (I (preI F x 0) wr ∧ Bk wr) := Lib.hid (by rw [preI_zero]; exact hI.out)
      obtain ⟨V0, hV0⟩ : ∃ z, z = wr := ⟨_, rfl⟩
      subst hV0
      clear hrr
      gi_wp2
      gi_loopw [5, 6, 16] (fun _ _ q V => ∃ y : Nat, q = .int .i64 y ∧ y ≤ b ∧ Hid (I (preI F x y) V ∧ Bk V)) (fun _ _ q _ => b - (intOf q).toNat)
      case atStart => exact ⟨0, rfl, Nat.zero_le _, HI0⟩
      case round =>
        obtain ⟨y, rfl, hy, hI2⟩ := hrel
        by_cases hlt2 : y < b
        · have c2 := ((HR.out _ _ hI2.out.1).cells hlt hlt2).2.1
          rw [HRr.out] at c2
          have j0 : (0 : Int) ≤ (y : Int) := by omega
          have j1 : (y : Int) < (b : Int) := by omega
          cases hm : getF F x y
          · rw [hm] at c2
            have HIn : Hid (I (preI F x (y + 1)) wr ∧ Bk wr) := Lib.hid (by rw [preI_no hm]; exact hI2.out)
            clear hm
            gi_wp2
            refine ⟨(fun f h => by cases h), ?_⟩
            gi_wp2
            go_roundw
            case rel => exact ⟨y + 1, by go_num, by omega, HIn⟩
            case measure => simp [intOf]; omega
          · rw [hm] at c2
            have hok := pre_ok HS.out hlt hlt2 hm
            obtain ⟨fn, tmps, assign, body, hyy, hRn⟩ := HY.out () (preI F x y) (x, y) wr hI2.out.1 hI2.out.2 hok
            have HM := Lib.hid hm
            clear hm hok
            gi_wp2
            refine hRn.mono ?_
            rintro e W3 (⟨rfl, hI3, hb3⟩ | ⟨rfl, c, hx3, hb3⟩)
            · have HIn : Hid (I (preI F x (y + 1)) W3 ∧ Bk W3) := Lib.hid (by rw [preI_yes HM.out]; exact ⟨hI3, hb3⟩)
              clear hI3 hb3
              gi_wp2
              go_roundw
              case rel => exact ⟨y + 1, by go_num, by omega, HIn⟩
              case measure => simp [intOf]; omega
            · gi_wp2
              refine bodyPost_ret (results_none rfl _ _ _) rfl ?_
              exact ⟨⟨_, rfl⟩, .inr ⟨_, c, hx3, hb3⟩⟩
        · have HIn : Hid (I (preO F (x + 1)) wr ∧ Bk wr) := Lib.hid (by
            have : y = b := by omega
            rw [← preI_row HS.out hlt, ← this]; exact hI2.out)
          gi_wp2
          go_roundw
          case rel => exact ⟨x + 1, by go_num, by omega, HIn⟩
          case measure => simp [intOf]; omega
    · have HIn : Hid (I (allF F) wr ∧ Bk wr) := Lib.hid (by
        have : x = F.length := by rw [HS.out.1]; omega
        rw [allF_preO, ← this]; exact hI.out)
      gi_wp2
      go_end0
      exact ⟨⟨_, rfl⟩, .inl ⟨_, (), rfl, HIn.out.1, HIn.out.2⟩⟩
end Go.Proofs.YtohljainhkdiiaaGreatDoor
/- Where spec.Satisfies stands. -/
namespace Go.Proofs.YtohljainhkdiiaaGreatDoor
open Go.RowKit Pl

theorem rowF_len (r : List Bool) : (rowF r).length ≤ r.length := by
  unfold rowF
  exact Nat.le_trans (List.length_filter_le _ _) (by simp)
theorem preO_len {F : Mat} {a b : Nat} (h : Shp F a b) : ∀ x, x ≤ a → (preO F x).length ≤ x * b
  | 0, _ => by simp [preO]
  | x + 1, hx => by
    have ih := preO_len h x (by omega)
    have h1 := rowF_len (F.getD x [])
    rw [h.2 x (by omega)] at h1
    unfold preO at ih ⊢
    rw [List.range_succ, List.flatMap_append, List.length_append, List.flatMap_singleton, List.length_map, Nat.succ_mul]
    omega
theorem set_same {r : List Bool} {y : Nat} (hy : y < r.length) (hg : r.getD y false = true) : r.set y true = r := by
  refine List.ext_getElem? fun i => ?_
  rw [List.getElem?_set]
  by_cases e : y = i
  · subst e
    rw [if_pos rfl, if_pos hy]
    rw [List.getD_eq_getElem?_getD, List.getElem?_eq_getElem hy, Option.getD_some] at hg
    rw [List.getElem?_eq_getElem hy, hg]
  · rw [if_neg e]
theorem setF_same {F : Mat} {a b x y : Nat} (h : Shp F a b) (hx : x < a) (hy : y < b) (hg : getF F x y = true) : setF F x y = F := by
  have h1 : (F.getD x []).set y true = F.getD x [] := set_same (by rw [h.2 x hx]; exact hy) hg
  unfold setF
  rw [h1]
  refine List.ext_getElem? fun i => ?_
  rw [List.getElem?_set]
  by_cases e : x = i
  · subst e
    rw [if_pos rfl, if_pos (by rw [h.1]; exact hx), List.getD_eq_getElem?_getD, List.getElem?_eq_getElem (by rw [h.1]; exact hx)]
    rfl
  · rw [if_neg e]
theorem all_any (g a : Nat) (w : World) :
    Calls Tryz.prog 55 #[.slice (some ⟨g, 0, none⟩) a a] w fun e w' => e = .returned (.func (.func 88) #[] #[.pointer (some ⟨w.heap.size, 0, none⟩)]) ∧ w.alloc (.cells #[.slice (some ⟨g, 0, none⟩) a a] 103) = w' := by
  go_enter Tryz.func55, Tryz.ntmps55
  go_wp2
  go_ret
  exact ⟨rfl, rfl⟩
theorem collectAll_any {w : World} {B C g a b : Nat} {bl : List Nat} {F : Mat} (hc : w.cell? ⟨C, 0, none⟩ = some (.slice (some ⟨g, 0, none⟩) a a)) (h : RelAt w B g a b bl F) (ha : a ≤ 1000000) (hb : b ≤ 1000000) (hl : a * b ≤ 10000000) :
    Calls Tryz.prog 54 #[.func (.func 88) #[] #[.pointer (some ⟨C, 0, none⟩)]] w fun e w' => ∃ v, e = .returned v ∧ w'.ownsRow w.heap.size 96 2 v (allF F).length (pcells (allF F)) ∧ Below w.heap.size w w' := by
  have hlen : (allF F).length ≤ 10000000 := by
    have h1 := preO_len h.shp a (Nat.le_refl _)
    rw [allF_preO, h.shp.1]
    omega
  refine (collect2_any _ _ (fun pre k => pre ++ [k] <+: allF F) (fun xs => xs = allF F) (allF F).length hlen (fun pre k hp => by
    have := hp.length_le
    rw [List.length_append, List.length_singleton] at this
    omega) (enters_of Tryz.func88 (by kernel_rfl) rfl) w
    (fun B2 I hI => all_iter B2 B C g a b bl F ha hb h.shp I _ (fun pre V hv => ((hI pre V hv).cell (lt_of_cell hc)).trans hc) (fun pre V hv => h.below (hI pre V hv)))).mono ?_
  rintro e w' ⟨v, xs, rfl, rfl, hr, hbw⟩
  exact ⟨v, rfl, hr, hbw⟩

/-- what the walk holds between two operations -/
structure StAt (w W : World) (G g : Nat) (bl : List Nat) (a : Option Addr) (n c : Nat) (b : Option Addr) (k d : Nat) (m : Syst) (a' : Option Addr) (n' c' : Nat) (b' : Option Addr) (k' d' : Nat) (s : Spc) (oa : Option Addr) (oc R : Nat) (qv : Value) (Q : List Wt) (F : Mat) : Prop where
  sysb : Whole W w.heap.size 25 #[.slice a n c, .slice b k d]
  ver : Whole W (w.heap.size + 2) 47 #[.bool false, .slice none 0 0, .slice none 0 0, .int .i64 0]
  tri : Whole W G 100 #[.slice a n c, .slice b k d, .slice a' n' c', .slice b' k' d', .slice oa k oc, .slice (some ⟨R, 0, none⟩) k' k']
  tr : TrArg W w.heap.size a n c b k d m a' n' c' b' k' d' s (.slice oa k oc) R
  rel : RelAt W w.heap.size g k k' bl F
  que : W.ownsRow w.heap.size 109 4 qv Q.length (qcells Q)
  low : w.heap.size + 2 < G
  below : Below w.heap.size w W
section
variable {w W W' : World} {G g : Nat} {bl : List Nat} {a : Option Addr} {n c : Nat} {b : Option Addr} {k d : Nat} {m : Syst} {a' : Option Addr} {n' c' : Nat} {b' : Option Addr} {k' d' : Nat} {s : Spc} {oa : Option Addr} {oc R : Nat} {qv : Value} {Q : List Wt} {F : Mat}
theorem StAt.up (h : StAt w W G g bl a n c b k d m a' n' c' b' k' d' s oa oc R qv Q F) (hb : Below W.heap.size W W') : StAt w W' G g bl a n c b k d m a' n' c' b' k' d' s oa oc R qv Q F :=
  ⟨h.sysb.below hb h.sysb.lt, h.ver.below hb h.ver.lt, h.tri.below hb h.tri.lt, h.tr.below hb, h.rel.below hb, own_up' h.que hb, h.low, h.below.trans (hb.mono h.below.size)⟩
/-- .. behind a store into a row of marks, or behind what it has become -/
theorem TrArg.grown {B : Nat} {vo : Value} {v : Value} {xs : List Value} {e : TypeId} {size q : Nat} (h : TrArg W B a n c b k d m a' n' c' b' k' d' s vo R) (w0 : World) (hs : SysArg w0 a n c b k d m) (hs' : SpecArg w0 a' n' c' b' k' d' s) (hb : Below w0.heap.size w0 W') (hrow : W.ownsRow B e size v q xs) (hne1 : 3 ≠ e) (hne2 : 154 ≠ e) (hg : W.grownBy W' v.ownBlock) : TrArg W' B a n c b k d m a' n' c' b' k' d' s vo R :=
  ⟨hs.below hb, hs'.below hb, h.off.kept hg (own_apart h.off hrow hne1), h.acc.kept hg (own_apart h.acc hrow hne2)⟩
theorem StAt.mark (h : StAt w W G g bl a n c b k d m a' n' c' b' k' d' s oa oc R qv Q F) (hs : SysArg w a n c b k d m) (hs' : SpecArg w a' n' c' b' k' d' s) {x : Nat} (hx : x < k) {F' : Mat} (hr : RelAt W' w.heap.size g k k' bl F') (hg : W.grownBy W' (some (bl.getD x 0))) : StAt w W' G g bl a n c b k d m a' n' c' b' k' d' s oa oc R qv Q F' := by
  have hrow := h.rel.rows x hx
  have hB : Below w.heap.size w W' := h.below.grown hg h.below.size (fun q hq => by cases hq; exact own_ge hrow _ rfl)
  exact ⟨h.sysb.grown hg (own_whole hrow h.sysb (by decide)), h.ver.grown hg (own_whole hrow h.ver (by decide)), h.tri.grown hg (own_whole hrow h.tri (by decide)), h.tr.grown w hs hs' hB hrow (by decide) (by decide) hg, hr, h.que.kept hg (own_apart h.que hrow (by decide)), h.low, hB⟩
theorem RelAt.grown {B : Nat} {v : Value} {xs : List Value} {e : TypeId} {size q : Nat} {x y : Nat} (h : RelAt W B g x y bl F) (hrow : W.ownsRow B e size v q xs) (hne1 : 4 ≠ e) (hne2 : 95 ≠ e) (hg : W.grownBy W' v.ownBlock) : RelAt W' B g x y bl F :=
  ⟨h.shp, h.len, h.nod, h.outer.kept hg (own_apart h.outer hrow hne2), fun z hz => (h.rows z hz).kept hg (own_apart (h.rows z hz) hrow hne1)⟩
/-- .. behind an append onto the queue -/
theorem StAt.push (h : StAt w W G g bl a n c b k d m a' n' c' b' k' d' s oa oc R qv Q F) (hs : SysArg w a n c b k d m) (hs' : SpecArg w a' n' c' b' k' d' s) {o : Obj} {qv' : Value} {t : Wt} (hown : W'.ownsRow w.heap.size 109 4 qv' (Q.length + 1) (qcells Q ++ [.int .i64 t.before, .int .i64 t.last, .int .i64 t.x, .int .i64 t.y])) (hg : (W.alloc o).grownBy W' qv.ownBlock) : StAt w W' G g bl a n c b k d m a' n' c' b' k' d' s oa oc R qv' (Q ++ [t]) F := by
  have h1 := h.up ((Below.refl _ W).alloc (Nat.le_refl _) o)
  have hB : Below w.heap.size w W' := h1.below.grown hg h1.below.size (own_ge h1.que)
  exact ⟨h1.sysb.grown hg (own_whole h1.que h1.sysb (by decide)), h1.ver.grown hg (own_whole h1.que h1.ver (by decide)), h1.tri.grown hg (own_whole h1.que h1.tri (by decide)), h1.tr.grown w hs hs' hB h1.que (by decide) (by decide) hg, h1.rel.grown h1.que (by decide) (by decide) hg, by rw [List.length_append, List.length_singleton, qcells_snoc]; exact hown, h1.low, hB⟩
end
end Go.Proofs.YtohljainhkdiiaaGreatDoor
