/- Texts joined: SatI, SatJ, SatK, RePl, SortS, SortE. -/
import Derived.Test.YtgnbkepdbdgkdaaGreatDoorJq17
import Derived.Shelf.SlSortCmp.NoneTotal
import Derived.Ground.SlsfProg
import Derived.Test.YtgnbkepdbdgkdaaGreatDoorProg
import Derived.Test.YtgnbkepdbdgkdaaGreatDoorJq01
import Derived.Test.YtgnbkepdbdgkdaaGreatDoorJq02
import Derived.Sort.OwnSortedInts
/- slices.Collect at pairs; the iterator of a table's marks. -/
namespace Go.Proofs.YtgnbkepdbdgkdaaGreatDoor
open Go.RowKit Go.Shelf Pl

theorem infoPair : (Tryz.prog.info? 48).map (fun i => (i.zero, i.size, i.bytes)) = some (some (.agg #[.int .i64 0, .int .i64 0]), 2, 16) := by kernel_rfl
def pcells (L : List (Nat × Nat)) : List Value := L.flatMap fun p => [.int .i64 p.1, .int .i64 p.2]
theorem cell_two_new (W : World) (u v : Value) (t : TypeId) : ∀ j x, [u, v][j]? = some x → (W.alloc (.cells #[u, v] t)).cell? ((⟨W.heap.size, 0, none⟩ : Addr).add j) = some x := fun j x hx => by
  have hj : j < 2 := by simpa using (List.getElem?_eq_some_iff.1 hx).1
  rw [addr_add, (Whole.new W t #[u, v]).cell, ← hx]
  simp

attribute [local go_sem] Oper.semAt_some

set_option maxRecDepth 100000 in
set_option maxHeartbeats 2000000 in
theorem appendSeq2_any (gf : Nat) (lb : Array Value) (ok : List (Nat × Nat) → (Nat × Nat) → Prop) (S : List (Nat × Nat) → Prop) (N : Nat) (hN : N ≤ 10000000) (hok : ∀ pre k, ok pre k → pre.length < N)
    (eg : ∀ args w, (callFunc gf args).run Tryz.prog w = .ok (.enter gf args) w) (w : World)
    (hit : ∀ (B : Nat) (I : List (Nat × Nat) → World → Prop), (∀ pre V, I pre V → Below w.heap.size w V) → IterOf Tryz.prog gf lb (fun p : Nat × Nat => #[Value.agg #[.int .i64 p.1, .int .i64 p.2]]) ok S B I (fun _ _ _ => False)) :
    Calls Tryz.prog 100 #[.slice none 0 0, .func (.func gf) #[] lb] w fun e w' => ∃ v xs, e = .returned v ∧ S xs ∧ w'.ownsRow w.heap.size 48 2 v xs.length (pcells xs) ∧ Below w.heap.size w w' := by
  refine (callsIn_wide (n := 3)).1 ?_
  obtain ⟨i0, hi, hz0, hz1, hz2⟩ := info_parts infoPair
  refine callsIn_of_wp_marks Tryz.func100 rfl trivial ?_ rfl
  simp only [Tryz.ntmps100, List.size_toArray, List.length_cons, List.length_nil, Nat.reduceAdd, Nat.reduceSub, Array.replicate_succ, Array.replicate_zero, List.push_toArray, List.append_toArray, List.nil_append, List.cons_append]
  gi_wp2
  have bO := Boxed.new w 39 (.slice none 0 0)
  have hB0 : Below w.heap.size w (w.alloc (.cells #[.slice none 0 0] 39)) := (Below.refl _ w).alloc (Nat.le_refl _) _
  have hlen : ∀ pre k, ok pre k → pre.length ≤ 10000000 := fun pre k h => by have := hok pre k h; omega
  have hOwn : OwnFrom (w.alloc (.cells #[.slice none 0 0] 39)).heap.size (fun pre W => (∃ v, Boxed W w.heap.size 39 v ∧ W.ownsRow w.heap.size 48 2 v pre.length (pcells pre)) ∧ Below w.heap.size w W) :=
    OwnFrom.and (Own.from (fun s X Y row hs hg hr => by
      obtain ⟨v, hv, hrow, _⟩ := holdsRow_own w.heap.size w.heap.size 39 48 2 (fun pre : List (Nat × Nat) => pre.length) (fun pre => pcells pre) (fun _ _ => True) s X Y row (by obtain ⟨v, a, b⟩ := hs; exact ⟨v, a, b, trivial⟩) hg hr
      exact ⟨v, hv, hrow⟩) _) (ownFrom_below (Nat.le_refl _) (by simp))
  refine range_lawA (gf := gf) (lb := lb) rfl eg (fun _ => rfl)
    (fun pre W => (∃ v, Boxed W w.heap.size 39 v ∧ W.ownsRow w.heap.size 48 2 v pre.length (pcells pre)) ∧ Below w.heap.size w W)
    (fun _ _ _ => False) hOwn
    (fun _ _ _ _ _ hs _ _ => hs)
    ⟨⟨_, bO, World.ownsRow_nil _ _ _ _⟩, hB0⟩
    (fun pre x a1 W => ∃ q, W.heap[q]? = some (.cells #[.int .i64 x.1, .int .i64 x.2] 48 (0, 0)) ∧
      a1 = { tmps := #[.slice none 0 0, .func (.func gf) #[] lb, .pointer (some ⟨w.heap.size, 0, none⟩), undef, .slice none 0 0, .pointer (some ⟨q, 0, none⟩), .func (.func gf) #[] lb, .agg #[.int .i64 x.1, .int .i64 x.2], undef, undef, undef, undef, undef], defers := [] } ∧
      ((∃ v, Boxed W w.heap.size 39 v ∧ W.ownsRow w.heap.size 48 2 v pre.length (pcells pre)) ∧ Below w.heap.size w W))
    (fun pre x a1 _ X Y row h hg hr => by
      obtain ⟨q, hq, ha, hI⟩ := h
      refine ⟨q, ?_, ha, hOwn pre X Y row hI hg hr⟩
      rw [hg.block q (Array.getElem?_eq_some_iff.1 hq).1 (fun e => by
        obtain ⟨_, o, ho, hc⟩ := hr q e.symm
        rw [hq] at ho; cases ho; cases hc)]
      exact hq)
    (hit _ _ (fun pre V h => h.2)) ?assign ?body ?done ?stop
  case assign =>
    intro l pre x W K hI _ hK
    gi_wp2
    refine hK _ _ ?_ ⟨W.heap.size, ?_, rfl, ?_⟩
    · exact Stays.alloc _ W _
    · exact heap_alloc_new W _
    · exact hOwn.alloc _ hI
  case body =>
    rintro l pre x a1 W ⟨q, hq, rfl, ⟨v, hv, hrow⟩, hB⟩ ho
    have hc := hv.cell
    have hl := hlen _ _ ho
    have hw : Whole W q 48 #[.int .i64 x.1, .int .i64 x.2] := hq
    have c0 := hw.cell 0
    have c1 := hw.cell 1
    simp only [List.getElem?_toArray, List.getElem?_cons_succ, List.getElem?_cons_zero] at c0 c1
    have hql := hw.lt
    gi_wp2_with (gi_at_builtin; refine wpListIn_append_own _ rfl _ _ 39 rfl w.heap.size 48 i0 (.agg #[.int .i64 0, .int .i64 0]) 2 16 Tryz.underlying39 hi hz0 hz1 hz2 rfl (by decide) _ _ _ rfl (hrow.alloc _) ⟨W.heap.size, 0, none⟩ 1 1 [.int .i64 x.1, .int .i64 x.2] rfl rfl (cell_two_new _ _ _ _) (by simp [Value.oneCell']) (by unfold maxLen; omega) (by omega) (by have := hB.size; simp; omega) ?_; intro v' w1 hown' hgrow _; obtain ⟨g', cap', rfl⟩ := ownsRow_succ hown'; obtain ⟨hv1, hv2, hr2, hk2, hb2⟩ := hv.appended (by decide) hrow hB.size (Nat.le_refl _) hown' hgrow; have hc1 := hv1.cell; have hf1 := hv1.frozen)
    exact ⟨.others hk2, ⟨_, hv2, by simpa [pcells] using hr2⟩, hB.trans hb2⟩
  case done =>
    rintro D ys W hD hS ⟨⟨v, hv, hrow⟩, hB⟩ hK
    have hc := hv.cell
    gi_wp2
    refine ⟨by simp, .inl ⟨_, _, rfl, run_takeDeferred hK, ?_⟩⟩
    exact ⟨_, results_tmp rfl _ _ _, v, ys, rfl, hS, ownsRow_putObj hrow _ hK rfl, hB.trans (belowK_b (w := w) (Nat.le_refl _) W D _ _ (by simp at hD; omega) hK rfl rfl)⟩
  case stop =>
    rintro D c pre W _ h _
    exact h.elim

set_option maxHeartbeats 400000 in
theorem collect2_any (gf : Nat) (lb : Array Value) (ok : List (Nat × Nat) → (Nat × Nat) → Prop) (S : List (Nat × Nat) → Prop) (N : Nat) (hN : N ≤ 10000000) (hok : ∀ pre k, ok pre k → pre.length < N)
    (eg : ∀ args w, (callFunc gf args).run Tryz.prog w = .ok (.enter gf args) w) (w : World)
    (hit : ∀ (B : Nat) (I : List (Nat × Nat) → World → Prop), (∀ pre V, I pre V → Below w.heap.size w V) → IterOf Tryz.prog gf lb (fun p : Nat × Nat => #[Value.agg #[.int .i64 p.1, .int .i64 p.2]]) ok S B I (fun _ _ _ => False)) :
    Calls Tryz.prog 67 #[.func (.func gf) #[] lb] w fun e w' => ∃ v xs, e = .returned v ∧ S xs ∧ w'.ownsRow w.heap.size 48 2 v xs.length (pcells xs) ∧ Below w.heap.size w w' := by
  have HC := Lib.hid (appendSeq2_any gf lb ok S N hN hok eg w hit)
  clear hit hok eg hN
  go_enter Tryz.func67, Tryz.ntmps67
  go_wp2_with fail
  refine HC.out.mono ?_
  rintro e w1 ⟨v, xs, rfl, hS, hrow, hB⟩
  have HR := Lib.hid hrow
  clear hrow
  go_wp2
  go_ret
  exact ⟨v, xs, rfl, hS, HR.out, hB⟩
end Go.Proofs.YtgnbkepdbdgkdaaGreatDoor
/- The iterator of a table's marks; the pairs that are collected. -/
namespace Go.Proofs.YtgnbkepdbdgkdaaGreatDoor
open Go.RowKit Go.Shelf Pl

/-- the marked pairs of the first x rows -/
def preO (F : Mat) (x : Nat) : List (Nat × Nat) := (List.range x).flatMap fun x => (rowF (F.getD x [])).map fun y => (x, y)
def preI (F : Mat) (x y : Nat) : List (Nat × Nat) := preO F x ++ ((List.range y).filter fun z => getF F x z).map fun z => (x, z)
theorem allF_preO (F : Mat) : allF F = preO F F.length := rfl
theorem preO_zero (F : Mat) : preO F 0 = [] := rfl
theorem preI_zero (F : Mat) (x : Nat) : preI F x 0 = preO F x := by simp [preI]
theorem preI_yes {F : Mat} {x y : Nat} (h : getF F x y = true) : preI F x (y + 1) = preI F x y ++ [(x, y)] := by
  unfold preI
  rw [List.range_succ, List.filter_append, List.map_append, ← List.append_assoc]
  simp [h]
theorem preI_no {F : Mat} {x y : Nat} (h : getF F x y = false) : preI F x (y + 1) = preI F x y := by
  unfold preI
  rw [List.range_succ, List.filter_append]
  simp [h]
theorem preI_row {F : Mat} {a b x : Nat} (h : Shp F a b) (hx : x < a) : preI F x b = preO F (x + 1) := by
  unfold preI preO
  rw [List.range_succ, List.flatMap_append, List.flatMap_singleton]
  unfold rowF getF
  rw [h.2 x hx]
theorem preO_le (F : Mat) {x x' : Nat} (h : x ≤ x') : preO F x <+: preO F x' := by
  obtain ⟨d, rfl⟩ := Nat.exists_eq_add_of_le h
  unfold preO
  rw [List.range_add, List.flatMap_append]
  exact List.prefix_append _ _
theorem preI_le (F : Mat) (x : Nat) {y y' : Nat} (h : y ≤ y') : preI F x y <+: preI F x y' := by
  obtain ⟨d, rfl⟩ := Nat.exists_eq_add_of_le h
  unfold preI
  rw [List.range_add, List.filter_append, List.map_append, ← List.append_assoc]
  exact List.prefix_append _ _
theorem pre_ok {F : Mat} {a b x y : Nat} (h : Shp F a b) (hx : x < a) (hy : y < b) (hm : getF F x y = true) : preI F x y ++ [(x, y)] <+: allF F := by
  rw [← preI_yes hm, allF_preO, h.1]
  have h1 := preI_le F x (show y + 1 ≤ b by omega)
  rw [preI_row h hx] at h1
  exact h1.trans (preO_le F (by omega))

attribute [local go_sem] Oper.semAt_some

set_option maxRecDepth 100000 in
set_option maxHeartbeats 2000000 in
theorem all_iter (B B' C g a b : Nat) (bl : List Nat) (F : Mat) (ha : a ≤ 1000000) (hb1 : b ≤ 1000000) (hs : Shp F a b) (I : List (Nat × Nat) → World → Prop) (Ix : Code → List (Nat × Nat) → World → Prop)
    (hC : ∀ pre V, I pre V → V.cell? ⟨C, 0, none⟩ = some (.slice (some ⟨g, 0, none⟩) a a)) (hR : ∀ pre V, I pre V → RelAt V B' g a b bl F) :
    IterOf Tryz.prog 101 #[.pointer (some ⟨C, 0, none⟩)] (fun p : Nat × Nat => #[Value.agg #[.int .i64 p.1, .int .i64 p.2]]) (fun pre k => pre ++ [k] <+: allF F) (fun xs => xs = allF F) B I Ix := by
  intro l Bk Bx W _ _ hY h0 hb0
  have hc0 := hC _ _ h0
  have HR := Lib.hid hR
  have HS := Lib.hid hs
  clear hR hC hs
  have HY := Lib.hid hY
  clear hY
  refine callsIn_of_wp Tryz.func101 rfl trivial ?_ rfl
  simp only [Tryz.ntmps101, List.size_toArray, List.length_cons, List.length_nil, Nat.reduceAdd, Nat.reduceSub, Array.replicate_succ, Array.replicate_zero, List.push_toArray, List.append_toArray, List.nil_append, List.cons_append]
  gi_wp2
  gi_loopw [3, 4, 5, 6, 9, 16] (fun _ _ _ _ p _ V => ∃ x : Nat, p = .int .i64 x ∧ x ≤ a ∧ Hid (I (preO F x) V ∧ Bk V)) (fun _ _ _ _ p _ _ => a - (intOf p).toNat)
  case atStart => exact ⟨0, rfl, Nat.zero_le _, Lib.hid ⟨h0, hb0⟩⟩
  case round =>
    obtain ⟨x, rfl, hx, hI⟩ := hrel
    by_cases hlt : x < a
    · have hrr := HR.out _ _ hI.out.1
      have c1 : wr.cell? ⟨g, x, none⟩ = some (.slice (some ⟨bl.getD x 0, 0, none⟩) b b) := by
        have h1 := hrr.outer.cellAt x (by omega)
        rw [h1, List.getElem?_map, List.getElem?_eq_getElem (by rw [hrr.len]; exact hlt), List.getD_eq_getElem?_getD, List.getElem?_eq_getElem (by rw [hrr.len]; exact hlt)]
        rfl
      obtain ⟨r, HRr⟩ : ∃ r, Hid (bl.getD x 0 = r) := ⟨_, Lib.hid rfl⟩
      rw [HRr.out] at c1
      have i0 : (0 : Int) ≤ (x : Int) := by omega
      have i1 : (x : Int) < (a : Int) := by omega
      have HI0 : Hid (I (preI F x 0) wr ∧ Bk wr) := Lib.hid (by rw [preI_zero]; exact hI.out)
      obtain ⟨V0, hV0⟩ : ∃ z, z = wr := ⟨_, rfl⟩
      subst hV0
      clear hrr
      gi_wp2
      gi_loopw [5, 6, 16] (fun _ _ q V => ∃ y : Nat, q = .int .i64 y ∧ y ≤ b ∧ Hid (I (preI F x y) V ∧ Bk V)) (fun _ _ q _ => b - (intOf q).toNat)
      case atStart => exact ⟨0, rfl, Nat.zero_le _, HI0⟩
      case round =>
        obtain ⟨y, rfl, hy, hI2⟩ := hrel
        by_cases hlt2 : y < b
        · have c2 := ((HR.out _ _ hI2.out.1).cells hlt hlt2).2.1
          rw [HRr.out] at c2
          have j0 : (0 : Int) ≤ (y : Int) := by omega
          have j1 : (y : Int) < (b : Int) := by omega
          cases hm : getF F x y
          · rw [hm] at c2
            have HIn : Hid (I (preI F x (y + 1)) wr ∧ Bk wr) := Lib.hid (by rw [preI_no hm]; exact hI2.out)
            clear hm
            gi_wp2
            refine ⟨(fun f h => by cases h), ?_⟩
            gi_wp2
            go_roundw
            case rel => exact ⟨y + 1, by go_num, by omega, HIn⟩
            case measure => simp [intOf]; omega
          · rw [hm] at c2
            have hok := pre_ok HS.out hlt hlt2 hm
            obtain ⟨fn, tmps, assign, body, hyy, hRn⟩ := HY.out () (preI F x y) (x, y) wr hI2.out.1 hI2.out.2 hok
            have HM := Lib.hid hm
            clear hm hok
            gi_wp2
            refine hRn.mono ?_
            rintro e W3 (⟨rfl, hI3, hb3⟩ | ⟨rfl, c, hx3, hb3⟩)
            · have HIn : Hid (I (preI F x (y + 1)) W3 ∧ Bk W3) := Lib.hid (by rw [preI_yes HM.out]; exact ⟨hI3, hb3⟩)
              clear hI3 hb3
              gi_wp2
              go_roundw
              case rel => exact ⟨y + 1, by go_num, by omega, HIn⟩
              case measure => simp [intOf]; omega
            · gi_wp2
              refine bodyPost_ret (results_none rfl _ _ _) rfl ?_
              exact ⟨⟨_, rfl⟩, .inr ⟨_, c, hx3, hb3⟩⟩
        · have HIn : Hid (I (preO F (x + 1)) wr ∧ Bk wr) := Lib.hid (by
            have : y = b := by omega
            rw [← preI_row HS.out hlt, ← this]; exact hI2.out)
          gi_wp2
          go_roundw
          case rel => exact ⟨x + 1, by go_num, by omega, HIn⟩
          case measure => simp [intOf]; omega
    · have HIn : Hid (I (allF F) wr ∧ Bk wr) := Lib.hid (by
        have : x = F.length := by rw [HS.out.1]; omega
        rw [allF_preO, ← this]; exact hI.out)
      gi_wp2
      go_end0
      exact ⟨⟨_, rfl⟩, .inl ⟨_, (), rfl, HIn.out.1, HIn.out.2⟩⟩
end Go.Proofs.YtgnbkepdbdgkdaaGreatDoor
/- Where spec.Satisfies stands. -/
namespace Go.Proofs.YtgnbkepdbdgkdaaGreatDoor
open Go.RowKit Pl

theorem rowF_len (r : List Bool) : (rowF r).length ≤ r.length := by
  unfold rowF
  exact Nat.le_trans (List.length_filter_le _ _) (by simp)
theorem preO_len {F : Mat} {a b : Nat} (h : Shp F a b) : ∀ x, x ≤ a → (preO F x).length ≤ x * b
  | 0, _ => by simp [preO]
  | x + 1, hx => by
    have ih := preO_len h x (by omega)
    have h1 := rowF_len (F.getD x [])
    rw [h.2 x (by omega)] at h1
    unfold preO at ih ⊢
    rw [List.range_succ, List.flatMap_append, List.length_append, List.flatMap_singleton, List.length_map, Nat.succ_mul]
    omega
theorem set_same {r : List Bool} {y : Nat} (hy : y < r.length) (hg : r.getD y false = true) : r.set y true = r := by
  refine List.ext_getElem? fun i => ?_
  rw [List.getElem?_set]
  by_cases e : y = i
  · subst e
    rw [if_pos rfl, if_pos hy]
    rw [List.getD_eq_getElem?_getD, List.getElem?_eq_getElem hy, Option.getD_some] at hg
    rw [List.getElem?_eq_getElem hy, hg]
  · rw [if_neg e]
theorem setF_same {F : Mat} {a b x y : Nat} (h : Shp F a b) (hx : x < a) (hy : y < b) (hg : getF F x y = true) : setF F x y = F := by
  have h1 : (F.getD x []).set y true = F.getD x [] := set_same (by rw [h.2 x hx]; exact hy) hg
  unfold setF
  rw [h1]
  refine List.ext_getElem? fun i => ?_
  rw [List.getElem?_set]
  by_cases e : x = i
  · subst e
    rw [if_pos rfl, if_pos (by rw [h.1]; exact hx), List.getD_eq_getElem?_getD, List.getElem?_eq_getElem (by rw [h.1]; exact hx)]
    rfl
  · rw [if_neg e]
theorem all_any (g a : Nat) (w : World) :
    Calls Tryz.prog 68 #[.slice (some ⟨g, 0, none⟩) a a] w fun e w' => e = .returned (.func (.func 101) #[] #[.pointer (some ⟨w.heap.size, 0, none⟩)]) ∧ w.alloc (.cells #[.slice (some ⟨g, 0, none⟩) a a] 127) = w' := by
  go_enter Tryz.func68, Tryz.ntmps68
  go_wp2
  go_ret
  exact ⟨rfl, rfl⟩
theorem collectAll_any {w : World} {B C g a b : Nat} {bl : List Nat} {F : Mat} (hc : w.cell? ⟨C, 0, none⟩ = some (.slice (some ⟨g, 0, none⟩) a a)) (h : RelAt w B g a b bl F) (ha : a ≤ 1000000) (hb : b ≤ 1000000) (hl : a * b ≤ 10000000) :
    Calls Tryz.prog 67 #[.func (.func 101) #[] #[.pointer (some ⟨C, 0, none⟩)]] w fun e w' => ∃ v, e = .returned v ∧ w'.ownsRow w.heap.size 48 2 v (allF F).length (pcells (allF F)) ∧ Below w.heap.size w w' := by
  have hlen : (allF F).length ≤ 10000000 := by
    have h1 := preO_len h.shp a (Nat.le_refl _)
    rw [allF_preO, h.shp.1]
    omega
  refine (collect2_any _ _ (fun pre k => pre ++ [k] <+: allF F) (fun xs => xs = allF F) (allF F).length hlen (fun pre k hp => by
    have := hp.length_le
    rw [List.length_append, List.length_singleton] at this
    omega) (enters_of Tryz.func101 (by kernel_rfl) rfl) w
    (fun B2 I hI => all_iter B2 B C g a b bl F ha hb h.shp I _ (fun pre V hv => ((hI pre V hv).cell (lt_of_cell hc)).trans hc) (fun pre V hv => h.below (hI pre V hv)))).mono ?_
  rintro e w' ⟨v, xs, rfl, rfl, hr, hbw⟩
  exact ⟨v, rfl, hr, hbw⟩

/-- what the walk holds between two operations -/
structure StAt (w W : World) (G g : Nat) (bl : List Nat) (a : Option Addr) (n c : Nat) (b : Option Addr) (k d : Nat) (m : Syst) (a' : Option Addr) (n' c' : Nat) (b' : Option Addr) (k' d' : Nat) (s : Spc) (oa : Option Addr) (oc R : Nat) (qv : Value) (Q : List Wt) (F : Mat) : Prop where
  sysb : Whole W w.heap.size 25 #[.slice a n c, .slice b k d]
  ver : Whole W (w.heap.size + 2) 57 #[.bool false, .slice none 0 0, .slice none 0 0, .int .i64 0]
  tri : Whole W G 123 #[.slice a n c, .slice b k d, .slice a' n' c', .slice b' k' d', .slice oa k oc, .slice (some ⟨R, 0, none⟩) k' k']
  tr : TrArg W w.heap.size a n c b k d m a' n' c' b' k' d' s (.slice oa k oc) R
  rel : RelAt W w.heap.size g k k' bl F
  que : W.ownsRow w.heap.size 133 4 qv Q.length (qcells Q)
  low : w.heap.size + 2 < G
  below : Below w.heap.size w W
section
variable {w W W' : World} {G g : Nat} {bl : List Nat} {a : Option Addr} {n c : Nat} {b : Option Addr} {k d : Nat} {m : Syst} {a' : Option Addr} {n' c' : Nat} {b' : Option Addr} {k' d' : Nat} {s : Spc} {oa : Option Addr} {oc R : Nat} {qv : Value} {Q : List Wt} {F : Mat}
theorem StAt.up (h : StAt w W G g bl a n c b k d m a' n' c' b' k' d' s oa oc R qv Q F) (hb : Below W.heap.size W W') : StAt w W' G g bl a n c b k d m a' n' c' b' k' d' s oa oc R qv Q F :=
  ⟨h.sysb.below hb h.sysb.lt, h.ver.below hb h.ver.lt, h.tri.below hb h.tri.lt, h.tr.below hb, h.rel.below hb, own_up' h.que hb, h.low, h.below.trans (hb.mono h.below.size)⟩
/-- .. behind a store into a row of marks, or behind what it has become -/
theorem TrArg.grown {B : Nat} {vo : Value} {v : Value} {xs : List Value} {e : TypeId} {size q : Nat} (h : TrArg W B a n c b k d m a' n' c' b' k' d' s vo R) (w0 : World) (hs : SysArg w0 a n c b k d m) (hs' : SpecArg w0 a' n' c' b' k' d' s) (hb : Below w0.heap.size w0 W') (hrow : W.ownsRow B e size v q xs) (hne1 : 3 ≠ e) (hne2 : 179 ≠ e) (hg : W.grownBy W' v.ownBlock) : TrArg W' B a n c b k d m a' n' c' b' k' d' s vo R :=
  ⟨hs.below hb, hs'.below hb, h.off.kept hg (own_apart h.off hrow hne1), h.acc.kept hg (own_apart h.acc hrow hne2)⟩
theorem StAt.mark (h : StAt w W G g bl a n c b k d m a' n' c' b' k' d' s oa oc R qv Q F) (hs : SysArg w a n c b k d m) (hs' : SpecArg w a' n' c' b' k' d' s) {x : Nat} (hx : x < k) {F' : Mat} (hr : RelAt W' w.heap.size g k k' bl F') (hg : W.grownBy W' (some (bl.getD x 0))) : StAt w W' G g bl a n c b k d m a' n' c' b' k' d' s oa oc R qv Q F' := by
  have hrow := h.rel.rows x hx
  have hB : Below w.heap.size w W' := h.below.grown hg h.below.size (fun q hq => by cases hq; exact own_ge hrow _ rfl)
  exact ⟨h.sysb.grown hg (own_whole hrow h.sysb (by decide)), h.ver.grown hg (own_whole hrow h.ver (by decide)), h.tri.grown hg (own_whole hrow h.tri (by decide)), h.tr.grown w hs hs' hB hrow (by decide) (by decide) hg, hr, h.que.kept hg (own_apart h.que hrow (by decide)), h.low, hB⟩
theorem RelAt.grown {B : Nat} {v : Value} {xs : List Value} {e : TypeId} {size q : Nat} {x y : Nat} (h : RelAt W B g x y bl F) (hrow : W.ownsRow B e size v q xs) (hne1 : 4 ≠ e) (hne2 : 173 ≠ e) (hg : W.grownBy W' v.ownBlock) : RelAt W' B g x y bl F :=
  ⟨h.shp, h.len, h.nod, h.outer.kept hg (own_apart h.outer hrow hne2), fun z hz => (h.rows z hz).kept hg (own_apart (h.rows z hz) hrow hne1)⟩
/-- .. behind an append onto the queue -/
theorem StAt.push (h : StAt w W G g bl a n c b k d m a' n' c' b' k' d' s oa oc R qv Q F) (hs : SysArg w a n c b k d m) (hs' : SpecArg w a' n' c' b' k' d' s) {o : Obj} {qv' : Value} {t : Wt} (hown : W'.ownsRow w.heap.size 133 4 qv' (Q.length + 1) (qcells Q ++ [.int .i64 t.before, .int .i64 t.last, .int .i64 t.x, .int .i64 t.y])) (hg : (W.alloc o).grownBy W' qv.ownBlock) : StAt w W' G g bl a n c b k d m a' n' c' b' k' d' s oa oc R qv' (Q ++ [t]) F := by
  have h1 := h.up ((Below.refl _ W).alloc (Nat.le_refl _) o)
  have hB : Below w.heap.size w W' := h1.below.grown hg h1.below.size (own_ge h1.que)
  exact ⟨h1.sysb.grown hg (own_whole h1.que h1.sysb (by decide)), h1.ver.grown hg (own_whole h1.que h1.ver (by decide)), h1.tri.grown hg (own_whole h1.que h1.tri (by decide)), h1.tr.grown w hs hs' hB h1.que (by decide) (by decide) hg, h1.rel.grown h1.que (by decide) (by decide) hg, by rw [List.length_append, List.length_singleton, qcells_snoc]; exact hown, h1.low, hB⟩
end
end Go.Proofs.YtgnbkepdbdgkdaaGreatDoor
/- Plain facts: the queue of pairs, level by level; rows of pairs; nothing here is about a program. -/
namespace Go.Proofs.YtgnbkepdbdgkdaaGreatDoor
open Go.RowKit Pl

theorem okq_at {m : Syst} {s : Spc} (hm : sysB m = true) (hs : spcB s = true) : ∀ i, FitsTo m s i → OkQ m s (stQ m s i)
  | 0, _ => OkQ.zero ((sysB_iff m).1 hm).2.1 ((spcB_iff s).1 hs).2.1
  | i + 1, h => by
    obtain ⟨h1, h2⟩ := h i (by omega)
    have := (Bf.inq hm hs (bf_at hm hs i (fun k hk => h k (by omega)) h1) h2 _ (Nat.le_refl _)).1.ok
    exact this
theorem fits_next {m : Syst} {s : Spc} {i : Nat} (h : FitsTo m s i) (hi : i < (stQ m s i).1.length) (hf : fitB m s (wtAt (stQ m s i).1 i).x (wtAt (stQ m s i).1 i).y = true) : FitsTo m s (i + 1) := fun k hk => by
  by_cases e : k < i
  · exact h k e
  · obtain rfl : k = i := by omega
    exact ⟨hi, hf⟩
/-- from place i0 to N0 the words have d actions, behind it one more -/
structure Lev (q : List Wt × Mat) (i0 N0 d : Nat) : Prop where
  b0 : i0 ≤ N0
  b1 : N0 ≤ q.1.length
  lo : ∀ p, i0 ≤ p → p < N0 → lenQ q.1 p = d
  hi : ∀ p, N0 ≤ p → p < q.1.length → lenQ q.1 p = d + 1
theorem Lev.add {s : Spc} {q : List Wt × Mat} {i0 N0 d i y : Nat} {e : Edg} (h : Lev q i0 N0 d) (hB : Bef q.1) (hB' : Bef (addQ s i y q e).1) (h0 : i0 ≤ i) (hN : i < N0) : Lev (addQ s i y q e) i0 N0 d := by
  rcases addQ_two s i y q e with ⟨_, hq⟩ | ⟨_, hq⟩
  · rw [hq]; exact h
  · rw [hq] at hB' ⊢
    obtain ⟨T, hT⟩ : ∃ T : Wt, (⟨i, e.1, e.2.toNat, nextY s y e.1⟩ : Wt) = T := ⟨_, rfl⟩
    have T1 : T.before = i := by rw [← hT]
    rw [hT] at hB' ⊢
    have b1 := h.b1
    have hlen : (q.1 ++ [T]).length = q.1.length + 1 := by simp
    refine ⟨h.b0, by show N0 ≤ (q.1 ++ [T]).length; omega, fun p h1 h2 => ?_, fun p h1 h2 => ?_⟩
    · show lenQ (q.1 ++ [T]) p = d
      rw [lenQ_app hB hB' (by omega)]; exact h.lo p h1 h2
    · show lenQ (q.1 ++ [T]) p = d + 1
      have h2' : p < q.1.length + 1 := by rw [← hlen]; exact h2
      by_cases e : p < q.1.length
      · rw [lenQ_app hB hB' e]; exact h.hi p h1 e
      · obtain rfl : p = q.1.length := by omega
        have hsn : wtAt (q.1 ++ [T]) q.1.length = T := wtAt_snoc _ _
        rw [lenQ_next hB' (by rw [hlen]; omega) (by omega), hsn, T1, lenQ_app hB hB' (by omega), h.lo i h0 hN]
theorem Lev.inq {m : Syst} {s : Spc} (hm : sysB m = true) (hs : spcB s = true) {i i0 N0 d : Nat} {q : List Wt × Mat} (h : Lev q i0 N0 d) (hb : Bf m s i 0 q) (hf : fitB m s (wtAt q.1 i).x (wtAt q.1 i).y = true) (h0 : i0 ≤ i) (hN : i < N0) :
    ∀ j, j ≤ (stAt m.states (wtAt q.1 i).x).length → Lev (inQ m s i q j) i0 N0 d
  | 0, _ => by rw [inQ_zero]; exact h
  | j + 1, hj => by
    have ih := Lev.inq hm hs h hb hf h0 hN j (by omega)
    have h1 := (Bf.inq hm hs hb hf j (by omega)).1.ok.bef
    have h2 := (Bf.inq hm hs hb hf (j + 1) hj).1.ok.bef
    rw [inQ_next m s i q j (by omega)] at h2 ⊢
    exact ih.add h1 h2 h0 hN
theorem Lev.level {q : List Wt × Mat} {i0 N0 d : Nat} (h : Lev q i0 N0 d) : Lev q N0 q.1.length (d + 1) :=
  ⟨h.b1, Nat.le_refl _, h.hi, fun p h1 h2 => by omega⟩
theorem Lev.zero (m : Syst) (s : Spc) : Lev (stQ m s 0) 0 1 0 := ⟨by omega, Nat.le_refl _, fun p _ h => by
  obtain rfl : p = 0 := by omega
  rfl, fun p h1 h2 => by
  have : (stQ m s 0).1.length = 1 := rfl
  omega⟩
/-- the states of the places from n on -/
def xyL (Q : List Wt) (n : Nat) : List (Nat × Nat) := (Q.drop n).map fun t => (t.x, t.y)
theorem xyL_len (Q : List Wt) (n : Nat) : (xyL Q n).length = Q.length - n := by simp [xyL]
theorem xyL_snoc (Q : List Wt) (T : Wt) {n : Nat} (h : n ≤ Q.length) : xyL (Q ++ [T]) n = xyL Q n ++ [(T.x, T.y)] := by
  unfold xyL
  rw [List.drop_append_of_le_length h]
  simp
theorem xyL_at {Q : List Wt} {n r : Nat} (h : n + r < Q.length) : (xyL Q n)[r]? = some ((wtAt Q (n + r)).x, (wtAt Q (n + r)).y) := by
  unfold xyL wtAt
  rw [List.getElem?_map, List.getElem?_drop, List.getElem?_eq_getElem h, List.getD_eq_getElem?_getD, List.getElem?_eq_getElem h]
  rfl
theorem xyL_end (Q : List Wt) : xyL Q Q.length = [] := by simp [xyL]
theorem pcells_snoc (L : List (Nat × Nat)) (x y : Nat) : pcells (L ++ [(x, y)]) = pcells L ++ [.int .i64 x, .int .i64 y] := by simp [pcells]
theorem pcells_len : ∀ L : List (Nat × Nat), (pcells L).length = L.length * 2
  | [] => rfl
  | p :: L => by
    have := pcells_len L
    unfold pcells at this ⊢
    rw [List.flatMap_cons, List.length_append, this]
    simp
    omega
theorem pcells_at : ∀ (L : List (Nat × Nat)) (k : Nat) (x y : Nat), L[k]? = some (x, y) → (pcells L)[k * 2]? = some (.int .i64 x) ∧ (pcells L)[k * 2 + 1]? = some (.int .i64 y)
  | [], k, x, y, h => by simp at h
  | p :: L, 0, x, y, h => by
    simp at h
    subst h
    simp [pcells]
  | p :: L, k + 1, x, y, h => by
    have ih := pcells_at L k x y (by simpa using h)
    have e : pcells (p :: L) = [.int .i64 p.1, .int .i64 p.2] ++ pcells L := by simp [pcells]
    rw [e, show (k + 1) * 2 = 2 + k * 2 by omega, show 2 + k * 2 + 1 = 2 + (k * 2 + 1) by omega]
    rw [List.getElem?_append_right (by simp), List.getElem?_append_right (by simp)]
    simpa using ih
end Go.Proofs.YtgnbkepdbdgkdaaGreatDoor
/- slices.SortFunc's closure at this seat's numbers. -/
namespace Go.Proofs
open Go.Shelf
def Tryz.laysSortE_ren : Go.Shelf.Ren := ⟨fun | 6 => 93 | 15 => 98 | 14 => 121 | 28 => 133 | 29 => 134 | 20 => 156 | 21 => 157 | 22 => 158 | 23 => 159 | 24 => 160 | 25 => 161 | 26 => 162 | 27 => 163 | 46 => 189 | 47 => 166 | 48 => 167 | 49 => 190 | 50 => 191 | 57 => 207 | n => n, fun | 22 => 77 | 24 => 87 | 25 => 175 | 3 => 3 | 39 => 103 | 0 => 0 | 53 => 220 | 55 => 222 | 4 => 4 | 46 => 214 | 45 => 213 | 50 => 163 | 5 => 5 | 9 => 9 | 66 => 243 | 70 => 247 | 76 => 265 | 77 => 266 | n => n, fun | n => n⟩
theorem Tryz.laysSortE : Go.Proofs.SlLaysF0.n6 Tryz.prog Tryz.laysSortE_ren := {
  mixed := by kernel_rfl
  f6 := ⟨Tryz.f93.name, by decide, Tryz.func93.trans (congrArg some (by kernel_rfl))⟩
  f14 := ⟨Tryz.f121.name, by decide, Tryz.func121.trans (congrArg some (by kernel_rfl))⟩
  f15 := Tryz.func98.trans (congrArg some (by kernel_rfl))
  f20 := ⟨Tryz.f156.name, by decide, Tryz.func156.trans (congrArg some (by kernel_rfl))⟩
  f21 := ⟨Tryz.f157.name, by decide, Tryz.func157.trans (congrArg some (by kernel_rfl))⟩
  f22 := ⟨Tryz.f158.name, by decide, Tryz.func158.trans (congrArg some (by kernel_rfl))⟩
  f23 := ⟨Tryz.f159.name, by decide, Tryz.func159.trans (congrArg some (by kernel_rfl))⟩
  f24 := ⟨Tryz.f160.name, by decide, Tryz.func160.trans (congrArg some (by kernel_rfl))⟩
  f25 := ⟨Tryz.f161.name, by decide, Tryz.func161.trans (congrArg some (by kernel_rfl))⟩
  f26 := ⟨Tryz.f162.name, by decide, Tryz.func162.trans (congrArg some (by kernel_rfl))⟩
  f27 := ⟨Tryz.f163.name, by decide, Tryz.func163.trans (congrArg some (by kernel_rfl))⟩
  f28 := Tryz.func133.trans (congrArg some (by kernel_rfl))
  f29 := Tryz.func134.trans (congrArg some (by kernel_rfl))
  f46 := ⟨Tryz.f189.name, by decide, Tryz.func189.trans (congrArg some (by kernel_rfl))⟩
  f47 := Tryz.func166.trans (congrArg some (by kernel_rfl))
  f48 := Tryz.func167.trans (congrArg some (by kernel_rfl))
  f49 := ⟨Tryz.f190.name, by decide, Tryz.func190.trans (congrArg some (by kernel_rfl))⟩
  f50 := ⟨Tryz.f191.name, by decide, Tryz.func191.trans (congrArg some (by kernel_rfl))⟩
  f57 := ⟨Tryz.f207.name, by decide, Tryz.func207.trans (congrArg some (by kernel_rfl))⟩
  t0 := Tryz.underlying0
  a0 := Tryz.isAgg0
  z0 := Tryz.sizeOf0
  v0 := Tryz.zeroValue0
  t3 := Tryz.underlying3
  a3 := Tryz.isAgg3
  z3 := Tryz.sizeOf3
  v3 := Tryz.zeroValue3
  t4 := Tryz.underlying4
  a4 := Tryz.isAgg4
  z4 := Tryz.sizeOf4
  v4 := Tryz.zeroValue4
  t5 := Tryz.underlying5
  a5 := Tryz.isAgg5
  z5 := Tryz.sizeOf5
  v5 := Tryz.zeroValue5
  t9 := Tryz.underlying9
  a9 := Tryz.isAgg9
  z9 := Tryz.sizeOf9
  v9 := Tryz.zeroValue9
  t22 := Tryz.underlying77
  a22 := Tryz.isAgg77
  z22 := Tryz.sizeOf77
  v22 := Tryz.zeroValue77
  t25 := Tryz.underlying175
  a25 := Tryz.isAgg175
  z25 := Tryz.sizeOf175
  v25 := Tryz.zeroValue175
  t39 := Tryz.underlying103
  a39 := Tryz.isAgg103
  z39 := Tryz.sizeOf103
  v39 := Tryz.zeroValue103
  t45 := Tryz.underlying213
  a45 := Tryz.isAgg213
  z45 := Tryz.sizeOf213
  v45 := Tryz.zeroValue213
  t46 := Tryz.underlying214
  a46 := Tryz.isAgg214
  z46 := Tryz.sizeOf214
  v46 := Tryz.zeroValue214
  t50 := Tryz.underlying163
  a50 := Tryz.isAgg163
  z50 := Tryz.sizeOf163
  v50 := Tryz.zeroValue163
  t53 := Tryz.underlying220
  a53 := Tryz.isAgg220
  z53 := Tryz.sizeOf220
  v53 := Tryz.zeroValue220
  t55 := Tryz.underlying222
  a55 := Tryz.isAgg222
  z55 := Tryz.sizeOf222
  v55 := Tryz.zeroValue222
  t66 := Tryz.underlying243
  a66 := Tryz.isAgg243
  z66 := Tryz.sizeOf243
  v66 := Tryz.zeroValue243
  t70 := Tryz.underlying247
  a70 := Tryz.isAgg247
  z70 := Tryz.sizeOf247
  v70 := Tryz.zeroValue247
  t76 := Tryz.underlying265
  a76 := Tryz.isAgg265
  z76 := Tryz.sizeOf265
  v76 := Tryz.zeroValue265
  t77 := Tryz.underlying266
  a77 := Tryz.isAgg266
  z77 := Tryz.sizeOf266
  v77 := Tryz.zeroValue266 }
end Go.Proofs
/- slices.SortFunc at a row of edges of the call's own. -/
namespace Go.Proofs.YtgnbkepdbdgkdaaGreatDoor
open Go.RowKit Go.Sort Go.Shelf Go.Proofs Pl

def encE (e : Edg) : List Value := [.int .i64 e.1, .int .i64 e.2]
theorem flat_E (l : List Edg) : (flatK encE 2 l.toArray).toList = ecells l := by
  refine List.ext_getElem? fun j => ?_
  by_cases hj : j < l.length * 2
  · have h1 : j < (flatK encE 2 l.toArray).size := by simpa using hj
    have h2 : (flatK encE 2 l.toArray)[j]? = some ((encE l.toArray[j / 2]!)[j % 2]!) := by
      rw [Array.getElem?_eq_getElem h1, ← getElem!_pos (flatK encE 2 l.toArray) j h1, get_flatK encE 2 l.toArray j (by simpa using hj)]
    obtain ⟨h3, h4⟩ := ecells_at l (j / 2) (by omega)
    have h5 : l.toArray[j / 2]! = edAt l (j / 2) := by
      rw [getElem!_pos l.toArray (j / 2) (by simp; omega)]
      simp [edAt, List.getD, show j / 2 < l.length by omega]
    rw [Array.getElem?_toList, h2, h5]
    rcases Nat.mod_two_eq_zero_or_one j with e | e
    · rw [e]
      rw [show j / 2 * 2 = j by omega] at h3
      rw [h3]
      rfl
    · rw [e]
      rw [show j / 2 * 2 + 1 = j by omega] at h4
      rw [h4]
      rfl
  · rw [List.getElem?_eq_none (by simp; omega), List.getElem?_eq_none (by rw [ecells_length]; omega)]
theorem holds_id {w : World} {g : Nat} {cur F : Array Value} {e : TypeId} (hb : w.heap[g]? = some (.cells cur e (0, 0))) (ht : cur.toList.take F.size = F.toList) : Holds id w g 0 F := by
  intro j hj
  refine ⟨?_, by simp [World.frozen?, hb]⟩
  have h1 : (cur.toList.take F.size)[j]? = F.toList[j]? := by rw [ht]
  rw [List.getElem?_take_of_lt hj] at h1
  simp only [World.cell?, hb, Nat.zero_add]
  simp only [Option.isSome_none, Bool.false_eq_true, if_false]
  rw [← Array.getElem?_toList, h1]
  simp [hj]
theorem heap_put {w : World} {g n : Nat} {os : Array Obj} {cur F : Array Value} {e : TypeId} {fr : Nat × Nat} (hb : w.heap[g]? = some (.cells cur e fr)) :
    (grow (putRow id (Sort.ahead w n) g 0 F) os).heap[g]? = some (.cells (putCells id 0 F cur) e fr) := by
  have hg : g < w.heap.size := (Array.getElem?_eq_some_iff.1 hb).1
  rw [heap_grow_old _ _ (by simpa using hg)]
  simp [putRow, mapBlock, Sort.ahead, Array.getElem?_modify, hb, onCells]
theorem grown_put {w : World} {g n : Nat} {os : Array Obj} (F : Array Value) : w.grownBy (grow (putRow id (Sort.ahead w n) g 0 F) os) (some g) := by
  refine ⟨rfl, rfl, rfl, by simp, fun k hk hne => ?_⟩
  rw [heap_grow_old _ _ (by simpa using hk)]
  have : g ≠ k := fun e => hne (by rw [e])
  simp [putRow, mapBlock, Sort.ahead, Array.getElem?_modify, this]
theorem take_put (cur F : Array Value) (h : F.size ≤ cur.size) : (putCells id 0 F cur).toList.take F.size = F.toList := by
  apply List.ext_getElem?
  intro j
  by_cases hj : j < F.size
  · rw [List.getElem?_take_of_lt hj, Array.getElem?_toList]
    simp [putCells, hj, show j < cur.size by omega]
  · rw [List.getElem?_take_eq_none (by omega), List.getElem?_eq_none (by simp; omega)]
theorem own_put {w : World} {base g cap n m size : Nat} {e : TypeId} {os : Array Obj} {cur F : Array Value} (hF : F.size = m * size) (hbase : base ≤ g) (hb : w.heap[g]? = some (.cells cur e (0, 0))) (h1 : m ≤ cap) (h2 : cap ≤ maxLen) (h3 : cur.size = cap * size) :
    (grow (putRow id (Sort.ahead w n) g 0 F) os).ownsRow base e size (.slice (some ⟨g, 0, none⟩) m cap) m F.toList :=
  ⟨by simpa using hF, .inr ⟨g, cap, _, rfl, hbase, heap_put hb, h1, h2, by simp [putCells, h3], by rw [← hF]; exact take_put cur F (by rw [hF, h3]; exact Nat.mul_le_mul_right _ h1)⟩⟩
theorem ltOf_E : ltOf cmpE = ltE := by
  funext x y
  have := cmpE_lt x y
  unfold ltOf
  cases h : ltE x y <;> simp_all
theorem swo_E : SWO (ltOf cmpE) where
  irrefl x := by rw [ltOf_E, ltE_false]; omega
  trans x y z h1 h2 := by rw [ltOf_E] at *; rw [ltE_iff] at *; omega
  ntrans x y z h1 h2 := by rw [ltOf_E] at *; rw [ltE_false] at *; omega
theorem total_E (x y : Edg) (h1 : ltOf cmpE x y = false) (h2 : ltOf cmpE y x = false) : x = y := by
  rw [ltOf_E, ltE_false] at *
  exact Prod.ext (by omega) (by omega)
def sortEd (l : List Edg) : List Edg := l.mergeSort fun x y => !ltE y x
theorem grow_three (W : World) (o1 o2 o3 : Obj) : (((W.alloc o1).alloc o2).alloc o3).drew = grow (W.drewN 1) #[o1, o2, o3] := by
  rfl
theorem sortE_any {w : World} {B : Nat} {v : Value} {l : List Edg} (h : EdgeOwn w B v l) (hl : l.length ≤ 1000000) :
    Calls Tryz.prog 93 #[v, .func (.func 94) #[] #[]] w fun e w' => e = .returned (.tuple #[]) ∧ EdgeOwn w' B v (sortEd l) ∧ w.grownBy w' v.ownBlock := by
  have hO := h
  rcases h.2 with ⟨rfl, h0⟩ | ⟨g, cap, cur, rfl, hg, hh, hc, hm, hsz, ht⟩
  · refine (AnyF.slices_SortFunc_none Tryz.laysSortE none 0 _ w).mono ?_
    rintro e w' ⟨rfl, rfl⟩
    have e1 : l = [] := List.length_eq_zero_iff.1 h0
    subst e1
    exact ⟨rfl, by simpa [sortEd] using hO, ⟨rfl, rfl, rfl, Nat.le_refl _, fun k _ _ => rfl⟩⟩
  · have hF : (flatK encE 2 l.toArray).size = l.length * 2 := by simp
    have hH : HoldsK encE 2 w g 0 l.toArray := holds_id hh (by rw [hF, flat_E, ← ht])
    have hlt := (Array.getElem?_eq_some_iff.1 hh).1
    have eg : ∀ args w, (callFunc 94 args).run Tryz.prog w = .ok (.enter 94 args) w := enters_of Tryz.func94 (by kernel_rfl) rfl
    have hcmp : CmpLays Tryz.prog 94 #[] encE 2 cmpE g 0 l.toArray.size w := fun m os dk hs x y =>
      (compareEdges_at x.1 x.2 y.1 y.2 _).mono fun e w' ⟨h1, h2⟩ => ⟨h1, 1, #[_, _, _], h2.symm.trans (grow_three _ _ _ _)⟩
    have hC := AnyQ.slices_SortFunc_total Tryz.laysSortE 2 Tryz.isAgg87 Tryz.sizeOf87 encE (fun _ => rfl) (fun x v hv => by simp [encE] at hv; rcases hv with rfl | rfl <;> rfl) cmpE swo_E 94 #[] g 0 cap l.toArray w eg hcmp hH hlt (by simp; omega) total_E
    refine hC.mono ?_
    rintro e w' ⟨rfl, q, os, rfl⟩
    rw [ltOf_E]
    have hlen : (sortEd l).length = l.length := List.length_mergeSort _
    refine ⟨rfl, ?_, grown_put _⟩
    unfold EdgeOwn
    rw [hlen, ← flat_E]
    exact own_put (by simp) hg hh hc hm hsz
end Go.Proofs.YtgnbkepdbdgkdaaGreatDoor
