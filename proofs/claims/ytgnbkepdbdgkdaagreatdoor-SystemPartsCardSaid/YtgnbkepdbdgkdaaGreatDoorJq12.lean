/- Texts joined: SCopy, Same3, Range, Members, Collect. -/
import Derived.Test.YtgnbkepdbdgkdaaGreatDoorJq11
import Derived.Test.YtgnbkepdbdgkdaaGreatDoorJq06
import Derived.Test.YtgnbkepdbdgkdaaGreatDoorJq02
import Derived.RangeFuncNested
import Derived.RangeFuncBound
import Derived.RangeFuncCalls
import Derived.RangeFuncLeaves
import Derived.Shelf.RegionOpen
import Derived.WalkKit
import Derived.OwnWalkIn
import Derived.TacticsInMore
import Derived.LoopNIn
import Derived.LoopIn
import Derived.Maps.AppendAt
import Derived.Test.YtgnbkepdbdgkdaaGreatDoorJq01
import Derived.Shelf.Spec.TrailingZeros
/- The reference's Copy of specifications: the same specification in new memory. -/
namespace Go.Proofs.YtgnbkepdbdgkdaaGreatDoor
open Go.RowKit Pl

theorem infoNumS : (Tryz.prog.info? 3).map (fun i => (i.zero, i.size, i.bytes)) = some (some (.int .i64 0), 1, 8) := by kernel_rfl
theorem ste_le (ss : List Ste) (i : Nat) (h : i < ss.length) : (teAt ss i).1.length + (teAt ss i).2.length ≤ totalS ss := by
  have h1 := totalS_take ss i h
  have h2 := totalS_take_le ss (i + 1)
  omega
/-- where Copy stands behind j states -/
structure SCopyAt (w : World) (B3 : Nat) (box : Array Value) (va : Value) (m : Spc) (j : Nat) (vs : Value) (wr : World) : Prop where
  box : Whole wr w.heap.size 52 box
  res : Whole wr (w.heap.size + 1) 52 #[.slice none 0 0, .slice none 0 0]
  out : Whole wr B3 52 #[va, vs]
  rows : StesOwn wr w.heap.size vs (m.states.take j)
  acts : wr.ownsRow w.heap.size 9 1 va m.acts.length (m.acts.map Value.string)
  lo : w.heap.size + 1 < B3
  below : Below w.heap.size w wr
/-- one state more -/
theorem SCopyAt.next {w wr wA wB : World} {B3 : Nat} {box : Array Value} {va vs p q v2 : Value} {m : Spc} {j : Nat} {t : TypeId} (h : SCopyAt w B3 box va m j vs wr) (hj : j < m.states.length)
    (hP : NumO wA w.heap.size p (teAt m.states j).1) (hQ : NumO wA w.heap.size q (teAt m.states j).2) (bA : Below wr.heap.size wr wA) (hgB : (wA.alloc (.cells #[p, q] t)).grownBy wB vs.ownBlock)
    (hB : ∀ rows, (wA.alloc (.cells #[p, q] t)).ownsRow w.heap.size 119 2 vs j (rcells rows) → rows.length = j → wB.ownsRow w.heap.size 119 2 v2 (j + 1) (rcells rows ++ [p, q])) :
    SCopyAt w B3 box va m (j + 1) v2 (wB.setCell ⟨B3, 1, none⟩ v2) := by
  have hl : (m.states.take j).length = j := by rw [List.length_take]; omega
  have bA' := bA.trans (((Below.refl _ wA).alloc (Nat.le_refl _) (.cells #[p, q] t)).mono bA.size)
  have rA := h.rows.below bA'
  have oA := own_up (own_up h.acts (below_grown bA)) (below_grown ((Below.refl _ wA).alloc (Nat.le_refl _) (.cells #[p, q] t)))
  obtain ⟨rows, r1, r2, r3⟩ := rA
  have lo := h.lo
  have z := h.out.lt
  have n1 : ∀ g cs, Whole wr g 52 cs → Whole wB g 52 cs := fun g cs hw => by
    have h1 := hw.below bA' hw.lt
    exact h1.grown hgB (own_whole r2 h1 (by decide))
  have hs := StesOwn.snoc (w := wA.alloc (.cells #[p, q] t)) (w' := wB) (v' := v2) (t := teAt m.states j) ⟨rows, r1, r2, r3⟩ (hP.alloc _) (hQ.alloc _) hgB (fun rows' h1 h2 => by
    rw [hl] at h1 h2 ⊢
    exact hB rows' h1 h2)
  have et : m.states.take (j + 1) = m.states.take j ++ [teAt m.states j] := take_next m.states j ([], []) hj
  have hw := n1 _ _ h.out
  have hg2 := grown_self wB ⟨B3, 1, none⟩ v2
  refine ⟨(n1 _ _ h.box).far (by simp; omega) _, (n1 _ _ h.res).far (by simp; omega) _, by simpa using hw.set 1 v2, ?_, ?_, lo, ?_⟩
  · rw [et]
    exact hs.kept hg2 (.inr (own_whole hs.choose_spec.2.1 hw (by decide)).symm) (fun r l hr => .inr (own_whole hr hw (by decide)).symm)
  · exact own_stored (oA.kept hgB (own_apart oA r2 (by decide))) hw (by decide)
  · exact ((h.below.trans (bA'.mono h.below.size)).grown hgB (Nat.le_trans h.below.size bA'.size) (own_ge r2)).setCell (by simp; omega) _
theorem SCopyAt.drew {w wr : World} {B3 : Nat} {box : Array Value} {va vs : Value} {m : Spc} {j : Nat} (h : SCopyAt w B3 box va m j vs wr) : SCopyAt w B3 box va m j vs wr.drew :=
  ⟨h.box, h.res, h.out, h.rows, h.acts, h.lo, h.below.drew⟩

set_option maxRecDepth 100000 in
set_option maxHeartbeats 4000000 in
theorem SCopy_any {w : World} {a : Option Addr} {n c : Nat} {b : Option Addr} {k d : Nat} {m : Spc} (A : SpecArg w a n c b k d m) (hq : m.acts.length + m.states.length + totalS m.states ≤ 1000000) :
    Calls Tryz.prog 23 #[.agg #[.slice a n c, .slice b k d]] w fun e w' => ∃ va vs, e = .returned (.agg #[va, vs]) ∧ SpcOwn w' w.heap.size va vs m ∧ Below w.heap.size w w' := by
  obtain ⟨i0, hi, hz0, hz1, hz2⟩ := info_parts infoString
  obtain ⟨i1, hi1, hz10, hz11, hz12⟩ := info_parts infoNumS
  obtain ⟨i2, hi2, hz20, hz21, hz22⟩ := info_parts infoState
  have HA := Lib.hid A
  have h1 : n ≤ 1000000 := by have := A.acts.len; omega
  have h2 : k ≤ 1000000 := by have := A.len; omega
  have HQ := Lib.hid hq
  have hB := ((Below.refl w.heap.size w).alloc (Nat.le_refl _) (.cells #[.slice a n c, .slice b k d] 52)).alloc (by simp) (.cells #[.slice none 0 0, .slice none 0 0] 52)
  have HS := Lib.hid (strs_src (A.acts.below hB))
  have HN := Lib.hid A.acts.nils
  have HL : Hid ((m.acts.map Value.string).length = n * 1) := Lib.hid (by have := A.acts.len; simp; omega)
  have HBB := Lib.hid hB
  have HW1 := Lib.hid ((Whole.new w 52 #[.slice a n c, .slice b k d]).alloc (.cells #[.slice none 0 0, .slice none 0 0] 52))
  have HW2 := Lib.hid (Whole.new (w.alloc (.cells #[.slice a n c, .slice b k d] 52)) 52 #[.slice none 0 0, .slice none 0 0])
  clear A hB hq
  go_enter Tryz.func23, Tryz.ntmps23
  go_wp2_with (at_builtin; (refine wpList_append_sz rfl (.const (.slice none 0 0)) (.tmp 7) 22 rfl w.heap.size 9 i0 (.string ⟨#[]⟩) 1 16 Tryz.underlying22 hi hz0 hz1 hz2 rfl (by decide) (.slice none 0 0) rfl 0 [] (World.ownsRow_nil _ _ _ _) a n c rfl (m.acts.map Value.string) HN.out HL.out HS.out (strs_one _) (by unfold maxLen; omega) (by omega) HBB.out.size ?_); intro va w1 hva hg1 hat1; refine Hid.out ?_)
  simp only [Nat.zero_add, List.nil_append] at hva
  obtain ⟨aa, ca, rfl⟩ := own_slice hva
  have hb1 := HBB.out.grown hg1 HBB.out.size (fun k hk => by cases hk)
  have x1 := HW1.out.grown hg1 (fun h => by cases h)
  have x2 := HW2.out.grown hg1 (fun h => by cases h)
  have y1 := x1.cell 1
  simp only [World.size_alloc, List.getElem?_toArray, List.getElem?_cons_succ, List.getElem?_cons_zero] at y1 x2
  have HC : Hid (SCopyAt w w1.heap.size #[.slice a n c, .slice b k d] (.slice aa n ca) m 0 (.slice none 0 0) (w1.alloc (.cells #[.slice aa n ca, .slice none 0 0] 52))) :=
    Lib.hid ⟨x1.alloc _, x2.alloc _, Whole.new _ _ _, StesOwn.none _ _, by have := HA.out.acts.len; rw [← this]; exact hva.alloc _, x2.lt, hb1.alloc hb1.size _⟩
  have y2 := cell_new y1
  clear hva hb1 hg1 hat1 x1 x2 y1
  refine Lib.hid ?_
  go_wp2
  go_loopw [5, 13] (fun _ i wr => ∃ j vs, j ≤ k ∧ i = .int .i64 (j : Nat) ∧ SCopyAt w w1.heap.size #[.slice a n c, .slice b k d] (.slice aa n ca) m j vs wr) (fun _ i _ => k - (intOf i).toNat)
  case atStart => exact ⟨0, _, Nat.zero_le _, rfl, HC.out⟩
  case round =>
    obtain ⟨j, vs, hj, rfl, hC⟩ := hrel
    have HC := Lib.hid hC
    obtain ⟨rows, r1, r2, r3⟩ := hC.rows
    have hl : (m.states.take j).length = j := by rw [List.length_take]; have := HA.out.len; omega
    rw [hl] at r1 r2
    obtain ⟨bb, cc, rfl⟩ := own_slice r2
    have z1 := hC.out.cell 0
    have z2 := hC.out.cell 1
    have z3 := hC.out.frozen 1
    have z4 := hC.out.lt
    have z5 := hC.below.size
    have z6 := hC.out
    have HNE := Lib.hid (own_whole r2 hC.out (by decide))
    simp only [List.getElem?_toArray, List.getElem?_cons_succ, List.getElem?_cons_zero] at z1 z2
    clear hC hl
    by_cases hlt : j < k
    · obtain ⟨bx, off, rfl, a1, n1, c1, a2, n2, c2, c3, c4, hN1, hN2⟩ := (HA.out.rows.below HC.out.below) j (by have := HA.out.len; omega)
      have h3 : n1 + n2 ≤ 1000000 := by
        have := hN1.arg.len; have := hN2.arg.len; have := ste_le m.states j (by have := HA.out.len; omega); have := HQ.out; omega
      have hbl : Below wr.heap.size wr (wr.alloc (.cells #[.slice a1 n1 c1, .slice a2 n2 c2] 119)) := (Below.refl _ wr).alloc (Nat.le_refl _) _
      have NA := Lib.hid (hN1.arg.below hbl)
      have NB := Lib.hid (hN2.arg.below hbl)
      have LA : Hid (((teAt m.states j).1.map (Value.int .i64)).length = n1 * 1) := Lib.hid (by have := hN1.arg.len; simp; omega)
      have LB : Hid (((teAt m.states j).2.map (Value.int .i64)).length = n2 * 1) := Lib.hid (by have := hN2.arg.len; simp; omega)
      have R1 := Lib.hid r1
      have R2 := Lib.hid (r2.alloc (.cells #[.slice a1 n1 c1, .slice a2 n2 c2] 119))
      have zO := Lib.hid (HC.out.out.alloc (.cells #[.slice a1 n1 c1, .slice a2 n2 c2] 119))
      have zX := Lib.hid (Whole.new wr 119 #[.slice a1 n1 c1, .slice a2 n2 c2])
      have hG : Below (wr.alloc (.cells #[.slice a1 n1 c1, .slice a2 n2 c2] 119)).heap.size (wr.alloc (.cells #[.slice a1 n1 c1, .slice a2 n2 c2] 119)) (wr.alloc (.cells #[.slice a1 n1 c1, .slice a2 n2 c2] 119)).drew := (Below.refl _ _).drew
      have hS0 : w.heap.size ≤ (wr.alloc (.cells #[.slice a1 n1 c1, .slice a2 n2 c2] 119)).heap.size := Nat.le_trans HC.out.below.size hbl.size
      have HBl := Lib.hid hbl
      clear r1 r2 r3 hN1 hN2 hbl
      go_wp2
      go_region_law (first
        | (refine step_append_sz rfl (.const (.slice none 0 0)) (.tmp 20) 28 (by rfl) w.heap.size 3 i1 (.int .i64 0) 1 8 Tryz.underlying28 hi1 hz10 hz11 hz12 rfl (by decide) (.slice none 0 0) (by rfl) 0 [] (World.ownsRow_nil _ _ _ _) a1 n1 c1 (by rfl) ((teAt m.states j).1.map (Value.int .i64)) NA.out.nils LA.out (numsrc (NA.out.below hG)) (numone _) (by unfold maxLen; omega) (by omega) (Nat.le_trans hS0 hG.size) ?_; intro v wA hA hg hat; clear hat; simp only [Nat.zero_add, List.nil_append] at hA; obtain ⟨xA, qA, rfl⟩ := own_slice hA; have hG := hG.trans ((below_up hg).mono hG.size); (try (have hB := own_up hB hg)); have kO := zO.out.below hG zO.out.lt; have kX := zX.out.below hG zX.out.lt; have k1 : wA.cell? ⟨w1.heap.size, 1, none⟩ = some (.slice bb j cc) := kO.cell 1; have k2 := kO.frozen 1; have k5 : wA.cell? ⟨wr.heap.size, 0, none⟩ = some (.slice a1 n1 c1) := kX.cell 0; have k6 : wA.cell? ⟨wr.heap.size, 1, none⟩ = some (.slice a2 n2 c2) := kX.cell 1; have k3 := cell_new k1)
        | (refine step_append_sz rfl (.const (.slice none 0 0)) (.tmp 23) 28 (by rfl) w.heap.size 3 i1 (.int .i64 0) 1 8 Tryz.underlying28 hi1 hz10 hz11 hz12 rfl (by decide) (.slice none 0 0) (by rfl) 0 [] (World.ownsRow_nil _ _ _ _) a2 n2 c2 (by rfl) ((teAt m.states j).2.map (Value.int .i64)) NB.out.nils LB.out (numsrc (NB.out.below hG)) (numone _) (by unfold maxLen; omega) (by omega) (Nat.le_trans hS0 hG.size) ?_; intro v wA hB hg hat; clear hat; simp only [Nat.zero_add, List.nil_append] at hB; obtain ⟨xB, qB, rfl⟩ := own_slice hB; have hG := hG.trans ((below_up hg).mono hG.size); (try (have hA := own_up hA hg)); have kO := zO.out.below hG zO.out.lt; have kX := zX.out.below hG zX.out.lt; have k1 : wA.cell? ⟨w1.heap.size, 1, none⟩ = some (.slice bb j cc) := kO.cell 1; have k2 := kO.frozen 1; have k5 : wA.cell? ⟨wr.heap.size, 0, none⟩ = some (.slice a1 n1 c1) := kX.cell 0; have k6 : wA.cell? ⟨wr.heap.size, 1, none⟩ = some (.slice a2 n2 c2) := kX.cell 1; have k3 := cell_new k1)
        | (refine step_append_sz rfl (.tmp 18) (.tmp 26) 50 (by rfl) w.heap.size 119 i2 (.agg #[.slice none 0 0, .slice none 0 0]) 2 48 Tryz.underlying50 hi2 hz20 hz21 hz22 rfl (by decide) (.slice bb j cc) (by rfl) j (rcells rows) ((own_up R2.out (below_grown hG)).alloc _) (some ⟨_, 0, none⟩) 1 1 (by rfl) [.slice xA n1 qA, .slice xB n2 qB] (fun h => by cases h) rfl (pair_src _ _ _ _) (by simp [Value.oneCell']) (by unfold maxLen; omega) (by omega) (Nat.le_trans hS0 (Nat.le_trans hG.size (by simp))) ?_; intro v2 wC hC hgC hatC; clear hatC; obtain ⟨a3, q3, rfl⟩ := own_slice hC; have kW2 := (kO.alloc (.cells #[.slice xA n1 qA, .slice xB n2 qB] 119)).grown (w' := wC) hgC HNE.out; have k7 := kW2.cell 1; have k8 := kW2.frozen 1; simp only [List.getElem?_toArray, List.getElem?_cons_succ, List.getElem?_cons_zero] at k7))
      all_goals
        have HN2 : Hid (SCopyAt w w1.heap.size #[.slice a n c, .slice (some ⟨bx, off, none⟩) k d] (.slice aa n ca) m (j + 1) (.slice a3 (j + 1) q3) (wC.setCell ⟨w1.heap.size, 1, none⟩ (.slice a3 (j + 1) q3))) :=
          Lib.hid (HC.out.next (by have := HA.out.len; omega) (by unfold NumO; rw [← NA.out.len]; exact hA) (by unfold NumO; rw [← NB.out.len]; exact hB) (HBl.out.trans (hG.mono HBl.out.size)) hgC (fun rows' e1 e2 => by
            have e3 := own_eq e1 ((own_up R2.out (below_grown hG)).alloc (.cells #[.slice xA n1 qA, .slice xB n2 qB] 119))
            rw [e3]; exact hC))
        go_wp2
        go_roundw
        case rel => exact ⟨j + 1, _, by omega, by go_num, HN2.out⟩
        case measure => simp [intOf]; omega
    · obtain rfl : j = k := by omega
      have x0 := HC.out.res.cell 0
      have x1 := HC.out.res.cell 1
      have x2 := HC.out.res.frozen 0
      have x3 := HC.out.res.frozen 1
      have x4 := HC.out.res.lt
      have x5 := HC.out.lo
      simp only [List.getElem?_toArray, List.getElem?_cons_succ, List.getElem?_cons_zero] at x0 x1
      have HR : Hid (SpcOwn ((wr.setCell ⟨w.heap.size + 1, 0, none⟩ (.slice aa n ca)).setCell ⟨w.heap.size + 1, 1, none⟩ (.slice bb j cc)) w.heap.size (.slice aa n ca) (.slice bb j cc) m ∧ Below w.heap.size w ((wr.setCell ⟨w.heap.size + 1, 0, none⟩ (.slice aa n ca)).setCell ⟨w.heap.size + 1, 1, none⟩ (.slice bb j cc))) := Lib.hid (by
        have hw := HC.out.res.set 0 (.slice aa n ca)
        have hrows := HC.out.rows
        rw [List.take_of_length_le (by have := HA.out.len; omega)] at hrows
        refine ⟨⟨own_stored (own_stored HC.out.acts HC.out.res (by decide)) hw (by decide), ?_⟩, (HC.out.below.setCell (by simp) _).setCell (by simp) _⟩
        have s1 := hrows.kept (grown_self wr ⟨w.heap.size + 1, 0, none⟩ (.slice aa n ca)) (.inr (own_whole hrows.choose_spec.2.1 HC.out.res (by decide)).symm) (fun r l hr => .inr (own_whole hr HC.out.res (by decide)).symm)
        exact s1.kept (grown_self _ ⟨w.heap.size + 1, 1, none⟩ (.slice bb j cc)) (.inr (own_whole s1.choose_spec.2.1 hw (by decide)).symm) (fun r l hr => .inr (own_whole hr hw (by decide)).symm))
      have g0 := (HC.out.res.set 0 (.slice aa n ca)).cell 0
      have g1 := ((HC.out.res.set 0 (.slice aa n ca)).set 1 (.slice bb j cc)).cell 1
      simp only [List.setIfInBounds_toArray, List.set_cons_zero, List.set_cons_succ, List.getElem?_toArray, List.getElem?_cons_succ, List.getElem?_cons_zero] at g0 g1
      clear r1 r2 r3
      go_wp2
      exact bodyPost_ret (v := .agg #[.slice aa n ca, .slice bb j cc]) (by simp [results, Tryz.results23, go_sem, g0, g1]) rfl ⟨_, _, rfl, HR.out⟩
end Go.Proofs.YtgnbkepdbdgkdaaGreatDoor
/- slices.Equal and slices.EqualFunc as the program calls them; system.Same. -/
namespace Go.Proofs.YtgnbkepdbdgkdaaGreatDoor
open Go.RowKit Pl

set_option maxHeartbeats 1000000 in
theorem eqStr_any {w : World} {a : Option Addr} {n c : Nat} {xs : List ByteArray} {a' : Option Addr} {n' c' : Nat} {ys : List ByteArray} (A : StrArg w a n c xs) (A' : StrArg w a' n' c' ys) :
    Calls Tryz.prog 95 #[.slice a n c, .slice a' n' c'] w fun e w' => e = .returned (.bool (decide (xs = ys))) ∧ Below w.heap.size w w' := by
  have HA := Lib.hid A
  have HA' := Lib.hid A'
  have h1 : n ≤ 9223372036854775807 := A.big
  have h2 : n' ≤ 9223372036854775807 := A'.big
  clear A A'
  by_cases hl : n = n'
  · subst hl
    have hq : ((n : Int) != n) = false := by simp
    go_enter Tryz.func95, Tryz.ntmps95
    go_wp2
    go_loopw [5, 13] (fun _ i wr => ∃ k : Nat, k ≤ n ∧ i = .int .i64 k ∧ Hid (∀ j, j < k → at_ xs j = at_ ys j) ∧ Below w.heap.size w wr) (fun _ i _ => n - (intOf i).toNat)
    case atStart => exact ⟨0, Nat.zero_le _, rfl, Lib.hid fun j hj => absurd hj (Nat.not_lt_zero _), Below.refl _ _⟩
    case round =>
      obtain ⟨k, hk, rfl, hgood, hb⟩ := hrel
      by_cases hlt : k < n
      · obtain ⟨b, off, rfl, c1⟩ := (HA.out.below hb).cells k (by have := HA.out.len; omega)
        obtain ⟨b', off', rfl, d1⟩ := (HA'.out.below hb).cells k (by have := HA'.out.len; omega)
        obtain ⟨x, HX⟩ : ∃ x, Hid (at_ xs k = x) := ⟨_, Lib.hid rfl⟩
        obtain ⟨y, HY⟩ : ∃ y, Hid (at_ ys k = y) := ⟨_, Lib.hid rfl⟩
        change wr.cell? _ = some (.string (at_ xs k)) at c1
        change wr.cell? _ = some (.string (at_ ys k)) at d1
        rw [HX.out] at c1
        rw [HY.out] at d1
        have hk0 : (0 : Int) ≤ (k : Int) := by omega
        have hk1 : (k : Int) < (n : Int) := by omega
        by_cases he : x = y
        · have HG : Hid (∀ j, j < k + 1 → at_ xs j = at_ ys j) := Lib.hid fun j hj => by
            by_cases e : j = k
            · rw [e, HX.out, HY.out]; exact he
            · exact hgood.out j (by omega)
          subst he
          have hq2 : (x.toList == x.toList) = true := by simp
          go_wp2
          go_quiet (fail)
          go_wp2
          go_roundw
          case rel => exact ⟨k + 1, by omega, by go_num, HG, below_drewN hb _⟩
          case measure => simp [intOf]; omega
        · have heq : (x.toList == y.toList) = false := (Lib.bytes_beq_false_iff _ _).2 he
          have HE : Hid (xs ≠ ys) := Lib.hid fun e => he (by rw [← HX.out, ← HY.out, e])
          clear he
          go_wp2
          go_quiet (fail)
          go_wp2
          go_ret
          exact ⟨by rw [decide_eq_false HE.out]; rfl, below_drewN hb _⟩
      · have HE : Hid (xs = ys) := Lib.hid (by
          have h1 := HA.out.len
          have h2 := HA'.out.len
          refine List.ext_getElem (by omega) fun j hj hj' => ?_
          have := hgood.out j (by omega)
          unfold at_ at this
          simpa [List.getD, List.getElem?_eq_getElem hj, List.getElem?_eq_getElem hj'] using this)
        go_wp2
        go_ret
        exact ⟨by rw [decide_eq_true HE.out]; rfl, hb⟩
  · have hq : ((n : Int) != n') = true := by rw [bne_iff_ne]; omega
    have HE : Hid (xs ≠ ys) := Lib.hid fun e => hl (by rw [HA.out.len, HA'.out.len, e])
    clear hl
    go_enter Tryz.func95, Tryz.ntmps95
    go_wp2
    go_ret
    exact ⟨by rw [decide_eq_false HE.out]; rfl, Below.refl _ _⟩

end Go.Proofs.YtgnbkepdbdgkdaaGreatDoor
/- A range over a function, as its caller sees it: one invariant of the caller's own, one walk of the body, one walk of the iterator. Nothing here is about a program. -/
namespace Go.Proofs.YtgnbkepdbdgkdaaGreatDoor
open Go.RowKit

theorem addr_add (g j : Nat) : (⟨g, 0, none⟩ : Addr).add j = ⟨g, j, none⟩ := by
  unfold Addr.add
  by_cases h : j = 0
  · rw [if_pos h, h]
  · rw [if_neg h, Nat.zero_add]
theorem cell_first (w : World) (v : Value) (t : TypeId) : (w.alloc (.cells #[v] t)).cell? ⟨w.heap.size, 0, none⟩ = some v := (Boxed.new w t v).cell
theorem ownsRow_lower {w : World} {base base' : Nat} {e : TypeId} {size : Nat} {v : Value} {n : Nat} {xs : List Value} (h : w.ownsRow base e size v n xs) (hb : base' ≤ base) : w.ownsRow base' e size v n xs := by
  obtain ⟨h1, h2 | ⟨g, cap, cur, hv, hg, r⟩⟩ := h
  · exact ⟨h1, .inl h2⟩
  · exact ⟨h1, .inr ⟨g, cap, cur, hv, Nat.le_trans hb hg, r⟩⟩
/-- an owned row lies on where nothing that lay has turned -/
theorem ownsRow_below {w w' : World} {base : Nat} {e : TypeId} {size : Nat} {v : Value} {n : Nat} {xs : List Value} (h : w.ownsRow base e size v n xs) (hb : Below w.heap.size w w') : w'.ownsRow base e size v n xs := by
  obtain ⟨h1, h2 | ⟨g, cap, cur, hv, hg, hh, r⟩⟩ := h
  · exact ⟨h1, .inl h2⟩
  · exact ⟨h1, .inr ⟨g, cap, cur, hv, hg, (hb.block _ (Array.getElem?_eq_some_iff.1 hh).1).trans hh, r⟩⟩

/-- whatever is no cells, and lay at or beyond B, lies as it lay -/
structure Stays (B : Nat) (V W : World) : Prop where
  size : V.heap.size ≤ W.heap.size
  same : ∀ (k : Nat) (o : Obj), B ≤ k → V.heap[k]? = some o → o.isCells = false → W.heap[k]? = some o
theorem Stays.refl (B : Nat) (V : World) : Stays B V V := ⟨Nat.le_refl _, fun _ _ _ h _ => h⟩
theorem Stays.trans {B : Nat} {U V W : World} (h : Stays B U V) (k : Stays B V W) : Stays B U W :=
  ⟨Nat.le_trans h.size k.size, fun i o hi ho hc => k.same i o hi (h.same i o hi ho hc) hc⟩
theorem Stays.below {B : Nat} {V W : World} (h : Below V.heap.size V W) : Stays B V W :=
  ⟨h.size, fun k _ _ hk _ => (h.block k (Array.getElem?_eq_some_iff.1 hk).1).trans hk⟩
theorem Stays.others {B : Nat} {V W : World} (h : KeepsOthers V W) : Stays B V W := ⟨h.size, fun k o _ hk ho => h.same k o hk ho⟩
theorem Stays.setCell (B : Nat) (V : World) (a : Addr) (v : Value) : Stays B V (V.setCell a v) := .others (KeepsOthers.setCell V a v)
theorem Stays.alloc (B : Nat) (V : World) (o : Obj) : Stays B V (V.alloc o) := .others (KeepsOthers.alloc V o)
theorem Stays.drew (B : Nat) (V : World) : Stays B V V.drew := .others (KeepsOthers.drew V)

/-- how a round's body may be left -/
def leftPost {α : Type} (B : Nat) (I : List α → World → Prop) (Ix : Code → List α → World → Prop) (xs : List α) (V : World) : Exit → Act → World → Prop
  | .normal, _, W => Stays B V W ∧ I xs W
  | .ret, _, W => Stays B V W ∧ Ix .ret xs W
  | .exit id, _, W => Stays B V W ∧ Ix (.exit id) xs W
  | .goto t, _, W => Stays B V W ∧ Ix (.goto t) xs W
  | .panic _, _, _ => False
  | .outgrown, _, _ => False

/-- what an iterator owes its caller; σ: what the caller's invariant says of the iterator's own state, which a round leaves as it is -/
def IterG {σ α : Type} (P : Program) (gf : Nat) (lb : Array Value) (encs : α → Array Value) (ok : List α → α → Prop) (S : List α → Prop) (B : Nat) (I : σ → List α → World → Prop) (Ix : Code → List α → World → Prop) (s0 : σ) : Prop :=
  ∀ (l : Nat) (Bk : World → Prop) (Bx : Code → World → Prop) (W : World),
    (∀ V V', Bk V → Stays B V V' → Bk V') → (∀ c V V', Bx c V → Stays B V V' → Bx c V') →
    (∀ s pre x V, I s pre V → Bk V → ok pre x → YieldAt Fence.wide 1 P l (encs x) V fun e V' =>
      (e = .returned (.bool true) ∧ I s (pre ++ [x]) V' ∧ Bk V') ∨ (e = .returned (.bool false) ∧ ∃ c, Ix c (pre ++ [x]) V' ∧ Bx c V')) →
    I s0 [] W → Bk W →
    CallsIn Fence.wide 2 P gf (#[.func (.yield l) #[] #[]] ++ lb) W fun e V' => (∃ v, e = .returned v) ∧ ((∃ xs s, S xs ∧ I s xs V' ∧ Bk V') ∨ (∃ pre c, Ix c pre V' ∧ Bx c V'))

theorem range_lawG {σ α : Type} {P : Program} {g : Operand} {ps : Array Tmp} {assign body : Code} {Q : Exit → Act → World → Prop} {a : Act} {w : World} {gf : Nat} {lb : Array Value}
    (hg : a.eval g = .func (.func gf) #[] lb) (eg : ∀ args w, (callFunc gf args).run P w = .ok (.enter gf args) w)
    {encs : α → Array Value} (hps : ∀ x, (encs x).size = ps.size) {ok : List α → α → Prop} {S : List α → Prop}
    (I : σ → List α → World → Prop) (Ix : Code → List α → World → Prop) (hI : ∀ s, OwnFrom w.heap.size (I s)) (hIx : ∀ c, OwnFrom w.heap.size (Ix c)) (s0 : σ) (h0 : I s0 [] w) (a₁ : α → Act)
    (hit : IterG P gf lb encs ok S w.heap.size I Ix s0)
    (hassign : ∀ (l : Nat) (x : α) (W : World) (K : Act → World → Prop), K (a₁ x) W →
      assign.wpIn (Fence.wide.inRound l) 1 P (Exit.then K (fun _ _ _ => False)) { tmps := (ps.zip (encs x)).foldl (fun t (p, v) => t.setIfInBounds p v) a.tmps, defers := [] } W)
    (hbody : ∀ (s : σ) (l : Nat) (pre : List α) (x : α) (W : World), I s pre W → ok pre x → body.wpIn (Fence.wide.inRound l) 1 P (leftPost w.heap.size (I s) Ix (pre ++ [x]) W) (a₁ x) W)
    (hdone : ∀ (D : Nat) (xs : List α) (s : σ) (W : World), w.heap.size ≤ D → S xs → I s xs W → W.heap[D]? = some (.deferred (some [])) → Q .normal { a with defers := { target := .collected D, args := #[] } :: a.defers } W)
    (hstop : ∀ (D : Nat) (c : Code) (pre : List α) (W : World), w.heap.size ≤ D → Ix c pre W → W.heap[D]? = some (.deferred (some [])) → c.wpIn Fence.wide 3 P Q { a with defers := { target := .collected D, args := #[] } :: a.defers } W) :
    (Code.rangeFunc g ps assign body).wpIn Fence.wide 3 P Q a w := by
  refine wpIn_rangeFunc fun fn hfn => ?_
  -- the two blocks of the loop: D for deferred calls, L for its record
  let rec_ : LoopState → Option Code → Obj := fun st pe => .loop { state := st, pending := pe, fn, tmps := a.tmps, params := ps, assign, body, defers := w.heap.size }
  let At : LoopState → Option Code → World → Prop := fun st pe W => w.heap.size + 1 < W.heap.size ∧ W.heap[w.heap.size + 1]? = some (rec_ st pe) ∧ W.heap[w.heap.size]? = some (.deferred (some []))
  have stay : ∀ st pe V V', At st pe V → Stays w.heap.size V V' → At st pe V' := fun st pe V V' h hs =>
    ⟨Nat.lt_of_lt_of_le h.1 hs.size, hs.same _ _ (by omega) h.2.1 rfl, hs.same _ _ (Nat.le_refl _) h.2.2 rfl⟩
  have put : ∀ st pe st' pe' V, At st pe V → At st' pe' (V.putObj (w.heap.size + 1) (rec_ st' pe')) := fun st pe st' pe' V h =>
    ⟨by rw [World.putObj_size]; exact h.1, World.putObj_heap_same h.1, (World.putObj_heap_other (by omega)).trans h.2.2⟩
  have own : ∀ {β : Type} {J : β → World → Prop} (s : β) st pe o V, OwnFrom w.heap.size J → J s V → At st pe V → J s (V.putObj (w.heap.size + 1) o) := fun s st pe o V hJ hs h =>
    hJ.putObj o hs (by omega) h.2.1 rfl
  have a1 : At .ready none ((w.alloc (.deferred (some []))).alloc (rec_ .ready none)) := by
    refine ⟨by simp, ?_, ?_⟩
    · have := World.alloc_heap_new (w.alloc (.deferred (some []))) (rec_ .ready none)
      rwa [World.size_alloc] at this
    · exact (Below.heap_alloc _ _ _ (by simp)).trans (World.alloc_heap_new w _)
  obtain ⟨W1, hW1⟩ : ∃ W1, (w.alloc (.deferred (some []))).alloc (rec_ .ready none) = W1 := ⟨_, rfl⟩
  have h1 : I s0 [] W1 := by rw [← hW1]; exact (hI s0).alloc _ ((hI s0).alloc _ h0)
  rw [hW1] at a1
  refine ⟨w.heap.size + 1, [{ target := .collected w.heap.size, args := #[] }], W1, { target := .fn (.func gf) lb, args := #[.func (.yield (w.heap.size + 1)) #[] #[]] }, W1, gf, #[.func (.yield (w.heap.size + 1)) #[] #[]] ++ lb, W1, by rw [← hW1]; exact run_enterLoop_outer _ _ _ _ _, ?_, fun _ _ => trivial, ?_, fun _ => by decide, ?_⟩
  · simp only [resolve, hg]
    simp [go_sem]
  · simp [invoke, go_sem, eg]
  refine (hit (w.heap.size + 1) (At .ready none) (fun c => At .done (some c)) _ (stay _ _) (fun c => stay _ _) ?_ h1 a1).mono ?_
  · -- one round
    intro s pre x V hi hat hok
    have hy := run_yield (P := P) (args := encs x) hat.2.1 (hps x)
    refine ⟨fn, _, assign, body, hy, roundIn_of_wpIn hfn (hassign _ x V _ ⟨_, run_beginRound hat.2.1 rfl, ?_⟩)⟩
    have hb := put _ _ .busy none V hat
    refine wpIn_mono (hbody s _ pre x _ (own pre _ _ (rec_ .busy none) V (hI s) hi hat) hok) ?_
    rintro e a3 W3 hp
    cases e with
    | normal =>
      have h3 := stay _ _ _ _ hb hp.1
      exact ⟨_, _, run_endRound (P := P) none h3.2.1, .inl ⟨rfl, own _ _ _ _ _ (hI s) hp.2 h3, put _ _ .ready none _ h3⟩⟩
    | ret =>
      have h3 := stay _ _ _ _ hb hp.1
      exact ⟨_, _, run_endRound (P := P) (some .ret) h3.2.1, .inr ⟨rfl, .ret, own _ _ _ _ _ (hIx _) hp.2 h3, put _ _ .done (some .ret) _ h3⟩⟩
    | exit id =>
      have h3 := stay _ _ _ _ hb hp.1
      exact ⟨_, _, run_endRound (P := P) (some (.exit id)) h3.2.1, .inr ⟨rfl, .exit id, own _ _ _ _ _ (hIx _) hp.2 h3, put _ _ .done (some (.exit id)) _ h3⟩⟩
    | goto t =>
      have h3 := stay _ _ _ _ hb hp.1
      exact ⟨_, _, run_endRound (P := P) (some (.goto t)) h3.2.1, .inr ⟨rfl, .goto t, own _ _ _ _ _ (hIx _) hp.2 h3, put _ _ .done (some (.goto t)) _ h3⟩⟩
    | panic ch => exact hp.elim
    | outgrown => exact hp.elim
  · rintro e V ⟨⟨v, rfl⟩, (⟨xs, s, hS, hi, hat⟩ | ⟨pre, c, hi, hat⟩)⟩
    · exact ⟨none, _, run_endLoop (P := P) hat.2.1 (by simp), hdone _ xs s _ (Nat.le_refl _) hS (own _ _ _ _ _ (hI s) hi hat) (put _ _ .exhausted none _ hat).2.2⟩
    · exact ⟨some c, _, run_endLoop (P := P) hat.2.1 (by simp), hstop _ c pre _ (Nat.le_refl _) (own _ _ _ _ _ (hIx c) hi hat) (put _ _ .exhausted (some c) _ hat).2.2⟩

/-- the same where the iterator keeps no state of its own -/
def IterOf {α : Type} (P : Program) (gf : Nat) (lb : Array Value) (encs : α → Array Value) (ok : List α → α → Prop) (S : List α → Prop) (B : Nat) (I : List α → World → Prop) (Ix : Code → List α → World → Prop) : Prop :=
  IterG P gf lb encs ok S B (fun (_ : Unit) => I) Ix ()
theorem range_law {α : Type} {P : Program} {g : Operand} {ps : Array Tmp} {assign body : Code} {Q : Exit → Act → World → Prop} {a : Act} {w : World} {gf : Nat} {lb : Array Value}
    (hg : a.eval g = .func (.func gf) #[] lb) (eg : ∀ args w, (callFunc gf args).run P w = .ok (.enter gf args) w)
    {encs : α → Array Value} (hps : ∀ x, (encs x).size = ps.size) {ok : List α → α → Prop} {S : List α → Prop}
    (I : List α → World → Prop) (Ix : Code → List α → World → Prop) (hI : OwnFrom w.heap.size I) (hIx : ∀ c, OwnFrom w.heap.size (Ix c)) (h0 : I [] w) (a₁ : α → Act)
    (hit : IterOf P gf lb encs ok S w.heap.size I Ix)
    (hassign : ∀ (l : Nat) (x : α) (W : World) (K : Act → World → Prop), K (a₁ x) W →
      assign.wpIn (Fence.wide.inRound l) 1 P (Exit.then K (fun _ _ _ => False)) { tmps := (ps.zip (encs x)).foldl (fun t (p, v) => t.setIfInBounds p v) a.tmps, defers := [] } W)
    (hbody : ∀ (l : Nat) (pre : List α) (x : α) (W : World), I pre W → ok pre x → body.wpIn (Fence.wide.inRound l) 1 P (leftPost w.heap.size I Ix (pre ++ [x]) W) (a₁ x) W)
    (hdone : ∀ (D : Nat) (xs : List α) (W : World), w.heap.size ≤ D → S xs → I xs W → W.heap[D]? = some (.deferred (some [])) → Q .normal { a with defers := { target := .collected D, args := #[] } :: a.defers } W)
    (hstop : ∀ (D : Nat) (c : Code) (pre : List α) (W : World), w.heap.size ≤ D → Ix c pre W → W.heap[D]? = some (.deferred (some [])) → c.wpIn Fence.wide 3 P Q { a with defers := { target := .collected D, args := #[] } :: a.defers } W) :
    (Code.rangeFunc g ps assign body).wpIn Fence.wide 3 P Q a w :=
  range_lawG hg eg hps (fun (_ : Unit) => I) Ix (fun _ => hI) hIx () h0 a₁ hit hassign (fun _ => hbody) (fun D xs _ => hdone D xs) hstop

/-- append onto a row of the call's own, as a step of a region that draws its order, in whatever frame -/
theorem stepIn_append_own {F : Fence} {m : Nat} {P : Program} {w : World} {ops : Array Oper} {o : Oper} {a : Act} {K : Act → World → Prop} {Q : Exit → Act → World → Prop} {E : Prop}
    (hg : o.guard = none) (s x : Operand) (t : TypeId) (hop : o.op = Op.call { callee := Callee.builtin Builtin.append, args := #[s, x], argTypes := #[t, t] })
    (base : Nat) (e : TypeId) (i : TypeInfo) (z : Value) (size bytes : Nat) (h1 : P.underlying t = some (.slice e)) (h2 : P.info? e = some i) (h3 : i.zero = some z) (h4 : i.size = size) (h5 : i.bytes = bytes) (h6 : z.cells.size = size) (h7 : 0 < size)
    (v : Value) (k : Nat) (xs : List Value) (hs : a.eval s = v) (hown : w.ownsRow base e size v k xs) (ad : Addr) (q c : Nat) (news : List Value) (hx : a.eval x = .slice (some ad) q c) (hn : news.length = q * size)
    (hc : ∀ j u, news[j]? = some u → w.cell? (ad.add j) = some u) (h1c : ∀ u ∈ news, u.oneCell' = true) (b1 : k + q ≤ maxLen) (b2 : (k + q) * bytes ≤ 140737488355328) (b3 : base ≤ w.heap.size)
    (hK : ∀ v' w', w'.ownsRow base e size v' (k + q) (xs ++ news) → w.grownBy w' v.ownBlock → K (a.put o.dst v') w') :
    if Region.wanted o (yielded ops a.tmps) = true then Oper.wpIn F m P o a w K Q else E := by
  rw [if_pos (by simp [Region.wanted, hg])]
  obtain ⟨v', w', hrun, r1, r2, _⟩ := run_append_own (P := P) w base t o.type e i z size bytes h1 h2 h3 h4 h5 h6 h7 v k xs hown ad q c news hn hc h1c b1 b2 b3
  refine ⟨by simp [Oper.about, hop, resolve, Target.leads, Sem.run_pure], ?_⟩
  rw [Oper.semAt_plain F _ _ (by rw [hop]; intro c hc'; cases hc')]
  simp [execOp, hop, resolve, invoke, builtin, hs, hx, hrun, Result.andThen]
  exact hK v' w' r1 r2
end Go.Proofs.YtgnbkepdbdgkdaaGreatDoor
/- The members of a set, as the iterator yields them. -/
namespace Go.Proofs.YtgnbkepdbdgkdaaGreatDoor
open Go.RowKit Go.Shelf Pl

theorem memL_next : ∀ x, x < 256 → x ≠ 0 → memL x = Lib.ctz 64 x :: memL (x &&& (x - 1)) ∧ x &&& (x - 1) < x := by decide +kernel
theorem memL_zero : memL 0 = [] := by decide
theorem memL_lt {x k : Nat} (h : k ∈ memL x) : k < 8 := by
  unfold memL at h
  rw [List.mem_filter, List.mem_range] at h
  exact h.1

/-- the table that math/bits looks up -/
def Tab (w : World) : Prop := TabAt 4 Lib.deBruijn64tab w
theorem Tab.below {w w' : World} (h : Tab w) (hb : Below w.heap.size w w') : Tab w' := fun j hj => (hb.cell (lt_of_cell (h j hj))).trans (h j hj)

set_option maxHeartbeats 400000 in
theorem tz64_core (x k idx : Nat) (w : World) (hx0 : ((x : Int) == 0) = false)
    (key : IntKind.u64.wrap (bits BinOp.and IntKind.u64 (x : Int) (IntKind.u64.wrap (-(x : Int))) * 285870213051353865) / 288230376151711744 = (idx : Int))
    (hi : idx < 64) (hk : k < 64) (hcell : w.cell? ⟨4, idx, none⟩ = some (.int .u8 k)) :
    Calls Tryz.prog 182 #[.int .u64 x] w fun e w' => e = .returned (.int .i64 k) ∧ w = w' := by
  go_enter Tryz.func182, Tryz.ntmps182
  go_wp2_with (simp only [key])
  go_ret
  exact ⟨rfl, rfl⟩
theorem tz64_any (x : Nat) (hx : x < 18446744073709551616) (h0 : x ≠ 0) (w : World) (hT : Tab w) :
    Calls Tryz.prog 182 #[.int .u64 x] w fun e w' => e = .returned (.int .i64 (Lib.ctz 64 x)) ∧ w = w' := by
  obtain ⟨hlow, hk⟩ := Lib.lowest_bit 64 x h0 hx
  obtain ⟨hi, htab⟩ := Lib.deBruijn64_at _ hk
  have hcell := hT _ hi
  rw [htab] at hcell
  exact tz64_core x _ _ w (by simp; omega) (tz64_key x _ hx h0 hlow) hi hk hcell
theorem tz_any (x : Nat) (hx : x < 18446744073709551616) (h0 : x ≠ 0) (w : World) (hT : Tab w) :
    Calls Tryz.prog 151 #[.int .u64 x] w fun e w' => e = .returned (.int .i64 (Lib.ctz 64 x)) ∧ w = w' := by
  have HT := Lib.hid hT
  clear hT
  go_enter Tryz.func151, Tryz.ntmps151
  go_wp2_with fail
  refine (tz64_any x hx h0 _ HT.out).mono ?_
  rintro e w' ⟨rfl, rfl⟩
  go_wp2
  go_ret
  exact ⟨rfl, rfl⟩

attribute [local go_sem] Oper.semAt_some

set_option maxRecDepth 100000 in
set_option maxHeartbeats 1000000 in
/-- the iterator that members makes -/
theorem members_iter (B C x : Nat) (hx : x < 256) (I : List Nat → World → Prop) (Ix : Code → List Nat → World → Prop)
    (hT : ∀ pre V, I pre V → Tab V) (hC : ∀ pre V, I pre V → V.cell? ⟨C, 0, none⟩ = some (.int .i64 x)) :
    IterOf Tryz.prog 150 #[.pointer (some ⟨C, 0, none⟩)] (fun k : Nat => #[.int .i64 k]) (fun pre k => pre ++ [k] <+: memL x) (fun xs => xs = memL x) B I Ix := by
  intro l Bk Bx W _ _ hY h0 hb0
  have hc0 := hC _ _ h0
  have HT := Lib.hid hT
  clear hT hC
  have HY := Lib.hid hY
  clear hY
  refine callsIn_of_wp Tryz.func150 rfl trivial ?_ rfl
  simp only [Tryz.ntmps150, List.size_toArray, List.length_cons, List.length_nil, Nat.reduceAdd, Nat.reduceSub, Array.replicate_succ, Array.replicate_zero, List.push_toArray, List.append_toArray, List.nil_append, List.cons_append]
  gi_wp2
  gi_loopw [3] (fun p V => ∃ (pre : List Nat) (r : Nat), p = .int .u64 r ∧ r < 256 ∧ Hid (memL x = pre ++ memL r) ∧ Hid (I pre V ∧ Bk V)) (fun p _ => (intOf p).toNat)
  case atStart => exact ⟨[], x, by simp, hx, Lib.hid rfl, Lib.hid ⟨h0, hb0⟩⟩
  case round =>
    obtain ⟨pre, r, rfl, hr, hm, hI⟩ := hrel
    by_cases hz : r = 0
    · subst hz
      gi_wp2
      go_end0
      exact ⟨⟨_, rfl⟩, .inl ⟨pre, (), by rw [hm.out, memL_zero, List.append_nil], hI.out.1, hI.out.2⟩⟩
    · obtain ⟨hn1, hn2⟩ := memL_next r hr hz
      have htz := Lib.hid (tz_any r (by omega) hz wr (HT.out _ _ hI.out.1))
      have hand := Lib.hid (bits_and_u64_nat r (r - 1) (by omega) (by omega))
      have hz' : ((r : Int) != 0) = true := by rw [bne_iff_ne]; omega
      obtain ⟨k, hk⟩ : ∃ k, Lib.ctz 64 r = k := ⟨_, rfl⟩
      obtain ⟨r', hr'⟩ : ∃ r', r &&& (r - 1) = r' := ⟨_, rfl⟩
      rw [hk] at hn1 htz
      rw [hr'] at hn1 hn2 hand
      have HM : Hid (memL x = (pre ++ [k]) ++ memL r') := Lib.hid (by rw [hm.out, hn1]; simp)
      clear hk hr' hn1 hz
      obtain ⟨fn, tmps, assign, body, hy, hR⟩ := HY.out () pre k wr hI.out.1 hI.out.2 ⟨memL r', HM.out.symm⟩
      gi_wp2_with (refine ⟨trivial, ?_⟩; gi_at_call 151; refine (callsIn_wide.2 htz.out).mono ?_; rintro e w' ⟨rfl, rfl⟩)
      refine hR.mono ?_
      rintro e W3 (⟨rfl, hI3, hb3⟩ | ⟨rfl, c, hx3, hb3⟩)
      · have hr1 : 1 ≤ (r : Int) := by omega
        gi_wp2
        go_roundw
        case rel => exact ⟨pre ++ [k], r', by rw [show (r : Int) - 1 = ((r - 1 : Nat) : Int) from by omega, hand.out], by omega, HM, Lib.hid ⟨hI3, hb3⟩⟩
        case measure => rw [show (r : Int) - 1 = ((r - 1 : Nat) : Int) from by omega, hand.out]; simp [intOf]; omega
      · gi_wp2
        refine bodyPost_ret (results_none rfl _ _ _) rfl ?_
        exact ⟨⟨_, rfl⟩, .inr ⟨_, c, hx3, hb3⟩⟩
end Go.Proofs.YtgnbkepdbdgkdaaGreatDoor
/- slices.AppendSeq and slices.Collect at int, over an iterator that keeps what lay; act.List. -/
namespace Go.Proofs.YtgnbkepdbdgkdaaGreatDoor
open Go.RowKit Go.Shelf Pl

theorem infoInt : (Tryz.prog.info? 3).map (fun i => (i.zero, i.size, i.bytes)) = some (some (.int .i64 0), 1, 8) := by kernel_rfl

attribute [local go_sem] Oper.semAt_some

/-- act.members: a value that captures the set's new box -/
theorem members_any (x : Int) (w : World) :
    Calls Tryz.prog 115 #[.int .i64 x] w fun e w' => e = .returned (.func (.func 150) #[] #[.pointer (some ⟨w.heap.size, 0, none⟩)]) ∧ w.alloc (.cells #[.int .i64 x] 3) = w' := by
  go_enter Tryz.func115, Tryz.ntmps115
  go_wp2
  go_ret
  exact ⟨rfl, rfl⟩

theorem memL_len (x : Nat) : (memL x).length ≤ 8 := by
  unfold memL
  exact Nat.le_trans (List.length_filter_le _ _) (by simp)
theorem prefix_len {x : Nat} {pre : List Nat} {k : Nat} (h : pre ++ [k] <+: memL x) : pre.length < 8 := by
  have h1 := h.length_le
  have h2 := memL_len x
  rw [List.length_append, List.length_singleton] at h1
  omega

/-- the code that the check of a set answers -/
def setCode (ss : List ByteArray) (xs : List Int) : Int := if actsB ss then (if xs.all (setB ss.length) then 0 else 1) else 10
theorem setsErr_code {w : World} {e0 e1 e2 : Addr} (E : Errs w e0 e1 e2) (ss : List ByteArray) (xs : List Int) :
    Calls Tryz.prog 107 #[setsErr e0 e1 ss xs] w fun e w' => e = .returned (.int .i64 (setCode ss xs)) ∧ w = w' := by
  unfold setsErr setCode
  cases actsB ss
  · exact code_acts w e0 e1 e2 E
  · cases xs.all (setB ss.length)
    · exact code_set w e0 e1 e2 E
    · exact code_nil w e0 e1 e2 E
theorem setsErr_iface (e0 e1 : Addr) {ss : List ByteArray} {xs : List Int} (h : setCode ss xs ≠ 0) : ∃ a, setsErr e0 e1 ss xs = .iface 314 (.pointer (some a)) := by
  unfold setCode at h
  unfold setsErr
  cases h1 : actsB ss
  · exact ⟨e0, rfl⟩
  · cases h2 : xs.all (setB ss.length)
    · exact ⟨e1, rfl⟩
    · rw [h1, h2] at h; simp at h
theorem set_ok {ss : List ByteArray} {xs : List Int} (hz : setCode ss xs = 0) : actsB ss = true ∧ xs.all (setB ss.length) = true := by
  unfold setCode at hz
  cases h1 : actsB ss
  · rw [h1] at hz; simp at hz
  · cases h2 : xs.all (setB ss.length)
    · rw [h1, h2] at hz; simp at hz
    · exact ⟨rfl, rfl⟩
theorem one_int (w : World) (x : Int) (t : TypeId) : IntArg (w.alloc (.cells #[.int .i64 x] t)) (some ⟨w.heap.size, 0, none⟩) 1 1 [x] :=
  ⟨(fun h => by cases h), rfl, Nat.le_refl _, by omega, fun j hj => ⟨w.heap.size, 0, rfl, by
    have : j = 0 := by simp at hj; omega
    subst this
    exact cell_first w (.int .i64 x) t⟩⟩
theorem set_lt {ss : List ByteArray} {x : Int} (h : actsB ss = true) (hx : [x].all (setB ss.length) = true) : 0 ≤ x ∧ x < 256 := by
  have h8 := ((actsB_iff ss).1 h).1
  rw [List.all_cons, List.all_nil, Bool.and_true, setB_iff] at hx
  have h1 : 2 ^ ss.length ≤ 2 ^ 8 := Nat.pow_le_pow_right (by decide) h8
  have h3 : ((2 ^ ss.length : Nat) : Int) = (2 : Int) ^ ss.length := by norm_cast
  omega

/-- what List answers -/
def listL (ss : List ByteArray) (x : Int) : List Nat := if setCode ss [x] = 0 then memL x.toNat else []

end Go.Proofs.YtgnbkepdbdgkdaaGreatDoor
