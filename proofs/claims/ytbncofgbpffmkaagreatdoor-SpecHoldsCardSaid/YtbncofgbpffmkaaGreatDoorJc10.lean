/- Texts joined: SCopy, Same3. -/
import Derived.Test.YtbncofgbpffmkaaGreatDoorJc06
import Derived.Test.YtbncofgbpffmkaaGreatDoorJc07
/- The reference's Copy of specifications: the same specification in new memory. -/
namespace Go.Proofs.YtbncofgbpffmkaaGreatDoor
open Go.RowKit Pl

theorem infoNumS : (Tryz.prog.info? 3).map (fun i => (i.zero, i.size, i.bytes)) = some (some (.int .i64 0), 1, 8) := by kernel_rfl
theorem ste_le (ss : List Ste) (i : Nat) (h : i < ss.length) : (teAt ss i).1.length + (teAt ss i).2.length ≤ totalS ss := by
  have h1 := totalS_take ss i h
  have h2 := totalS_take_le ss (i + 1)
  omega
/-- where Copy stands behind j states -/
structure SCopyAt (w : World) (B3 : Nat) (box : Array Value) (va : Value) (m : Spc) (j : Nat) (vs : Value) (wr : World) : Prop where
  box : Whole wr w.heap.size 28 box
  res : Whole wr (w.heap.size + 1) 28 #[.slice none 0 0, .slice none 0 0]
  out : Whole wr B3 28 #[va, vs]
  rows : StesOwn wr w.heap.size vs (m.states.take j)
  acts : wr.ownsRow w.heap.size 9 1 va m.acts.length (m.acts.map Value.string)
  lo : w.heap.size + 1 < B3
  below : Below w.heap.size w wr
/-- one state more -/
theorem SCopyAt.next {w wr wA wB : World} {B3 : Nat} {box : Array Value} {va vs p q v2 : Value} {m : Spc} {j : Nat} {t : TypeId} (h : SCopyAt w B3 box va m j vs wr) (hj : j < m.states.length)
    (hP : NumO wA w.heap.size p (teAt m.states j).1) (hQ : NumO wA w.heap.size q (teAt m.states j).2) (bA : Below wr.heap.size wr wA) (hgB : (wA.alloc (.cells #[p, q] t)).grownBy wB vs.ownBlock)
    (hB : ∀ rows, (wA.alloc (.cells #[p, q] t)).ownsRow w.heap.size 52 2 vs j (rcells rows) → rows.length = j → wB.ownsRow w.heap.size 52 2 v2 (j + 1) (rcells rows ++ [p, q])) :
    SCopyAt w B3 box va m (j + 1) v2 (wB.setCell ⟨B3, 1, none⟩ v2) := by
  have hl : (m.states.take j).length = j := by rw [List.length_take]; omega
  have bA' := bA.trans (((Below.refl _ wA).alloc (Nat.le_refl _) (.cells #[p, q] t)).mono bA.size)
  have rA := h.rows.below bA'
  have oA := own_up (own_up h.acts (below_grown bA)) (below_grown ((Below.refl _ wA).alloc (Nat.le_refl _) (.cells #[p, q] t)))
  obtain ⟨rows, r1, r2, r3⟩ := rA
  have lo := h.lo
  have z := h.out.lt
  have n1 : ∀ g cs, Whole wr g 28 cs → Whole wB g 28 cs := fun g cs hw => by
    have h1 := hw.below bA' hw.lt
    exact h1.grown hgB (own_whole r2 h1 (by decide))
  have hs := StesOwn.snoc (w := wA.alloc (.cells #[p, q] t)) (w' := wB) (v' := v2) (t := teAt m.states j) ⟨rows, r1, r2, r3⟩ (hP.alloc _) (hQ.alloc _) hgB (fun rows' h1 h2 => by
    rw [hl] at h1 h2 ⊢
    exact hB rows' h1 h2)
  have et : m.states.take (j + 1) = m.states.take j ++ [teAt m.states j] := take_next m.states j ([], []) hj
  have hw := n1 _ _ h.out
  have hg2 := grown_self wB ⟨B3, 1, none⟩ v2
  refine ⟨(n1 _ _ h.box).far (by simp; omega) _, (n1 _ _ h.res).far (by simp; omega) _, by simpa using hw.set 1 v2, ?_, ?_, lo, ?_⟩
  · rw [et]
    exact hs.kept hg2 (.inr (own_whole hs.choose_spec.2.1 hw (by decide)).symm) (fun r l hr => .inr (own_whole hr hw (by decide)).symm)
  · exact own_stored (oA.kept hgB (own_apart oA r2 (by decide))) hw (by decide)
  · exact ((h.below.trans (bA'.mono h.below.size)).grown hgB (Nat.le_trans h.below.size bA'.size) (own_ge r2)).setCell (by simp; omega) _
theorem SCopyAt.drew {w wr : World} {B3 : Nat} {box : Array Value} {va vs : Value} {m : Spc} {j : Nat} (h : SCopyAt w B3 box va m j vs wr) : SCopyAt w B3 box va m j vs wr.drew :=
  ⟨h.box, h.res, h.out, h.rows, h.acts, h.lo, h.below.drew⟩

set_option maxRecDepth 100000 in
set_option maxHeartbeats 4000000 in
theorem SCopy_any {w : World} {a : Option Addr} {n c : Nat} {b : Option Addr} {k d : Nat} {m : Spc} (A : SpecArg w a n c b k d m) (hq : m.acts.length + m.states.length + totalS m.states ≤ 1000000) :
    Calls Tryz.prog 9 #[.agg #[.slice a n c, .slice b k d]] w fun e w' => ∃ va vs, e = .returned (.agg #[va, vs]) ∧ SpcOwn w' w.heap.size va vs m ∧ Below w.heap.size w w' := by
  obtain ⟨i0, hi, hz0, hz1, hz2⟩ := info_parts infoString
  obtain ⟨i1, hi1, hz10, hz11, hz12⟩ := info_parts infoNumS
  obtain ⟨i2, hi2, hz20, hz21, hz22⟩ := info_parts infoState
  have HA := Lib.hid A
  have h1 : n ≤ 1000000 := by have := A.acts.len; omega
  have h2 : k ≤ 1000000 := by have := A.len; omega
  have HQ := Lib.hid hq
  have hB := ((Below.refl w.heap.size w).alloc (Nat.le_refl _) (.cells #[.slice a n c, .slice b k d] 28)).alloc (by simp) (.cells #[.slice none 0 0, .slice none 0 0] 28)
  have HS := Lib.hid (strs_src (A.acts.below hB))
  have HN := Lib.hid A.acts.nils
  have HL : Hid ((m.acts.map Value.string).length = n * 1) := Lib.hid (by have := A.acts.len; simp; omega)
  have HBB := Lib.hid hB
  have HW1 := Lib.hid ((Whole.new w 28 #[.slice a n c, .slice b k d]).alloc (.cells #[.slice none 0 0, .slice none 0 0] 28))
  have HW2 := Lib.hid (Whole.new (w.alloc (.cells #[.slice a n c, .slice b k d] 28)) 28 #[.slice none 0 0, .slice none 0 0])
  clear A hB hq
  go_enter Tryz.func9, Tryz.ntmps9
  go_wp2_with (at_builtin; (refine wpList_append_sz rfl (.const (.slice none 0 0)) (.tmp 7) 22 rfl w.heap.size 9 i0 (.string ⟨#[]⟩) 1 16 Tryz.underlying22 hi hz0 hz1 hz2 rfl (by decide) (.slice none 0 0) rfl 0 [] (World.ownsRow_nil _ _ _ _) a n c rfl (m.acts.map Value.string) HN.out HL.out HS.out (strs_one _) (by unfold maxLen; omega) (by omega) HBB.out.size ?_); intro va w1 hva hg1 hat1; refine Hid.out ?_)
  simp only [Nat.zero_add, List.nil_append] at hva
  obtain ⟨aa, ca, rfl⟩ := own_slice hva
  have hb1 := HBB.out.grown hg1 HBB.out.size (fun k hk => by cases hk)
  have x1 := HW1.out.grown hg1 (fun h => by cases h)
  have x2 := HW2.out.grown hg1 (fun h => by cases h)
  have y1 := x1.cell 1
  simp only [World.size_alloc, List.getElem?_toArray, List.getElem?_cons_succ, List.getElem?_cons_zero] at y1 x2
  have HC : Hid (SCopyAt w w1.heap.size #[.slice a n c, .slice b k d] (.slice aa n ca) m 0 (.slice none 0 0) (w1.alloc (.cells #[.slice aa n ca, .slice none 0 0] 28))) :=
    Lib.hid ⟨x1.alloc _, x2.alloc _, Whole.new _ _ _, StesOwn.none _ _, by have := HA.out.acts.len; rw [← this]; exact hva.alloc _, x2.lt, hb1.alloc hb1.size _⟩
  have y2 := cell_new y1
  clear hva hb1 hg1 hat1 x1 x2 y1
  refine Lib.hid ?_
  go_wp2
  go_loopw [5, 13] (fun _ i wr => ∃ j vs, j ≤ k ∧ i = .int .i64 (j : Nat) ∧ SCopyAt w w1.heap.size #[.slice a n c, .slice b k d] (.slice aa n ca) m j vs wr) (fun _ i _ => k - (intOf i).toNat)
  case atStart => exact ⟨0, _, Nat.zero_le _, rfl, HC.out⟩
  case round =>
    obtain ⟨j, vs, hj, rfl, hC⟩ := hrel
    have HC := Lib.hid hC
    obtain ⟨rows, r1, r2, r3⟩ := hC.rows
    have hl : (m.states.take j).length = j := by rw [List.length_take]; have := HA.out.len; omega
    rw [hl] at r1 r2
    obtain ⟨bb, cc, rfl⟩ := own_slice r2
    have z1 := hC.out.cell 0
    have z2 := hC.out.cell 1
    have z3 := hC.out.frozen 1
    have z4 := hC.out.lt
    have z5 := hC.below.size
    have z6 := hC.out
    have HNE := Lib.hid (own_whole r2 hC.out (by decide))
    simp only [List.getElem?_toArray, List.getElem?_cons_succ, List.getElem?_cons_zero] at z1 z2
    clear hC hl
    by_cases hlt : j < k
    · obtain ⟨bx, off, rfl, a1, n1, c1, a2, n2, c2, c3, c4, hN1, hN2⟩ := (HA.out.rows.below HC.out.below) j (by have := HA.out.len; omega)
      have h3 : n1 + n2 ≤ 1000000 := by
        have := hN1.arg.len; have := hN2.arg.len; have := ste_le m.states j (by have := HA.out.len; omega); have := HQ.out; omega
      have hbl : Below wr.heap.size wr (wr.alloc (.cells #[.slice a1 n1 c1, .slice a2 n2 c2] 52)) := (Below.refl _ wr).alloc (Nat.le_refl _) _
      have NA := Lib.hid (hN1.arg.below hbl)
      have NB := Lib.hid (hN2.arg.below hbl)
      have LA : Hid (((teAt m.states j).1.map (Value.int .i64)).length = n1 * 1) := Lib.hid (by have := hN1.arg.len; simp; omega)
      have LB : Hid (((teAt m.states j).2.map (Value.int .i64)).length = n2 * 1) := Lib.hid (by have := hN2.arg.len; simp; omega)
      have R1 := Lib.hid r1
      have R2 := Lib.hid (r2.alloc (.cells #[.slice a1 n1 c1, .slice a2 n2 c2] 52))
      have zO := Lib.hid (HC.out.out.alloc (.cells #[.slice a1 n1 c1, .slice a2 n2 c2] 52))
      have zX := Lib.hid (Whole.new wr 52 #[.slice a1 n1 c1, .slice a2 n2 c2])
      have hG : Below (wr.alloc (.cells #[.slice a1 n1 c1, .slice a2 n2 c2] 52)).heap.size (wr.alloc (.cells #[.slice a1 n1 c1, .slice a2 n2 c2] 52)) (wr.alloc (.cells #[.slice a1 n1 c1, .slice a2 n2 c2] 52)).drew := (Below.refl _ _).drew
      have hS0 : w.heap.size ≤ (wr.alloc (.cells #[.slice a1 n1 c1, .slice a2 n2 c2] 52)).heap.size := Nat.le_trans HC.out.below.size hbl.size
      have HBl := Lib.hid hbl
      clear r1 r2 r3 hN1 hN2 hbl
      go_wp2
      go_region_law (first
        | (refine step_append_sz rfl (.const (.slice none 0 0)) (.tmp 20) 33 (by rfl) w.heap.size 3 i1 (.int .i64 0) 1 8 Tryz.underlying33 hi1 hz10 hz11 hz12 rfl (by decide) (.slice none 0 0) (by rfl) 0 [] (World.ownsRow_nil _ _ _ _) a1 n1 c1 (by rfl) ((teAt m.states j).1.map (Value.int .i64)) NA.out.nils LA.out (numsrc (NA.out.below hG)) (numone _) (by unfold maxLen; omega) (by omega) (Nat.le_trans hS0 hG.size) ?_; intro v wA hA hg hat; clear hat; simp only [Nat.zero_add, List.nil_append] at hA; obtain ⟨xA, qA, rfl⟩ := own_slice hA; have hG := hG.trans ((below_up hg).mono hG.size); (try (have hB := own_up hB hg)); have kO := zO.out.below hG zO.out.lt; have kX := zX.out.below hG zX.out.lt; have k1 : wA.cell? ⟨w1.heap.size, 1, none⟩ = some (.slice bb j cc) := kO.cell 1; have k2 := kO.frozen 1; have k5 : wA.cell? ⟨wr.heap.size, 0, none⟩ = some (.slice a1 n1 c1) := kX.cell 0; have k6 : wA.cell? ⟨wr.heap.size, 1, none⟩ = some (.slice a2 n2 c2) := kX.cell 1; have k3 := cell_new k1)
        | (refine step_append_sz rfl (.const (.slice none 0 0)) (.tmp 23) 33 (by rfl) w.heap.size 3 i1 (.int .i64 0) 1 8 Tryz.underlying33 hi1 hz10 hz11 hz12 rfl (by decide) (.slice none 0 0) (by rfl) 0 [] (World.ownsRow_nil _ _ _ _) a2 n2 c2 (by rfl) ((teAt m.states j).2.map (Value.int .i64)) NB.out.nils LB.out (numsrc (NB.out.below hG)) (numone _) (by unfold maxLen; omega) (by omega) (Nat.le_trans hS0 hG.size) ?_; intro v wA hB hg hat; clear hat; simp only [Nat.zero_add, List.nil_append] at hB; obtain ⟨xB, qB, rfl⟩ := own_slice hB; have hG := hG.trans ((below_up hg).mono hG.size); (try (have hA := own_up hA hg)); have kO := zO.out.below hG zO.out.lt; have kX := zX.out.below hG zX.out.lt; have k1 : wA.cell? ⟨w1.heap.size, 1, none⟩ = some (.slice bb j cc) := kO.cell 1; have k2 := kO.frozen 1; have k5 : wA.cell? ⟨wr.heap.size, 0, none⟩ = some (.slice a1 n1 c1) := kX.cell 0; have k6 : wA.cell? ⟨wr.heap.size, 1, none⟩ = some (.slice a2 n2 c2) := kX.cell 1; have k3 := cell_new k1)
        | (refine step_append_sz rfl (.tmp 18) (.tmp 26) 26 (by rfl) w.heap.size 52 i2 (.agg #[.slice none 0 0, .slice none 0 0]) 2 48 Tryz.underlying26 hi2 hz20 hz21 hz22 rfl (by decide) (.slice bb j cc) (by rfl) j (rcells rows) ((own_up R2.out (below_grown hG)).alloc _) (some ⟨_, 0, none⟩) 1 1 (by rfl) [.slice xA n1 qA, .slice xB n2 qB] (fun h => by cases h) rfl (pair_src _ _ _ _) (by simp [Value.oneCell']) (by unfold maxLen; omega) (by omega) (Nat.le_trans hS0 (Nat.le_trans hG.size (by simp))) ?_; intro v2 wC hC hgC hatC; clear hatC; obtain ⟨a3, q3, rfl⟩ := own_slice hC; have kW2 := (kO.alloc (.cells #[.slice xA n1 qA, .slice xB n2 qB] 52)).grown (w' := wC) hgC HNE.out; have k7 := kW2.cell 1; have k8 := kW2.frozen 1; simp only [List.getElem?_toArray, List.getElem?_cons_succ, List.getElem?_cons_zero] at k7))
      all_goals
        have HN2 : Hid (SCopyAt w w1.heap.size #[.slice a n c, .slice (some ⟨bx, off, none⟩) k d] (.slice aa n ca) m (j + 1) (.slice a3 (j + 1) q3) (wC.setCell ⟨w1.heap.size, 1, none⟩ (.slice a3 (j + 1) q3))) :=
          Lib.hid (HC.out.next (by have := HA.out.len; omega) (by unfold NumO; rw [← NA.out.len]; exact hA) (by unfold NumO; rw [← NB.out.len]; exact hB) (HBl.out.trans (hG.mono HBl.out.size)) hgC (fun rows' e1 e2 => by
            have e3 := own_eq e1 ((own_up R2.out (below_grown hG)).alloc (.cells #[.slice xA n1 qA, .slice xB n2 qB] 52))
            rw [e3]; exact hC))
        go_wp2
        go_roundw
        case rel => exact ⟨j + 1, _, by omega, by go_num, HN2.out⟩
        case measure => simp [intOf]; omega
    · obtain rfl : j = k := by omega
      have x0 := HC.out.res.cell 0
      have x1 := HC.out.res.cell 1
      have x2 := HC.out.res.frozen 0
      have x3 := HC.out.res.frozen 1
      have x4 := HC.out.res.lt
      have x5 := HC.out.lo
      simp only [List.getElem?_toArray, List.getElem?_cons_succ, List.getElem?_cons_zero] at x0 x1
      have HR : Hid (SpcOwn ((wr.setCell ⟨w.heap.size + 1, 0, none⟩ (.slice aa n ca)).setCell ⟨w.heap.size + 1, 1, none⟩ (.slice bb j cc)) w.heap.size (.slice aa n ca) (.slice bb j cc) m ∧ Below w.heap.size w ((wr.setCell ⟨w.heap.size + 1, 0, none⟩ (.slice aa n ca)).setCell ⟨w.heap.size + 1, 1, none⟩ (.slice bb j cc))) := Lib.hid (by
        have hw := HC.out.res.set 0 (.slice aa n ca)
        have hrows := HC.out.rows
        rw [List.take_of_length_le (by have := HA.out.len; omega)] at hrows
        refine ⟨⟨own_stored (own_stored HC.out.acts HC.out.res (by decide)) hw (by decide), ?_⟩, (HC.out.below.setCell (by simp) _).setCell (by simp) _⟩
        have s1 := hrows.kept (grown_self wr ⟨w.heap.size + 1, 0, none⟩ (.slice aa n ca)) (.inr (own_whole hrows.choose_spec.2.1 HC.out.res (by decide)).symm) (fun r l hr => .inr (own_whole hr HC.out.res (by decide)).symm)
        exact s1.kept (grown_self _ ⟨w.heap.size + 1, 1, none⟩ (.slice bb j cc)) (.inr (own_whole s1.choose_spec.2.1 hw (by decide)).symm) (fun r l hr => .inr (own_whole hr hw (by decide)).symm))
      have g0 := (HC.out.res.set 0 (.slice aa n ca)).cell 0
      have g1 := ((HC.out.res.set 0 (.slice aa n ca)).set 1 (.slice bb j cc)).cell 1
      simp only [List.setIfInBounds_toArray, List.set_cons_zero, List.set_cons_succ, List.getElem?_toArray, List.getElem?_cons_succ, List.getElem?_cons_zero] at g0 g1
      clear r1 r2 r3
      go_wp2
      exact bodyPost_ret (v := .agg #[.slice aa n ca, .slice bb j cc]) (by simp [results, Tryz.results9, go_sem, g0, g1]) rfl ⟨_, _, rfl, HR.out⟩
end Go.Proofs.YtbncofgbpffmkaaGreatDoor
/- slices.Equal and slices.EqualFunc as the program calls them; system.Same. -/
namespace Go.Proofs.YtbncofgbpffmkaaGreatDoor
open Go.RowKit Pl

set_option maxHeartbeats 1000000 in
theorem eqStr_any {w : World} {a : Option Addr} {n c : Nat} {xs : List ByteArray} {a' : Option Addr} {n' c' : Nat} {ys : List ByteArray} (A : StrArg w a n c xs) (A' : StrArg w a' n' c' ys) :
    Calls Tryz.prog 49 #[.slice a n c, .slice a' n' c'] w fun e w' => e = .returned (.bool (decide (xs = ys))) ∧ Below w.heap.size w w' := by
  have HA := Lib.hid A
  have HA' := Lib.hid A'
  have h1 : n ≤ 9223372036854775807 := A.big
  have h2 : n' ≤ 9223372036854775807 := A'.big
  clear A A'
  by_cases hl : n = n'
  · subst hl
    have hq : ((n : Int) != n) = false := by simp
    go_enter Tryz.func49, Tryz.ntmps49
    go_wp2
    go_loopw [5, 13] (fun _ i wr => ∃ k : Nat, k ≤ n ∧ i = .int .i64 k ∧ Hid (∀ j, j < k → at_ xs j = at_ ys j) ∧ Below w.heap.size w wr) (fun _ i _ => n - (intOf i).toNat)
    case atStart => exact ⟨0, Nat.zero_le _, rfl, Lib.hid fun j hj => absurd hj (Nat.not_lt_zero _), Below.refl _ _⟩
    case round =>
      obtain ⟨k, hk, rfl, hgood, hb⟩ := hrel
      by_cases hlt : k < n
      · obtain ⟨b, off, rfl, c1⟩ := (HA.out.below hb).cells k (by have := HA.out.len; omega)
        obtain ⟨b', off', rfl, d1⟩ := (HA'.out.below hb).cells k (by have := HA'.out.len; omega)
        obtain ⟨x, HX⟩ : ∃ x, Hid (at_ xs k = x) := ⟨_, Lib.hid rfl⟩
        obtain ⟨y, HY⟩ : ∃ y, Hid (at_ ys k = y) := ⟨_, Lib.hid rfl⟩
        change wr.cell? _ = some (.string (at_ xs k)) at c1
        change wr.cell? _ = some (.string (at_ ys k)) at d1
        rw [HX.out] at c1
        rw [HY.out] at d1
        have hk0 : (0 : Int) ≤ (k : Int) := by omega
        have hk1 : (k : Int) < (n : Int) := by omega
        by_cases he : x = y
        · have HG : Hid (∀ j, j < k + 1 → at_ xs j = at_ ys j) := Lib.hid fun j hj => by
            by_cases e : j = k
            · rw [e, HX.out, HY.out]; exact he
            · exact hgood.out j (by omega)
          subst he
          have hq2 : (x.toList == x.toList) = true := by simp
          go_wp2
          go_quiet (fail)
          go_wp2
          go_roundw
          case rel => exact ⟨k + 1, by omega, by go_num, HG, below_drewN hb _⟩
          case measure => simp [intOf]; omega
        · have heq : (x.toList == y.toList) = false := (Lib.bytes_beq_false_iff _ _).2 he
          have HE : Hid (xs ≠ ys) := Lib.hid fun e => he (by rw [← HX.out, ← HY.out, e])
          clear he
          go_wp2
          go_quiet (fail)
          go_wp2
          go_ret
          exact ⟨by rw [decide_eq_false HE.out]; rfl, below_drewN hb _⟩
      · have HE : Hid (xs = ys) := Lib.hid (by
          have h1 := HA.out.len
          have h2 := HA'.out.len
          refine List.ext_getElem (by omega) fun j hj hj' => ?_
          have := hgood.out j (by omega)
          unfold at_ at this
          simpa [List.getD, List.getElem?_eq_getElem hj, List.getElem?_eq_getElem hj'] using this)
        go_wp2
        go_ret
        exact ⟨by rw [decide_eq_true HE.out]; rfl, hb⟩
  · have hq : ((n : Int) != n') = true := by rw [bne_iff_ne]; omega
    have HE : Hid (xs ≠ ys) := Lib.hid fun e => hl (by rw [HA.out.len, HA'.out.len, e])
    clear hl
    go_enter Tryz.func49, Tryz.ntmps49
    go_wp2
    go_ret
    exact ⟨by rw [decide_eq_false HE.out]; rfl, Below.refl _ _⟩

end Go.Proofs.YtbncofgbpffmkaaGreatDoor
