/- The reference's With: an edge put into a row in its order. -/
import Derived.Test.YtgnbkepdbdgkdaaGreatDoorCpvL
import Derived.Test.YtgnbkepdbdgkdaaGreatDoorROrderL
import Derived.Test.YtgnbkepdbdgkdaaGreatDoorJq19
import Derived.Lib.QuietBelow
import Derived.Deep.RegionHeld3
namespace Go.Proofs.YtgnbkepdbdgkdaaGreatDoor
open Go.RowKit Go.Sort Pl

theorem eqE (a b c d : Int) (w : World) : (binOp .eql 87 (.agg #[.int .i64 a, .int .i64 b]) (.agg #[.int .i64 c, .int .i64 d])).run Tryz.prog w = .ok (.bool (a == c && b == d)) w := by
  have u3 := Tryz.underlying3
  have a3 := Tryz.isAgg3
  have z3 := Tryz.sizeOf3
  have hS : Tryz.prog.underlying 87 = some (.struct (Tryz.prog.fieldsOf 87)) := by kernel_rfl
  have hp : Tryz.prog.stoodInHeld 87 = false := by kernel_rfl
  rw [run_eql_struct, show (10000 : Nat) = 9999 + 1 from rfl, run_equalIn_agg w 9999 87 _ _ hS hp]
  simp only [Program.fieldsOf, Tryz.underlying87]
  go_simp
  by_cases h1 : a = c <;> by_cases h2 : b = d <;> simp [h1, h2]
theorem edgesIn_take {w : World} {a : Option Addr} {l : List Edg} (h : EdgesIn w a l) (p : Nat) : EdgesIn w a (l.take p) := fun k hk => by
  rw [List.length_take] at hk
  obtain ⟨b, off, e, h1, h2⟩ := h k (by omega)
  have e2 : edAt (l.take p) k = edAt l k := by
    unfold edAt
    rw [List.getD_eq_getElem?_getD, List.getD_eq_getElem?_getD, List.getElem?_take, if_pos (by omega)]
  rw [e2]
  exact ⟨b, off, e, h1, h2⟩
theorem edgesIn_drop {w : World} {lb : Nat} {l : List Edg} (h : EdgesIn w (some ⟨lb, 0, none⟩) l) (p : Nat) : EdgesIn w (some ⟨lb, p * 2, none⟩) (l.drop p) := fun k hk => by
  rw [List.length_drop] at hk
  obtain ⟨b, off, e, h1, h2⟩ := h (p + k) (by omega)
  cases e
  have e2 : edAt (l.drop p) k = edAt l (p + k) := by
    unfold edAt
    rw [List.getD_eq_getElem?_getD, List.getD_eq_getElem?_getD, List.getElem?_drop]
  rw [e2]
  refine ⟨lb, p * 2, rfl, ?_, ?_⟩
  · rw [← h1, show 0 + (p + k) * 2 = p * 2 + k * 2 by omega]
  · rw [← h2, show 0 + (p + k) * 2 + 1 = p * 2 + k * 2 + 1 by omega]
theorem edgesIn_dropIf {w : World} {lb lc : Nat} {l : List Edg} (hc : l.length ≤ lc) (h : EdgesIn w (some ⟨lb, 0, none⟩) l) (p : Nat) : EdgesIn w (if lc = p then some ⟨lb, 0, none⟩ else some ⟨lb, p * 2, none⟩) (l.drop p) := by
  by_cases e : lc = p
  · rw [List.drop_eq_nil_of_le (by omega)]
    intro k hk
    simp at hk
  · rw [if_neg e]
    exact edgesIn_drop h p
theorem edgesIn_dropN {w : World} {l : List Edg} (h : EdgesIn w none l) (p : Nat) : EdgesIn w none (l.drop p) := fun k hk => by
  rw [List.length_drop] at hk
  obtain ⟨b, off, e, _⟩ := h (p + k) (by omega)
  cases e
section
variable {W W' : World} {p1 p2 : Addr} {v1 v2 : Value}
theorem two_up (hb : Below W.heap.size W W') (h : W.drew.cell? p1 = some v1 ∧ W.drew.cell? p2 = some v2) : W'.cell? p1 = some v1 ∧ W'.cell? p2 = some v2 := by
  have h1 : W.cell? p1 = some v1 := h.1
  have h2 : W.cell? p2 = some v2 := h.2
  exact ⟨up_cell hb h1, up_cell hb h2⟩
theorem two_new (h : W.cell? p1 = some v1 ∧ W.cell? p2 = some v2) (o : Obj) : (W.alloc o).cell? p1 = some v1 ∧ (W.alloc o).cell? p2 = some v2 := ⟨cell_new h.1 o, cell_new h.2 o⟩
theorem two_newD (h : W.drew.cell? p1 = some v1 ∧ W.drew.cell? p2 = some v2) (o : Obj) : (W.alloc o).drew.cell? p1 = some v1 ∧ (W.alloc o).drew.cell? p2 = some v2 := by
  have h1 : W.cell? p1 = some v1 := h.1
  have h2 : W.cell? p2 = some v2 := h.2
  exact ⟨cell_new h1 o, cell_new h2 o⟩
end

theorem whole_src {W : World} {g : Nat} {t : TypeId} {u v : Value} (h : Whole W g t #[u, v]) : SrcAt W (some ⟨g, 0, none⟩) [u, v] := fun j x hx => by
  have hj : j < 2 := by simpa using (List.getElem?_eq_some_iff.1 hx).1
  refine ⟨_, rfl, ?_⟩
  rw [add_plainly, h.cell, ← hx]
  simp
set_option maxRecDepth 100000 in
set_option maxHeartbeats 16000000 in
theorem With_any {w : World} {B : Nat} {la : Option Addr} {ln lc : Nat} {l : List Edg} (h : w.ownsRow B 87 2 (.slice la ln lc) l.length (ecells l)) (hB : B ≤ w.heap.size) (hl : l.length ≤ 500000) (e1 e2 : Int) :
    Calls Tryz.prog 44 #[.slice la ln lc, .agg #[.int .i64 e1, .int .i64 e2]] w fun e w' => ∃ v p, e = .returned v ∧ AtE l (e1, e2) p ∧ w'.ownsRow B 87 2 v (withE l (e1, e2) p).length (ecells (withE l (e1, e2) p)) ∧ Below w.heap.size w w' := by
  obtain ⟨i1, hi1, hz10, hz11, hz12⟩ := info_parts infoEdge
  obtain ⟨rfl, hE⟩ := own_pairs h (by omega)
  obtain ⟨ln, HLn⟩ : ∃ z, Hid (l.length = z) := ⟨_, Lib.hid rfl⟩
  rw [HLn.out] at h hE hl ⊢
  have hb0 := (Below.refl w.heap.size w).alloc (Nat.le_refl _) (.cells #[.int .i64 e1, .int .i64 e2] 87)
  have h1 := Whole.new w 87 #[.int .i64 e1, .int .i64 e2]
  obtain ⟨w0, HW0⟩ : ∃ z, Hid (w.alloc (.cells #[.int .i64 e1, .int .i64 e2] 87) = z) := ⟨_, Lib.hid rfl⟩
  rw [HW0.out] at hb0 h1
  have HE := Lib.hid (hE.below hb0)
  have HOw : Hid (∀ W, Below w.heap.size w W → W.ownsRow B 87 2 (.slice la ln lc) ln (ecells l)) := Lib.hid (fun W hW => own_up' h hW)
  have HB0 := Lib.hid hb0
  have H1 := Lib.hid h1
  have hcap : ln ≤ lc := hE.cap
  have HNil : Hid (la = none → lc = 0) := Lib.hid hE.nil
  have hla : la = none ∨ ∃ lb, la = some ⟨lb, 0, none⟩ := by
    rcases h.2 with ⟨q, _⟩ | ⟨g, cap, cur, q, _⟩
    · simp only [Value.slice.injEq] at q; exact .inl q.1
    · simp only [Value.slice.injEq] at q; exact .inr ⟨g, q.1⟩
  clear h hE hb0 h1
  rcases hla with rfl | ⟨lb, rfl⟩
  · obtain rfl : lc = 0 := HNil.out rfl
    obtain rfl : ln = 0 := by omega
    have HAt : Hid (AtE l (e1, e2) 0) := Lib.hid ⟨Nat.zero_le _, fun i hi => by omega, fun h => by have := HLn.out; omega⟩
    have HNe : Hid (withE l (e1, e2) 0 = l.take 0 ++ [(e1, e2)] ++ l.drop 0) := Lib.hid (by unfold withE; rw [if_neg (fun h => by have := HLn.out; omega)])
    obtain ⟨ln, hln⟩ : ∃ z : Nat, z = 0 := ⟨_, rfl⟩
    have HLn0 : Hid (l.length = 0) := HLn
    have HLn : Hid (l.length = ln) := Lib.hid (by rw [HLn0.out, hln])
    have HLnn := Lib.hid hln
    clear hln
    have HBw := Lib.hid (Below.refl w0.heap.size w0)
    have b0 := H1.out.cell 0
    have b1 := H1.out.cell 1
    simp only [List.getElem?_toArray, List.getElem?_cons_succ, List.getElem?_cons_zero] at b0 b1
    have HLn : Hid (l.length = ln ∧ ln = 0) := Lib.hid ⟨HLn.out, HLnn.out⟩
    go_enter Tryz.func44, Tryz.ntmps44
    go_wp2
    rw [HW0.out]
    go_loopw [5] (fun q wr => q = .int .i64 0 ∧ Hid (Below w0.heap.size w0 wr)) (fun q _ => 0)
    case atStart => exact ⟨rfl, Lib.hid (Below.refl _ _)⟩
    case round =>
      as_aux_lemma =>
      obtain ⟨w3, hw3⟩ : ∃ z, z = wr := ⟨_, rfl⟩
      subst hw3
      obtain ⟨rfl, HBw⟩ := hrel
      have b0 := (H1.out.below HBw.out H1.out.lt).cell 0
      have b1 := (H1.out.below HBw.out H1.out.lt).cell 1
      simp only [List.getElem?_toArray, List.getElem?_cons_succ, List.getElem?_cons_zero] at b0 b1
      go_wp2
      go_quiet (fail)
      obtain ⟨nq1, hnq1⟩ : ∃ z, z = nq := ⟨_, rfl⟩
      subst hnq1
      obtain ⟨w4, HW4⟩ : ∃ z, Hid (w3.drewN nq1 = z) := ⟨_, Lib.hid rfl⟩
      have HBw : Hid (Below w0.heap.size w0 w4) := Lib.hid (by rw [← HW4.out]; exact below_drewN HBw.out nq1)
      have b0 : w4.cell? ⟨w.heap.size, 0, none⟩ = some (.int .i64 e1) := by rw [← HW4.out]; exact b0
      have b1 : w4.cell? ⟨w.heap.size, 1, none⟩ = some (.int .i64 e2) := by rw [← HW4.out]; exact b1
      rw [HW4.out]
      go_wp2
      go_quiet (fail)
      obtain ⟨w5, HW5⟩ : ∃ z, Hid (w4.drewN nq = z) := ⟨_, Lib.hid rfl⟩
      have HBw : Hid (Below w0.heap.size w0 w5) := Lib.hid (by rw [← HW5.out]; exact below_drewN HBw.out nq)
      have b0 : w5.cell? ⟨w.heap.size, 0, none⟩ = some (.int .i64 e1) := by rw [← HW5.out]; exact b0
      have b1 : w5.cell? ⟨w.heap.size, 1, none⟩ = some (.int .i64 e2) := by rw [← HW5.out]; exact b1
      rw [HW5.out]
      have kD : w5.drew.cell? ⟨w.heap.size, 0, none⟩ = some (.int .i64 e1) ∧ w5.drew.cell? ⟨w.heap.size, 1, none⟩ = some (.int .i64 e2) := ⟨b0, b1⟩
      have HB6 := Lib.hid (HB0.out.trans (HBw.out.mono HB0.out.size))
      have HT1 : Hid (∀ W, Below w5.heap.size w5 W → SrcAt W none (ecells (l.take 0))) := Lib.hid (fun W hW => edges_src (edgesIn_take ((HE.out.below HBw.out).cells.below hW) 0))
      have HT3 : Hid (∀ W, Below w5.heap.size w5 W → SrcAt W none (ecells (l.drop 0))) := Lib.hid (fun W hW => edges_src (edgesIn_dropN ((HE.out.below HBw.out).cells.below hW) 0))
      have HL1 : Hid ((ecells (l.take 0)).length = 0 * 2) := Lib.hid (by rw [ecells_length, List.length_take]; have := HAt.out.le; have := HLn.out; omega)
      have HL3 : Hid ((ecells (l.drop 0)).length = 0 * 2) := Lib.hid (by rw [ecells_length, List.length_drop]; have := HAt.out.le; have := HLn.out; omega)
      have hpl : 0 ≤ ln := by have := HAt.out.le; have := HLn.out; omega
      have hi0 : (0 : Int) ≤ ((0 : Nat) : Int) := by omega
      have hj1 : ((0 : Nat) : Int) ≤ ((0 : Nat) : Int) := by omega
      have hj2 : ((0 : Nat) : Int) ≤ ((ln : Nat) : Int) := by omega
      have hj3 : ((ln : Nat) : Int) ≤ ((0 : Nat) : Int) := by have := HLn.out; omega
      go_wp2
      go_region_held3 (fun w' => w'.cell? ⟨w.heap.size, 0, none⟩ = some (.int .i64 e1) ∧ w'.cell? ⟨w.heap.size, 1, none⟩ = some (.int .i64 e2))
        ((with_reducible (first | assumption | exact two_new kI _ | exact two_new kJ _ | exact two_new kD _ | exact kD | exact two_newD kD _)))
        (first
          | (refine step_append_sz rfl (.const (.slice none 0 0)) (.tmp 35) 77 (by rfl) w5.heap.size 87 i1 (.agg #[.int .i64 0, .int .i64 0]) 2 16 Tryz.underlying77 hi1 hz10 hz11 hz12 rfl (by decide) (.slice none 0 0) (by rfl) 0 [] (World.ownsRow_nil _ _ _ _) none 0 0 (by rfl) (ecells (l.take 0)) (fun h => by first | exact ⟨rfl, rfl⟩ | cases h) HL1.out (HT1.out w5 (Below.refl _ _)) (ecells_one _) (by unfold maxLen; omega) (by omega) (Nat.le_refl _) ?_; intro v wA hA hg hat; clear hat; simp only [Nat.zero_add, List.nil_append] at hA; obtain ⟨xA, qA, rfl⟩ := own_slice hA; have hGA : Below w5.heap.size w5 wA := (Below.refl _ w5).drew.trans (below_up hg); have kI := two_up hGA kD)
          | (refine step_append_sz rfl (.const (.slice none 0 0)) (.tmp 35) 77 (by rfl) (w5.heap.size + 1) 87 i1 (.agg #[.int .i64 0, .int .i64 0]) 2 16 Tryz.underlying77 hi1 hz10 hz11 hz12 rfl (by decide) (.slice none 0 0) (by rfl) 0 [] (World.ownsRow_nil _ _ _ _) none 0 0 (by rfl) (ecells (l.take 0)) (fun h => by first | exact ⟨rfl, rfl⟩ | cases h) HL1.out (HT1.out (w5.alloc (.cells #[.int .i64 e1, .int .i64 e2] 87)) ((Below.refl _ w5).alloc (Nat.le_refl _) (.cells #[.int .i64 e1, .int .i64 e2] 87))) (ecells_one _) (by unfold maxLen; omega) (by omega) (by simp) ?_; intro v wA hA hg hat; clear hat; simp only [Nat.zero_add, List.nil_append] at hA; obtain ⟨xA, qA, rfl⟩ := own_slice hA; have hG1 := (Below.refl _ (w5.alloc (.cells #[.int .i64 e1, .int .i64 e2] 87))).drew.trans (below_up hg); have hSz : w5.heap.size + 1 ≤ wA.heap.size := Nat.le_trans (by simp) hG1.size; have hX := (Whole.new w5 87 #[.int .i64 e1, .int .i64 e2]).below hG1 (by simp); have hGA : Below w5.heap.size w5 wA := ((Below.refl _ w5).alloc (Nat.le_refl _) _).trans (hG1.mono (by simp)); have kI := two_up hGA kD)
          | (refine step_append_sz rfl (.tmp 36) (.tmp 38) 77 (by rfl) w5.heap.size 87 i1 (.agg #[.int .i64 0, .int .i64 0]) 2 16 Tryz.underlying77 hi1 hz10 hz11 hz12 rfl (by decide) (.slice xA 0 qA) (by rfl) 0 (ecells (l.take 0)) (hA.alloc _) (some ⟨_, 0, none⟩) 1 1 (by rfl) [.int .i64 e1, .int .i64 e2] (fun h => by cases h) rfl (pair_src _ _ _ _) (by simp [Value.oneCell']) (by unfold maxLen; omega) (by omega) (Nat.le_trans hGA.size (by simp)) ?_; intro v wB hB2 hg2 hat2; clear hat2; obtain ⟨xB, qB, rfl⟩ := own_slice hB2; have hGB : Below w5.heap.size w5 wB := (hGA.alloc hGA.size _).grown hg2 (Nat.le_trans hGA.size (by simp)) (own_ge hA); have kJ := two_up hGB kD)
          | (refine step_append_sz rfl (.tmp 36) (.tmp 38) 77 (by rfl) (w5.heap.size + 1) 87 i1 (.agg #[.int .i64 0, .int .i64 0]) 2 16 Tryz.underlying77 hi1 hz10 hz11 hz12 rfl (by decide) (.slice xA 0 qA) (by rfl) 0 (ecells (l.take 0)) hA (some ⟨w5.heap.size, 0, none⟩) 1 1 (by rfl) [.int .i64 e1, .int .i64 e2] (fun h => by cases h) rfl (whole_src hX) (by simp [Value.oneCell']) (by unfold maxLen; omega) (by omega) hSz ?_; intro v wB hB2 hg2 hat2; clear hat2; obtain ⟨xB, qB, rfl⟩ := own_slice hB2; have hB2 := own_low hB2 (Nat.le_succ w5.heap.size); have hGB : Below w5.heap.size w5 wB := hGA.grown hg2 hGA.size (fun k hk => Nat.le_of_succ_le (own_ge hA k hk)); have kJ := two_up hGB kD)
          | (refine step_append_sz rfl (.tmp 39) (.tmp 42) 77 (by rfl) w5.heap.size 87 i1 (.agg #[.int .i64 0, .int .i64 0]) 2 16 Tryz.underlying77 hi1 hz10 hz11 hz12 rfl (by decide) (.slice xB (0 + 1) qB) (by rfl) (0 + 1) _ hB2 none 0 0 (by rfl) (ecells (l.drop 0)) (fun h => by first | exact ⟨rfl, rfl⟩ | cases h | (split at h <;> cases h)) HL3.out (HT3.out _ hGB) (ecells_one _) (by unfold maxLen; omega) (by omega) hGB.size ?_; intro v wC hC hg3 hat3; clear hat3; obtain ⟨xC, qC, rfl⟩ := own_slice hC; have hGC : Below w5.heap.size w5 wC := hGB.grown hg3 hGB.size (own_ge hB2); have kK := two_up hGC kD)
          | fail)
      all_goals
        have HRow : Hid (wC.ownsRow B 87 2 (.slice xC (0 + 1 + 0) qC) (withE l (e1, e2) 0).length (ecells (withE l (e1, e2) 0))) := Lib.hid (by
          have h7 := own_low hC (Nat.le_trans hB HB6.out.size)
          rw [HNe.out]
          have e7 : (l.take 0 ++ [(e1, e2)] ++ l.drop 0).length = 0 + 1 + 0 := by
            rw [List.length_append, List.length_append, List.length_take, List.length_drop, List.length_singleton]
            have := HAt.out.le
            have := HLn.out
            omega
          rw [e7, ecells_app, ecells_app]
          exact h7)
        have HBl := Lib.hid (HB6.out.trans (hGC.mono HB6.out.size))
        try clear hX hSz hG1
        clear hA hB2 hC hg hg2 hg3 hGA hGB hGC kI kJ kK kD b0 b1 hi0 hj1 hj2 hj3
        go_wp2 <;> (go_ret; first | exact ⟨_, 0, rfl, HAt.out, HRow.out, HBl.out⟩ | exact ⟨_, rfl, 0, HAt.out, HRow.out, HBl.out⟩)
  · go_enter Tryz.func44, Tryz.ntmps44
    go_wp2
    rw [HW0.out]
    go_loopw [5] (fun q wr => ∃ j : Nat, q = .int .i64 j ∧ j ≤ ln ∧ Hid (∀ i, i < j → ltE (edAt l i) (e1, e2) = true) ∧ Hid (Below w0.heap.size w0 wr)) (fun q _ => ln - (intOf q).toNat)
    case atStart => exact ⟨0, rfl, Nat.zero_le _, Lib.hid (fun i hi => by omega), Lib.hid (Below.refl _ _)⟩
    case round =>
      as_aux_lemma =>
      obtain ⟨w3, hw3⟩ : ∃ z, z = wr := ⟨_, rfl⟩
      subst hw3
      obtain ⟨j, rfl, hj, hlow, HBw⟩ := hrel
      have b0 := (H1.out.below HBw.out H1.out.lt).cell 0
      have b1 := (H1.out.below HBw.out H1.out.lt).cell 1
      simp only [List.getElem?_toArray, List.getElem?_cons_succ, List.getElem?_cons_zero] at b0 b1
      by_cases hlt : j < ln
      · have hjl : j < l.length := by rw [HLn.out]; exact hlt
        obtain ⟨q, q0, e, c1, c2⟩ := (HE.out.below HBw.out).cells j hjl
        cases e
        simp only [Nat.zero_add] at c1 c2
        obtain ⟨PX, HPX⟩ : ∃ q, Hid ((edAt l j).1 = q) := ⟨_, Lib.hid rfl⟩
        obtain ⟨PY, HPY⟩ : ∃ q, Hid ((edAt l j).2 = q) := ⟨_, Lib.hid rfl⟩
        rw [HPX.out] at c1
        rw [HPY.out] at c2
        have HEd : Hid (edAt l j = (PX, PY)) := Lib.hid (by rw [← HPX.out, ← HPY.out])
        have hjj : (j : Int) < (ln : Int) := by omega
        have hj0 : (0 : Int) ≤ (j : Int) := by omega
        have hdj : decide ((j : Int) < (ln : Int)) = true := decide_eq_true hjj
        have K0 := fun (d : Nat) (os : Array Obj) => cell_regrown b0 d os
        have K1 := fun (d : Nat) (os : Array Obj) => cell_regrown b1 d os
        have K2 := fun (d : Nat) (os : Array Obj) => cell_regrown c1 d os
        have K3 := fun (d : Nat) (os : Array Obj) => cell_regrown c2 d os
        cases hlq : ltE (PX, PY) (e1, e2)
        · have cX := fun (d : Nat) (os : Array Obj) => Calls.regrown_of (w := w3) (d := d) (os := os) ((before_at PX PY e1 e2 (grow (redrawn w3 d) os)).mono (fun e w' h => ⟨by rw [h.1, hlq], by rw [← h.2]; exact ((Below.refl _ _).alloc (Nat.le_refl _) _).alloc (by simp) _⟩))
          have HAt : Hid (AtE l (e1, e2) j) := Lib.hid ⟨by have := HLn.out; omega, hlow.out, fun _ => by rw [HEd.out]; exact hlq⟩
          clear hlq hlow
          go_wp2
          refine wp_region_quiet_below (by kernel_rfl) (by kernel_rfl) ?_
          repeat (go_big_quiet_step (first | (go_at_call 42; with_reducible exact cX _ _)))
          refine wpQuiet_nil ?_
          intro w4 hw'
          obtain ⟨p9, hw''⟩ := hw'
          have hb9 : Below w3.heap.size w3 w4 := by rw [hw'']; exact below_regrown _ _ _
          clear hw'' p9 cX K0 K1 K2 K3
          have b0 := up_cell hb9 b0
          have b1 := up_cell hb9 b1
          have c1 := up_cell hb9 c1
          have c2 := up_cell hb9 c2
          have HBw := Lib.hid (HBw.out.trans (hb9.mono HBw.out.size))
          clear hb9
          have hgd := guardE .eql
          by_cases heq : (PX, PY) = (e1, e2)
          · have hx : PX = e1 ∧ PY = e2 := ⟨congrArg Prod.fst heq, congrArg Prod.snd heq⟩
            obtain ⟨rfl, rfl⟩ := hx
            have hne := eqE PX PY PX PY
            simp only [beq_self_eq_true, Bool.and_self] at hne
            have HSame : Hid (withE l (PX, PY) j = l) := Lib.hid (by unfold withE; rw [if_pos ⟨by rw [HLn.out]; exact hlt, HEd.out⟩])
            clear heq
            go_wp2
            go_quiet (fail)
            go_wp2
            have HBf := Lib.hid (HB0.out.trans ((below_drewN HBw.out nq).mono HB0.out.size))
            go_ret
            refine ⟨_, j, rfl, HAt.out, ?_, HBf.out⟩
            rw [HSame.out, HLn.out]
            exact HOw.out _ HBf.out
          · have hne := eqE PX PY e1 e2
            have hbb : (PX == e1 && PY == e2) = false := by
              rw [Bool.eq_false_iff]
              intro h9
              rw [Bool.and_eq_true, beq_iff_eq, beq_iff_eq] at h9
              exact heq (by rw [h9.1, h9.2])
            rw [hbb] at hne
            have HNe : Hid (withE l (e1, e2) j = l.take j ++ [(e1, e2)] ++ l.drop j) := Lib.hid (by unfold withE; rw [if_neg (fun h9 => heq (by rw [← HEd.out]; exact h9.2))])
            clear heq hbb
            go_wp2
            go_quiet (fail)
            clear hne hgd c1 c2
            obtain ⟨w5, HW5⟩ : ∃ z, Hid (w4.drewN nq = z) := ⟨_, Lib.hid rfl⟩
            have HBw : Hid (Below w0.heap.size w0 w5) := Lib.hid (by rw [← HW5.out]; exact below_drewN HBw.out nq)
            have b0 : w5.cell? ⟨w.heap.size, 0, none⟩ = some (.int .i64 e1) := by rw [← HW5.out]; exact b0
            have b1 : w5.cell? ⟨w.heap.size, 1, none⟩ = some (.int .i64 e2) := by rw [← HW5.out]; exact b1
            rw [HW5.out]
            have kD : w5.drew.cell? ⟨w.heap.size, 0, none⟩ = some (.int .i64 e1) ∧ w5.drew.cell? ⟨w.heap.size, 1, none⟩ = some (.int .i64 e2) := ⟨b0, b1⟩
            have HB6 := Lib.hid (HB0.out.trans (HBw.out.mono HB0.out.size))
            have HT1 : Hid (∀ W, Below w5.heap.size w5 W → SrcAt W (some ⟨lb, 0, none⟩) (ecells (l.take j))) := Lib.hid (fun W hW => edges_src (edgesIn_take ((HE.out.below HBw.out).cells.below hW) j))
            have HT3 : Hid (∀ W, Below w5.heap.size w5 W → SrcAt W (if lc = j then some ⟨lb, 0, none⟩ else some ⟨lb, j * 2, none⟩) (ecells (l.drop j))) := Lib.hid (fun W hW => edges_src (edgesIn_dropIf (lc := lc) (by have := HLn.out; omega) ((HE.out.below HBw.out).cells.below hW) j))
            have HL1 : Hid ((ecells (l.take j)).length = j * 2) := Lib.hid (by rw [ecells_length, List.length_take]; have := HAt.out.le; have := HLn.out; omega)
            have HL3 : Hid ((ecells (l.drop j)).length = (ln - j) * 2) := Lib.hid (by rw [ecells_length, List.length_drop]; have := HAt.out.le; have := HLn.out; omega)
            have hpl : j ≤ ln := by have := HAt.out.le; have := HLn.out; omega
            have hi0 : (0 : Int) ≤ ((j : Nat) : Int) := by omega
            have hj1 : ((j : Nat) : Int) ≤ ((lc : Nat) : Int) := by omega
            have hj2 : ((j : Nat) : Int) ≤ ((ln : Nat) : Int) := by omega
            have hj3 : ((ln : Nat) : Int) ≤ ((lc : Nat) : Int) := by have := HLn.out; omega
            go_wp2
            go_region_held3 (fun w' => w'.cell? ⟨w.heap.size, 0, none⟩ = some (.int .i64 e1) ∧ w'.cell? ⟨w.heap.size, 1, none⟩ = some (.int .i64 e2))
              ((with_reducible (first | assumption | exact two_new kI _ | exact two_new kJ _ | exact two_new kD _ | exact kD | exact two_newD kD _)))
              (first
                | (refine step_append_sz rfl (.const (.slice none 0 0)) (.tmp 35) 77 (by rfl) w5.heap.size 87 i1 (.agg #[.int .i64 0, .int .i64 0]) 2 16 Tryz.underlying77 hi1 hz10 hz11 hz12 rfl (by decide) (.slice none 0 0) (by rfl) 0 [] (World.ownsRow_nil _ _ _ _) (some ⟨lb, 0, none⟩) j lc (by rfl) (ecells (l.take j)) (fun h => by first | exact ⟨rfl, rfl⟩ | cases h) HL1.out (HT1.out w5 (Below.refl _ _)) (ecells_one _) (by unfold maxLen; omega) (by omega) (Nat.le_refl _) ?_; intro v wA hA hg hat; clear hat; simp only [Nat.zero_add, List.nil_append] at hA; obtain ⟨xA, qA, rfl⟩ := own_slice hA; have hGA : Below w5.heap.size w5 wA := (Below.refl _ w5).drew.trans (below_up hg); have kI := two_up hGA kD)
                | (refine step_append_sz rfl (.const (.slice none 0 0)) (.tmp 35) 77 (by rfl) (w5.heap.size + 1) 87 i1 (.agg #[.int .i64 0, .int .i64 0]) 2 16 Tryz.underlying77 hi1 hz10 hz11 hz12 rfl (by decide) (.slice none 0 0) (by rfl) 0 [] (World.ownsRow_nil _ _ _ _) (some ⟨lb, 0, none⟩) j lc (by rfl) (ecells (l.take j)) (fun h => by first | exact ⟨rfl, rfl⟩ | cases h) HL1.out (HT1.out (w5.alloc (.cells #[.int .i64 e1, .int .i64 e2] 87)) ((Below.refl _ w5).alloc (Nat.le_refl _) (.cells #[.int .i64 e1, .int .i64 e2] 87))) (ecells_one _) (by unfold maxLen; omega) (by omega) (by simp) ?_; intro v wA hA hg hat; clear hat; simp only [Nat.zero_add, List.nil_append] at hA; obtain ⟨xA, qA, rfl⟩ := own_slice hA; have hG1 := (Below.refl _ (w5.alloc (.cells #[.int .i64 e1, .int .i64 e2] 87))).drew.trans (below_up hg); have hSz : w5.heap.size + 1 ≤ wA.heap.size := Nat.le_trans (by simp) hG1.size; have hX := (Whole.new w5 87 #[.int .i64 e1, .int .i64 e2]).below hG1 (by simp); have hGA : Below w5.heap.size w5 wA := ((Below.refl _ w5).alloc (Nat.le_refl _) _).trans (hG1.mono (by simp)); have kI := two_up hGA kD)
                | (refine step_append_sz rfl (.tmp 36) (.tmp 38) 77 (by rfl) w5.heap.size 87 i1 (.agg #[.int .i64 0, .int .i64 0]) 2 16 Tryz.underlying77 hi1 hz10 hz11 hz12 rfl (by decide) (.slice xA j qA) (by rfl) j (ecells (l.take j)) (hA.alloc _) (some ⟨_, 0, none⟩) 1 1 (by rfl) [.int .i64 e1, .int .i64 e2] (fun h => by cases h) rfl (pair_src _ _ _ _) (by simp [Value.oneCell']) (by unfold maxLen; omega) (by omega) (Nat.le_trans hGA.size (by simp)) ?_; intro v wB hB2 hg2 hat2; clear hat2; obtain ⟨xB, qB, rfl⟩ := own_slice hB2; have hGB : Below w5.heap.size w5 wB := (hGA.alloc hGA.size _).grown hg2 (Nat.le_trans hGA.size (by simp)) (own_ge hA); have kJ := two_up hGB kD)
                | (refine step_append_sz rfl (.tmp 36) (.tmp 38) 77 (by rfl) (w5.heap.size + 1) 87 i1 (.agg #[.int .i64 0, .int .i64 0]) 2 16 Tryz.underlying77 hi1 hz10 hz11 hz12 rfl (by decide) (.slice xA j qA) (by rfl) j (ecells (l.take j)) hA (some ⟨w5.heap.size, 0, none⟩) 1 1 (by rfl) [.int .i64 e1, .int .i64 e2] (fun h => by cases h) rfl (whole_src hX) (by simp [Value.oneCell']) (by unfold maxLen; omega) (by omega) hSz ?_; intro v wB hB2 hg2 hat2; clear hat2; obtain ⟨xB, qB, rfl⟩ := own_slice hB2; have hB2 := own_low hB2 (Nat.le_succ w5.heap.size); have hGB : Below w5.heap.size w5 wB := hGA.grown hg2 hGA.size (fun k hk => Nat.le_of_succ_le (own_ge hA k hk)); have kJ := two_up hGB kD)
                | (refine step_append_sz rfl (.tmp 39) (.tmp 42) 77 (by rfl) w5.heap.size 87 i1 (.agg #[.int .i64 0, .int .i64 0]) 2 16 Tryz.underlying77 hi1 hz10 hz11 hz12 rfl (by decide) (.slice xB (j + 1) qB) (by rfl) (j + 1) _ hB2 (if lc = j then some ⟨lb, 0, none⟩ else some ⟨lb, j * 2, none⟩) (ln - j) (lc - j) (by rfl) (ecells (l.drop j)) (fun h => by first | exact ⟨rfl, rfl⟩ | cases h | (split at h <;> cases h)) HL3.out (HT3.out _ hGB) (ecells_one _) (by unfold maxLen; omega) (by omega) hGB.size ?_; intro v wC hC hg3 hat3; clear hat3; obtain ⟨xC, qC, rfl⟩ := own_slice hC; have hGC : Below w5.heap.size w5 wC := hGB.grown hg3 hGB.size (own_ge hB2); have kK := two_up hGC kD)
                | fail)
            all_goals
              have HRow : Hid (wC.ownsRow B 87 2 (.slice xC (j + 1 + (ln - j)) qC) (withE l (e1, e2) j).length (ecells (withE l (e1, e2) j))) := Lib.hid (by
                have h7 := own_low hC (Nat.le_trans hB HB6.out.size)
                rw [HNe.out]
                have e7 : (l.take j ++ [(e1, e2)] ++ l.drop j).length = j + 1 + (ln - j) := by
                  rw [List.length_append, List.length_append, List.length_take, List.length_drop, List.length_singleton]
                  have := HAt.out.le
                  have := HLn.out
                  omega
                rw [e7, ecells_app, ecells_app]
                exact h7)
              have HBl := Lib.hid (HB6.out.trans (hGC.mono HB6.out.size))
              try clear hX hSz hG1
              clear hA hB2 hC hg hg2 hg3 hGA hGB hGC kI kJ kK kD b0 b1 hi0 hj1 hj2 hj3
              go_wp2 <;> (go_ret; first | exact ⟨_, j, rfl, HAt.out, HRow.out, HBl.out⟩ | exact ⟨_, rfl, j, HAt.out, HRow.out, HBl.out⟩)
        · have cX := fun (d : Nat) (os : Array Obj) => Calls.regrown_of (w := w3) (d := d) (os := os) ((before_at PX PY e1 e2 (grow (redrawn w3 d) os)).mono (fun e w' h => ⟨by rw [h.1, hlq], by rw [← h.2]; exact ((Below.refl _ _).alloc (Nat.le_refl _) _).alloc (by simp) _⟩))
          have HLow : Hid (∀ i, i < j + 1 → ltE (edAt l i) (e1, e2) = true) := Lib.hid (fun i hi => by
            rcases Nat.lt_or_ge i j with h9 | h9
            · exact hlow.out i h9
            · obtain rfl : i = j := by omega
              rw [HEd.out]; exact hlq)
          clear hlq hlow
          go_wp2
          refine wp_region_quiet_below (by kernel_rfl) (by kernel_rfl) ?_
          repeat (go_big_quiet_step (first | (go_at_call 42; with_reducible exact cX _ _)))
          refine wpQuiet_nil ?_
          intro w4 hw'
          obtain ⟨p9, hw''⟩ := hw'
          have hb9 : Below w3.heap.size w3 w4 := by rw [hw'']; exact below_regrown _ _ _
          clear hw'' p9 cX K0 K1 K2 K3
          have HBn := Lib.hid (HBw.out.trans (hb9.mono HBw.out.size))
          clear hb9 c1 c2 b0 b1
          go_wp2
          go_roundw
          case rel => exact ⟨j + 1, by go_num, by omega, HLow, HBn⟩
          case measure => simp [intOf]; omega
      · have hdj : decide ((j : Int) < (ln : Int)) = false := decide_eq_false (by omega)
        have HAt : Hid (AtE l (e1, e2) j) := Lib.hid ⟨by have := HLn.out; omega, hlow.out, fun h => by have := HLn.out; omega⟩
        have HNe : Hid (withE l (e1, e2) j = l.take j ++ [(e1, e2)] ++ l.drop j) := Lib.hid (by unfold withE; rw [if_neg (fun h => by have := HLn.out; omega)])
        clear hlow
        go_wp2
        go_quiet (fail)
        obtain ⟨nq1, hnq1⟩ : ∃ z, z = nq := ⟨_, rfl⟩
        subst hnq1
        obtain ⟨w4, HW4⟩ : ∃ z, Hid (w3.drewN nq1 = z) := ⟨_, Lib.hid rfl⟩
        have HBw : Hid (Below w0.heap.size w0 w4) := Lib.hid (by rw [← HW4.out]; exact below_drewN HBw.out nq1)
        have b0 : w4.cell? ⟨w.heap.size, 0, none⟩ = some (.int .i64 e1) := by rw [← HW4.out]; exact b0
        have b1 : w4.cell? ⟨w.heap.size, 1, none⟩ = some (.int .i64 e2) := by rw [← HW4.out]; exact b1
        rw [HW4.out]
        go_wp2
        go_quiet (fail)
        obtain ⟨w5, HW5⟩ : ∃ z, Hid (w4.drewN nq = z) := ⟨_, Lib.hid rfl⟩
        have HBw : Hid (Below w0.heap.size w0 w5) := Lib.hid (by rw [← HW5.out]; exact below_drewN HBw.out nq)
        have b0 : w5.cell? ⟨w.heap.size, 0, none⟩ = some (.int .i64 e1) := by rw [← HW5.out]; exact b0
        have b1 : w5.cell? ⟨w.heap.size, 1, none⟩ = some (.int .i64 e2) := by rw [← HW5.out]; exact b1
        rw [HW5.out]
        have kD : w5.drew.cell? ⟨w.heap.size, 0, none⟩ = some (.int .i64 e1) ∧ w5.drew.cell? ⟨w.heap.size, 1, none⟩ = some (.int .i64 e2) := ⟨b0, b1⟩
        have HB6 := Lib.hid (HB0.out.trans (HBw.out.mono HB0.out.size))
        have HT1 : Hid (∀ W, Below w5.heap.size w5 W → SrcAt W (some ⟨lb, 0, none⟩) (ecells (l.take j))) := Lib.hid (fun W hW => edges_src (edgesIn_take ((HE.out.below HBw.out).cells.below hW) j))
        have HT3 : Hid (∀ W, Below w5.heap.size w5 W → SrcAt W (if lc = j then some ⟨lb, 0, none⟩ else some ⟨lb, j * 2, none⟩) (ecells (l.drop j))) := Lib.hid (fun W hW => edges_src (edgesIn_dropIf (lc := lc) (by have := HLn.out; omega) ((HE.out.below HBw.out).cells.below hW) j))
        have HL1 : Hid ((ecells (l.take j)).length = j * 2) := Lib.hid (by rw [ecells_length, List.length_take]; have := HAt.out.le; have := HLn.out; omega)
        have HL3 : Hid ((ecells (l.drop j)).length = (ln - j) * 2) := Lib.hid (by rw [ecells_length, List.length_drop]; have := HAt.out.le; have := HLn.out; omega)
        have hpl : j ≤ ln := by have := HAt.out.le; have := HLn.out; omega
        have hi0 : (0 : Int) ≤ ((j : Nat) : Int) := by omega
        have hj1 : ((j : Nat) : Int) ≤ ((lc : Nat) : Int) := by omega
        have hj2 : ((j : Nat) : Int) ≤ ((ln : Nat) : Int) := by omega
        have hj3 : ((ln : Nat) : Int) ≤ ((lc : Nat) : Int) := by have := HLn.out; omega
        go_wp2
        go_region_held3 (fun w' => w'.cell? ⟨w.heap.size, 0, none⟩ = some (.int .i64 e1) ∧ w'.cell? ⟨w.heap.size, 1, none⟩ = some (.int .i64 e2))
          ((with_reducible (first | assumption | exact two_new kI _ | exact two_new kJ _ | exact two_new kD _ | exact kD | exact two_newD kD _)))
          (first
            | (refine step_append_sz rfl (.const (.slice none 0 0)) (.tmp 35) 77 (by rfl) w5.heap.size 87 i1 (.agg #[.int .i64 0, .int .i64 0]) 2 16 Tryz.underlying77 hi1 hz10 hz11 hz12 rfl (by decide) (.slice none 0 0) (by rfl) 0 [] (World.ownsRow_nil _ _ _ _) (some ⟨lb, 0, none⟩) j lc (by rfl) (ecells (l.take j)) (fun h => by first | exact ⟨rfl, rfl⟩ | cases h) HL1.out (HT1.out w5 (Below.refl _ _)) (ecells_one _) (by unfold maxLen; omega) (by omega) (Nat.le_refl _) ?_; intro v wA hA hg hat; clear hat; simp only [Nat.zero_add, List.nil_append] at hA; obtain ⟨xA, qA, rfl⟩ := own_slice hA; have hGA : Below w5.heap.size w5 wA := (Below.refl _ w5).drew.trans (below_up hg); have kI := two_up hGA kD)
            | (refine step_append_sz rfl (.const (.slice none 0 0)) (.tmp 35) 77 (by rfl) (w5.heap.size + 1) 87 i1 (.agg #[.int .i64 0, .int .i64 0]) 2 16 Tryz.underlying77 hi1 hz10 hz11 hz12 rfl (by decide) (.slice none 0 0) (by rfl) 0 [] (World.ownsRow_nil _ _ _ _) (some ⟨lb, 0, none⟩) j lc (by rfl) (ecells (l.take j)) (fun h => by first | exact ⟨rfl, rfl⟩ | cases h) HL1.out (HT1.out (w5.alloc (.cells #[.int .i64 e1, .int .i64 e2] 87)) ((Below.refl _ w5).alloc (Nat.le_refl _) (.cells #[.int .i64 e1, .int .i64 e2] 87))) (ecells_one _) (by unfold maxLen; omega) (by omega) (by simp) ?_; intro v wA hA hg hat; clear hat; simp only [Nat.zero_add, List.nil_append] at hA; obtain ⟨xA, qA, rfl⟩ := own_slice hA; have hG1 := (Below.refl _ (w5.alloc (.cells #[.int .i64 e1, .int .i64 e2] 87))).drew.trans (below_up hg); have hSz : w5.heap.size + 1 ≤ wA.heap.size := Nat.le_trans (by simp) hG1.size; have hX := (Whole.new w5 87 #[.int .i64 e1, .int .i64 e2]).below hG1 (by simp); have hGA : Below w5.heap.size w5 wA := ((Below.refl _ w5).alloc (Nat.le_refl _) _).trans (hG1.mono (by simp)); have kI := two_up hGA kD)
            | (refine step_append_sz rfl (.tmp 36) (.tmp 38) 77 (by rfl) w5.heap.size 87 i1 (.agg #[.int .i64 0, .int .i64 0]) 2 16 Tryz.underlying77 hi1 hz10 hz11 hz12 rfl (by decide) (.slice xA j qA) (by rfl) j (ecells (l.take j)) (hA.alloc _) (some ⟨_, 0, none⟩) 1 1 (by rfl) [.int .i64 e1, .int .i64 e2] (fun h => by cases h) rfl (pair_src _ _ _ _) (by simp [Value.oneCell']) (by unfold maxLen; omega) (by omega) (Nat.le_trans hGA.size (by simp)) ?_; intro v wB hB2 hg2 hat2; clear hat2; obtain ⟨xB, qB, rfl⟩ := own_slice hB2; have hGB : Below w5.heap.size w5 wB := (hGA.alloc hGA.size _).grown hg2 (Nat.le_trans hGA.size (by simp)) (own_ge hA); have kJ := two_up hGB kD)
            | (refine step_append_sz rfl (.tmp 36) (.tmp 38) 77 (by rfl) (w5.heap.size + 1) 87 i1 (.agg #[.int .i64 0, .int .i64 0]) 2 16 Tryz.underlying77 hi1 hz10 hz11 hz12 rfl (by decide) (.slice xA j qA) (by rfl) j (ecells (l.take j)) hA (some ⟨w5.heap.size, 0, none⟩) 1 1 (by rfl) [.int .i64 e1, .int .i64 e2] (fun h => by cases h) rfl (whole_src hX) (by simp [Value.oneCell']) (by unfold maxLen; omega) (by omega) hSz ?_; intro v wB hB2 hg2 hat2; clear hat2; obtain ⟨xB, qB, rfl⟩ := own_slice hB2; have hB2 := own_low hB2 (Nat.le_succ w5.heap.size); have hGB : Below w5.heap.size w5 wB := hGA.grown hg2 hGA.size (fun k hk => Nat.le_of_succ_le (own_ge hA k hk)); have kJ := two_up hGB kD)
            | (refine step_append_sz rfl (.tmp 39) (.tmp 42) 77 (by rfl) w5.heap.size 87 i1 (.agg #[.int .i64 0, .int .i64 0]) 2 16 Tryz.underlying77 hi1 hz10 hz11 hz12 rfl (by decide) (.slice xB (j + 1) qB) (by rfl) (j + 1) _ hB2 (if lc = j then some ⟨lb, 0, none⟩ else some ⟨lb, j * 2, none⟩) (ln - j) (lc - j) (by rfl) (ecells (l.drop j)) (fun h => by first | exact ⟨rfl, rfl⟩ | cases h | (split at h <;> cases h)) HL3.out (HT3.out _ hGB) (ecells_one _) (by unfold maxLen; omega) (by omega) hGB.size ?_; intro v wC hC hg3 hat3; clear hat3; obtain ⟨xC, qC, rfl⟩ := own_slice hC; have hGC : Below w5.heap.size w5 wC := hGB.grown hg3 hGB.size (own_ge hB2); have kK := two_up hGC kD)
            | fail)
        all_goals
          have HRow : Hid (wC.ownsRow B 87 2 (.slice xC (j + 1 + (ln - j)) qC) (withE l (e1, e2) j).length (ecells (withE l (e1, e2) j))) := Lib.hid (by
            have h7 := own_low hC (Nat.le_trans hB HB6.out.size)
            rw [HNe.out]
            have e7 : (l.take j ++ [(e1, e2)] ++ l.drop j).length = j + 1 + (ln - j) := by
              rw [List.length_append, List.length_append, List.length_take, List.length_drop, List.length_singleton]
              have := HAt.out.le
              have := HLn.out
              omega
            rw [e7, ecells_app, ecells_app]
            exact h7)
          have HBl := Lib.hid (HB6.out.trans (hGC.mono HB6.out.size))
          try clear hX hSz hG1
          clear hA hB2 hC hg hg2 hg3 hGA hGB hGC kI kJ kK kD b0 b1 hi0 hj1 hj2 hj3
          go_wp2 <;> (go_ret; first | exact ⟨_, j, rfl, HAt.out, HRow.out, HBl.out⟩ | exact ⟨_, rfl, j, HAt.out, HRow.out, HBl.out⟩)
/-- the edge is put in -/
theorem WithI_any {w : World} {B : Nat} {v : Value} {l : List Edg} (h : EdgeOwn w B v l) (hB : B ≤ w.heap.size) (hl : l.length ≤ 500000) (e1 e2 : Int) :
    Calls Tryz.prog 44 #[v, .agg #[.int .i64 e1, .int .i64 e2]] w fun e w' => ∃ v', e = .returned v' ∧ EdgeOwn w' B v' (insE l (e1, e2)) ∧ Below w.heap.size w w' := by
  obtain ⟨a, c, rfl⟩ := own_slice h
  refine (With_any h hB hl e1 e2).mono ?_
  rintro e w' ⟨v', p, rfl, h1, h2, h3⟩
  rw [withE_ins l _ p h1] at h2
  exact ⟨v', rfl, h2, h3⟩
end Go.Proofs.YtgnbkepdbdgkdaaGreatDoor
