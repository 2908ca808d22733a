/- Texts joined: RSpc3, SpVend. -/
import Derived.Test.YtgpfpnenpgnogaaGreatDoorJa28
import Derived.Test.YtgpfpnenpgnogaaGreatDoorJa06
import Derived.Lib.QuietBelow
import Derived.Test.YtgpfpnenpgnogaaGreatDoorJa35
import Derived.Test.YtgpfpnenpgnogaaGreatDoorJa44
import Derived.Test.YtgpfpnenpgnogaaGreatDoorJa45
/- The reference's Same of specifications. -/
namespace Go.Proofs.YtgpfpnenpgnogaaGreatDoor
open Go.RowKit Pl

set_option maxHeartbeats 8000000 in
theorem RSSame_any {w : World} {a : Option Addr} {n c : Nat} {b : Option Addr} {k d : Nat} {m : Spc} {a' : Option Addr} {n' c' : Nat} {b' : Option Addr} {k' d' : Nat} {m' : Spc} (A : SpecArg w a n c b k d m) (A' : SpecArg w a' n' c' b' k' d' m') :
    Calls Tryz.prog 29 #[.agg #[.slice a n c, .slice b k d], .agg #[.slice a' n' c', .slice b' k' d']] w fun e w' => e = .returned (.bool (sameP m m')) ∧ Below w.heap.size w w' := by
  have hB := ((Below.refl w.heap.size w).alloc (Nat.le_refl _) (.cells #[.slice a n c, .slice b k d] 28)).alloc (by simp) (.cells #[.slice a' n' c', .slice b' k' d'] 28)
  have HS := Lib.hid (SameStrings_any _ _ c _ _ _ c' _ ((w.alloc (.cells #[.slice a n c, .slice b k d] 28)).alloc (.cells #[.slice a' n' c', .slice b' k' d'] 28)) A.acts.len A'.acts.len A.acts.big A'.acts.big (A.acts.cells.below hB) (A'.acts.cells.below hB))
  have HA := Lib.hid A
  have HA' := Lib.hid A'
  have h2 : k ≤ 140737488355328 := A.big
  have h2' : k' ≤ 140737488355328 := A'.big
  have HR := Lib.hid (A.rows.below hB)
  have HR' := Lib.hid (A'.rows.below hB)
  have HBB := Lib.hid hB
  clear A A' hB
  by_cases ha : m.acts = m'.acts
  · rw [decide_eq_true ha] at HS
    by_cases hk : k = k'
    · subst hk
      have HAC := Lib.hid ha
      clear ha
      go_enter Tryz.func29, Tryz.ntmps29
      go_wp2_with fail
      refine HS.out.mono ?_
      rintro e w' ⟨rfl, rfl⟩
      go_wp2
      go_loopw [5, 6, 25] (fun _ _ i wr => ∃ j : Nat, j ≤ k ∧ i = .int .i64 j ∧ Hid (∀ x, x < j → teAt m.states x = teAt m'.states x) ∧ Below (w.heap.size + 1 + 1) ((w.alloc (.cells #[.slice a n c, .slice b k d] 28)).alloc (.cells #[.slice a' n' c', .slice b' k d'] 28)) wr) (fun _ _ i _ => k - (intOf i).toNat)
      case atStart => exact ⟨0, Nat.zero_le _, rfl, Lib.hid fun x hx => by omega, Below.refl _ _⟩
      case round =>
        obtain ⟨j, hj, rfl, ht, hb⟩ := hrel
        have hb' : Below ((w.alloc (.cells #[.slice a n c, .slice b k d] 28)).alloc (.cells #[.slice a' n' c', .slice b' k d'] 28)).heap.size ((w.alloc (.cells #[.slice a n c, .slice b k d] 28)).alloc (.cells #[.slice a' n' c', .slice b' k d'] 28)) wr := hb.mono (by simp)
        by_cases hlt : j < k
        · obtain ⟨bb, off, rfl, a1, n1, c1, a2, n2, c2, d1, d2, hN1, hN2⟩ := (HR.out.below hb') j (by have := HA.out.len; omega)
          obtain ⟨bb', off', rfl, b1, m1, e1, b2, m2, e2, f1, f2, hM1, hM2⟩ := (HR'.out.below hb') j (by have := HA'.out.len; omega)
          have c3 : wr.cell? ⟨w.heap.size + 1, 1, none⟩ = some (.slice (some ⟨bb', off', none⟩) k d') := by rw [hb'.cell (by simp)]; simp
          have hjj : (j : Int) < (k : Int) := by omega
          have hj0 : (0 : Int) ≤ (j : Int) := by omega
          have HX : Hid (∀ W, Below wr.heap.size wr W → Calls Tryz.prog 25 #[.slice a1 n1 c1, .slice b1 m1 e1] W fun e w' => e = .returned (.bool (decide ((teAt m.states j).1 = (teAt m'.states j).1))) ∧ W = w') := Lib.hid fun W hW => SameInts_any _ _ c1 _ _ _ e1 _ W hN1.arg.len hM1.arg.len hN1.arg.big hM1.arg.big (hN1.arg.below hW).cells (hM1.arg.below hW).cells
          have HY : Hid (∀ W, Below wr.heap.size wr W → Calls Tryz.prog 25 #[.slice a2 n2 c2, .slice b2 m2 e2] W fun e w' => e = .returned (.bool (decide ((teAt m.states j).2 = (teAt m'.states j).2))) ∧ W = w') := Lib.hid fun W hW => SameInts_any _ _ c2 _ _ _ e2 _ W hN2.arg.len hM2.arg.len hN2.arg.big hM2.arg.big (hN2.arg.below hW).cells (hM2.arg.below hW).cells
          have HBe := Lib.hid (hb.alloc (Nat.le_trans (by simp) hb'.size) (.cells #[.slice a1 n1 c1, .slice a2 n2 c2] 62))
          have HBf := Lib.hid ((HBB.out.trans (hb'.mono HBB.out.size)).alloc (Nat.le_trans HBB.out.size hb'.size) (.cells #[.slice a1 n1 c1, .slice a2 n2 c2] 62))
          have hWA : Below wr.heap.size wr (wr.alloc (.cells #[.slice a1 n1 c1, .slice a2 n2 c2] 62)) := (Below.refl _ wr).alloc (Nat.le_refl _) _
          have k0 : ((wr.alloc (.cells #[.slice a1 n1 c1, .slice a2 n2 c2] 62))).cell? ⟨wr.heap.size, 0, none⟩ = some (.slice a1 n1 c1) := by simp
          have k1 : ((wr.alloc (.cells #[.slice a1 n1 c1, .slice a2 n2 c2] 62))).cell? ⟨wr.heap.size, 1, none⟩ = some (.slice a2 n2 c2) := by simp
          have K0 := fun (d : Nat) (os : Array Obj) => cell_regrown k0 d os
          have K1 := fun (d : Nat) (os : Array Obj) => cell_regrown k1 d os
          have K2 := fun (d : Nat) (os : Array Obj) => cell_regrown (cell_new c3 (.cells #[.slice a1 n1 c1, .slice a2 n2 c2] 62)) d os
          have K3 := fun (d : Nat) (os : Array Obj) => cell_regrown (cell_new f1 (.cells #[.slice a1 n1 c1, .slice a2 n2 c2] 62)) d os
          have K4 := fun (d : Nat) (os : Array Obj) => cell_regrown (cell_new f2 (.cells #[.slice a1 n1 c1, .slice a2 n2 c2] 62)) d os
          clear hN1 hN2 hM1 hM2 k0 k1
          by_cases h1 : (teAt m.states j).1 = (teAt m'.states j).1
          · rw [decide_eq_true h1] at HX
            by_cases h2e : (teAt m.states j).2 = (teAt m'.states j).2
            · have HG : Hid (∀ x, x < j + 1 → teAt m.states x = teAt m'.states x) := Lib.hid fun x hx => by
                by_cases e : x = j
                · rw [e]; exact Prod.ext h1 h2e
                · exact ht.out x (by omega)
              rw [decide_eq_true h2e] at HY
              clear h1 h2e hb hb'
              have cX := fun (d : Nat) (os : Array Obj) => Calls.regrown_of (w := (wr.alloc (.cells #[.slice a1 n1 c1, .slice a2 n2 c2] 62))) (d := d) (os := os) ((HX.out _ (hWA.trans ((below_regrown _ d os).mono hWA.size))).mono (fun e w' h => ⟨h.1, by rw [← h.2]; exact Below.refl _ _⟩))
              have cY := fun (d : Nat) (os : Array Obj) => Calls.regrown_of (w := (wr.alloc (.cells #[.slice a1 n1 c1, .slice a2 n2 c2] 62))) (d := d) (os := os) ((HY.out _ (hWA.trans ((below_regrown _ d os).mono hWA.size))).mono (fun e w' h => ⟨h.1, by rw [← h.2]; exact Below.refl _ _⟩))
              have hWs := hWA.size
              clear hWA
              go_wp2
              refine wp_region_quiet_below (by kernel_rfl) (by kernel_rfl) ?_
              repeat (go_big_quiet_step (first | (go_at_call 25; with_reducible exact cX _ _) | (go_at_call 25; with_reducible exact cY _ _)))
              refine wpQuiet_nil ?_
              intro _ hw'
              obtain ⟨⟨dq, osq⟩, hw''⟩ := hw'
              subst hw''
              have hq1 := below_regrown (wr.alloc (.cells #[.slice a1 n1 c1, .slice a2 n2 c2] 62)) dq osq
              go_wp2
              go_roundw
              case rel => exact ⟨j + 1, by omega, by go_num, HG, HBe.out.trans (hq1.mono (Nat.le_trans (by simp) HBe.out.size))⟩
              case measure => simp [intOf]; omega
            · have HB : Hid (sameP m m' = false) := Lib.hid (by
                rw [Bool.eq_false_iff, Ne, sameP_iff]
                intro e
                rw [e] at h2e
                exact h2e rfl)
              rw [decide_eq_false h2e] at HY
              clear h1 h2e hb hb'
              have cX := fun (d : Nat) (os : Array Obj) => Calls.regrown_of (w := (wr.alloc (.cells #[.slice a1 n1 c1, .slice a2 n2 c2] 62))) (d := d) (os := os) ((HX.out _ (hWA.trans ((below_regrown _ d os).mono hWA.size))).mono (fun e w' h => ⟨h.1, by rw [← h.2]; exact Below.refl _ _⟩))
              have cY := fun (d : Nat) (os : Array Obj) => Calls.regrown_of (w := (wr.alloc (.cells #[.slice a1 n1 c1, .slice a2 n2 c2] 62))) (d := d) (os := os) ((HY.out _ (hWA.trans ((below_regrown _ d os).mono hWA.size))).mono (fun e w' h => ⟨h.1, by rw [← h.2]; exact Below.refl _ _⟩))
              have hWs := hWA.size
              clear hWA
              go_wp2
              refine wp_region_quiet_below (by kernel_rfl) (by kernel_rfl) ?_
              repeat (go_big_quiet_step (first | (go_at_call 25; with_reducible exact cX _ _) | (go_at_call 25; with_reducible exact cY _ _)))
              refine wpQuiet_nil ?_
              intro _ hw'
              obtain ⟨⟨dq, osq⟩, hw''⟩ := hw'
              subst hw''
              have hq1 := below_regrown (wr.alloc (.cells #[.slice a1 n1 c1, .slice a2 n2 c2] 62)) dq osq
              go_wp2
              go_ret
              exact ⟨by rw [HB.out]; rfl, HBf.out.trans (hq1.mono HBf.out.size)⟩
          · have HB : Hid (sameP m m' = false) := Lib.hid (by
              rw [Bool.eq_false_iff, Ne, sameP_iff]
              intro e
              rw [e] at h1
              exact h1 rfl)
            rw [decide_eq_false h1] at HX
            clear h1 hb hb'
            have cX := fun (d : Nat) (os : Array Obj) => Calls.regrown_of (w := (wr.alloc (.cells #[.slice a1 n1 c1, .slice a2 n2 c2] 62))) (d := d) (os := os) ((HX.out _ (hWA.trans ((below_regrown _ d os).mono hWA.size))).mono (fun e w' h => ⟨h.1, by rw [← h.2]; exact Below.refl _ _⟩))
            have hWs := hWA.size
            clear hWA
            go_wp2
            refine wp_region_quiet_below (by kernel_rfl) (by kernel_rfl) ?_
            repeat (go_big_quiet_step (first | (go_at_call 25; exact cX _ _)))
            refine wpQuiet_nil ?_
            intro _ hw'
            obtain ⟨⟨dq, osq⟩, hw''⟩ := hw'
            subst hw''
            have hq1 := below_regrown (wr.alloc (.cells #[.slice a1 n1 c1, .slice a2 n2 c2] 62)) dq osq
            go_wp2
            go_ret
            exact ⟨by rw [HB.out]; rfl, HBf.out.trans (hq1.mono HBf.out.size)⟩
        · have HB : Hid (sameP m m' = true) := Lib.hid (by
            have e := stes_ext (l := m.states) (m := m'.states) (by have := HA.out.len; have := HA'.out.len; omega) (fun x hx => ht.out x (by have := HA.out.len; omega))
            unfold sameP
            rw [decide_eq_true HAC.out, decide_eq_true e]; rfl)
          go_wp2
          go_ret
          exact ⟨by rw [HB.out]; rfl, HBB.out.trans (hb'.mono HBB.out.size)⟩
    · have hq : ((k : Int) != k') = true := by rw [bne_iff_ne]; omega
      have HB : Hid (sameP m m' = false) := Lib.hid (by
        rw [Bool.eq_false_iff, Ne, sameP_iff]
        intro e
        rw [HA.out.len, HA'.out.len, e] at hk
        exact hk rfl)
      clear ha hk
      go_enter Tryz.func29, Tryz.ntmps29
      go_wp2_with fail
      refine HS.out.mono ?_
      rintro e w' ⟨rfl, rfl⟩
      go_wp2
      go_ret
      exact ⟨by rw [HB.out]; rfl, HBB.out⟩
  · have HB : Hid (sameP m m' = false) := Lib.hid (by
      rw [Bool.eq_false_iff, Ne, sameP_iff]
      intro e
      rw [e] at ha
      exact ha rfl)
    rw [decide_eq_false ha] at HS
    clear ha
    go_enter Tryz.func29, Tryz.ntmps29
    go_wp2_with fail
    refine HS.out.mono ?_
    rintro e w' ⟨rfl, rfl⟩
    go_wp2
    go_ret
    exact ⟨by rw [HB.out]; rfl, HBB.out⟩
end Go.Proofs.YtgpfpnenpgnogaaGreatDoor
/- The specification of the laws' fixed calls; whether the program is awake on it. -/
namespace Go.Proofs.YtgpfpnenpgnogaaGreatDoor
open Go.RowKit Pl

def vA (w : World) : World := w.alloc (.cells #[.slice (some ⟨w.heap.size + 1, 0, none⟩) 2 2, .slice (some ⟨w.heap.size + 6, 0, none⟩) 2 2] 28)
def vB (w : World) : World := (vA w).alloc (.cells #[.string coinB, .string teaB] 9)
def vC (w : World) : World := (vB w).alloc (.cells #[.int .i64 1] 3)
def vD (w : World) : World := (vC w).alloc (.cells #[.int .i64 1, .int .i64 (-1)] 3)
def vE (w : World) : World := (vD w).alloc (.cells #[.int .i64 0, .int .i64 2] 3)
def vF (w : World) : World := (vE w).alloc (.cells #[.int .i64 (-1), .int .i64 0] 3)
def vG (w : World) : World := (vF w).alloc (.cells #[.slice (some ⟨w.heap.size + 2, 0, none⟩) 1 1, .slice (some ⟨w.heap.size + 3, 0, none⟩) 2 2, .slice (some ⟨w.heap.size + 4, 0, none⟩) 2 2, .slice (some ⟨w.heap.size + 5, 0, none⟩) 2 2] 62)
theorem vSizes (w : World) : (vA w).heap.size = w.heap.size + 1 ∧ (vB w).heap.size = w.heap.size + 2 ∧ (vC w).heap.size = w.heap.size + 3 ∧ (vD w).heap.size = w.heap.size + 4 ∧ (vE w).heap.size = w.heap.size + 5 ∧ (vF w).heap.size = w.heap.size + 6 := by
  refine ⟨?_, ?_, ?_, ?_, ?_, ?_⟩ <;> simp [vA, vB, vC, vD, vE, vF]
theorem nums_row {W : World} {q : Nat} {cs : Array Value} {l : List Int} (h : Whole W q 3 cs) (hc : cs = (l.map (Value.int .i64)).toArray) (hl : l.length ≤ 17592186044416) (hr : ∀ x ∈ l, -1 ≤ x ∧ x ≤ 9223372036854775807) : NumsArg W (some ⟨q, 0, none⟩) l.length l.length l := by
  refine ⟨⟨(fun h => by cases h), rfl, Nat.le_refl _, by omega, fun j hj => ⟨q, 0, rfl, ?_⟩⟩, hl, fun j hj => ?_⟩
  · rw [Nat.zero_add, h.cell, hc, List.getElem?_toArray, List.getElem?_map, List.getElem?_eq_getElem hj, List.getD_eq_getElem?_getD, List.getElem?_eq_getElem hj]
    rfl
  · have := hr (l.getD j 0) (by rw [List.getD_eq_getElem?_getD, List.getElem?_eq_getElem hj]; exact List.getElem_mem hj)
    omega
theorem vendQ_arg (w : World) : SpecArg (vG w) (some ⟨w.heap.size + 1, 0, none⟩) 2 2 (some ⟨w.heap.size + 6, 0, none⟩) 2 2 vendQ ∧ Below w.heap.size w (vG w) := by
  obtain ⟨z1, z2, z3, z4, z5, z6⟩ := vSizes w
  have bA : Below w.heap.size w (vA w) := (Below.refl _ w).alloc (Nat.le_refl _) _
  have bB : Below w.heap.size w (vB w) := bA.alloc (by omega) _
  have bC : Below w.heap.size w (vC w) := bB.alloc (by omega) _
  have bD : Below w.heap.size w (vD w) := bC.alloc (by omega) _
  have bE : Below w.heap.size w (vE w) := bD.alloc (by omega) _
  have bF : Below w.heap.size w (vF w) := bE.alloc (by omega) _
  have bG : Below w.heap.size w (vG w) := bF.alloc (by omega) _
  have hs := strs_new (vA w) [coinB, teaB] (by decide) (fun x hx => by
    simp only [List.mem_cons, List.not_mem_nil, or_false] at hx
    rcases hx with rfl | rfl <;> decide)
  have sBG : Below (vB w).heap.size (vB w) (vG w) := (((((Below.refl _ (vB w)).alloc (Nat.le_refl _) _).alloc (by simp only [World.size_alloc]; omega) _).alloc (by simp only [World.size_alloc]; omega) _).alloc (by simp only [World.size_alloc]; omega) _).alloc (by simp only [World.size_alloc]; omega) _
  have hs2 : StrArg (vG w) (some ⟨(vA w).heap.size, 0, none⟩) 2 2 [coinB, teaB] := StrArg.below (w := vB w) hs sBG
  rw [z1] at hs2
  have hC := ((((Whole.new (vB w) 3 #[.int .i64 1]).alloc (.cells #[.int .i64 1, .int .i64 (-1)] 3)).alloc (.cells #[.int .i64 0, .int .i64 2] 3)).alloc (.cells #[.int .i64 (-1), .int .i64 0] 3)).alloc (.cells #[.slice (some ⟨w.heap.size + 2, 0, none⟩) 1 1, .slice (some ⟨w.heap.size + 3, 0, none⟩) 2 2, .slice (some ⟨w.heap.size + 4, 0, none⟩) 2 2, .slice (some ⟨w.heap.size + 5, 0, none⟩) 2 2] 62)
  have hD := (((Whole.new (vC w) 3 #[.int .i64 1, .int .i64 (-1)]).alloc (.cells #[.int .i64 0, .int .i64 2] 3)).alloc (.cells #[.int .i64 (-1), .int .i64 0] 3)).alloc (.cells #[.slice (some ⟨w.heap.size + 2, 0, none⟩) 1 1, .slice (some ⟨w.heap.size + 3, 0, none⟩) 2 2, .slice (some ⟨w.heap.size + 4, 0, none⟩) 2 2, .slice (some ⟨w.heap.size + 5, 0, none⟩) 2 2] 62)
  have hE := ((Whole.new (vD w) 3 #[.int .i64 0, .int .i64 2]).alloc (.cells #[.int .i64 (-1), .int .i64 0] 3)).alloc (.cells #[.slice (some ⟨w.heap.size + 2, 0, none⟩) 1 1, .slice (some ⟨w.heap.size + 3, 0, none⟩) 2 2, .slice (some ⟨w.heap.size + 4, 0, none⟩) 2 2, .slice (some ⟨w.heap.size + 5, 0, none⟩) 2 2] 62)
  have hF := (Whole.new (vE w) 3 #[.int .i64 (-1), .int .i64 0]).alloc (.cells #[.slice (some ⟨w.heap.size + 2, 0, none⟩) 1 1, .slice (some ⟨w.heap.size + 3, 0, none⟩) 2 2, .slice (some ⟨w.heap.size + 4, 0, none⟩) 2 2, .slice (some ⟨w.heap.size + 5, 0, none⟩) 2 2] 62)
  have hG := Whole.new (vF w) 62 #[.slice (some ⟨w.heap.size + 2, 0, none⟩) 1 1, .slice (some ⟨w.heap.size + 3, 0, none⟩) 2 2, .slice (some ⟨w.heap.size + 4, 0, none⟩) 2 2, .slice (some ⟨w.heap.size + 5, 0, none⟩) 2 2]
  rw [z2] at hC
  rw [z3] at hD
  rw [z4] at hE
  rw [z5] at hF
  rw [z6] at hG
  refine ⟨⟨hs2, by decide, (fun h => by cases h), rfl, by decide, by decide, fun i hi => ⟨w.heap.size + 6, 0, rfl, ?_⟩⟩, bG⟩
  have hi' : i = 0 ∨ i = 1 := by
    have : i < 2 := hi
    omega
  rcases hi' with rfl | rfl
  · exact ⟨_, _, _, _, _, _, hG.cell 0, hG.cell 1, nums_row (l := [1]) hC rfl (by decide) (by decide), nums_row (l := [1, -1]) hD rfl (by decide) (by decide)⟩
  · exact ⟨_, _, _, _, _, _, hG.cell 2, hG.cell 3, nums_row (l := [0, 2]) hE rfl (by decide) (by decide), nums_row (l := [-1, 0]) hF rfl (by decide) (by decide)⟩
set_option maxRecDepth 100000 in
theorem vendS_any (w : World) : Calls Tryz.prog 27 #[] w fun e w' => ∃ a c b d, e = .returned (.agg #[.slice a 2 c, .slice b 2 d]) ∧ SpecArg w' a 2 c b 2 d vendQ ∧ Below w.heap.size w w' := by
  have HV := Lib.hid (vendQ_arg w)
  go_enter Tryz.func27, Tryz.ntmps27
  go_wp2
  exact bodyPost_ret (v := .agg #[.slice (some ⟨w.heap.size + 1, 0, none⟩) 2 2, .slice (some ⟨w.heap.size + 6, 0, none⟩) 2 2]) (by simp [results, Tryz.results27, go_sem]) rfl ⟨_, _, _, _, rfl, HV.out.1, HV.out.2⟩
end Go.Proofs.YtgpfpnenpgnogaaGreatDoor
