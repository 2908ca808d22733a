/- Texts joined: RSpc3, SpVend, SpAwake. -/
import Derived.Test.YtgnbkepdbdgkdaaGreatDoorJq17
import Derived.Test.YtgnbkepdbdgkdaaGreatDoorJq02
import Derived.Lib.QuietBelow
import Derived.Test.YtgnbkepdbdgkdaaGreatDoorJq26
import Derived.Test.YtgnbkepdbdgkdaaGreatDoorJq25
import Derived.Test.YtgnbkepdbdgkdaaGreatDoorJq27
import Derived.Deep.DeepCutAuto
/- The reference's Same of specifications. -/
namespace Go.Proofs.YtgnbkepdbdgkdaaGreatDoor
open Go.RowKit Pl

set_option maxHeartbeats 8000000 in
theorem RSSame_any {w : World} {a : Option Addr} {n c : Nat} {b : Option Addr} {k d : Nat} {m : Spc} {a' : Option Addr} {n' c' : Nat} {b' : Option Addr} {k' d' : Nat} {m' : Spc} (A : SpecArg w a n c b k d m) (A' : SpecArg w a' n' c' b' k' d' m') :
    Calls Tryz.prog 34 #[.agg #[.slice a n c, .slice b k d], .agg #[.slice a' n' c', .slice b' k' d']] w fun e w' => e = .returned (.bool (sameP m m')) ∧ Below w.heap.size w w' := by
  have hB := ((Below.refl w.heap.size w).alloc (Nat.le_refl _) (.cells #[.slice a n c, .slice b k d] 52)).alloc (by simp) (.cells #[.slice a' n' c', .slice b' k' d'] 52)
  have HS := Lib.hid (SameStrings_any _ _ c _ _ _ c' _ ((w.alloc (.cells #[.slice a n c, .slice b k d] 52)).alloc (.cells #[.slice a' n' c', .slice b' k' d'] 52)) A.acts.len A'.acts.len A.acts.big A'.acts.big (A.acts.cells.below hB) (A'.acts.cells.below hB))
  have HA := Lib.hid A
  have HA' := Lib.hid A'
  have h2 : k ≤ 140737488355328 := A.big
  have h2' : k' ≤ 140737488355328 := A'.big
  have HR := Lib.hid (A.rows.below hB)
  have HR' := Lib.hid (A'.rows.below hB)
  have HBB := Lib.hid hB
  clear A A' hB
  by_cases ha : m.acts = m'.acts
  · rw [decide_eq_true ha] at HS
    by_cases hk : k = k'
    · subst hk
      have HAC := Lib.hid ha
      clear ha
      go_enter Tryz.func34, Tryz.ntmps34
      go_wp2_with fail
      refine HS.out.mono ?_
      rintro e w' ⟨rfl, rfl⟩
      go_wp2
      go_loopw [5, 6, 25] (fun _ _ i wr => ∃ j : Nat, j ≤ k ∧ i = .int .i64 j ∧ Hid (∀ x, x < j → teAt m.states x = teAt m'.states x) ∧ Below (w.heap.size + 1 + 1) ((w.alloc (.cells #[.slice a n c, .slice b k d] 52)).alloc (.cells #[.slice a' n' c', .slice b' k d'] 52)) wr) (fun _ _ i _ => k - (intOf i).toNat)
      case atStart => exact ⟨0, Nat.zero_le _, rfl, Lib.hid fun x hx => by omega, Below.refl _ _⟩
      case round =>
        obtain ⟨j, hj, rfl, ht, hb⟩ := hrel
        have hb' : Below ((w.alloc (.cells #[.slice a n c, .slice b k d] 52)).alloc (.cells #[.slice a' n' c', .slice b' k d'] 52)).heap.size ((w.alloc (.cells #[.slice a n c, .slice b k d] 52)).alloc (.cells #[.slice a' n' c', .slice b' k d'] 52)) wr := hb.mono (by simp)
        by_cases hlt : j < k
        · obtain ⟨bb, off, rfl, a1, n1, c1, a2, n2, c2, d1, d2, hN1, hN2⟩ := (HR.out.below hb') j (by have := HA.out.len; omega)
          obtain ⟨bb', off', rfl, b1, m1, e1, b2, m2, e2, f1, f2, hM1, hM2⟩ := (HR'.out.below hb') j (by have := HA'.out.len; omega)
          have c3 : wr.cell? ⟨w.heap.size + 1, 1, none⟩ = some (.slice (some ⟨bb', off', none⟩) k d') := by rw [hb'.cell (by simp)]; simp
          have hjj : (j : Int) < (k : Int) := by omega
          have hj0 : (0 : Int) ≤ (j : Int) := by omega
          have HX : Hid (∀ W, Below wr.heap.size wr W → Calls Tryz.prog 14 #[.slice a1 n1 c1, .slice b1 m1 e1] W fun e w' => e = .returned (.bool (decide ((teAt m.states j).1 = (teAt m'.states j).1))) ∧ W = w') := Lib.hid fun W hW => SameInts_any _ _ c1 _ _ _ e1 _ W hN1.arg.len hM1.arg.len hN1.arg.big hM1.arg.big (hN1.arg.below hW).cells (hM1.arg.below hW).cells
          have HY : Hid (∀ W, Below wr.heap.size wr W → Calls Tryz.prog 14 #[.slice a2 n2 c2, .slice b2 m2 e2] W fun e w' => e = .returned (.bool (decide ((teAt m.states j).2 = (teAt m'.states j).2))) ∧ W = w') := Lib.hid fun W hW => SameInts_any _ _ c2 _ _ _ e2 _ W hN2.arg.len hM2.arg.len hN2.arg.big hM2.arg.big (hN2.arg.below hW).cells (hM2.arg.below hW).cells
          have HBe := Lib.hid (hb.alloc (Nat.le_trans (by simp) hb'.size) (.cells #[.slice a1 n1 c1, .slice a2 n2 c2] 119))
          have HBf := Lib.hid ((HBB.out.trans (hb'.mono HBB.out.size)).alloc (Nat.le_trans HBB.out.size hb'.size) (.cells #[.slice a1 n1 c1, .slice a2 n2 c2] 119))
          have hWA : Below wr.heap.size wr (wr.alloc (.cells #[.slice a1 n1 c1, .slice a2 n2 c2] 119)) := (Below.refl _ wr).alloc (Nat.le_refl _) _
          have k0 : ((wr.alloc (.cells #[.slice a1 n1 c1, .slice a2 n2 c2] 119))).cell? ⟨wr.heap.size, 0, none⟩ = some (.slice a1 n1 c1) := by simp
          have k1 : ((wr.alloc (.cells #[.slice a1 n1 c1, .slice a2 n2 c2] 119))).cell? ⟨wr.heap.size, 1, none⟩ = some (.slice a2 n2 c2) := by simp
          have K0 := fun (d : Nat) (os : Array Obj) => cell_regrown k0 d os
          have K1 := fun (d : Nat) (os : Array Obj) => cell_regrown k1 d os
          have K2 := fun (d : Nat) (os : Array Obj) => cell_regrown (cell_new c3 (.cells #[.slice a1 n1 c1, .slice a2 n2 c2] 119)) d os
          have K3 := fun (d : Nat) (os : Array Obj) => cell_regrown (cell_new f1 (.cells #[.slice a1 n1 c1, .slice a2 n2 c2] 119)) d os
          have K4 := fun (d : Nat) (os : Array Obj) => cell_regrown (cell_new f2 (.cells #[.slice a1 n1 c1, .slice a2 n2 c2] 119)) d os
          clear hN1 hN2 hM1 hM2 k0 k1
          by_cases h1 : (teAt m.states j).1 = (teAt m'.states j).1
          · rw [decide_eq_true h1] at HX
            by_cases h2e : (teAt m.states j).2 = (teAt m'.states j).2
            · have HG : Hid (∀ x, x < j + 1 → teAt m.states x = teAt m'.states x) := Lib.hid fun x hx => by
                by_cases e : x = j
                · rw [e]; exact Prod.ext h1 h2e
                · exact ht.out x (by omega)
              rw [decide_eq_true h2e] at HY
              clear h1 h2e hb hb'
              have cX := fun (d : Nat) (os : Array Obj) => Calls.regrown_of (w := (wr.alloc (.cells #[.slice a1 n1 c1, .slice a2 n2 c2] 119))) (d := d) (os := os) ((HX.out _ (hWA.trans ((below_regrown _ d os).mono hWA.size))).mono (fun e w' h => ⟨h.1, by rw [← h.2]; exact Below.refl _ _⟩))
              have cY := fun (d : Nat) (os : Array Obj) => Calls.regrown_of (w := (wr.alloc (.cells #[.slice a1 n1 c1, .slice a2 n2 c2] 119))) (d := d) (os := os) ((HY.out _ (hWA.trans ((below_regrown _ d os).mono hWA.size))).mono (fun e w' h => ⟨h.1, by rw [← h.2]; exact Below.refl _ _⟩))
              have hWs := hWA.size
              clear hWA
              go_wp2
              refine wp_region_quiet_below (by kernel_rfl) (by kernel_rfl) ?_
              repeat (go_big_quiet_step (first | (go_at_call 14; with_reducible exact cX _ _) | (go_at_call 14; with_reducible exact cY _ _)))
              refine wpQuiet_nil ?_
              intro _ hw'
              obtain ⟨⟨dq, osq⟩, hw''⟩ := hw'
              subst hw''
              have hq1 := below_regrown (wr.alloc (.cells #[.slice a1 n1 c1, .slice a2 n2 c2] 119)) dq osq
              go_wp2
              go_roundw
              case rel => exact ⟨j + 1, by omega, by go_num, HG, HBe.out.trans (hq1.mono (Nat.le_trans (by simp) HBe.out.size))⟩
              case measure => simp [intOf]; omega
            · have HB : Hid (sameP m m' = false) := Lib.hid (by
                rw [Bool.eq_false_iff, Ne, sameP_iff]
                intro e
                rw [e] at h2e
                exact h2e rfl)
              rw [decide_eq_false h2e] at HY
              clear h1 h2e hb hb'
              have cX := fun (d : Nat) (os : Array Obj) => Calls.regrown_of (w := (wr.alloc (.cells #[.slice a1 n1 c1, .slice a2 n2 c2] 119))) (d := d) (os := os) ((HX.out _ (hWA.trans ((below_regrown _ d os).mono hWA.size))).mono (fun e w' h => ⟨h.1, by rw [← h.2]; exact Below.refl _ _⟩))
              have cY := fun (d : Nat) (os : Array Obj) => Calls.regrown_of (w := (wr.alloc (.cells #[.slice a1 n1 c1, .slice a2 n2 c2] 119))) (d := d) (os := os) ((HY.out _ (hWA.trans ((below_regrown _ d os).mono hWA.size))).mono (fun e w' h => ⟨h.1, by rw [← h.2]; exact Below.refl _ _⟩))
              have hWs := hWA.size
              clear hWA
              go_wp2
              refine wp_region_quiet_below (by kernel_rfl) (by kernel_rfl) ?_
              repeat (go_big_quiet_step (first | (go_at_call 14; with_reducible exact cX _ _) | (go_at_call 14; with_reducible exact cY _ _)))
              refine wpQuiet_nil ?_
              intro _ hw'
              obtain ⟨⟨dq, osq⟩, hw''⟩ := hw'
              subst hw''
              have hq1 := below_regrown (wr.alloc (.cells #[.slice a1 n1 c1, .slice a2 n2 c2] 119)) dq osq
              go_wp2
              go_ret
              exact ⟨by rw [HB.out]; rfl, HBf.out.trans (hq1.mono HBf.out.size)⟩
          · have HB : Hid (sameP m m' = false) := Lib.hid (by
              rw [Bool.eq_false_iff, Ne, sameP_iff]
              intro e
              rw [e] at h1
              exact h1 rfl)
            rw [decide_eq_false h1] at HX
            clear h1 hb hb'
            have cX := fun (d : Nat) (os : Array Obj) => Calls.regrown_of (w := (wr.alloc (.cells #[.slice a1 n1 c1, .slice a2 n2 c2] 119))) (d := d) (os := os) ((HX.out _ (hWA.trans ((below_regrown _ d os).mono hWA.size))).mono (fun e w' h => ⟨h.1, by rw [← h.2]; exact Below.refl _ _⟩))
            have hWs := hWA.size
            clear hWA
            go_wp2
            refine wp_region_quiet_below (by kernel_rfl) (by kernel_rfl) ?_
            repeat (go_big_quiet_step (first | (go_at_call 14; exact cX _ _)))
            refine wpQuiet_nil ?_
            intro _ hw'
            obtain ⟨⟨dq, osq⟩, hw''⟩ := hw'
            subst hw''
            have hq1 := below_regrown (wr.alloc (.cells #[.slice a1 n1 c1, .slice a2 n2 c2] 119)) dq osq
            go_wp2
            go_ret
            exact ⟨by rw [HB.out]; rfl, HBf.out.trans (hq1.mono HBf.out.size)⟩
        · have HB : Hid (sameP m m' = true) := Lib.hid (by
            have e := stes_ext (l := m.states) (m := m'.states) (by have := HA.out.len; have := HA'.out.len; omega) (fun x hx => ht.out x (by have := HA.out.len; omega))
            unfold sameP
            rw [decide_eq_true HAC.out, decide_eq_true e]; rfl)
          go_wp2
          go_ret
          exact ⟨by rw [HB.out]; rfl, HBB.out.trans (hb'.mono HBB.out.size)⟩
    · have hq : ((k : Int) != k') = true := by rw [bne_iff_ne]; omega
      have HB : Hid (sameP m m' = false) := Lib.hid (by
        rw [Bool.eq_false_iff, Ne, sameP_iff]
        intro e
        rw [HA.out.len, HA'.out.len, e] at hk
        exact hk rfl)
      clear ha hk
      go_enter Tryz.func34, Tryz.ntmps34
      go_wp2_with fail
      refine HS.out.mono ?_
      rintro e w' ⟨rfl, rfl⟩
      go_wp2
      go_ret
      exact ⟨by rw [HB.out]; rfl, HBB.out⟩
  · have HB : Hid (sameP m m' = false) := Lib.hid (by
      rw [Bool.eq_false_iff, Ne, sameP_iff]
      intro e
      rw [e] at ha
      exact ha rfl)
    rw [decide_eq_false ha] at HS
    clear ha
    go_enter Tryz.func34, Tryz.ntmps34
    go_wp2_with fail
    refine HS.out.mono ?_
    rintro e w' ⟨rfl, rfl⟩
    go_wp2
    go_ret
    exact ⟨by rw [HB.out]; rfl, HBB.out⟩
end Go.Proofs.YtgnbkepdbdgkdaaGreatDoor
/- The specification of the laws' fixed calls; whether the program is awake on it. -/
namespace Go.Proofs.YtgnbkepdbdgkdaaGreatDoor
open Go.RowKit Pl

def vA (w : World) : World := w.alloc (.cells #[.slice (some ⟨w.heap.size + 1, 0, none⟩) 2 2, .slice (some ⟨w.heap.size + 6, 0, none⟩) 2 2] 52)
def vB (w : World) : World := (vA w).alloc (.cells #[.string coinB, .string teaB] 9)
def vC (w : World) : World := (vB w).alloc (.cells #[.int .i64 1] 3)
def vD (w : World) : World := (vC w).alloc (.cells #[.int .i64 1, .int .i64 (-1)] 3)
def vE (w : World) : World := (vD w).alloc (.cells #[.int .i64 0, .int .i64 2] 3)
def vF (w : World) : World := (vE w).alloc (.cells #[.int .i64 (-1), .int .i64 0] 3)
def vG (w : World) : World := (vF w).alloc (.cells #[.slice (some ⟨w.heap.size + 2, 0, none⟩) 1 1, .slice (some ⟨w.heap.size + 3, 0, none⟩) 2 2, .slice (some ⟨w.heap.size + 4, 0, none⟩) 2 2, .slice (some ⟨w.heap.size + 5, 0, none⟩) 2 2] 119)
theorem vSizes (w : World) : (vA w).heap.size = w.heap.size + 1 ∧ (vB w).heap.size = w.heap.size + 2 ∧ (vC w).heap.size = w.heap.size + 3 ∧ (vD w).heap.size = w.heap.size + 4 ∧ (vE w).heap.size = w.heap.size + 5 ∧ (vF w).heap.size = w.heap.size + 6 := by
  refine ⟨?_, ?_, ?_, ?_, ?_, ?_⟩ <;> simp [vA, vB, vC, vD, vE, vF]
theorem nums_row {W : World} {q : Nat} {cs : Array Value} {l : List Int} (h : Whole W q 3 cs) (hc : cs = (l.map (Value.int .i64)).toArray) (hl : l.length ≤ 17592186044416) (hr : ∀ x ∈ l, -1 ≤ x ∧ x ≤ 9223372036854775807) : NumsArg W (some ⟨q, 0, none⟩) l.length l.length l := by
  refine ⟨⟨(fun h => by cases h), rfl, Nat.le_refl _, by omega, fun j hj => ⟨q, 0, rfl, ?_⟩⟩, hl, fun j hj => ?_⟩
  · rw [Nat.zero_add, h.cell, hc, List.getElem?_toArray, List.getElem?_map, List.getElem?_eq_getElem hj, List.getD_eq_getElem?_getD, List.getElem?_eq_getElem hj]
    rfl
  · have := hr (l.getD j 0) (by rw [List.getD_eq_getElem?_getD, List.getElem?_eq_getElem hj]; exact List.getElem_mem hj)
    omega
theorem vendQ_arg (w : World) : SpecArg (vG w) (some ⟨w.heap.size + 1, 0, none⟩) 2 2 (some ⟨w.heap.size + 6, 0, none⟩) 2 2 vendQ ∧ Below w.heap.size w (vG w) := by
  obtain ⟨z1, z2, z3, z4, z5, z6⟩ := vSizes w
  have bA : Below w.heap.size w (vA w) := (Below.refl _ w).alloc (Nat.le_refl _) _
  have bB : Below w.heap.size w (vB w) := bA.alloc (by omega) _
  have bC : Below w.heap.size w (vC w) := bB.alloc (by omega) _
  have bD : Below w.heap.size w (vD w) := bC.alloc (by omega) _
  have bE : Below w.heap.size w (vE w) := bD.alloc (by omega) _
  have bF : Below w.heap.size w (vF w) := bE.alloc (by omega) _
  have bG : Below w.heap.size w (vG w) := bF.alloc (by omega) _
  have hs := strs_new (vA w) [coinB, teaB] (by decide) (fun x hx => by
    simp only [List.mem_cons, List.not_mem_nil, or_false] at hx
    rcases hx with rfl | rfl <;> decide)
  have sBG : Below (vB w).heap.size (vB w) (vG w) := (((((Below.refl _ (vB w)).alloc (Nat.le_refl _) _).alloc (by simp only [World.size_alloc]; omega) _).alloc (by simp only [World.size_alloc]; omega) _).alloc (by simp only [World.size_alloc]; omega) _).alloc (by simp only [World.size_alloc]; omega) _
  have hs2 : StrArg (vG w) (some ⟨(vA w).heap.size, 0, none⟩) 2 2 [coinB, teaB] := StrArg.below (w := vB w) hs sBG
  rw [z1] at hs2
  have hC := ((((Whole.new (vB w) 3 #[.int .i64 1]).alloc (.cells #[.int .i64 1, .int .i64 (-1)] 3)).alloc (.cells #[.int .i64 0, .int .i64 2] 3)).alloc (.cells #[.int .i64 (-1), .int .i64 0] 3)).alloc (.cells #[.slice (some ⟨w.heap.size + 2, 0, none⟩) 1 1, .slice (some ⟨w.heap.size + 3, 0, none⟩) 2 2, .slice (some ⟨w.heap.size + 4, 0, none⟩) 2 2, .slice (some ⟨w.heap.size + 5, 0, none⟩) 2 2] 119)
  have hD := (((Whole.new (vC w) 3 #[.int .i64 1, .int .i64 (-1)]).alloc (.cells #[.int .i64 0, .int .i64 2] 3)).alloc (.cells #[.int .i64 (-1), .int .i64 0] 3)).alloc (.cells #[.slice (some ⟨w.heap.size + 2, 0, none⟩) 1 1, .slice (some ⟨w.heap.size + 3, 0, none⟩) 2 2, .slice (some ⟨w.heap.size + 4, 0, none⟩) 2 2, .slice (some ⟨w.heap.size + 5, 0, none⟩) 2 2] 119)
  have hE := ((Whole.new (vD w) 3 #[.int .i64 0, .int .i64 2]).alloc (.cells #[.int .i64 (-1), .int .i64 0] 3)).alloc (.cells #[.slice (some ⟨w.heap.size + 2, 0, none⟩) 1 1, .slice (some ⟨w.heap.size + 3, 0, none⟩) 2 2, .slice (some ⟨w.heap.size + 4, 0, none⟩) 2 2, .slice (some ⟨w.heap.size + 5, 0, none⟩) 2 2] 119)
  have hF := (Whole.new (vE w) 3 #[.int .i64 (-1), .int .i64 0]).alloc (.cells #[.slice (some ⟨w.heap.size + 2, 0, none⟩) 1 1, .slice (some ⟨w.heap.size + 3, 0, none⟩) 2 2, .slice (some ⟨w.heap.size + 4, 0, none⟩) 2 2, .slice (some ⟨w.heap.size + 5, 0, none⟩) 2 2] 119)
  have hG := Whole.new (vF w) 119 #[.slice (some ⟨w.heap.size + 2, 0, none⟩) 1 1, .slice (some ⟨w.heap.size + 3, 0, none⟩) 2 2, .slice (some ⟨w.heap.size + 4, 0, none⟩) 2 2, .slice (some ⟨w.heap.size + 5, 0, none⟩) 2 2]
  rw [z2] at hC
  rw [z3] at hD
  rw [z4] at hE
  rw [z5] at hF
  rw [z6] at hG
  refine ⟨⟨hs2, by decide, (fun h => by cases h), rfl, by decide, by decide, fun i hi => ⟨w.heap.size + 6, 0, rfl, ?_⟩⟩, bG⟩
  have hi' : i = 0 ∨ i = 1 := by
    have : i < 2 := hi
    omega
  rcases hi' with rfl | rfl
  · exact ⟨_, _, _, _, _, _, hG.cell 0, hG.cell 1, nums_row (l := [1]) hC rfl (by decide) (by decide), nums_row (l := [1, -1]) hD rfl (by decide) (by decide)⟩
  · exact ⟨_, _, _, _, _, _, hG.cell 2, hG.cell 3, nums_row (l := [0, 2]) hE rfl (by decide) (by decide), nums_row (l := [-1, 0]) hF rfl (by decide) (by decide)⟩
set_option maxRecDepth 100000 in
theorem vendS_any (w : World) : Calls Tryz.prog 60 #[] w fun e w' => ∃ a c b d, e = .returned (.agg #[.slice a 2 c, .slice b 2 d]) ∧ SpecArg w' a 2 c b 2 d vendQ ∧ Below w.heap.size w w' := by
  have HV := Lib.hid (vendQ_arg w)
  go_enter Tryz.func60, Tryz.ntmps60
  go_wp2
  exact bodyPost_ret (v := .agg #[.slice (some ⟨w.heap.size + 1, 0, none⟩) 2 2, .slice (some ⟨w.heap.size + 6, 0, none⟩) 2 2]) (by simp [results, Tryz.results60, go_sem]) rfl ⟨_, _, _, _, rfl, HV.out.1, HV.out.2⟩
end Go.Proofs.YtgnbkepdbdgkdaaGreatDoor
/- Whether the program is awake, by the fixed calls of the laws about specifications. -/
namespace Go.Proofs.YtgnbkepdbdgkdaaGreatDoor
open Go.RowKit Pl

/-- the system with one edge, as the law lays it -/
theorem sysA_arg (w : World) : SysArg ((((w.alloc (.cells #[.string coinB, .string teaB] 9)).alloc (.cells #[.int .i64 0, .int .i64 1] 87)).alloc (.cells #[.slice (some ⟨w.heap.size + 1, 0, none⟩) 1 1, .slice none 0 0] 77)).alloc (.cells #[.slice (some ⟨w.heap.size, 0, none⟩) 2 2, .slice (some ⟨w.heap.size + 1 + 1, 0, none⟩) 2 2] 25)) (some ⟨w.heap.size, 0, none⟩) 2 2 (some ⟨w.heap.size + 1 + 1, 0, none⟩) 2 2 sysA := by
  have hs := strs_new w [coinB, teaB] (by decide) (fun x hx => by
    simp only [List.mem_cons, List.not_mem_nil, or_false] at hx
    rcases hx with rfl | rfl <;> decide)
  have hb : ∀ (W : World) (o : Obj), Below W.heap.size W (W.alloc o) := fun W o => (Below.refl _ W).alloc (Nat.le_refl _) o
  have hs2 := ((hs.below (hb _ (.cells #[.int .i64 0, .int .i64 1] 87))).below (hb _ (.cells #[.slice (some ⟨w.heap.size + 1, 0, none⟩) 1 1, .slice none 0 0] 77))).below (hb _ (.cells #[.slice (some ⟨w.heap.size, 0, none⟩) 2 2, .slice (some ⟨w.heap.size + 1 + 1, 0, none⟩) 2 2] 25))
  have he := ((Whole.new (w.alloc (.cells #[.string coinB, .string teaB] 9)) 87 #[.int .i64 0, .int .i64 1]).alloc (.cells #[.slice (some ⟨w.heap.size + 1, 0, none⟩) 1 1, .slice none 0 0] 77)).alloc (.cells #[.slice (some ⟨w.heap.size, 0, none⟩) 2 2, .slice (some ⟨w.heap.size + 1 + 1, 0, none⟩) 2 2] 25)
  have hr := (Whole.new ((w.alloc (.cells #[.string coinB, .string teaB] 9)).alloc (.cells #[.int .i64 0, .int .i64 1] 87)) 77 #[.slice (some ⟨w.heap.size + 1, 0, none⟩) 1 1, .slice none 0 0]).alloc (.cells #[.slice (some ⟨w.heap.size, 0, none⟩) 2 2, .slice (some ⟨w.heap.size + 1 + 1, 0, none⟩) 2 2] 25)
  simp only [World.size_alloc] at he hr
  refine ⟨hs2, by decide, (fun h => by cases h), rfl, by decide, by decide, fun i hi => ⟨w.heap.size + 1 + 1, 0, rfl, ?_⟩⟩
  have hi' : i = 0 ∨ i = 1 := by
    have : i < 2 := hi
    omega
  rcases hi' with rfl | rfl
  · refine ⟨some ⟨w.heap.size + 1, 0, none⟩, 1, 1, hr.cell 0, (fun h => by cases h), rfl, by decide, by decide, fun k hk => ⟨w.heap.size + 1, 0, rfl, ?_⟩⟩
    have hk' : k < 1 := hk
    obtain rfl : k = 0 := by omega
    exact ⟨he.cell 0, he.cell 1⟩
  · exact ⟨none, 0, 0, hr.cell 1, fun _ => rfl, rfl, Nat.le_refl _, by decide, fun k hk => by have hk' : k < 0 := hk; omega⟩
/-- the system without edges -/
theorem sysN_arg (w : World) : SysArg ((w.alloc (.cells #[.string coinB, .string teaB] 9)).alloc (.cells #[.slice none 0 0] 77)) (some ⟨w.heap.size, 0, none⟩) 2 2 (some ⟨w.heap.size + 1, 0, none⟩) 1 1 sysN := by
  have hs := strs_new w [coinB, teaB] (by decide) (fun x hx => by
    simp only [List.mem_cons, List.not_mem_nil, or_false] at hx
    rcases hx with rfl | rfl <;> decide)
  have hs2 := hs.below ((Below.refl _ _).alloc (Nat.le_refl _) (.cells #[.slice none 0 0] 77))
  have hr := Whole.new (w.alloc (.cells #[.string coinB, .string teaB] 9)) 77 #[.slice none 0 0]
  simp only [World.size_alloc] at hr
  refine ⟨hs2, by decide, (fun h => by cases h), rfl, by decide, by decide, fun i hi => ⟨w.heap.size + 1, 0, rfl, ?_⟩⟩
  have hi' : i < 1 := hi
  obtain rfl : i = 0 := by omega
  exact ⟨none, 0, 0, hr.cell 0, fun _ => rfl, rfl, Nat.le_refl _, by decide, fun k hk => by have hk' : k < 0 := hk; omega⟩
def vendT : ByteArray := ⟨#[115, 112, 101, 99, 32, 99, 111, 105, 110, 32, 116, 101, 97, 10, 48, 58, 32, 123, 99, 111, 105, 110, 125, 32, 45, 62, 32, 99, 111, 105, 110, 32, 49, 10, 49, 58, 32, 123, 125, 32, 123, 116, 101, 97, 125, 32, 45, 62, 32, 116, 101, 97, 32, 48]⟩
theorem vendS_same : sameP vendQ vendQ = true := (sameP_iff _ _).2 rfl
/-- Satisfies at the two systems -/
theorem satA_any {w : World} {a : Option Addr} {c : Nat} {b : Option Addr} {d : Nat} {a' : Option Addr} {c' : Nat} {b' : Option Addr} {d' : Nat} {e0 e1 e2 : Addr} (E : Errs w e0 e1 e2) (A : SysArg w a 2 c b 2 d sysA) (A' : SpecArg w a' 2 c' b' 2 d' vendQ) :
    Calls Tryz.prog 24 #[.agg #[.slice a 2 c, .slice b 2 d], .agg #[.slice a' 2 c', .slice b' 2 d']] w fun e w' => ∃ va vc, e = .returned (.tuple #[.agg #[.bool true, .slice va 2 vc, .slice none 0 0, .int .i64 0], .int .i64 0]) ∧ Below w.heap.size w w' := by
  refine (Satisfies_ok E A A' sysA_ok vendQ_ok rfl).mono ?_
  rintro e w' ⟨hb, ⟨L, v, hy, rfl, hv⟩ | ⟨wd, x, v, hn, _⟩⟩
  · obtain ⟨va, vc, rfl⟩ := own_slice' hv
    rw [satA_yes hy]
    exact ⟨va, vc, rfl, hb⟩
  · exact (satA_no hn).elim
theorem satN_any {w : World} {a : Option Addr} {c : Nat} {b : Option Addr} {d : Nat} {a' : Option Addr} {c' : Nat} {b' : Option Addr} {d' : Nat} {e0 e1 e2 : Addr} (E : Errs w e0 e1 e2) (A : SysArg w a 2 c b 1 d sysN) (A' : SpecArg w a' 2 c' b' 2 d' vendQ) :
    Calls Tryz.prog 24 #[.agg #[.slice a 2 c, .slice b 1 d], .agg #[.slice a' 2 c', .slice b' 2 d']] w fun e w' => ∃ va vc, e = .returned (.tuple #[.agg #[.bool false, .slice none 0 0, .slice va 0 vc, .int .i64 0], .int .i64 0]) ∧ Below w.heap.size w w' := by
  refine (Satisfies_ok E A A' sysN_ok vendQ_ok rfl).mono ?_
  rintro e w' ⟨hb, ⟨L, v, hy, _⟩ | ⟨wd, x, v, hn, rfl, hv⟩⟩
  · exact (satN_yes hy).elim
  · obtain ⟨rfl, rfl⟩ := satN_no hn
    obtain ⟨va, vc, rfl⟩ := own_slice' hv
    exact ⟨va, vc, rfl, hb⟩
theorem pack_v {w : World} {g : Nat} {t : TypeId} {x y z u : Value} (h : Whole w g t #[x, y, z, u]) :
    Whole w g t #[x, y, z, u] ∧ (w.cell? ⟨g, 0, none⟩ = some x ∧ w.cell? ⟨g, 1, none⟩ = some y ∧ w.cell? ⟨g, 2, none⟩ = some z ∧ w.cell? ⟨g, 3, none⟩ = some u) ∧
    w.frozen? ⟨g, 0, none⟩ = false ∧ w.frozen? ⟨g, 1, none⟩ = false ∧ w.frozen? ⟨g, 2, none⟩ = false ∧ w.frozen? ⟨g, 3, none⟩ = false :=
  ⟨h, ⟨h.cell 0, h.cell 1, h.cell 2, h.cell 3⟩, h.frozen 0, h.frozen 1, h.frozen 2, h.frozen 3⟩
theorem cell_dr {w : World} {p : Addr} {v : Value} (h : w.cell? p = some v) : w.drew.cell? p = some v := h
theorem whole_dr {w : World} {g : Nat} {t : TypeId} {cs : Array Value} (h : Whole w g t cs) : Whole w.drew g t cs := h
theorem far4 {w : World} {p : Addr} {g : Nat} {v : Value} (h : w.cell? p = some v) (hne : g ≠ p.block) (x y z u : Value) :
    ((((w.setCell ⟨g, 0, none⟩ x).setCell ⟨g, 1, none⟩ y).setCell ⟨g, 2, none⟩ z).setCell ⟨g, 3, none⟩ u).cell? p = some v := by
  rw [World.cell?_setCell_far _ ⟨g, 3, none⟩ _ _ hne, World.cell?_setCell_far _ ⟨g, 2, none⟩ _ _ hne, World.cell?_setCell_far _ ⟨g, 1, none⟩ _ _ hne, World.cell?_setCell_far _ ⟨g, 0, none⟩ _ _ hne, h]
theorem up6 {W w' : World} {p1 p2 p3 p4 p5 p6 p7 : Addr} {v1 v2 v3 v4 v5 v6 v7 : Value} (hb : Below W.heap.size W w') (h : W.cell? p1 = some v1 ∧ W.cell? p2 = some v2 ∧ W.cell? p3 = some v3 ∧ W.cell? p4 = some v4 ∧ W.cell? p5 = some v5 ∧ W.cell? p6 = some v6 ∧ W.cell? p7 = some v7) :
    w'.cell? p1 = some v1 ∧ w'.cell? p2 = some v2 ∧ w'.cell? p3 = some v3 ∧ w'.cell? p4 = some v4 ∧ w'.cell? p5 = some v5 ∧ w'.cell? p6 = some v6 ∧ w'.cell? p7 = some v7 :=
  ⟨up_cell hb h.1, up_cell hb h.2.1, up_cell hb h.2.2.1, up_cell hb h.2.2.2.1, up_cell hb h.2.2.2.2.1, up_cell hb h.2.2.2.2.2.1, up_cell hb h.2.2.2.2.2.2⟩
set_option maxRecDepth 100000 in
set_option maxHeartbeats 8000000 in
theorem awakeS_any {w : World} (E : Env w) (T : Tab w) : Calls Tryz.prog 22 #[] w fun e w' => e = .returned (.bool true) ∧ Below w.heap.size w w' := by
  go_enter Tryz.func22, Tryz.ntmps22
  have HE := Lib.hid E
  have HT := Lib.hid T
  clear E T
  go_wp2_with fail
  refine (vendS_any _).mono ?_
  rintro e w1 ⟨a1, c1, b1, d1, rfl, hA1, hb1⟩
  have HS1 := Lib.hid (SpString_any (HE.out.below hb1) (HT.out.below hb1) hA1)
  have HB1 := Lib.hid hb1
  clear hA1 hb1
  go_wp2_with fail
  refine HS1.out.mono ?_
  rintro e w2 ⟨rfl, hb2⟩
  have HB2 := Lib.hid (HB1.out.trans (hb2.mono HB1.out.size))
  clear hb2 HS1
  rw [spStrV_yes vendQ_ok, vendQ_str]
  have HP := Lib.hid (SpParse_any vendT (by decide) w2 (HE.out.below HB2.out))
  rw [show vendT.data.toList = vendL from rfl, vendQ_parse] at HP
  go_wp2_with fail
  refine HP.out.mono ?_
  rintro e w3 ⟨a3, n3, c3, b3, k3, d3, rfl, hA3, hb3⟩
  have hA3' := hA3.below ((Below.refl _ w3).alloc (Nat.le_refl _) (.cells #[.slice a3 n3 c3, .slice b3 k3 d3] 52))
  have hw3 := Whole.new w3 52 #[.slice a3 n3 c3, .slice b3 k3 d3]
  have HB3 := Lib.hid ((HB2.out.trans (hb3.mono HB2.out.size)).alloc (by have := HB2.out.size; have := hb3.size; omega) (.cells #[.slice a3 n3 c3, .slice b3 k3 d3] 52))
  obtain ⟨w4, hw4⟩ : ∃ w4, w3.alloc (.cells #[.slice a3 n3 c3, .slice b3 k3 d3] 52) = w4 := ⟨_, rfl⟩
  rw [hw4] at HB3 hA3' hw3
  have HA3 := Lib.hid hA3'
  have HW3 := Lib.hid hw3
  have HW4 := Lib.hid hw4
  clear hA3 hb3 HP hA3' hw3 hw4
  have hA5 := sysA_arg w4
  have hb5 : Below w.heap.size w ((((w4.alloc (.cells #[.string ⟨#[99, 111, 105, 110]⟩, .string ⟨#[116, 101, 97]⟩] 9)).alloc (.cells #[.int .i64 0, .int .i64 1] 87)).alloc (.cells #[.slice (some ⟨w4.heap.size + 1, 0, none⟩) 1 1, .slice none 0 0] 77)).alloc (.cells #[.slice (some ⟨w4.heap.size, 0, none⟩) 2 2, .slice (some ⟨w4.heap.size + 1 + 1, 0, none⟩) 2 2] 25)) := (((HB3.out.alloc HB3.out.size _).alloc (by have := HB3.out.size; simp; omega) _).alloc (by have := HB3.out.size; simp; omega) _).alloc (by have := HB3.out.size; simp; omega) _
  have hx5 := Whole.new (((w4.alloc (.cells #[.string ⟨#[99, 111, 105, 110]⟩, .string ⟨#[116, 101, 97]⟩] 9)).alloc (.cells #[.int .i64 0, .int .i64 1] 87)).alloc (.cells #[.slice (some ⟨w4.heap.size + 1, 0, none⟩) 1 1, .slice none 0 0] 77)) 25 #[.slice (some ⟨w4.heap.size, 0, none⟩) 2 2, .slice (some ⟨w4.heap.size + 1 + 1, 0, none⟩) 2 2]
  simp only [World.size_alloc] at hx5
  have hb45 : Below w4.heap.size w4 ((((w4.alloc (.cells #[.string ⟨#[99, 111, 105, 110]⟩, .string ⟨#[116, 101, 97]⟩] 9)).alloc (.cells #[.int .i64 0, .int .i64 1] 87)).alloc (.cells #[.slice (some ⟨w4.heap.size + 1, 0, none⟩) 1 1, .slice none 0 0] 77)).alloc (.cells #[.slice (some ⟨w4.heap.size, 0, none⟩) 2 2, .slice (some ⟨w4.heap.size + 1 + 1, 0, none⟩) 2 2] 25)) := ((((Below.refl _ w4).alloc (Nat.le_refl _) _).alloc (by simp) _).alloc (by simp; omega) _).alloc (by simp; omega) _
  obtain ⟨w5, HW5⟩ : ∃ z, Hid ((((w4.alloc (.cells #[.string ⟨#[99, 111, 105, 110]⟩, .string ⟨#[116, 101, 97]⟩] 9)).alloc (.cells #[.int .i64 0, .int .i64 1] 87)).alloc (.cells #[.slice (some ⟨w4.heap.size + 1, 0, none⟩) 1 1, .slice none 0 0] 77)).alloc (.cells #[.slice (some ⟨w4.heap.size, 0, none⟩) 2 2, .slice (some ⟨w4.heap.size + 1 + 1, 0, none⟩) 2 2] 25) = z) := ⟨_, Lib.hid rfl⟩
  have HA5 : Hid (SysArg w5 (some ⟨w4.heap.size, 0, none⟩) 2 2 (some ⟨w4.heap.size + 1 + 1, 0, none⟩) 2 2 sysA) := Lib.hid (by rw [← HW5.out]; exact hA5)
  rw [HW5.out] at hb5 hx5 hb45
  have HB5 := Lib.hid hb5
  have hW35 := HW3.out.below hb45 (by rw [← HW4.out]; simp)
  have HW35 := Lib.hid hW35
  have HB45 := Lib.hid hb45
  obtain ⟨e0, e1, e2, hErr⟩ := (HE.out.below hb5).errs
  have HErr := Lib.hid hErr
  have k0 := hx5.cell 0
  have k1 := hx5.cell 1
  simp only [List.getElem?_toArray, List.getElem?_cons_succ, List.getElem?_cons_zero] at k0 k1
  have h45 : w4.heap.size ≤ w5.heap.size := hb45.size
  have d0 : w5.drew.cell? ⟨w4.heap.size + 1 + 1 + 1, 0, none⟩ = some (.slice (some ⟨w4.heap.size, 0, none⟩) 2 2) := k0
  have d1 : w5.drew.cell? ⟨w4.heap.size + 1 + 1 + 1, 1, none⟩ = some (.slice (some ⟨w4.heap.size + 1 + 1, 0, none⟩) 2 2) := k1
  clear hA5 hb5 hx5 hb45 hW35 hErr
  go_wp2_with (rw [HW4.out])
  rw [HW5.out]
  go_cut [6, 7] (fun s6 s7 wx => ∃ g va vc, s6 = .pointer (some ⟨g, 0, none⟩) ∧ s7 = .int .i64 0 ∧ Below w5.heap.size w5 wx ∧ w5.heap.size ≤ g ∧ Whole wx g 57 #[.bool true, .slice va 2 vc, .slice none 0 0, .int .i64 0])
  case first =>
    go_region_held3 (fun w' => w'.cell? ⟨w4.heap.size + 1 + 1 + 1, 0, none⟩ = some (.slice (some ⟨w4.heap.size, 0, none⟩) 2 2) ∧ w'.cell? ⟨w4.heap.size + 1 + 1 + 1, 1, none⟩ = some (.slice (some ⟨w4.heap.size + 1 + 1, 0, none⟩) 2 2))
      ((with_reducible (first | assumption | exact ⟨kK, kL⟩ | exact ⟨kI, kJ⟩ | exact ⟨cell_new kK _, cell_new kL _⟩ | exact ⟨cell_new kI _, cell_new kJ _⟩ | exact ⟨far4 kK n6 _ _ _ _, far4 kL n6 _ _ _ _⟩ | exact ⟨far4 kK n5 _ _ _ _, far4 kL n5 _ _ _ _⟩ | exact ⟨k0, k1⟩ | exact ⟨cell_new k0 _, cell_new k1 _⟩ | exact ⟨d0, d1⟩ | exact ⟨cell_dr (cell_new k0 _), cell_dr (cell_new k1 _)⟩)))
      (first
        | (go_at_call 60; first
            | (refine Calls.mono (vendS_any w5.drew) ?_; rintro e w6 ⟨a6, c6, b6, d6, rfl, hA6, hb6⟩; have kI := up_cell hb6 d0; have kJ := up_cell hb6 d1; have hb56 : Below w5.heap.size w5 w6 := (Below.refl _ w5).drew.trans hb6; have n6 := World.new_ne w6 _ kI)
            | (refine Calls.mono (vendS_any (w5.alloc _).drew) ?_; rintro e w6 ⟨a6, c6, b6, d6, rfl, hA6, hb6⟩; have kI := up_cell hb6 (cell_dr (cell_new k0 _)); have kJ := up_cell hb6 (cell_dr (cell_new k1 _)); have hb56 : Below w5.heap.size w5 w6 := ((Below.refl _ w5).alloc (Nat.le_refl _) _).drew.trans (hb6.mono (by simp)); have B0 := up_whole hb6 (whole_dr (Whole.new w5 _ _)); have n5 := World.new_ne w5 _ k0))
        | (go_at_call 24; have hc := fun (W : World) (hb : Below w6.heap.size w6 W) => satA_any (HErr.out.below (below_two hb56 hb)) (HA5.out.below (below_two hb56 hb)) (hA6.below hb); first
            | (refine Calls.mono (hc w6 (Below.refl _ _)) ?_; clear hc; rintro e w7 ⟨va7, vc7, rfl, hb7⟩; have kK := up_cell hb7 kI; have kL := up_cell hb7 kJ; have hb57 := below_two hb56 hb7; first | (have B2 : Whole w6 w5.heap.size 57 #[.bool false, .slice none 0 0, .slice none 0 0, .int .i64 0] := (by assumption); obtain ⟨B1, ⟨C0, C1, C2, C3⟩, F0, F1, F2, F3⟩ := pack_v (up_whole hb7 B2); clear B2; have hg := Nat.le_refl w5.heap.size) | skip)
            | (refine Calls.mono (hc (w6.alloc _) ((Below.refl _ _).alloc (Nat.le_refl _) _)) ?_; clear hc; rintro e w7 ⟨va7, vc7, rfl, hb7⟩; have kK := up_cell hb7 (cell_new kI _); have kL := up_cell hb7 (cell_new kJ _); obtain ⟨B1, ⟨C0, C1, C2, C3⟩, F0, F1, F2, F3⟩ := pack_v (up_whole hb7 (Whole.new w6 _ _)); have hg := hb56.size; have hb57 := below_two hb56 (below_two ((Below.refl _ w6).alloc (Nat.le_refl _) _) hb7))))
    all_goals
      go_wp2_with fail
      go_meet
      first
        | exact ⟨_, _, _, rfl, rfl, hb57.alloc hb57.size _, hb57.size, Whole.new _ _ _⟩
        | exact ⟨_, _, _, rfl, rfl, (((hb57.setCell hg _).setCell hg _).setCell hg _).setCell hg _, hg, (((B1.set 0 _).set 1 _).set 2 _).set 3 _⟩
  case rest =>
    obtain ⟨g, va, vc, rfl, rfl, hbc, hg, hWc⟩ := hcut
    have HBp := Lib.hid (below_two HB45.out hbc)
    have hBc := HB5.out.trans (hbc.mono HB5.out.size)
    have hW3c := HW35.out.below hbc HW35.out.lt
    have HErrC := Lib.hid (HErr.out.below hbc)
    have hAN := sysN_arg wc
    have HBc := Lib.hid hBc
    have HW3c := Lib.hid hW3c
    have HWc := Lib.hid hWc
    have hbN : Below wc.heap.size wc ((wc.alloc (.cells #[.string ⟨#[99, 111, 105, 110]⟩, .string ⟨#[116, 101, 97]⟩] 9)).alloc (.cells #[.slice none 0 0] 77)) := ((Below.refl _ wc).alloc (Nat.le_refl _) _).alloc (by simp) _
    obtain ⟨w8, HW8⟩ : ∃ z, Hid (((wc.alloc (.cells #[.string ⟨#[99, 111, 105, 110]⟩, .string ⟨#[116, 101, 97]⟩] 9)).alloc (.cells #[.slice none 0 0] 77)) = z) := ⟨_, Lib.hid rfl⟩
    have HAN : Hid (SysArg w8 (some ⟨wc.heap.size, 0, none⟩) 2 2 (some ⟨wc.heap.size + 1, 0, none⟩) 1 1 sysN) := Lib.hid (by rw [← HW8.out]; exact hAN)
    rw [HW8.out] at hbN
    have HBN := Lib.hid hbN
    clear hBc hW3c hAN hbN hbc hWc k0 k1 d0 d1 HErr HW35 HB5 HA5 HW5
    go_wp2_with fail
    rw [HW8.out]
    refine (vendS_any w8).mono ?_
    rintro e w9 ⟨a9, c9, b9, d9, rfl, hA9, hb9⟩
    have HB9 := Lib.hid (below_two HBN.out hb9)
    have HN9 := Lib.hid (satN_any (HErrC.out.below HB9.out) (HAN.out.below hb9) hA9)
    clear hA9 hb9
    go_wp2_with fail
    refine HN9.out.mono ?_
    rintro e w10 ⟨vn, vm, rfl, hb10⟩
    have HB10 := Lib.hid (below_two HB9.out hb10)
    obtain ⟨w11, HW11⟩ : ∃ z, Hid (w10.alloc (.cells #[.bool false, .slice none 0 0, .slice vn 0 vm, .int .i64 0] 57) = z) := ⟨_, Lib.hid rfl⟩
    have hV := Whole.new w10 57 #[.bool false, .slice none 0 0, .slice vn 0 vm, .int .i64 0]
    have hB11 := HB10.out.alloc HB10.out.size (.cells #[.bool false, .slice none 0 0, .slice vn 0 vm, .int .i64 0] 57)
    rw [HW11.out] at hV hB11
    have hX := HW3c.out.below hB11 HW3c.out.lt
    have hY := HWc.out.below hB11 HWc.out.lt
    have k : w11.cell? ⟨w3.heap.size, 0, none⟩ = some (.slice a3 n3 c3) ∧ w11.cell? ⟨w3.heap.size, 1, none⟩ = some (.slice b3 k3 d3) ∧ w11.cell? ⟨g, 0, none⟩ = some (.bool true) ∧ w11.cell? ⟨g, 1, none⟩ = some (.slice va 2 vc) ∧ w11.cell? ⟨w10.heap.size, 0, none⟩ = some (.bool false) ∧ w11.cell? ⟨w10.heap.size, 2, none⟩ = some (.slice vn 0 vm) ∧ w11.cell? ⟨w10.heap.size, 3, none⟩ = some (.int .i64 0) :=
      ⟨hX.cell 0, hX.cell 1, hY.cell 0, hY.cell 1, hV.cell 0, hV.cell 2, hV.cell 3⟩
    have kD : w11.drew.cell? ⟨w3.heap.size, 0, none⟩ = some (.slice a3 n3 c3) ∧ w11.drew.cell? ⟨w3.heap.size, 1, none⟩ = some (.slice b3 k3 d3) ∧ w11.drew.cell? ⟨g, 0, none⟩ = some (.bool true) ∧ w11.drew.cell? ⟨g, 1, none⟩ = some (.slice va 2 vc) ∧ w11.drew.cell? ⟨w10.heap.size, 0, none⟩ = some (.bool false) ∧ w11.drew.cell? ⟨w10.heap.size, 2, none⟩ = some (.slice vn 0 vm) ∧ w11.drew.cell? ⟨w10.heap.size, 3, none⟩ = some (.int .i64 0) := k
    have HB11 := Lib.hid (HBc.out.trans (hB11.mono HBc.out.size))
    have HA11 := Lib.hid (HA3.out.below (below_two HBp.out hB11))
    clear hb10 hV hB11 hX hY HN9
    have hmk : mk (vendL ++ [10]) = ⟨#[115, 112, 101, 99, 32, 99, 111, 105, 110, 32, 116, 101, 97, 10, 48, 58, 32, 123, 99, 111, 105, 110, 125, 32, 45, 62, 32, 99, 111, 105, 110, 32, 49, 10, 49, 58, 32, 123, 125, 32, 123, 116, 101, 97, 125, 32, 45, 62, 32, 116, 101, 97, 32, 48, 10]⟩ := rfl
    simp only [hmk]
    clear hmk
    go_wp2_with (rw [HW11.out])
    go_region_held3 (fun w' => w'.cell? ⟨w3.heap.size, 0, none⟩ = some (.slice a3 n3 c3) ∧ w'.cell? ⟨w3.heap.size, 1, none⟩ = some (.slice b3 k3 d3) ∧ w'.cell? ⟨g, 0, none⟩ = some (.bool true) ∧ w'.cell? ⟨g, 1, none⟩ = some (.slice va 2 vc) ∧ w'.cell? ⟨w10.heap.size, 0, none⟩ = some (.bool false) ∧ w'.cell? ⟨w10.heap.size, 2, none⟩ = some (.slice vn 0 vm) ∧ w'.cell? ⟨w10.heap.size, 3, none⟩ = some (.int .i64 0))
      ((with_reducible (first | assumption | exact kD)))
      (first
        | (go_at_call 34; refine (RSSame_any ((HA11.out.below (Below.refl _ _).drew).below hb12) hA12).mono ?_; rw [vendS_same]; rintro e w13 ⟨rfl, hb13⟩; have kJ := up6 hb13 kI)
        | (go_at_call 60; refine (vendS_any w11.drew).mono ?_; rintro e w12 ⟨a12, c12, b12, d12, rfl, hA12, hb12⟩; have kI := up6 hb12 kD))
    have s12 : w.heap.size ≤ w12.heap.size := Nat.le_trans HB11.out.size hb12.size
    have HF := Lib.hid ((HB11.out.drew.trans (hb12.mono HB11.out.size)).trans (hb13.mono s12))
    clear hb12 hb13 kI kJ k kD
    go_wp2
    go_ret
    exact ⟨rfl, HF.out⟩
end Go.Proofs.YtgnbkepdbdgkdaaGreatDoor
