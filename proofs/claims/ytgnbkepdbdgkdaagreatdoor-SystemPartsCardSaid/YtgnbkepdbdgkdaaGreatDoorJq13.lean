/- Texts joined: Str. -/
import Derived.Test.YtgnbkepdbdgkdaaGreatDoorJq12
import Derived.Test.YtgnbkepdbdgkdaaGreatDoorJq05
/- act.String. -/
namespace Go.Proofs.YtgnbkepdbdgkdaaGreatDoor
open Go.RowKit Go.Shelf Pl

theorem infoStr : (Tryz.prog.info? 9).map (fun i => (i.zero, i.size, i.bytes)) = some (some (.string ⟨#[]⟩), 1, 16) := by kernel_rfl

theorem memL_bit {y k : Nat} (h : k ∈ memL y) : y.testBit k = true := by
  unfold memL at h
  rw [List.mem_filter] at h
  exact h.2
theorem memL_in {y k n : Nat} (hk : k ∈ memL y) (hy : (y : Int) < 2 ^ n) : k < n := by
  have h1 : 2 ^ k ≤ y := Nat.ge_two_pow_of_testBit (memL_bit hk)
  have h2 : y < 2 ^ n := by
    have h3 : ((2 ^ n : Nat) : Int) = (2 : Int) ^ n := by norm_cast
    omega
  rcases Nat.lt_or_ge k n with h | h
  · exact h
  · have := Nat.pow_le_pow_right (n := 2) (by decide) h
    omega
theorem memL_below {y k n : Nat} {pre : List Nat} (h : pre ++ [k] <+: memL y) (hy : (y : Int) < 2 ^ n) : k < n := by
  have hk : k ∈ memL y := h.subset (by simp)
  have h1 : 2 ^ k ≤ y := Nat.ge_two_pow_of_testBit (memL_bit hk)
  have h2 : y < 2 ^ n := by
    have h3 : ((2 ^ n : Nat) : Int) = (2 : Int) ^ n := by norm_cast
    omega
  rcases Nat.lt_or_ge k n with h | h
  · exact h
  · have := Nat.pow_le_pow_right (n := 2) (by decide) h
    omega

attribute [local go_sem] Oper.semAt_some

set_option maxRecDepth 100000 in
set_option maxHeartbeats 2000000 in
theorem String_yes {w : World} {a : Option Addr} {n c : Nat} {ss : List ByteArray} {e0 e1 e2 : Addr} (y : Nat) (E : Errs w e0 e1 e2) (T : Tab w) (A : StrArg w a n c ss) (hz : setCode ss [(y : Int)] = 0) :
    Calls Tryz.prog 81 #[.slice a n c, .int .i64 y] w fun e w' => e = .returned (.tuple #[.string ⟨(setS ss y).toArray⟩, .int .i64 0]) ∧ Below w.heap.size w w' := by
  refine (callsIn_wide (n := 3)).1 ?_
  obtain ⟨i0, hi, hz0, hz1, hz2⟩ := info_parts infoStr
  have hab : actsB ss = true ∧ [(y : Int)].all (setB ss.length) = true := by
    unfold setCode at hz
    cases h1 : actsB ss
    · rw [h1] at hz; simp at hz
    · cases h2 : [(y : Int)].all (setB ss.length)
      · rw [h1, h2] at hz; simp at hz
      · exact ⟨rfl, rfl⟩
  have h8 : n ≤ 8 := by have := ((actsB_iff ss).1 hab.1).1; have := A.len; omega
  have x1 := (set_lt hab.1 hab.2).2
  have HAB : Hid (∀ k, k ∈ memL y → nameB (at_ ss k) = true) := Lib.hid fun k hk => (((actsB_iff ss).1 hab.1).2 k (by have := A.len; have := memL_in hk (n := n) (by have h := hab.2; rw [List.all_cons, List.all_nil, Bool.and_true, setB_iff, ← A.len] at h; exact h.2); omega)).1
  have hy : (y : Int) < 2 ^ n := by have := hab.2; rw [List.all_cons, List.all_nil, Bool.and_true, setB_iff, ← A.len] at this; exact this.2
  have B1 : Below w.heap.size w (w.alloc (.cells #[.slice a n c] 22)) := (Below.refl _ w).alloc (Nat.le_refl _) _
  have B2 : Below w.heap.size w ((w.alloc (.cells #[.slice a n c] 22)).alloc (.cells #[.int .i64 y] 3)) := B1.alloc (by simp) _
  have HC := Lib.hid (checkSets_any (E.below B2) (A.below B2) (one_int (w.alloc (.cells #[.slice a n c] 22)) y 3))
  rw [setsErr_yes e0 e1 hab.1 hab.2, World.size_alloc] at HC
  clear hz hab
  refine callsIn_of_wp_marks Tryz.func81 rfl trivial ?_ rfl
  simp only [Tryz.ntmps81, List.size_toArray, List.length_cons, List.length_nil, Nat.reduceAdd, Nat.reduceSub, Array.replicate_succ, Array.replicate_zero, List.push_toArray, List.append_toArray, List.nil_append, List.cons_append]
  gi_wp2_with (first | (gi_at_make; refine wpListIn_make_own _ rfl _ _ 22 rfl w.heap.size 9 i0 (.string ⟨#[]⟩) 1 Tryz.underlying22 hi hz0 hz1 .i64 .i64 n n rfl rfl rfl (by rw [hz2]; omega) (by unfold maxLen; omega) (by simp; omega) ?_; intro w3 hrow hg3) | (refine ⟨trivial, ?_⟩; gi_at_call 114; refine (callsIn_wide.2 HC.out).mono ?_; rintro e w' ⟨rfl, rfl⟩) | (refine ⟨trivial, ?_⟩; gi_at_call 115; refine (callsIn_wide.2 (members_any _ _)).mono ?_; rintro e w' ⟨rfl, rfl⟩))
  obtain ⟨W0, hW0⟩ : ∃ W0, (w3.alloc (.cells #[.slice (some ⟨w.heap.size + 1 + 1, 0, none⟩) 0 n] 22)).alloc (.cells #[.int .i64 y] 3) = W0 := ⟨_, rfl⟩
  have B3 : Below w.heap.size w w3 := B2.grown hg3 (by simp; omega) (fun k e => by cases e)
  have hs3 : w.heap.size + 1 + 1 ≤ w3.heap.size := by have := hg3.size; simpa using this
  have bN : Boxed W0 w3.heap.size 22 (.slice (some ⟨w.heap.size + 1 + 1, 0, none⟩) 0 n) := by rw [← hW0]; exact (Boxed.new w3 _ _).alloc _
  have bY : Boxed W0 (w3.heap.size + 1) 3 (.int .i64 y) := by
    rw [← hW0]
    have := Boxed.new (w3.alloc (.cells #[.slice (some ⟨w.heap.size + 1 + 1, 0, none⟩) 0 n] 22)) 3 (.int .i64 y)
    rwa [World.size_alloc] at this
  have bA : Boxed W0 w.heap.size 22 (.slice a n c) := by
    have h0 : Boxed w3 w.heap.size 22 (.slice a n c) := ((Boxed.new w 22 (.slice a n c)).alloc _).kept hg3 (by simp)
    rw [← hW0]; exact (h0.alloc _).alloc _
  have hrow0 : W0.ownsRow w.heap.size 9 1 (.slice (some ⟨w.heap.size + 1 + 1, 0, none⟩) 0 n) 0 [] := by
    rw [← hW0]; have := (hrow.alloc (.cells #[.slice (some ⟨w.heap.size + 1 + 1, 0, none⟩) 0 n] 22)).alloc (.cells #[.int .i64 y] 3); simpa using this
  have B4 : Below w.heap.size w W0 := by rw [← hW0]; exact (B3.alloc (by omega) _).alloc (by simp; omega) _
  have hs4 : W0.heap.size = w3.heap.size + 1 + 1 := by rw [← hW0]; simp
  rw [hW0]
  clear hrow hg3 hW0
  refine range_law (gf := 150) (lb := #[.pointer (some ⟨w3.heap.size + 1, 0, none⟩)]) rfl (enters_of Tryz.func150 (by kernel_rfl) rfl) (fun _ => rfl)
    (fun pre W => (∃ v, Boxed W w3.heap.size 22 v ∧ W.ownsRow w.heap.size 9 1 v pre.length (pre.map (fun k => Value.string (at_ ss k)))) ∧ Boxed W w.heap.size 22 (.slice a n c) ∧ Boxed W (w3.heap.size + 1) 3 (.int .i64 y) ∧ Below w.heap.size w W)
    (fun _ _ _ => False)
    (OwnFrom.and (Own.from (fun s X Y row hs hg hr => by
      obtain ⟨v, hv, hrow, _⟩ := holdsRow_own w.heap.size w3.heap.size 22 9 1 (fun pre : List Nat => pre.length) (fun pre => pre.map (fun k => Value.string (at_ ss k))) (fun _ _ => True) s X Y row (by obtain ⟨v, a, b⟩ := hs; exact ⟨v, a, b, trivial⟩) hg hr
      exact ⟨v, hv, hrow⟩) _) (OwnFrom.and (Own.from (boxed_own _ _ (fun _ => .slice a n c)) _) (OwnFrom.and (Own.from (boxed_own _ _ (fun _ => .int .i64 y)) _) (ownFrom_below (Nat.le_refl _) (by omega)))))
    (fun _ _ _ _ _ hs _ _ => hs)
    ⟨⟨_, bN, hrow0⟩, bA, bY, B4⟩
    (fun x => { tmps := #[.slice a n c, .int .i64 y, .pointer (some ⟨w.heap.size, 0, none⟩), undef, .string ⟨#[]⟩, .int .i64 0, .nilIface, .pointer (some ⟨w3.heap.size, 0, none⟩), .int .i64 x, .slice a n c, .int .i64 y, .slice (some ⟨w.heap.size + 1, 0, none⟩) 1 1, .nilIface, .nilIface, .bool false, undef, undef, .slice a n c, .int .i64 n, .slice (some ⟨w.heap.size + 1 + 1, 0, none⟩) 0 n, .int .i64 y, .func (.func 150) #[] #[.pointer (some ⟨w3.heap.size + 1, 0, none⟩)], .int .i64 x, undef, undef, undef, undef, undef, undef, undef, undef, undef, undef, undef], defers := [] })
    (members_iter _ _ y (by omega) _ _ (fun pre V h => T.below h.2.2.2) (fun pre V h => h.2.2.1.cell)) ?assign ?body ?done ?stop
  case assign =>
    intro l x W K hK
    gi_wp2
    exact hK
  case body =>
    rintro l pre k W ⟨⟨v, hv, hrow⟩, hA, hY, hB⟩ ho
    have hl : pre.length < 8 := prefix_len ho
    have hkn : k < n := memL_below ho hy
    obtain ⟨b, off, rfl, hcell⟩ := (A.cells.below hB) k (by have := A.len; omega)
    change W.cell? _ = some (.string (at_ ss k)) at hcell
    obtain ⟨y', HY'⟩ : ∃ y', Hid (at_ ss k = y') := ⟨_, Lib.hid rfl⟩
    rw [HY'.out] at hcell
    have hc0 := hv.cell
    have hca := hA.cell
    have hmix : Tryz.prog.follows .mixedOrders = true := by kernel_rfl
    have hc0A : (W.alloc (.cells #[.string y'] 9)).cell? ⟨w3.heap.size, 0, none⟩ = some v := (hv.alloc _).cell
    have HRA := Lib.hid (hrow.drew.alloc (.cells #[.string y'] 9))
    have hsz : w.heap.size ≤ (W.drew.alloc (.cells #[.string y'] 9)).heap.size := by
      have h1 : w.heap.size ≤ W.heap.size := hB.size
      have h2 : (W.drew.alloc (.cells #[.string y'] 9)).heap.size = W.heap.size + 1 := by simp
      omega
    have hvD : Boxed W.drew w3.heap.size 22 v := hv
    have HV1 : Hid (∀ w1 : World, (W.drew.alloc (.cells #[.string y'] 9)).grownBy w1 v.ownBlock → Boxed w1 w3.heap.size 22 v) := Lib.hid fun w1 hg => (hvD.alloc _).kept hg (hvD.not_row (by decide) hrow.drew)
    have HF : Hid (∀ (g' cap' : Nat) (w1 : World), w1.ownsRow w.heap.size 9 1 (.slice (some ⟨g', 0, none⟩) (pre.length + 1) cap') (pre.length + 1) (pre.map (fun k => Value.string (at_ ss k)) ++ [.string y']) → (W.drew.alloc (.cells #[.string y'] 9)).grownBy w1 v.ownBlock →
        Stays W0.heap.size W (w1.setCell ⟨w3.heap.size, 0, none⟩ (.slice (some ⟨g', 0, none⟩) (pre.length + 1) cap')) ∧
        (∃ v, Boxed (w1.setCell ⟨w3.heap.size, 0, none⟩ (.slice (some ⟨g', 0, none⟩) (pre.length + 1) cap')) w3.heap.size 22 v ∧ (w1.setCell ⟨w3.heap.size, 0, none⟩ (.slice (some ⟨g', 0, none⟩) (pre.length + 1) cap')).ownsRow w.heap.size 9 1 v (pre ++ [k]).length ((pre ++ [k]).map (fun k => Value.string (at_ ss k)))) ∧
        Boxed (w1.setCell ⟨w3.heap.size, 0, none⟩ (.slice (some ⟨g', 0, none⟩) (pre.length + 1) cap')) w.heap.size 22 (.slice (some ⟨b, off, none⟩) n c) ∧ Boxed (w1.setCell ⟨w3.heap.size, 0, none⟩ (.slice (some ⟨g', 0, none⟩) (pre.length + 1) cap')) (w3.heap.size + 1) 3 (.int .i64 y) ∧
        Below w.heap.size w (w1.setCell ⟨w3.heap.size, 0, none⟩ (.slice (some ⟨g', 0, none⟩) (pre.length + 1) cap'))) := Lib.hid fun g' cap' w1 hown' hgrow => by
      obtain ⟨hv1, hv2, hr2, hk2, hb2⟩ := hvD.appended (by decide) hrow.drew (show w.heap.size ≤ W.drew.heap.size from hB.size) (show w.heap.size ≤ w3.heap.size by omega) hown' hgrow
      have hAD : Boxed W.drew w.heap.size 22 (.slice (some ⟨b, off, none⟩) n c) := hA
      have hYD : Boxed W.drew (w3.heap.size + 1) 3 (.int .i64 y) := hY
      refine ⟨(Stays.drew _ W).trans (.others hk2), ⟨_, hv2, ?_⟩, (((hAD.alloc _).kept hgrow (hAD.not_row (by decide) hrow.drew)).other (by omega) _), (((hYD.alloc _).kept hgrow (hYD.not_row (by decide) hrow.drew)).other (by omega) _), (hB.drew).trans hb2⟩
      rw [List.length_append, List.map_append, List.map_singleton, HY'.out]
      exact hr2
    gi_wp2_with fail
    refine wpIn_region_any (by assumption) ?_
    try (change wpAnyIn _ _ _ _ _ _ _ _ _ (World.drew _))
    refine wpAnyIn_ready (rs := [0, 1, 2]) (by kernel_rfl) (by simp) ?_
    refine AllReadyIn.cons rfl (fun K hK => ?_) ?_
    · go_simp
      refine hK _ _ ?_
      clear hK K
      refine wpAnyIn_ready (rs := [1, 2]) (by kernel_rfl) (by simp) ?_
      refine AllReadyIn.cons rfl (fun K hK => ?_) ?_
      · go_simp
        refine hK _ _ ?_
        clear hK K
        refine wpAnyIn_ready (rs := [2]) (by kernel_rfl) (by simp) ?_
        refine AllReadyIn.cons rfl (fun K hK => ?_) ?_
        · go_simp
          refine hK _ _ ?_
          clear hK K
          refine wpAnyIn_ready (rs := [3]) (by kernel_rfl) (by simp) ?_
          refine AllReadyIn.cons rfl (fun K hK => ?_) ?_
          · go_simp
            refine hK _ _ ?_
            clear hK K
            refine wpAnyIn_ready (rs := [4]) (by kernel_rfl) (by simp) ?_
            refine AllReadyIn.cons rfl (fun K hK => ?_) ?_
            · go_simp
              refine hK _ _ ?_
              clear hK K
              refine wpAnyIn_ready (rs := [5]) (by kernel_rfl) (by simp) ?_
              refine AllReadyIn.cons rfl (fun K hK => ?_) ?_
              · go_simp
                refine hK _ _ ?_
                clear hK K
                refine wpAnyIn_ready (rs := [6]) (by kernel_rfl) (by simp) ?_
                refine AllReadyIn.cons rfl (fun K hK => ?_) ?_
                · refine stepIn_append_own rfl (.tmp 23) (.tmp 28) 22 rfl w.heap.size 9 i0 (.string ⟨#[]⟩) 1 16 Tryz.underlying22 hi hz0 hz1 hz2 rfl (by decide) v pre.length _ (by simp [Act.eval]) HRA.out ⟨W.heap.size, 0, none⟩ 1 1 [.string y'] (by simp [Act.eval]) rfl (cell_one_new W.drew _ _) (by simp [Value.oneCell']) (by unfold maxLen; omega) (by omega) hsz ?_
                  intro v' w1 hown' hgrow
                  obtain ⟨g', cap', rfl⟩ := ownsRow_succ hown'
                  have hv1 := HV1.out _ hgrow
                  have hc1 := hv1.cell
                  have hf1 := hv1.frozen
                  try go_simp
                  refine hK _ _ ?_
                  clear hK K
                  refine wpAnyIn_ready (rs := [7]) (by kernel_rfl) (by simp) ?_
                  refine AllReadyIn.cons rfl (fun K hK => ?_) ?_
                  · go_simp
                    refine hK _ _ ?_
                    clear hK K
                    refine wpAnyIn_done (by kernel_rfl) ?_ _
                    exact HF.out _ _ _ hown' hgrow
                  exact AllReadyIn.nil
                exact AllReadyIn.nil
              exact AllReadyIn.nil
            exact AllReadyIn.nil
          exact AllReadyIn.nil
        exact AllReadyIn.nil
      refine AllReadyIn.cons rfl (fun K hK => ?_) ?_
      · go_simp
        refine hK _ _ ?_
        clear hK K
        refine wpAnyIn_ready (rs := [1]) (by kernel_rfl) (by simp) ?_
        refine AllReadyIn.cons rfl (fun K hK => ?_) ?_
        · go_simp
          refine hK _ _ ?_
          clear hK K
          refine wpAnyIn_ready (rs := [3]) (by kernel_rfl) (by simp) ?_
          refine AllReadyIn.cons rfl (fun K hK => ?_) ?_
          · go_simp
            refine hK _ _ ?_
            clear hK K
            refine wpAnyIn_ready (rs := [4]) (by kernel_rfl) (by simp) ?_
            refine AllReadyIn.cons rfl (fun K hK => ?_) ?_
            · go_simp
              refine hK _ _ ?_
              clear hK K
              refine wpAnyIn_ready (rs := [5]) (by kernel_rfl) (by simp) ?_
              refine AllReadyIn.cons rfl (fun K hK => ?_) ?_
              · go_simp
                refine hK _ _ ?_
                clear hK K
                refine wpAnyIn_ready (rs := [6]) (by kernel_rfl) (by simp) ?_
                refine AllReadyIn.cons rfl (fun K hK => ?_) ?_
                · refine stepIn_append_own rfl (.tmp 23) (.tmp 28) 22 rfl w.heap.size 9 i0 (.string ⟨#[]⟩) 1 16 Tryz.underlying22 hi hz0 hz1 hz2 rfl (by decide) v pre.length _ (by simp [Act.eval]) HRA.out ⟨W.heap.size, 0, none⟩ 1 1 [.string y'] (by simp [Act.eval]) rfl (cell_one_new W.drew _ _) (by simp [Value.oneCell']) (by unfold maxLen; omega) (by omega) hsz ?_
                  intro v' w1 hown' hgrow
                  obtain ⟨g', cap', rfl⟩ := ownsRow_succ hown'
                  have hv1 := HV1.out _ hgrow
                  have hc1 := hv1.cell
                  have hf1 := hv1.frozen
                  try go_simp
                  refine hK _ _ ?_
                  clear hK K
                  refine wpAnyIn_ready (rs := [7]) (by kernel_rfl) (by simp) ?_
                  refine AllReadyIn.cons rfl (fun K hK => ?_) ?_
                  · go_simp
                    refine hK _ _ ?_
                    clear hK K
                    refine wpAnyIn_done (by kernel_rfl) ?_ _
                    exact HF.out _ _ _ hown' hgrow
                  exact AllReadyIn.nil
                exact AllReadyIn.nil
              exact AllReadyIn.nil
            exact AllReadyIn.nil
          exact AllReadyIn.nil
        exact AllReadyIn.nil
      exact AllReadyIn.nil
    refine AllReadyIn.cons rfl (fun K hK => ?_) ?_
    · go_simp
      refine hK _ _ ?_
      clear hK K
      refine wpAnyIn_ready (rs := [0, 2]) (by kernel_rfl) (by simp) ?_
      refine AllReadyIn.cons rfl (fun K hK => ?_) ?_
      · go_simp
        refine hK _ _ ?_
        clear hK K
        refine wpAnyIn_ready (rs := [2]) (by kernel_rfl) (by simp) ?_
        refine AllReadyIn.cons rfl (fun K hK => ?_) ?_
        · go_simp
          refine hK _ _ ?_
          clear hK K
          refine wpAnyIn_ready (rs := [3]) (by kernel_rfl) (by simp) ?_
          refine AllReadyIn.cons rfl (fun K hK => ?_) ?_
          · go_simp
            refine hK _ _ ?_
            clear hK K
            refine wpAnyIn_ready (rs := [4]) (by kernel_rfl) (by simp) ?_
            refine AllReadyIn.cons rfl (fun K hK => ?_) ?_
            · go_simp
              refine hK _ _ ?_
              clear hK K
              refine wpAnyIn_ready (rs := [5]) (by kernel_rfl) (by simp) ?_
              refine AllReadyIn.cons rfl (fun K hK => ?_) ?_
              · go_simp
                refine hK _ _ ?_
                clear hK K
                refine wpAnyIn_ready (rs := [6]) (by kernel_rfl) (by simp) ?_
                refine AllReadyIn.cons rfl (fun K hK => ?_) ?_
                · refine stepIn_append_own rfl (.tmp 23) (.tmp 28) 22 rfl w.heap.size 9 i0 (.string ⟨#[]⟩) 1 16 Tryz.underlying22 hi hz0 hz1 hz2 rfl (by decide) v pre.length _ (by simp [Act.eval]) HRA.out ⟨W.heap.size, 0, none⟩ 1 1 [.string y'] (by simp [Act.eval]) rfl (cell_one_new W.drew _ _) (by simp [Value.oneCell']) (by unfold maxLen; omega) (by omega) hsz ?_
                  intro v' w1 hown' hgrow
                  obtain ⟨g', cap', rfl⟩ := ownsRow_succ hown'
                  have hv1 := HV1.out _ hgrow
                  have hc1 := hv1.cell
                  have hf1 := hv1.frozen
                  try go_simp
                  refine hK _ _ ?_
                  clear hK K
                  refine wpAnyIn_ready (rs := [7]) (by kernel_rfl) (by simp) ?_
                  refine AllReadyIn.cons rfl (fun K hK => ?_) ?_
                  · go_simp
                    refine hK _ _ ?_
                    clear hK K
                    refine wpAnyIn_done (by kernel_rfl) ?_ _
                    exact HF.out _ _ _ hown' hgrow
                  exact AllReadyIn.nil
                exact AllReadyIn.nil
              exact AllReadyIn.nil
            exact AllReadyIn.nil
          exact AllReadyIn.nil
        exact AllReadyIn.nil
      refine AllReadyIn.cons rfl (fun K hK => ?_) ?_
      · go_simp
        refine hK _ _ ?_
        clear hK K
        refine wpAnyIn_ready (rs := [0, 3]) (by kernel_rfl) (by simp) ?_
        refine AllReadyIn.cons rfl (fun K hK => ?_) ?_
        · go_simp
          refine hK _ _ ?_
          clear hK K
          refine wpAnyIn_ready (rs := [3]) (by kernel_rfl) (by simp) ?_
          refine AllReadyIn.cons rfl (fun K hK => ?_) ?_
          · go_simp
            refine hK _ _ ?_
            clear hK K
            refine wpAnyIn_ready (rs := [4]) (by kernel_rfl) (by simp) ?_
            refine AllReadyIn.cons rfl (fun K hK => ?_) ?_
            · go_simp
              refine hK _ _ ?_
              clear hK K
              refine wpAnyIn_ready (rs := [5]) (by kernel_rfl) (by simp) ?_
              refine AllReadyIn.cons rfl (fun K hK => ?_) ?_
              · go_simp
                refine hK _ _ ?_
                clear hK K
                refine wpAnyIn_ready (rs := [6]) (by kernel_rfl) (by simp) ?_
                refine AllReadyIn.cons rfl (fun K hK => ?_) ?_
                · refine stepIn_append_own rfl (.tmp 23) (.tmp 28) 22 rfl w.heap.size 9 i0 (.string ⟨#[]⟩) 1 16 Tryz.underlying22 hi hz0 hz1 hz2 rfl (by decide) v pre.length _ (by simp [Act.eval]) HRA.out ⟨W.heap.size, 0, none⟩ 1 1 [.string y'] (by simp [Act.eval]) rfl (cell_one_new W.drew _ _) (by simp [Value.oneCell']) (by unfold maxLen; omega) (by omega) hsz ?_
                  intro v' w1 hown' hgrow
                  obtain ⟨g', cap', rfl⟩ := ownsRow_succ hown'
                  have hv1 := HV1.out _ hgrow
                  have hc1 := hv1.cell
                  have hf1 := hv1.frozen
                  try go_simp
                  refine hK _ _ ?_
                  clear hK K
                  refine wpAnyIn_ready (rs := [7]) (by kernel_rfl) (by simp) ?_
                  refine AllReadyIn.cons rfl (fun K hK => ?_) ?_
                  · go_simp
                    refine hK _ _ ?_
                    clear hK K
                    refine wpAnyIn_done (by kernel_rfl) ?_ _
                    exact HF.out _ _ _ hown' hgrow
                  exact AllReadyIn.nil
                exact AllReadyIn.nil
              exact AllReadyIn.nil
            exact AllReadyIn.nil
          exact AllReadyIn.nil
        refine AllReadyIn.cons rfl (fun K hK => ?_) ?_
        · go_simp
          refine hK _ _ ?_
          clear hK K
          refine wpAnyIn_ready (rs := [0, 4]) (by kernel_rfl) (by simp) ?_
          refine AllReadyIn.cons rfl (fun K hK => ?_) ?_
          · go_simp
            refine hK _ _ ?_
            clear hK K
            refine wpAnyIn_ready (rs := [4]) (by kernel_rfl) (by simp) ?_
            refine AllReadyIn.cons rfl (fun K hK => ?_) ?_
            · go_simp
              refine hK _ _ ?_
              clear hK K
              refine wpAnyIn_ready (rs := [5]) (by kernel_rfl) (by simp) ?_
              refine AllReadyIn.cons rfl (fun K hK => ?_) ?_
              · go_simp
                refine hK _ _ ?_
                clear hK K
                refine wpAnyIn_ready (rs := [6]) (by kernel_rfl) (by simp) ?_
                refine AllReadyIn.cons rfl (fun K hK => ?_) ?_
                · refine stepIn_append_own rfl (.tmp 23) (.tmp 28) 22 rfl w.heap.size 9 i0 (.string ⟨#[]⟩) 1 16 Tryz.underlying22 hi hz0 hz1 hz2 rfl (by decide) v pre.length _ (by simp [Act.eval]) HRA.out ⟨W.heap.size, 0, none⟩ 1 1 [.string y'] (by simp [Act.eval]) rfl (cell_one_new W.drew _ _) (by simp [Value.oneCell']) (by unfold maxLen; omega) (by omega) hsz ?_
                  intro v' w1 hown' hgrow
                  obtain ⟨g', cap', rfl⟩ := ownsRow_succ hown'
                  have hv1 := HV1.out _ hgrow
                  have hc1 := hv1.cell
                  have hf1 := hv1.frozen
                  try go_simp
                  refine hK _ _ ?_
                  clear hK K
                  refine wpAnyIn_ready (rs := [7]) (by kernel_rfl) (by simp) ?_
                  refine AllReadyIn.cons rfl (fun K hK => ?_) ?_
                  · go_simp
                    refine hK _ _ ?_
                    clear hK K
                    refine wpAnyIn_done (by kernel_rfl) ?_ _
                    exact HF.out _ _ _ hown' hgrow
                  exact AllReadyIn.nil
                exact AllReadyIn.nil
              exact AllReadyIn.nil
            exact AllReadyIn.nil
          refine AllReadyIn.cons rfl (fun K hK => ?_) ?_
          · go_simp
            refine hK _ _ ?_
            clear hK K
            refine wpAnyIn_ready (rs := [0, 5]) (by kernel_rfl) (by simp) ?_
            refine AllReadyIn.cons rfl (fun K hK => ?_) ?_
            · go_simp
              refine hK _ _ ?_
              clear hK K
              refine wpAnyIn_ready (rs := [5]) (by kernel_rfl) (by simp) ?_
              refine AllReadyIn.cons rfl (fun K hK => ?_) ?_
              · go_simp
                refine hK _ _ ?_
                clear hK K
                refine wpAnyIn_ready (rs := [6]) (by kernel_rfl) (by simp) ?_
                refine AllReadyIn.cons rfl (fun K hK => ?_) ?_
                · refine stepIn_append_own rfl (.tmp 23) (.tmp 28) 22 rfl w.heap.size 9 i0 (.string ⟨#[]⟩) 1 16 Tryz.underlying22 hi hz0 hz1 hz2 rfl (by decide) v pre.length _ (by simp [Act.eval]) HRA.out ⟨W.heap.size, 0, none⟩ 1 1 [.string y'] (by simp [Act.eval]) rfl (cell_one_new W.drew _ _) (by simp [Value.oneCell']) (by unfold maxLen; omega) (by omega) hsz ?_
                  intro v' w1 hown' hgrow
                  obtain ⟨g', cap', rfl⟩ := ownsRow_succ hown'
                  have hv1 := HV1.out _ hgrow
                  have hc1 := hv1.cell
                  have hf1 := hv1.frozen
                  try go_simp
                  refine hK _ _ ?_
                  clear hK K
                  refine wpAnyIn_ready (rs := [7]) (by kernel_rfl) (by simp) ?_
                  refine AllReadyIn.cons rfl (fun K hK => ?_) ?_
                  · go_simp
                    refine hK _ _ ?_
                    clear hK K
                    refine wpAnyIn_done (by kernel_rfl) ?_ _
                    exact HF.out _ _ _ hown' hgrow
                  exact AllReadyIn.nil
                exact AllReadyIn.nil
              exact AllReadyIn.nil
            refine AllReadyIn.cons rfl (fun K hK => ?_) ?_
            · go_simp
              refine hK _ _ ?_
              clear hK K
              refine wpAnyIn_ready (rs := [0]) (by kernel_rfl) (by simp) ?_
              refine AllReadyIn.cons rfl (fun K hK => ?_) ?_
              · go_simp
                refine hK _ _ ?_
                clear hK K
                refine wpAnyIn_ready (rs := [6]) (by kernel_rfl) (by simp) ?_
                refine AllReadyIn.cons rfl (fun K hK => ?_) ?_
                · refine stepIn_append_own rfl (.tmp 23) (.tmp 28) 22 rfl w.heap.size 9 i0 (.string ⟨#[]⟩) 1 16 Tryz.underlying22 hi hz0 hz1 hz2 rfl (by decide) v pre.length _ (by simp [Act.eval]) HRA.out ⟨W.heap.size, 0, none⟩ 1 1 [.string y'] (by simp [Act.eval]) rfl (cell_one_new W.drew _ _) (by simp [Value.oneCell']) (by unfold maxLen; omega) (by omega) hsz ?_
                  intro v' w1 hown' hgrow
                  obtain ⟨g', cap', rfl⟩ := ownsRow_succ hown'
                  have hv1 := HV1.out _ hgrow
                  have hc1 := hv1.cell
                  have hf1 := hv1.frozen
                  try go_simp
                  refine hK _ _ ?_
                  clear hK K
                  refine wpAnyIn_ready (rs := [7]) (by kernel_rfl) (by simp) ?_
                  refine AllReadyIn.cons rfl (fun K hK => ?_) ?_
                  · go_simp
                    refine hK _ _ ?_
                    clear hK K
                    refine wpAnyIn_done (by kernel_rfl) ?_ _
                    exact HF.out _ _ _ hown' hgrow
                  exact AllReadyIn.nil
                exact AllReadyIn.nil
              exact AllReadyIn.nil
            exact AllReadyIn.nil
          exact AllReadyIn.nil
        exact AllReadyIn.nil
      exact AllReadyIn.nil
    refine AllReadyIn.cons rfl (fun K hK => ?_) ?_
    · go_simp
      refine hK _ _ ?_
      clear hK K
      refine wpAnyIn_ready (rs := [0, 1]) (by kernel_rfl) (by simp) ?_
      refine AllReadyIn.cons rfl (fun K hK => ?_) ?_
      · go_simp
        refine hK _ _ ?_
        clear hK K
        refine wpAnyIn_ready (rs := [1]) (by kernel_rfl) (by simp) ?_
        refine AllReadyIn.cons rfl (fun K hK => ?_) ?_
        · go_simp
          refine hK _ _ ?_
          clear hK K
          refine wpAnyIn_ready (rs := [3]) (by kernel_rfl) (by simp) ?_
          refine AllReadyIn.cons rfl (fun K hK => ?_) ?_
          · go_simp
            refine hK _ _ ?_
            clear hK K
            refine wpAnyIn_ready (rs := [4]) (by kernel_rfl) (by simp) ?_
            refine AllReadyIn.cons rfl (fun K hK => ?_) ?_
            · go_simp
              refine hK _ _ ?_
              clear hK K
              refine wpAnyIn_ready (rs := [5]) (by kernel_rfl) (by simp) ?_
              refine AllReadyIn.cons rfl (fun K hK => ?_) ?_
              · go_simp
                refine hK _ _ ?_
                clear hK K
                refine wpAnyIn_ready (rs := [6]) (by kernel_rfl) (by simp) ?_
                refine AllReadyIn.cons rfl (fun K hK => ?_) ?_
                · refine stepIn_append_own rfl (.tmp 23) (.tmp 28) 22 rfl w.heap.size 9 i0 (.string ⟨#[]⟩) 1 16 Tryz.underlying22 hi hz0 hz1 hz2 rfl (by decide) v pre.length _ (by simp [Act.eval]) HRA.out ⟨W.heap.size, 0, none⟩ 1 1 [.string y'] (by simp [Act.eval]) rfl (cell_one_new W.drew _ _) (by simp [Value.oneCell']) (by unfold maxLen; omega) (by omega) hsz ?_
                  intro v' w1 hown' hgrow
                  obtain ⟨g', cap', rfl⟩ := ownsRow_succ hown'
                  have hv1 := HV1.out _ hgrow
                  have hc1 := hv1.cell
                  have hf1 := hv1.frozen
                  try go_simp
                  refine hK _ _ ?_
                  clear hK K
                  refine wpAnyIn_ready (rs := [7]) (by kernel_rfl) (by simp) ?_
                  refine AllReadyIn.cons rfl (fun K hK => ?_) ?_
                  · go_simp
                    refine hK _ _ ?_
                    clear hK K
                    refine wpAnyIn_done (by kernel_rfl) ?_ _
                    exact HF.out _ _ _ hown' hgrow
                  exact AllReadyIn.nil
                exact AllReadyIn.nil
              exact AllReadyIn.nil
            exact AllReadyIn.nil
          exact AllReadyIn.nil
        exact AllReadyIn.nil
      refine AllReadyIn.cons rfl (fun K hK => ?_) ?_
      · go_simp
        refine hK _ _ ?_
        clear hK K
        refine wpAnyIn_ready (rs := [0, 3]) (by kernel_rfl) (by simp) ?_
        refine AllReadyIn.cons rfl (fun K hK => ?_) ?_
        · go_simp
          refine hK _ _ ?_
          clear hK K
          refine wpAnyIn_ready (rs := [3]) (by kernel_rfl) (by simp) ?_
          refine AllReadyIn.cons rfl (fun K hK => ?_) ?_
          · go_simp
            refine hK _ _ ?_
            clear hK K
            refine wpAnyIn_ready (rs := [4]) (by kernel_rfl) (by simp) ?_
            refine AllReadyIn.cons rfl (fun K hK => ?_) ?_
            · go_simp
              refine hK _ _ ?_
              clear hK K
              refine wpAnyIn_ready (rs := [5]) (by kernel_rfl) (by simp) ?_
              refine AllReadyIn.cons rfl (fun K hK => ?_) ?_
              · go_simp
                refine hK _ _ ?_
                clear hK K
                refine wpAnyIn_ready (rs := [6]) (by kernel_rfl) (by simp) ?_
                refine AllReadyIn.cons rfl (fun K hK => ?_) ?_
                · refine stepIn_append_own rfl (.tmp 23) (.tmp 28) 22 rfl w.heap.size 9 i0 (.string ⟨#[]⟩) 1 16 Tryz.underlying22 hi hz0 hz1 hz2 rfl (by decide) v pre.length _ (by simp [Act.eval]) HRA.out ⟨W.heap.size, 0, none⟩ 1 1 [.string y'] (by simp [Act.eval]) rfl (cell_one_new W.drew _ _) (by simp [Value.oneCell']) (by unfold maxLen; omega) (by omega) hsz ?_
                  intro v' w1 hown' hgrow
                  obtain ⟨g', cap', rfl⟩ := ownsRow_succ hown'
                  have hv1 := HV1.out _ hgrow
                  have hc1 := hv1.cell
                  have hf1 := hv1.frozen
                  try go_simp
                  refine hK _ _ ?_
                  clear hK K
                  refine wpAnyIn_ready (rs := [7]) (by kernel_rfl) (by simp) ?_
                  refine AllReadyIn.cons rfl (fun K hK => ?_) ?_
                  · go_simp
                    refine hK _ _ ?_
                    clear hK K
                    refine wpAnyIn_done (by kernel_rfl) ?_ _
                    exact HF.out _ _ _ hown' hgrow
                  exact AllReadyIn.nil
                exact AllReadyIn.nil
              exact AllReadyIn.nil
            exact AllReadyIn.nil
          exact AllReadyIn.nil
        refine AllReadyIn.cons rfl (fun K hK => ?_) ?_
        · go_simp
          refine hK _ _ ?_
          clear hK K
          refine wpAnyIn_ready (rs := [0, 4]) (by kernel_rfl) (by simp) ?_
          refine AllReadyIn.cons rfl (fun K hK => ?_) ?_
          · go_simp
            refine hK _ _ ?_
            clear hK K
            refine wpAnyIn_ready (rs := [4]) (by kernel_rfl) (by simp) ?_
            refine AllReadyIn.cons rfl (fun K hK => ?_) ?_
            · go_simp
              refine hK _ _ ?_
              clear hK K
              refine wpAnyIn_ready (rs := [5]) (by kernel_rfl) (by simp) ?_
              refine AllReadyIn.cons rfl (fun K hK => ?_) ?_
              · go_simp
                refine hK _ _ ?_
                clear hK K
                refine wpAnyIn_ready (rs := [6]) (by kernel_rfl) (by simp) ?_
                refine AllReadyIn.cons rfl (fun K hK => ?_) ?_
                · refine stepIn_append_own rfl (.tmp 23) (.tmp 28) 22 rfl w.heap.size 9 i0 (.string ⟨#[]⟩) 1 16 Tryz.underlying22 hi hz0 hz1 hz2 rfl (by decide) v pre.length _ (by simp [Act.eval]) HRA.out ⟨W.heap.size, 0, none⟩ 1 1 [.string y'] (by simp [Act.eval]) rfl (cell_one_new W.drew _ _) (by simp [Value.oneCell']) (by unfold maxLen; omega) (by omega) hsz ?_
                  intro v' w1 hown' hgrow
                  obtain ⟨g', cap', rfl⟩ := ownsRow_succ hown'
                  have hv1 := HV1.out _ hgrow
                  have hc1 := hv1.cell
                  have hf1 := hv1.frozen
                  try go_simp
                  refine hK _ _ ?_
                  clear hK K
                  refine wpAnyIn_ready (rs := [7]) (by kernel_rfl) (by simp) ?_
                  refine AllReadyIn.cons rfl (fun K hK => ?_) ?_
                  · go_simp
                    refine hK _ _ ?_
                    clear hK K
                    refine wpAnyIn_done (by kernel_rfl) ?_ _
                    exact HF.out _ _ _ hown' hgrow
                  exact AllReadyIn.nil
                exact AllReadyIn.nil
              exact AllReadyIn.nil
            exact AllReadyIn.nil
          refine AllReadyIn.cons rfl (fun K hK => ?_) ?_
          · go_simp
            refine hK _ _ ?_
            clear hK K
            refine wpAnyIn_ready (rs := [0, 5]) (by kernel_rfl) (by simp) ?_
            refine AllReadyIn.cons rfl (fun K hK => ?_) ?_
            · go_simp
              refine hK _ _ ?_
              clear hK K
              refine wpAnyIn_ready (rs := [5]) (by kernel_rfl) (by simp) ?_
              refine AllReadyIn.cons rfl (fun K hK => ?_) ?_
              · go_simp
                refine hK _ _ ?_
                clear hK K
                refine wpAnyIn_ready (rs := [6]) (by kernel_rfl) (by simp) ?_
                refine AllReadyIn.cons rfl (fun K hK => ?_) ?_
                · refine stepIn_append_own rfl (.tmp 23) (.tmp 28) 22 rfl w.heap.size 9 i0 (.string ⟨#[]⟩) 1 16 Tryz.underlying22 hi hz0 hz1 hz2 rfl (by decide) v pre.length _ (by simp [Act.eval]) HRA.out ⟨W.heap.size, 0, none⟩ 1 1 [.string y'] (by simp [Act.eval]) rfl (cell_one_new W.drew _ _) (by simp [Value.oneCell']) (by unfold maxLen; omega) (by omega) hsz ?_
                  intro v' w1 hown' hgrow
                  obtain ⟨g', cap', rfl⟩ := ownsRow_succ hown'
                  have hv1 := HV1.out _ hgrow
                  have hc1 := hv1.cell
                  have hf1 := hv1.frozen
                  try go_simp
                  refine hK _ _ ?_
                  clear hK K
                  refine wpAnyIn_ready (rs := [7]) (by kernel_rfl) (by simp) ?_
                  refine AllReadyIn.cons rfl (fun K hK => ?_) ?_
                  · go_simp
                    refine hK _ _ ?_
                    clear hK K
                    refine wpAnyIn_done (by kernel_rfl) ?_ _
                    exact HF.out _ _ _ hown' hgrow
                  exact AllReadyIn.nil
                exact AllReadyIn.nil
              exact AllReadyIn.nil
            refine AllReadyIn.cons rfl (fun K hK => ?_) ?_
            · go_simp
              refine hK _ _ ?_
              clear hK K
              refine wpAnyIn_ready (rs := [0]) (by kernel_rfl) (by simp) ?_
              refine AllReadyIn.cons rfl (fun K hK => ?_) ?_
              · go_simp
                refine hK _ _ ?_
                clear hK K
                refine wpAnyIn_ready (rs := [6]) (by kernel_rfl) (by simp) ?_
                refine AllReadyIn.cons rfl (fun K hK => ?_) ?_
                · refine stepIn_append_own rfl (.tmp 23) (.tmp 28) 22 rfl w.heap.size 9 i0 (.string ⟨#[]⟩) 1 16 Tryz.underlying22 hi hz0 hz1 hz2 rfl (by decide) v pre.length _ (by simp [Act.eval]) HRA.out ⟨W.heap.size, 0, none⟩ 1 1 [.string y'] (by simp [Act.eval]) rfl (cell_one_new W.drew _ _) (by simp [Value.oneCell']) (by unfold maxLen; omega) (by omega) hsz ?_
                  intro v' w1 hown' hgrow
                  obtain ⟨g', cap', rfl⟩ := ownsRow_succ hown'
                  have hv1 := HV1.out _ hgrow
                  have hc1 := hv1.cell
                  have hf1 := hv1.frozen
                  try go_simp
                  refine hK _ _ ?_
                  clear hK K
                  refine wpAnyIn_ready (rs := [7]) (by kernel_rfl) (by simp) ?_
                  refine AllReadyIn.cons rfl (fun K hK => ?_) ?_
                  · go_simp
                    refine hK _ _ ?_
                    clear hK K
                    refine wpAnyIn_done (by kernel_rfl) ?_ _
                    exact HF.out _ _ _ hown' hgrow
                  exact AllReadyIn.nil
                exact AllReadyIn.nil
              exact AllReadyIn.nil
            exact AllReadyIn.nil
          exact AllReadyIn.nil
        exact AllReadyIn.nil
      exact AllReadyIn.nil
    exact AllReadyIn.nil
  case done =>
    rintro D ys W hD rfl ⟨⟨v, hv, hrow⟩, hA, hY, hB⟩ hK
    have hc := hv.cell
    have hDW : D < W.heap.size := (Array.getElem?_eq_some_iff.1 hK).1
    have hD0 : w.heap.size ≤ D := by have := B4.size; omega
    obtain ⟨J, HE⟩ : ∃ J : ByteArray, Hid (J = ⟨(Lib.join ((memL y).map fun k => (at_ ss k).data.toList) [44]).toArray⟩) := ⟨_, Lib.hid rfl⟩
    have hb : (Lib.join ((memL y).map fun k => (at_ ss k).data.toList) [44]).length ≤ 168 := by
      have h1 := join_bound 20 ((memL y).map fun k => (at_ ss k).data.toList) ?_
      · rw [List.length_map] at h1
        have h2 := memL_len y
        have h3 : (20 + 1) * (memL y).length ≤ 21 * 8 := Nat.mul_le_mul_left _ h2
        exact Nat.le_trans h1 (by omega)
      · intro x hx
        rw [List.mem_map] at hx
        obtain ⟨k, hk, rfl⟩ := hx
        exact name_size (HAB.out k hk)
    have hJ : J.size ≤ 168 := by rw [HE.out]; exact hb
    have HS : Hid ((⟨#[123]⟩ ++ J ++ ⟨#[125]⟩ : ByteArray) = ⟨(setS ss y).toArray⟩) := Lib.hid (by
      rw [HE.out]
      apply ByteArray.ext
      simp [ByteArray.data_append, setS])
    have HJ : Hid (Calls Tryz.prog 113 #[v, .string ⟨#[44]⟩] W fun e w' => e = .returned (.string J) ∧ Below W.heap.size W w') := Lib.hid (by
      rw [HE.out]
      rcases hrow.2 with ⟨rfl, h0⟩ | ⟨g, cap, cur, rfl, hg, hh, hn, hcap, hsz, ht⟩
      · have e : memL y = [] := List.length_eq_zero_iff.1 h0
        rw [e]
        refine (Tryz.strings_Join_none none 0 ⟨#[44]⟩ W).mono ?_
        rintro e w' ⟨rfl, rfl⟩
        exact ⟨rfl, Below.refl _ _⟩
      · have hj := Tryz.strings_Join g 0 cap ((memL y).map (at_ ss)) ⟨#[44]⟩ W ?_ ?_ ?_ ?_ ?_
        · rw [List.length_map, List.map_map] at hj
          exact hj
        · intro j x hx
          rw [List.getElem?_map, Option.map_eq_some_iff] at hx
          obtain ⟨k, hk, rfl⟩ := hx
          have h9 := hrow.cells rfl j (.string (at_ ss k)) (by rw [List.getElem?_map, hk]; rfl)
          rw [addr_add] at h9
          rw [Nat.zero_add]
          exact h9
        · exact (Array.getElem?_eq_some_iff.1 hh).1
        · rw [List.length_map]; have := memL_len y; omega
        · rw [List.length_map]; exact hn
        · rw [List.map_map]; exact Nat.le_trans hb (by omega))
    gi_wp2_with (refine ⟨trivial, ?_⟩; gi_at_call 113; refine (callsIn_wide.2 HJ.out).mono ?_; rintro e w5 ⟨rfl, hb5⟩)
    have hK5 : w5.heap[D]? = some (.deferred (some [])) := (hb5.block D hDW).trans hK
    refine ⟨by simp, .inl ⟨_, _, rfl, run_takeDeferred hK5, ?_⟩⟩
    exact ⟨_, results_tmp2 rfl _ _ _, by rw [← HS.out]; rfl, (hB.trans (hb5.mono hB.size)).trans (belowK_b (w := w) (Nat.le_refl _) w5 D _ _ hD0 hK5 rfl rfl)⟩
  case stop =>
    rintro D c pre W _ h _
    exact h.elim

set_option maxHeartbeats 400000 in
theorem String_no {w : World} {a : Option Addr} {n c : Nat} {ss : List ByteArray} {e0 e1 e2 : Addr} (x : Int) (E : Errs w e0 e1 e2) (A : StrArg w a n c ss) (hz : setCode ss [x] ≠ 0) :
    Calls Tryz.prog 81 #[.slice a n c, .int .i64 x] w fun e w' => e = .returned (.tuple #[.string ⟨#[]⟩, .int .i64 (setCode ss [x])]) ∧ Below w.heap.size w w' := by
  have B1 : Below w.heap.size w (w.alloc (.cells #[.slice a n c] 22)) := (Below.refl _ w).alloc (Nat.le_refl _) _
  have B2 : Below w.heap.size w ((w.alloc (.cells #[.slice a n c] 22)).alloc (.cells #[.int .i64 x] 3)) := B1.alloc (by simp) _
  have HC := Lib.hid (checkSets_any (E.below B2) (A.below B2) (one_int (w.alloc (.cells #[.slice a n c] 22)) x 3))
  have HD := Lib.hid (setsErr_code (E.below B2) ss [x])
  obtain ⟨b, hb⟩ := setsErr_iface e0 e1 hz
  rw [hb, World.size_alloc] at HC
  rw [hb] at HD
  clear hz hb
  go_enter Tryz.func81, Tryz.ntmps81
  go_wp2_with fail
  refine HC.out.mono ?_
  rintro e w' ⟨rfl, rfl⟩
  go_wp2_with fail
  refine HD.out.mono ?_
  rintro e w' ⟨rfl, rfl⟩
  go_wp2
  go_ret2
  exact ⟨rfl, B2⟩

/-- what act.String answers -/
def stringV (ss : List ByteArray) (x : Int) : Value := if setCode ss [x] = 0 then .tuple #[.string ⟨(setS ss x.toNat).toArray⟩, .int .i64 0] else .tuple #[.string ⟨#[]⟩, .int .i64 (setCode ss [x])]
theorem set_nonneg {ss : List ByteArray} {x : Int} (h : setCode ss [x] = 0) : 0 ≤ x := by
  unfold setCode at h
  cases h1 : actsB ss
  · rw [h1] at h; simp at h
  · cases h2 : [x].all (setB ss.length)
    · rw [h1, h2] at h; simp at h
    · exact (set_lt h1 h2).1
theorem String_any {w : World} {a : Option Addr} {n c : Nat} {ss : List ByteArray} {e0 e1 e2 : Addr} (x : Int) (E : Errs w e0 e1 e2) (T : Tab w) (A : StrArg w a n c ss) :
    Calls Tryz.prog 81 #[.slice a n c, .int .i64 x] w fun e w' => e = .returned (stringV ss x) ∧ Below w.heap.size w w' := by
  unfold stringV
  by_cases hz : setCode ss [x] = 0
  · obtain ⟨y, rfl⟩ := Int.eq_ofNat_of_zero_le (set_nonneg hz)
    rw [if_pos hz]
    exact String_yes y E T A hz
  · rw [if_neg hz]
    exact String_no x E A hz
end Go.Proofs.YtgnbkepdbdgkdaaGreatDoor
