/- law03's copied: the same verdict in new memory. -/
import Derived.Test.YtgnbkepdbdgkdaaGreatDoorIsFltL
import Derived.Test.YtgnbkepdbdgkdaaGreatDoorShowL
import Derived.Deep.RegionHeld3
import Derived.Test.YtgnbkepdbdgkdaaGreatDoorJq29
namespace Go.Proofs.YtgnbkepdbdgkdaaGreatDoor
open Go.RowKit Pl

theorem own_pairs {w : World} {base : Nat} {e : TypeId} {a : Option Addr} {n c : Nat} {L : List Edg} (h : w.ownsRow base e 2 (.slice a n c) L.length (ecells L)) (hbig : L.length ≤ 140737488355328) : n = L.length ∧ EdgeArg w a n c L := by
  rcases h.2 with ⟨e1, e0⟩ | ⟨g, cap, cur, e1, hg, hh, hc, hm, hz, ht⟩
  · simp only [Value.slice.injEq] at e1
    obtain ⟨rfl, rfl, rfl⟩ := e1
    exact ⟨e0.symm, fun _ => rfl, e0.symm, by omega, by omega, fun j hj => by omega⟩
  · simp only [Value.slice.injEq] at e1
    obtain ⟨rfl, rfl, rfl⟩ := e1
    refine ⟨rfl, (fun h => by cases h), rfl, hc, hbig, fun j hj => ⟨g, 0, rfl, ?_, ?_⟩⟩
    · rw [Nat.zero_add, h.cellAt (j * 2) (by omega)]
      exact (ecells_at L j hj).1
    · rw [Nat.zero_add, h.cellAt (j * 2 + 1) (by omega)]
      exact (ecells_at L j hj).2
theorem whole_arr {W : World} {g : Nat} {t : TypeId} {x0 x1 x2 x3 : Value} (h : Whole W g t #[x0, x1, x2, x3]) :
    W.cell? ⟨g, 0, none⟩ = some x0 ∧ W.cell? ⟨g, 1, none⟩ = some x1 ∧ W.cell? ⟨g, 2, none⟩ = some x2 ∧ W.cell? ⟨g, 3, none⟩ = some x3 :=
  ⟨h.cell 0, h.cell 1, h.cell 2, h.cell 3⟩
theorem whole_frz {W : World} {g : Nat} {t : TypeId} {cs : Array Value} (h : Whole W g t cs) :
    W.frozen? ⟨g, 0, none⟩ = false ∧ W.frozen? ⟨g, 1, none⟩ = false ∧ W.frozen? ⟨g, 2, none⟩ = false ∧ W.frozen? ⟨g, 3, none⟩ = false :=
  ⟨h.frozen 0, h.frozen 1, h.frozen 2, h.frozen 3⟩

theorem own_put4 {W : World} {base g : Nat} {e t : TypeId} {size n : Nat} {v : Value} {xs : List Value} {cs : Array Value} (h : W.ownsRow base e size v n xs) (hw : Whole W g t cs) (hne : e ≠ t) (a b c d : Value) :
    ((((W.setCell ⟨g, 0, none⟩ a).setCell ⟨g, 1, none⟩ b).setCell ⟨g, 2, none⟩ c).setCell ⟨g, 3, none⟩ d).ownsRow base e size v n xs :=
  own_stored (own_stored (own_stored (own_stored h hw hne) (hw.set 0 a) hne) ((hw.set 0 a).set 1 b) hne) (((hw.set 0 a).set 1 b).set 2 c) hne
set_option maxRecDepth 100000 in
set_option maxHeartbeats 8000000 in
theorem copied_any {w : World} (h : Bool) {pa : Option Addr} {pn pc : Nat} {L : List Edg} (P : EdgeArg w pa pn pc L) {wa : Option Addr} {wn wc : Nat} {word : List Int} (Wd : IntArg w wa wn wc word) (st : Int) (hp : pn ≤ 10000000) (hw : wn ≤ 10000000) :
    Calls Tryz.prog 25 #[.agg #[.bool h, .slice pa pn pc, .slice wa wn wc, .int .i64 st]] w fun e w' => ∃ pa' pc' wa' wc', e = .returned (.agg #[.bool h, .slice pa' pn pc', .slice wa' wn wc', .int .i64 st]) ∧ EdgeArg w' pa' pn pc' L ∧ IntArg w' wa' wn wc' word ∧ Below w.heap.size w w' := by
  obtain ⟨i1, hi1, hz10, hz11, hz12⟩ := info_parts infoNumS
  obtain ⟨i3, hi3, hz30, hz31, hz32⟩ := info_parts infoPair
  have hB := ((Below.refl w.heap.size w).alloc (Nat.le_refl _) (.cells #[.bool h, .slice pa pn pc, .slice wa wn wc, .int .i64 st] 57)).alloc (by simp) (.cells #[.bool false, .slice none 0 0, .slice none 0 0, .int .i64 0] 57)
  have hX := (Whole.new w 57 #[.bool h, .slice pa pn pc, .slice wa wn wc, .int .i64 st]).alloc (.cells #[.bool false, .slice none 0 0, .slice none 0 0, .int .i64 0] 57)
  have hO := Whole.new (w.alloc (.cells #[.bool h, .slice pa pn pc, .slice wa wn wc, .int .i64 st] 57)) 57 #[.bool false, .slice none 0 0, .slice none 0 0, .int .i64 0]
  simp only [World.size_alloc] at hO
  obtain ⟨w0, HW0⟩ : ∃ z, Hid ((w.alloc (.cells #[.bool h, .slice pa pn pc, .slice wa wn wc, .int .i64 st] 57)).alloc (.cells #[.bool false, .slice none 0 0, .slice none 0 0, .int .i64 0] 57) = z) := ⟨_, Lib.hid rfl⟩
  rw [HW0.out] at hB hX hO
  have NA := Lib.hid (P.below hB)
  have NB := Lib.hid (Wd.below hB)
  have LA : Hid ((ecells L).length = pn * 2) := Lib.hid (by rw [ecells_length, P.len])
  have LB : Hid ((word.map (Value.int .i64)).length = wn * 1) := Lib.hid (by have := Wd.len; simp; omega)
  have LA2 : Hid (L.length = pn) := Lib.hid P.len.symm
  have LB2 : Hid (word.length = wn) := Lib.hid Wd.len.symm
  have NN : Hid (pa = none → pn = 0 ∧ pc = 0) := Lib.hid (fun e => by have := P.nil e; have := P.cap; omega)
  have zO := Lib.hid hO
  have zX := Lib.hid hX
  have HB := Lib.hid hB
  have hS0 : w.heap.size ≤ w0.heap.size := hB.size
  have kD : w0.drew.cell? ⟨w.heap.size, 0, none⟩ = some (.bool h) ∧ w0.drew.cell? ⟨w.heap.size, 1, none⟩ = some (.slice pa pn pc) ∧ w0.drew.cell? ⟨w.heap.size, 2, none⟩ = some (.slice wa wn wc) ∧ w0.drew.cell? ⟨w.heap.size, 3, none⟩ = some (.int .i64 st) := whole_arr hX
  have nO : w.heap.size + 1 ≠ w.heap.size ∧ w.heap.size + 1 ≠ w.heap.size ∧ w.heap.size + 1 ≠ w.heap.size ∧ w.heap.size + 1 ≠ w.heap.size := ⟨by omega, by omega, by omega, by omega⟩
  clear P Wd hB hX hO
  go_enter Tryz.func25, Tryz.ntmps25
  go_wp2
  rw [HW0.out]
  go_region_held3 (fun w' => w'.cell? ⟨w.heap.size, 0, none⟩ = some (.bool h) ∧ w'.cell? ⟨w.heap.size, 1, none⟩ = some (.slice pa pn pc) ∧ w'.cell? ⟨w.heap.size, 2, none⟩ = some (.slice wa wn wc) ∧ w'.cell? ⟨w.heap.size, 3, none⟩ = some (.int .i64 st))
    ((with_reducible (first | assumption | exact ms_far kJ nO _ _ _ _ | exact kD)))
    (first
      | (refine step_append_sz rfl (.const (.slice none 0 0)) (.tmp 6) 39 (by rfl) w.heap.size 48 i3 (.agg #[.int .i64 0, .int .i64 0]) 2 16 Tryz.underlying39 hi3 hz30 hz31 hz32 rfl (by decide) (.slice none 0 0) (by rfl) 0 [] (World.ownsRow_nil _ _ _ _) pa pn pc (by rfl) (ecells L) NN.out LA.out (edges_src (NA.out.below (Below.refl _ w0).drew).cells) (ecells_one _) (by unfold maxLen; omega) (by omega) hS0 ?_; intro v wA hA hg hat; clear hat; simp only [Nat.zero_add, List.nil_append] at hA; obtain ⟨xA, qA, rfl⟩ := own_slice hA; have hGA : Below w0.heap.size w0 wA := (Below.refl _ w0).drew.trans (below_up hg); have kI := ms_up (below_up hg) kD)
      | (refine step_append_sz rfl (.const (.slice none 0 0)) (.tmp 9) 28 (by rfl) w.heap.size 3 i1 (.int .i64 0) 1 8 Tryz.underlying28 hi1 hz10 hz11 hz12 rfl (by decide) (.slice none 0 0) (by rfl) 0 [] (World.ownsRow_nil _ _ _ _) wa wn wc (by rfl) (word.map (Value.int .i64)) NB.out.nils LB.out (numsrc (NB.out.below hGA)) (numone _) (by unfold maxLen; omega) (by omega) (Nat.le_trans hS0 hGA.size) ?_; intro v wB hB hg2 hat; clear hat; simp only [Nat.zero_add, List.nil_append] at hB; obtain ⟨xB, qB, rfl⟩ := own_slice hB; have hGB := hGA.trans ((below_up hg2).mono hGA.size); have hA2 := own_up hA hg2; have kJ := ms_up (below_up hg2) kI; obtain ⟨f0, f1, f2, f3⟩ := whole_frz (zO.out.below hGB zO.out.lt); obtain ⟨m0, m1, m2, m3⟩ := whole_arr (zO.out.below hGB zO.out.lt)))
  all_goals
    have hz := zO.out.below hGB zO.out.lt
    have hVa := (((hz.set 0 (.bool h)).set 1 (.slice xA pn qA)).set 2 (.slice xB wn qB)).set 3 (.int .i64 st)
    have hP4 := own_put4 hA2 hz (by decide) (.bool h) (.slice xA pn qA) (.slice xB wn qB) (.int .i64 st)
    have hW4 := own_put4 hB hz (by decide) (.bool h) (.slice xA pn qA) (.slice xB wn qB) (.int .i64 st)
    have hbw : Below w.heap.size w ((((wB.setCell ⟨w.heap.size + 1, 0, none⟩ (.bool h)).setCell ⟨w.heap.size + 1, 1, none⟩ (.slice xA pn qA)).setCell ⟨w.heap.size + 1, 2, none⟩ (.slice xB wn qB)).setCell ⟨w.heap.size + 1, 3, none⟩ (.int .i64 st)) := ((((HB.out.trans (hGB.mono HB.out.size)).setCell (p := ⟨w.heap.size + 1, 0, none⟩) (by simp) _).setCell (p := ⟨w.heap.size + 1, 1, none⟩) (by simp) _).setCell (p := ⟨w.heap.size + 1, 2, none⟩) (by simp) _).setCell (p := ⟨w.heap.size + 1, 3, none⟩) (by simp) _
    rw [← LA2.out] at hP4
    have hq := (own_pairs (a := xA) (n := L.length) (c := qA) hP4 (by rw [LA2.out]; omega)).2
    have hq2 : IntArg ((((wB.setCell ⟨w.heap.size + 1, 0, none⟩ (.bool h)).setCell ⟨w.heap.size + 1, 1, none⟩ (.slice xA pn qA)).setCell ⟨w.heap.size + 1, 2, none⟩ (.slice xB wn qB)).setCell ⟨w.heap.size + 1, 3, none⟩ (.int .i64 st)) xB wn qB word := by
      rw [← LB2.out] at hW4 ⊢
      exact (own_nums (n := word.length) hW4 (by rw [LB2.out]; omega)).2
    rw [LA2.out] at hq
    have HFin := Lib.hid (And.intro hq (And.intro hq2 hbw))
    obtain ⟨l0, l1, l2, l3⟩ := whole_arr (x0 := .bool h) (x1 := .slice xA pn qA) (x2 := .slice xB wn qB) (x3 := .int .i64 st) hVa
    clear hz hVa hP4 hW4 hbw hq hq2 hA2 hB hA hGA hGB hg hg2 kD kI kJ m0 m1 m2 m3 f0 f1 f2 f3
    go_wp2
    exact bodyPost_ret (v := .agg #[.bool h, .slice xA pn qA, .slice xB wn qB, .int .i64 st]) (by simp [results, Tryz.results25, go_sem, l0, l1, l2, l3]) rfl ⟨xA, qA, xB, qB, rfl, HFin.out.1, HFin.out.2.1, HFin.out.2.2⟩
end Go.Proofs.YtgnbkepdbdgkdaaGreatDoor
