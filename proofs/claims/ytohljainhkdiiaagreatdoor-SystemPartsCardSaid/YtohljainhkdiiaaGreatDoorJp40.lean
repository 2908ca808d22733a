/- Texts joined: SpAwake, SatO. -/
import Derived.Test.YtohljainhkdiiaaGreatDoorJp39
import Derived.Deep.DeepCutAuto
import Derived.Test.YtohljainhkdiiaaGreatDoorJp34
/- Whether the program is awake, by the fixed calls of the laws about specifications. -/
namespace Go.Proofs.YtohljainhkdiiaaGreatDoor
open Go.RowKit Pl

/-- the system with one edge, as the law lays it -/
theorem sysA_arg (w : World) : SysArg ((((w.alloc (.cells #[.string coinB, .string teaB] 9)).alloc (.cells #[.int .i64 0, .int .i64 1] 71)).alloc (.cells #[.slice (some ⟨w.heap.size + 1, 0, none⟩) 1 1, .slice none 0 0] 60)).alloc (.cells #[.slice (some ⟨w.heap.size, 0, none⟩) 2 2, .slice (some ⟨w.heap.size + 1 + 1, 0, none⟩) 2 2] 25)) (some ⟨w.heap.size, 0, none⟩) 2 2 (some ⟨w.heap.size + 1 + 1, 0, none⟩) 2 2 sysA := by
  have hs := strs_new w [coinB, teaB] (by decide) (fun x hx => by
    simp only [List.mem_cons, List.not_mem_nil, or_false] at hx
    rcases hx with rfl | rfl <;> decide)
  have hb : ∀ (W : World) (o : Obj), Below W.heap.size W (W.alloc o) := fun W o => (Below.refl _ W).alloc (Nat.le_refl _) o
  have hs2 := ((hs.below (hb _ (.cells #[.int .i64 0, .int .i64 1] 71))).below (hb _ (.cells #[.slice (some ⟨w.heap.size + 1, 0, none⟩) 1 1, .slice none 0 0] 60))).below (hb _ (.cells #[.slice (some ⟨w.heap.size, 0, none⟩) 2 2, .slice (some ⟨w.heap.size + 1 + 1, 0, none⟩) 2 2] 25))
  have he := ((Whole.new (w.alloc (.cells #[.string coinB, .string teaB] 9)) 71 #[.int .i64 0, .int .i64 1]).alloc (.cells #[.slice (some ⟨w.heap.size + 1, 0, none⟩) 1 1, .slice none 0 0] 60)).alloc (.cells #[.slice (some ⟨w.heap.size, 0, none⟩) 2 2, .slice (some ⟨w.heap.size + 1 + 1, 0, none⟩) 2 2] 25)
  have hr := (Whole.new ((w.alloc (.cells #[.string coinB, .string teaB] 9)).alloc (.cells #[.int .i64 0, .int .i64 1] 71)) 60 #[.slice (some ⟨w.heap.size + 1, 0, none⟩) 1 1, .slice none 0 0]).alloc (.cells #[.slice (some ⟨w.heap.size, 0, none⟩) 2 2, .slice (some ⟨w.heap.size + 1 + 1, 0, none⟩) 2 2] 25)
  simp only [World.size_alloc] at he hr
  refine ⟨hs2, by decide, (fun h => by cases h), rfl, by decide, by decide, fun i hi => ⟨w.heap.size + 1 + 1, 0, rfl, ?_⟩⟩
  have hi' : i = 0 ∨ i = 1 := by
    have : i < 2 := hi
    omega
  rcases hi' with rfl | rfl
  · refine ⟨some ⟨w.heap.size + 1, 0, none⟩, 1, 1, hr.cell 0, (fun h => by cases h), rfl, by decide, by decide, fun k hk => ⟨w.heap.size + 1, 0, rfl, ?_⟩⟩
    have hk' : k < 1 := hk
    obtain rfl : k = 0 := by omega
    exact ⟨he.cell 0, he.cell 1⟩
  · exact ⟨none, 0, 0, hr.cell 1, fun _ => rfl, rfl, Nat.le_refl _, by decide, fun k hk => by have hk' : k < 0 := hk; omega⟩
/-- the system without edges -/
theorem sysN_arg (w : World) : SysArg ((w.alloc (.cells #[.string coinB, .string teaB] 9)).alloc (.cells #[.slice none 0 0] 60)) (some ⟨w.heap.size, 0, none⟩) 2 2 (some ⟨w.heap.size + 1, 0, none⟩) 1 1 sysN := by
  have hs := strs_new w [coinB, teaB] (by decide) (fun x hx => by
    simp only [List.mem_cons, List.not_mem_nil, or_false] at hx
    rcases hx with rfl | rfl <;> decide)
  have hs2 := hs.below ((Below.refl _ _).alloc (Nat.le_refl _) (.cells #[.slice none 0 0] 60))
  have hr := Whole.new (w.alloc (.cells #[.string coinB, .string teaB] 9)) 60 #[.slice none 0 0]
  simp only [World.size_alloc] at hr
  refine ⟨hs2, by decide, (fun h => by cases h), rfl, by decide, by decide, fun i hi => ⟨w.heap.size + 1, 0, rfl, ?_⟩⟩
  have hi' : i < 1 := hi
  obtain rfl : i = 0 := by omega
  exact ⟨none, 0, 0, hr.cell 0, fun _ => rfl, rfl, Nat.le_refl _, by decide, fun k hk => by have hk' : k < 0 := hk; omega⟩
def vendT : ByteArray := ⟨#[115, 112, 101, 99, 32, 99, 111, 105, 110, 32, 116, 101, 97, 10, 48, 58, 32, 123, 99, 111, 105, 110, 125, 32, 45, 62, 32, 99, 111, 105, 110, 32, 49, 10, 49, 58, 32, 123, 125, 32, 123, 116, 101, 97, 125, 32, 45, 62, 32, 116, 101, 97, 32, 48]⟩
theorem vendS_same : sameP vendQ vendQ = true := (sameP_iff _ _).2 rfl
/-- Satisfies at the two systems -/
theorem satA_any {w : World} {a : Option Addr} {c : Nat} {b : Option Addr} {d : Nat} {a' : Option Addr} {c' : Nat} {b' : Option Addr} {d' : Nat} {e0 e1 e2 : Addr} (E : Errs w e0 e1 e2) (A : SysArg w a 2 c b 2 d sysA) (A' : SpecArg w a' 2 c' b' 2 d' vendQ) :
    Calls Tryz.prog 18 #[.agg #[.slice a 2 c, .slice b 2 d], .agg #[.slice a' 2 c', .slice b' 2 d']] w fun e w' => ∃ va vc, e = .returned (.tuple #[.agg #[.bool true, .slice va 2 vc, .slice none 0 0, .int .i64 0], .int .i64 0]) ∧ Below w.heap.size w w' := by
  refine (Satisfies_ok E A A' sysA_ok vendQ_ok rfl).mono ?_
  rintro e w' ⟨hb, ⟨L, v, hy, rfl, hv⟩ | ⟨wd, x, v, hn, _⟩⟩
  · obtain ⟨va, vc, rfl⟩ := own_slice' hv
    rw [satA_yes hy]
    exact ⟨va, vc, rfl, hb⟩
  · exact (satA_no hn).elim
theorem satN_any {w : World} {a : Option Addr} {c : Nat} {b : Option Addr} {d : Nat} {a' : Option Addr} {c' : Nat} {b' : Option Addr} {d' : Nat} {e0 e1 e2 : Addr} (E : Errs w e0 e1 e2) (A : SysArg w a 2 c b 1 d sysN) (A' : SpecArg w a' 2 c' b' 2 d' vendQ) :
    Calls Tryz.prog 18 #[.agg #[.slice a 2 c, .slice b 1 d], .agg #[.slice a' 2 c', .slice b' 2 d']] w fun e w' => ∃ va vc, e = .returned (.tuple #[.agg #[.bool false, .slice none 0 0, .slice va 0 vc, .int .i64 0], .int .i64 0]) ∧ Below w.heap.size w w' := by
  refine (Satisfies_ok E A A' sysN_ok vendQ_ok rfl).mono ?_
  rintro e w' ⟨hb, ⟨L, v, hy, _⟩ | ⟨wd, x, v, hn, rfl, hv⟩⟩
  · exact (satN_yes hy).elim
  · obtain ⟨rfl, rfl⟩ := satN_no hn
    obtain ⟨va, vc, rfl⟩ := own_slice' hv
    exact ⟨va, vc, rfl, hb⟩
theorem pack_v {w : World} {g : Nat} {t : TypeId} {x y z u : Value} (h : Whole w g t #[x, y, z, u]) :
    Whole w g t #[x, y, z, u] ∧ (w.cell? ⟨g, 0, none⟩ = some x ∧ w.cell? ⟨g, 1, none⟩ = some y ∧ w.cell? ⟨g, 2, none⟩ = some z ∧ w.cell? ⟨g, 3, none⟩ = some u) ∧
    w.frozen? ⟨g, 0, none⟩ = false ∧ w.frozen? ⟨g, 1, none⟩ = false ∧ w.frozen? ⟨g, 2, none⟩ = false ∧ w.frozen? ⟨g, 3, none⟩ = false :=
  ⟨h, ⟨h.cell 0, h.cell 1, h.cell 2, h.cell 3⟩, h.frozen 0, h.frozen 1, h.frozen 2, h.frozen 3⟩
theorem cell_dr {w : World} {p : Addr} {v : Value} (h : w.cell? p = some v) : w.drew.cell? p = some v := h
theorem whole_dr {w : World} {g : Nat} {t : TypeId} {cs : Array Value} (h : Whole w g t cs) : Whole w.drew g t cs := h
theorem far4 {w : World} {p : Addr} {g : Nat} {v : Value} (h : w.cell? p = some v) (hne : g ≠ p.block) (x y z u : Value) :
    ((((w.setCell ⟨g, 0, none⟩ x).setCell ⟨g, 1, none⟩ y).setCell ⟨g, 2, none⟩ z).setCell ⟨g, 3, none⟩ u).cell? p = some v := by
  rw [World.cell?_setCell_far _ ⟨g, 3, none⟩ _ _ hne, World.cell?_setCell_far _ ⟨g, 2, none⟩ _ _ hne, World.cell?_setCell_far _ ⟨g, 1, none⟩ _ _ hne, World.cell?_setCell_far _ ⟨g, 0, none⟩ _ _ hne, h]
theorem up6 {W w' : World} {p1 p2 p3 p4 p5 p6 p7 : Addr} {v1 v2 v3 v4 v5 v6 v7 : Value} (hb : Below W.heap.size W w') (h : W.cell? p1 = some v1 ∧ W.cell? p2 = some v2 ∧ W.cell? p3 = some v3 ∧ W.cell? p4 = some v4 ∧ W.cell? p5 = some v5 ∧ W.cell? p6 = some v6 ∧ W.cell? p7 = some v7) :
    w'.cell? p1 = some v1 ∧ w'.cell? p2 = some v2 ∧ w'.cell? p3 = some v3 ∧ w'.cell? p4 = some v4 ∧ w'.cell? p5 = some v5 ∧ w'.cell? p6 = some v6 ∧ w'.cell? p7 = some v7 :=
  ⟨up_cell hb h.1, up_cell hb h.2.1, up_cell hb h.2.2.1, up_cell hb h.2.2.2.1, up_cell hb h.2.2.2.2.1, up_cell hb h.2.2.2.2.2.1, up_cell hb h.2.2.2.2.2.2⟩
set_option maxRecDepth 100000 in
set_option maxHeartbeats 8000000 in
theorem awakeS_any {w : World} (E : Env w) (T : Tab w) : Calls Tryz.prog 15 #[] w fun e w' => e = .returned (.bool true) ∧ Below w.heap.size w w' := by
  go_enter Tryz.func15, Tryz.ntmps15
  have HE := Lib.hid E
  have HT := Lib.hid T
  clear E T
  go_wp2_with fail
  refine (vendS_any _).mono ?_
  rintro e w1 ⟨a1, c1, b1, d1, rfl, hA1, hb1⟩
  have HS1 := Lib.hid (SpString_any (HE.out.below hb1) (HT.out.below hb1) hA1)
  have HB1 := Lib.hid hb1
  clear hA1 hb1
  go_wp2_with fail
  refine HS1.out.mono ?_
  rintro e w2 ⟨rfl, hb2⟩
  have HB2 := Lib.hid (HB1.out.trans (hb2.mono HB1.out.size))
  clear hb2 HS1
  rw [spStrV_yes vendQ_ok, vendQ_str]
  have HP := Lib.hid (SpParse_any vendT (by decide) w2 (HE.out.below HB2.out))
  rw [show vendT.data.toList = vendL from rfl, vendQ_parse] at HP
  go_wp2_with fail
  refine HP.out.mono ?_
  rintro e w3 ⟨a3, n3, c3, b3, k3, d3, rfl, hA3, hb3⟩
  have hA3' := hA3.below ((Below.refl _ w3).alloc (Nat.le_refl _) (.cells #[.slice a3 n3 c3, .slice b3 k3 d3] 40))
  have hw3 := Whole.new w3 40 #[.slice a3 n3 c3, .slice b3 k3 d3]
  have HB3 := Lib.hid ((HB2.out.trans (hb3.mono HB2.out.size)).alloc (by have := HB2.out.size; have := hb3.size; omega) (.cells #[.slice a3 n3 c3, .slice b3 k3 d3] 40))
  obtain ⟨w4, hw4⟩ : ∃ w4, w3.alloc (.cells #[.slice a3 n3 c3, .slice b3 k3 d3] 40) = w4 := ⟨_, rfl⟩
  rw [hw4] at HB3 hA3' hw3
  have HA3 := Lib.hid hA3'
  have HW3 := Lib.hid hw3
  have HW4 := Lib.hid hw4
  clear hA3 hb3 HP hA3' hw3 hw4
  have hA5 := sysA_arg w4
  have hb5 : Below w.heap.size w ((((w4.alloc (.cells #[.string ⟨#[99, 111, 105, 110]⟩, .string ⟨#[116, 101, 97]⟩] 9)).alloc (.cells #[.int .i64 0, .int .i64 1] 71)).alloc (.cells #[.slice (some ⟨w4.heap.size + 1, 0, none⟩) 1 1, .slice none 0 0] 60)).alloc (.cells #[.slice (some ⟨w4.heap.size, 0, none⟩) 2 2, .slice (some ⟨w4.heap.size + 1 + 1, 0, none⟩) 2 2] 25)) := (((HB3.out.alloc HB3.out.size _).alloc (by have := HB3.out.size; simp; omega) _).alloc (by have := HB3.out.size; simp; omega) _).alloc (by have := HB3.out.size; simp; omega) _
  have hx5 := Whole.new (((w4.alloc (.cells #[.string ⟨#[99, 111, 105, 110]⟩, .string ⟨#[116, 101, 97]⟩] 9)).alloc (.cells #[.int .i64 0, .int .i64 1] 71)).alloc (.cells #[.slice (some ⟨w4.heap.size + 1, 0, none⟩) 1 1, .slice none 0 0] 60)) 25 #[.slice (some ⟨w4.heap.size, 0, none⟩) 2 2, .slice (some ⟨w4.heap.size + 1 + 1, 0, none⟩) 2 2]
  simp only [World.size_alloc] at hx5
  have hb45 : Below w4.heap.size w4 ((((w4.alloc (.cells #[.string ⟨#[99, 111, 105, 110]⟩, .string ⟨#[116, 101, 97]⟩] 9)).alloc (.cells #[.int .i64 0, .int .i64 1] 71)).alloc (.cells #[.slice (some ⟨w4.heap.size + 1, 0, none⟩) 1 1, .slice none 0 0] 60)).alloc (.cells #[.slice (some ⟨w4.heap.size, 0, none⟩) 2 2, .slice (some ⟨w4.heap.size + 1 + 1, 0, none⟩) 2 2] 25)) := ((((Below.refl _ w4).alloc (Nat.le_refl _) _).alloc (by simp) _).alloc (by simp; omega) _).alloc (by simp; omega) _
  obtain ⟨w5, HW5⟩ : ∃ z, Hid ((((w4.alloc (.cells #[.string ⟨#[99, 111, 105, 110]⟩, .string ⟨#[116, 101, 97]⟩] 9)).alloc (.cells #[.int .i64 0, .int .i64 1] 71)).alloc (.cells #[.slice (some ⟨w4.heap.size + 1, 0, none⟩) 1 1, .slice none 0 0] 60)).alloc (.cells #[.slice (some ⟨w4.heap.size, 0, none⟩) 2 2, .slice (some ⟨w4.heap.size + 1 + 1, 0, none⟩) 2 2] 25) = z) := ⟨_, Lib.hid rfl⟩
  have HA5 : Hid (SysArg w5 (some ⟨w4.heap.size, 0, none⟩) 2 2 (some ⟨w4.heap.size + 1 + 1, 0, none⟩) 2 2 sysA) := Lib.hid (by rw [← HW5.out]; exact hA5)
  rw [HW5.out] at hb5 hx5 hb45
  have HB5 := Lib.hid hb5
  have hW35 := HW3.out.below hb45 (by rw [← HW4.out]; simp)
  have HW35 := Lib.hid hW35
  have HB45 := Lib.hid hb45
  obtain ⟨e0, e1, e2, hErr⟩ := (HE.out.below hb5).errs
  have HErr := Lib.hid hErr
  have k0 := hx5.cell 0
  have k1 := hx5.cell 1
  simp only [List.getElem?_toArray, List.getElem?_cons_succ, List.getElem?_cons_zero] at k0 k1
  have h45 : w4.heap.size ≤ w5.heap.size := hb45.size
  have d0 : w5.drew.cell? ⟨w4.heap.size + 1 + 1 + 1, 0, none⟩ = some (.slice (some ⟨w4.heap.size, 0, none⟩) 2 2) := k0
  have d1 : w5.drew.cell? ⟨w4.heap.size + 1 + 1 + 1, 1, none⟩ = some (.slice (some ⟨w4.heap.size + 1 + 1, 0, none⟩) 2 2) := k1
  clear hA5 hb5 hx5 hb45 hW35 hErr
  go_wp2_with (rw [HW4.out])
  rw [HW5.out]
  go_cut [6, 7] (fun s6 s7 wx => ∃ g va vc, s6 = .pointer (some ⟨g, 0, none⟩) ∧ s7 = .int .i64 0 ∧ Below w5.heap.size w5 wx ∧ w5.heap.size ≤ g ∧ Whole wx g 47 #[.bool true, .slice va 2 vc, .slice none 0 0, .int .i64 0])
  case first =>
    go_region_held3 (fun w' => w'.cell? ⟨w4.heap.size + 1 + 1 + 1, 0, none⟩ = some (.slice (some ⟨w4.heap.size, 0, none⟩) 2 2) ∧ w'.cell? ⟨w4.heap.size + 1 + 1 + 1, 1, none⟩ = some (.slice (some ⟨w4.heap.size + 1 + 1, 0, none⟩) 2 2))
      ((with_reducible (first | assumption | exact ⟨kK, kL⟩ | exact ⟨kI, kJ⟩ | exact ⟨cell_new kK _, cell_new kL _⟩ | exact ⟨cell_new kI _, cell_new kJ _⟩ | exact ⟨far4 kK n6 _ _ _ _, far4 kL n6 _ _ _ _⟩ | exact ⟨far4 kK n5 _ _ _ _, far4 kL n5 _ _ _ _⟩ | exact ⟨k0, k1⟩ | exact ⟨cell_new k0 _, cell_new k1 _⟩ | exact ⟨d0, d1⟩ | exact ⟨cell_dr (cell_new k0 _), cell_dr (cell_new k1 _)⟩)))
      (first
        | (go_at_call 43; first
            | (refine Calls.mono (vendS_any w5.drew) ?_; rintro e w6 ⟨a6, c6, b6, d6, rfl, hA6, hb6⟩; have kI := up_cell hb6 d0; have kJ := up_cell hb6 d1; have hb56 : Below w5.heap.size w5 w6 := (Below.refl _ w5).drew.trans hb6; have n6 := World.new_ne w6 _ kI)
            | (refine Calls.mono (vendS_any (w5.alloc _).drew) ?_; rintro e w6 ⟨a6, c6, b6, d6, rfl, hA6, hb6⟩; have kI := up_cell hb6 (cell_dr (cell_new k0 _)); have kJ := up_cell hb6 (cell_dr (cell_new k1 _)); have hb56 : Below w5.heap.size w5 w6 := ((Below.refl _ w5).alloc (Nat.le_refl _) _).drew.trans (hb6.mono (by simp)); have B0 := up_whole hb6 (whole_dr (Whole.new w5 _ _)); have n5 := World.new_ne w5 _ k0))
        | (go_at_call 18; have hc := fun (W : World) (hb : Below w6.heap.size w6 W) => satA_any (HErr.out.below (below_two hb56 hb)) (HA5.out.below (below_two hb56 hb)) (hA6.below hb); first
            | (refine Calls.mono (hc w6 (Below.refl _ _)) ?_; clear hc; rintro e w7 ⟨va7, vc7, rfl, hb7⟩; have kK := up_cell hb7 kI; have kL := up_cell hb7 kJ; have hb57 := below_two hb56 hb7; first | (have B2 : Whole w6 w5.heap.size 47 #[.bool false, .slice none 0 0, .slice none 0 0, .int .i64 0] := (by assumption); obtain ⟨B1, ⟨C0, C1, C2, C3⟩, F0, F1, F2, F3⟩ := pack_v (up_whole hb7 B2); clear B2; have hg := Nat.le_refl w5.heap.size) | skip)
            | (refine Calls.mono (hc (w6.alloc _) ((Below.refl _ _).alloc (Nat.le_refl _) _)) ?_; clear hc; rintro e w7 ⟨va7, vc7, rfl, hb7⟩; have kK := up_cell hb7 (cell_new kI _); have kL := up_cell hb7 (cell_new kJ _); obtain ⟨B1, ⟨C0, C1, C2, C3⟩, F0, F1, F2, F3⟩ := pack_v (up_whole hb7 (Whole.new w6 _ _)); have hg := hb56.size; have hb57 := below_two hb56 (below_two ((Below.refl _ w6).alloc (Nat.le_refl _) _) hb7))))
    all_goals
      go_wp2_with fail
      go_meet
      first
        | exact ⟨_, _, _, rfl, rfl, hb57.alloc hb57.size _, hb57.size, Whole.new _ _ _⟩
        | exact ⟨_, _, _, rfl, rfl, (((hb57.setCell hg _).setCell hg _).setCell hg _).setCell hg _, hg, (((B1.set 0 _).set 1 _).set 2 _).set 3 _⟩
  case rest =>
    obtain ⟨g, va, vc, rfl, rfl, hbc, hg, hWc⟩ := hcut
    have HBp := Lib.hid (below_two HB45.out hbc)
    have hBc := HB5.out.trans (hbc.mono HB5.out.size)
    have hW3c := HW35.out.below hbc HW35.out.lt
    have HErrC := Lib.hid (HErr.out.below hbc)
    have hAN := sysN_arg wc
    have HBc := Lib.hid hBc
    have HW3c := Lib.hid hW3c
    have HWc := Lib.hid hWc
    have hbN : Below wc.heap.size wc ((wc.alloc (.cells #[.string ⟨#[99, 111, 105, 110]⟩, .string ⟨#[116, 101, 97]⟩] 9)).alloc (.cells #[.slice none 0 0] 60)) := ((Below.refl _ wc).alloc (Nat.le_refl _) _).alloc (by simp) _
    obtain ⟨w8, HW8⟩ : ∃ z, Hid (((wc.alloc (.cells #[.string ⟨#[99, 111, 105, 110]⟩, .string ⟨#[116, 101, 97]⟩] 9)).alloc (.cells #[.slice none 0 0] 60)) = z) := ⟨_, Lib.hid rfl⟩
    have HAN : Hid (SysArg w8 (some ⟨wc.heap.size, 0, none⟩) 2 2 (some ⟨wc.heap.size + 1, 0, none⟩) 1 1 sysN) := Lib.hid (by rw [← HW8.out]; exact hAN)
    rw [HW8.out] at hbN
    have HBN := Lib.hid hbN
    clear hBc hW3c hAN hbN hbc hWc k0 k1 d0 d1 HErr HW35 HB5 HA5 HW5
    go_wp2_with fail
    rw [HW8.out]
    refine (vendS_any w8).mono ?_
    rintro e w9 ⟨a9, c9, b9, d9, rfl, hA9, hb9⟩
    have HB9 := Lib.hid (below_two HBN.out hb9)
    have HN9 := Lib.hid (satN_any (HErrC.out.below HB9.out) (HAN.out.below hb9) hA9)
    clear hA9 hb9
    go_wp2_with fail
    refine HN9.out.mono ?_
    rintro e w10 ⟨vn, vm, rfl, hb10⟩
    have HB10 := Lib.hid (below_two HB9.out hb10)
    obtain ⟨w11, HW11⟩ : ∃ z, Hid (w10.alloc (.cells #[.bool false, .slice none 0 0, .slice vn 0 vm, .int .i64 0] 47) = z) := ⟨_, Lib.hid rfl⟩
    have hV := Whole.new w10 47 #[.bool false, .slice none 0 0, .slice vn 0 vm, .int .i64 0]
    have hB11 := HB10.out.alloc HB10.out.size (.cells #[.bool false, .slice none 0 0, .slice vn 0 vm, .int .i64 0] 47)
    rw [HW11.out] at hV hB11
    have hX := HW3c.out.below hB11 HW3c.out.lt
    have hY := HWc.out.below hB11 HWc.out.lt
    have k : w11.cell? ⟨w3.heap.size, 0, none⟩ = some (.slice a3 n3 c3) ∧ w11.cell? ⟨w3.heap.size, 1, none⟩ = some (.slice b3 k3 d3) ∧ w11.cell? ⟨g, 0, none⟩ = some (.bool true) ∧ w11.cell? ⟨g, 1, none⟩ = some (.slice va 2 vc) ∧ w11.cell? ⟨w10.heap.size, 0, none⟩ = some (.bool false) ∧ w11.cell? ⟨w10.heap.size, 2, none⟩ = some (.slice vn 0 vm) ∧ w11.cell? ⟨w10.heap.size, 3, none⟩ = some (.int .i64 0) :=
      ⟨hX.cell 0, hX.cell 1, hY.cell 0, hY.cell 1, hV.cell 0, hV.cell 2, hV.cell 3⟩
    have kD : w11.drew.cell? ⟨w3.heap.size, 0, none⟩ = some (.slice a3 n3 c3) ∧ w11.drew.cell? ⟨w3.heap.size, 1, none⟩ = some (.slice b3 k3 d3) ∧ w11.drew.cell? ⟨g, 0, none⟩ = some (.bool true) ∧ w11.drew.cell? ⟨g, 1, none⟩ = some (.slice va 2 vc) ∧ w11.drew.cell? ⟨w10.heap.size, 0, none⟩ = some (.bool false) ∧ w11.drew.cell? ⟨w10.heap.size, 2, none⟩ = some (.slice vn 0 vm) ∧ w11.drew.cell? ⟨w10.heap.size, 3, none⟩ = some (.int .i64 0) := k
    have HB11 := Lib.hid (HBc.out.trans (hB11.mono HBc.out.size))
    have HA11 := Lib.hid (HA3.out.below (below_two HBp.out hB11))
    clear hb10 hV hB11 hX hY HN9
    have hmk : mk (vendL ++ [10]) = ⟨#[115, 112, 101, 99, 32, 99, 111, 105, 110, 32, 116, 101, 97, 10, 48, 58, 32, 123, 99, 111, 105, 110, 125, 32, 45, 62, 32, 99, 111, 105, 110, 32, 49, 10, 49, 58, 32, 123, 125, 32, 123, 116, 101, 97, 125, 32, 45, 62, 32, 116, 101, 97, 32, 48, 10]⟩ := rfl
    simp only [hmk]
    clear hmk
    go_wp2_with (rw [HW11.out])
    go_region_held3 (fun w' => w'.cell? ⟨w3.heap.size, 0, none⟩ = some (.slice a3 n3 c3) ∧ w'.cell? ⟨w3.heap.size, 1, none⟩ = some (.slice b3 k3 d3) ∧ w'.cell? ⟨g, 0, none⟩ = some (.bool true) ∧ w'.cell? ⟨g, 1, none⟩ = some (.slice va 2 vc) ∧ w'.cell? ⟨w10.heap.size, 0, none⟩ = some (.bool false) ∧ w'.cell? ⟨w10.heap.size, 2, none⟩ = some (.slice vn 0 vm) ∧ w'.cell? ⟨w10.heap.size, 3, none⟩ = some (.int .i64 0))
      ((with_reducible (first | assumption | exact kD)))
      (first
        | (go_at_call 45; refine (RSSame_any ((HA11.out.below (Below.refl _ _).drew).below hb12) hA12).mono ?_; rw [vendS_same]; rintro e w13 ⟨rfl, hb13⟩; have kJ := up6 hb13 kI)
        | (go_at_call 43; refine (vendS_any w11.drew).mono ?_; rintro e w12 ⟨a12, c12, b12, d12, rfl, hA12, hb12⟩; have kI := up6 hb12 kD))
    have s12 : w.heap.size ≤ w12.heap.size := Nat.le_trans HB11.out.size hb12.size
    have HF := Lib.hid ((HB11.out.drew.trans (hb12.mono HB11.out.size)).trans (hb13.mono s12))
    clear hb12 hb13 kI kJ k kD
    go_wp2
    go_ret
    exact ⟨rfl, HF.out⟩
end Go.Proofs.YtohljainhkdiiaaGreatDoor
/- What spec.Satisfies returns at any arguments. -/
namespace Go.Proofs.YtohljainhkdiiaaGreatDoor
open Go.RowKit Pl

theorem bothC_zero {m : Syst} {s : Spc} (h : bothC m s = 0) : sysB m = true ∧ spcB s = true ∧ m.acts = s.acts := by
  unfold bothC at h
  split at h
  · rename_i h1
    split at h
    · rename_i h2
      split at h
      · rename_i h3; exact ⟨h1, h2, h3⟩
      · exact absurd h (by decide)
    · exact absurd h (by decide)
  · exact absurd h (by decide)
/-- the verdict h, pv, wv, x and the code that Satisfies returns -/
def SatOut (m : Syst) (s : Spc) (W : World) (B : Nat) (h : Bool) (pv wv : Value) (x code : Int) : Prop :=
  code = bothC m s ∧ ((bothC m s ≠ 0 ∧ h = false ∧ pv = .slice none 0 0 ∧ wv = .slice none 0 0 ∧ x = 0) ∨
    (bothC m s = 0 ∧ ∃ L, SatYes m s L ∧ h = true ∧ W.ownsRow B 96 2 pv L.length (pcells L) ∧ wv = .slice none 0 0 ∧ x = 0) ∨
    (bothC m s = 0 ∧ ∃ wd, ∃ y : Nat, SatNo m s wd y ∧ h = false ∧ pv = .slice none 0 0 ∧ NumO W B wv wd ∧ x = y))
section
variable {m : Syst} {s : Spc} {W W' : World} {B : Nat} {h : Bool} {pv wv : Value} {x code : Int}
theorem SatOut.up (H : SatOut m s W B h pv wv x code) (hb : Below W.heap.size W W') : SatOut m s W' B h pv wv x code := by
  obtain ⟨h0, h1 | ⟨h1, L, h2, h3, h4, h5⟩ | ⟨h1, wd, y, h2, h3, h4, h5, h6⟩⟩ := H
  · exact ⟨h0, .inl h1⟩
  · exact ⟨h0, .inr (.inl ⟨h1, L, h2, h3, own_up' h4 hb, h5⟩)⟩
  · exact ⟨h0, .inr (.inr ⟨h1, wd, y, h2, h3, h4, own_up' h5 hb, h6⟩)⟩
theorem SatOut.low (H : SatOut m s W B h pv wv x code) {B' : Nat} (hb : B' ≤ B) : SatOut m s W B' h pv wv x code := by
  obtain ⟨h0, h1 | ⟨h1, L, h2, h3, h4, h5⟩ | ⟨h1, wd, y, h2, h3, h4, h5, h6⟩⟩ := H
  · exact ⟨h0, .inl h1⟩
  · exact ⟨h0, .inr (.inl ⟨h1, L, h2, h3, own_low h4 hb, h5⟩)⟩
  · exact ⟨h0, .inr (.inr ⟨h1, wd, y, h2, h3, h4, own_low h5 hb, h6⟩)⟩
/-- .. behind a store into the verdict's own block -/
theorem SatOut.put (H : SatOut m s W B h pv wv x code) {g : Nat} {cs : Array Value} (hw : Whole W g 47 cs) (i : Nat) (u : Value) : SatOut m s (W.setCell ⟨g, i, none⟩ u) B h pv wv x code := by
  have hg := grown_self W ⟨g, i, none⟩ u
  obtain ⟨h0, h1 | ⟨h1, L, h2, h3, h4, h5⟩ | ⟨h1, wd, y, h2, h3, h4, h5, h6⟩⟩ := H
  · exact ⟨h0, .inl h1⟩
  · exact ⟨h0, .inr (.inl ⟨h1, L, h2, h3, h4.kept hg (.inr (own_whole h4 hw (by decide)).symm), h5⟩)⟩
  · exact ⟨h0, .inr (.inr ⟨h1, wd, y, h2, h3, h4, World.ownsRow.kept h5 hg (.inr (own_whole h5 hw (by decide)).symm), h6⟩)⟩
/-- .. behind the store of the whole verdict into its block -/
theorem SatOut.put4 (H : SatOut m s W B h pv wv x code) {g : Nat} {cs : Array Value} (hw : Whole W g 47 cs) (a b c d : Value) : SatOut m s ((((W.setCell ⟨g, 0, none⟩ a).setCell ⟨g, 1, none⟩ b).setCell ⟨g, 2, none⟩ c).setCell ⟨g, 3, none⟩ d) B h pv wv x code :=
  (((H.put hw 0 a).put (hw.set 0 a) 1 b).put ((hw.set 0 a).set 1 b) 2 c).put (((hw.set 0 a).set 1 b).set 2 c) 3 d
end
theorem Satisfies_any {w : World} {a : Option Addr} {n c : Nat} {b : Option Addr} {k d : Nat} {m : Syst} {a' : Option Addr} {n' c' : Nat} {b' : Option Addr} {k' d' : Nat} {s : Spc} {e0 e1 e2 : Addr} (E : Errs w e0 e1 e2) (A : SysArg w a n c b k d m) (A' : SpecArg w a' n' c' b' k' d' s) :
    Calls Tryz.prog 18 #[.agg #[.slice a n c, .slice b k d], .agg #[.slice a' n' c', .slice b' k' d']] w fun e w' => ∃ h pa pn pc wa wn wc x code, e = .returned (.tuple #[.agg #[.bool h, .slice pa pn pc, .slice wa wn wc, .int .i64 x], .int .i64 code]) ∧ SatOut m s w' w.heap.size h (.slice pa pn pc) (.slice wa wn wc) x code ∧ Below w.heap.size w w' := by
  by_cases hc : bothC m s = 0
  · obtain ⟨hm, hs, ha⟩ := bothC_zero hc
    refine (Satisfies_ok E A A' hm hs ha).mono ?_
    rintro e w' ⟨hb, ⟨L, v, hy, rfl, hv⟩ | ⟨wd, y, v, hn, rfl, hv⟩⟩
    · obtain ⟨pa, pc, rfl⟩ := own_slice' hv
      exact ⟨_, _, _, _, _, _, _, _, _, rfl, ⟨hc.symm, .inr (.inl ⟨hc, L, hy, rfl, hv, rfl, rfl⟩)⟩, hb⟩
    · obtain ⟨pa, pc, rfl⟩ := own_slice' hv
      exact ⟨_, _, _, _, _, _, _, _, _, rfl, ⟨hc.symm, .inr (.inr ⟨hc, wd, y, hn, rfl, rfl, hv, rfl⟩)⟩, hb⟩
  · refine (Satisfies_bad E A A' hc).mono ?_
    rintro e w' ⟨rfl, hb⟩
    exact ⟨_, _, _, _, _, _, _, _, _, rfl, ⟨rfl, .inl ⟨hc, rfl, rfl, rfl, rfl⟩⟩, hb⟩
/-! what the region of the call keeps: four cells -/
section
variable {W W' : World} {p1 p2 p3 p4 : Addr} {v1 v2 v3 v4 : Value}
theorem ms_up (hb : Below W.heap.size W W') (h : W.cell? p1 = some v1 ∧ W.cell? p2 = some v2 ∧ W.cell? p3 = some v3 ∧ W.cell? p4 = some v4) : W'.cell? p1 = some v1 ∧ W'.cell? p2 = some v2 ∧ W'.cell? p3 = some v3 ∧ W'.cell? p4 = some v4 :=
  ⟨up_cell hb h.1, up_cell hb h.2.1, up_cell hb h.2.2.1, up_cell hb h.2.2.2⟩
theorem ms_new (h : W.cell? p1 = some v1 ∧ W.cell? p2 = some v2 ∧ W.cell? p3 = some v3 ∧ W.cell? p4 = some v4) (o : Obj) : (W.alloc o).cell? p1 = some v1 ∧ (W.alloc o).cell? p2 = some v2 ∧ (W.alloc o).cell? p3 = some v3 ∧ (W.alloc o).cell? p4 = some v4 :=
  ⟨cell_new h.1 o, cell_new h.2.1 o, cell_new h.2.2.1 o, cell_new h.2.2.2 o⟩
theorem ms_dr (h : W.cell? p1 = some v1 ∧ W.cell? p2 = some v2 ∧ W.cell? p3 = some v3 ∧ W.cell? p4 = some v4) : W.drew.cell? p1 = some v1 ∧ W.drew.cell? p2 = some v2 ∧ W.drew.cell? p3 = some v3 ∧ W.drew.cell? p4 = some v4 := h
theorem ms_far (h : W.cell? p1 = some v1 ∧ W.cell? p2 = some v2 ∧ W.cell? p3 = some v3 ∧ W.cell? p4 = some v4) {g : Nat} (hg : g ≠ p1.block ∧ g ≠ p2.block ∧ g ≠ p3.block ∧ g ≠ p4.block) (x y z u : Value) :
    ((((W.setCell ⟨g, 0, none⟩ x).setCell ⟨g, 1, none⟩ y).setCell ⟨g, 2, none⟩ z).setCell ⟨g, 3, none⟩ u).cell? p1 = some v1 ∧ ((((W.setCell ⟨g, 0, none⟩ x).setCell ⟨g, 1, none⟩ y).setCell ⟨g, 2, none⟩ z).setCell ⟨g, 3, none⟩ u).cell? p2 = some v2 ∧ ((((W.setCell ⟨g, 0, none⟩ x).setCell ⟨g, 1, none⟩ y).setCell ⟨g, 2, none⟩ z).setCell ⟨g, 3, none⟩ u).cell? p3 = some v3 ∧ ((((W.setCell ⟨g, 0, none⟩ x).setCell ⟨g, 1, none⟩ y).setCell ⟨g, 2, none⟩ z).setCell ⟨g, 3, none⟩ u).cell? p4 = some v4 :=
  ⟨far4 h.1 hg.1 _ _ _ _, far4 h.2.1 hg.2.1 _ _ _ _, far4 h.2.2.1 hg.2.2.1 _ _ _ _, far4 h.2.2.2 hg.2.2.2 _ _ _ _⟩
theorem ms_ne (h : W.cell? p1 = some v1 ∧ W.cell? p2 = some v2 ∧ W.cell? p3 = some v3 ∧ W.cell? p4 = some v4) : W.heap.size ≠ p1.block ∧ W.heap.size ≠ p2.block ∧ W.heap.size ≠ p3.block ∧ W.heap.size ≠ p4.block :=
  ⟨World.new_ne W _ h.1, World.new_ne W _ h.2.1, World.new_ne W _ h.2.2.1, World.new_ne W _ h.2.2.2⟩
end
/-- what the reference says -/
def RefOut (m : Syst) (s : Spc) (W : World) (B : Nat) (pv : Value) (dp : Int) (ok : Bool) : Prop :=
  (bothC m s ≠ 0 ∧ pv = .slice none 0 0 ∧ dp = 0 ∧ ok = false) ∨
    (bothC m s = 0 ∧ ∃ L, SatYes m s L ∧ W.ownsRow B 96 2 pv L.length (pcells L) ∧ dp = 0 ∧ ok = true) ∨
    (bothC m s = 0 ∧ ∃ i d : Nat, FitsTo m s i ∧ i < (stQ m s i).1.length ∧ fitB m s (wtAt (stQ m s i).1 i).x (wtAt (stQ m s i).1 i).y = false ∧ lenQ (stQ m s i).1 i = d ∧ pv = .slice none 0 0 ∧ dp = d ∧ ok = false)
theorem satYes_once {m : Syst} {s : Spc} {L L' : List (Nat × Nat)} (h : SatYes m s L) (h' : SatYes m s L') : L = L' := by
  obtain ⟨i, h1, h2, rfl⟩ := h
  obtain ⟨j, h3, h4, rfl⟩ := h'
  obtain rfl := fit_once h1 h3 (.inl h2) (.inl h4)
  rfl
theorem satYes_no {m : Syst} {s : Spc} {L : List (Nat × Nat)} {wd : List Int} {x : Nat} (h : SatYes m s L) (h' : SatNo m s wd x) : False := by
  obtain ⟨i, h1, h2, _⟩ := h
  obtain ⟨j, h3, h4, h5, _⟩ := h'
  obtain rfl := fit_once h1 h3 (.inl h2) (.inr h5)
  omega
theorem satNo_len {m : Syst} {s : Spc} {wd : List Int} {x : Nat} (h' : SatNo m s wd x) {i d : Nat} (h1 : FitsTo m s i) (h2 : fitB m s (wtAt (stQ m s i).1 i).x (wtAt (stQ m s i).1 i).y = false) (h3 : lenQ (stQ m s i).1 i = d) : wd.length = d := by
  obtain ⟨j, g1, g2, g3, g4, _⟩ := h'
  obtain rfl := fit_once h1 g1 (.inr h2) (.inr g3)
  rw [g4, ← h3]
  rfl
theorem satNo_fault {m : Syst} {s : Spc} {wd : List Int} {x : Nat} (hm : sysB m = true) (hs : spcB s = true) (h : SatNo m s wd x) : faultB m s wd (x : Int) = true := by
  obtain ⟨i, h1, h2, h3, rfl, rfl⟩ := h
  exact fault_ok hm hs h1 h2 h3
theorem satNo_len' {m : Syst} {s : Spc} {L : List (Nat × Nat)} (h : SatYes m s L) {i : Nat} (h1 : FitsTo m s i) (hi : i < (stQ m s i).1.length) (h2 : fitB m s (wtAt (stQ m s i).1 i).x (wtAt (stQ m s i).1 i).y = false) : False := by
  obtain ⟨j, g1, g2, _⟩ := h
  obtain rfl := fit_once g1 h1 (.inl g2) (.inr h2)
  omega
end Go.Proofs.YtohljainhkdiiaaGreatDoor
